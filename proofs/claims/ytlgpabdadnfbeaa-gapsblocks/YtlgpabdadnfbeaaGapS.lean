/- Plain mathematics of a tracker: what a number does to it. Nothing of the program. -/
import Derived.Test.YtlgpabdadnfbeaaGapM
import Derived.Test.YtlgpabdadnfbeaaFitM
namespace Go.Proofs.Ytlgpabdadnfbeaa
/-- How far ahead a number is, if it is ahead, tells the number. -/
theorem ahead_pos (cum t : Nat) (hc : cum < 4294967296) (ht : t < 4294967296) (n : Nat) (h : aheadV 4294967296 cum t = (n : Int)) : t = (cum + n) % 4294967296 ∧ n < 2147483648 := by
  have h1 := upV_int 4294967296 cum t hc
  unfold aheadV at h
  generalize upV 4294967296 cum t = u at *
  split at h <;> omega
theorem ahead_of (cum n : Nat) (hc : cum < 4294967296) (hn : n < 2147483648) : aheadV 4294967296 cum ((cum + n) % 4294967296) = (n : Int) := by
  have h1 := upV_int 4294967296 cum ((cum + n) % 4294967296) hc
  unfold aheadV
  generalize upV 4294967296 cum ((cum + n) % 4294967296) = u at *
  split <;> omega
def hasV (cum : Nat) (S : Nat → Bool) (t : Nat) : Bool := decide (aheadV 4294967296 cum t ≤ 0) || (decide (aheadV 4294967296 cum t ≤ 256) && S (aheadV 4294967296 cum t).toNat)
def noteV (ds : List Nat) (t : Nat) : List Nat := if ds.length < 16 then ds ++ [t] else ds
/-- k steps on. -/
def onS (S : Nat → Bool) (k : Nat) : Nat → Bool := fun n => if n = 0 then false else S (n + k)
theorem onS_zero (S : Nat → Bool) (h : S 0 = false) : onS S 0 = S := by
  funext n; unfold onS; split
  · rename_i e; rw [e, h]
  · rfl
/-- How many there are one behind the other. -/
def leadN (S : Nat → Bool) : Nat → Nat
  | 0 => 0
  | f + 1 => if S 1 = true then leadN (fun n => S (n + 1)) f + 1 else 0
def lead (S : Nat → Bool) : Nat := leadN S 257
theorem leadN_of : ∀ (f k : Nat) (S : Nat → Bool), k < f → (∀ i, 1 ≤ i → i ≤ k → S i = true) → S (k + 1) = false → leadN S f = k := by
  intro f
  induction f with
  | zero => intro k S h; omega
  | succ f ih =>
    intro k S h h1 h2
    cases k with
    | zero =>
      show (if _ then _ else _) = _
      rw [if_neg (by rw [h2]; exact Bool.false_ne_true)]
    | succ k =>
      show (if _ then _ else _) = _
      rw [if_pos (h1 1 (by omega) (by omega)), ih k (fun n => S (n + 1)) (by omega) (fun i hi hk => h1 (i + 1) (by omega) (by omega)) h2]
theorem lead_of (S : Nat → Bool) (k : Nat) (hk : k ≤ 256) (h1 : ∀ i, 1 ≤ i → i ≤ k → S i = true) (h2 : S (k + 1) = false) : lead S = k := leadN_of 257 k S (by omega) h1 h2
def putS (S : Nat → Bool) (n : Nat) : Nat → Bool := fun m => S m || decide (m = n)
def addE (cum : Nat) (S : Nat → Bool) (t : Nat) : Nat := if hasV cum S t = true then 17 else if 256 < aheadV 4294967296 cum t then 10 else 0
def addC (cum : Nat) (S : Nat → Bool) (t : Nat) : Nat := if addE cum S t = 0 then (cum + lead (putS S (aheadV 4294967296 cum t).toNat)) % 4294967296 else cum
def addS (cum : Nat) (S : Nat → Bool) (t : Nat) : Nat → Bool := if addE cum S t = 0 then onS (putS S (aheadV 4294967296 cum t).toNat) (lead (putS S (aheadV 4294967296 cum t).toNat)) else S
def addD (cum : Nat) (S : Nat → Bool) (ds : List Nat) (t : Nat) : List Nat := if addE cum S t = 17 then noteV ds t else ds
end Go.Proofs.Ytlgpabdadnfbeaa
