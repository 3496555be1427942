/- The Internet's sum of parts, packets' bytes: mathematics. -/
import Derived.Test.YtnbagloifbllbaaBnM
namespace Go.Proofs.Ytnbagloifbllbaa
open Go.RowKit
theorem wt_even (a k : Nat) (h : a % 2 = 0) : wt (a + k) = wt k := by
  unfold wt
  have : (a + k) % 2 = k % 2 := by omega
  rw [this]
theorem tot_app (A : List Nat) (h : A.length % 2 = 0) : ∀ B : List Nat, totTo (A ++ B) (A.length + B.length) = totTo A A.length + totTo B B.length := by
  refine snoc_ind ?_ ?_
  · simp [totTo]
  · intro l x ih
    have e : totTo (A ++ (l ++ [x])) (A.length + (l ++ [x]).length) = totTo ((A ++ l) ++ [x]) ((A ++ l).length + 1) := by
      rw [List.append_assoc, List.length_append, List.length_append]; rfl
    have e2 : totTo (l ++ [x]) (l ++ [x]).length = totTo l l.length + x * wt l.length := by
      rw [List.length_append]; exact totTo_snoc l x
    rw [e, totTo_snoc, List.length_append, ih, e2, wt_even _ _ h, Nat.add_assoc]
theorem tot_two (x y : Nat) : totTo [x, y] 2 = x * 256 + y := by
  simp [totTo, wt]
theorem tot_mid (A : List Nat) (h : A.length % 2 = 0) (x y : Nat) (R : List Nat) : totTo (A ++ ([x, y] ++ R)) (A ++ ([x, y] ++ R)).length = totTo A A.length + totTo R R.length + (x * 256 + y) := by
  rw [List.length_append, tot_app A h, List.length_append, tot_app [x, y] (by simp), show ([x, y] : List Nat).length = 2 by simp, tot_two]
  omega
theorem net_mid (A : List Nat) (h : A.length % 2 = 0) (R : List Nat) : net (A ++ ([0, 0] ++ R)) = net (A ++ R) := by
  unfold net
  rw [tot_mid A h, List.length_append, tot_app A h]
  simp
theorem bytesB_two (s : Nat) : bytesB s 2 = [s / 256 % 256, s % 256] := by simp [bytesB]
theorem ar_own (T : Nat) : ar (T + (65535 - ar T)) = 65535 := by
  have h := ar_le T
  unfold ar at h ⊢
  split at h
  · rename_i e
    subst e
    simp
  · rename_i e
    rw [if_neg e, if_neg (by omega)]
    omega
theorem net_stamp (A : List Nat) (h : A.length % 2 = 0) (R : List Nat) : net (A ++ (bytesB (net (A ++ ([0, 0] ++ R))) 2 ++ R)) = 0 := by
  have hs := net_le (A ++ ([0, 0] ++ R))
  have e : net (A ++ ([0, 0] ++ R)) = 65535 - ar (totTo A A.length + totTo R R.length) := by
    unfold net
    rw [tot_mid A h]
    simp
  generalize net (A ++ ([0, 0] ++ R)) = s at *
  rw [bytesB_two]
  unfold net
  rw [tot_mid A h, show s / 256 % 256 * 256 + s % 256 = s by omega, e, ar_own]
/-- What mayBe answers. -/
def mbE (mo : Bool) (of : Int) (n : Nat) : Nat := if of < 0 ∨ 65528 < of ∨ of % 8 ≠ 0 ∨ (mo = true ∧ n % 8 ≠ 0) then 2 else if 65515 < of + n then 6 else 0
def flV (dn mo : Bool) (o : Nat) : Nat := o / 8 + (if dn = true then 16384 else 0) + (if mo = true then 8192 else 0)
theorem flV_lt (dn mo : Bool) (o : Nat) (h : o ≤ 65528) : flV dn mo o < 32768 := by
  unfold flV
  split <;> split <;> omega
def ipA (n id fl tt pr : Nat) : List Nat := (((((([] ++ bytesB 69 1) ++ bytesB 0 1) ++ bytesB (20 + n) 2) ++ bytesB id 2) ++ bytesB fl 2) ++ bytesB tt 1) ++ bytesB pr 1
def ipR (sr ds : Nat) : List Nat := bytesB sr 4 ++ bytesB ds 4
theorem ipA_len (n id fl tt pr : Nat) : (ipA n id fl tt pr).length = 10 := by simp [ipA, bytesB_len]
theorem ipR_len (sr ds : Nat) : (ipR sr ds).length = 8 := by simp [ipR, bytesB_len]
def ipHd (sr ds pr tt id : Nat) (fl n : Nat) : List Nat := ipA n id fl tt pr ++ (bytesB (net (ipA n id fl tt pr ++ ([0, 0] ++ ipR sr ds))) 2 ++ ipR sr ds)
theorem ipHd_len (sr ds pr tt id fl n : Nat) : (ipHd sr ds pr tt id fl n).length = 20 := by simp [ipHd, ipA_len, ipR_len, bytesB_len]
def ipV (sr ds pr tt id : Nat) (dn mo : Bool) (of : Int) (zs : List Nat) : List Nat := if mbE mo of zs.length = 0 then ipHd sr ds pr tt id (flV dn mo of.toNat) zs.length ++ zs else []
theorem mbE_ok {mo : Bool} {of : Int} {n : Nat} (h : mbE mo of n = 0) : 0 ≤ of ∧ of ≤ 65528 ∧ of % 8 = 0 ∧ (mo = true → n % 8 = 0) ∧ of + n ≤ 65515 := by
  unfold mbE at h
  split at h
  · cases h
  · rename_i h1
    split at h
    · cases h
    · rename_i h2
      refine ⟨by omega, by omega, by omega, fun hm => ?_, by omega⟩
      cases Nat.decEq (n % 8) 0 with
      | isTrue e => exact e
      | isFalse e => exact absurd (.inr (.inr (.inr ⟨hm, e⟩))) h1
theorem bytesB_bnd (v k : Nat) : ∀ i, (bytesB v k).getD i 0 < 256 := by
  have : ∀ x ∈ bytesB v k, x < 256 := by
    induction k with
    | zero => intro x hx; cases hx
    | succ k ih =>
      intro x hx
      rcases List.mem_cons.1 hx with h | h
      · rw [h]; exact Nat.mod_lt _ (by omega)
      · exact ih x h
  intro i
  rw [List.getD_eq_getElem?_getD]
  cases h : (bytesB v k)[i]? with
  | none => simp
  | some x => exact this x (List.mem_of_getElem? h)
end Go.Proofs.Ytnbagloifbllbaa
