/- Plain mathematics of numbers that go round. Nothing of the program. -/
import Derived.Test.YtjaheelgcjafcaaBase
namespace Go.Proofs.Ytjaheelgcjafcaa
/-- M of so many bits. -/
def rnd (b : Int) : Nat := if b = 16 then 65536 else 4294967296
theorem rnd_two (b : Int) : rnd b = 65536 ∨ rnd b = 4294967296 := by unfold rnd; split <;> simp
theorem rnd_pos (b : Int) : 0 < rnd b := by have := rnd_two b; omega
theorem rnd_le (b : Int) : rnd b ≤ 4294967296 := by have := rnd_two b; omega
theorem rnd_16 : rnd 16 = 65536 := rfl
theorem rnd_32 : rnd 32 = 4294967296 := rfl
/-- The errors of all calls. -/
def chkE (b : Int) (zs : List Nat) : Nat := if ¬ (b = 16 ∨ b = 32) then 2 else if zs.all (fun z => decide (z < rnd b)) = true then 0 else 6
def mostR (b : Int) (zs : List Nat) : Nat := if chkE b zs = 0 then rnd b - 1 else 0
theorem chkE_bad (b : Int) (zs : List Nat) (h : ¬ (b = 16 ∨ b = 32)) : chkE b zs = 2 := by unfold chkE; rw [if_pos h]
theorem chkE_ok {b : Int} {zs : List Nat} (h : chkE b zs = 0) : (b = 16 ∨ b = 32) ∧ ∀ z ∈ zs, z < rnd b := by
  unfold chkE at h
  split at h
  · omega
  · split at h
    · rename_i h1 h2
      refine ⟨Classical.not_not.1 h1, fun z hz => ?_⟩
      have := List.all_eq_true.1 h2 z hz
      simpa using this
    · omega
theorem chkE_mk {b : Int} {zs : List Nat} (hb : b = 16 ∨ b = 32) (h : ∀ z ∈ zs, z < rnd b) : chkE b zs = 0 := by
  unfold chkE
  rw [if_neg (fun h => h hb), if_pos (List.all_eq_true.2 fun z hz => by simpa using h z hz)]
theorem chkE_lim {b : Int} {zs : List Nat} (hb : b = 16 ∨ b = 32) (z : Nat) (hz : z ∈ zs) (h : rnd b ≤ z) : chkE b zs = 6 := by
  unfold chkE
  rw [if_neg (fun h => h hb), if_neg]
  intro h2
  have := List.all_eq_true.1 h2 z hz
  simp at this
  omega
theorem chkE_cases (b : Int) (zs : List Nat) : chkE b zs = 0 ∨ chkE b zs = 2 ∨ chkE b zs = 6 := by
  unfold chkE; split
  · simp
  · split <;> simp
theorem chkE_cons (b : Int) (z : Nat) (zs : List Nat) : chkE b (z :: zs) = if chkE b [z] = 0 then chkE b zs else chkE b [z] := by
  unfold chkE
  by_cases hb : b = 16 ∨ b = 32
  · have h' : ¬ ¬ (b = 16 ∨ b = 32) := fun h => h hb
    simp only [if_neg h']
    by_cases hz : z < rnd b
    · simp [hz]
    · simp [hz]
  · simp [hb]
/-- How many steps up it is from a to b. -/
def upV (M a b : Nat) : Nat := (b + (M - a)) % M
def addV (M a : Nat) (n : Int) : Nat := (((a : Int) + n) % (M : Int)).toNat
def aheadV (M a b : Nat) : Int := if M ≤ 2 * upV M a b then (upV M a b : Int) - M else upV M a b
def addR (b : Int) (a : Nat) (n : Int) : Nat := if chkE b [a] = 0 then addV (rnd b) a n else 0
def aheadR (b : Int) (a x : Nat) : Int := if chkE b [a, x] = 0 then aheadV (rnd b) a x else 0
def lessR (b : Int) (a x : Nat) : Bool := decide (0 < aheadR b a x)
theorem upV_lt (M a b : Nat) (h : 0 < M) : upV M a b < M := Nat.mod_lt _ h
theorem addV_lt (M a : Nat) (n : Int) (h : 0 < M) : addV M a n < M := by
  unfold addV
  have h1 := Int.emod_nonneg ((a : Int) + n) (show (M : Int) ≠ 0 by omega)
  have h2 := Int.emod_lt_of_pos ((a : Int) + n) (show (0 : Int) < M by omega)
  omega
theorem addR_lt (b : Int) (a : Nat) (n : Int) : addR b a n < 4294967296 := by
  unfold addR
  have h1 := addV_lt (rnd b) a n (rnd_pos b)
  have h2 := rnd_le b
  split <;> omega
theorem and_most (b : Int) (x : Nat) (hx : x < 4294967296) : bits .and .u32 (x : Int) ((rnd b - 1 : Nat) : Int) = ((x % rnd b : Nat) : Int) := by
  rcases rnd_two b with h | h <;> rw [h]
  · exact and16 x hx
  · have := u32_and_nat x 4294967295 hx (by omega)
    rw [show x &&& 4294967295 = x % 4294967296 from Nat.and_two_pow_sub_one_eq_mod x 32] at this
    exact this
/-- What the code reckons: a sum modulo 2^32, cut by most. -/
theorem add_code (b : Int) (a : Nat) (n : Int) : bits .and .u32 (((a : Int) + n) % 4294967296) ((rnd b - 1 : Nat) : Int) = ((addV (rnd b) a n : Nat) : Int) := by
  obtain ⟨x, hx⟩ : ∃ x : Nat, ((a : Int) + n) % 4294967296 = (x : Int) := ⟨(((a : Int) + n) % 4294967296).toNat, by omega⟩
  rw [hx, and_most b x (by omega)]
  unfold addV
  rcases rnd_two b with h | h <;> rw [h] <;> omega
theorem up_code (b : Int) (x y : Nat) (hx : x < rnd b) : bits .and .u32 (((y : Int) - (x : Int)) % 4294967296) ((rnd b - 1 : Nat) : Int) = ((upV (rnd b) x y : Nat) : Int) := by
  obtain ⟨z, hz⟩ : ∃ z : Nat, ((y : Int) - (x : Int)) % 4294967296 = (z : Int) := ⟨(((y : Int) - (x : Int)) % 4294967296).toNat, by omega⟩
  rw [hz, and_most b z (by omega)]
  unfold upV
  rcases rnd_two b with h | h <;> rw [h] at hx ⊢ <;> omega
/-- The reference's rest. -/
def restV (M : Nat) (n : Int) : Nat := (n % (M : Int)).toNat
theorem add_ref (M a : Nat) (n : Int) (hM : 0 < M) : restV M ((a : Int) + restV M n) = addV M a n := by
  unfold restV addV
  have h1 := Int.emod_nonneg n (show (M : Int) ≠ 0 by omega)
  rw [Int.toNat_of_nonneg h1, Int.add_emod_emod]
theorem up_ref (M a b : Nat) (ha : a < M) : restV M ((b : Int) - a) = upV M a b := by
  unfold restV upV
  have e : ((b : Int) - a) % (M : Int) = ((b + (M - a) : Nat) : Int) % (M : Int) := by
    rw [show (((b + (M - a) : Nat)) : Int) = ((b : Int) - a) + M from by omega, Int.add_emod_right]
  rw [e]
  norm_cast
theorem ahead_32 (a b : Nat) (ha : a < 4294967296) (hb : b < 4294967296) : aheadR 32 a b = aheadV 4294967296 a b := by
  unfold aheadR
  rw [if_pos (chkE_mk (.inr rfl) (by simp [rnd_32]; omega))]
  rfl
theorem add_32 (a : Nat) (n : Int) (ha : a < 4294967296) : addR 32 a n = addV 4294967296 a n := by
  unfold addR
  rw [if_pos (chkE_mk (.inr rfl) (by simp [rnd_32]; omega))]
  rfl
end Go.Proofs.Ytjaheelgcjafcaa
