/- Plain mathematics: steps, shifts, and which of two is less. Nothing of the program. -/
import Derived.Test.YtlgpabdadnfbeaaSerM
namespace Go.Proofs.Ytlgpabdadnfbeaa
theorem upV_int (M a b : Nat) (ha : a < M) : (upV M a b : Int) = ((b : Int) - a) % (M : Int) := by
  have h := up_ref M a b ha
  unfold restV at h
  have h1 := Int.emod_nonneg ((b : Int) - a) (show (M : Int) ≠ 0 by omega)
  omega
theorem addV_int (M a : Nat) (n : Int) (hM : 0 < M) : (addV M a n : Int) = ((a : Int) + n) % (M : Int) := by
  unfold addV
  have h1 := Int.emod_nonneg ((a : Int) + n) (show (M : Int) ≠ 0 by omega)
  omega
theorem addV_addV (M a : Nat) (n m : Int) (hM : 0 < M) : addV M (addV M a n) m = addV M a (n + m) := by
  have h1 := addV_int M (addV M a n) m hM
  have h2 := addV_int M a (n + m) hM
  rw [addV_int M a n hM, Int.emod_add_emod, Int.add_assoc] at h1
  omega
theorem upV_addV (M a b : Nat) (n : Int) (ha : a < M) : upV M (addV M a n) (addV M b n) = upV M a b := by
  have hM : 0 < M := by omega
  have h1 := upV_int M (addV M a n) (addV M b n) (addV_lt M a n hM)
  have h2 := upV_int M a b ha
  rw [addV_int M a n hM, addV_int M b n hM, ← Int.sub_emod, show (b : Int) + n - (a + n) = b - a from by omega] at h1
  omega
theorem upV_step (M a : Nat) (n : Int) (ha : a < M) : (upV M a (addV M a n) : Int) = n % (M : Int) := by
  have hM : 0 < M := by omega
  rw [upV_int M a _ ha, addV_int M a n hM, Int.emod_sub_emod, show (a : Int) + n - a = n from by omega]
theorem ahead_step32 (a : Nat) (n : Int) (ha : a < 4294967296) (h1 : -2147483648 ≤ n) (h2 : n < 2147483648) : aheadV 4294967296 a (addV 4294967296 a n) = n := by
  have h := upV_step 4294967296 a n ha
  unfold aheadV
  generalize upV 4294967296 a (addV 4294967296 a n) = u at *
  split <;> omega
theorem ahead_step16 (a : Nat) (n : Int) (ha : a < 65536) : aheadV 65536 a (addV 65536 a n) = (n + 32768) % 65536 - 32768 := by
  have h := upV_step 65536 a n ha
  unfold aheadV
  generalize upV 65536 a (addV 65536 a n) = u at *
  split <;> omega
theorem ahead_shift (M a b : Nat) (n : Int) (ha : a < M) : aheadV M (addV M a n) (addV M b n) = aheadV M a b := by
  unfold aheadV; rw [upV_addV M a b n ha]
theorem less_one (M a b : Nat) (hM : M = 65536 ∨ M = 4294967296) (ha : a < M) (hb : b < M) :
    ¬ (0 < aheadV M a b ∧ 0 < aheadV M b a) ∧ ((0 < aheadV M a b ∨ 0 < aheadV M b a) ↔ (a ≠ b ∧ b ≠ addV M a ((M / 2 : Nat) : Int))) := by
  have h1 := upV_int M a b ha
  have h2 := upV_int M b a hb
  have h3 := addV_int M a ((M / 2 : Nat) : Int) (by omega)
  unfold aheadV
  generalize upV M a b = u at *
  generalize upV M b a = v at *
  generalize addV M a ((M / 2 : Nat) : Int) = h at *
  rcases hM with rfl | rfl
  · constructor
    · split <;> split <;> omega
    · split <;> split <;> omega
  · constructor
    · split <;> split <;> omega
    · split <;> split <;> omega
end Go.Proofs.Ytlgpabdadnfbeaa
