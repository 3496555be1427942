/- Plain mathematics: where the numbers begin plays no part. Nothing of the program. -/
import Derived.Test.YtlgpabdadnfbeaaGapX
namespace Go.Proofs.Ytlgpabdadnfbeaa
def shM (b a : Nat) : Nat := (a + b) % 4294967296
theorem shM_addV (b a : Nat) : shM b a = addV 4294967296 a (b : Int) := by unfold shM addV; omega
theorem aheadS_shift (b c t : Nat) (hc : c < 4294967296) : aheadV 4294967296 (shM b c) (shM b t) = aheadV 4294967296 c t := by
  unfold aheadV
  rw [shM_addV, shM_addV, upV_addV 4294967296 c t b hc]
theorem hasV_shift (b c t : Nat) (S : Nat → Bool) (hc : c < 4294967296) : hasV (shM b c) S (shM b t) = hasV c S t := by unfold hasV; rw [aheadS_shift b c t hc]
theorem addE_shift (b c t : Nat) (S : Nat → Bool) (hc : c < 4294967296) : addE (shM b c) S (shM b t) = addE c S t := by unfold addE; rw [hasV_shift b c t S hc, aheadS_shift b c t hc]
theorem addS_shift (b c t : Nat) (S : Nat → Bool) (hc : c < 4294967296) : addS (shM b c) S (shM b t) = addS c S t := by unfold addS; rw [addE_shift b c t S hc, aheadS_shift b c t hc]
theorem addC_shift (b c t : Nat) (S : Nat → Bool) (hc : c < 4294967296) : addC (shM b c) S (shM b t) = shM b (addC c S t) := by
  unfold addC
  rw [addE_shift b c t S hc, aheadS_shift b c t hc]
  split
  · unfold shM; omega
  · rfl
theorem addV_shift (b a : Nat) (n : Int) : addV 4294967296 (shM b a) n = shM b (addV 4294967296 a n) := by
  rw [shM_addV, shM_addV, addV_addV _ _ _ _ (by omega), addV_addV _ _ _ _ (by omega), Int.add_comm]
end Go.Proofs.Ytlgpabdadnfbeaa
