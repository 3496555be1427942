/- What '==' of two pairs answers, as an equation that a walk takes by itself. -/
import Derived.Test.YtpnfghchllipnabOwnP
import Derived.ChangeKeysEq
namespace Go.Proofs.Ytpnfghchllipnab
open Go.RowKit
theorem eq_pair (a b c d : Int) (w : World) : (Op.equalIn 10000 36 (.agg #[.int .u32 a, .int .u32 b]) (.agg #[.int .u32 c, .int .u32 d])).run Try.prog w = .ok (a == c && b == d) w := by
  have hi0 : (Try.prog.info? 22).map (fun i => (i.zero, i.size, i.bytes)) = some (some (.int .u32 0), 1, 4) := by kernel_rfl
  obtain ⟨i, hi, hz0, hz1, hz2⟩ := info_parts hi0
  have hce : Try.prog.cellsOf 22 = 1 := by kernel_rfl
  have hag : ∀ w, (isAgg 22).run Try.prog w = .ok false w := fun w => by kernel_rfl
  rw [show (10000 : Nat) = 9998 + 1 + 1 from rfl, run_equalIn_array w (9998 + 1) _ _ Try.underlying36 hi, hce]
  by_cases h : a = c <;> by_cases h2 : b = d <;> simp [Op.eqItems, part, hag, List.range, List.range.loop, run_equalIn_int, Try.underlying22, h, h2]
end Go.Proofs.Ytpnfghchllipnab
