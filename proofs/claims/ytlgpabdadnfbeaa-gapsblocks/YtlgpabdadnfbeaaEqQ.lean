/- What '==' of two pairs answers, as an equation that a walk takes by itself. -/
import Derived.Test.YtlgpabdadnfbeaaOwnQ
import Derived.ChangeKeysEq
namespace Go.Proofs.Ytlgpabdadnfbeaa
open Go.RowKit
theorem eq_pairQ (a b c d : Int) (w : World) : (Op.equalIn 10000 33 (.agg #[.int .u16 a, .int .u16 b]) (.agg #[.int .u16 c, .int .u16 d])).run Try.prog w = .ok (a == c && b == d) w := by
  have hi0 : (Try.prog.info? 32).map (fun i => (i.zero, i.size, i.bytes)) = some (some (.int .u16 0), 1, 2) := by kernel_rfl
  obtain ⟨i, hi, hz0, hz1, hz2⟩ := info_parts hi0
  have hce : Try.prog.cellsOf 32 = 1 := by kernel_rfl
  have hag : ∀ w, (isAgg 32).run Try.prog w = .ok false w := fun w => by kernel_rfl
  rw [show (10000 : Nat) = 9998 + 1 + 1 from rfl, run_equalIn_array w (9998 + 1) _ _ Try.underlying33 hi, hce]
  by_cases h : a = c <;> by_cases h2 : b = d <;> simp [Op.eqItems, part, hag, List.range, List.range.loop, run_equalIn_int, Try.underlying32, h, h2]
end Go.Proofs.Ytlgpabdadnfbeaa
