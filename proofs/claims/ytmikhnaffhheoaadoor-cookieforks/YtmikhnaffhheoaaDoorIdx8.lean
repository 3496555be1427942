/- An array of eight words as a value: the word at a place. -/
import Derived.Test.YtmikhnaffhheoaaDoorSpread
import Derived.Test.YtmikhnaffhheoaaDoorOwnU
import Derived.Laws.PanicsMore
namespace Go.Proofs.YtmikhnaffhheoaaDoor
open Go.RowKit
theorem size44 (w : World) : (sizeOf 37).run Tryd.prog w = .ok 1 w := by
  obtain ⟨i, hi, hz0, hz1, hz2⟩ := info_parts own_infoU
  rw [run_sizeOf w hi]
  simp [Program.cellsOf, hi, hz1]
theorem idx8 (r0 r1 r2 r3 r4 r5 r6 r7 : Nat) (j : Nat) (hj : j < 8) (w : World) :
    (Instr.index 101 (.agg #[.int .u32 r0, .int .u32 r1, .int .u32 r2, .int .u32 r3, .int .u32 r4, .int .u32 r5, .int .u32 r6, .int .u32 r7]) (.int .i64 (j : Int))).run Tryd.prog w = .ok (.int .u32 (([r0, r1, r2, r3, r4, r5, r6, r7] : List Nat).getD j 0 : Nat)) w := by
  have h1 : (0 : Int) ≤ (j : Int) ∧ (j : Int) < ((8 : Nat) : Int) := by omega
  simp only [Instr.index, asIntOf, Sem.run_bind, Sem.run_pure, Result.andThen_ok, run_underlying Tryd.underlying101]
  rw [if_pos h1]
  simp only [Sem.run_bind, size44, Result.andThen_ok, part, isAgg, run_underlying Tryd.underlying37, Sem.run_pure, Int.toNat_natCast, Nat.mul_one]
  rcases j with _ | _ | _ | _ | _ | _ | _ | _ | j
  all_goals first | rfl | omega
theorem get8 (R : List Nat) (j : Nat) (hj : j < 8) : ([R.getD 0 0, R.getD 1 0, R.getD 2 0, R.getD 3 0, R.getD 4 0, R.getD 5 0, R.getD 6 0, R.getD 7 0] : List Nat).getD j 0 = R.getD j 0 := by
  rcases j with _ | _ | _ | _ | _ | _ | _ | _ | j
  all_goals first | rfl | omega
end Go.Proofs.YtmikhnaffhheoaaDoor
