/- What Less of package serial answers. -/
import Derived.Test.YtjaheelgcjafcaaSer1
namespace Go.Proofs.Ytjaheelgcjafcaa
open Go.RowKit
set_option maxHeartbeats 400000 in
theorem less_any (b : Int) (x y : Nat) (hx : x < 4294967296) (hy : y < 4294967296) (w : World) :
    Calls Try.prog 60 #[.int .i64 b, .int .u32 x, .int .u32 y] w fun e w' => e = .returned (.tuple #[.bool (lessR b x y), .int .i64 (chkE b [x, y] : Nat)]) ∧ Below w.heap.size w w' := by
  have ha := fun w => ahead_any b x y hx hy w
  have HL : Hid (lessR b x y = decide (0 < aheadR b x y)) := rfl
  generalize aheadR b x y = r at *
  go_enter Try.func60, Try.ntmps60
  go_wp2_with (go_at_call 70; refine (ha _).mono ?_; rintro e w' ⟨rfl, hb⟩)
  go_ret2
  exact ⟨by rw [HL.out]; rfl, hb⟩
end Go.Proofs.Ytjaheelgcjafcaa
