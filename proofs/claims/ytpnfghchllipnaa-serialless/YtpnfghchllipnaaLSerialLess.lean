/- The walk of trunklinelaw03.SerialLess: it answers true. -/
import Derived.Test.YtpnfghchllipnaaLive3
namespace Go.Proofs.Ytpnfghchllipnaa
open Go.RowKit
set_option maxHeartbeats 1000000 in
theorem walk_SerialLess (b : Int) (x y : Nat) (w : World) (_hb : (Lit.int .i64 b).wf = true) (hx : x < 4294967296) (hy : y < 4294967296) :
    Calls Try.prog 4 #[.int .i64 b, .int .u32 x, .int .u32 y] w fun e w' => e = .returned (.bool true) ∧ Below w.heap.size w w' := by
  have h1 := fun w => ahead_any b x y hx hy w
  have h2 := fun w => rahead_any b x y hx hy w
  have h3 := fun w => less_any b x y hx hy w
  have h4 := fun w => rless_any b x y hx hy w
  generalize aheadR b x y = r at *
  generalize chkE b [x, y] = q at *
  generalize lessR b x y = l at *
  go_enter Try.func4, Try.ntmps4
  go_wp2_with fail
  refine (h1 _).mono ?_
  rintro e w1 ⟨rfl, hb1⟩
  go_wp2_with fail
  refine (h2 _).mono ?_
  rintro e w2 ⟨rfl, hb2⟩
  go_wp2_with fail
  refine (h3 _).mono ?_
  rintro e w3 ⟨rfl, hb3⟩
  go_wp2_with fail
  refine (h4 _).mono ?_
  rintro e w4 ⟨rfl, hb4⟩
  go_wp2_with fail
  refine (live_any _).mono ?_
  rintro e w5 ⟨rfl, hb5⟩
  have hbel : Below w.heap.size w w5 := hb1.trans ((hb2.mono hb1.size).trans ((hb3.mono (Nat.le_trans hb1.size hb2.size)).trans ((hb4.mono (Nat.le_trans hb1.size (Nat.le_trans hb2.size hb3.size))).trans (hb5.mono (Nat.le_trans hb1.size (Nat.le_trans hb2.size (Nat.le_trans hb3.size hb4.size)))))))
  clear hb1 hb2 hb3 hb4 hb5
  go_wp2
  go_ret
  exact ⟨rfl, hbel⟩
end Go.Proofs.Ytpnfghchllipnaa
