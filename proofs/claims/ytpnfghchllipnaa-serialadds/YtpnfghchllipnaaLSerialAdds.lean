/- The walk of trunklinelaw03.SerialAdds: it answers true. -/
import Derived.Test.YtpnfghchllipnaaLive3
namespace Go.Proofs.Ytpnfghchllipnaa
open Go.RowKit
set_option maxHeartbeats 1000000 in
theorem walk_SerialAdds (b : Int) (a : Nat) (n : Int) (w : World) (_hb : (Lit.int .i64 b).wf = true) (ha : a < 4294967296) (_hn : (Lit.int .i64 n).wf = true) :
    Calls Try.prog 3 #[.int .i64 b, .int .u32 a, .int .i64 n] w fun e w' => e = .returned (.bool true) ∧ Below w.heap.size w w' := by
  have h1 := fun w => add_any b a n ha w
  have h2 := fun w => radd_any b a n ha w
  generalize addR b a n = r at *
  generalize chkE b [a] = q at *
  go_enter Try.func3, Try.ntmps3
  go_wp2_with fail
  refine (h1 _).mono ?_
  rintro e w1 ⟨rfl, hb1⟩
  go_wp2_with fail
  refine (h2 _).mono ?_
  rintro e w2 ⟨rfl, hb2⟩
  go_wp2_with fail
  refine (live_any _).mono ?_
  rintro e w3 ⟨rfl, hb3⟩
  go_wp2
  go_ret
  exact ⟨rfl, hb1.trans ((hb2.mono hb1.size).trans (hb3.mono (Nat.le_trans hb1.size hb2.size)))⟩
end Go.Proofs.Ytpnfghchllipnaa
