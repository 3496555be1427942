/- Whatever mtu and script: the walk of law15.PathPlays ends with true. -/
import Derived.Test.YteobibinfckmdaaPtPlay
namespace Go.Proofs.Yteobibinfckmdaa
open Go.RowKit
set_option maxRecDepth 100000 in
set_option maxHeartbeats 2000000 in
theorem walk_PathPlays (m : Int) (a : Option Addr) (n c : Nat) (dd : List Pd) (w : World) (_hm : (Lit.int .i64 m).wf = true) (hl : SlP w a n c dd) :
    Calls Try.prog 3 #[.int .i64 m, .slice a n c] w fun e w' => e = .returned (.bool true) ∧ Below w.heap.size w w' := by
  go_enter Try.func3, Try.ntmps3
  by_cases h : 64 ≤ m ∧ m ≤ 1500
  · go_wp2_with fail
    refine (play_any m a n c dd w h.1 h.2 hl _ rfl).mono ?_
    rintro e w1 ⟨⟨p, q, s, t, rfl, hB⟩, hb1⟩
    go_wp2_with fail
    refine (live15_any w1).mono ?_
    rintro e w2 ⟨rfl, hb2⟩
    go_wp2
    go_ret
    exact ⟨rfl, hb1.trans (hb2.mono hb1.size)⟩
  · go_wp2_with fail
    refine (play_no m a n c w (by omega)).mono ?_
    rintro e w1 ⟨rfl, hb1⟩
    go_wp2_with fail
    refine (live15_any w1).mono ?_
    rintro e w2 ⟨rfl, hb2⟩
    go_wp2
    go_ret
    exact ⟨rfl, hb1.trans (hb2.mono hb1.size)⟩
end Go.Proofs.Yteobibinfckmdaa
