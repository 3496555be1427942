/- Whatever number and script: the walk of law07.RingPlays ends with true. -/
import Derived.Test.YtmmbnikjlklflaaRgP
namespace Go.Proofs.Ytmmbnikjlklflaa
open Go.RowKit
set_option maxRecDepth 100000 in
set_option maxHeartbeats 2000000 in
theorem walk_RingPlays (N : Int) (a : Option Addr) (n c : Nat) (dd : List Dd) (w : World) (_hN : (Lit.int .i64 N).wf = true) (hl : SlG w a n c dd) :
    Calls Try.prog 3 #[.int .i64 N, .slice a n c] w fun e w' => e = .returned (.bool true) ∧ Below w.heap.size w w' := by
  go_enter Try.func3, Try.ntmps3
  by_cases h : 1 ≤ N ∧ N ≤ 64
  · obtain ⟨M, rfl⟩ := Int.eq_ofNat_of_zero_le (show 0 ≤ N by omega)
    go_wp2_with fail
    refine (play_any M a n c dd w (by omega) (by omega) hl _ rfl).mono ?_
    rintro e w1 ⟨⟨p, g, q, gv, gn, tk, d, rs, rfl, hB, _, _⟩, hb1⟩
    go_wp2_with fail
    refine (live7_any w1).mono ?_
    rintro e w2 ⟨rfl, hb2⟩
    go_wp2
    go_ret
    exact ⟨rfl, hb1.trans (hb2.mono hb1.size)⟩
  · go_wp2_with fail
    refine (play_no N a n c w (by omega)).mono ?_
    rintro e w1 ⟨rfl, hb1⟩
    go_wp2_with fail
    refine (live7_any w1).mono ?_
    rintro e w2 ⟨rfl, hb2⟩
    go_wp2
    go_ret
    exact ⟨rfl, hb1.trans (hb2.mono hb1.size)⟩
end Go.Proofs.Ytmmbnikjlklflaa
