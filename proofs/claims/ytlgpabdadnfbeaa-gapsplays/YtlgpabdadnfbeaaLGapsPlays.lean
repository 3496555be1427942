/- The walk of trunklinelaw04.GapsPlays: it answers true. -/
import Derived.Test.YtlgpabdadnfbeaaGapR7
namespace Go.Proofs.Ytlgpabdadnfbeaa
open Go.RowKit
set_option maxHeartbeats 2000000 in
theorem walk_GapsPlays (f : Nat) (a : Option Addr) (n c : Nat) (bs : List Int) (qs : List Bool) (w : World) (hf : f < 4294967296) (hs : SlD w a n c bs qs) :
    Calls Try.prog 3 #[.int .u32 f, .slice a n c] w fun e w' => e = .returned (.bool true) ∧ Below w.heap.size w w' := by
  go_enter Try.func3, Try.ntmps3
  go_wp2_with fail
  refine (lplay_any f a n c bs qs w hf hs).mono ?_
  rintro e w1 ⟨px, py, rfl, dbx, fb, db, cum, S, ds, A, k, _, _, _, hb1⟩
  go_wp2_with fail
  refine (live4_any _).mono ?_
  rintro e w2 ⟨rfl, hb2⟩
  have hbel2 : Below w.heap.size w w2 := hb1.trans (hb2.mono hb1.size)
  clear hb1 hb2
  go_wp2
  go_ret
  exact ⟨rfl, hbel2⟩
end Go.Proofs.Ytlgpabdadnfbeaa
