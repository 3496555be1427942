/- Whatever bytes: the walk of trunklinelaw02.SumsCrc ends with true, and writes nothing that was there. -/
import Derived.Test.YthjjjdnhjedbpabLive
import Derived.Test.YthjjjdnhjedbpabRefCrc
namespace Go.Proofs.Ythjjjdnhjedbpab
open Go.RowKit
set_option maxHeartbeats 1000000 in
theorem walk_SumsCrc (a : Option Addr) (n c : Nat) (zs : List Nat) (w : World) (hl0 : Sl w a n c zs ∧ c * 1 ≤ 140737488351232) :
    Calls Try.prog 5 #[.slice a n c] w fun e w' => e = .returned (.bool true) ∧ Below w.heap.size w w' := by
  obtain ⟨hl, _⟩ := hl0
  go_enter Try.func5, Try.ntmps5
  go_wp2_with fail
  refine (live_any _).mono ?_
  rintro e w1 ⟨rfl, hb1⟩
  go_wp2_with fail
  refine (crc_any _ _ _ zs _ (hl.below hb1)).mono ?_
  rintro e w2 ⟨rfl, rfl⟩
  go_wp2_with fail
  refine (refcrc_any _ _ _ zs _ (hl.below hb1)).mono ?_
  rintro e w3 ⟨rfl, hb3⟩
  go_wp2
  go_ret
  exact ⟨rfl, hb1.trans (hb3.mono hb1.size)⟩
end Go.Proofs.Ythjjjdnhjedbpab
