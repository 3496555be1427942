/- Whatever bytes and numbers: the walk of trunklinelaw02.SumsNet ends with true, and writes nothing that was there. -/
import Derived.Test.YthjjjdnhjedbpacLive
import Derived.Test.YthjjjdnhjedbpacSwap
namespace Go.Proofs.Ythjjjdnhjedbpac
open Go.RowKit
set_option maxHeartbeats 1000000 in
theorem walk_SumsNet (a : Option Addr) (n c : Nat) (zs : List Nat) (s o : Nat) (w : World) (hl0 : Sl w a n c zs ∧ c * 1 ≤ 140737488351232) (hs0 : s < 65536) (ho0 : o < 65536) :
    Calls Try.prog 6 #[.slice a n c, .int .u16 s, .int .u16 o] w fun e w' => e = .returned (.bool true) ∧ Below w.heap.size w w' := by
  obtain ⟨hl, _⟩ := hl0
  have hs : s ≤ 65535 := by omega
  have ho : o ≤ 65535 := by omega
  have HN := (show Hid _ from net_le zs)
  have h1 := not16 s (by omega)
  go_enter Try.func6, Try.ntmps6
  go_wp2_with fail
  refine (live_any _).mono ?_
  rintro e w1 ⟨rfl, hb1⟩
  go_wp2_with fail
  refine (net_any _ _ _ zs _ (hl.below hb1)).mono ?_
  rintro e w2 ⟨rfl, hb2⟩
  go_wp2_with fail
  refine (refnet_any _ _ _ zs _ ((hl.below hb1).below hb2)).mono ?_
  rintro e w3 ⟨rfl, rfl⟩
  go_wp2_with fail
  refine (swap_any _ _ _ _ hs ho (by omega)).mono ?_
  rintro e w4 ⟨rfl, rfl⟩
  go_wp2_with fail
  refine (refswap_any _ _ _ _ hs ho (by omega)).mono ?_
  rintro e w5 ⟨rfl, rfl⟩
  go_wp2_with fail
  rw [show ((s : Int) / 3) = ((s / 3 : Nat) : Int) from by omega]
  refine (swap_any _ _ _ _ hs ho (by omega)).mono ?_
  rintro e w6 ⟨rfl, rfl⟩
  go_wp2_with fail
  rw [show ((s : Int) / 3) = ((s / 3 : Nat) : Int) from by omega]
  refine (refswap_any _ _ _ _ hs ho (by omega)).mono ?_
  rintro e w7 ⟨rfl, rfl⟩
  go_wp2
  go_ret
  exact ⟨rfl, hb1.trans (hb2.mono hb1.size)⟩
end Go.Proofs.Ythjjjdnhjedbpac
