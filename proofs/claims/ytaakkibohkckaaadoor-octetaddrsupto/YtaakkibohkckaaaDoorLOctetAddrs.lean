/- Whatever text (of at most 1048576 bytes) and address: the walk of trunklinelaw01.OctetAddrs ends with true, and writes nothing that was there. -/
import Derived.Test.YtaakkibohkckaaaDoorLiveO
import Derived.Test.YtaakkibohkckaaaDoorRefAddr
import Derived.Test.YtaakkibohkckaaaDoorRefText
namespace Go.Proofs.YtaakkibohkckaaaDoor
open Go.RowKit
set_option maxHeartbeats 1000000 in
theorem walk_OctetAddrs (s : ByteArray) (a : Nat) (w : World) (hs : s.size ≤ 1048576) (ha : a < 4294967296) (hL : Lib.Utf8Tabs 0 1 w ∧ Lib.TabIs Tryd.prog w "internal/strconv.uint64pow10" .u64 Lib.pow10Tab) :
    Calls Tryd.prog 4 #[.string s, .int .u32 (a : Nat)] w fun e w' => e = .returned (.bool true) ∧ Below w.heap.size w w' := by
  obtain ⟨hT, htab⟩ := hL
  go_enter Tryd.func4, Tryd.ntmps4
  go_wp2_with fail
  refine (addr_any s _ (by omega)).mono ?_
  rintro e w1 ⟨rfl, hb1⟩
  go_wp2_with fail
  refine (refaddr_any s _ (tabs_below hT hb1) hs).mono ?_
  rintro e w2 ⟨rfl, hb2⟩
  have hb02 := hb1.trans (hb2.mono hb1.size)
  clear hb1 hb2
  generalize (adOf s).1 = y at *
  generalize (adOf s).2.1 = p at *
  generalize (adOf s).2.2 = f at *
  go_wp2_with fail
  refine (live_any _).mono ?_
  rintro e w3 ⟨rfl, hb3⟩
  have hb03 := hb02.trans (hb3.mono hb02.size)
  have htab3 : Lib.TabIs Tryd.prog w3 "internal/strconv.uint64pow10" .u64 Lib.pow10Tab := Joins.var_stays pow_at htab hb03 (Nat.le_refl _)
  clear hb3
  go_wp2_with fail
  refine (text_any a _ ha htab3).mono ?_
  rintro e w4 ⟨rfl, hb4⟩
  have hb04 := hb03.trans (hb4.mono hb03.size)
  go_wp2_with fail
  refine (reftext_any a ha _).mono ?_
  rintro e w5 ⟨rfl, hb5⟩
  have hb05 := hb04.trans (hb5.mono hb04.size)
  clear hb4 hb5 hb04 hb03 hb02
  generalize adStr a = t at *
  go_wp2
  go_ret
  exact ⟨rfl, hb05⟩
end Go.Proofs.YtaakkibohkckaaaDoor
