/- Whatever address and text: the walk of trunklinelaw01.OctetAddrBack ends with true, and writes nothing that was there. -/
import Derived.Test.YtaakkibohkckaaaDoorLiveO
import Derived.Test.YtaakkibohkckaaaDoorText
namespace Go.Proofs.YtaakkibohkckaaaDoor
open Go.RowKit
set_option maxHeartbeats 1000000 in
theorem walk_OctetAddrBack (a : Nat) (s : ByteArray) (w : World) (ha : a < 4294967296) (hs : s.size ≤ 281474976710656) (htab : Lib.TabIs Tryd.prog w "internal/strconv.uint64pow10" .u64 Lib.pow10Tab) :
    Calls Tryd.prog 5 #[.int .u32 (a : Nat), .string s] w fun e w' => e = .returned (.bool true) ∧ Below w.heap.size w w' := by
  have hz := adStr_size a
  have HB := (show Hid _ from adOf_back s)
  go_enter Tryd.func5, Tryd.ntmps5
  go_wp2_with fail
  refine (text_any a _ ha htab).mono ?_
  rintro e w1 ⟨rfl, hb1⟩
  go_wp2_with fail
  refine (addr_any (adStr a) _ (by omega)).mono ?_
  rintro e w2 ⟨rfl, hb2⟩
  rw [adOf_adStr a ha]
  have hb02 := hb1.trans (hb2.mono hb1.size)
  clear hb1 hb2
  go_wp2_with fail
  refine (addr_any s _ hs).mono ?_
  rintro e w3 ⟨rfl, hb3⟩
  have hb03 := hb02.trans (hb3.mono hb02.size)
  clear hb02 hb3
  by_cases hf : (adOf s).2.2 = 0
  · obtain ⟨e1, e2⟩ := HB.out hf
    have HE := (show Hid _ from e1)
    rw [hf]
    clear HB hf e1
    generalize (adOf s).1 = y at *
    generalize (adOf s).2.1 = q at *
    have htab3 : Lib.TabIs Tryd.prog w3 "internal/strconv.uint64pow10" .u64 Lib.pow10Tab := Joins.var_stays pow_at htab hb03 (Nat.le_refl _)
    go_wp2_with fail
    refine (live_any _).mono ?_
    rintro e w4 ⟨rfl, hb4⟩
    have hb04 := hb03.trans (hb4.mono hb03.size)
    have htab4 : Lib.TabIs Tryd.prog w4 "internal/strconv.uint64pow10" .u64 Lib.pow10Tab := Joins.var_stays pow_at htab3 hb4 (Nat.le_refl _)
    go_wp2_with fail
    refine (text_any y _ e2 htab4).mono ?_
    rintro e w5 ⟨rfl, hb5⟩
    rw [← HE.out]
    go_wp2
    go_ret
    exact ⟨rfl, hb04.trans (hb5.mono hb04.size)⟩
  · have hf' : (((adOf s).2.2 : Nat) : Int) ≠ 0 := by omega
    have hf2 : ((((adOf s).2.2 : Nat) : Int) == 0) = false := by simp; omega
    generalize (adOf s).1 = y at *
    generalize (adOf s).2.1 = q at *
    generalize (adOf s).2.2 = f at *
    clear HB hf
    go_wp2_with fail
    refine (live_any _).mono ?_
    rintro e w4 ⟨rfl, hb4⟩
    go_wp2
    go_ret
    exact ⟨rfl, hb03.trans (hb4.mono hb03.size)⟩
end Go.Proofs.YtaakkibohkckaaaDoor
