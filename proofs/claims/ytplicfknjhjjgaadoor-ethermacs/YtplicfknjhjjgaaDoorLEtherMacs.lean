/- Whatever number, and text (of at most 1048576 bytes): the walk of law08.EtherMacs ends with true. -/
import Derived.Test.YtplicfknjhjjgaaDoorEtRMac
import Derived.Test.YtplicfknjhjjgaaDoorEtRMt
import Derived.Test.YtplicfknjhjjgaaDoorEtLive
namespace Go.Proofs.YtplicfknjhjjgaaDoor
open Go.RowKit
set_option maxRecDepth 100000 in
set_option maxHeartbeats 1000000 in
theorem macText_noM (m : Nat) (w : World) (h1 : 281474976710656 ≤ m) (h2 : m < 18446744073709551616) :
    Calls Tryd.prog 4 #[.int .u64 (m : Nat)] w fun e w' => e = .returned (.tuple #[.string ⟨#[]⟩, .int .i64 2]) ∧ Below w.heap.size w w' := by
  have hby := bytes_any m 6 w h2
  obtain ⟨E, hE⟩ : ∃ E, E = bytesE m 6 := ⟨_, rfl⟩
  have hEn : ¬ E = 0 := by
    rw [hE]
    unfold bytesE
    rw [if_neg (by omega), if_neg (by show ¬ m / 256 ^ 6 = 0; intro e; have := Nat.div_add_mod m (256 ^ 6); have := Nat.mod_lt m (show 256 ^ 6 > 0 by decide); omega)]
    omega
  rw [← hE] at hby
  have hEi : ((E : Int) != 0) = true := by simp; omega
  clear hE hEn h1 h2
  go_enter Tryd.func4, Tryd.ntmps4
  go_wp2_with fail
  refine hby.mono ?_
  rintro e w1 ⟨ad, cd, rfl, hod, hb1⟩
  go_wp2
  go_ret2
  exact ⟨rfl, hb1⟩
set_option maxHeartbeats 1000000 in
theorem walk_EtherMacs (m : Nat) (s : ByteArray) (w : World) (hm : m < 18446744073709551616) (hs : s.size ≤ 1048576) (hT : Lib.Utf8Tabs 0 1 w) :
    Calls Tryd.prog 3 #[.int .u64 (m : Nat), .string s] w fun e w' => e = .returned (.bool true) ∧ Below w.heap.size w w' := by
  have HX : Hid (∃ (t : ByteArray) (E : Nat), (∀ W, Calls Tryd.prog 4 #[.int .u64 (m : Nat)] W fun e w' => e = .returned (.tuple #[.string t, .int .i64 (E : Nat)]) ∧ Below W.heap.size W w') ∧ ∀ W, Calls Tryd.prog 5 #[.int .u64 (m : Nat)] W fun e w' => e = .returned (.tuple #[.string t, .int .i64 (E : Nat)]) ∧ Below W.heap.size W w') := by
    by_cases h : m < 281474976710656
    · exact ⟨macS m, 0, fun W => macText_ok m W h, fun W => rmacText_ok m W h⟩
    · exact ⟨⟨#[]⟩, 2, fun W => macText_noM m W (by omega) hm, fun W => rmacText_no m W (by omega)⟩
  obtain ⟨t, E, h1, h2⟩ := HX.out
  clear HX hm
  go_enter Tryd.func3, Tryd.ntmps3
  go_wp2_with fail
  refine (h1 _).mono ?_
  rintro e w1 ⟨rfl, b1⟩
  go_wp2_with fail
  refine (h2 _).mono ?_
  rintro e w2 ⟨rfl, b2⟩
  have b02 := b1.trans (b2.mono b1.size)
  clear b1 b2 h1 h2
  go_wp2_with fail
  refine (mac_any s _).mono ?_
  rintro e w3 ⟨rfl, b3⟩
  have b03 := b02.trans (b3.mono b02.size)
  clear b02 b3
  go_wp2_with fail
  refine (rmac_any s _ (by omega) (tabs_below hT b03)).mono ?_
  rintro e w4 ⟨rfl, b4⟩
  have b04 := b03.trans (b4.mono b03.size)
  clear b03 b4 hT
  generalize (mcOf s).1 = y at *
  generalize (mcOf s).2.1 = p at *
  generalize (mcOf s).2.2 = f at *
  go_wp2_with fail
  refine (live8_any _).mono ?_
  rintro e w5 ⟨rfl, b5⟩
  have b05 := b04.trans (b5.mono b04.size)
  clear b04 b5
  go_wp2
  go_ret
  exact ⟨rfl, b05⟩
end Go.Proofs.YtplicfknjhjjgaaDoor
