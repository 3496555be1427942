/- What ref08.MacText answers. -/
import Derived.Test.YtplicfknjhjjgaaDoorEtMac
import Derived.Test.YtplicfknjhjjgaaDoorRefHexE
namespace Go.Proofs.YtplicfknjhjjgaaDoor
open Go.RowKit
theorem cardM_any (m : Nat) (w : World) : Calls Tryd.prog 12 #[.int .u64 (m : Nat)] w fun e w' => e = .returned (.bool (decide (m < 281474976710656))) ∧ w' = w := by
  by_cases h : m < 281474976710656
  · have h1 : (m : Int) < 281474976710656 := by omega
    have HD : Hid (decide (m < 281474976710656) = true) := by show _ = _; exact decide_eq_true h
    clear h
    go_enter Tryd.func12, Tryd.ntmps12
    go_wp2
    go_ret
    exact ⟨by rw [HD.out]; first | rfl | simp, rfl⟩
  · have h1 : ¬ (m : Int) < 281474976710656 := by omega
    have HD : Hid (decide (m < 281474976710656) = false) := by show _ = _; exact decide_eq_false h
    clear h
    go_enter Tryd.func12, Tryd.ntmps12
    go_wp2
    go_ret
    exact ⟨by rw [HD.out]; first | rfl | simp, rfl⟩
/-- The text of the first bytes. -/
def mpS (m : Nat) : Nat → ByteArray
  | 0 => ⟨#[]⟩
  | 1 => (⟨#[]⟩ : ByteArray) ++ hx2 (m / 256 ^ 5 % 256)
  | j + 2 => mpS m (j + 1) ++ (⟨#[58]⟩ : ByteArray) ++ hx2 (m / 256 ^ (4 - j) % 256)
theorem hx2_size (x : Nat) : (hx2 x).size = 2 := by
  unfold hx2
  rw [strOf_size]
  rfl
theorem mpS_size (m : Nat) : ∀ j, (mpS m j).size ≤ 3 * j
  | 0 => Nat.le_refl 0
  | 1 => by
    rw [mpS, ByteArray.size_append, hx2_size]
    show 0 + 2 ≤ 3
    omega
  | j + 2 => by
    have := mpS_size m (j + 1)
    rw [mpS, ByteArray.size_append, ByteArray.size_append, hx2_size]
    show (mpS m (j + 1)).size + 1 + 2 ≤ _
    omega
theorem mpS_all (m : Nat) : mpS m 6 = macS m := by
  have e : mcL m 6 = [hx2 (m / 256 ^ 5 % 256), hx2 (m / 256 ^ 4 % 256), hx2 (m / 256 ^ 3 % 256), hx2 (m / 256 ^ 2 % 256), hx2 (m / 256 ^ 1 % 256), hx2 (m / 256 ^ 0 % 256)] := rfl
  unfold macS
  rw [e]
  simp only [List.map_cons, List.map_nil]
  rw [Lib.join_cons]
  simp only [Lib.joinTail, List.map_cons, List.map_nil, List.flatten_cons, List.flatten_nil, List.append_nil, mpS]
  apply ByteArray.ext
  simp
set_option maxRecDepth 100000 in
set_option maxHeartbeats 2000000 in
theorem rmacText_ok (m : Nat) (w : World) (hm : m < 281474976710656) :
    Calls Tryd.prog 5 #[.int .u64 (m : Nat)] w fun e w' => e = .returned (.tuple #[.string (macS m), .int .i64 0]) ∧ Below w.heap.size w w' := by
  have hc := cardM_any m w
  rw [decide_eq_true hm] at hc
  have HA := (show Hid _ from mpS_all m)
  go_enter Tryd.func5, Tryd.ntmps5
  go_wp2_with fail
  refine hc.mono ?_
  rintro e w' ⟨rfl, hw⟩
  subst hw
  go_wp2
  go_loopw [4, 5] (fun vo i wr => ∃ j : Nat, j ≤ 6 ∧ i = .int .i64 j ∧ vo = .string (mpS m j) ∧ Below w'.heap.size w' wr) (fun _ i _ => 6 - (intOf i).toNat)
  case atStart => exact ⟨0, by omega, rfl, rfl, Below.refl _ _⟩
  case round =>
    obtain ⟨j, hj6, rfl, rfl, hbel⟩ := hrel
    have hwr := hbel.size
    rcases (show j = 0 ∨ j = 1 ∨ j = 2 ∨ j = 3 ∨ j = 4 ∨ j = 5 ∨ j = 6 by omega) with hj | hj | hj | hj | hj | hj | hj
    · subst hj
      obtain ⟨x, hx⟩ : ∃ x, x = m / 256 ^ 5 % 256 := ⟨_, rfl⟩
      have hxl : x < 256 := by omega
      have HN : Hid (mpS m 1 = mpS m 0 ++ hx2 x) := by show _ = _; rw [hx]; rfl
      have hxi : (m : Int) / 1099511627776 = (x : Int) := by rw [hx]; simp only [Nat.reducePow]; omega
      have hz := mpS_size m 0
      have hz2 := hx2_size x
      have hz3 : (mpS m 0 ++ (⟨#[58]⟩ : ByteArray)).size ≤ 19 := by rw [ByteArray.size_append]; show _ + 1 ≤ 19; omega
      have hh := refhex_any (some ⟨wr.heap.size, 0, none⟩) 1 1 [x] (wr.alloc (.cells #[.int .u8 (x : Nat)] 5)) (sl_one wr 5 _ x rfl hxl) (by omega)
      have bA : Below w'.heap.size w' (wr.alloc (.cells #[.int .u8 (x : Nat)] 5)) := hbel.alloc hbel.size _
      rw [show strOf (hexL [x]) = hx2 x from rfl] at hh
      generalize mpS m 0 = S at *
      generalize hx2 x = X at *
      clear hx hxl
      go_wp2_with fail
      refine hh.mono ?_
      rintro e w2 ⟨rfl, b2⟩
      have b02 := bA.trans (b2.mono bA.size)
      clear hh bA b2
      go_wp2
      go_roundw
      case rel => exact ⟨1, by omega, by go_num, by rw [HN.out], b02⟩
      case measure => simp [intOf]
    · subst hj
      obtain ⟨x, hx⟩ : ∃ x, x = m / 256 ^ 4 % 256 := ⟨_, rfl⟩
      have hxl : x < 256 := by omega
      have HN : Hid (mpS m 2 = mpS m 1 ++ (⟨#[58]⟩ : ByteArray) ++ hx2 x) := by show _ = _; rw [hx]; rfl
      have hxi : (m : Int) / 4294967296 % 256 = (x : Int) := by rw [hx]; simp only [Nat.reducePow]; omega
      have hz := mpS_size m 1
      have hz2 := hx2_size x
      have hz3 : (mpS m 1 ++ (⟨#[58]⟩ : ByteArray)).size ≤ 19 := by rw [ByteArray.size_append]; show _ + 1 ≤ 19; omega
      have hh := refhex_any (some ⟨wr.heap.size, 0, none⟩) 1 1 [x] (wr.alloc (.cells #[.int .u8 (x : Nat)] 5)) (sl_one wr 5 _ x rfl hxl) (by omega)
      have bA : Below w'.heap.size w' (wr.alloc (.cells #[.int .u8 (x : Nat)] 5)) := hbel.alloc hbel.size _
      rw [show strOf (hexL [x]) = hx2 x from rfl] at hh
      generalize mpS m 1 = S at *
      generalize hx2 x = X at *
      clear hx hxl
      go_wp2_with fail
      refine hh.mono ?_
      rintro e w2 ⟨rfl, b2⟩
      have b02 := bA.trans (b2.mono bA.size)
      clear hh bA b2
      go_wp2
      go_roundw
      case rel => exact ⟨2, by omega, by go_num, by rw [HN.out], b02⟩
      case measure => simp [intOf]
    · subst hj
      obtain ⟨x, hx⟩ : ∃ x, x = m / 256 ^ 3 % 256 := ⟨_, rfl⟩
      have hxl : x < 256 := by omega
      have HN : Hid (mpS m 3 = mpS m 2 ++ (⟨#[58]⟩ : ByteArray) ++ hx2 x) := by show _ = _; rw [hx]; rfl
      have hxi : (m : Int) / 16777216 % 256 = (x : Int) := by rw [hx]; simp only [Nat.reducePow]; omega
      have hz := mpS_size m 2
      have hz2 := hx2_size x
      have hz3 : (mpS m 2 ++ (⟨#[58]⟩ : ByteArray)).size ≤ 19 := by rw [ByteArray.size_append]; show _ + 1 ≤ 19; omega
      have hh := refhex_any (some ⟨wr.heap.size, 0, none⟩) 1 1 [x] (wr.alloc (.cells #[.int .u8 (x : Nat)] 5)) (sl_one wr 5 _ x rfl hxl) (by omega)
      have bA : Below w'.heap.size w' (wr.alloc (.cells #[.int .u8 (x : Nat)] 5)) := hbel.alloc hbel.size _
      rw [show strOf (hexL [x]) = hx2 x from rfl] at hh
      generalize mpS m 2 = S at *
      generalize hx2 x = X at *
      clear hx hxl
      go_wp2_with fail
      refine hh.mono ?_
      rintro e w2 ⟨rfl, b2⟩
      have b02 := bA.trans (b2.mono bA.size)
      clear hh bA b2
      go_wp2
      go_roundw
      case rel => exact ⟨3, by omega, by go_num, by rw [HN.out], b02⟩
      case measure => simp [intOf]
    · subst hj
      obtain ⟨x, hx⟩ : ∃ x, x = m / 256 ^ 2 % 256 := ⟨_, rfl⟩
      have hxl : x < 256 := by omega
      have HN : Hid (mpS m 4 = mpS m 3 ++ (⟨#[58]⟩ : ByteArray) ++ hx2 x) := by show _ = _; rw [hx]; rfl
      have hxi : (m : Int) / 65536 % 256 = (x : Int) := by rw [hx]; simp only [Nat.reducePow]; omega
      have hz := mpS_size m 3
      have hz2 := hx2_size x
      have hz3 : (mpS m 3 ++ (⟨#[58]⟩ : ByteArray)).size ≤ 19 := by rw [ByteArray.size_append]; show _ + 1 ≤ 19; omega
      have hh := refhex_any (some ⟨wr.heap.size, 0, none⟩) 1 1 [x] (wr.alloc (.cells #[.int .u8 (x : Nat)] 5)) (sl_one wr 5 _ x rfl hxl) (by omega)
      have bA : Below w'.heap.size w' (wr.alloc (.cells #[.int .u8 (x : Nat)] 5)) := hbel.alloc hbel.size _
      rw [show strOf (hexL [x]) = hx2 x from rfl] at hh
      generalize mpS m 3 = S at *
      generalize hx2 x = X at *
      clear hx hxl
      go_wp2_with fail
      refine hh.mono ?_
      rintro e w2 ⟨rfl, b2⟩
      have b02 := bA.trans (b2.mono bA.size)
      clear hh bA b2
      go_wp2
      go_roundw
      case rel => exact ⟨4, by omega, by go_num, by rw [HN.out], b02⟩
      case measure => simp [intOf]
    · subst hj
      obtain ⟨x, hx⟩ : ∃ x, x = m / 256 ^ 1 % 256 := ⟨_, rfl⟩
      have hxl : x < 256 := by omega
      have HN : Hid (mpS m 5 = mpS m 4 ++ (⟨#[58]⟩ : ByteArray) ++ hx2 x) := by show _ = _; rw [hx]; rfl
      have hxi : (m : Int) / 256 % 256 = (x : Int) := by rw [hx]; simp only [Nat.reducePow]; omega
      have hz := mpS_size m 4
      have hz2 := hx2_size x
      have hz3 : (mpS m 4 ++ (⟨#[58]⟩ : ByteArray)).size ≤ 19 := by rw [ByteArray.size_append]; show _ + 1 ≤ 19; omega
      have hh := refhex_any (some ⟨wr.heap.size, 0, none⟩) 1 1 [x] (wr.alloc (.cells #[.int .u8 (x : Nat)] 5)) (sl_one wr 5 _ x rfl hxl) (by omega)
      have bA : Below w'.heap.size w' (wr.alloc (.cells #[.int .u8 (x : Nat)] 5)) := hbel.alloc hbel.size _
      rw [show strOf (hexL [x]) = hx2 x from rfl] at hh
      generalize mpS m 4 = S at *
      generalize hx2 x = X at *
      clear hx hxl
      go_wp2_with fail
      refine hh.mono ?_
      rintro e w2 ⟨rfl, b2⟩
      have b02 := bA.trans (b2.mono bA.size)
      clear hh bA b2
      go_wp2
      go_roundw
      case rel => exact ⟨5, by omega, by go_num, by rw [HN.out], b02⟩
      case measure => simp [intOf]
    · subst hj
      obtain ⟨x, hx⟩ : ∃ x, x = m / 256 ^ 0 % 256 := ⟨_, rfl⟩
      have hxl : x < 256 := by omega
      have HN : Hid (mpS m 6 = mpS m 5 ++ (⟨#[58]⟩ : ByteArray) ++ hx2 x) := by show _ = _; rw [hx]; rfl
      have hxi : (m : Int) % 256 = (x : Int) := by rw [hx]; simp only [Nat.reducePow]; omega
      have hz := mpS_size m 5
      have hz2 := hx2_size x
      have hz3 : (mpS m 5 ++ (⟨#[58]⟩ : ByteArray)).size ≤ 19 := by rw [ByteArray.size_append]; show _ + 1 ≤ 19; omega
      have hh := refhex_any (some ⟨wr.heap.size, 0, none⟩) 1 1 [x] (wr.alloc (.cells #[.int .u8 (x : Nat)] 5)) (sl_one wr 5 _ x rfl hxl) (by omega)
      have bA : Below w'.heap.size w' (wr.alloc (.cells #[.int .u8 (x : Nat)] 5)) := hbel.alloc hbel.size _
      rw [show strOf (hexL [x]) = hx2 x from rfl] at hh
      generalize mpS m 5 = S at *
      generalize hx2 x = X at *
      clear hx hxl
      go_wp2_with fail
      refine hh.mono ?_
      rintro e w2 ⟨rfl, b2⟩
      have b02 := bA.trans (b2.mono bA.size)
      clear hh bA b2
      go_wp2
      go_roundw
      case rel => exact ⟨6, by omega, by go_num, by rw [HN.out], b02⟩
      case measure => simp [intOf]
    · subst hj
      rw [HA.out]
      go_wp2
      go_ret2
      exact ⟨rfl, hbel⟩
set_option maxRecDepth 100000 in
set_option maxHeartbeats 1000000 in
theorem rmacText_no (m : Nat) (w : World) (hm : 281474976710656 ≤ m) :
    Calls Tryd.prog 5 #[.int .u64 (m : Nat)] w fun e w' => e = .returned (.tuple #[.string ⟨#[]⟩, .int .i64 2]) ∧ Below w.heap.size w w' := by
  have hc := cardM_any m w
  rw [decide_eq_false (by omega)] at hc
  clear hm
  go_enter Tryd.func5, Tryd.ntmps5
  go_wp2_with fail
  refine hc.mono ?_
  rintro e w' ⟨rfl, hw⟩
  subst hw
  go_wp2
  go_ret2
  exact ⟨rfl, Below.refl _ _⟩
end Go.Proofs.YtplicfknjhjjgaaDoor
