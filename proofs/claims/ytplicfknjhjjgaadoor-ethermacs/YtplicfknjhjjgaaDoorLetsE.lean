/- What the reference's Letters answers: a text's letters, each as its bytes. -/
import Derived.Test.YtplicfknjhjjgaaDoorStrL
import Derived.Test.YtplicfknjhjjgaaDoorShelfU
import Derived.Test.YtplicfknjhjjgaaDoorDecE
import Derived.Lib.LaidU8
namespace Go.Proofs.YtplicfknjhjjgaaDoor
open Go.RowKit
/-- A letter of one byte. -/
def one (b : Nat) : ByteArray := ⟨#[UInt8.ofNat b]⟩
/-- A letter that is no sign of ASCII. -/
def Bad (x : ByteArray) : Prop := ∃ b r, natsOf x = b :: r ∧ 128 ≤ b ∧ r.length ≤ 3
/-- Bytes, and the letters that they are, as far as they are signs of ASCII. -/
def LR : List Nat → List ByteArray → Prop
  | [], L => L = []
  | b :: t, L => ∃ x M, L = x :: M ∧ ((b < 128 ∧ x = one b ∧ LR t M) ∨ (128 ≤ b ∧ Bad x))
theorem cell_lt {w : World} {b o : Nat} {v : Value} (h : w.cell? ⟨b, o, none⟩ = some v) : b < w.heap.size := by
  rcases Nat.lt_or_ge b w.heap.size with h1 | h1
  · exact h1
  · have : w.cell? ⟨b, o, none⟩ = none := by
      simp [World.cell?, Array.getElem?_eq_none h1]
    rw [this] at h
    cases h
theorem tabs_below {g3 g4 : Nat} {w w' : World} (h : Lib.Utf8Tabs g3 g4 w) (hb : Below w.heap.size w w') : Lib.Utf8Tabs g3 g4 w' := by
  refine ⟨fun c hc => ?_, fun i hi => ⟨?_, ?_⟩⟩
  · have := h.1 c hc
    rw [hb.cell (p := ⟨g3, c, none⟩) (cell_lt this)]; exact this
  · have := (h.2 i hi).1
    rw [hb.cell (p := ⟨g4, 2 * i, none⟩) (cell_lt this)]; exact this
  · have := (h.2 i hi).2
    rw [hb.cell (p := ⟨g4, 2 * i + 1, none⟩) (cell_lt this)]; exact this
theorem go_first (t : ByteArray) (h : 0 < t.size) : Lib.decodeGo t = Utf8.decode t 0 := by
  unfold Lib.decodeGo
  rw [if_neg (by omega)]
theorem ext_nats (t : ByteArray) (n : Nat) : natsOf (t.extract n t.size) = (natsOf t).drop n := by
  have hz : t.data.size = t.size := rfl
  unfold natsOf
  rw [ByteArray.data_extract, Array.toList_extract, List.extract, List.take_of_length_le (by rw [List.length_drop, Array.length_toList, hz]; omega), List.map_drop]
theorem ext_head (t : ByteArray) (n : Nat) (h : 0 < t.size) (hn : 1 ≤ n) : ∃ r, natsOf (t.extract 0 n) = (t[0]'h).toNat :: r := by
  obtain ⟨m, rfl⟩ : ∃ m, n = m + 1 := ⟨n - 1, by omega⟩
  have hh : natsOf t = (t[0]'h).toNat :: (natsOf t).drop 1 := by
    have := natsOf_drop t 0 h
    simpa using this
  have e : natsOf (t.extract 0 (m + 1)) = (natsOf t).take (m + 1) := by
    unfold natsOf
    rw [ByteArray.data_extract, Array.toList_extract]
    simp [List.extract, List.map_take]
  rw [e, hh]
  exact ⟨_, rfl⟩
theorem one_nats (c : Nat) (hc : c < 256) : natsOf (one c) = [c] := by
  simp [natsOf, one, UInt8.toNat_ofNat']
  omega
theorem nats_inj {x y : ByteArray} (h : natsOf x = natsOf y) : x = y := by
  have : x.data.toList = y.data.toList := by
    have e : ∀ l : List UInt8, (l.map UInt8.toNat).map UInt8.ofNat = l := by
      intro l
      rw [List.map_map]
      have : (UInt8.ofNat ∘ UInt8.toNat) = id := by funext x; simp
      rw [this, List.map_id]
    rw [← e x.data.toList, ← e y.data.toList]
    unfold natsOf at h
    rw [h]
  cases x
  cases y
  simp at this
  rw [this]
theorem LR_step (t : ByteArray) (h : 0 < t.size) (L : List ByteArray) (hL : LR (natsOf (t.extract (Utf8.decode t 0).2 t.size)) L) : LR (natsOf t) (t.extract 0 (Utf8.decode t 0).2 :: L) := by
  have hh : natsOf t = (t[0]'h).toNat :: (natsOf t).drop 1 := by
    have := natsOf_drop t 0 h
    simpa using this
  rw [hh]
  refine ⟨_, _, rfl, ?_⟩
  obtain ⟨r, hr⟩ := ext_head t (Utf8.decode t 0).2 h (width_pos t 0 h)
  by_cases ha : (t[0]'h).toNat < 128
  · refine .inl ⟨ha, ?_, ?_⟩
    · rw [decode_ascii t 0 h ha] at hr ⊢
      apply nats_inj
      rw [one_nats _ (by omega)]
      have hl : (natsOf (t.extract 0 1)).length ≤ 1 := by
        simp [natsOf, ByteArray.data_extract]
        omega
      rw [hr] at hl ⊢
      cases r with
      | nil => rfl
      | cons a b => simp at hl
    · rw [decode_ascii t 0 h ha, ext_nats] at hL
      exact hL
  · refine .inr ⟨by omega, _, _, hr, by omega, ?_⟩
    have h4 : (Utf8.decode t 0).2 ≤ 4 := by
      rw [Lib.decode_at]
      unfold Lib.decodeN
      repeat' split
      all_goals simp
    have hl : (natsOf (t.extract 0 (Utf8.decode t 0).2)).length ≤ (Utf8.decode t 0).2 := by
      simp [natsOf, ByteArray.data_extract]
      omega
    rw [hr] at hl
    simp at hl
    omega
theorem own_none (w : World) : OwnS (w.alloc (.cells #[] 9)) w.heap.size (.slice (some ⟨w.heap.size, 0, none⟩) 0 0) 0 [] :=
  World.ownsRow_made w #[] 0 (Nat.le_refl _) (by unfold maxLen; omega) rfl
theorem wid_le (t : ByteArray) (h : 0 < t.size) : (Utf8.decode t 0).2 ≤ t.size := by
  rw [← go_first t h]
  unfold Lib.decodeGo
  rw [if_neg (by omega), Lib.decode_at]
  unfold Lib.decodeN
  repeat' split
  all_goals (simp only; omega)
def vsz : Value → Nat
  | .string x => x.size
  | _ => 0
set_option maxHeartbeats 1000000 in
theorem letters_any (s : ByteArray) (w : World) (hs : s.size ≤ 4398046511104) (hT : Lib.Utf8Tabs 0 1 w) :
    Calls Tryd.prog 15 #[.string s] w fun e w' => ∃ (L : List ByteArray) (v : Value), e = .returned v ∧ OwnS w' w.heap.size v L.length L ∧ LR (natsOf s) L ∧ L.length ≤ s.size ∧ Below w.heap.size w w' := by
  go_enter Tryd.func15, Tryd.ntmps15
  go_wp2
  go_loopw [0, 3] (fun vs vo wr => ∃ (t : ByteArray) (L : List ByteArray), vs = .string t ∧ OwnS wr w.heap.size vo L.length L ∧ Hid (∀ M, LR (natsOf t) M → LR (natsOf s) (L ++ M)) ∧ L.length + t.size ≤ s.size ∧ Below w.heap.size w wr) (fun vs _ _ => vsz vs)
  case atStart => exact ⟨s, [], rfl, own_none w, (fun M h => h), by simp, (Below.refl _ _).alloc (Nat.le_refl _) _⟩
  case round =>
    obtain ⟨t, L, rfl, hown, HL, hlen, hbel⟩ := hrel
    by_cases h0 : 0 < t.size
    · have hT2 := tabs_below hT hbel
      have hw1 := width_pos t 0 h0
      have hw2 := wid_le t h0
      have HS : Hid (∀ M, LR (natsOf (t.extract (Utf8.decode t 0).2 t.size)) M → LR (natsOf s) ((L ++ [t.extract 0 (Utf8.decode t 0).2]) ++ M)) := by
        intro M hM
        have := HL.out _ (LR_step t h0 M hM)
        simpa using this
      have hz : (t.extract (Utf8.decode t 0).2 t.size).size = t.size - (Utf8.decode t 0).2 := by simp
      have hg := go_first t h0
      have hw1' : (1 : Int) ≤ ((Utf8.decode t 0).2 : Int) := by omega
      have hw2' : ((Utf8.decode t 0).2 : Int) ≤ (t.size : Int) := by omega
      clear HL
      go_wp2_with fail
      refine (Tryd.utf8_DecodeRuneInString t _ hT2).mono ?_
      rintro e w2 ⟨rfl, hb2⟩
      rw [hg]
      have hown2 := hown.below hb2
      have hb02 := hbel.trans (hb2.mono hbel.size)
      have hsz := hb02.size
      generalize (Utf8.decode t 0).1 = r at *
      generalize (Utf8.decode t 0).2 = n at *
      clear hown hbel hb2 hT2 hg
      go_wp2_with (at_builtin; go_must (refine app_str rfl _ _ rfl w.heap.size _ _ L rfl (hown2.alloc _) ⟨w2.heap.size, 0, none⟩ (t.extract 0 n) rfl (by simp [Addr.add]) (by omega) (by simp; omega) ?_))
      intro v3 w3 ho3 hg3
      have hb3 : Below w.heap.size w w3 := (hb02.alloc hsz _).trans ((hown2.alloc _).up hg3 (by simp; omega))
      go_wp2
      go_roundw
      case rel => exact ⟨_, _, rfl, by simpa using ho3, HS, by simp at hz ⊢; omega, hb3⟩
      case measure => simp [vsz]; omega
    · have hz : t.size = 0 := by omega
      have hn : natsOf t = [] := by
        have : (natsOf t).length = 0 := by simp only [natsOf, List.length_map, Array.length_toList]; exact hz
        exact List.eq_nil_of_length_eq_zero this
      have hLR : LR (natsOf s) L := by
        have := HL.out [] (by rw [hn]; rfl)
        simpa using this
      have HR := (show Hid _ from hLR)
      clear hLR hn HL
      go_wp2
      go_ret
      exact ⟨L, _, rfl, hown, HR.out, by omega, hbel⟩
end Go.Proofs.YtplicfknjhjjgaaDoor
