/- What law07's live answers: true. -/
import Derived.Test.YtmmbnikjlklflaaRg2
namespace Go.Proofs.Ytmmbnikjlklflaa
open Go.RowKit
theorem Rng.frB {w0 w w' : World} {B : Nat} {X : Nat → Prop} {p g N gv tk d : Nat} {rs : List (Nat × List Nat)} (h : Rng w B X p g N gv tk d rs) (hf : Fr (fun k => k = p ∨ k = g) w w') (hb : Below w0.heap.size w0 w) (hB : w0.heap.size ≤ B) : Below w0.heap.size w0 w' :=
  hb.trans (hf.below w0.heap.size hb.size (fun k hk => by have h1 := h.bp; have h2 := h.bg; omega))
set_option maxRecDepth 100000 in
set_option maxHeartbeats 4000000 in
theorem live7_any (w : World) : Calls Try.prog 10 #[] w fun e w' => e = .returned (.bool true) ∧ Below w.heap.size w w' := by
  go_enter Try.func10, Try.ntmps10
  go_wp2_with fail
  refine (rnew_any 1 w (by omega) (by omega)).mono ?_
  rintro e w1 ⟨p, rfl, ⟨g, hR1⟩, hb1⟩
  obtain ⟨wa, hwa⟩ : ∃ wa, wa = w1.alloc (.cells #[.int .u8 7] 5) := ⟨_, rfl⟩
  have hba : Below w1.heap.size w1 wa := by rw [hwa]; exact (Below.refl _ _).alloc (Nat.le_refl _) _
  have hsa : Sl wa (some ⟨w1.heap.size, 0, none⟩) 1 1 [7] := by rw [hwa]; exact sl_one w1 5 7 7 rfl (by omega)
  have hbwa := hb1.trans (hba.mono hb1.size)
  go_wp2_with fail
  rw [← hwa]
  clear hwa
  refine (fill_any w.heap.size _ p g 1 0 0 0 [] _ 1 1 [7] wa (hR1.below hba) hsa (by omega) hbwa.size).mono ?_
  rintro e w2 ⟨rfl, hf2, b, hb, hR2⟩
  have hE2 : fillE 1 0 [] [7] = 0 := by decide
  rw [hE2] at hR2 ⊢
  simp only [if_true, List.nil_append, show ¬ (0 : Nat) = 10 by omega, if_false] at hR2
  have hbw2 := (hR1.below hba).frB hf2 hbwa (Nat.le_refl _)
  clear hR1 hba hsa hf2 hbwa hb1 hE2
  obtain ⟨wb, hwb⟩ : ∃ wb, wb = w2.alloc (.cells #[.int .u8 8] 5) := ⟨_, rfl⟩
  have hbb : Below w2.heap.size w2 wb := by rw [hwb]; exact (Below.refl _ _).alloc (Nat.le_refl _) _
  have hsb : Sl wb (some ⟨w2.heap.size, 0, none⟩) 1 1 [8] := by rw [hwb]; exact sl_one w2 5 8 8 rfl (by omega)
  have hbwb := hbw2.trans (hbb.mono hbw2.size)
  go_wp2_with fail
  rw [← hwb]
  clear hwb
  refine (fill_any w.heap.size _ p g 1 0 0 0 [(b, [7])] _ 1 1 [8] wb (hR2.below hbb) hsb (by omega) hbwb.size).mono ?_
  rintro e w3 ⟨rfl, hf3, b3, hb3, hR3⟩
  have hE3 : fillE 1 0 [(b, [7])] [8] = 10 := by unfold fillE; simp
  rw [hE3] at hR3 ⊢
  simp only [if_true, show ¬ (10 : Nat) = 0 by omega, if_false] at hR3
  have hbw3 := (hR2.below hbb).frB hf3 hbwb (Nat.le_refl _)
  clear hR2 hbb hsb hf3 hbwb hb3 hE3 hbw2
  go_wp2_with fail
  refine (take_some w.heap.size _ p g 1 0 0 1 b [7] [] w3 hR3).mono ?_
  rintro e w4 ⟨⟨c4, rfl, ho4⟩, hf4, hR4⟩
  have hbw4 := hR3.frB hf4 hbw3 (Nat.le_refl _)
  have hxb := (hR3.rlt (b, [7]) (by simp)).2.1
  clear hf4 hbw3 hR3
  obtain ⟨wc, hwc⟩ : ∃ wc, wc = w4.alloc (.cells #[.int .u8 9] 5) := ⟨_, rfl⟩
  have hbc : Below w4.heap.size w4 wc := by rw [hwc]; exact (Below.refl _ _).alloc (Nat.le_refl _) _
  have hsc : Sl wc (some ⟨w4.heap.size, 0, none⟩) 1 1 [9] := by rw [hwc]; exact sl_one w4 5 9 9 rfl (by omega)
  have hbwc := hbw4.trans (hbc.mono hbw4.size)
  go_wp2_with fail
  rw [← hwc]
  clear hwc
  refine (fill_any w.heap.size _ p g 1 0 1 1 [] _ 1 1 [9] wc (hR4.below hbc) hsc (by omega) hbwc.size).mono ?_
  rintro e w5 ⟨rfl, hf5, b5, hb5, hR5⟩
  have hE5 : fillE 1 1 [] [9] = 10 := by decide
  rw [hE5] at hR5 ⊢
  simp only [if_true, show ¬ (10 : Nat) = 0 by omega, if_false] at hR5
  have hbw5 := (hR4.below hbc).frB hf5 hbwc (Nat.le_refl _)
  have ho5 : OwnB w5 w.heap.size (some ⟨b, 0, none⟩) 1 c4 [7] := (ho4.below hbc).fr hf5 hxb
  clear hR4 hbc hsc hf5 hbwc hb5 hE5 hbw4 ho4
  go_wp2_with fail
  refine (give_some w.heap.size _ p g 1 0 0 2 [] w5 hR5).mono ?_
  rintro e w6 ⟨rfl, hf6, hR6⟩
  have hbw6 := hR5.frB hf6 hbw5 (Nat.le_refl _)
  have ho6 : OwnB w6 w.heap.size (some ⟨b, 0, none⟩) 1 c4 [7] := ho5.fr hf6 hxb
  clear hR5 hf6 hbw5 ho5
  have cv := conv_str (ho6.sl (by omega))
  rw [show strOf [7] = ⟨#[7]⟩ by decide +kernel] at cv
  obtain ⟨wd, hwd⟩ : ∃ wd, wd = w6.alloc (.cells #[.int .u8 9] 5) := ⟨_, rfl⟩
  have hbd : Below w6.heap.size w6 wd := by rw [hwd]; exact (Below.refl _ _).alloc (Nat.le_refl _) _
  have hsd : Sl wd (some ⟨w6.heap.size, 0, none⟩) 1 1 [9] := by rw [hwd]; exact sl_one w6 5 9 9 rfl (by omega)
  have hbwd := hbw6.trans (hbd.mono hbw6.size)
  clear ho6
  go_wp2_with fail
  rw [← hwd]
  clear hwd
  refine (fill_any w.heap.size _ p g 1 ((0 + 1) % 1) 0 2 [] _ 1 1 [9] wd (hR6.below hbd) hsd (by omega) hbwd.size).mono ?_
  rintro e w7 ⟨rfl, hf7, b7, hb7, hR7⟩
  have hE7 : fillE 1 0 [] [9] = 0 := by decide
  rw [hE7]
  have hbw7 := (hR6.below hbd).frB hf7 hbwd (Nat.le_refl _)
  clear hR7 hR6 hbd hsd hf7 hbwd cv
  go_wp2
  go_ret
  exact ⟨rfl, hbw7⟩
end Go.Proofs.Ytmmbnikjlklflaa
