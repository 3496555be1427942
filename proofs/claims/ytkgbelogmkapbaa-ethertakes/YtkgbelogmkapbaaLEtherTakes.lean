/- Whatever bytes: the walk of law08.EtherTakes ends with true. -/
import Derived.Test.YtkgbelogmkapbaaEtRef
import Derived.Test.YtkgbelogmkapbaaEtLive
namespace Go.Proofs.Ytkgbelogmkapbaa
open Go.RowKit
set_option maxRecDepth 100000 in
set_option maxHeartbeats 2000000 in
theorem walk_EtherTakes (a : Option Addr) (n c : Nat) (zs : List Nat) (w : World) (h0 : Sl w a n c zs ∧ c * 1 ≤ 140737488351232) :
    Calls Try.prog 4 #[.slice a n c] w fun e w' => e = .returned (.bool true) ∧ Below w.heap.size w w' := by
  obtain ⟨hs, hcb⟩ := h0
  clear hcb
  obtain ⟨T, hT⟩ : ∃ T, T = tkN zs 0 6 := ⟨_, rfl⟩
  obtain ⟨F, hF⟩ : ∃ F, F = tkN zs 6 6 := ⟨_, rfl⟩
  obtain ⟨K, hK⟩ : ∃ K, K = tkN zs 12 2 := ⟨_, rfl⟩
  obtain ⟨E, hE⟩ : ∃ E, E = tkE zs := ⟨_, rfl⟩
  obtain ⟨L, hL⟩ : ∃ L, L = tkB zs := ⟨_, rfl⟩
  have HT := (show Hid _ from hT)
  have HF := (show Hid _ from hF)
  have HK := (show Hid _ from hK)
  have HE := (show Hid _ from hE)
  have HL := (show Hid _ from hL)
  clear hT hF hK hE hL
  go_enter Try.func4, Try.ntmps4
  go_wp2_with fail
  refine (take_any a n c zs w hs).mono ?_
  rintro e w1 ⟨⟨a1, c1, rfl, hr1⟩, hb1⟩
  rw [← HT.out, ← HF.out, ← HK.out, ← HE.out, ← HL.out]
  rw [← HL.out] at hr1
  obtain ⟨m, hm⟩ : ∃ m, m = L.length := ⟨_, rfl⟩
  rw [← hm] at hr1 ⊢
  have HM := (show Hid _ from hm)
  clear hm
  obtain ⟨w2, hw2⟩ : ∃ w2, w2 = w1.alloc (.cells #[.int .u64 (T : Nat), .int .u64 (F : Nat), .int .u16 (K : Nat), .slice a1 m c1] 26) := ⟨_, rfl⟩
  have hb12 : Below w1.heap.size w1 w2 := by rw [hw2]; exact (Below.refl _ _).alloc (Nat.le_refl _) _
  have hX2 := Stc.new w1 [.int .u64 (T : Nat), .int .u64 (F : Nat), .int .u16 (K : Nat), .slice a1 m c1] 26 w2 hw2
  have hr2 := hr1.below hb12
  have hb02 : Below w.heap.size w w2 := hb1.trans (hb12.mono hb1.size)
  have hs2 := hs.below hb02
  clear hb1 hb12 hr1
  go_wp2_with fail
  rw [← hw2]
  clear hw2
  refine (rtake_any a n c zs w2 hs2).mono ?_
  rintro e w3 ⟨⟨a3, c3, rfl, hr3⟩, hb3⟩
  rw [← HT.out, ← HF.out, ← HK.out, ← HE.out, ← HL.out]
  rw [← HL.out] at hr3
  rw [← HM.out] at hr3 ⊢
  have hX3 := hX2.below hb3
  have hr23 := hr2.below hb3
  have hb03 : Below w.heap.size w w3 := hb02.trans (hb3.mono hb02.size)
  obtain ⟨w4, hw4⟩ : ∃ w4, w4 = w3.alloc (.cells #[.int .u64 (T : Nat), .int .u64 (F : Nat), .int .u16 (K : Nat), .slice a3 m c3] 26) := ⟨_, rfl⟩
  have hb34 : Below w3.heap.size w3 w4 := by rw [hw4]; exact (Below.refl _ _).alloc (Nat.le_refl _) _
  have hY4 := Stc.new w3 [.int .u64 (T : Nat), .int .u64 (F : Nat), .int .u16 (K : Nat), .slice a3 m c3] 26 w4 hw4
  have hX4 := hX3.below hb34
  have hr24 := hr23.below hb34
  have hr34 := hr3.below hb34
  have hb04 : Below w.heap.size w w4 := hb03.trans (hb34.mono hb03.size)
  clear hX2 hX3 hr2 hr3 hr23 hb02 hb3 hb34 hb03 hs2
  go_wp2_with fail
  rw [← hw4]
  clear hw4
  refine (live8_any w4).mono ?_
  rintro e w5 ⟨rfl, hb45⟩
  have hX5 := hX4.below hb45
  have hY5 := hY4.below hb45
  have hr25 := hr24.below hb45
  have hr35 := hr34.below hb45
  have hb05 : Below w.heap.size w w5 := hb04.trans (hb45.mono hb04.size)
  have x0 := hX5.cell 0 _ rfl
  have x1 := hX5.cell 1 _ rfl
  have x2 := hX5.cell 2 _ rfl
  have x3 := hX5.cell 3 _ rfl
  have y0 := hY5.cell 0 _ rfl
  have y1 := hY5.cell 1 _ rfl
  have y2 := hY5.cell 2 _ rfl
  have y3 := hY5.cell 3 _ rfl
  clear hX4 hY4 hr24 hr34 hb04 hb45
  go_wp2_with fail
  refine (rsame_any T F K a1 m c1 L a3 c3 w5 hr25 hr35).mono ?_
  rintro e w6 ⟨rfl, hb6⟩
  go_wp2
  go_ret
  exact ⟨rfl, hb05.trans (hb6.mono hb05.size)⟩
end Go.Proofs.Ytkgbelogmkapbaa
