/- Whatever frame and bytes: the walk of law08.EtherBack ends with true. -/
import Derived.Test.YtnmjoidafgafjaaEtBkM
import Derived.Test.YtnmjoidafgafjaaEtSame
import Derived.Test.YtnmjoidafgafjaaEtLive
namespace Go.Proofs.Ytnmjoidafgafjaa
open Go.RowKit
theorem epV_le (t f k : Nat) (zs : List Nat) : (epV t f k zs).length ≤ 2000 := by
  unfold epV
  split
  · rename_i h
    have h2 : zs.length ≤ 1500 := by
      unfold epE at h
      split at h
      · omega
      · split at h
        · omega
        · omega
    simp [bytesB_len]
    omega
  · simp
theorem tkB_le (zs : List Nat) : (tkB zs).length ≤ 1500 := by
  unfold tkB
  split
  · rename_i h
    unfold tkE at h
    split at h
    · omega
    · split at h
      · omega
      · rw [List.length_drop]; omega
  · simp
theorem tkN_lt (zs : List Nat) (p k : Nat) (hb : ∀ i, zs.getD i 0 < 256) : tkN zs p k < 256 ^ k := by
  unfold tkN
  split
  · exact numV_lt zs p k hb
  · exact Nat.pow_pos (by omega)
theorem bnd_nil : ∀ i, ([] : List Nat).getD i 0 < 256 := fun i => by simp
set_option maxRecDepth 100000 in
set_option maxHeartbeats 4000000 in
theorem walk_EtherBack (t f k : Nat) (a : Option Addr) (n c : Nat) (zs : List Nat) (a0 : Option Addr) (n0 c0 : Nat) (ys : List Nat) (w : World) (ht : t < 18446744073709551616) (hf : f < 18446744073709551616) (hk : k < 65536) (h0 : Sl w a n c zs ∧ c ≤ 140737488351232) (h1 : Sl w a0 n0 c0 ys ∧ c0 * 1 ≤ 140737488351232) :
    Calls Try.prog 4 #[.agg #[.int .u64 (t : Nat), .int .u64 (f : Nat), .int .u16 (k : Nat), .slice a n c], .slice a0 n0 c0] w fun e w' => e = .returned (.bool true) ∧ Below w.heap.size w w' := by
  obtain ⟨h0, hcb⟩ := h0
  obtain ⟨h1, hcb1⟩ := h1
  have hzl := h0.len
  clear hcb hcb1
  obtain ⟨W, hW⟩ : ∃ W, W = w.alloc (.cells #[.int .u64 (t : Nat), .int .u64 (f : Nat), .int .u16 (k : Nat), .slice a n c] 26) := ⟨_, rfl⟩
  have hX := Stc.new w [.int .u64 (t : Nat), .int .u64 (f : Nat), .int .u16 (k : Nat), .slice a n c] 26 W hW
  have hbW : Below w.heap.size w W := by rw [hW]; exact (Below.refl _ _).alloc (Nat.le_refl _) _
  have hsW := h0.below hbW
  have hyW := h1.below hbW
  have x0 := hX.cell 0 _ rfl
  have x1 := hX.cell 1 _ rfl
  have x2 := hX.cell 2 _ rfl
  have x3 := hX.cell 3 _ rfl
  obtain ⟨E, hE⟩ : ∃ E, E = epE t f k n := ⟨_, rfl⟩
  obtain ⟨L, hL⟩ : ∃ L, L = epV t f k zs := ⟨_, rfl⟩
  obtain ⟨l, hl⟩ : ∃ l, l = L.length := ⟨_, rfl⟩
  have hle : L.length ≤ 2000 := by rw [hL]; exact epV_le t f k zs
  have HE := (show Hid _ from hE)
  have HL := (show Hid _ from hL)
  have Hl := (show Hid _ from hl)
  have hle2 : l ≤ 2000 := by omega
  obtain ⟨T, hT⟩ : ∃ T, T = tkN L 0 6 := ⟨_, rfl⟩
  obtain ⟨F, hF⟩ : ∃ F, F = tkN L 6 6 := ⟨_, rfl⟩
  obtain ⟨K, hK⟩ : ∃ K, K = tkN L 12 2 := ⟨_, rfl⟩
  obtain ⟨B, hB⟩ : ∃ B, B = tkB L := ⟨_, rfl⟩
  obtain ⟨m, hm⟩ : ∃ m, m = B.length := ⟨_, rfl⟩
  obtain ⟨G, hG⟩ : ∃ G, G = tkE L := ⟨_, rfl⟩
  have HA : Hid (E = 0 → G = 0 ∧ T = t ∧ F = f ∧ K = k ∧ B = zs ∧ m = n) := fun h => by
    obtain ⟨g1, g2, g3, g4, g5⟩ := ep_take t f k zs (by rw [hzl, ← hE]; exact h) hk
    rw [← hL] at g1 g2 g3 g4 g5
    exact ⟨by omega, by omega, by omega, by omega, by rw [hB]; exact g5, by rw [hm, hB, g5]; exact hzl⟩
  have HT := (show Hid _ from hT)
  have HF := (show Hid _ from hF)
  have HK := (show Hid _ from hK)
  have HB := (show Hid _ from hB)
  have Hm := (show Hid _ from hm)
  have HG := (show Hid _ from hG)
  obtain ⟨T2, hT2⟩ : ∃ T2, T2 = tkN ys 0 6 := ⟨_, rfl⟩
  obtain ⟨F2, hF2⟩ : ∃ F2, F2 = tkN ys 6 6 := ⟨_, rfl⟩
  obtain ⟨K2, hK2⟩ : ∃ K2, K2 = tkN ys 12 2 := ⟨_, rfl⟩
  obtain ⟨B2, hB2⟩ : ∃ B2, B2 = tkB ys := ⟨_, rfl⟩
  obtain ⟨m2, hm2⟩ : ∃ m2, m2 = B2.length := ⟨_, rfl⟩
  obtain ⟨G2, hG2⟩ : ∃ G2, G2 = tkE ys := ⟨_, rfl⟩
  obtain ⟨E2, hE2⟩ : ∃ E2, E2 = epE T2 F2 K2 m2 := ⟨_, rfl⟩
  obtain ⟨L2, hL2⟩ : ∃ L2, L2 = epV T2 F2 K2 B2 := ⟨_, rfl⟩
  obtain ⟨l2, hl2⟩ : ∃ l2, l2 = L2.length := ⟨_, rfl⟩
  have HC : Hid (G2 = 0 → E2 = 0 ∧ L2 = ys) := fun h => by
    obtain ⟨g1, g2⟩ := tk_put ys h1.bnd (by rw [← hG2]; exact h)
    rw [← hT2, ← hF2, ← hK2, ← hB2] at g1 g2
    exact ⟨by rw [hE2, hm2]; exact g1, by rw [hL2]; exact g2⟩
  have hT2b : T2 < 18446744073709551616 := by have := tkN_lt ys 0 6 h1.bnd; rw [hT2]; omega
  have hF2b : F2 < 18446744073709551616 := by have := tkN_lt ys 6 6 h1.bnd; rw [hF2]; omega
  have hK2b : K2 < 65536 := by have := tkN_lt ys 12 2 h1.bnd; rw [hK2]; omega
  have hl2b : l2 ≤ 2000 := by rw [hl2, hL2]; exact epV_le _ _ _ _
  have HT2 := (show Hid _ from hT2)
  have HF2 := (show Hid _ from hF2)
  have HK2 := (show Hid _ from hK2)
  have HB2 := (show Hid _ from hB2)
  have Hm2 := (show Hid _ from hm2)
  have HG2 := (show Hid _ from hG2)
  have HE2 := (show Hid _ from hE2)
  have HL2 := (show Hid _ from hL2)
  have Hl2 := (show Hid _ from hl2)
  clear hE hL hl hle hT hF hK hB hm hG hT2 hF2 hK2 hB2 hm2 hG2 hE2 hL2 hl2
  go_enter Try.func4, Try.ntmps4
  go_wp2_with fail
  rw [← hW]
  clear hW
  refine (put_any t f k a n c zs W ht hf hk hsW).mono ?_
  rintro e w1 ⟨⟨a1, c1, rfl, o1⟩, b1⟩
  rw [← HE.out, ← HL.out, ← Hl.out]
  rw [← HL.out, ← Hl.out] at o1
  have r1 := o1.sl (by omega)
  have hX1 := hX.below b1
  have hs1 := hsW.below b1
  have hy1 := hyW.below b1
  have bb1 : Below w.heap.size w w1 := hbW.trans (b1.mono hbW.size)
  clear x0 x1 x2 x3 o1 hX hsW hyW b1 hbW
  go_wp2_with fail
  refine (take_any a1 l c1 L w1 r1).mono ?_
  rintro e w2 ⟨⟨a2, c2, rfl, r2⟩, b2⟩
  rw [← HT.out, ← HF.out, ← HK.out, ← HG.out, ← HB.out, ← Hm.out]
  rw [← HB.out, ← Hm.out] at r2
  have hX2 := hX1.below b2
  have hs2 := hs1.below b2
  have hy2 := hy1.below b2
  have bb2 : Below w.heap.size w w2 := bb1.trans (b2.mono bb1.size)
  obtain ⟨w3, hw3⟩ : ∃ w3, w3 = w2.alloc (.cells #[.int .u64 (T : Nat), .int .u64 (F : Nat), .int .u16 (K : Nat), .slice a2 m c2] 26) := ⟨_, rfl⟩
  have b23 : Below w2.heap.size w2 w3 := by rw [hw3]; exact (Below.refl _ _).alloc (Nat.le_refl _) _
  have hY3 := Stc.new w2 [.int .u64 (T : Nat), .int .u64 (F : Nat), .int .u16 (K : Nat), .slice a2 m c2] 26 w3 hw3
  have hX3 := hX2.below b23
  have hs3 := hs2.below b23
  have hy3 := hy2.below b23
  have r3 := r2.below b23
  have bb3 : Below w.heap.size w w3 := bb2.trans (b23.mono bb2.size)
  have x0 := hX3.cell 0 _ rfl
  have x1 := hX3.cell 1 _ rfl
  have x2 := hX3.cell 2 _ rfl
  have x3 := hX3.cell 3 _ rfl
  rw [hw3] at x0 x1 x2 x3
  clear hX1 hX2 hX3 hY3 hs1 hs2 hy1 hy2 r1 r2 b2 b23 bb1 bb2
  have HW3 := (show Hid _ from hw3)
  by_cases hE0 : E = 0
  case pos =>
    obtain ⟨g1, g2, g3, g4, g5, g6⟩ := HA.out hE0
    subst hE0
    subst g1 g2 g3 g4 g6
    go_wp2_with fail
    rw [← hw3]
    clear hw3
    rw [g5] at r3
    refine (rsame_any T F K a m c zs a2 c2 w3 hs3 r3).mono ?_
    rintro e w4 ⟨rfl, b4⟩
    have hy4 := hy3.below b4
    have bb4 : Below w.heap.size w w4 := bb3.trans (b4.mono bb3.size)
    clear hy3 bb3 b4 hs3 r3 HA HT HF HK HB Hm HG g5
    go_wp2_with fail
    refine (take_any a0 n0 c0 ys w4 hy4).mono ?_
    rintro e w5 ⟨⟨a5, c5, rfl, r5⟩, b5⟩
    rw [← HT2.out, ← HF2.out, ← HK2.out, ← HG2.out, ← HB2.out, ← Hm2.out]
    rw [← HB2.out, ← Hm2.out] at r5
    have hy5 := hy4.below b5
    have bb5 : Below w.heap.size w w5 := bb4.trans (b5.mono bb4.size)
    clear hy4 bb4 b5
    obtain ⟨w6, hw6⟩ : ∃ w6, w6 = w5.alloc (.cells #[.int .u64 (T2 : Nat), .int .u64 (F2 : Nat), .int .u16 (K2 : Nat), .slice a5 m2 c5] 26) := ⟨_, rfl⟩
    have b56 : Below w5.heap.size w5 w6 := by rw [hw6]; exact (Below.refl _ _).alloc (Nat.le_refl _) _
    have r6 := r5.below b56
    have hy6 := hy5.below b56
    have bb6 : Below w.heap.size w w6 := bb5.trans (b56.mono bb5.size)
    clear r5 hy5 b56 bb5
    go_wp2_with fail
    rw [← hw6]
    clear hw6
    refine (put_any T2 F2 K2 a5 m2 c5 B2 w6 hT2b hF2b hK2b r6).mono ?_
    rintro e w7 ⟨⟨a7, c7, rfl, o7⟩, b7⟩
    rw [← HE2.out, ← HL2.out, ← Hl2.out]
    rw [← HL2.out, ← Hl2.out] at o7
    have hy7 := hy6.below b7
    have bb7 : Below w.heap.size w w7 := bb6.trans (b7.mono bb6.size)
    clear hy6 bb6 b7 r6
    go_wp2_with fail
    refine (live8_any w7).mono ?_
    rintro e w8 ⟨rfl, b8⟩
    have hy8 := hy7.below b8
    have r8 := (o7.below b8).sl (by omega)
    have bb8 : Below w.heap.size w w8 := bb7.trans (b8.mono bb7.size)
    clear hy7 bb7 b8 o7
    by_cases hG0 : G2 = 0
    · obtain ⟨g1, g2⟩ := HC.out hG0
      have k1 := conv_str r8
      have k2 := conv_str hy8
      rw [g2] at k1
      subst hG0
      subst g1
      clear r8 hy8
      go_wp2
      go_ret
      exact ⟨rfl, bb8⟩
    · have hg1 : ¬ (G2 : Int) = 0 := by omega
      have hg2 : ((G2 : Int) != 0) = true := by simpa using hg1
      go_wp2
      go_ret
      exact ⟨rfl, bb8⟩
  case neg =>
    have hne : ¬ (E : Int) = 0 := by omega
    have hne2 : ((E : Int) == 0) = false := by simpa using hne
    go_wp2_with fail
    rw [← hw3]
    clear hw3
    have hy4 := hy3
    have bb4 := bb3
    clear hy3 bb3 hs3 r3 HA HT HF HK HB Hm HG
    obtain ⟨w4, hw4⟩ : ∃ w4, w4 = w3 := ⟨_, rfl⟩
    rw [← hw4] at hy4 bb4 ⊢
    clear hw4
    refine (take_any a0 n0 c0 ys w4 hy4).mono ?_
    rintro e w5 ⟨⟨a5, c5, rfl, r5⟩, b5⟩
    rw [← HT2.out, ← HF2.out, ← HK2.out, ← HG2.out, ← HB2.out, ← Hm2.out]
    rw [← HB2.out, ← Hm2.out] at r5
    have hy5 := hy4.below b5
    have bb5 : Below w.heap.size w w5 := bb4.trans (b5.mono bb4.size)
    clear hy4 bb4 b5
    obtain ⟨w6, hw6⟩ : ∃ w6, w6 = w5.alloc (.cells #[.int .u64 (T2 : Nat), .int .u64 (F2 : Nat), .int .u16 (K2 : Nat), .slice a5 m2 c5] 26) := ⟨_, rfl⟩
    have b56 : Below w5.heap.size w5 w6 := by rw [hw6]; exact (Below.refl _ _).alloc (Nat.le_refl _) _
    have r6 := r5.below b56
    have hy6 := hy5.below b56
    have bb6 : Below w.heap.size w w6 := bb5.trans (b56.mono bb5.size)
    clear r5 hy5 b56 bb5
    go_wp2_with fail
    rw [← hw6]
    clear hw6
    refine (put_any T2 F2 K2 a5 m2 c5 B2 w6 hT2b hF2b hK2b r6).mono ?_
    rintro e w7 ⟨⟨a7, c7, rfl, o7⟩, b7⟩
    rw [← HE2.out, ← HL2.out, ← Hl2.out]
    rw [← HL2.out, ← Hl2.out] at o7
    have hy7 := hy6.below b7
    have bb7 : Below w.heap.size w w7 := bb6.trans (b7.mono bb6.size)
    clear hy6 bb6 b7 r6
    go_wp2_with fail
    refine (live8_any w7).mono ?_
    rintro e w8 ⟨rfl, b8⟩
    have hy8 := hy7.below b8
    have r8 := (o7.below b8).sl (by omega)
    have bb8 : Below w.heap.size w w8 := bb7.trans (b8.mono bb7.size)
    clear hy7 bb7 b8 o7
    by_cases hG0 : G2 = 0
    · obtain ⟨g1, g2⟩ := HC.out hG0
      have k1 := conv_str r8
      have k2 := conv_str hy8
      rw [g2] at k1
      subst hG0
      subst g1
      clear r8 hy8
      go_wp2
      go_ret
      exact ⟨rfl, bb8⟩
    · have hg1 : ¬ (G2 : Int) = 0 := by omega
      have hg2 : ((G2 : Int) != 0) = true := by simpa using hg1
      go_wp2
      go_ret
      exact ⟨rfl, bb8⟩
end Go.Proofs.Ytnmjoidafgafjaa
