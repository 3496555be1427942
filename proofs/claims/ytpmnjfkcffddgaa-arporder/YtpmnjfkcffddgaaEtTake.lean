/- What ether.Take answers. -/
import Derived.Test.YtpmnjfkcffddgaaEtCut
import Derived.Test.YtpmnjfkcffddgaaEtArp
import Derived.Test.YtpmnjfkcffddgaaEtArp
import Derived.Test.YtpmnjfkcffddgaaEtArp
import Derived.Test.YtpmnjfkcffddgaaCopy
import Derived.Test.YtpmnjfkcffddgaaSlc
import Derived.Deep.RegionHeld3
namespace Go.Proofs.Ytpmnjfkcffddgaa
open Go.RowKit
def tkE (zs : List Nat) : Nat := if zs.length < 14 then 3 else if 1514 < zs.length then 6 else if numV zs 12 2 < 1536 then 4 else 0
def tkB (zs : List Nat) : List Nat := if tkE zs = 0 then zs.drop 14 else []
def tkN (zs : List Nat) (p k : Nat) : Nat := if tkE zs = 0 then numV zs (p : Int) (k : Int) else 0
/-- A frame and an error are answered. -/
structure TkP (zs : List Nat) (w : World) (e : Ending) (w' : World) : Prop where
  ans : ∃ a c, e = .returned (.tuple #[.agg #[.int .u64 (tkN zs 0 6 : Nat), .int .u64 (tkN zs 6 6 : Nat), .int .u16 (tkN zs 12 2 : Nat), .slice a (tkB zs).length c], .int .i64 (tkE zs : Nat)]) ∧ Sl w' a (tkB zs).length c (tkB zs)
  bel : Below w.heap.size w w'
theorem SlK.dropE {k : IntKind} {M : Nat} {w : World} {b off : Nat} {n c : Nat} {zs : List Nat} (h : SlK k M w (some ⟨b, off, none⟩) n c zs) (j : Nat) (hj : j ≤ n) (a' : Addr) (ha : j < n → a' = ⟨b, off + j, none⟩) : SlK k M w (some a') (n - j) (c - j) (zs.drop j) := by
  obtain ⟨h1, h2, h3, h4, h5, h6, h7⟩ := h
  refine ⟨by simp; omega, by omega, by omega, by omega, (fun h => by cases h), fun i => ?_, ?_⟩
  · have := h6 (j + i)
    simpa [List.getD_eq_getElem?_getD] using this
  · rcases h7 with h7 | ⟨b', off', e, hlt, hc⟩
    · exact .inl (by omega)
    · by_cases hjn : j < n
      · injection e with e
        injection e with e1 e2
        subst e1 e2
        refine .inr ⟨b, off + j, by rw [ha hjn], hlt, fun i hi => ?_⟩
        rw [Nat.add_assoc, hc (j + i) (by omega)]
        simp [List.getD_eq_getElem?_getD]
      · exact .inl (by omega)
theorem SlK.setOtherE {k : IntKind} {M : Nat} {w : World} {b off n c : Nat} {zs : List Nat} (h : SlK k M w (some ⟨b, off, none⟩) n c zs) (g o : Nat) (v : Value) (hne : b ≠ g) : SlK k M (w.setCell ⟨g, o, none⟩ v) (some ⟨b, off, none⟩) n c zs := by
  refine ⟨h.len, h.cap, h.room, h.small, h.nz, h.bnd, ?_⟩
  rcases h.at_ with h0 | ⟨b', off', e, hlt, hc⟩
  · exact .inl h0
  · injection e with e
    injection e with e1 e2
    subst e1 e2
    refine .inr ⟨b, off, rfl, by simpa [World.setCell] using hlt, fun i hi => ?_⟩
    rw [World.cell?_setCell_other _ _ _ _ (by intro e2; injection e2 with e3 _; exact hne e3.symm)]
    exact hc i hi
set_option maxRecDepth 100000 in
set_option maxHeartbeats 2000000 in
theorem take_any (a : Option Addr) (n c : Nat) (zs : List Nat) (w : World) (hs : Sl w a n c zs) :
    Calls Try.prog 17 #[.slice a n c] w fun e w' => TkP zs w e w' := by
  have hl := hs.len
  have hb0 : Below w.heap.size w (w.alloc (.cells #[.int .u64 0, .int .u64 0, .int .u16 0, .slice none 0 0] 51)) := (Below.refl _ _).alloc (Nat.le_refl _) _
  have hR0 := Stc.new w [.int .u64 0, .int .u64 0, .int .u16 0, .slice none 0 0] 51 (w.alloc (.cells #[.int .u64 0, .int .u64 0, .int .u16 0, .slice none 0 0] 51)) rfl
  by_cases h1 : n < 14
  · have hn1 : (n : Int) < 14 := by omega
    have HE : Hid (tkE zs = 3) := by show _ = _; unfold tkE; rw [if_pos (by omega)]
    have HB : Hid (tkB zs = []) := by show _ = _; unfold tkB; rw [HE.out]; rfl
    have HN : Hid (∀ p k, tkN zs p k = 0) := fun p k => by unfold tkN; rw [HE.out]; rfl
    have HRG := (show Hid _ from hR0.range)
    have HBB := (show Hid _ from hb0)
    clear hR0 hb0
    go_enter Try.func17, Try.ntmps17
    go_wp2
    try simp only [Exit.inBlock, Exit.then]
    refine bodyPost_ret (results_cellE2 rfl _ _ w.heap.size 0 [.int .u64 0, .int .u64 0, .int .u16 0, .slice none 0 0] _ rfl HRG.out Try.underlying51 rfl (by kernel_rfl)) rfl ?_
    refine ⟨⟨none, 0, ?_, ?_⟩, HBB.out⟩
    · rw [HN.out, HN.out, HN.out, HE.out, HB.out]; rfl
    · rw [HB.out]; exact SlK.nil _ _ _ (by omega)
  · by_cases h2 : 1514 < n
    · have hn1 : ¬ (n : Int) < 14 := by omega
      have hn2 : (1514 : Int) < n := by omega
      have HE : Hid (tkE zs = 6) := by show _ = _; unfold tkE; rw [if_neg (by omega), if_pos (by omega)]
      have HB : Hid (tkB zs = []) := by show _ = _; unfold tkB; rw [HE.out]; rfl
      have HN : Hid (∀ p k, tkN zs p k = 0) := fun p k => by unfold tkN; rw [HE.out]; rfl
      have HRG := (show Hid _ from hR0.range)
      have HBB := (show Hid _ from hb0)
      clear hR0 hb0
      go_enter Try.func17, Try.ntmps17
      go_wp2
      try simp only [Exit.inBlock, Exit.then]
      refine bodyPost_ret (results_cellE2 rfl _ _ w.heap.size 0 [.int .u64 0, .int .u64 0, .int .u16 0, .slice none 0 0] _ rfl HRG.out Try.underlying51 rfl (by kernel_rfl)) rfl ?_
      refine ⟨⟨none, 0, ?_, ?_⟩, HBB.out⟩
      · rw [HN.out, HN.out, HN.out, HE.out, HB.out]; rfl
      · rw [HB.out]; exact SlK.nil _ _ _ (by omega)
    · have hn1 : ¬ (n : Int) < 14 := by omega
      have hn2 : ¬ (1514 : Int) < n := by omega
      obtain ⟨W0, hW0⟩ : ∃ W0, W0 = w.alloc (.cells #[.int .u64 0, .int .u64 0, .int .u16 0, .slice none 0 0] 51) := ⟨_, rfl⟩
      rw [← hW0] at hb0 hR0
      have hs0 := hs.below hb0
      have hzW : W0.heap.size = w.heap.size + 1 := by rw [hW0]; simp
      obtain ⟨W1, hW1⟩ : ∃ W1, W1 = W0.alloc (.cells #[.slice a n c] 29) := ⟨_, rfl⟩
      obtain ⟨W2, hW2⟩ : ∃ W2, W2 = W1.alloc (.cells #[.int .i64 0] 3) := ⟨_, rfl⟩
      have hz1 : W1.heap.size = W0.heap.size + 1 := by rw [hW1]; simp
      have b01 : Below W0.heap.size W0 W1 := by rw [hW1]; exact (Below.refl _ _).alloc (Nat.le_refl _) _
      have b12 : Below W1.heap.size W1 W2 := by rw [hW2]; exact (Below.refl _ _).alloc (Nat.le_refl _) _
      have b02 : Below W0.heap.size W0 W2 := b01.trans (b12.mono b01.size)
      have sb := (Stc.new W0 [.slice a n c] 29 W1 hW1).below b12
      have st := Stc.new W1 [.int .i64 0] 3 W2 hW2
      have hec := eachHead_cut W0 W0.heap.size W1.heap.size a n c zs W2 hs0 sb st (by omega) b01.size b02
      have hkb := numV_lt zs 12 2 hs.bnd
      have HZW := (show Hid _ from hzW)
      have HZ1 := (show Hid _ from hz1)
      have HW1 := (show Hid _ from hW1)
      have HW2 := (show Hid _ from hW2)
      clear hW1 hW2 hzW hz1
      go_enter Try.func17, Try.ntmps17
      go_wp2_with fail
      rw [← hW0]
      clear hW0
      refine (cutting_any a n c W0).mono ?_
      rintro e w1 ⟨rfl, hw1⟩
      rw [← HW1.out, ← HW2.out] at hw1
      subst hw1
      rw [← HZ1.out]
      go_wp2_with fail
      refine hec.mono ?_
      rintro e w3 ⟨rfl, hb3⟩
      have hR3 := hR0.below hb3
      have hs3 := hs0.below hb3
      have hb03 : Below w.heap.size w w3 := hb0.trans (hb3.mono hb0.size)
      obtain ⟨T, hT⟩ : ∃ T, T = numV zs 0 6 := ⟨_, rfl⟩
      obtain ⟨F, hF⟩ : ∃ F, F = numV zs 6 6 := ⟨_, rfl⟩
      obtain ⟨K, hK⟩ : ∃ K, K = numV zs 12 2 := ⟨_, rfl⟩
      rw [← hT, ← hF, ← hK]
      have HT := (show Hid _ from hT)
      have HF := (show Hid _ from hF)
      have HK := (show Hid _ from hK)
      have hk2 : K < 65536 := by rw [hK]; exact hkb
      have hwq : w.heap.size < w3.heap.size := hR3.lt
      clear hT hF hK hkb hec b01 b12 b02 sb st
      by_cases h3 : K < 1536
      · have hk3 : (K : Int) < 1536 := by omega
        have HE : Hid (tkE zs = 4) := by show _ = _; unfold tkE; rw [if_neg (by omega), if_neg (by omega), if_pos (by rw [← HK.out]; exact h3)]
        have HB : Hid (tkB zs = []) := by show _ = _; unfold tkB; rw [HE.out]; rfl
        have HN : Hid (∀ p k, tkN zs p k = 0) := fun p k => by unfold tkN; rw [HE.out]; rfl
        have r0 := hR3.cell 0 _ rfl
        have r1 := hR3.cell 1 _ rfl
        have r2 := hR3.cell 2 _ rfl
        have r3 := hR3.cell 3 _ rfl
        have r0f := hR3.free 0
        have r1f := hR3.free 1
        have r2f := hR3.free 2
        have r3f := hR3.free 3
        have hR4 := ((((hR3.set 0 (.int .u64 0)).set 1 (.int .u64 0)).set 2 (.int .u16 0)).set 3 (.slice none 0 0)).below ((Below.refl _ _).alloc (Nat.le_refl _) (.cells #[.int .u64 (T : Nat), .int .u64 (F : Nat), .int .u16 (K : Nat), .slice none 0 0] 51))
        have hb4 := ((((hb03.setCell (p := ⟨w.heap.size, 0, none⟩) (Nat.le_refl _) (.int .u64 0)).setCell (p := ⟨w.heap.size, 1, none⟩) (Nat.le_refl _) (.int .u64 0)).setCell (p := ⟨w.heap.size, 2, none⟩) (Nat.le_refl _) (.int .u16 0)).setCell (p := ⟨w.heap.size, 3, none⟩) (Nat.le_refl _) (.slice none 0 0)).alloc (by simp [World.setCell]; omega) (.cells #[.int .u64 (T : Nat), .int .u64 (F : Nat), .int .u16 (K : Nat), .slice none 0 0] 51)
        have HRG := (show Hid _ from hR4.range)
        have HBB := (show Hid _ from hb4)
        clear hR4 hb4 hR3 hb03
        go_wp2
        try simp only [Exit.inBlock, Exit.then]
        refine bodyPost_ret (results_cellE2 rfl _ _ w.heap.size 0 [.int .u64 0, .int .u64 0, .int .u16 0, .slice none 0 0] _ rfl HRG.out Try.underlying51 rfl (by kernel_rfl)) rfl ?_
        refine ⟨⟨none, 0, ?_, ?_⟩, HBB.out⟩
        · rw [HN.out, HN.out, HN.out, HE.out, HB.out]; rfl
        · rw [HB.out]; exact SlK.nil _ _ _ (by omega)
      · have hk3 : ¬ (K : Int) < 1536 := by omega
        have HE : Hid (tkE zs = 0) := by show _ = _; unfold tkE; rw [if_neg (by omega), if_neg (by omega), if_neg (by rw [← HK.out]; exact h3)]
        have HB : Hid (tkB zs = zs.drop 14) := by show _ = _; unfold tkB; rw [HE.out]; rfl
        have HN : Hid (∀ p k : Nat, tkN zs p k = numV zs p k) := fun p k => by unfold tkN; rw [HE.out]; rfl
        rcases hs.at_ with h00 | ⟨b, off, rfl, hltb, _⟩
        · omega
        obtain ⟨ab, hab, hab2⟩ := slice_from b off n c 14 14 rfl (by omega) hs.cap
        have hsd3 : Sl w3 (some ab) (n - 14) (c - 14) (zs.drop 14) := hs3.dropE 14 (by omega) ab hab2
        obtain ⟨w4, hw4⟩ : ∃ w4, w4 = w3.alloc (.cells #[.int .u64 (T : Nat), .int .u64 (F : Nat), .int .u16 (K : Nat), .slice none 0 0] 51) := ⟨_, rfl⟩
        have hb34 : Below w3.heap.size w3 w4 := by rw [hw4]; exact (Below.refl _ _).alloc (Nat.le_refl _) _
        have hX4 := Stc.new w3 [.int .u64 (T : Nat), .int .u64 (F : Nat), .int .u16 (K : Nat), .slice none 0 0] 51 w4 hw4
        have hR4 := hR3.below hb34
        have hsd4 := hsd3.below hb34
        have hb04 : Below w.heap.size w w4 := hb03.trans (hb34.mono hb03.size)
        have hdl : (zs.drop 14).length = n - 14 := hsd4.len
        clear hR3 hsd3 hb34 hb03 hs3 hb3
        go_wp2_with fail
        rw [← hw4]
        clear hw4
        refine (clone_any (some ab) (n - 14) (c - 14) (zs.drop 14) w4 hsd4 (by omega)).mono ?_
        rintro e w5 ⟨a5, c5, rfl, ho5, _, hb45⟩
        have hX5 := hX4.below hb45
        have hR5 := hR4.below hb45
        have hb05 : Below w.heap.size w w5 := hb04.trans (hb45.mono hb04.size)
        have hs5 := ho5.sl (by omega)
        have hx4 := hX4.lt
        have hr4 := hR4.lt
        have x0 := hX5.cell 0 _ rfl
        have x1 := hX5.cell 1 _ rfl
        have x2 := hX5.cell 2 _ rfl
        have x3 := hX5.cell 3 _ rfl
        have x3f := hX5.free 3
        have r0 := hR5.cell 0 _ rfl
        have r1 := hR5.cell 1 _ rfl
        have r2 := hR5.cell 2 _ rfl
        have r3 := hR5.cell 3 _ rfl
        have r0f := hR5.free 0
        have r1f := hR5.free 1
        have r2f := hR5.free 2
        have r3f := hR5.free 3
        have hR6 := ((((hR5.other w3.heap.size 3 (.slice a5 (n - 14) c5) (by omega)).set 0 (.int .u64 (T : Nat))).set 1 (.int .u64 (F : Nat))).set 2 (.int .u16 (K : Nat))).set 3 (.slice a5 (n - 14) c5)
        have hb06 := ((((hb05.setCell (p := ⟨w3.heap.size, 3, none⟩) (by show w.heap.size ≤ w3.heap.size; omega) (.slice a5 (n - 14) c5)).setCell (p := ⟨w.heap.size, 0, none⟩) (Nat.le_refl _) (.int .u64 (T : Nat))).setCell (p := ⟨w.heap.size, 1, none⟩) (Nat.le_refl _) (.int .u64 (F : Nat))).setCell (p := ⟨w.heap.size, 2, none⟩) (Nat.le_refl _) (.int .u16 (K : Nat))).setCell (p := ⟨w.heap.size, 3, none⟩) (Nat.le_refl _) (.slice a5 (n - 14) c5)
        have HSF : Hid (Sl (((((w5.setCell ⟨w3.heap.size, 3, none⟩ (.slice a5 (n - 14) c5)).setCell ⟨w.heap.size, 0, none⟩ (.int .u64 (T : Nat))).setCell ⟨w.heap.size, 1, none⟩ (.int .u64 (F : Nat))).setCell ⟨w.heap.size, 2, none⟩ (.int .u16 (K : Nat))).setCell ⟨w.heap.size, 3, none⟩ (.slice a5 (n - 14) c5)) a5 (n - 14) c5 (zs.drop 14)) := by
          rcases hs5.at_ with h00 | ⟨g5, o5, rfl, _, _⟩
          · exact ⟨hs5.len, hs5.cap, hs5.room, hs5.small, hs5.nz, hs5.bnd, .inl h00⟩
          · have hg5 : w4.heap.size ≤ g5 := (ho5.own.lt g5 rfl).1
            exact ((((hs5.setOtherE w3.heap.size 3 _ (by omega)).setOtherE w.heap.size 0 _ (by omega)).setOtherE w.heap.size 1 _ (by omega)).setOtherE w.heap.size 2 _ (by omega)).setOtherE w.heap.size 3 _ (by omega)
        have HRG := (show Hid _ from hR6.range)
        have HBB := (show Hid _ from hb06)
        have HDL := (show Hid _ from hdl)
        clear hR6 hb06 hX4 hX5 hR4 hR5 hb04 hb05 hs5 ho5 hsd4 hdl hb45
        go_wp2
        try simp only [Exit.inBlock, Exit.then]
        refine bodyPost_ret (results_cellE2 rfl _ _ w.heap.size 0 [.int .u64 (T : Nat), .int .u64 (F : Nat), .int .u16 (K : Nat), .slice a5 (n - 14) c5] _ rfl HRG.out Try.underlying51 rfl (by kernel_rfl)) rfl ?_
        refine ⟨⟨a5, c5, ?_, ?_⟩, HBB.out⟩
        · rw [HN.out, HN.out, HN.out, HE.out, HB.out, HDL.out]
          rw [HT.out, HF.out, HK.out]
          rfl
        · rw [HB.out, HDL.out]; exact HSF.out
end Go.Proofs.Ytpmnjfkcffddgaa
