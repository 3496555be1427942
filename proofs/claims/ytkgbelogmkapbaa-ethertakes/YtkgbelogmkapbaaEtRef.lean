/- What the reference's Take and Same answer. -/
import Derived.Test.YtkgbelogmkapbaaEtTake
import Derived.Test.YtkgbelogmkapbaaRefNum
import Derived.Test.YtkgbelogmkapbaaStr
namespace Go.Proofs.Ytkgbelogmkapbaa
open Go.RowKit
set_option maxRecDepth 100000 in
set_option maxHeartbeats 2000000 in
theorem number_any (a : Option Addr) (n c : Nat) (zs : List Nat) (p k : Int) (w : World) (hs : Sl w a n c zs) :
    Calls Try.prog 27 #[.slice a n c, .int .i64 p, .int .i64 k] w fun e w' => e = .returned (.int .u64 (numV zs p k : Nat)) ∧ w' = w := by
  have hn := refnum_any a n c zs p k w hs
  generalize numV zs p k = r at *
  go_enter Try.func27, Try.ntmps27
  go_wp2_with fail
  refine hn.mono ?_
  rintro e w' ⟨rfl, hw'⟩
  subst w'
  go_wp2
  go_ret
  exact ⟨rfl, rfl⟩
theorem number_at (a : Option Addr) (n c : Nat) (zs : List Nat) (p k : Int) (r : Nat) (hr : numV zs p k = r) (w : World) (hs : Sl w a n c zs) (v1 v2 v3 : Value) (e1 : v1 = .slice a n c) (e2 : v2 = .int .i64 p) (e3 : v3 = .int .i64 k) :
    Calls Try.prog 27 #[v1, v2, v3] w fun e w' => e = .returned (.int .u64 (r : Nat)) ∧ w' = w := by
  subst e1 e2 e3 hr
  exact number_any a n c zs p k w hs
theorem Stc.there {w : World} {q : Nat} {cs : List Value} (h : Stc w q cs) : w.there q 0 cs.length := fun j hj => by
  rw [Nat.zero_add]
  exact ⟨by rw [h.cell j _ (List.getElem?_eq_getElem hj)]; rfl, h.free j⟩
set_option maxRecDepth 100000 in
set_option maxHeartbeats 2000000 in
theorem rtake_any (a : Option Addr) (n c : Nat) (zs : List Nat) (w : World) (hs : Sl w a n c zs) :
    Calls Try.prog 13 #[.slice a n c] w fun e w' => TkP zs w e w' := by
  have hl := hs.len
  have hb0 : Below w.heap.size w (w.alloc (.cells #[.int .u64 0, .int .u64 0, .int .u16 0, .slice none 0 0] 26)) := (Below.refl _ _).alloc (Nat.le_refl _) _
  have hR0 := Stc.new w [.int .u64 0, .int .u64 0, .int .u16 0, .slice none 0 0] 26 (w.alloc (.cells #[.int .u64 0, .int .u64 0, .int .u16 0, .slice none 0 0] 26)) rfl
  by_cases h1 : n < 14
  · have hn1 : (n : Int) < 14 := by omega
    have HE : Hid (tkE zs = 3) := by show _ = _; unfold tkE; rw [if_pos (by omega)]
    have HB : Hid (tkB zs = []) := by show _ = _; unfold tkB; rw [HE.out]; rfl
    have HN : Hid (∀ p k, tkN zs p k = 0) := fun p k => by unfold tkN; rw [HE.out]; rfl
    have HRG := (show Hid _ from hR0.range)
    have HBB := (show Hid _ from hb0)
    clear hR0 hb0
    go_enter Try.func13, Try.ntmps13
    go_wp2
    try simp only [Exit.inBlock, Exit.then]
    refine bodyPost_ret (results_cellE2 rfl _ _ w.heap.size 0 [.int .u64 0, .int .u64 0, .int .u16 0, .slice none 0 0] _ rfl HRG.out Try.underlying26 rfl (by kernel_rfl)) rfl ?_
    refine ⟨⟨none, 0, ?_, ?_⟩, HBB.out⟩
    · rw [HN.out, HN.out, HN.out, HE.out, HB.out]; rfl
    · rw [HB.out]; exact SlK.nil _ _ _ (by omega)
  · by_cases h2 : 1514 < n
    · have hn1 : ¬ (n : Int) < 14 := by omega
      have hn2 : (1514 : Int) < n := by omega
      have HE : Hid (tkE zs = 6) := by show _ = _; unfold tkE; rw [if_neg (by omega), if_pos (by omega)]
      have HB : Hid (tkB zs = []) := by show _ = _; unfold tkB; rw [HE.out]; rfl
      have HN : Hid (∀ p k, tkN zs p k = 0) := fun p k => by unfold tkN; rw [HE.out]; rfl
      have HRG := (show Hid _ from hR0.range)
      have HBB := (show Hid _ from hb0)
      clear hR0 hb0
      go_enter Try.func13, Try.ntmps13
      go_wp2
      try simp only [Exit.inBlock, Exit.then]
      refine bodyPost_ret (results_cellE2 rfl _ _ w.heap.size 0 [.int .u64 0, .int .u64 0, .int .u16 0, .slice none 0 0] _ rfl HRG.out Try.underlying26 rfl (by kernel_rfl)) rfl ?_
      refine ⟨⟨none, 0, ?_, ?_⟩, HBB.out⟩
      · rw [HN.out, HN.out, HN.out, HE.out, HB.out]; rfl
      · rw [HB.out]; exact SlK.nil _ _ _ (by omega)
    · have hn1 : ¬ (n : Int) < 14 := by omega
      have hn2 : ¬ (1514 : Int) < n := by omega
      obtain ⟨W0, hW0⟩ : ∃ W0, W0 = w.alloc (.cells #[.int .u64 0, .int .u64 0, .int .u16 0, .slice none 0 0] 26) := ⟨_, rfl⟩
      rw [← hW0] at hb0 hR0
      have hs0 := hs.below hb0
      have hzW : W0.heap.size = w.heap.size + 1 := by rw [hW0]; simp
      have HZW := (show Hid _ from hzW)
      have hkb := numV_lt zs 12 2 hs.bnd
      have n12 := fun W (h : Sl W a n c zs) => number_any a n c zs 12 2 W h
      have n0 := fun W (h : Sl W a n c zs) => number_any a n c zs 0 6 W h
      have n6 := fun W (h : Sl W a n c zs) => number_any a n c zs 6 6 W h
      obtain ⟨T, hT⟩ : ∃ T, T = numV zs 0 6 := ⟨_, rfl⟩
      obtain ⟨F, hF⟩ : ∃ F, F = numV zs 6 6 := ⟨_, rfl⟩
      obtain ⟨K, hK⟩ : ∃ K, K = numV zs 12 2 := ⟨_, rfl⟩
      rw [← hT] at n0
      rw [← hF] at n6
      rw [← hK] at n12
      have HT := (show Hid _ from hT)
      have HF := (show Hid _ from hF)
      have HK := (show Hid _ from hK)
      have hk2 : K < 65536 := by rw [hK]; exact hkb
      have hwq : w.heap.size < W0.heap.size := hR0.lt
      clear hT hF hK hkb hzW
      have r0 := hR0.cell 0 _ rfl
      have r1 := hR0.cell 1 _ rfl
      have r2 := hR0.cell 2 _ rfl
      have r3 := hR0.cell 3 _ rfl
      have r0f := hR0.free 0
      have r1f := hR0.free 1
      have r2f := hR0.free 2
      have r3f := hR0.free 3
      by_cases h3 : K < 1536
      · have hk3 : (K : Int) < 1536 := by omega
        have HE : Hid (tkE zs = 4) := by show _ = _; unfold tkE; rw [if_neg (by omega), if_neg (by omega), if_pos (by rw [← HK.out]; exact h3)]
        have HB : Hid (tkB zs = []) := by show _ = _; unfold tkB; rw [HE.out]; rfl
        have HN : Hid (∀ p k, tkN zs p k = 0) := fun p k => by unfold tkN; rw [HE.out]; rfl
        have hR4 := (((hR0.set 0 (.int .u64 0)).set 1 (.int .u64 0)).set 2 (.int .u16 0)).set 3 (.slice none 0 0)
        have hb4 := (((hb0.setCell (p := ⟨w.heap.size, 0, none⟩) (Nat.le_refl _) (.int .u64 0)).setCell (p := ⟨w.heap.size, 1, none⟩) (Nat.le_refl _) (.int .u64 0)).setCell (p := ⟨w.heap.size, 2, none⟩) (Nat.le_refl _) (.int .u16 0)).setCell (p := ⟨w.heap.size, 3, none⟩) (Nat.le_refl _) (.slice none 0 0)
        have HRG := (show Hid _ from hR4.range)
        have HBB := (show Hid _ from hb4)
        clear hR4 hb4 hR0 hb0 n0 n6
        go_enter Try.func13, Try.ntmps13
        go_wp2_with fail
        rw [← hW0]
        clear hW0
        refine (n12 W0 hs0).mono ?_
        rintro e w' ⟨rfl, hw'⟩
        subst w'
        go_wp2
        try simp only [Exit.inBlock, Exit.then]
        refine bodyPost_ret (results_cellE2 rfl _ _ w.heap.size 0 [.int .u64 0, .int .u64 0, .int .u16 0, .slice none 0 0] _ rfl HRG.out Try.underlying26 rfl (by kernel_rfl)) rfl ?_
        refine ⟨⟨none, 0, ?_, ?_⟩, HBB.out⟩
        · rw [HN.out, HN.out, HN.out, HE.out, HB.out]; rfl
        · rw [HB.out]; exact SlK.nil _ _ _ (by omega)
      · have hk3 : ¬ (K : Int) < 1536 := by omega
        have HE : Hid (tkE zs = 0) := by show _ = _; unfold tkE; rw [if_neg (by omega), if_neg (by omega), if_neg (by rw [← HK.out]; exact h3)]
        have HB : Hid (tkB zs = zs.drop 14) := by show _ = _; unfold tkB; rw [HE.out]; rfl
        have HN : Hid (∀ p k : Nat, tkN zs p k = numV zs p k) := fun p k => by unfold tkN; rw [HE.out]; rfl
        rcases hs.at_ with h00 | ⟨b, off, rfl, hltb, _⟩
        · omega
        obtain ⟨ab, hab, hab2⟩ := slice_from b off n c 14 14 rfl (by omega) hs.cap
        have hsd0 : Sl W0 (some ab) (n - 14) (c - 14) (zs.drop 14) := hs0.dropE 14 (by omega) ab hab2
        have hdl : (zs.drop 14).length = n - 14 := hsd0.len
        have hkm : (K : Int) % 65536 = (K : Int) := by omega
        have hkw : IntKind.u16.wrap (K : Int) = (K : Int) := by rw [IntKind.wrap_u16]; omega
        go_enter Try.func13, Try.ntmps13
        go_wp2_with fail
        rw [← hW0]
        clear hW0
        refine (n12 W0 hs0).mono ?_
        rintro e w' ⟨rfl, hw'⟩
        subst w'
        have hsD := hs0.below (Below.refl _ _).drew
        have hsA := hsD.alloc (.cells #[] 5)
        have hsdA := (hsd0.below (Below.refl _ _).drew).alloc (.cells #[] 5)
        have hRd := hR0.below (Below.refl _ _).drew
        have hRA := hRd.below ((Below.refl _ _).alloc (Nat.le_refl _) (.cells #[] 5))
        have hoA := own_empty W0.drew
        have hzd : W0.drew.heap.size = W0.heap.size := rfl
        clear n0 n6 n12 r0 r1 r2 r3 r0f r1f r2f r3f
        go_wp2_with fail
        go_region_held3 (fun w' => Sl w' (some ⟨b, off, none⟩) n c zs ∧ w'.there w.heap.size 0 4) (first | exact ⟨hsD, hRd.there⟩ | exact ⟨hsA, hRA.there⟩ | exact ⟨hs5, hR5.there⟩ | exact ⟨hs6, hR6.there⟩ | fail) (first
          | (go_at_call 27; first
              | (refine (number_at _ n c zs 0 6 T HT.out.symm _ (by first | exact hsD | exact hsA) _ _ _ (by rfl) (by rfl) (by rfl)).mono ?_; rintro e w' ⟨rfl, hw'⟩; subst w')
              | (refine (number_at _ n c zs 6 6 F HF.out.symm _ (by first | exact hsD | exact hsA) _ _ _ (by rfl) (by rfl) (by rfl)).mono ?_; rintro e w' ⟨rfl, hw'⟩; subst w')
              | (refine (number_at _ n c zs 12 2 K HK.out.symm _ (by first | exact hsD | exact hsA) _ _ _ (by rfl) (by rfl) (by rfl)).mono ?_; rintro e w' ⟨rfl, hw'⟩; subst w')
              | fail)
          | (refine app_step2 (by rfl) _ _ (by rfl) W0.heap.size _ 0 0 [] (by rfl) hoA _ (n - 14) (c - 14) (zs.drop 14) (by rfl) hsdA (by omega) (by simp) ?_; intro a5 c5 w5 ho5 hg5 hpl5; have hbA5 : Below W0.heap.size W0 w5 := (((Below.refl _ _).drew).alloc (by simp) _).trans (hoA.up hg5 (by simp)); have hs5 := hs0.below hbA5; have hR5 := hR0.below hbA5; have z0 := hR5.cell 0 _ rfl; have z1 := hR5.cell 1 _ rfl; have z2 := hR5.cell 2 _ rfl; have z3 := hR5.cell 3 _ rfl; have z0f := hR5.free 0; have z1f := hR5.free 1; have z2f := hR5.free 2; have z3f := hR5.free 3; have hR6 := (((hR5.set 0 (.int .u64 (T : Nat))).set 1 (.int .u64 (F : Nat))).set 2 (.int .u16 (K : Nat))).set 3 (.slice a5 (n - 14) c5); have hs6 := (((hs5.setOtherE w.heap.size 0 (.int .u64 (T : Nat)) (by omega)).setOtherE w.heap.size 1 (.int .u64 (F : Nat)) (by omega)).setOtherE w.heap.size 2 (.int .u16 (K : Nat)) (by omega)).setOtherE w.heap.size 3 (.slice a5 (n - 14) c5) (by omega))
          | fail)
        all_goals
          have hb06 := ((((hb0.trans (hbA5.mono hb0.size)).setCell (p := ⟨w.heap.size, 0, none⟩) (Nat.le_refl _) (.int .u64 (T : Nat))).setCell (p := ⟨w.heap.size, 1, none⟩) (Nat.le_refl _) (.int .u64 (F : Nat))).setCell (p := ⟨w.heap.size, 2, none⟩) (Nat.le_refl _) (.int .u16 (K : Nat))).setCell (p := ⟨w.heap.size, 3, none⟩) (Nat.le_refl _) (.slice a5 (n - 14) c5)
          have ho5' : OwnB w5 W0.heap.size a5 (n - 14) c5 (zs.drop 14) := by simpa using ho5
          have hsr := ho5'.sl (by omega)
          have HSF : Hid (Sl ((((w5.setCell ⟨w.heap.size, 0, none⟩ (.int .u64 (T : Nat))).setCell ⟨w.heap.size, 1, none⟩ (.int .u64 (F : Nat))).setCell ⟨w.heap.size, 2, none⟩ (.int .u16 (K : Nat))).setCell ⟨w.heap.size, 3, none⟩ (.slice a5 (n - 14) c5)) a5 (n - 14) c5 (zs.drop 14)) := by
            rcases hsr.at_ with h00 | ⟨g5, o5, rfl, _, _⟩
            · exact ⟨hsr.len, hsr.cap, hsr.room, hsr.small, hsr.nz, hsr.bnd, .inl h00⟩
            · have hg5 : W0.heap.size ≤ g5 := (ho5'.own.lt g5 rfl).1
              exact (((hsr.setOtherE w.heap.size 0 _ (by omega)).setOtherE w.heap.size 1 _ (by omega)).setOtherE w.heap.size 2 _ (by omega)).setOtherE w.heap.size 3 _ (by omega)
          have HRG := (show Hid _ from hR6.range)
          have HBB := (show Hid _ from hb06)
          have HDL := (show Hid _ from hdl)
          clear hR6 hb06 hR5 ho5 ho5' hsr hs6 hs5 hRA hRd hsA hsD hsdA hoA hdl z0 z1 z2 z3 z0f z1f z2f z3f hbA5 hg5 hpl5
          go_wp2
          try simp only [Exit.inBlock, Exit.then]
          refine bodyPost_ret (results_cellE2 rfl _ _ w.heap.size 0 [.int .u64 (T : Nat), .int .u64 (F : Nat), .int .u16 (K : Nat), .slice a5 (n - 14) c5] _ rfl HRG.out Try.underlying26 rfl (by kernel_rfl)) rfl ?_
          refine ⟨⟨a5, c5, ?_, ?_⟩, HBB.out⟩
          · rw [HN.out, HN.out, HN.out, HE.out, HB.out, HDL.out]
            rw [HT.out, HF.out, HK.out]
            rfl
          · rw [HB.out, HDL.out]; exact HSF.out
set_option maxRecDepth 100000 in
set_option maxHeartbeats 2000000 in
theorem rsame_any (t f k : Nat) (a : Option Addr) (n c : Nat) (zs : List Nat) (a2 : Option Addr) (c2 : Nat) (w : World) (h1 : Sl w a n c zs) (h2 : Sl w a2 n c2 zs) :
    Calls Try.prog 14 #[.agg #[.int .u64 (t : Nat), .int .u64 (f : Nat), .int .u16 (k : Nat), .slice a n c], .agg #[.int .u64 (t : Nat), .int .u64 (f : Nat), .int .u16 (k : Nat), .slice a2 n c2]] w fun e w' => e = .returned (.bool true) ∧ Below w.heap.size w w' := by
  have hb : Below w.heap.size w ((w.alloc (.cells #[.int .u64 (t : Nat), .int .u64 (f : Nat), .int .u16 (k : Nat), .slice a n c] 26)).alloc (.cells #[.int .u64 (t : Nat), .int .u64 (f : Nat), .int .u16 (k : Nat), .slice a2 n c2] 26)) := ((Below.refl _ _).alloc (Nat.le_refl _) _).alloc (by simp) _
  have c1 := conv_str (h1.below hb)
  have c2' := conv_str (h2.below hb)
  generalize strOf zs = S at *
  go_enter Try.func14, Try.ntmps14
  go_wp2
  go_ret
  exact ⟨rfl, hb⟩
end Go.Proofs.Ytkgbelogmkapbaa
