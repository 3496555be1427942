/- judge: gotFree. -/
import Derived.Test.YtpdnkbhgobdniaaJd5
namespace Go.Proofs.Ytpdnkbhgobdniaa
open Go.RowKit Go.MapKept Go.Maps
theorem Hd.set {w0 : World} {cb : Nat} {own : Ow} {n : Nat} {cp : Cp} {q qs : Sd} {sb mb bb : Nat} {m : Mg} {bc : List Value} {W : World} (h : Hd w0 cb own n cp q qs sb mb bb m bc W) (hne : sb ≠ bb ∧ mb ≠ bb) (j : Nat) (v : Value) : Hd w0 cb own n cp q qs sb mb bb m (bc.set j v) (W.setCell ⟨bb, j, none⟩ v) := by
  have hfs := Fr.setCell (· = bb) W ⟨bb, j, none⟩ v rfl
  refine ⟨h.ct.fr hfs (fun g hg => by rw [hg]; exact h.bB) h.bc (fun g q' i hg hQ => absurd hQ (h.no g _ hg).2.2), ?_, ?_, ?_, ?_, Nat.lt_of_lt_of_le h.ls hfs.size, Nat.lt_of_lt_of_le h.lm hfs.size, Nat.lt_of_lt_of_le h.lb hfs.size, h.no, h.bB, h.bc⟩
  · exact fun i v hv => (hfs.cell ⟨sb, 0 + i, none⟩ h.ls hne.1).trans (h.s i v hv)
  · exact fun i v hv => (hfs.cell ⟨mb, 0 + i, none⟩ h.lm hne.2).trans (h.mg i v hv)
  · intro i u hu
    rw [Nat.zero_add]
    rw [List.getElem?_set] at hu
    split at hu
    · rename_i e
      subst e
      split at hu
      · rename_i hl
        injection hu with hu
        subst hu
        have := h.b j _ (List.getElem?_eq_getElem hl)
        rw [Nat.zero_add] at this
        exact World.cell?_setCell_same' _ _ _ (by rw [this]; rfl)
      · cases hu
    · rename_i e
      rw [World.cell?_setCell_other _ _ _ _ (by intro e2; injection e2 with _ e3; exact e e3)]
      have := h.b i u hu
      rwa [Nat.zero_add] at this
  · intro i hi
    refine ⟨?_, by rw [World.frozen?_setCell]; exact (h.bt i hi).2⟩
    by_cases e : j = i
    · subst e
      have h1 := (h.bt j hi).1
      rw [Nat.zero_add] at h1 ⊢
      rw [World.cell?_setCell_same' _ _ _ h1]
      rfl
    · rw [World.cell?_setCell_other _ _ _ _ (by intro e2; injection e2 with _ e3; omega)]
      exact (h.bt i hi).1
/-- The side and the book in their boxes. -/
structure Hc (sb bb : Nat) (sc bc : List Value) (W : World) : Prop where
  s : W.rangeAt sb 0 sc
  b : W.rangeAt bb 0 bc
  ls : sb < W.heap.size
  lb : bb < W.heap.size
theorem Hc.fr {sb bb : Nat} {sc bc : List Value} {W W' : World} {Q : Nat → Prop} (h : Hc sb bb sc bc W) (hf : Fr Q W W') (h1 : ¬ Q sb) (h2 : ¬ Q bb) : Hc sb bb sc bc W' :=
  ⟨fun i v hv => (hf.cell ⟨sb, 0 + i, none⟩ h.ls h1).trans (h.s i v hv), fun i v hv => (hf.cell ⟨bb, 0 + i, none⟩ h.lb h2).trans (h.b i v hv), Nat.lt_of_lt_of_le h.ls hf.size, Nat.lt_of_lt_of_le h.lb hf.size⟩
theorem Hc.below {sb bb : Nat} {sc bc : List Value} {W W' : World} (h : Hc sb bb sc bc W) (hb : Below W.heap.size W W') : Hc sb bb sc bc W' :=
  h.fr (Fr.of_below (P := fun _ => False) hb) (fun h => h) (fun h => h)
theorem Hc.all {sb bb : Nat} {a0 a1 a2 b0 b1 b2 b3 b4 b5 b6 : Value} {W : World} (h : Hc sb bb [a0, a1, a2] [b0, b1, b2, b3, b4, b5, b6] W) :
    W.cell? ⟨sb, 0, none⟩ = some a0 ∧ W.cell? ⟨sb, 1, none⟩ = some a1 ∧ W.cell? ⟨sb, 2, none⟩ = some a2 ∧ W.cell? ⟨bb, 0, none⟩ = some b0 ∧ W.cell? ⟨bb, 1, none⟩ = some b1 ∧ W.cell? ⟨bb, 2, none⟩ = some b2 ∧ W.cell? ⟨bb, 3, none⟩ = some b3 ∧ W.cell? ⟨bb, 4, none⟩ = some b4 ∧ W.cell? ⟨bb, 5, none⟩ = some b5 ∧ W.cell? ⟨bb, 6, none⟩ = some b6 ∧ Hc sb bb [a0, a1, a2] [b0, b1, b2, b3, b4, b5, b6] W :=
  ⟨h.s 0 _ rfl, h.s 1 _ rfl, h.s 2 _ rfl, h.b 0 _ rfl, h.b 1 _ rfl, h.b 2 _ rfl, h.b 3 _ rfl, h.b 4 _ rfl, h.b 5 _ rfl, h.b 6 _ rfl, h⟩
set_option maxRecDepth 100000 in
set_option maxHeartbeats 8000000 in
theorem gotFree_any (w0 : World) (cb : Nat) (own : Ow) (n : Nat) (cp : Cp) (q : Sd) (st ssn pp : Nat) (a : Option Addr) (nn c : Nat) (zs : List Nat) (w : World) (h : Ct w0 w cb own n cp (fun _ => False)) (hk : SdK q) (h01 : q.1 = 0 ∨ q.1 = 1) (hm : (Mg.mk st ssn pp true a nn c zs).Ok w0) (hn : n ≤ 100000) :
    Calls Try.prog 25 #[.map (some cb), .agg #[.int .i64 q.1, .int .u32 (q.2.1 : Nat), .int .u32 (q.2.2 : Nat)], .agg #[.int .u16 (st : Nat), .int .u16 (ssn : Nat), .int .u32 (pp : Nat), .bool true, .slice a nn c]] w (TkP w0 cb n (gotFreeJ cp q ⟨st, ssn, pp, true, a, nn, c, zs⟩)) := by
  have hk2 := oth_K q hk h01
  have HO : Hid (∀ W v, Below w.heap.size w W → v = sdV (oth q) → Calls Try.prog 20 #[.map (some cb), v] W (OfQ w0 cb own n cp (oth q) W)) := fun W v hW hv => of2 w0 cb own n cp (oth q) W (h.below hW) hk2 v hv
  have HQ : Hid (∀ W v, v = sdV q → Calls Try.prog 30 #[v] W fun e w' => e = .returned (sdV (oth q)) ∧ Below W.heap.size W w') := fun W v hv => other_any q W h01 v hv
  have HH := (show Hid _ from h)
  clear h h01
  obtain ⟨ov, HOV⟩ : ∃ ov, Hid (ov = sdV (oth q)) := ⟨_, rfl⟩
  obtain ⟨L, hL⟩ : ∃ L, L = (cp (oth q)).loose (st, pp, zs) := ⟨_, rfl⟩
  have HL := (show Hid _ from hL)
  clear hL
  go_enter Try.func25, Try.ntmps25
  go_wp2_with (first
    | (go_at_call 30; refine (HQ.out _ _ rfl).mono ?_; rintro e w1 ⟨he, hb1⟩; obtain rfl : e = .returned ov := (by rw [HOV.out]; exact he); clear he)
    | (go_at_call 20; refine (HO.out _ _ ((((Below.refl _ _).alloc (Nat.le_refl _) _).alloc (by simp) _).trans (hb1.mono (by simp; omega))) HOV.out).mono ?_; rintro e w2 ⟨⟨r, l, t, own', rfl, hct, hbk, hx1, hx2⟩, hbel⟩; have hbel2 := hb1.trans (hbel.mono hb1.size); have hsz1 := hb1.size; have hHd := hd_new (q := oth q) (qs := q) (m := ⟨st, ssn, pp, true, a, nn, c, zs⟩) [.map (some r), .map (some l), .map (some t), .int .i64 (cp (oth q)).owed, .bool (cp (oth q)).came, .bool (cp (oth q)).ended, .bool (cp (oth q)).shuts] rfl 57 41 54 HH.out hbel2 hct (fun g o ho => by rcases hx2 g o ho with h | h; exact .inl h; exact .inr (by simp at hsz1; omega)) _ rfl; have hbk3 := hbk.below (w' := w2.alloc (.cells #[.map (some r), .map (some l), .map (some t), .int .i64 (cp (oth q)).owed, .bool (cp (oth q)).came, .bool (cp (oth q)).ended, .bool (cp (oth q)).shuts] 54)) ((Below.refl _ _).alloc (Nat.le_refl _) _); obtain ⟨s0, s1, s2, m0, m1, m2, m3, m4, hz⟩ := box35 hbel2; have hctF := hct.below (w' := w2.alloc (.cells #[.map (some r), .map (some l), .map (some t), .int .i64 (cp (oth q)).owed, .bool (cp (oth q)).came, .bool (cp (oth q)).ended, .bool (cp (oth q)).shuts] 54)) ((Below.refl _ _).alloc (Nat.le_refl _) _); unfold bval; clear hct hbk hx1 hx2 hbel hbel2 hb1 hsz1)
    | fail)
  obtain ⟨W3, HW3⟩ : ∃ W3, Hid (W3 = w2.alloc (.cells #[.map (some r), .map (some l), .map (some t), .int .i64 (cp (oth q)).owed, .bool (cp (oth q)).came, .bool (cp (oth q)).ended, .bool (cp (oth q)).shuts] 54)) := ⟨_, rfl⟩
  rw [← HW3.out] at hHd hbk3 hctF ⊢
  have hHd0 := hHd.below (Below.refl _ _).drew
  have hctF0 := hctF.below (Below.refl _ _).drew
  have hbk0 := hbk3.below (Below.refl _ _).drew
  have HALL : Hid (∀ W, Hd w0 cb own' n cp (oth q) q w.heap.size (w.heap.size + 1) w2.heap.size ⟨st, ssn, pp, true, a, nn, c, zs⟩ [.map (some r), .map (some l), .map (some t), .int .i64 (cp (oth q)).owed, .bool (cp (oth q)).came, .bool (cp (oth q)).ended, .bool (cp (oth q)).shuts] W → _) := fun W h => Hd.all5 h
  have HMK : Hid (∀ W, Hd w0 cb own' n cp (oth q) q w.heap.size (w.heap.size + 1) w2.heap.size ⟨st, ssn, pp, true, a, nn, c, zs⟩ [.map (some r), .map (some l), .map (some t), .int .i64 (cp (oth q)).owed, .bool (cp (oth q)).came, .bool (cp (oth q)).ended, .bool (cp (oth q)).shuts] W → (Mg.mk st ssn pp true a nn c zs).Ok W) := fun W h => ⟨hm.st, hm.ssn, hm.pp, hm.sl.below h.ct.bel, hm.cap⟩
  have hb2 := hbk3.b2 (st, pp, zs)
  have ho := hbk3.b4
  rw [← HL.out] at hb2
  have HK := (show Hid _ from hm.cnK)
  obtain ⟨cv, HCV⟩ : ∃ cv, Hid (cv = cnV (st, pp, zs)) := ⟨_, rfl⟩
  clear hm hHd hbk3 s0 s1 s2 m0 m1 m2 m3 m4
  have HCO : Hid (∀ W v, Hd w0 cb own' n cp (oth q) q w.heap.size (w.heap.size + 1) w2.heap.size ⟨st, ssn, pp, true, a, nn, c, zs⟩ [.map (some r), .map (some l), .map (some t), .int .i64 (cp (oth q)).owed, .bool (cp (oth q)).came, .bool (cp (oth q)).ended, .bool (cp (oth q)).shuts] W → v = .agg (Mg.cells ⟨st, ssn, pp, true, a, nn, c, zs⟩).toArray → Calls Try.prog 29 #[v] W fun e w' => e = .returned cv ∧ Below W.heap.size W w') := fun W v h hv => (content_any ⟨st, ssn, pp, true, a, nn, c, zs⟩ W (HMK.out W h) v hv).mono fun e w' ⟨h1, h2⟩ => ⟨by rw [HCV.out]; exact h1, h2⟩
  go_region_held3 (fun W => W.cell? ⟨w2.heap.size, 1, none⟩ = some (.map (some l)) ∧ W.cell? ⟨w.heap.size + 1, 0, none⟩ = some (.int .u16 (st : Nat)) ∧ W.cell? ⟨w.heap.size + 1, 1, none⟩ = some (.int .u16 (ssn : Nat)) ∧ W.cell? ⟨w.heap.size + 1, 2, none⟩ = some (.int .u32 (pp : Nat)) ∧ W.cell? ⟨w.heap.size + 1, 3, none⟩ = some (.bool true) ∧ W.cell? ⟨w.heap.size + 1, 4, none⟩ = some (.slice a nn c) ∧ Hd w0 cb own' n cp (oth q) q w.heap.size (w.heap.size + 1) w2.heap.size ⟨st, ssn, pp, true, a, nn, c, zs⟩ [.map (some r), .map (some l), .map (some t), .int .i64 (cp (oth q)).owed, .bool (cp (oth q)).came, .bool (cp (oth q)).ended, .bool (cp (oth q)).shuts] W) (first | exact HALL.out _ (by assumption)) (first
    | (go_at_call 29; refine (HCO.out _ _ (by assumption) (by rfl)).mono ?_; rintro e w4 ⟨rfl, hb4⟩; have hHd4 := Hd.below (by assumption) hb4; have hbk4 := hbk0.below hb4; have HF4 := (show Hid _ from hctF0.below hb4); have hlk := (hbk4.entry (st, pp, zs) HK.out 0 (by omega)).1; rw [← HL.out, ← HCV.out] at hlk)
    | fail)
  all_goals
    clear hlk hHd0 hbk0 hb4 hctF hctF0
    by_cases h0 : L = 0
    · have E0 : Hid (gotFreeJ cp q ⟨st, ssn, pp, true, a, nn, c, zs⟩ = (cp, 16)) := by unfold gotFreeJ; exact if_pos (show (cp (oth q)).loose (Mg.cn ⟨st, ssn, pp, true, a, nn, c, zs⟩) = 0 from HL.out.symm.trans h0)
      subst h0
      clear hHd4 hbk4
      go_wp2
      go_ret
      rw [E0.out]
      exact ⟨rfl, own', HF4.out.mono (Nat.le_add_right n 2)⟩
    · have E0 : Hid (gotFreeJ cp q ⟨st, ssn, pp, true, a, nn, c, zs⟩ = (cp.set (oth q) ((cp (oth q)).gone (Mg.cn ⟨st, ssn, pp, true, a, nn, c, zs⟩)), 0)) := by unfold gotFreeJ; exact if_neg (show ¬ (cp (oth q)).loose (Mg.cn ⟨st, ssn, pp, true, a, nn, c, zs⟩) = 0 from fun e => h0 (HL.out.trans e))
      clear HF4
      have hHd0 := hHd4.below (Below.refl _ _).drew
      have hbk0 := hbk4.below (Below.refl _ _).drew
      have hwr : IntKind.i64.wrap (L - 1) = L - 1 := by rw [IntKind.wrap_i64]; omega
      have hwb : 0 ≤ L - 1 ∧ L - 1 ≤ ((n + 1 : Nat) : Int) := by omega
      clear hHd4 hbk4
      go_wp2
      go_region_held3 (fun W => W.cell? ⟨w2.heap.size, 1, none⟩ = some (.map (some l)) ∧ W.cell? ⟨w.heap.size + 1, 0, none⟩ = some (.int .u16 (st : Nat)) ∧ W.cell? ⟨w.heap.size + 1, 1, none⟩ = some (.int .u16 (ssn : Nat)) ∧ W.cell? ⟨w.heap.size + 1, 2, none⟩ = some (.int .u32 (pp : Nat)) ∧ W.cell? ⟨w.heap.size + 1, 3, none⟩ = some (.bool true) ∧ W.cell? ⟨w.heap.size + 1, 4, none⟩ = some (.slice a nn c) ∧ Hd w0 cb own' n cp (oth q) q w.heap.size (w.heap.size + 1) w2.heap.size ⟨st, ssn, pp, true, a, nn, c, zs⟩ [.map (some r), .map (some l), .map (some t), .int .i64 (cp (oth q)).owed, .bool (cp (oth q)).came, .bool (cp (oth q)).ended, .bool (cp (oth q)).shuts] W) (first | exact HALL.out _ (by assumption)) (first
        | (go_at_call 29; refine (HCO.out _ _ (by assumption) (by rfl)).mono ?_; rintro e w5 ⟨rfl, hb5⟩; have hHd5 := Hd.below (by assumption) hb5; obtain ⟨hlk, w6, sn, w7, hent, hlk6, hsto, hbk7, fr6, fr7⟩ := BkOk.entry (hbk0.below hb5) (st, pp, zs) HK.out (L - 1) hwb; rw [← HL.out, ← HCV.out] at hlk hent hlk6; have hHd6 := hHd5.fr fr6 (fun g hg => ⟨1, by rw [hg]; exact hbk0.hl⟩); have hHd7 := hHd5.fr fr7 (fun g hg => ⟨1, by rw [hg]; exact hbk0.hl⟩); clear hb5 fr6 fr7)
        | fail)
      all_goals
        clear hlk hent hlk6 hsto hHd5 hHd6 hHd0 hbk0
        obtain ⟨k0, k1, k2, k3, k4, k5, k6, kf⟩ := hHd7.bcells
        have hHd8 := hHd7.set ⟨by omega, by omega⟩ 3 (.int .i64 ((cp (oth q)).owed - 1))
        have hfs := Fr.setCell (· = w2.heap.size) w7 ⟨w2.heap.size, 3, none⟩ (.int .i64 ((cp (oth q)).owed - 1)) rfl
        have hbk8 := (hbk7.fr hfs (fun g i hg => (hHd7.no g _ hg).2.2)).flags ((cp (oth q)).owed - 1) (cp (oth q)).came (cp (oth q)).ended (cp (oth q)).shuts (by omega)
        have ho1 : -100000 ≤ (cp (oth q)).owed := by omega
        have ho2 : (cp (oth q)).owed ≤ 100000 := by omega
        simp only [List.set_cons_zero, List.set_cons_succ] at hHd8
        clear hfs hHd7 hbk7 ho
        go_wp2_with fail
        have HALL9 : Hid (∀ W, Hc w.heap.size w2.heap.size [.int .i64 q.1, .int .u32 (q.2.1 : Nat), .int .u32 (q.2.2 : Nat)] [.map (some r), .map (some l), .map (some t), .int .i64 ((cp (oth q)).owed - 1), .bool (cp (oth q)).came, .bool (cp (oth q)).ended, .bool (cp (oth q)).shuts] W → _) := fun W h => Hc.all h
        have hHc9 : Hc w.heap.size w2.heap.size [.int .i64 q.1, .int .u32 (q.2.1 : Nat), .int .u32 (q.2.2 : Nat)] [.map (some r), .map (some l), .map (some t), .int .i64 ((cp (oth q)).owed - 1), .bool (cp (oth q)).came, .bool (cp (oth q)).ended, .bool (cp (oth q)).shuts] _ := (Hc.mk hHd8.s hHd8.b hHd8.ls hHd8.lb).below (Below.refl _ _).drew
        have hHd9 := hHd8.below (Below.refl _ _).drew
        have hbk9 := hbk8.below (Below.refl _ _).drew
        have HNC : Hid (¬ w.heap.size = cb ∧ ¬ w2.heap.size = cb) := ⟨by have := HH.out.lt; omega, fun e => hHd9.bc e.symm⟩
        clear hHd8 hbk8 k0 k1 k2 k3 k4 k5 k6 kf HALL HCO HMK
        go_region_held3 (fun W => W.cell? ⟨w.heap.size, 0, none⟩ = some (.int .i64 q.1) ∧ W.cell? ⟨w.heap.size, 1, none⟩ = some (.int .u32 (q.2.1 : Nat)) ∧ W.cell? ⟨w.heap.size, 2, none⟩ = some (.int .u32 (q.2.2 : Nat)) ∧ W.cell? ⟨w2.heap.size, 0, none⟩ = some (.map (some r)) ∧ W.cell? ⟨w2.heap.size, 1, none⟩ = some (.map (some l)) ∧ W.cell? ⟨w2.heap.size, 2, none⟩ = some (.map (some t)) ∧ W.cell? ⟨w2.heap.size, 3, none⟩ = some (.int .i64 ((cp (oth q)).owed - 1)) ∧ W.cell? ⟨w2.heap.size, 4, none⟩ = some (.bool (cp (oth q)).came) ∧ W.cell? ⟨w2.heap.size, 5, none⟩ = some (.bool (cp (oth q)).ended) ∧ W.cell? ⟨w2.heap.size, 6, none⟩ = some (.bool (cp (oth q)).shuts) ∧ Hc w.heap.size w2.heap.size [.int .i64 q.1, .int .u32 (q.2.1 : Nat), .int .u32 (q.2.2 : Nat)] [.map (some r), .map (some l), .map (some t), .int .i64 ((cp (oth q)).owed - 1), .bool (cp (oth q)).came, .bool (cp (oth q)).ended, .bool (cp (oth q)).shuts] W) (first | exact HALL9.out _ (by assumption)) (first
          | (go_at_call 30; refine (HQ.out _ _ (by rfl)).mono ?_; rintro e w10 ⟨he, hb10⟩; obtain rfl : e = .returned ov := (by rw [HOV.out]; exact he); clear he; have hHc10 := Hc.below (by assumption) hb10; obtain ⟨w11, hput, hct11, hfr11⟩ := ((hHd9.ct.below hb10).mono (Nat.le_add_right n 1)).put hk2 (hbk9.below hb10); have hHc11 := hHc10.fr hfr11 HNC.out.1 HNC.out.2; unfold bval at hput; dsimp only at hput; rw [← HOV.out] at hput; have HC := (show Hid _ from hct11); clear hct11)
          | fail)
        all_goals
          clear hput hHc9 hHc10 hHc11 hfr11 hHd9 hbk9 HALL9
          go_wp2
          go_ret
          rw [E0.out]
          refine ⟨rfl, own', ?_⟩
          have hh := HC.out.done (fun q' h => h.2 h.1)
          have e : (cp (oth q)).gone (Mg.cn ⟨st, ssn, pp, true, a, nn, c, zs⟩) = { cp (oth q) with loose := fun k' => if k' = (st, pp, zs) then L - 1 else (cp (oth q)).loose k', owed := (cp (oth q)).owed - 1, came := (cp (oth q)).came, ended := (cp (oth q)).ended, shuts := (cp (oth q)).shuts } := by
            unfold Bp.gone
            rw [HL.out]
            congr 1
            funext k'
            show (if k' = (st, pp, zs) then _ else _) = _
            split
            · rename_i e2; rw [e2]
            · rfl
          dsimp only
          rw [e]
          exact hh
end Go.Proofs.Ytpdnkbhgobdniaa
