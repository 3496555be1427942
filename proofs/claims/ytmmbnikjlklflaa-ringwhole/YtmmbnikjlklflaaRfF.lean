/- What the reference's Fill does. -/
import Derived.Test.YtmmbnikjlklflaaRfM
namespace Go.Proofs.Ytmmbnikjlklflaa
open Go.RowKit
/-- append of a row of one-cell values to a row of the call's own. -/
theorem appV_run (w : World) (ty : TypeId) (B : Nat) (v : Value) (n : Nat) (xs : List Value) (hown : w.ownsRow B 33 1 v n xs) (sa : Option Addr) (m sc : Nat) (vs : List Value) (hl : vs.length = m) (hnz : sa = none → sc = 0 ∧ m = 0)
    (hcell : ∀ p, sa = some p → ∀ j u, vs[j]? = some u → w.cell? (p.add j) = some u) (hone : ∀ u ∈ vs, u.oneCell' = true) (hb : n + m ≤ 1000000) (hB : B ≤ w.heap.size) :
    ∃ v' w', (Builtin.append_ #[32, 32] ty #[v, .slice sa m sc]).run Try.prog w = .ok v' w' ∧ w'.ownsRow B 33 1 v' (n + m) (xs ++ vs) ∧ w.grownBy w' v.ownBlock := by
  obtain ⟨i, hi, hz0, hz1, hz2⟩ := info_parts rg_info
  cases sa with
  | none =>
    obtain ⟨rfl, rfl⟩ := hnz rfl
    obtain rfl : vs = [] := List.eq_nil_of_length_eq_zero hl
    have hrun := run_append_owned_none (P := Try.prog) (w := w) B 32 ty 33 i 1 Try.underlying32 hi v n xs hown
    exact ⟨v, w, hrun, by simpa using hown, World.grownBy.refl w _⟩
  | some p =>
    obtain ⟨v', w', hr, hown', hg', _⟩ := run_append_own (P := Try.prog) w B 32 ty 33 i (.slice none 0 0) 1 24 Try.underlying32 hi hz0 hz1 hz2 rfl (by decide) v n xs hown p m sc vs (by omega) (hcell p rfl) hone (by unfold maxLen; omega) (by omega) hB
    exact ⟨v', w', hr, hown', hg'⟩
theorem appV_list {ops : Array Oper} {rest : List Oper} {o : Oper} {a : Act} {w : World} {Q : Exit → Act → World → Prop} (hgd : Region.wanted o (yielded ops a.tmps) = true) (s x : Operand)
    (ho : o.op = .call { callee := .builtin .append, args := #[s, x], argTypes := #[32, 32] })
    (B : Nat) (v : Value) (n : Nat) (xs : List Value) (hs : a.eval s = v) (hown : w.ownsRow B 33 1 v n xs)
    (sa : Option Addr) (m sc : Nat) (vs : List Value) (hx : a.eval x = .slice sa m sc) (hl : vs.length = m) (hnz : sa = none → sc = 0 ∧ m = 0)
    (hcell : ∀ p, sa = some p → ∀ j u, vs[j]? = some u → w.cell? (p.add j) = some u) (hone : ∀ u ∈ vs, u.oneCell' = true) (hb : n + m ≤ 1000000) (hB : B ≤ w.heap.size)
    (h : ∀ v' w', w'.ownsRow B 33 1 v' (n + m) (xs ++ vs) → w.grownBy w' v.ownBlock → wpList Try.prog ops Q rest (a.put o.dst v') w') : wpList Try.prog ops Q (o :: rest) a w :=
  wpList_step fun K hK => by
    rw [if_pos hgd]
    obtain ⟨v', w', hr, h1, h2⟩ := appV_run w o.type B v n xs hown sa m sc vs hl hnz hcell hone hb hB
    have := hK _ _ (h v' w' h1 h2)
    unfold Oper.wp
    simp [execOp, ho, resolve, invoke, builtin, hs, hx, hr, Result.andThen]
    exact this
theorem add_blk (p : Addr) (j : Nat) : (p.add j).block = p.block := by unfold Addr.add; split <;> rfl
theorem add_pl (g o j : Nat) : (⟨g, o, none⟩ : Addr).add j = ⟨g, o + j, none⟩ := by
  unfold Addr.add
  split
  · subst_vars; rfl
  · rfl
set_option maxRecDepth 100000 in
set_option maxHeartbeats 2000000 in
theorem fill_ref0 (B : Nat) (X : Nat → Prop) (q N gn out d : Nat) (fs : List (List Nat)) (a : Option Addr) (n c : Nat) (zs : List Nat) (w : World) (h : Rf w B X q N gn out d fs) (hs : Sl w a n c zs) (h1 : 1 ≤ n) (h2 : n ≤ 1514) (hfit : out + fs.length < N) :
    Calls Try.prog 24 #[.pointer (some ⟨q, 0, none⟩), .slice a n c] w fun e w' => e = .returned (.int .i64 0) ∧ Fr (· = q) w w' ∧ Rf w' B X q N gn out d (fs ++ [zs]) := by
  obtain ⟨af, cf, k1, hF⟩ := h.full
  have k0 := h.c0
  have k2 := h.c2
  have f1 := h.free 1
  have hn := h.n64
  have hcap := hF.cap
  have hcm := hF.cm
  have a1 : ¬ (n : Int) < 1 := by omega
  have a2 : ¬ (1514 : Int) < n := by omega
  have a3 : ¬ (N : Int) ≤ (fs.length : Int) + (out : Int) := by omega
  go_enter Try.func24, Try.ntmps24
  go_wp2
  go_quiet (fail)
  all_goals
    have hb0 : Below w.heap.size w (w.drewN nq) := ⟨rfl, rfl, rfl, Nat.le_refl _, fun _ _ => rfl⟩
    obtain ⟨W0, hW0⟩ : ∃ W0, W0 = w.drewN nq := ⟨_, rfl⟩
    rw [← hW0] at hb0 ⊢
    clear hW0
    have hq := h.lt
    obtain ⟨vs, hvl, hv1, hvc⟩ : ∃ vs : List Value, vs.length = fs.length ∧ (∀ u ∈ vs, u.oneCell' = true) ∧ (∀ p, af = some p → ∀ j u, vs[j]? = some u → w.cell? (p.add j) = some u ∧ p.block < w.heap.size) ∧ (∀ j ys, fs[j]? = some ys → ∃ b m, vs[j]? = some (Value.slice (some ⟨b, 0, none⟩) ys.length m) ∧ ¬ X b ∧ OwnB w 0 (some ⟨b, 0, none⟩) ys.length m ys ∧ ys.length ≤ 1514) := by
      rcases hF.at_ with h0 | ⟨g, o, rfl, hlt, hx, hc⟩
      · subst h0
        refine ⟨[], rfl, ?_, ?_, ?_⟩
        · intro u hu; cases hu
        · intro p _ j u hj
          have := (List.getElem?_eq_some_iff.1 hj).1
          simp at this
        · intro j ys hj
          have := (List.getElem?_eq_some_iff.1 hj).1
          simp at this
      · have each : ∀ j, j < fs.length → ∃ bm : Nat × Nat, w.cell? ⟨g, o + j, none⟩ = some (.slice (some ⟨bm.1, 0, none⟩) (fs.getD j []).length bm.2) ∧ ¬ X bm.1 ∧ OwnB w 0 (some ⟨bm.1, 0, none⟩) (fs.getD j []).length bm.2 (fs.getD j []) ∧ (fs.getD j []).length ≤ 1514 := fun j hj => by
          obtain ⟨b, m, k⟩ := hc j (fs.getD j []) (by rw [List.getD_eq_getElem?_getD, List.getElem?_eq_getElem hj]; rfl)
          exact ⟨(b, m), k⟩
        obtain ⟨f, hf⟩ := Go.Deep.choose_lt each
        have hget : ∀ j, j < fs.length → ((List.range fs.length).map fun j => Value.slice (some ⟨(f j).1, 0, none⟩) (fs.getD j []).length (f j).2)[j]? = some (Value.slice (some ⟨(f j).1, 0, none⟩) (fs.getD j []).length (f j).2) := fun j hj => by
          rw [List.getElem?_map, List.getElem?_range hj]; rfl
        refine ⟨(List.range fs.length).map fun j => Value.slice (some ⟨(f j).1, 0, none⟩) (fs.getD j []).length (f j).2, by simp, fun u hu => ?_, fun p hp j u hj => ?_, fun j ys hj => ?_⟩
        · obtain ⟨j, _, rfl⟩ := List.mem_map.1 hu
          rfl
        · injection hp with hp
          subst hp
          have hjl : j < fs.length := by
            have := (List.getElem?_eq_some_iff.1 hj).1
            simpa using this
          rw [hget j hjl] at hj
          injection hj with hj
          subst hj
          rw [add_pl]
          exact ⟨(hf j hjl).1, hlt⟩
        · obtain ⟨hjl, hv⟩ := List.getElem?_eq_some_iff.1 hj
          have hgd : fs.getD j [] = ys := by rw [List.getD_eq_getElem?_getD, hj]; rfl
          have := hf j hjl
          rw [hgd] at this
          exact ⟨(f j).1, (f j).2, by rw [hget j hjl, hgd], this.2⟩
    obtain ⟨hvc, hvf⟩ := hvc
    have hnz : af = none → cf = 0 ∧ fs.length = 0 := fun e => by have := hF.nz e; omega
    have hbA : Below w.heap.size w (W0.alloc (.cells #[] 33)) := hb0.trans (((Below.refl _ _).alloc (Nat.le_refl _) _).mono hb0.size)
    have kA := (hbA.cell (p := ⟨q, 1, none⟩) hq).trans k1
    have hoA : (W0.alloc (.cells #[] 33)).ownsRow W0.heap.size 33 1 (.slice (some ⟨W0.heap.size, 0, none⟩) 0 0) 0 [] := World.ownsRow_lit W0 #[] 0 (Nat.le_refl _) (by unfold maxLen; omega) (by simp)
    go_wp2_with (at_builtin; go_must (refine appV_list rfl _ _ rfl W0.heap.size _ 0 [] rfl hoA af fs.length cf vs rfl hvl hnz (fun p hp j u hj => (hbA.cell (p := p.add j) (by show (p.add j).block < _; rw [add_blk]; exact (hvc p hp j u hj).2)).trans (hvc p hp j u hj).1) hv1 (by omega) (by simp) ?_))
    intro v1 w1 ho1 hg1
    have hb1 : Below w.heap.size w w1 := hbA.trans (((Below.refl _ _).grown hg1 (by simp) (fun k hk => by simp [Value.ownBlock] at hk; omega) : Below W0.heap.size (W0.alloc (.cells #[] 33)) w1).mono hb0.size)
    have hz1 : w.heap.size ≤ w1.heap.size := hb1.size
    have hz01 : W0.heap.size ≤ w1.heap.size := by
      have := hg1.size
      simp at this
      omega
    have hz0 : w.heap.size ≤ W0.heap.size := hb0.size
    have hoB : OwnB (w1.alloc (.cells #[] 5)) w1.heap.size (some ⟨w1.heap.size, 0, none⟩) 0 0 [] := own_empty w1
    have hs1 := (hs.below hb1).alloc (.cells #[] 5)
    have hl := hs.len
    clear hg1 hoA kA hbA k0 k2
    go_wp2_with (at_builtin; go_must (refine app_list rfl _ _ rfl w1.heap.size _ 0 0 [] rfl hoB _ n c zs rfl hs1 (by omega) (by simp) ?_))
    intro a2 c2 w2 ho2 hg2
    have hb12 : Below w1.heap.size w1 w2 := ((Below.refl _ _).alloc (Nat.le_refl _) _).trans (hoB.up hg2 (by simp))
    have hb2 : Below w.heap.size w w2 := hb1.trans (hb12.mono hb1.size)
    obtain ⟨b, rfl⟩ : ∃ b, a2 = some ⟨b, 0, none⟩ := by
      rcases ho2.own.2 with ⟨_, h0⟩ | ⟨g, cap, cur, hv, _⟩
      · omega
      · injection hv with e1
        exact ⟨g, e1⟩
    have ho2 : OwnB w2 w1.heap.size (some ⟨b, 0, none⟩) n c2 zs := by simpa using ho2
    have hv1b : ∀ k, v1.ownBlock = some k → k < w1.heap.size := fun k hk => (World.ownsRow.lt ho1 k hk).2
    have hoC : (w2.alloc (.cells #[.slice (some ⟨b, 0, none⟩) n c2] 33)).ownsRow W0.heap.size 33 1 v1 fs.length vs := World.ownsRow.kept ho1 (grown_of_below (hb12.trans (((Below.refl _ _).alloc (Nat.le_refl _) _).mono hb12.size))) (by cases e : v1.ownBlock with | none => exact .inl rfl | some g => exact .inr (by simp))
    have hcC : ∀ p, (some (⟨w2.heap.size, 0, none⟩ : Addr)) = some p → ∀ j u, [Value.slice (some ⟨b, 0, none⟩) n c2][j]? = some u → (w2.alloc (.cells #[.slice (some ⟨b, 0, none⟩) n c2] 33)).cell? (p.add j) = some u := by
      intro p hp j u hj
      injection hp with hp
      subst hp
      cases j with
      | zero => simp at hj; subst hj; simp [Addr.add]
      | succ j => simp at hj
    have hz2 := hb2.size
    have hz02 : W0.heap.size ≤ w2.heap.size := Nat.le_trans hz01 hb12.size
    clear hoB hs1 hg2 ho1 hb12
    go_wp2_with (at_builtin; go_must (refine appV_list rfl _ _ rfl W0.heap.size _ fs.length vs rfl hoC (some ⟨w2.heap.size, 0, none⟩) 1 1 [.slice (some ⟨b, 0, none⟩) n c2] rfl rfl (fun e => by cases e) hcC (by simp [Value.oneCell']) (by omega) (by simp; omega) ?_))
    intro v3 w3 ho3 hg3
    have hb3 : Below w.heap.size w w3 := (hb2.trans (((Below.refl _ _).alloc (Nat.le_refl _) _).mono hb2.size)).trans ((Below.refl _ _).grown hg3 (by simp; omega) (fun k hk => by have := (World.ownsRow.lt hoC k hk).1; omega))
    obtain ⟨g3, c3, rfl, hg3b, hg3l⟩ := World.ownsRow.form ho3 (by omega)
    have ho23 : OwnB w3 0 (some ⟨b, 0, none⟩) n c2 zs := by
      have hkk : OwnB (w2.alloc (.cells #[.slice (some ⟨b, 0, none⟩) n c2] 33)) 0 (some ⟨b, 0, none⟩) n c2 zs := (ho2.alloc _).base (Nat.zero_le _)
      refine hkk.kept hg3 (.inr ?_)
      intro e
      have e1 := hv1b b e.symm
      have e2 := ho2.blt.2
      omega
    have hxb : ¬ X b := fun hx => by have e1 := h.xlt b hx; have e2 := ho2.blt.2; omega
    have hxg : ¬ X g3 := fun hx => by have e1 := h.xlt g3 hx; omega
    have hFn : FullAt w3 X (some ⟨g3, 0, none⟩) c3 (fs ++ [zs]) := by
      have hcc : fs.length + 1 ≤ c3 ∧ c3 ≤ maxLen := by
        rcases ho3.2 with ⟨hv, _⟩ | ⟨g, cap, cur, hv, _, _, hc1, hc2, _⟩
        · cases hv
        · injection hv with _ _ e3
          subst e3
          exact ⟨hc1, hc2⟩
      refine ⟨by simp; omega, hcc.2, fun e => (by cases e), .inr ⟨g3, 0, rfl, hg3l, hxg, fun j ys hj => ?_⟩⟩
      by_cases hjl : j < fs.length
      · rw [List.getElem?_append_left hjl] at hj
        obtain ⟨b', m', r1, r2, r3, r4⟩ := hvf j ys hj
        refine ⟨b', m', ?_, r2, r3.below hb3, r4⟩
        rw [Nat.zero_add, World.ownsRow.cellAt ho3 j (by omega), List.getElem?_append_left (by omega)]
        exact r1
      · have hjj : j = fs.length := by
          have := (List.getElem?_eq_some_iff.1 hj).1
          simp at this; omega
        subst hjj
        rw [List.getElem?_append_right (Nat.le_refl _), Nat.sub_self] at hj
        simp at hj
        subst hj
        refine ⟨b, c2, ?_, hxb, by rw [hl]; exact ho23, by omega⟩
        rw [Nat.zero_add, World.ownsRow.cellAt ho3 fs.length (by omega), List.getElem?_append_right (by omega), hvl, Nat.sub_self, hl]
        rfl
    have h3 := h.below hb3
    have e1 := (hb3.cell (p := ⟨q, 1, none⟩) hq).trans k1
    have f3 := h3.free 1
    have HP : Hid (Fr (· = q) w (w3.setCell ⟨q, 1, none⟩ (.slice (some ⟨g3, 0, none⟩) (fs.length + 1) c3)) ∧ Rf (w3.setCell ⟨q, 1, none⟩ (.slice (some ⟨g3, 0, none⟩) (fs.length + 1) c3)) B X q N gn out d (fs ++ [zs])) := by
      have hFr : Fr (· = q) w3 (w3.setCell ⟨q, 1, none⟩ (.slice (some ⟨g3, 0, none⟩) (fs.length + 1) c3)) := Fr.setCell (· = q) _ _ _ rfl
      have ho : ∀ i, i ≠ 1 → (w3.setCell ⟨q, 1, none⟩ (.slice (some ⟨g3, 0, none⟩) (fs.length + 1) c3)).cell? ⟨q, i, none⟩ = w3.cell? ⟨q, i, none⟩ := fun i e2 => World.cell?_setCell_other _ _ _ _ (by intro e; injection e with _ e; exact e2 e.symm)
      refine ⟨Fr.trans (Fr.of_below hb3) hFr, h3.turn hFr (by simp; omega) (fun i => by rw [World.frozen?_setCell]; exact h3.free i) ((ho 0 (by omega)).trans h3.c0) ((ho 2 (by omega)).trans h3.c2) ((ho 3 (by omega)).trans h3.c3) ((ho 4 (by omega)).trans h3.c4) (some ⟨g3, 0, none⟩) c3 ?_ hFn⟩
      rw [List.length_append, List.length_singleton]
      exact World.cell?_setCell_same' _ _ _ (by rw [e1]; rfl)
    clear hFn ho3 ho23 hg3 h3 hoC hcC ho2 hvf hvc
    go_wp2
    go_ret
    exact ⟨rfl, HP.out⟩
def rfFillE (N out : Nat) (fs : List (List Nat)) (zs : List Nat) : Nat := if zs.length < 1 ∨ 1514 < zs.length then 6 else if out + fs.length = N then 10 else 0
structure RfFillP (B : Nat) (X : Nat → Prop) (q N gn out d : Nat) (fs : List (List Nat)) (zs : List Nat) (w : World) (e : Ending) (w' : World) : Prop where
  ret : e = .returned (.int .i64 (rfFillE N out fs zs : Nat))
  fr : Fr (· = q) w w'
  out : Rf w' B X q N gn out (if rfFillE N out fs zs = 10 then d + 1 else d) (if rfFillE N out fs zs = 0 then fs ++ [zs] else fs)
set_option maxHeartbeats 1000000 in
theorem fill_ref (B : Nat) (X : Nat → Prop) (q N gn out d : Nat) (fs : List (List Nat)) (a : Option Addr) (n c : Nat) (zs : List Nat) (w : World) (h : Rf w B X q N gn out d fs) (hs : Sl w a n c zs) (hd : d ≤ 1000000) :
    Calls Try.prog 24 #[.pointer (some ⟨q, 0, none⟩), .slice a n c] w (RfFillP B X q N gn out d fs zs w) := by
  have hl := hs.len
  have hsum := h.sum
  have hsm := hs.small
  by_cases he1 : n < 1 ∨ 1514 < n
  · have HE : Hid (rfFillE N out fs zs = 6) := by show _ = _; unfold rfFillE; rw [hl, if_pos he1]
    go_enter Try.func24, Try.ntmps24
    by_cases hn0 : n < 1
    · have a1 : (n : Int) < 1 := by omega
      go_wp2
      go_ret
      exact ⟨by rw [HE.out]; rfl, Fr.refl _ _, by rw [HE.out]; exact h⟩
    · have a1 : ¬ (n : Int) < 1 := by omega
      have a2 : (1514 : Int) < n := by omega
      go_wp2
      go_ret
      exact ⟨by rw [HE.out]; rfl, Fr.refl _ _, by rw [HE.out]; exact h⟩
  by_cases he2 : out + fs.length = N
  · have HE : Hid (rfFillE N out fs zs = 10) := by show _ = _; unfold rfFillE; rw [hl, if_neg he1, if_pos he2]
    obtain ⟨af, cf, k1, hF⟩ := h.full
    have k0 := h.c0
    have k2 := h.c2
    have k4 := h.c4
    have f4 := h.free 4
    have hn := h.n64
    have a1 : ¬ (n : Int) < 1 := by omega
    have a2 : ¬ (1514 : Int) < n := by omega
    have a3 : (N : Int) ≤ (fs.length : Int) + (out : Int) := by omega
    have HP : Hid (∀ W, Below w.heap.size w W → Fr (· = q) w (W.setCell ⟨q, 4, none⟩ (.int .i64 ((d : Int) + 1))) ∧ Rf (W.setCell ⟨q, 4, none⟩ (.int .i64 ((d : Int) + 1))) B X q N gn out (d + 1) fs) := by
      show ∀ _, _
      intro W hW
      have h3 := h.below hW
      obtain ⟨ag, cg, kg, hG⟩ := h3.full
      have hFr : Fr (· = q) W (W.setCell ⟨q, 4, none⟩ (.int .i64 ((d : Int) + 1))) := Fr.setCell (· = q) _ _ _ rfl
      have ho : ∀ i, i ≠ 4 → (W.setCell ⟨q, 4, none⟩ (.int .i64 ((d : Int) + 1))).cell? ⟨q, i, none⟩ = W.cell? ⟨q, i, none⟩ := fun i e2 => World.cell?_setCell_other _ _ _ _ (by intro e; injection e with _ e; exact e2 e.symm)
      refine ⟨Fr.trans (Fr.of_below hW) hFr, h3.turn hFr h3.sum (fun i => by rw [World.frozen?_setCell]; exact h3.free i) ((ho 0 (by omega)).trans h3.c0) ((ho 2 (by omega)).trans h3.c2) ((ho 3 (by omega)).trans h3.c3) ?_ ag cg ((ho 1 (by omega)).trans kg) hG⟩
      rw [World.cell?_setCell_same' _ _ _ (by rw [h3.c4]; rfl)]; simp
    go_enter Try.func24, Try.ntmps24
    go_wp2
    go_quiet (fail)
    all_goals
      go_wp2
      go_ret
      have := HP.out (w.drewN nq) ⟨rfl, rfl, rfl, Nat.le_refl _, fun _ _ => rfl⟩
      exact ⟨by rw [HE.out]; rfl, this.1, by rw [HE.out]; exact this.2⟩
  · have HE : rfFillE N out fs zs = 0 := by unfold rfFillE; rw [hl, if_neg he1, if_neg he2]
    refine (fill_ref0 B X q N gn out d fs a n c zs w h hs (by omega) (by omega) (by omega)).mono ?_
    rintro e w' ⟨h1, h2, h3⟩
    exact ⟨by rw [HE]; exact h1, h2, by rw [HE]; exact h3⟩
end Go.Proofs.Ytmmbnikjlklflaa
