/- A pool in which a packet has a piece more. -/
import Derived.Test.YtnbagloifbllbaaRsA
namespace Go.Proofs.Ytnbagloifbllbaa
open Go.RowKit
def Pt.with (t : Pt) (a : Option Addr) (n c : Nat) : Pt := ⟨t.sr, t.ds, t.pr, t.id, t.si, a, n, c⟩
theorem OwnT.setPs {w : World} {B g n c : Nat} {ts : List Pt} (h : OwnT w B (some ⟨g, 0, none⟩) n c ts) (i : Nat) (t : Pt) (ht : ts[i]? = some t) (a2 : Option Addr) (n2 c2 : Nat) : OwnT (w.setCell ⟨g, i * 6 + 5, none⟩ (.slice a2 n2 c2)) B (some ⟨g, 0, none⟩) n c (ts.set i (t.with a2 n2 c2)) := by
  refine ⟨by rw [List.length_set]; exact h.len, ?_⟩
  have h1 := (h.own.stored (i * 6 + 5) (.slice a2 n2 c2)).1
  have hi := (List.getElem?_eq_some_iff.1 ht).1
  have hti : ts[i] = t := (List.getElem?_eq_some_iff.1 ht).2
  have e1 : ts = ts.take i ++ (t :: ts.drop (i + 1)) := by
    rw [← hti, ← List.drop_eq_getElem_cons hi, List.take_append_drop]
  have e3 : ts.set i (t.with a2 n2 c2) = ts.take i ++ (t.with a2 n2 c2 :: ts.drop (i + 1)) := List.set_eq_take_append_cons_drop .. |>.trans (by rw [if_pos hi])
  have hl : (valsG Pt.cells (ts.take i)).length = i * 6 := by rw [valsG_len (k := 6) (fun _ => rfl), List.length_take, Nat.min_eq_left (by omega)]
  have e4 : (valsG Pt.cells ts).set (i * 6 + 5) (.slice a2 n2 c2) = valsG Pt.cells (ts.set i (t.with a2 n2 c2)) := by
    rw [e3, valsG_app]
    conv => lhs; rw [e1, valsG_app]
    rw [List.set_append_right _ _ (by omega), hl, show i * 6 + 5 - i * 6 = 5 by omega]
    rfl
  rw [e4] at h1
  exact h1
theorem nm_ne {hs : List Pa} (hn : (hs.map (·.t.nm)).Nodup) {i j : Nat} {x z : Pa} (hi : hs[i]? = some x) (hj : hs[j]? = some z) (hij : j ≠ i) : z.t.nm ≠ x.t.nm := by
  intro e
  have h1 := (List.getElem?_eq_some_iff.1 hi)
  have h2 := (List.getElem?_eq_some_iff.1 hj)
  have hp := List.pairwise_iff_getElem.1 hn
  rcases Nat.lt_or_ge i j with h | h
  · have := hp i j (by simpa using h1.1) (by simpa using h2.1) h
    simp [h1.2, h2.2] at this
    exact this e.symm
  · have := hp j i (by simpa using h2.1) (by simpa using h1.1) (by omega)
    simp [h1.2, h2.2] at this
    exact this e
theorem PoolW.add {w w1 w2 : World} {kd : Nat → Role} {p : Nat} {now dr : Int} {hs : List Pa} {g c : Nat} (h : PoolW w kd p now dr hs) (hc1 : Stc w p [.int .i64 now, .slice (some ⟨g, 0, none⟩) hs.length c, .int .i64 dr]) (hrow : OwnT w 0 (some ⟨g, 0, none⟩) hs.length c (hs.map (·.t))) (hgk : kd g = .row) (b1 : Below w.heap.size w w1)
    {i : Nat} {x : Pa} (hi : hs[i]? = some x) (y : Pk) (zs : List Nat) {bb : Nat} (hy : Sl w y.a y.n y.c zs) (hy0 : 0 < y.n) (hya : y.a = some ⟨bb, 0, none⟩) (hbl : bb < w.heap.size) (hbk : kd bb = .no) {g2 c2 : Nat}
    (ho : OwnP w2 0 (some ⟨g2, 0, none⟩) (x.t.n + 1) c2 (x.ps.map (·.1) ++ [y])) (hg : w1.grownBy w2 (Value.slice x.t.a x.t.n x.t.c).ownBlock) (hl : (Value.slice x.t.a x.t.n x.t.c).ownBlock = some g2 ∨ g2 = w1.heap.size) :
    ∃ kd', PoolW (w2.setCell ⟨g, i * 6 + 5, none⟩ (.slice (some ⟨g2, 0, none⟩) (x.t.n + 1) c2)) kd' p now dr (hs.set i ⟨x.t.with (some ⟨g2, 0, none⟩) (x.t.n + 1) c2, x.ps ++ [(y, zs)]⟩) ∧ (∀ b, b < w.heap.size → b ≠ bb → kd' b = kd b) ∧ Fr (fun b => kd b ≠ .no) w (w2.setCell ⟨g, i * 6 + 5, none⟩ (.slice (some ⟨g2, 0, none⟩) (x.t.n + 1) c2)) := by
  have hx := h.each x (List.mem_of_getElem? hi)
  have hgl : g < w.heap.size := (hrow.own.lt g rfl).2
  have hz1 := b1.size
  have hz2 := hg.size
  have hkp := h.kp
  have hpl := hc1.lt
  have hil := (List.getElem?_eq_some_iff.1 hi).1
  have hg2l : g2 < w2.heap.size := (ho.own.lt g2 rfl).2
  have hg2k : g2 < w.heap.size → kd g2 = .pcs x.t.nm := fun hlt => by
    rcases hl with hl | hl
    · exact hx.rk g2 hl
    · omega
  have hgg2 : g2 ≠ g := fun e => by
    subst e
    have := hg2k hgl
    rw [hgk] at this
    cases this
  have hbg2 : bb ≠ g2 := fun e => by
    subst e
    have := hg2k hbl
    rw [hbk] at this
    cases this
  have hbg : bb ≠ g := fun e => by rw [e, hgk] at hbk; cases hbk
  have hbp : bb ≠ p := fun e => by rw [e, hkp] at hbk; cases hbk
  obtain ⟨v, hv⟩ : ∃ v, v = Value.slice (some ⟨g2, 0, none⟩) (x.t.n + 1) c2 := ⟨_, rfl⟩
  rw [← hv]
  have fr2 : Fr (fun b => b = g ∨ (Value.slice x.t.a x.t.n x.t.c).ownBlock = some b) w w2 := (Fr.of_below b1).trans (Fr.grown hg (fun k hk => .inr hk))
  have fr3 := fr2.trans (Fr.setCell (fun b => b = g ∨ (Value.slice x.t.a x.t.n x.t.c).ownBlock = some b) w2 ⟨g, i * 6 + 5, none⟩ v (.inl rfl))
  have frg := Fr.setCell (fun b => b = g) w2 ⟨g, i * 6 + 5, none⟩ v rfl
  have hz3 : (w2.setCell ⟨g, i * 6 + 5, none⟩ v).heap.size = w2.heap.size := by simp [World.setCell]
  have hQ : ∀ b, (b = g ∨ (Value.slice x.t.a x.t.n x.t.c).ownBlock = some b) → kd b = .row ∨ kd b = .pcs x.t.nm := by
    rintro b (rfl | hb)
    · exact .inl hgk
    · exact .inr (hx.rk b hb)
  have hr2 : OwnT w2 0 (some ⟨g, 0, none⟩) hs.length c (hs.map (·.t)) := by
    refine hrow.fr ((Fr.of_below (P := fun b => (Value.slice x.t.a x.t.n x.t.c).ownBlock = some b) b1).trans (Fr.grown hg (fun k hk => hk))) (fun b hb e => ?_)
    have hgb : g = b := by simpa [Value.ownBlock] using hb
    subst hgb
    have := hx.rk g e
    rw [hgk] at this
    cases this
  have hr3 := OwnT.setPs hr2 i x.t (by rw [List.getElem?_map, hi]; rfl) (some ⟨g2, 0, none⟩) (x.t.n + 1) c2
  rw [← hv] at hr3
  have hkd : ∀ b, b < w.heap.size → b ≠ bb → (if b = bb then Role.body else if b < w.heap.size then kd b else if b = g2 then .pcs x.t.nm else .no) = kd b := fun b hb hne => by rw [if_neg hne, if_pos hb]
  have hk2 : ∀ nm b, b < w.heap.size → kd b = .body ∨ kd b = .pcs nm → (if b = bb then Role.body else if b < w.heap.size then kd b else if b = g2 then .pcs x.t.nm else .no) = kd b := fun nm b hb h => hkd b hb (fun e => by
    subst e
    rw [hbk] at h
    rcases h with h | h <;> cases h)
  refine ⟨fun b => if b = bb then .body else if b < w.heap.size then kd b else if b = g2 then .pcs x.t.nm else .no, ⟨?_, ⟨some ⟨g, 0, none⟩, c, ?_, ?_, ?_⟩, ?_, ?_, ?_⟩, hkd, ?_⟩
  · exact (hkd p hpl (Ne.symm hbp)).trans hkp
  · rw [List.length_set]
    exact hc1.fr fr3 (fun e => by
      have := hQ p e
      rw [hkp] at this
      rcases this with e | e <;> cases e)
  · rw [List.length_set, List.map_set]
    exact hr3
  · intro b hb
    have hgb : g = b := by simpa [Value.ownBlock] using hb
    subst hgb
    exact (hkd g hgl (Ne.symm hbg)).trans hgk
  · intro z hz
    obtain ⟨j, hj⟩ := List.getElem?_of_mem hz
    rw [List.getElem?_set] at hj
    by_cases hij : i = j
    · subst hij
      rw [if_pos rfl, if_pos hil] at hj
      injection hj with hj
      subst hj
      have hown : OwnP (w2.setCell ⟨g, i * 6 + 5, none⟩ v) 0 (some ⟨g2, 0, none⟩) (x.t.n + 1) c2 (x.ps.map (·.1) ++ [y]) := ho.fr frg (fun b hb e => hgg2 (by
        have : g2 = b := by simpa [Value.ownBlock] using hb
        rw [this]; exact e))
      refine ⟨?_, fun b hb => ?_, fun q hq => ?_⟩
      · show OwnK _ 0 (some ⟨g2, 0, none⟩) (x.t.n + 1) c2 ((x.ps ++ [(y, zs)]).map (·.1))
        rw [List.map_append]
        exact hown.k
      · have hgb : g2 = b := by simpa [Value.ownBlock, Pt.with] using hb
        subst hgb
        show (if g2 = bb then Role.body else if g2 < w.heap.size then kd g2 else if g2 = g2 then .pcs x.t.nm else .no) = .pcs x.t.nm
        rw [if_neg (Ne.symm hbg2)]
        split
        · rename_i h1; exact hg2k h1
        · rw [if_pos rfl]
      · rcases List.mem_append.1 hq with hq | hq
        · obtain ⟨h1, h2, b, off, h3, h4, h5⟩ := hx.bs q hq
          refine ⟨h1.frX fr3 (fun b' off' hb' hQ' => ?_), h2, b, off, h3, by rw [hz3]; omega, (hk2 x.t.nm b h4 (.inl h5)).trans h5⟩
          rw [h3] at hb'
          injection hb' with hb'
          injection hb' with hb'
          subst hb'
          have := hQ b hQ'
          rw [h5] at this
          rcases this with e | e <;> cases e
        · rw [List.mem_singleton] at hq
          subst hq
          refine ⟨hy.frX fr3 (fun b' off' hb' hQ' => ?_), hy0, bb, 0, hya, by rw [hz3]; omega, if_pos rfl⟩
          rw [hya] at hb'
          injection hb' with hb'
          injection hb' with hb'
          subst hb'
          have := hQ bb hQ'
          rw [hbk] at this
          rcases this with e | e <;> cases e
    · rw [if_neg hij] at hj
      have hne := nm_ne h.nodup hi hj (Ne.symm hij)
      refine (h.each z (List.mem_of_getElem? hj)).fr fr3 (fun b hb hQ' => ?_) (fun b hb hk => hk2 _ b hb hk)
      rcases hQ b hQ' with e | e
      · rw [e]; exact ⟨fun e => (by cases e), fun e => (by cases e)⟩
      · rw [e]; exact ⟨fun e => (by cases e), fun e => hne (by injection e with e; exact e.symm)⟩
  · intro b hb
    have hb : w2.heap.size ≤ b := by rw [← hz3]; exact hb
    show (if b = bb then Role.body else if b < w.heap.size then kd b else if b = g2 then .pcs x.t.nm else .no) = .no
    rw [if_neg (by omega), if_neg (by omega), if_neg (by omega)]
  · rw [List.map_set]
    have e : (hs.map (·.t.nm)).set i x.t.nm = hs.map (·.t.nm) := by
      apply List.ext_getElem?
      intro k
      rw [List.getElem?_set]
      by_cases hk : i = k
      · subst hk
        rw [if_pos rfl, List.getElem?_map, hi]
        simp [hil]
      · rw [if_neg hk]
    have := h.nodup
    rw [← e] at this
    exact this
  · refine fr3.mono (fun b _ hQ' => ?_)
    rcases hQ b hQ' with e | e <;> rw [e] <;> exact fun e => (by cases e)
end Go.Proofs.Ytnbagloifbllbaa
