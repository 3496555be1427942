/- A ring of descriptors as it lies in memory; the mathematics of going round. -/
import Derived.Test.YtfjpckaphfdfnaaGreatDoorCopy
import Derived.Test.YtfjpckaphfdfnaaGreatDoorFrM
import Derived.Test.YtfjpckaphfdfnaaGreatDoorStr
namespace Go.Proofs.YtfjpckaphfdfnaaGreatDoor
open Go.RowKit
theorem round_ne (N a i j : Nat) (hij : i < j) (hj : j < i + N) : (a + i) % N ≠ (a + j) % N := by
  intro h
  have h1 := Nat.sub_mod_eq_zero_of_mod_eq h.symm
  rw [show a + j - (a + i) = j - i by omega, Nat.mod_eq_of_lt (by omega)] at h1
  omega
/-- The ring's own block p, its row's block g; rs: the filled ones, each with its block; X: the blocks that are turned (of this ring and of others). -/
structure Rng (w : World) (B : Nat) (X : Nat → Prop) (p g N gv tk d : Nat) (rs : List (Nat × List Nat)) : Prop where
  bp : B ≤ p
  bg : B ≤ g
  xp : X p
  xg : X g
  xlt : ∀ k, X k → k < w.heap.size
  ne : p ≠ g
  n1 : 1 ≤ N
  n64 : N ≤ 64
  gvl : gv < N
  sum : tk + rs.length ≤ N
  c0 : w.cell? ⟨p, 0, none⟩ = some (.slice (some ⟨g, 0, none⟩) N N)
  c1 : w.cell? ⟨p, 1, none⟩ = some (.int .i64 (gv : Nat))
  c2 : w.cell? ⟨p, 2, none⟩ = some (.int .i64 (tk : Nat))
  c3 : w.cell? ⟨p, 3, none⟩ = some (.int .i64 (rs.length : Nat))
  c4 : w.cell? ⟨p, 4, none⟩ = some (.int .i64 (d : Nat))
  free : ∀ i, w.frozen? ⟨p, i, none⟩ = false
  gfree : ∀ i, w.frozen? ⟨g, i, none⟩ = false
  there : ∀ i, i < N → ∃ a n c, w.cell? ⟨g, i, none⟩ = some (.slice a n c)
  row : ∀ j b zs, rs[j]? = some (b, zs) → ¬ X b ∧ 1 ≤ zs.length ∧ zs.length ≤ 1514 ∧ ∃ c, w.cell? ⟨g, (gv + tk + j) % N, none⟩ = some (.slice (some ⟨b, 0, none⟩) zs.length c) ∧ OwnB w B (some ⟨b, 0, none⟩) zs.length c zs
theorem OwnB.fr {P : Nat → Prop} {w w' : World} {B g n c : Nat} {zs : List Nat} (h : OwnB w B (some ⟨g, 0, none⟩) n c zs) (hf : Fr P w w') (hp : ¬ P g) : OwnB w' B (some ⟨g, 0, none⟩) n c zs := by
  refine ⟨h.len, ?_, h.bnd⟩
  have h1 := h.own
  refine ⟨h1.1, ?_⟩
  rcases h1.2 with ⟨hv, h0⟩ | ⟨g0, cap, cur, hv, hB, hh, h2, h3, h4, h5⟩
  · exact .inl ⟨hv, h0⟩
  · injection hv with e1 e2 e3
    injection e1 with e1
    injection e1 with e1
    subst e1
    have hlt : g < w.heap.size := by
      rcases Nat.lt_or_ge g w.heap.size with h9 | h9
      · exact h9
      · simp [h9] at hh
    exact .inr ⟨g, cap, cur, by rw [e3], hB, by rw [hf.block g hlt hp]; exact hh, h2, h3, h4, h5⟩
theorem OwnB.blt {w : World} {B g n c : Nat} {zs : List Nat} (h : OwnB w B (some ⟨g, 0, none⟩) n c zs) : g < w.heap.size ∧ B ≤ g := by
  rcases h.own.2 with ⟨hv, h0⟩ | ⟨g0, cap, cur, hv, hB, hh, h2, h3, h4, h5⟩
  · cases hv
  · injection hv with e1 e2 e3
    injection e1 with e1
    injection e1 with e1
    subst e1
    refine ⟨?_, hB⟩
    rcases Nat.lt_or_ge g w.heap.size with h9 | h9
    · exact h9
    · simp [h9] at hh
theorem Rng.lt {w : World} {B : Nat} {X : Nat → Prop} {p g N gv tk d : Nat} {rs : List (Nat × List Nat)} (h : Rng w B X p g N gv tk d rs) : p < w.heap.size := h.xlt p h.xp
theorem Rng.glt {w : World} {B : Nat} {X : Nat → Prop} {p g N gv tk d : Nat} {rs : List (Nat × List Nat)} (h : Rng w B X p g N gv tk d rs) : g < w.heap.size := h.xlt g h.xg
theorem Rng.rlt {w : World} {B : Nat} {X : Nat → Prop} {p g N gv tk d : Nat} {rs : List (Nat × List Nat)} (h : Rng w B X p g N gv tk d rs) (x : Nat × List Nat) (hx : x ∈ rs) : x.1 < w.heap.size ∧ ¬ X x.1 ∧ B ≤ x.1 := by
  obtain ⟨j, hj⟩ := List.getElem?_of_mem hx
  obtain ⟨h1, _, _, c, _, h2⟩ := h.row j x.1 x.2 hj
  exact ⟨h2.blt.1, h1, h2.blt.2⟩
/-- What turns neither the ring's blocks nor those of what is filled leaves it as it was. -/
theorem Rng.fr {P : Nat → Prop} {w w' : World} {B : Nat} {X : Nat → Prop} {p g N gv tk d : Nat} {rs : List (Nat × List Nat)} (h : Rng w B X p g N gv tk d rs) (hf : Fr P w w') (hp : ¬ P p) (hg : ¬ P g) (hr : ∀ x ∈ rs, ¬ P x.1) : Rng w' B X p g N gv tk d rs := by
  have e := fun i => hf.cell ⟨p, i, none⟩ h.lt hp
  have eg := fun i => hf.cell ⟨g, i, none⟩ h.glt hg
  refine ⟨h.bp, h.bg, h.xp, h.xg, fun k hk => Nat.lt_of_lt_of_le (h.xlt k hk) hf.size, h.ne, h.n1, h.n64, h.gvl, h.sum, (e 0).trans h.c0, (e 1).trans h.c1, (e 2).trans h.c2, (e 3).trans h.c3, (e 4).trans h.c4, fun i => (hf.frozen ⟨p, i, none⟩ h.lt hp).trans (h.free i), fun i => (hf.frozen ⟨g, i, none⟩ h.glt hg).trans (h.gfree i), fun i hi => ?_, fun j b zs hj => ?_⟩
  · obtain ⟨a, n, c, h1⟩ := h.there i hi
    exact ⟨a, n, c, (eg i).trans h1⟩
  · obtain ⟨h1, h2, h3, c, h4, h5⟩ := h.row j b zs hj
    exact ⟨h1, h2, h3, c, (eg _).trans h4, h5.fr hf (hr (b, zs) (List.mem_of_getElem? hj))⟩
/-- A new filled one. -/
theorem Rng.filled {w : World} {B : Nat} {X : Nat → Prop} {p g N gv tk d : Nat} {rs : List (Nat × List Nat)} (h : Rng w B X p g N gv tk d rs) (b c : Nat) (zs : List Nat) (hfit : tk + rs.length < N) (h1 : 1 ≤ zs.length) (h2 : zs.length ≤ 1514) (hx : ¬ X b) (ho : OwnB w B (some ⟨b, 0, none⟩) zs.length c zs) :
    Rng ((w.setCell ⟨g, (gv + (tk + rs.length)) % N, none⟩ (.slice (some ⟨b, 0, none⟩) zs.length c)).setCell ⟨p, 3, none⟩ (.int .i64 ((rs.length : Int) + 1))) B X p g N gv tk d (rs ++ [(b, zs)]) := by
  have hf1 : Fr (· = g) w (w.setCell ⟨g, (gv + (tk + rs.length)) % N, none⟩ (.slice (some ⟨b, 0, none⟩) zs.length c)) := Fr.setCell _ _ _ _ rfl
  have hne := h.ne
  have hcell := World.cell?_setCell_same' w ⟨g, (gv + (tk + rs.length)) % N, none⟩ (.slice (some ⟨b, 0, none⟩) zs.length c) (by obtain ⟨a, n, c, h⟩ := h.there _ (Nat.mod_lt _ (by have := h.n1; omega)); rw [h]; rfl)
  obtain ⟨w1, hw1⟩ : ∃ w1, w1 = w.setCell ⟨g, (gv + (tk + rs.length)) % N, none⟩ (.slice (some ⟨b, 0, none⟩) zs.length c) := ⟨_, rfl⟩
  have hoth : ∀ i, i ≠ (gv + (tk + rs.length)) % N → w1.cell? ⟨g, i, none⟩ = w.cell? ⟨g, i, none⟩ := fun i hi => by rw [hw1, World.cell?_setCell_other _ _ _ _ (by intro e2; injection e2 with _ e3; exact hi e3.symm)]
  have hgf : ∀ i, w1.frozen? ⟨g, i, none⟩ = false := fun i => by rw [hw1, World.frozen?_setCell]; exact h.gfree i
  rw [← hw1] at hf1 hcell ⊢
  clear hw1
  have hf2 : Fr (· = p) w1 (w1.setCell ⟨p, 3, none⟩ (.int .i64 ((rs.length : Int) + 1))) := Fr.setCell _ _ _ _ rfl
  have e1 := fun i => hf1.cell ⟨p, i, none⟩ h.lt hne
  have c3' : w1.cell? ⟨p, 3, none⟩ = some (.int .i64 (rs.length : Nat)) := (e1 3).trans h.c3
  have h3 := World.cell?_setCell_same' w1 ⟨p, 3, none⟩ (.int .i64 ((rs.length : Int) + 1)) (by rw [c3']; rfl)
  have ho2 : ∀ i, i ≠ 3 → (w1.setCell ⟨p, 3, none⟩ (.int .i64 ((rs.length : Int) + 1))).cell? ⟨p, i, none⟩ = w.cell? ⟨p, i, none⟩ := fun i hi => by rw [World.cell?_setCell_other _ _ _ _ (by intro e2; injection e2 with _ e3; exact hi e3.symm)]; exact e1 i
  have hpf : ∀ i, (w1.setCell ⟨p, 3, none⟩ (.int .i64 ((rs.length : Int) + 1))).frozen? ⟨p, i, none⟩ = false := fun i => by rw [World.frozen?_setCell, hf1.frozen ⟨p, i, none⟩ h.lt hne]; exact h.free i
  obtain ⟨w2, hw2⟩ : ∃ w2, w2 = w1.setCell ⟨p, 3, none⟩ (.int .i64 ((rs.length : Int) + 1)) := ⟨_, rfl⟩
  rw [← hw2] at hf2 h3 ho2 hpf ⊢
  clear hw2
  have hglt : g < w1.heap.size := Nat.lt_of_lt_of_le h.glt hf1.size
  have e2 := fun i => hf2.cell ⟨g, i, none⟩ hglt (fun e => hne e.symm)
  refine ⟨h.bp, h.bg, h.xp, h.xg, fun k hk => Nat.lt_of_lt_of_le (h.xlt k hk) (Nat.le_trans hf1.size hf2.size), hne, h.n1, h.n64, h.gvl, by simp; omega, (ho2 0 (by omega)).trans h.c0, (ho2 1 (by omega)).trans h.c1, (ho2 2 (by omega)).trans h.c2, by rw [h3]; simp, (ho2 4 (by omega)).trans h.c4, hpf, fun i => by rw [hf2.frozen ⟨g, i, none⟩ hglt (fun e => hne e.symm)]; exact hgf i, fun i hi => ?_, fun j b' zs' hj => ?_⟩
  · rw [e2]
    by_cases he : i = (gv + (tk + rs.length)) % N
    · exact ⟨_, _, _, by rw [he]; exact hcell⟩
    · rw [hoth i he]; exact h.there i hi
  · rw [e2]
    by_cases hjl : j < rs.length
    · rw [List.getElem?_append_left hjl] at hj
      obtain ⟨a1, a2, a3, c', a4, a5⟩ := h.row j b' zs' hj
      refine ⟨a1, a2, a3, c', ?_, ?_⟩
      · rw [hoth _ (by have := round_ne N (gv + tk) j rs.length hjl (by omega); rw [show gv + (tk + rs.length) = gv + tk + rs.length by omega]; exact this)]; exact a4
      · exact (a5.fr hf1 (fun e => a1 (e ▸ h.xg))).fr hf2 (fun e => a1 (e ▸ h.xp))
    · have hjj : j = rs.length := by
        have := (List.getElem?_eq_some_iff.1 hj).1
        simp at this; omega
      subst hjj
      rw [List.getElem?_append_right (Nat.le_refl _), Nat.sub_self] at hj
      simp at hj
      obtain ⟨rfl, rfl⟩ := hj
      refine ⟨hx, h1, h2, c, ?_, ?_⟩
      · rw [show gv + tk + rs.length = gv + (tk + rs.length) by omega]; exact hcell
      · exact (ho.fr hf1 (fun e => hx (e ▸ h.xg))).fr hf2 (fun e => hx (e ▸ h.xp))
/-- A dropped one is counted. -/
theorem Rng.drop {w : World} {B : Nat} {X : Nat → Prop} {p g N gv tk d : Nat} {rs : List (Nat × List Nat)} (h : Rng w B X p g N gv tk d rs) : Rng (w.setCell ⟨p, 4, none⟩ (.int .i64 ((d : Int) + 1))) B X p g N gv tk (d + 1) rs := by
  have hf : Fr (· = p) w (w.setCell ⟨p, 4, none⟩ (.int .i64 ((d : Int) + 1))) := Fr.setCell _ _ _ _ rfl
  have h4 := World.cell?_setCell_same' w ⟨p, 4, none⟩ (.int .i64 ((d : Int) + 1)) (by rw [h.c4]; rfl)
  have ho : ∀ i, i ≠ 4 → (w.setCell ⟨p, 4, none⟩ (.int .i64 ((d : Int) + 1))).cell? ⟨p, i, none⟩ = w.cell? ⟨p, i, none⟩ := fun i hi => World.cell?_setCell_other _ _ _ _ (by intro e2; injection e2 with _ e3; exact hi e3.symm)
  have hne : g ≠ p := fun e => h.ne e.symm
  have e2 := fun i => hf.cell ⟨g, i, none⟩ h.glt hne
  refine ⟨h.bp, h.bg, h.xp, h.xg, fun k hk => Nat.lt_of_lt_of_le (h.xlt k hk) hf.size, h.ne, h.n1, h.n64, h.gvl, h.sum, (ho 0 (by omega)).trans h.c0, (ho 1 (by omega)).trans h.c1, (ho 2 (by omega)).trans h.c2, (ho 3 (by omega)).trans h.c3, by rw [h4]; simp, fun i => by rw [World.frozen?_setCell]; exact h.free i, fun i => by rw [World.frozen?_setCell]; exact h.gfree i, fun i hi => ?_, fun j b zs hj => ?_⟩
  · rw [e2]; exact h.there i hi
  · obtain ⟨a1, a2, a3, c', a4, a5⟩ := h.row j b zs hj
    exact ⟨a1, a2, a3, c', by rw [e2]; exact a4, a5.fr hf (fun e => a1 (e ▸ h.xp))⟩
/-- The first filled one is taken. -/
theorem Rng.taken {w : World} {B : Nat} {X : Nat → Prop} {p g N gv tk d : Nat} {r : Nat × List Nat} {rs : List (Nat × List Nat)} (h : Rng w B X p g N gv tk d (r :: rs)) :
    Rng (((w.setCell ⟨g, (gv + tk) % N, none⟩ (.slice none 0 0)).setCell ⟨p, 3, none⟩ (.int .i64 (rs.length : Nat))).setCell ⟨p, 2, none⟩ (.int .i64 ((tk : Int) + 1))) B X p g N gv (tk + 1) d rs := by
  have hne := h.ne
  have hlen : (r :: rs).length = rs.length + 1 := rfl
  have hsum := h.sum
  have hf1 : Fr (· = g) w (w.setCell ⟨g, (gv + tk) % N, none⟩ (.slice none 0 0)) := Fr.setCell _ _ _ _ rfl
  have hcell := World.cell?_setCell_same' w ⟨g, (gv + tk) % N, none⟩ (.slice none 0 0) (by obtain ⟨a, n, c, h⟩ := h.there _ (Nat.mod_lt _ (by have := h.n1; omega)); rw [h]; rfl)
  obtain ⟨w1, hw1⟩ : ∃ w1, w1 = w.setCell ⟨g, (gv + tk) % N, none⟩ (.slice none 0 0) := ⟨_, rfl⟩
  have hoth : ∀ i, i ≠ (gv + tk) % N → w1.cell? ⟨g, i, none⟩ = w.cell? ⟨g, i, none⟩ := fun i hi => by rw [hw1, World.cell?_setCell_other _ _ _ _ (by intro e2; injection e2 with _ e3; exact hi e3.symm)]
  have hgf : ∀ i, w1.frozen? ⟨g, i, none⟩ = false := fun i => by rw [hw1, World.frozen?_setCell]; exact h.gfree i
  rw [← hw1] at hf1 hcell ⊢
  clear hw1
  have e1 := fun i => hf1.cell ⟨p, i, none⟩ h.lt hne
  have k1 : ∀ i, w1.frozen? ⟨p, i, none⟩ = false := fun i => by rw [hf1.frozen ⟨p, i, none⟩ h.lt hne]; exact h.free i
  have hf2 : Fr (· = p) w1 ((w1.setCell ⟨p, 3, none⟩ (.int .i64 (rs.length : Nat))).setCell ⟨p, 2, none⟩ (.int .i64 ((tk : Int) + 1))) := Fr.trans (Fr.setCell (· = p) _ _ _ rfl) (Fr.setCell (· = p) _ _ _ rfl)
  have q3 : ((w1.setCell ⟨p, 3, none⟩ (.int .i64 (rs.length : Nat))).setCell ⟨p, 2, none⟩ (.int .i64 ((tk : Int) + 1))).cell? ⟨p, 3, none⟩ = some (.int .i64 (rs.length : Nat)) := by
    rw [World.cell?_setCell_other _ _ _ _ (by intro e2; injection e2 with _ e3; omega)]
    exact World.cell?_setCell_same' _ _ _ (by rw [e1, h.c3]; rfl)
  have q2 : ((w1.setCell ⟨p, 3, none⟩ (.int .i64 (rs.length : Nat))).setCell ⟨p, 2, none⟩ (.int .i64 ((tk : Int) + 1))).cell? ⟨p, 2, none⟩ = some (.int .i64 ((tk : Int) + 1)) := by
    refine World.cell?_setCell_same' _ _ _ ?_
    rw [World.cell?_setCell_other _ _ _ _ (by intro e2; injection e2 with _ e3; omega), e1, h.c2]; rfl
  have qo : ∀ i, i ≠ 3 → i ≠ 2 → ((w1.setCell ⟨p, 3, none⟩ (.int .i64 (rs.length : Nat))).setCell ⟨p, 2, none⟩ (.int .i64 ((tk : Int) + 1))).cell? ⟨p, i, none⟩ = w.cell? ⟨p, i, none⟩ := fun i h3 h2 => by
    rw [World.cell?_setCell_other _ _ _ _ (by intro e2; injection e2 with _ e3; exact h2 e3.symm), World.cell?_setCell_other _ _ _ _ (by intro e2; injection e2 with _ e3; exact h3 e3.symm)]; exact e1 i
  have qf : ∀ i, ((w1.setCell ⟨p, 3, none⟩ (.int .i64 (rs.length : Nat))).setCell ⟨p, 2, none⟩ (.int .i64 ((tk : Int) + 1))).frozen? ⟨p, i, none⟩ = false := fun i => by rw [World.frozen?_setCell, World.frozen?_setCell]; exact k1 i
  obtain ⟨w2, hw2⟩ : ∃ w2, w2 = (w1.setCell ⟨p, 3, none⟩ (.int .i64 (rs.length : Nat))).setCell ⟨p, 2, none⟩ (.int .i64 ((tk : Int) + 1)) := ⟨_, rfl⟩
  rw [← hw2] at hf2 q3 q2 qo qf ⊢
  clear hw2
  have hglt : g < w1.heap.size := Nat.lt_of_lt_of_le h.glt hf1.size
  have e2 := fun i => hf2.cell ⟨g, i, none⟩ hglt (fun e => hne e.symm)
  refine ⟨h.bp, h.bg, h.xp, h.xg, fun k hk => Nat.lt_of_lt_of_le (h.xlt k hk) (Nat.le_trans hf1.size hf2.size), hne, h.n1, h.n64, h.gvl, by omega, (qo 0 (by omega) (by omega)).trans h.c0, (qo 1 (by omega) (by omega)).trans h.c1, by rw [q2]; simp, q3, (qo 4 (by omega) (by omega)).trans h.c4, qf, fun i => by rw [hf2.frozen ⟨g, i, none⟩ hglt (fun e => hne e.symm)]; exact hgf i, fun i hi => ?_, fun j b' zs' hj => ?_⟩
  · rw [e2]
    by_cases he : i = (gv + tk) % N
    · exact ⟨_, _, _, by rw [he]; exact hcell⟩
    · rw [hoth i he]; exact h.there i hi
  · rw [e2]
    have hjl : j < rs.length := (List.getElem?_eq_some_iff.1 hj).1
    obtain ⟨a1, a2, a3, c', a4, a5⟩ := h.row (j + 1) b' zs' (by simpa using hj)
    refine ⟨a1, a2, a3, c', ?_, ?_⟩
    · rw [hoth _ (by have := round_ne N (gv + tk) 0 (j + 1) (by omega) (by omega); rw [show gv + (tk + 1) + j = gv + tk + (j + 1) by omega]; exact fun e => this e.symm)]
      rw [show gv + (tk + 1) + j = gv + tk + (j + 1) by omega]; exact a4
    · exact (a5.fr hf1 (fun e => a1 (e ▸ h.xg))).fr hf2 (fun e => a1 (e ▸ h.xp))
theorem give_round (N gv tk j : Nat) (ht : 1 ≤ tk) : ((gv + 1) % N + (tk - 1) + j) % N = (gv + tk + j) % N := by
  rw [Nat.add_assoc, Nat.mod_add_mod]
  congr 1
  omega
/-- The next taken one is given back. -/
theorem Rng.given {w : World} {B : Nat} {X : Nat → Prop} {p g N gv tk d : Nat} {rs : List (Nat × List Nat)} (h : Rng w B X p g N gv (tk + 1) d rs) :
    Rng ((w.setCell ⟨p, 1, none⟩ (.int .i64 (((gv + 1) % N : Nat) : Int))).setCell ⟨p, 2, none⟩ (.int .i64 (tk : Nat))) B X p g N ((gv + 1) % N) tk d rs := by
  have hne := h.ne
  have hsum := h.sum
  have hn1 := h.n1
  have hf2 : Fr (· = p) w ((w.setCell ⟨p, 1, none⟩ (.int .i64 (((gv + 1) % N : Nat) : Int))).setCell ⟨p, 2, none⟩ (.int .i64 (tk : Nat))) := Fr.trans (Fr.setCell (· = p) _ _ _ rfl) (Fr.setCell (· = p) _ _ _ rfl)
  have q1 : ((w.setCell ⟨p, 1, none⟩ (.int .i64 (((gv + 1) % N : Nat) : Int))).setCell ⟨p, 2, none⟩ (.int .i64 (tk : Nat))).cell? ⟨p, 1, none⟩ = some (.int .i64 (((gv + 1) % N : Nat) : Int)) := by
    rw [World.cell?_setCell_other _ _ _ _ (by intro e2; injection e2 with _ e3; omega)]
    exact World.cell?_setCell_same' _ _ _ (by rw [h.c1]; rfl)
  have q2 : ((w.setCell ⟨p, 1, none⟩ (.int .i64 (((gv + 1) % N : Nat) : Int))).setCell ⟨p, 2, none⟩ (.int .i64 (tk : Nat))).cell? ⟨p, 2, none⟩ = some (.int .i64 (tk : Nat)) := by
    refine World.cell?_setCell_same' _ _ _ ?_
    rw [World.cell?_setCell_other _ _ _ _ (by intro e2; injection e2 with _ e3; omega), h.c2]; rfl
  have qo : ∀ i, i ≠ 1 → i ≠ 2 → ((w.setCell ⟨p, 1, none⟩ (.int .i64 (((gv + 1) % N : Nat) : Int))).setCell ⟨p, 2, none⟩ (.int .i64 (tk : Nat))).cell? ⟨p, i, none⟩ = w.cell? ⟨p, i, none⟩ := fun i h3 h2 => by
    rw [World.cell?_setCell_other _ _ _ _ (by intro e2; injection e2 with _ e3; exact h2 e3.symm), World.cell?_setCell_other _ _ _ _ (by intro e2; injection e2 with _ e3; exact h3 e3.symm)]
  have qf : ∀ b i, ((w.setCell ⟨p, 1, none⟩ (.int .i64 (((gv + 1) % N : Nat) : Int))).setCell ⟨p, 2, none⟩ (.int .i64 (tk : Nat))).frozen? ⟨b, i, none⟩ = w.frozen? ⟨b, i, none⟩ := fun b i => by rw [World.frozen?_setCell, World.frozen?_setCell]
  obtain ⟨w2, hw2⟩ : ∃ w2, w2 = (w.setCell ⟨p, 1, none⟩ (.int .i64 (((gv + 1) % N : Nat) : Int))).setCell ⟨p, 2, none⟩ (.int .i64 (tk : Nat)) := ⟨_, rfl⟩
  rw [← hw2] at hf2 q1 q2 qo qf ⊢
  clear hw2
  have e2 := fun i => hf2.cell ⟨g, i, none⟩ h.glt (fun e => hne e.symm)
  refine ⟨h.bp, h.bg, h.xp, h.xg, fun k hk => Nat.lt_of_lt_of_le (h.xlt k hk) hf2.size, hne, h.n1, h.n64, Nat.mod_lt _ hn1, by omega, (qo 0 (by omega) (by omega)).trans h.c0, q1, q2, (qo 3 (by omega) (by omega)).trans h.c3, (qo 4 (by omega) (by omega)).trans h.c4, fun i => (qf p i).trans (h.free i), fun i => (qf g i).trans (h.gfree i), fun i hi => ?_, fun j b' zs' hj => ?_⟩
  · rw [e2]; exact h.there i hi
  · obtain ⟨a1, a2, a3, c', a4, a5⟩ := h.row j b' zs' hj
    refine ⟨a1, a2, a3, c', ?_, a5.fr hf2 (fun e => a1 (e ▸ h.xp))⟩
    rw [e2]
    have := give_round N gv (tk + 1) j (by omega)
    rw [show tk + 1 - 1 = tk by omega] at this
    rw [this]; exact a4
end Go.Proofs.YtfjpckaphfdfnaaGreatDoor
