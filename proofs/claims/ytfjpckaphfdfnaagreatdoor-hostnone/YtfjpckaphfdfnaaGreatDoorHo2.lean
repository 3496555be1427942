/- host: as it lies in memory: four rings, two caches, a pool; who owns which block. -/
import Derived.Test.YtfjpckaphfdfnaaGreatDoorHo1
import Derived.Test.YtfjpckaphfdfnaaGreatDoorArW
namespace Go.Proofs.YtfjpckaphfdfnaaGreatDoor
open Go.RowKit Go.MapKept Go.Maps
structure RSt where
  p : Nat
  g : Nat
  N : Nat
  gv : Nat
  tk : Nat
  d : Nat
  rs : List (Nat × List Nat)
structure CSt where
  p : Nat
  mac : Nat
  ip : Nat
  now : Int
  lost : Int
  D : List (Nat × Nbr)
structure HSt where
  m0 : Nat
  m1 : Nat
  a0 : Nat
  a1 : Nat
  p0 : Nat
  p1 : Nat
  mtu : Int
  rg : Int
  sm : Int
  sec : Value
  now : Int
  q : Nat
  st : Int
  pt : Nat
  past : Value
  id : Nat
  c0 : Nat
  c1 : Nat
  c2 : Nat
  c3 : Nat
  pn : Int
  E : List (Nat × List Value)
def hoCv (s : HSt) (v0 v1 v2 v3 v4 v5 : Value) : List Value :=
  [.int .u64 (s.m0 : Nat), .int .u64 (s.m1 : Nat), .int .u32 (s.a0 : Nat), .int .u32 (s.a1 : Nat), .int .u32 (s.p0 : Nat), .int .u32 (s.p1 : Nat), .int .i64 s.mtu, .int .i64 s.rg, .int .i64 s.sm,
   s.sec, .int .i64 s.now, v0, v1, v2, v3, v4, v5, .pointer (some ⟨s.q, 0, none⟩),
   .int .i64 s.st, .int .u16 (s.pt : Nat), .pointer none, .slice none 0 0, .pointer none, .bool false,
   .int .i64 0, .int .u16 0, .pointer none, .slice none 0 0, .pointer none, .bool false,
   .int .i64 0, .int .u16 0, .pointer none, .slice none 0 0, .pointer none, .bool false,
   .int .i64 0, .int .u16 0, .pointer none, .slice none 0 0, .pointer none, .bool false,
   .int .i64 0, .int .u16 0, .pointer none, .slice none 0 0, .pointer none, .bool false,
   .int .i64 0, .int .u16 0, .pointer none, .slice none 0 0, .pointer none, .bool false,
   .int .i64 0, .int .u16 0, .pointer none, .slice none 0 0, .pointer none, .bool false,
   .int .i64 0, .int .u16 0, .pointer none, .slice none 0 0, .pointer none, .bool false,
   s.past, .int .u16 (s.id : Nat), .int .i64 (s.c0 : Nat), .int .i64 (s.c1 : Nat), .int .i64 (s.c2 : Nat), .int .i64 (s.c3 : Nat)]
abbrev hoC (s : HSt) (i0 o0 n0 i1 o1 n1 : Nat) : List Value := hoCv s (.pointer (some ⟨i0, 0, none⟩)) (.pointer (some ⟨o0, 0, none⟩)) (.pointer (some ⟨n0, 0, none⟩)) (.pointer (some ⟨i1, 0, none⟩)) (.pointer (some ⟨o1, 0, none⟩)) (.pointer (some ⟨n1, 0, none⟩))
abbrev hoCs (s : HSt) (R : Nat → RSt) (C : Nat → CSt) : List Value := hoC s (R 0).p (R 1).p (C 0).p (R 2).p (R 3).p (C 1).p
/-- A ring. -/
abbrev RgS (w : World) (B : Nat) (r : RSt) : Prop := Rng w B (fun k => k = r.p ∨ k = r.g) r.p r.g r.N r.gv r.tk r.d r.rs
def upd {α : Type} (R : Nat → α) (k : Nat) (v : α) : Nat → α := fun j => if j = k then v else R j
theorem upd_at {α : Type} (R : Nat → α) (k : Nat) (v : α) : upd R k v k = v := if_pos rfl
theorem upd_ne {α : Type} (R : Nat → α) {k j : Nat} (v : α) (h : j ≠ k) : upd R k v j = R j := if_neg h
structure HoV (w0 w : World) (p : Nat) (s : HSt) (R : Nat → RSt) (C : Nat → CSt) (ro : Nat → Nat) : Prop where
  st : Stc w p (hoCs s R C)
  rp : ro p = 1
  pq : Stc w s.q [.int .i64 s.pn, .slice none 0 0, .int .i64 0]
  rq : ro s.q = 2
  ring : ∀ k, k < 4 → RgS w w0.heap.size (R k) ∧ ro (R k).p = 10 + k ∧ ro (R k).g = 10 + k ∧ ∀ x ∈ (R k).rs, ro x.1 = 10 + k
  cache : ∀ k, k < 2 → ∃ kd, CaW w kd (C k).p (C k).mac (C k).ip (C k).now (C k).lost (C k).D ∧ ∀ g, kd g ≠ .no → ro g = 20 + k
  new : ∀ g, w.heap.size ≤ g → ro g = 0
  low : ∀ g, ro g ≠ 0 → w0.heap.size ≤ g
  ext : ∀ x ∈ s.E, ro x.1 = 0 ∧ w0.heap.size ≤ x.1 ∧ Stc w x.1 x.2
  bel : Below w0.heap.size w0 w
def HoW (w0 w : World) (p : Nat) (s : HSt) (R : Nat → RSt) (C : Nat → CSt) : Prop := ∃ ro, HoV w0 w p s R C ro
section
variable {w0 w w' : World} {p : Nat} {s : HSt} {R : Nat → RSt} {C : Nat → CSt} {ro : Nat → Nat}
/-- Blocks of one owner alone are turned: what the others own stays. -/
theorem HoV.keep (h : HoV w0 w p s R C ro) {n : Nat} (hf : Fr (fun g => ro g = n) w w') (hn : n ≠ 0) (ro' : Nat → Nat) (e1 : ∀ g, g < w.heap.size → ro' g = ro g) (_e2 : ∀ g, w.heap.size ≤ g → ro' g = 0 ∨ ro' g = n) :
    (n ≠ 1 → Stc w' p (hoCs s R C)) ∧ ro' p = 1 ∧ (n ≠ 2 → Stc w' s.q [.int .i64 s.pn, .slice none 0 0, .int .i64 0]) ∧ ro' s.q = 2
    ∧ (∀ k, k < 4 → (n ≠ 10 + k → RgS w' w0.heap.size (R k)) ∧ ro' (R k).p = 10 + k ∧ ro' (R k).g = 10 + k ∧ ∀ x ∈ (R k).rs, ro' x.1 = 10 + k)
    ∧ (∀ k, k < 2 → n ≠ 20 + k → ∃ kd, CaW w' kd (C k).p (C k).mac (C k).ip (C k).now (C k).lost (C k).D ∧ ∀ g, kd g ≠ .no → ro' g = 20 + k)
    ∧ (∀ g, ro' g ≠ 0 → w0.heap.size ≤ g) ∧ Below w0.heap.size w0 w' ∧ (∀ x ∈ s.E, ro' x.1 = 0 ∧ w0.heap.size ≤ x.1 ∧ Stc w' x.1 x.2) := by
  refine ⟨fun h1 => h.st.fr hf (fun e => h1 (by rw [← e, h.rp])), (e1 _ h.st.lt).trans h.rp, fun h1 => h.pq.fr hf (fun e => h1 (by rw [← e, h.rq])), (e1 _ h.pq.lt).trans h.rq, fun k hk => ?_, fun k hk hnk => ?_, fun g hg => ?_, ?_, fun x hx => ?_⟩
  · obtain ⟨h1, h2, h3, h4⟩ := h.ring k hk
    refine ⟨fun hnk => h1.fr hf (fun e => hnk (by rw [← e, h2])) (fun e => hnk (by rw [← e, h3])) (fun x hx e => hnk (by rw [← e, h4 x hx])), (e1 _ h1.lt).trans h2, (e1 _ h1.glt).trans h3, fun x hx => (e1 _ (h1.rlt x hx).1).trans (h4 x hx)⟩
  · obtain ⟨kd, h1, h2⟩ := h.cache k hk
    refine ⟨kd, h1.fr hf (fun g hg hq => .inl ?_), fun g hg => ?_⟩
    · rcases Classical.em (kd g = .no) with e | e
      · exact e
      · exact absurd ((h2 g e).symm.trans hq).symm hnk
    · rcases Nat.lt_or_ge g w.heap.size with hl | hl
      · exact (e1 g hl).trans (h2 g hg)
      · exact absurd (h1.fresh g hl) hg
  · rcases Nat.lt_or_ge g w.heap.size with hl | hl
    · exact h.low g (by rw [← e1 g hl]; exact hg)
    · exact Nat.le_trans h.bel.size hl
  · exact h.bel.trans (hf.below _ h.bel.size (fun g hg => h.low g (by rw [hg]; exact hn)))
  · obtain ⟨h1, h2, h3⟩ := h.ext x hx
    exact ⟨(e1 _ h3.lt).trans h1, h2, h3.fr hf (fun e => hn (by rw [← e, h1]))⟩
theorem HoV.below (h : HoV w0 w p s R C ro) (hb : Below w.heap.size w w') : HoV w0 w' p s R C ro :=
  ⟨h.st.below hb, h.rp, h.pq.below hb, h.rq, fun k hk => ⟨(h.ring k hk).1.below hb, (h.ring k hk).2⟩, fun k hk => by obtain ⟨kd, h1, h2⟩ := h.cache k hk; exact ⟨kd, h1.below hb, h2⟩, fun g hg => h.new g (Nat.le_trans hb.size hg), h.low, fun x hx => ⟨(h.ext x hx).1, (h.ext x hx).2.1, (h.ext x hx).2.2.below hb⟩, h.bel.trans (hb.mono h.bel.size)⟩
theorem HoW.below (h : HoW w0 w p s R C) (hb : Below w.heap.size w w') : HoW w0 w' p s R C := by
  obtain ⟨ro, h⟩ := h
  exact ⟨ro, h.below hb⟩
theorem HoW.bel (h : HoW w0 w p s R C) : Below w0.heap.size w0 w := by
  obtain ⟨ro, h⟩ := h
  exact h.bel
/-- A call of a ring's. -/
theorem HoV.rings (h : HoV w0 w p s R C ro) {k : Nat} (hk : k < 4) (r' : RSt) (hp : r'.p = (R k).p) (hg : r'.g = (R k).g) (hf : Fr (fun g => g = (R k).p ∨ g = (R k).g) w w') (hr : RgS w' w0.heap.size r') (hb : ∀ x ∈ r'.rs, x ∈ (R k).rs ∨ w.heap.size ≤ x.1) : HoW w0 w' p s (upd R k r') C := by
  classical
  obtain ⟨g1, g2, g3, g4⟩ := h.ring k hk
  have hf' : Fr (fun g => ro g = 10 + k) w w' := hf.mono (fun g _ hg => by rcases hg with e | e <;> rw [e] <;> assumption)
  obtain ⟨ro', hro⟩ : ∃ ro' : Nat → Nat, ro' = fun g => if g < w.heap.size then ro g else if ∃ x ∈ r'.rs, x.1 = g then 10 + k else 0 := ⟨_, rfl⟩
  have e1 : ∀ g, g < w.heap.size → ro' g = ro g := fun g hg => by rw [hro]; exact if_pos hg
  have e2 : ∀ g, w.heap.size ≤ g → ro' g = 0 ∨ ro' g = 10 + k := fun g hg => by
    rw [hro]
    dsimp only
    rw [if_neg (by omega)]
    split
    · exact .inr rfl
    · exact .inl rfl
  obtain ⟨k1, k2, k3, k4, k5, k6, k7, k8, k9⟩ := h.keep hf' (by omega) ro' e1 e2
  have hpp : ∀ j, (upd R k r' j).p = (R j).p := fun j => by
    unfold upd
    split
    · rename_i e; rw [e, hp]
    · rfl
  refine ⟨ro', ?_, k2, k3 (by omega), k4, fun j hj => ?_, fun j hj => k6 j hj (by omega), fun g hg => ?_, k7, k9, k8⟩
  · have := k1 (by omega)
    unfold hoCs at this ⊢
    rw [hpp 0, hpp 1, hpp 2, hpp 3]
    exact this
  · rcases Nat.decEq j k with e | e
    · rw [upd_ne R r' e]
      obtain ⟨m1, m2, m3, m4⟩ := k5 j hj
      exact ⟨m1 (by omega), m2, m3, m4⟩
    · subst e
      rw [upd_at]
      obtain ⟨_, m2, m3, m4⟩ := k5 j hj
      refine ⟨hr, by rw [hp]; exact m2, by rw [hg]; exact m3, fun x hx => ?_⟩
      rcases hb x hx with e | e
      · exact m4 x e
      · rw [hro]
        dsimp only
        rw [if_neg (by omega), if_pos ⟨x, hx, rfl⟩]
  · rw [hro]
    dsimp only
    have := hf.size
    rw [if_neg (by omega), if_neg]
    rintro ⟨x, hx, rfl⟩
    have := (hr.rlt x hx).1
    omega
/-- A call of a cache's. -/
theorem HoV.caches (h : HoV w0 w p s R C ro) {k : Nat} (hk : k < 2) (c' : CSt) (hp : c'.p = (C k).p) {kd kd' : Nat → RoleA} (hkd : ∀ g, kd g ≠ .no → ro g = 20 + k) (hg : GrowA kd kd' w w') (hc : CaW w' kd' c'.p c'.mac c'.ip c'.now c'.lost c'.D) : HoW w0 w' p s R (upd C k c') := by
  classical
  have hf' : Fr (fun g => ro g = 20 + k) w w' := hg.fr.mono (fun g _ hq => hkd g hq)
  obtain ⟨ro', hro⟩ : ∃ ro' : Nat → Nat, ro' = fun g => if g < w.heap.size then ro g else if kd' g ≠ .no then 20 + k else 0 := ⟨_, rfl⟩
  have e1 : ∀ g, g < w.heap.size → ro' g = ro g := fun g hg => by rw [hro]; exact if_pos hg
  have e2 : ∀ g, w.heap.size ≤ g → ro' g = 0 ∨ ro' g = 20 + k := fun g hg => by
    rw [hro]
    dsimp only
    rw [if_neg (by omega)]
    split
    · exact .inr rfl
    · exact .inl rfl
  obtain ⟨k1, k2, k3, k4, k5, k6, k7, k8, k9⟩ := h.keep hf' (by omega) ro' e1 e2
  have hpp : ∀ j, (upd C k c' j).p = (C j).p := fun j => by
    unfold upd
    split
    · rename_i e; rw [e, hp]
    · rfl
  refine ⟨ro', ?_, k2, k3 (by omega), k4, fun j hj => ⟨(k5 j hj).1 (by omega), (k5 j hj).2⟩, fun j hj => ?_, fun g hg2 => ?_, k7, k9, k8⟩
  · have := k1 (by omega)
    unfold hoCs at this ⊢
    rw [hpp 0, hpp 1]
    exact this
  · rcases Nat.decEq j k with e | e
    · rw [upd_ne C c' e]
      exact k6 j hj (by omega)
    · subst e
      rw [upd_at]
      refine ⟨kd', hc, fun g hq => ?_⟩
      rcases Nat.lt_or_ge g w.heap.size with hl | hl
      · rw [e1 g hl]
        exact hkd g (fun e => hq (hg.no g hl e))
      · rw [hro]
        dsimp only
        rw [if_neg (by omega), if_pos hq]
  · rw [hro]
    dsimp only
    have := hg.fr.size
    rw [if_neg (by omega), if_neg]
    exact fun e => e (hc.fresh g hg2)
/-- A cell of the host's own. -/
theorem HoV.own (h : HoV w0 w p s R C ro) (s' : HSt) (hq : s'.q = s.q) (hn : s'.pn = s.pn) (hE : s'.E = s.E) (hf : Fr (fun g => g = p) w w') (hs : Stc w' p (hoCs s' R C)) : HoW w0 w' p s' R C := by
  have hf' : Fr (fun g => ro g = 1) w w' := hf.mono (fun g _ e => by rw [e]; exact h.rp)
  obtain ⟨k1, k2, k3, k4, k5, k6, k7, k8, k9⟩ := h.keep hf' (by omega) ro (fun _ _ => rfl) (fun g hg => .inl (h.new g hg))
  exact ⟨ro, hs, k2, by rw [hq, hn]; exact k3 (by omega), by rw [hq]; exact k4, fun j hj => ⟨(k5 j hj).1 (by omega), (k5 j hj).2⟩, fun j hj => k6 j hj (by omega), fun g hg => h.new g (Nat.le_trans hf.size hg), k7, (by rw [hE]; exact k9), k8⟩
/-- The pool's tick. -/
theorem HoV.pool (h : HoV w0 w p s R C ro) (t : Int) (hf : Fr (fun g => g = s.q) w w') (hs : Stc w' s.q [.int .i64 t, .slice none 0 0, .int .i64 0]) : HoW w0 w' p { s with pn := t } R C := by
  have hf' : Fr (fun g => ro g = 2) w w' := hf.mono (fun g _ e => by rw [e]; exact h.rq)
  obtain ⟨k1, k2, k3, k4, k5, k6, k7, k8, k9⟩ := h.keep hf' (by omega) ro (fun _ _ => rfl) (fun g hg => .inl (h.new g hg))
  exact ⟨ro, k1 (by omega), k2, hs, k4, fun j hj => ⟨(k5 j hj).1 (by omega), (k5 j hj).2⟩, fun j hj => k6 j hj (by omega), fun g hg => h.new g (Nat.le_trans hf.size hg), k7, k9, k8⟩
/-- A block beside the host's is noted. -/
theorem HoW.note (h : HoW w0 w p s R C) (hb : Below w.heap.size w w') {b : Nat} {cs : List Value} (hg : w.heap.size ≤ b) (hs : Stc w' b cs) : HoW w0 w' p { s with E := (b, cs) :: s.E } R C := by
  obtain ⟨ro, h⟩ := h
  have h2 := h.below hb
  refine ⟨ro, h2.st, h2.rp, h2.pq, h2.rq, h2.ring, h2.cache, h2.new, h2.low, fun x hx => ?_, h2.bel⟩
  rcases List.mem_cons.1 hx with e | e
  · rw [e]
    exact ⟨h.new b hg, Nat.le_trans h.bel.size hg, hs⟩
  · exact h2.ext x e
theorem HoW.note2 (h : HoW w0 w p s R C) (hb : Below w.heap.size w w') {a b : Nat} {cs ds : List Value} (ha : w.heap.size ≤ a) (hg : w.heap.size ≤ b) (sa : Stc w' a cs) (sb : Stc w' b ds) : HoW w0 w' p { s with E := (a, cs) :: (b, ds) :: s.E } R C := by
  obtain ⟨ro, h⟩ := h
  have h2 := h.below hb
  refine ⟨ro, h2.st, h2.rp, h2.pq, h2.rq, h2.ring, h2.cache, h2.new, h2.low, fun x hx => ?_, h2.bel⟩
  rcases List.mem_cons.1 hx with e | e
  · rw [e]
    exact ⟨h.new a ha, Nat.le_trans h.bel.size ha, sa⟩
  · rcases List.mem_cons.1 e with e | e
    · rw [e]
      exact ⟨h.new b hg, Nat.le_trans h.bel.size hg, sb⟩
    · exact h2.ext x e
/-- A noted block is turned. -/
theorem HoW.turn (h : HoW w0 w p s R C) {b : Nat} {cs cs' : List Value} {E2 : List (Nat × List Value)} (hE : s.E = (b, cs) :: E2) (hn : ∀ x ∈ E2, x.1 ≠ b) (hf : Fr (fun g => g = b) w w') (hs : Stc w' b cs') : HoW w0 w' p { s with E := (b, cs') :: E2 } R C := by
  obtain ⟨ro, h⟩ := h
  have hb : ro b = 0 ∧ w0.heap.size ≤ b ∧ Stc w b cs := h.ext (b, cs) (by rw [hE]; exact List.mem_cons_self)
  have hne : ∀ g, ro g ≠ 0 → ¬ g = b := fun g hg e => hg (by rw [e]; exact hb.1)
  refine ⟨ro, h.st.fr hf (hne p (by rw [h.rp]; decide)), h.rp, h.pq.fr hf (hne _ (by rw [h.rq]; decide)), h.rq, fun k hk => ?_, fun k hk => ?_, fun g hg => h.new g (Nat.le_trans hf.size hg), h.low, fun x hx => ?_, h.bel.trans (hf.below _ h.bel.size (fun g hg => by rw [hg]; exact hb.2.1))⟩
  · obtain ⟨h1, h2, h3, h4⟩ := h.ring k hk
    exact ⟨h1.fr hf (hne _ (by rw [h2]; omega)) (hne _ (by rw [h3]; omega)) (fun x hx => hne _ (by rw [h4 x hx]; omega)), h2, h3, h4⟩
  · obtain ⟨kd, h1, h2⟩ := h.cache k hk
    refine ⟨kd, h1.fr hf (fun g _ hg => .inl ?_), h2⟩
    rcases Classical.em (kd g = .no) with e | e
    · exact e
    · exact absurd hg (hne g (by rw [h2 g e]; omega))
  · rcases List.mem_cons.1 hx with e | e
    · rw [e]
      exact ⟨hb.1, hb.2.1, hs⟩
    · obtain ⟨e1, e2, e3⟩ := h.ext x (by rw [hE]; exact List.mem_cons_of_mem _ e)
      exact ⟨e1, e2, e3.fr hf (hn x e)⟩
theorem HoW.ext (h : HoW w0 w p s R C) {x : Nat × List Value} (hx : x ∈ s.E) : Stc w x.1 x.2 := by
  obtain ⟨ro, h⟩ := h
  exact (h.ext x hx).2.2
end
end Go.Proofs.YtfjpckaphfdfnaaGreatDoor
