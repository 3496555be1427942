/- chunk.readPacket, where nothing fails: a deferred closure that finds no panic. -/
import Derived.Test.YtifdfkkjmjabnabDoorRd4
import Derived.Defers
import Derived.Recover
namespace Go.Proofs.YtifdfkkjmjabnabDoor
open Go.RowKit
/-- Behind takeChunks. -/
structure Rp6 (w : World) (x n : Nat) (C : Nat → C14) (hd : List Value) (θ : Option Addr × Nat) (z : List Value) (V : World) : Prop where
  own : OwnR V w.heap.size θ.1 n θ.2 ((List.range n).map C)
  bel : Below w.heap.size w V
  s0 : Stc V w.heap.size z
  s1 : Stc V (w.heap.size + 1) [.int .i64 0]
  sx : Stc V x hd
  ob : ∀ g, (Value.slice θ.1 n θ.2).ownBlock = some g → w.heap.size + 1 < g
structure RpG (w W : World) (x n : Nat) (C : Nat → C14) (hd : List Value) (θ : Option Addr × Nat) (l : Nat → Bool) (V : World) : Prop where
  a0 : l 2 = false → V = W
  a1 : l 2 = true → l 3 = false → Rp6 w x n C hd θ [.int .u16 0, .int .u16 0, .int .u32 0] V
  a2 : l 3 = true → l 5 = false → Rp6 w x n C hd θ hd V
  a3 : l 5 = true → Rp6 w x n C hd θ hd V
section
variable {w W : World} {x n : Nat} {C : Nat → C14} {hd : List Value} {θ : Option Addr × Nat} {l : Nat → Bool} {V : World}
theorem RpG.start : RpG w W x n C hd θ (fun _ => false) W := ⟨fun _ => rfl, fun e => (by cases e), fun e => (by cases e), fun e => (by cases e)⟩
theorem RpG.other (h : RpG w W x n C hd θ l V) (i : Nat) (h2 : 2 ≠ i) (h3 : 3 ≠ i) (h5 : 5 ≠ i) : RpG w W x n C hd θ (updL l i) V :=
  ⟨by rw [updL_neC h2]; exact h.a0, by rw [updL_neC h2, updL_neC h3]; exact h.a1, by rw [updL_neC h3, updL_neC h5]; exact h.a2, by rw [updL_neC h5]; exact h.a3⟩
theorem RpG.call {V' : World} {la : Option Addr} {lc : Nat} (h3 : l 3 = false) (h5 : l 5 = false) (hp : Rp6 w x n C hd (la, lc) [.int .u16 0, .int .u16 0, .int .u32 0] V') : RpG w W x n C hd (la, lc) (updL l 2) V' :=
  ⟨fun e => (by rw [updL_eqC] at e; cases e), fun _ _ => hp, fun e => (by rw [updL_neC (by decide), h3] at e; cases e), fun e => (by rw [updL_neC (by decide), h5] at e; cases e)⟩
theorem Rp6.turn {V' : World} {z z' : List Value} {y : Nat} (h : Rp6 w x n C hd θ z V) (hf : Fr (fun k => k = y) V V') (hy : w.heap.size ≤ y) (hy2 : y ≤ w.heap.size + 1) (hx : w.heap.size + 1 < x) (h0 : Stc V' w.heap.size z') (h1 : Stc V' (w.heap.size + 1) [.int .i64 0]) : Rp6 w x n C hd θ z' V' :=
  ⟨OwnG.fr h.own hf (fun g hg => by have := h.ob g hg; omega), h.bel.trans (hf.below _ h.bel.size (fun k hk => by omega)), h0, h1, h.sx.fr hf (by omega), h.ob⟩
theorem RpG.put3 (h : RpG w W x n C hd θ l V) (h2 : l 2 = true) (h3 : l 3 = false) (h5 : l 5 = false) (hl : hd.length = 3) (hx : w.heap.size + 1 < x) : V.there w.heap.size 0 hd.length ∧ RpG w W x n C hd θ (updL l 3) (V.setCells w.heap.size 0 hd) := by
  have s := h.a1 h2 h3
  have hf := fr_setCellsX w.heap.size hd 0 V
  refine ⟨by rw [hl]; exact s.s0.there, ⟨fun e => (by rw [updL_neC (by decide), h2] at e; cases e), fun _ e => (by rw [updL_eqC] at e; cases e), fun _ _ => s.turn hf (Nat.le_refl _) (by omega) hx (s.s0.put hd (by rw [hl]; rfl)) (s.s1.fr hf (by omega)), fun e => (by rw [updL_neC (by decide), h5] at e; cases e)⟩⟩
theorem RpG.put5 (h : RpG w W x n C hd θ l V) (h3 : l 3 = true) (h2 : l 2 = true) (h5 : l 5 = false) (hx : w.heap.size + 1 < x) : V.cell? ⟨w.heap.size + 1, 0, none⟩ = some (.int .i64 0) ∧ V.frozen? ⟨w.heap.size + 1, 0, none⟩ = false ∧ w.heap.size + 1 < V.heap.size ∧ RpG w W x n C hd θ (updL l 5) (V.setCell ⟨w.heap.size + 1, 0, none⟩ (.int .i64 0)) := by
  have s := h.a2 h3 h5
  have hf := Fr.setCell (fun k => k = w.heap.size + 1) V ⟨w.heap.size + 1, 0, none⟩ (.int .i64 0) rfl
  exact ⟨s.s1.cell 0 _ rfl, s.s1.free 0, s.s1.lt, ⟨fun e => (by rw [updL_neC (by decide), h2] at e; cases e), fun _ e => (by rw [updL_neC (by decide), h3] at e; cases e), fun _ e => (by rw [updL_eqC] at e; cases e), fun _ => s.turn hf (by omega) (Nat.le_refl _) hx (s.s0.fr hf (by omega)) (s.s1.set 0 _)⟩⟩
end
theorem catch_idle (p : Addr) (w : World) :
    CallsD Tryd.prog 42 #[.pointer (some p)] .returning w fun e u' w' => e = .returned (.tuple #[]) ∧ u' = .returning ∧ w' = w := by
  refine callsD_of_wpS Tryd.func42 rfl fun c₀ cs hu => ?_
  apply wpS_seq
  apply wpS_region
  simp [wpOpsS, go_sem, recoverD, hu, Tryd.ntmps42, Exit.thenS]
  apply wpS_seq
  apply wpS_region
  simp [wpOpsS, go_sem, Exit.thenS]
  refine wpS_cond (t := false) (by simp [Act.eval, Array.replicate]) ?_
  simp only [Bool.false_eq_true, if_false]
  refine wpS_of_wp (wp_skip ?_)
  cases c₀
  simp_all [bodyPostS, results, Tryd.results42]
set_option linter.unusedVariables false in
set_option maxRecDepth 100000 in
set_option maxHeartbeats 4000000 in
theorem readp_ok {w : World} {b off m c : Nat} {zs : List Nat} (hs : Sl w (some ⟨b, off, none⟩) m c zs) (h12 : 12 ≤ zs.length) (n : Nat) (C : Nat → C14) (rest : Nat → List Nat) (h0 : rest 0 = zs.drop 12) (hn : rest n = []) (hne : ∀ i, i < n → rest i ≠ []) (hn32 : n ≤ 32)
    (hrd : ∀ i, i < n → ∀ q W, RdW w W q (rest i) 3 → Calls Tryd.prog 61 #[.pointer (some ⟨q, 0, none⟩), .int .i64 (i : Nat)] W (RdP w W q (.agg (C i).1.toArray) (rest (i + 1)) 3)) :
    Calls Tryd.prog 27 #[.slice (some ⟨b, off, none⟩) m c] w fun e w' => ∃ la lc, e = .returned (.tuple #[.agg #[.int .u16 (numB (zs.take 2) : Nat), .int .u16 (numB ((zs.drop 2).take 2) : Nat), .int .u32 (numB ((zs.drop 4).take 4) : Nat)], .slice la n lc, .int .i64 0]) ∧ OwnR w' w.heap.size la n lc ((List.range n).map C) ∧ Below w.heap.size w w' := by
  have hmf : ∀ (fn : Fn) (first cap : Array Value) (w : World), (Instr.makeFunc fn first cap).run Tryd.prog w = .ok (.func fn first cap) w := fun _ _ _ _ => rfl
  have hz := zero_head
  obtain ⟨W1, hW1⟩ : ∃ W1, W1 = w.alloc (.cells #[.int .u16 0, .int .u16 0, .int .u32 0] 28) := ⟨_, rfl⟩
  obtain ⟨W2, hW2⟩ : ∃ W2, W2 = W1.alloc (.cells #[.int .i64 0] 38) := ⟨_, rfl⟩
  obtain ⟨W3, hW3⟩ : ∃ W3, W3 = W2.alloc (.cells #[.slice (some ⟨b, off, none⟩) m c, .int .i64 3] 81) := ⟨_, rfl⟩
  have z1 : W1.heap.size = w.heap.size + 1 := by rw [hW1]; simp
  have z2 : W2.heap.size = w.heap.size + 1 + 1 := by rw [hW2]; simp [z1]
  have b1 : Below w.heap.size w W1 := by rw [hW1]; exact (Below.refl _ _).alloc (Nat.le_refl _) _
  have b2 : Below W1.heap.size W1 W2 := by rw [hW2]; exact (Below.refl _ _).alloc (Nat.le_refl _) _
  have b3 : Below W2.heap.size W2 W3 := by rw [hW3]; exact (Below.refl _ _).alloc (Nat.le_refl _) _
  have s1 := ((Stc.new w [.int .u16 0, .int .u16 0, .int .u32 0] 28 W1 hW1).below b2).below b3
  have s2 := (Stc.new W1 [.int .i64 0] 38 W2 hW2).below b3
  have s3 := Stc.new W2 [.slice (some ⟨b, off, none⟩) m c, .int .i64 3] 81 W3 hW3
  rw [z1] at s2
  rw [z2] at s3
  have b13 : Below w.heap.size w W3 := (b1.trans (b2.mono b1.size)).trans (b3.mono (Nat.le_trans b1.size b2.size))
  have hrw : RdW w W3 (w.heap.size + 1 + 1) zs 3 := ⟨⟨b, off, m, c, s3, hs⟩, b13, by omega⟩
  have HU : Hid (RuS w w (w.heap.size + 1 + 1) zs 3 W3 ∧ Stc W3 w.heap.size [.int .u16 0, .int .u16 0, .int .u32 0] ∧ Stc W3 (w.heap.size + 1) [.int .i64 0]) := ⟨⟨hrw, Fr.of_below b13⟩, s1, s2⟩
  have HN := (show Hid _ from rhead_any hrw h12)
  have HR := (show Hid _ from And.intro h0 (And.intro hn (And.intro hne hrd)))
  obtain ⟨n1, hn1⟩ : ∃ n1, n1 = numB (zs.take 2) := ⟨_, rfl⟩
  obtain ⟨n2, hn2⟩ : ∃ n2, n2 = numB ((zs.drop 2).take 2) := ⟨_, rfl⟩
  obtain ⟨n3, hn3⟩ : ∃ n3, n3 = numB ((zs.drop 4).take 4) := ⟨_, rfl⟩
  rw [← hn1, ← hn2, ← hn3] at HN ⊢
  clear hn1 hn2 hn3 h0 hn hne hrd z1 z2 b1 b2 b3 s1 s2 s3 b13 hrw hs h12
  go_enter_defers Tryd.func27, Tryd.ntmps27
  go_wp2_with fail
  rw [← hW1, ← hW2, ← hW3]
  clear hW1 hW2 hW3
  refine Calls.mono HN.out ?_
  clear HN
  rintro e w4 hP
  have he := hP.out
  subst he
  have HU4 : Hid (RuS w w (w.heap.size + 1 + 1) (zs.drop 12) 3 w4 ∧ Stc w4 w.heap.size [.int .u16 0, .int .u16 0, .int .u32 0] ∧ Stc w4 (w.heap.size + 1) [.int .i64 0]) := ⟨HU.out.1.next hP, HU.out.2.1.fr hP.fr (by omega), HU.out.2.2.fr hP.fr (by omega)⟩
  obtain ⟨W5, hW5⟩ : ∃ W5, W5 = w4.alloc (.cells #[.int .u16 (n1 : Nat), .int .u16 (n2 : Nat), .int .u32 (n3 : Nat)] 28) := ⟨_, rfl⟩
  have b5 : Below w4.heap.size w4 W5 := by rw [hW5]; exact (Below.refl _ _).alloc (Nat.le_refl _) _
  have s5 := Stc.new w4 [.int .u16 (n1 : Nat), .int .u16 (n2 : Nat), .int .u32 (n3 : Nat)] 28 W5 hW5
  obtain ⟨x, hx⟩ : ∃ x, x = w4.heap.size := ⟨_, rfl⟩
  have hxw : w.heap.size + 1 < x := by rw [hx]; exact HU4.out.2.2.lt
  have hxq : w.heap.size + 1 + 1 < x := by rw [hx]; exact HU4.out.1.rd.lt
  rw [← hx] at s5
  have bd : Below W5.heap.size W5 W5.drew := (Below.refl _ _).drew
  have hu5 := (HU4.out.1.below b5).below bd
  have s5d := s5.below bd
  have hrd5 := hu5.rd
  rw [← HR.out.1] at hrd5
  have HRC := (show Hid _ from rchunks_any n C rest hrd5 HR.out.2.1 HR.out.2.2.1 hn32 (fun i hi W hW => HR.out.2.2.2 i hi _ W hW))
  have HU5 : Hid (RuS w w (w.heap.size + 1 + 1) (zs.drop 12) 3 W5.drew ∧ Stc W5.drew w.heap.size [.int .u16 0, .int .u16 0, .int .u32 0] ∧ Stc W5.drew (w.heap.size + 1) [.int .i64 0] ∧ Stc W5.drew x [.int .u16 (n1 : Nat), .int .u16 (n2 : Nat), .int .u32 (n3 : Nat)]) := ⟨hu5, (HU4.out.2.1.below b5).below bd, (HU4.out.2.2.below b5).below bd, s5d⟩
  have k0 := s5d.cell 0 _ rfl
  have k1 := s5d.cell 1 _ rfl
  have k2 := s5d.cell 2 _ rfl
  have HAF : Hid (∀ e w6, RdL w W5.drew (w.heap.size + 1 + 1) n C 3 e w6 → ∃ la lc, e = .returned (.slice la n lc) ∧ Rp6 w x n C [.int .u16 (n1 : Nat), .int .u16 (n2 : Nat), .int .u32 (n3 : Nat)] (la, lc) [.int .u16 0, .int .u16 0, .int .u32 0] w6) := fun e w6 hL => by
    obtain ⟨la, lc, he, ho⟩ := hL.ex
    have h2 := HU5.out.2.2.1.lt
    have hfr : Fr (fun k => k = w.heap.size + 1 + 1 ∨ w.heap.size ≤ k) w w6 := hu5.fr.trans (hL.fr.mono (fun _ _ hk => .inl hk))
    refine ⟨la, lc, he, OwnG.base ho (by omega), hfr.below _ (Nat.le_refl _) (fun k hk => by omega), HU5.out.2.1.fr hL.fr (by omega), HU5.out.2.2.1.fr hL.fr (by omega), HU5.out.2.2.2.fr hL.fr (by omega), fun g hg => ?_⟩
    have h1 := (ho.own.lt g hg).1
    omega
  have HK5 : Hid (W5.drew.cell? ⟨x, 0, none⟩ = some (.int .u16 (n1 : Nat)) ∧ W5.drew.cell? ⟨x, 1, none⟩ = some (.int .u16 (n2 : Nat)) ∧ W5.drew.cell? ⟨x, 2, none⟩ = some (.int .u32 (n3 : Nat))) := ⟨k0, k1, k2⟩
  have HXW : Hid (w.heap.size + 1 < x) := hxw
  clear k0 k1 k2
  clear HU hP b5 s5 bd hu5 s5d hrd5
  go_wp2_with fail
  rw [← hW5, ← hx]
  clear hW5 hx
  refine wp_region_parW mixedX (fun θ : Option Addr × Nat => [(13, .agg #[.int .u16 (n1 : Nat), .int .u16 (n2 : Nat), .int .u32 (n3 : Nat)]), (14, .pointer (some ⟨w.heap.size + 1 + 1, 0, none⟩)), (15, .slice θ.1 n θ.2), (3, .slice θ.1 n θ.2)]) (fun θ l V => RpG w W5.drew x n C [.int .u16 (n1 : Nat), .int .u16 (n2 : Nat), .int .u32 (n3 : Nat)] θ l V) (none, 0) ?Z1 ?hZ1 (by kernel_rfl) (by kernel_rfl) (fun θ => by kernel_rfl) (by kernel_rfl) ?h01 ?hops1 ?he1
  case hZ1 => intro θ; simp only [List.foldl_cons, List.foldl_nil, List.setIfInBounds_toArray, List.set_cons_zero, List.set_cons_succ]; rfl
  case h01 => exact RpG.start
  case hops1 =>
    refine ⟨?_, ?_, ?_, ?_, ?_, ?_, trivial⟩
    · exact par_val (fun θ => by rfl) (fun θ l V hg => hg.other 0 (by decide) (by decide) (by decide)) (fun θ l V hl hc hd hg => by
        have h3 : l 3 = false := (by cases h : l 3 with | false => rfl | true => exact absurd (hc 3 0 (by kernel_rfl) h) (by rw [hl]; decide))
        obtain ⟨j0, j1, j2⟩ : V.cell? ⟨x, 0, none⟩ = some (.int .u16 (n1 : Nat)) ∧ V.cell? ⟨x, 1, none⟩ = some (.int .u16 (n2 : Nat)) ∧ V.cell? ⟨x, 2, none⟩ = some (.int .u32 (n3 : Nat)) := by
          cases h2 : l 2 with
          | false => rw [hg.a0 h2]; exact HK5.out
          | true => have s := (hg.a1 h2 h3).sx; exact ⟨s.cell 0 _ rfl, s.cell 1 _ rfl, s.cell 2 _ rfl⟩
        go_simp; (try with_reducible rfl))
    · exact par_val (fun θ => by rfl) (fun θ l V hg => hg.other 1 (by decide) (by decide) (by decide)) (fun θ l V hl hc hd hg => by go_simp; (try with_reducible rfl))
    · exact par_call (fun θ => by rfl) rfl (vs := fun _ => [.pointer (some ⟨w.heap.size + 1 + 1, 0, none⟩)]) (fun θ => by rfl) Tryd.func44 (by rfl) (by rfl) (fun θ l V hl hc hd hg => by
        have h3 : l 3 = false := (by cases h : l 3 with | false => rfl | true => exact absurd (hc 3 2 (by kernel_rfl) h) (by rw [hl]; decide))
        have h4 : l 4 = false := (by cases h : l 4 with | false => rfl | true => exact absurd (hc 4 2 (by kernel_rfl) h) (by rw [hl]; decide))
        have h5 : l 5 = false := (by cases h : l 5 with | false => rfl | true => exact absurd (hc 5 2 (by kernel_rfl) h) (by rw [hl]; decide))
        rw [hg.a0 hl]
        refine Calls.mono HRC.out ?_
        intro e w6 hL
        obtain ⟨la, lc, rfl, hP6⟩ := HAF.out _ _ hL
        exact ⟨_, rfl, next_set (by kernel_rfl) ((la, lc) : Option Addr × Nat) [(15, .slice la n lc, 2), (3, .slice la n lc, 4)] (by simp only [List.foldl_cons, List.foldl_nil, List.setIfInBounds_toArray, List.set_cons_zero, List.set_cons_succ]) (by kernel_rfl) (fun y hy => by simp at hy; rcases hy with rfl | rfl; exact hl; exact h4) (fun d hd => by cases hd; rfl) (RpG.call h3 h5 hP6)⟩)
    · exact par_skip (fun θ => by rfl) (fun θ l V hl hc hd hg => by
        have h2 : l 2 = true := hd 2 (by kernel_rfl)
        have h5 : l 5 = false := (by cases h : l 5 with | false => rfl | true => exact absurd (hc 5 3 (by kernel_rfl) h) (by rw [hl]; decide))
        obtain ⟨hth, hst⟩ := hg.put3 h2 hl h5 rfl HXW.out
        exact ⟨_, run_storeX rfl (b := w.heap.size) (k := 0) (by rfl) (cs := [.int .u16 (n1 : Nat), .int .u16 (n2 : Nat), .int .u32 (n3 : Nat)]) (by rfl) hth (by kernel_rfl) (by intro v hv; simp at hv; rcases hv with rfl | rfl | rfl <;> rfl), ⟨θ, fun _ _ _ _ _ _ => rfl, fun d hd => (by cases hd), hst⟩⟩)
    · exact par_val (fun θ => by rfl) (fun θ l V hg => hg.other 4 (by decide) (by decide) (by decide)) (fun θ l V hl hc hd hg => by go_simp; (try with_reducible rfl))
    · exact par_skip (fun θ => by rfl) (fun θ l V hl hc hd hg => by
        have h4 : l 4 = true := hd 4 (by kernel_rfl)
        have h3 : l 3 = true := hc 4 3 (by kernel_rfl) h4
        have h2 : l 2 = true := hc 4 2 (by kernel_rfl) h4
        obtain ⟨c5, f5, l5, hst⟩ := hg.put5 h3 h2 hl HXW.out
        exact ⟨_, by go_simp; (try with_reducible rfl), ⟨θ, fun _ _ _ _ _ _ => rfl, fun d hd => (by cases hd), hst⟩⟩)
  case he1 =>
  rintro ⟨la, lc⟩ l V hall hg
  have h8 := hg.a3 (hall 5 (by decide))
  clear hall hg HRC HAF
  dsimp only at h8 ⊢
  have y0 := h8.s0.cell 0 _ rfl
  have y1 := h8.s0.cell 1 _ rfl
  have y2 := h8.s0.cell 2 _ rfl
  have y3 := h8.s1.cell 0 _ rfl
  have HE := (show Hid _ from h8)
  clear h8
  go_wp2
  refine leaves_cons (f := 42) (args := #[.pointer (some ⟨w.heap.size + 1, 0, none⟩)]) (by simp) (by simp [go_sem]) ?_
  refine (catch_idle ⟨w.heap.size + 1, 0, none⟩ _).mono ?_
  rintro e u' w'' ⟨rfl, rfl, rfl⟩
  simp [Leaves, settle, results, Tryd.results27, go_sem, y0, y1, y2, y3]
  exact ⟨la, lc, ⟨rfl, rfl⟩, HE.out.own, HE.out.bel⟩
end Go.Proofs.YtifdfkkjmjabnabDoor
