/- A struct api.Head, by value, as a parameter: opened. -/
import Derived.Test.YtlgfbcfogcmdbaaDoorKA
import Derived.Test.YtlgfbcfogcmdbaaDoorDeedCq
import Derived.Test.YtlgfbcfogcmdbaaDoorCks
import Derived.Test.YtlgfbcfogcmdbaaDoorChS
import Derived.Test.YtlgfbcfogcmdbaaDoorDeedBk
import Derived.Test.YtlgfbcfogcmdbaaDoorKG
import Derived.Test.YtlgfbcfogcmdbaaDoorRgX
import Derived.ChangeKeysEq
import Derived.Test.YtlgfbcfogcmdbaaDoorChB
import Derived.Lib.SlBytesConst
import Derived.ProofKit
import Derived.Test.YtlgfbcfogcmdbaaDoorRows
import Derived.Lib.LaidU8
import Derived.PinnedBridge
import Derived.MakeChecks
import Derived.Test.YtlgfbcfogcmdbaaDoorProg
import Derived.Test.YtlgfbcfogcmdbaaDoorBase
import Derived.RowKit
import Derived.ChangeSlices
import Derived.SizedLaws
import Derived.ChangeArms
import Derived.WideShapes
import Derived.OpenShut
namespace Go.Proofs.YtlgfbcfogcmdbaaDoor
open Go.RowKit
theorem ChsO.base {V : World} {B B' : Nat} {la : Option Addr} {n lc : Nat} {cds : List CD} (h : ChsO V B la n lc cds) (hb : B' ≤ B) : ChsO V B' la n lc cds := by
  obtain ⟨xs, h1, h2, h3⟩ := h.ex
  exact ⟨xs, h1, OwnG.base h2 hb, fun i c x hc hx => (h3 i c x hc hx).base hb⟩
/-- Behind takeChunks. -/
structure Rq6 (w : World) (x n : Nat) (C : List CD) (hd : List Value) (θ : Option Addr × Nat) (z : List Value) (V : World) : Prop where
  own : ChsO V (w.heap.size + 2) θ.1 n θ.2 C
  bel : Below w.heap.size w V
  s0 : Stc V w.heap.size z
  s1 : Stc V (w.heap.size + 1) [.int .i64 0]
  sx : Stc V x hd
structure RqG (w W : World) (x n : Nat) (C : List CD) (hd : List Value) (θ : Option Addr × Nat) (l : Nat → Bool) (V : World) : Prop where
  a0 : l 2 = false → V = W
  a1 : l 2 = true → l 3 = false → Rq6 w x n C hd θ [.int .u16 0, .int .u16 0, .int .u32 0] V
  a2 : l 3 = true → l 5 = false → Rq6 w x n C hd θ hd V
  a3 : l 5 = true → Rq6 w x n C hd θ hd V
section
variable {w W : World} {x n : Nat} {C : List CD} {hd : List Value} {θ : Option Addr × Nat} {l : Nat → Bool} {V : World}
theorem RqG.start : RqG w W x n C hd θ (fun _ => false) W := ⟨fun _ => rfl, fun e => (by cases e), fun e => (by cases e), fun e => (by cases e)⟩
theorem RqG.other (h : RqG w W x n C hd θ l V) (i : Nat) (h2 : 2 ≠ i) (h3 : 3 ≠ i) (h5 : 5 ≠ i) : RqG w W x n C hd θ (updL l i) V :=
  ⟨by rw [updL_neC h2]; exact h.a0, by rw [updL_neC h2, updL_neC h3]; exact h.a1, by rw [updL_neC h3, updL_neC h5]; exact h.a2, by rw [updL_neC h5]; exact h.a3⟩
theorem RqG.call {V' : World} {la : Option Addr} {lc : Nat} (h3 : l 3 = false) (h5 : l 5 = false) (hp : Rq6 w x n C hd (la, lc) [.int .u16 0, .int .u16 0, .int .u32 0] V') : RqG w W x n C hd (la, lc) (updL l 2) V' :=
  ⟨fun e => (by rw [updL_eqC] at e; cases e), fun _ _ => hp, fun e => (by rw [updL_neC (by decide), h3] at e; cases e), fun e => (by rw [updL_neC (by decide), h5] at e; cases e)⟩
theorem Rq6.turn {V' : World} {z z' : List Value} {y : Nat} (h : Rq6 w x n C hd θ z V) (hf : Fr (fun k => k = y) V V') (hy : w.heap.size ≤ y) (hy2 : y ≤ w.heap.size + 1) (hx : w.heap.size + 1 < x) (h0 : Stc V' w.heap.size z') (h1 : Stc V' (w.heap.size + 1) [.int .i64 0]) : Rq6 w x n C hd θ z' V' :=
  ⟨h.own.fr hf (fun g hg _ e => by have : g = y := e; omega), h.bel.trans (hf.below _ h.bel.size (fun k hk => by omega)), h0, h1, h.sx.fr hf (by omega)⟩
theorem RqG.put3 (h : RqG w W x n C hd θ l V) (h2 : l 2 = true) (h3 : l 3 = false) (h5 : l 5 = false) (hl : hd.length = 3) (hx : w.heap.size + 1 < x) : V.there w.heap.size 0 hd.length ∧ RqG w W x n C hd θ (updL l 3) (V.setCells w.heap.size 0 hd) := by
  have s := h.a1 h2 h3
  have hf := fr_setCellsX w.heap.size hd 0 V
  refine ⟨by rw [hl]; exact s.s0.there, ⟨fun e => (by rw [updL_neC (by decide), h2] at e; cases e), fun _ e => (by rw [updL_eqC] at e; cases e), fun _ _ => s.turn hf (Nat.le_refl _) (by omega) hx (s.s0.put hd (by rw [hl]; rfl)) (s.s1.fr hf (by omega)), fun e => (by rw [updL_neC (by decide), h5] at e; cases e)⟩⟩
theorem RqG.put5 (h : RqG w W x n C hd θ l V) (h3 : l 3 = true) (h2 : l 2 = true) (h5 : l 5 = false) (hx : w.heap.size + 1 < x) : V.cell? ⟨w.heap.size + 1, 0, none⟩ = some (.int .i64 0) ∧ V.frozen? ⟨w.heap.size + 1, 0, none⟩ = false ∧ w.heap.size + 1 < V.heap.size ∧ RqG w W x n C hd θ (updL l 5) (V.setCell ⟨w.heap.size + 1, 0, none⟩ (.int .i64 0)) := by
  have s := h.a2 h3 h5
  have hf := Fr.setCell (fun k => k = w.heap.size + 1) V ⟨w.heap.size + 1, 0, none⟩ (.int .i64 0) rfl
  exact ⟨s.s1.cell 0 _ rfl, s.s1.free 0, s.s1.lt, ⟨fun e => (by rw [updL_neC (by decide), h2] at e; cases e), fun _ e => (by rw [updL_neC (by decide), h3] at e; cases e), fun _ e => (by rw [updL_eqC] at e; cases e), fun _ => s.turn hf (by omega) (Nat.le_refl _) hx (s.s0.fr hf (by omega)) (s.s1.set 0 _)⟩⟩
end
set_option linter.unusedVariables false in
set_option maxRecDepth 100000 in
set_option maxHeartbeats 4000000 in
theorem readp_cd {w : World} {b off m c : Nat} {zs : List Nat} (hs : Sl w (some ⟨b, off, none⟩) m c zs) (h12 : 12 ≤ zs.length) (n : Nat) (C : List CD) (hnl : n = C.length) (rest : Nat → List Nat) (h0 : rest 0 = zs.drop 12) (hn : rest n = []) (hne : ∀ i, i < n → rest i ≠ []) (hn32 : n ≤ 32)
    (hrd : ∀ i c, C[i]? = some c → ∀ q W, RdW w W q (rest i) 3 → Calls Tryd.prog 57 #[.pointer (some ⟨q, 0, none⟩), .int .i64 (i : Nat)] W (RdO w W q c (rest (i + 1)) 3)) :
    Calls Tryd.prog 23 #[.slice (some ⟨b, off, none⟩) m c] w fun e w' => ∃ la lc, e = .returned (.tuple #[.agg #[.int .u16 (numB (zs.take 2) : Nat), .int .u16 (numB ((zs.drop 2).take 2) : Nat), .int .u32 (numB ((zs.drop 4).take 4) : Nat)], .slice la n lc, .int .i64 0]) ∧ ChsO w' w.heap.size la n lc C ∧ Below w.heap.size w w' := by
  have hmf : ∀ (fn : Fn) (first cap : Array Value) (w : World), (Instr.makeFunc fn first cap).run Tryd.prog w = .ok (.func fn first cap) w := fun _ _ _ _ => rfl
  have hz := zero_head
  have HNL := (show Hid _ from hnl)
  clear hnl
  obtain ⟨W1, hW1⟩ : ∃ W1, W1 = w.alloc (.cells #[.int .u16 0, .int .u16 0, .int .u32 0] 25) := ⟨_, rfl⟩
  obtain ⟨W2, hW2⟩ : ∃ W2, W2 = W1.alloc (.cells #[.int .i64 0] 35) := ⟨_, rfl⟩
  obtain ⟨W3, hW3⟩ : ∃ W3, W3 = W2.alloc (.cells #[.slice (some ⟨b, off, none⟩) m c, .int .i64 3] 79) := ⟨_, rfl⟩
  have z1 : W1.heap.size = w.heap.size + 1 := by rw [hW1]; simp
  have z2 : W2.heap.size = w.heap.size + 1 + 1 := by rw [hW2]; simp [z1]
  have b1 : Below w.heap.size w W1 := by rw [hW1]; exact (Below.refl _ _).alloc (Nat.le_refl _) _
  have b2 : Below W1.heap.size W1 W2 := by rw [hW2]; exact (Below.refl _ _).alloc (Nat.le_refl _) _
  have b3 : Below W2.heap.size W2 W3 := by rw [hW3]; exact (Below.refl _ _).alloc (Nat.le_refl _) _
  have s1 := ((Stc.new w [.int .u16 0, .int .u16 0, .int .u32 0] 25 W1 hW1).below b2).below b3
  have s2 := (Stc.new W1 [.int .i64 0] 35 W2 hW2).below b3
  have s3 := Stc.new W2 [.slice (some ⟨b, off, none⟩) m c, .int .i64 3] 79 W3 hW3
  rw [z1] at s2
  rw [z2] at s3
  have b13 : Below w.heap.size w W3 := (b1.trans (b2.mono b1.size)).trans (b3.mono (Nat.le_trans b1.size b2.size))
  have hrw : RdW w W3 (w.heap.size + 1 + 1) zs 3 := ⟨⟨b, off, m, c, s3, hs⟩, b13, by omega⟩
  have HU : Hid (RuS w w (w.heap.size + 1 + 1) zs 3 W3 ∧ Stc W3 w.heap.size [.int .u16 0, .int .u16 0, .int .u32 0] ∧ Stc W3 (w.heap.size + 1) [.int .i64 0]) := ⟨⟨hrw, Fr.of_below b13⟩, s1, s2⟩
  have HN := (show Hid _ from rhead_any hrw h12)
  have HR := (show Hid _ from And.intro h0 (And.intro hn (And.intro hne hrd)))
  obtain ⟨n1, hn1⟩ : ∃ n1, n1 = numB (zs.take 2) := ⟨_, rfl⟩
  obtain ⟨n2, hn2⟩ : ∃ n2, n2 = numB ((zs.drop 2).take 2) := ⟨_, rfl⟩
  obtain ⟨n3, hn3⟩ : ∃ n3, n3 = numB ((zs.drop 4).take 4) := ⟨_, rfl⟩
  rw [← hn1, ← hn2, ← hn3] at HN ⊢
  clear hn1 hn2 hn3 h0 hn hne hrd z1 z2 b1 b2 b3 s1 s2 s3 b13 hrw hs h12
  go_enter_defers Tryd.func23, Tryd.ntmps23
  go_wp2_with fail
  rw [← hW1, ← hW2, ← hW3]
  clear hW1 hW2 hW3
  refine Calls.mono HN.out ?_
  clear HN
  rintro e w4 hP
  have he := hP.out
  subst he
  have HU4 : Hid (RuS w w (w.heap.size + 1 + 1) (zs.drop 12) 3 w4 ∧ Stc w4 w.heap.size [.int .u16 0, .int .u16 0, .int .u32 0] ∧ Stc w4 (w.heap.size + 1) [.int .i64 0]) := ⟨HU.out.1.next hP, HU.out.2.1.fr hP.fr (by omega), HU.out.2.2.fr hP.fr (by omega)⟩
  obtain ⟨W5, hW5⟩ : ∃ W5, W5 = w4.alloc (.cells #[.int .u16 (n1 : Nat), .int .u16 (n2 : Nat), .int .u32 (n3 : Nat)] 25) := ⟨_, rfl⟩
  have b5 : Below w4.heap.size w4 W5 := by rw [hW5]; exact (Below.refl _ _).alloc (Nat.le_refl _) _
  have s5 := Stc.new w4 [.int .u16 (n1 : Nat), .int .u16 (n2 : Nat), .int .u32 (n3 : Nat)] 25 W5 hW5
  obtain ⟨x, hx⟩ : ∃ x, x = w4.heap.size := ⟨_, rfl⟩
  have hxw : w.heap.size + 1 < x := by rw [hx]; exact HU4.out.2.2.lt
  have hxq : w.heap.size + 1 + 1 < x := by rw [hx]; exact HU4.out.1.rd.lt
  rw [← hx] at s5
  have bd : Below W5.heap.size W5 W5.drew := (Below.refl _ _).drew
  have hu5 := (HU4.out.1.below b5).below bd
  have s5d := s5.below bd
  have hrd5 := hu5.rd
  rw [← HR.out.1] at hrd5
  have HRC := (show Hid _ from rchunks_cd C rest hrd5 (by rw [← HNL.out]; exact HR.out.2.1) (by rw [← HNL.out]; exact HR.out.2.2.1) (by rw [← HNL.out]; exact hn32) (fun i c hc W hW => HR.out.2.2.2 i c hc _ W hW))
  have HU5 : Hid (RuS w w (w.heap.size + 1 + 1) (zs.drop 12) 3 W5.drew ∧ Stc W5.drew w.heap.size [.int .u16 0, .int .u16 0, .int .u32 0] ∧ Stc W5.drew (w.heap.size + 1) [.int .i64 0] ∧ Stc W5.drew x [.int .u16 (n1 : Nat), .int .u16 (n2 : Nat), .int .u32 (n3 : Nat)]) := ⟨hu5, (HU4.out.2.1.below b5).below bd, (HU4.out.2.2.below b5).below bd, s5d⟩
  have k0 := s5d.cell 0 _ rfl
  have k1 := s5d.cell 1 _ rfl
  have k2 := s5d.cell 2 _ rfl
  have HAF : Hid (∀ e w6, RdL2 w W5.drew (w.heap.size + 1 + 1) C 3 e w6 → ∃ la lc, e = .returned (.slice la n lc) ∧ Rq6 w x n C [.int .u16 (n1 : Nat), .int .u16 (n2 : Nat), .int .u32 (n3 : Nat)] (la, lc) [.int .u16 0, .int .u16 0, .int .u32 0] w6) := fun e w6 hL => by
    obtain ⟨la, lc, he, ho⟩ := hL.ex
    rw [← HNL.out] at he ho
    have h2 := HU5.out.2.2.1.lt
    have hfr : Fr (fun k => k = w.heap.size + 1 + 1 ∨ w.heap.size ≤ k) w w6 := hu5.fr.trans (hL.fr.mono (fun _ _ hk => .inl hk))
    refine ⟨la, lc, he, ho.base (by omega), hfr.below _ (Nat.le_refl _) (fun k hk => by omega), HU5.out.2.1.fr hL.fr (by omega), HU5.out.2.2.1.fr hL.fr (by omega), HU5.out.2.2.2.fr hL.fr (by omega)⟩
  have HK5 : Hid (W5.drew.cell? ⟨x, 0, none⟩ = some (.int .u16 (n1 : Nat)) ∧ W5.drew.cell? ⟨x, 1, none⟩ = some (.int .u16 (n2 : Nat)) ∧ W5.drew.cell? ⟨x, 2, none⟩ = some (.int .u32 (n3 : Nat))) := ⟨k0, k1, k2⟩
  have HXW : Hid (w.heap.size + 1 < x) := hxw
  clear k0 k1 k2
  clear HU hP b5 s5 bd hu5 s5d hrd5
  go_wp2_with fail
  rw [← hW5, ← hx]
  clear hW5 hx
  refine wp_region_parW mixedX (fun θ : Option Addr × Nat => [(13, .agg #[.int .u16 (n1 : Nat), .int .u16 (n2 : Nat), .int .u32 (n3 : Nat)]), (14, .pointer (some ⟨w.heap.size + 1 + 1, 0, none⟩)), (15, .slice θ.1 n θ.2), (3, .slice θ.1 n θ.2)]) (fun θ l V => RqG w W5.drew x n C [.int .u16 (n1 : Nat), .int .u16 (n2 : Nat), .int .u32 (n3 : Nat)] θ l V) (none, 0) ?Z1 ?hZ1 (by kernel_rfl) (by kernel_rfl) (fun θ => by kernel_rfl) (by kernel_rfl) ?h01 ?hops1 ?he1
  case hZ1 => intro θ; simp only [List.foldl_cons, List.foldl_nil, List.setIfInBounds_toArray, List.set_cons_zero, List.set_cons_succ]; rfl
  case h01 => exact RqG.start
  case hops1 =>
    refine ⟨?_, ?_, ?_, ?_, ?_, ?_, trivial⟩
    · exact par_val (fun θ => by rfl) (fun θ l V hg => hg.other 0 (by decide) (by decide) (by decide)) (fun θ l V hl hc hd hg => by
        have h3 : l 3 = false := (by cases h : l 3 with | false => rfl | true => exact absurd (hc 3 0 (by kernel_rfl) h) (by rw [hl]; decide))
        obtain ⟨j0, j1, j2⟩ : V.cell? ⟨x, 0, none⟩ = some (.int .u16 (n1 : Nat)) ∧ V.cell? ⟨x, 1, none⟩ = some (.int .u16 (n2 : Nat)) ∧ V.cell? ⟨x, 2, none⟩ = some (.int .u32 (n3 : Nat)) := by
          cases h2 : l 2 with
          | false => rw [hg.a0 h2]; exact HK5.out
          | true => have s := (hg.a1 h2 h3).sx; exact ⟨s.cell 0 _ rfl, s.cell 1 _ rfl, s.cell 2 _ rfl⟩
        go_simp; (try with_reducible rfl))
    · exact par_val (fun θ => by rfl) (fun θ l V hg => hg.other 1 (by decide) (by decide) (by decide)) (fun θ l V hl hc hd hg => by go_simp; (try with_reducible rfl))
    · exact par_call (fun θ => by rfl) rfl (vs := fun _ => [.pointer (some ⟨w.heap.size + 1 + 1, 0, none⟩)]) (fun θ => by rfl) Tryd.func40 (by rfl) (by rfl) (fun θ l V hl hc hd hg => by
        have h3 : l 3 = false := (by cases h : l 3 with | false => rfl | true => exact absurd (hc 3 2 (by kernel_rfl) h) (by rw [hl]; decide))
        have h4 : l 4 = false := (by cases h : l 4 with | false => rfl | true => exact absurd (hc 4 2 (by kernel_rfl) h) (by rw [hl]; decide))
        have h5 : l 5 = false := (by cases h : l 5 with | false => rfl | true => exact absurd (hc 5 2 (by kernel_rfl) h) (by rw [hl]; decide))
        rw [hg.a0 hl]
        refine Calls.mono HRC.out ?_
        intro e w6 hL
        obtain ⟨la, lc, rfl, hP6⟩ := HAF.out _ _ hL
        exact ⟨_, rfl, next_set (by kernel_rfl) ((la, lc) : Option Addr × Nat) [(15, .slice la n lc, 2), (3, .slice la n lc, 4)] (by simp only [List.foldl_cons, List.foldl_nil, List.setIfInBounds_toArray, List.set_cons_zero, List.set_cons_succ]) (by kernel_rfl) (fun y hy => by simp at hy; rcases hy with rfl | rfl; exact hl; exact h4) (fun d hd => by cases hd; rfl) (RqG.call h3 h5 hP6)⟩)
    · exact par_skip (fun θ => by rfl) (fun θ l V hl hc hd hg => by
        have h2 : l 2 = true := hd 2 (by kernel_rfl)
        have h5 : l 5 = false := (by cases h : l 5 with | false => rfl | true => exact absurd (hc 5 3 (by kernel_rfl) h) (by rw [hl]; decide))
        obtain ⟨hth, hst⟩ := hg.put3 h2 hl h5 rfl HXW.out
        exact ⟨_, run_storeX rfl (b := w.heap.size) (k := 0) (by rfl) (cs := [.int .u16 (n1 : Nat), .int .u16 (n2 : Nat), .int .u32 (n3 : Nat)]) (by rfl) hth (by kernel_rfl) (by intro v hv; simp at hv; rcases hv with rfl | rfl | rfl <;> rfl), ⟨θ, fun _ _ _ _ _ _ => rfl, fun d hd => (by cases hd), hst⟩⟩)
    · exact par_val (fun θ => by rfl) (fun θ l V hg => hg.other 4 (by decide) (by decide) (by decide)) (fun θ l V hl hc hd hg => by go_simp; (try with_reducible rfl))
    · exact par_skip (fun θ => by rfl) (fun θ l V hl hc hd hg => by
        have h4 : l 4 = true := hd 4 (by kernel_rfl)
        have h3 : l 3 = true := hc 4 3 (by kernel_rfl) h4
        have h2 : l 2 = true := hc 4 2 (by kernel_rfl) h4
        obtain ⟨c5, f5, l5, hst⟩ := hg.put5 h3 h2 hl HXW.out
        exact ⟨_, by go_simp; (try with_reducible rfl), ⟨θ, fun _ _ _ _ _ _ => rfl, fun d hd => (by cases hd), hst⟩⟩)
  case he1 =>
  rintro ⟨la, lc⟩ l V hall hg
  have h8 := hg.a3 (hall 5 (by decide))
  clear hall hg HRC HAF
  dsimp only at h8 ⊢
  have y0 := h8.s0.cell 0 _ rfl
  have y1 := h8.s0.cell 1 _ rfl
  have y2 := h8.s0.cell 2 _ rfl
  have y3 := h8.s1.cell 0 _ rfl
  have HE := (show Hid _ from h8)
  clear h8
  go_wp2
  refine leaves_cons (f := 38) (args := #[.pointer (some ⟨w.heap.size + 1, 0, none⟩)]) (by simp) (by simp [go_sem]) ?_
  refine (catch_idle ⟨w.heap.size + 1, 0, none⟩ _).mono ?_
  rintro e u' w'' ⟨rfl, rfl, rfl⟩
  simp [Leaves, settle, results, Tryd.results23, go_sem, y0, y1, y2, y3]
  exact ⟨la, lc, ⟨rfl, rfl⟩, HE.out.own.base (by omega), HE.out.bel⟩
structure TkC (w : World) (n1 n2 n3 n : Nat) (C : List CD) (e : Ending) (w' : World) : Prop where
  ex : ∃ la lc, e = .returned (.tuple #[.agg #[.int .u16 (n1 : Nat), .int .u16 (n2 : Nat), .int .u32 (n3 : Nat)], .slice la n lc, .int .i64 0]) ∧ ChsO w' w.heap.size la n lc C
  bel : Below w.heap.size w w'
set_option linter.unusedVariables false in
set_option maxRecDepth 100000 in
set_option maxHeartbeats 4000000 in
theorem take_cd {w : World} {b off m c : Nat} {zs : List Nat} (hs : Sl w (some ⟨b, off, none⟩) m c zs) (h16 : 16 ≤ m) (h1480 : m ≤ 1480) (hsum : stampedB zs = true) (n : Nat) (C : List CD) (hnl : n = C.length) (rest : Nat → List Nat) (h0 : rest 0 = zs.drop 12) (hn : rest n = []) (hne : ∀ i, i < n → rest i ≠ []) (hn32 : n ≤ 32)
    (hrd : ∀ i c, C[i]? = some c → ∀ W0 q W, RdW W0 W q (rest i) 3 → Calls Tryd.prog 57 #[.pointer (some ⟨q, 0, none⟩), .int .i64 (i : Nat)] W (RdO W0 W q c (rest (i + 1)) 3)) :
    Calls Tryd.prog 8 #[.slice (some ⟨b, off, none⟩) m c] w (TkC w (numB (zs.take 2)) (numB ((zs.drop 2).take 2)) (numB ((zs.drop 4).take 4)) n C) := by
  have hl := hs.len
  have hz := zero_head
  obtain ⟨W1, hW1⟩ : ∃ W1, W1 = w.alloc (.cells #[.int .u16 0, .int .u16 0, .int .u32 0] 25) := ⟨_, rfl⟩
  have b1 : Below w.heap.size w W1 := by rw [hW1]; exact (Below.refl _ _).alloc (Nat.le_refl _) _
  have s1 := Stc.new w [.int .u16 0, .int .u16 0, .int .u32 0] 25 W1 hW1
  have HST := (show Hid _ from stamped_any _ m c zs W1 (hs.below b1) (by omega))
  rw [hsum] at HST
  have HRP := (show Hid _ from fun W (hW : Below w.heap.size w W) => readp_cd (hs.below hW) (by omega) n C hnl rest h0 hn hne hn32 (fun i d hc q W' hW' => hrd i d hc W q W' hW'))
  obtain ⟨n1, hn1⟩ : ∃ n1, n1 = numB (zs.take 2) := ⟨_, rfl⟩
  obtain ⟨n2, hn2⟩ : ∃ n2, n2 = numB ((zs.drop 2).take 2) := ⟨_, rfl⟩
  obtain ⟨n3, hn3⟩ : ∃ n3, n3 = numB ((zs.drop 4).take 4) := ⟨_, rfl⟩
  rw [← hn1, ← hn2, ← hn3] at HRP ⊢
  have HS1 := (show Hid _ from And.intro s1 b1)
  clear hn1 hn2 hn3 h0 hn hne hrd hnl b1 s1 hs hsum hl
  go_enter Tryd.func8, Tryd.ntmps8
  go_wp2_with fail
  rw [← hW1]
  clear hW1 hz
  refine Calls.mono HST.out ?_
  clear HST
  rintro e w2 ⟨rfl, b2⟩
  have hb2 : Below w.heap.size w w2 := HS1.out.2.trans (b2.mono HS1.out.2.size)
  have HN := (show Hid _ from HRP.out w2 hb2)
  have HS2 : Hid (Stc w2 w.heap.size [.int .u16 0, .int .u16 0, .int .u32 0] ∧ Below w.heap.size w w2) := ⟨HS1.out.1.below b2, hb2⟩
  clear HRP HS1 b2 hb2
  go_wp2_with fail
  refine Calls.mono HN.out ?_
  clear HN
  rintro e w3 ⟨la, lc, rfl, ho, b3⟩
  have s3 := HS2.out.1.below b3
  have hsz : w.heap.size + 1 ≤ w2.heap.size := HS2.out.1.lt
  have HF : Hid (ChsO w3 (w.heap.size + 1) la n lc C ∧ Below w.heap.size w w3 ∧ Stc w3 w.heap.size [.int .u16 0, .int .u16 0, .int .u32 0]) := ⟨ho.base hsz, HS2.out.2.trans (b3.mono HS2.out.2.size), s3⟩
  have g0 := s3.free 0
  have g1 := s3.free 1
  have g2 := s3.free 2
  have d0 := s3.cell 0 _ rfl
  have d1 := s3.cell 1 _ rfl
  have d2 := s3.cell 2 _ rfl
  clear ho b3 s3 HS2 hsz
  go_wp2
  try simp only [Exit.inBlock, Exit.then]
  obtain ⟨ho, hb, s3⟩ := HF.out
  have hput := s3.put [.int .u16 (n1 : Nat), .int .u16 (n2 : Nat), .int .u32 (n3 : Nat)] rfl
  have hff := fr_setCellsX w.heap.size [.int .u16 (n1 : Nat), .int .u16 (n2 : Nat), .int .u32 (n3 : Nat)] 0 w3
  refine bodyPost_ret (results_cellE3 rfl _ _ w.heap.size 0 [.int .u16 (n1 : Nat), .int .u16 (n2 : Nat), .int .u32 (n3 : Nat)] _ rfl hput.range Tryd.underlying25 rfl (by kernel_rfl)) rfl ?_
  exact ⟨⟨la, lc, rfl, (ho.fr hff (fun g hg _ e => by have : g = w.heap.size := e; omega)).base (by omega)⟩, hb.trans (hff.below _ hb.size (fun k hk => by omega))⟩
end Go.Proofs.YtlgfbcfogcmdbaaDoor
namespace Go.Proofs.YtlgfbcfogcmdbaaDoor
open Go.RowKit
theorem dropB {k v n m : Nat} {x y z : List Nat} (h : x.drop k = y) (hy : y = bytesB v n ++ z) (hm : m = k + n) : x.drop m = z := by
  rw [hm, ← List.drop_drop, h, hy, List.drop_left' (bytesB_len v n)]
theorem numAt {k v n : Nat} {x y z : List Nat} (h : x.drop k = y) (hy : y = bytesB v n ++ z) (hv : numB (bytesB v n) = v) : numB ((x.drop k).take n) = v := by
  rw [h, hy, List.take_left' (bytesB_len v n), hv]
/-- A chunk that Take may answer, and the bytes of its value. -/
inductive CdB : CD → List Nat → Prop
  | data (flags tsn stream ssn ppid : Nat) (xs : List Nat) (h1 : tsn < 4294967296) (h2 : stream < 65536) (h3 : ssn < 65536) (h4 : ppid < 4294967296) (hx : 0 < xs.length) (hb : xs.length ≤ 60000) :
      CdB ⟨0, flags, tsn, stream, ssn, ppid, 0, 0, 0, 0, [], [], [], xs⟩ (bytesB tsn 4 ++ (bytesB stream 2 ++ (bytesB ssn 2 ++ (bytesB ppid 4 ++ xs))))
  | init (kind flags tsn tag room outs ins : Nat) (ps : List Pm) (hk : kind = 1 ∨ kind = 2) (h1 : tsn < 4294967296) (h2 : tag < 4294967296) (h3 : room < 4294967296) (h4 : outs < 65536) (h5 : ins < 65536) (h16 : ps.length ≤ 16) (hpk : ∀ p ∈ ps, p.k < 65536 ∧ p.zs.length ≤ 2000) :
      CdB ⟨kind, flags, tsn, 0, 0, 0, tag, room, outs, ins, [], [], ps, []⟩ (bytesB tag 4 ++ (bytesB room 4 ++ (bytesB outs 2 ++ (bytesB ins 2 ++ (bytesB tsn 4 ++ pmsV ps)))))
  | sack (flags tsn room : Nat) (bs : List (Nat × Nat)) (ds : List Nat) (h1 : tsn < 4294967296) (h2 : room < 4294967296) (hbn : bs.length ≤ 16) (hdn : ds.length ≤ 16) (hbb : ∀ p ∈ bs, p.1 < 65536 ∧ p.2 < 65536) (hdb : ∀ d ∈ ds, d < 4294967296) :
      CdB ⟨3, flags, tsn, 0, 0, 0, 0, room, 0, 0, bs, ds, [], []⟩ (sackB tsn room bs ds)
  | prms (kind flags : Nat) (ps : List Pm) (hk : kind = 4 ∨ kind = 5 ∨ kind = 6 ∨ kind = 9) (h16 : ps.length ≤ 16) (hpk : ∀ p ∈ ps, p.k < 65536 ∧ p.zs.length ≤ 2000) :
      CdB ⟨kind, flags, 0, 0, 0, 0, 0, 0, 0, 0, [], [], ps, []⟩ (pmsV ps)
  | tsnv (flags tsn : Nat) (h1 : tsn < 4294967296) : CdB ⟨7, flags, tsn, 0, 0, 0, 0, 0, 0, 0, [], [], [], []⟩ (bytesB tsn 4)
  | none (kind flags : Nat) (hk : kind = 8 ∨ kind = 11 ∨ kind = 14) : CdB ⟨kind, flags, 0, 0, 0, 0, 0, 0, 0, 0, [], [], [], []⟩ []
  | raw (kind flags : Nat) (xs : List Nat) (hk : ¬ kind = 0 ∧ ¬ kind = 1 ∧ ¬ kind = 2 ∧ ¬ kind = 3 ∧ ¬ kind = 4 ∧ ¬ kind = 5 ∧ ¬ kind = 6 ∧ ¬ kind = 7 ∧ ¬ kind = 8 ∧ ¬ kind = 9 ∧ ¬ kind = 11 ∧ ¬ kind = 14) (hb : xs.length ≤ 60000) :
      CdB ⟨kind, flags, 0, 0, 0, 0, 0, 0, 0, 0, [], [], [], xs⟩ xs
theorem rchunk_cd {W0 w : World} {q : Nat} {vz pd rest : List Nat} {sh : Int} {c : CD} (hc : CdB c vz) (h : RdW W0 w q (c.kind :: c.flags :: (bytesB (4 + vz.length) 2 ++ (vz ++ (pd ++ rest)))) sh) (ahead : Nat) (ha : ahead < 32) (hk256 : c.kind < 256) (hf : c.flags < 256) (hvz : 4 + vz.length < 65536) (hpd : pd.length = padN vz.length) :
    Calls Tryd.prog 57 #[.pointer (some ⟨q, 0, none⟩), .int .i64 (ahead : Nat)] w (RdO W0 w q c rest sh) := by
  cases hc with
  | data flags tsn stream ssn ppid xs h1 h2 h3 h4 hx hb =>
    have k := rchunk_dataO 0 flags _ rfl (by simp [bytesB_len]; omega) (by simp [bytesB_len]; omega) h ahead ha hk256 hf hvz hpd
    have d4 := dropB (k := 0) (m := 4) (List.drop_zero (l := bytesB tsn 4 ++ (bytesB stream 2 ++ (bytesB ssn 2 ++ (bytesB ppid 4 ++ xs))))) rfl rfl
    have d6 := dropB (m := 6) d4 rfl rfl
    have d8 := dropB (m := 8) d6 rfl rfl
    have d12 := dropB (m := 12) d8 rfl rfl
    rw [take4B, numB_four h1, numAt d4 rfl (numB_two h2), numAt d6 rfl (numB_two h3), numAt d8 rfl (numB_four h4), d12] at k
    exact k
  | init kind flags tsn tag room outs ins ps hk h1 h2 h3 h4 h5 h16 hpk =>
    have d4 := dropB (k := 0) (m := 4) (List.drop_zero (l := bytesB tag 4 ++ (bytesB room 4 ++ (bytesB outs 2 ++ (bytesB ins 2 ++ (bytesB tsn 4 ++ pmsV ps)))))) rfl rfl
    have d8 := dropB (m := 8) d4 rfl rfl
    have d10 := dropB (m := 10) d8 rfl rfl
    have d12 := dropB (m := 12) d10 rfl rfl
    have d16 := dropB (m := 16) d12 rfl rfl
    have k := rchunk_initO kind flags _ ps hk (by simp [bytesB_len]; omega) h16 hpk d16 h ahead ha hk256 hf hvz hpd
    rw [take4B, numB_four h2, numAt d4 rfl (numB_four h3), numAt d8 rfl (numB_two h4), numAt d10 rfl (numB_two h5), numAt d12 rfl (numB_four h1)] at k
    exact k
  | sack flags tsn room bs ds h1 h2 hbn hdn hbb hdb => exact rchunk_sackO 3 flags tsn room bs ds rfl h1 h2 hbn hdn hbb hdb h ahead ha hk256 hf hvz hpd
  | prms kind flags ps hk h16 hpk => exact rchunk_prmsO kind flags ps hk h16 hpk h ahead ha hk256 hf hvz hpd
  | tsnv flags tsn h1 =>
    have k := rchunk_tsnvO 7 flags _ rfl (bytesB_len tsn 4) h ahead ha hk256 hf hvz hpd
    rw [List.take_of_length_le (by rw [bytesB_len]; omega), numB_four h1] at k
    exact k
  | none kind flags hk => exact rchunk_noneO kind flags hk h ahead ha hk256 hf hvz hpd
  | raw kind flags xs hk hb => exact rchunk_rawO kind flags _ hk (by omega) h ahead ha hk256 hf hvz hpd
end Go.Proofs.YtlgfbcfogcmdbaaDoor
namespace Go.Proofs.YtlgfbcfogcmdbaaDoor
open Go.RowKit
def PqD.pm (x : PqD) : Pm := ⟨x.kind, x.dataZ⟩
def ChQ.cd (x : ChQ) : CD := ⟨x.k, x.f, x.t, x.st, x.ss, x.pp, x.tg, x.rm, x.os, x.is, x.bD, x.dD, x.pD.map PqD.pm, x.xZ⟩
def ChQ.ck (x : ChQ) : Ck := ⟨x.k, x.f, x.t, x.st, x.ss, x.pp, x.tg, x.rm, x.os, x.is, x.bA, x.bN, x.bC, x.dA, x.dN, x.dC, x.pA, x.pN, x.pC, x.xA, x.xN, x.xC, (x.pD.map PqD.pm).map (fun p => p.zs.length), x.xZ⟩
theorem SlPq.pmR {w : World} {a : Option Addr} {n c : Nat} {dd : List PqD} (h : SlPq w a n c dd) : PmR w a n c (dd.map PqD.pm) := by
  refine ⟨by rw [List.length_map]; exact h.len, h.cap, h.small, ?_⟩
  rcases h.at_ with h0 | ⟨b, off, rfl, hlt, hc⟩
  · exact .inl h0
  · refine .inr ⟨b, off, rfl, hlt, fun i p hp => ?_⟩
    rw [List.getElem?_map] at hp
    cases hx : dd[i]? with
    | none => rw [hx] at hp; cases hp
    | some x =>
      rw [hx] at hp
      obtain rfl : x.pm = p := Option.some.inj hp
      have hw := h.wf x (List.mem_of_getElem? hx)
      unfold PqD.Wf at hw
      have hl := hw.2.1.len
      refine ⟨hw.1, x.dataA, x.dataC, hc i x hx 0 _ rfl, ?_, ?_⟩
      · show w.cell? _ = some (.slice x.dataA x.dataZ.length x.dataC)
        rw [hl]
        exact hc i x hx 1 _ rfl
      · show Sl w x.dataA x.dataZ.length x.dataC x.dataZ
        rw [hl]
        exact hw.2.1
theorem PmR.prsB {w : World} {a : Option Addr} {n c : Nat} {ps : List Pm} (h : PmR w a n c ps) : Prs w a n c (ps.map fun p => p.zs.length) := by
  have hs : ∀ l ∈ ps.map (fun p => p.zs.length), l ≤ 281474976710656 := by
    intro l hl
    obtain ⟨p, hp, rfl⟩ := List.mem_map.1 hl
    obtain ⟨i, hi⟩ := List.getElem?_of_mem hp
    have hlt := (List.getElem?_eq_some_iff.1 hi).1
    have hn := h.len
    rcases h.at_ with h0 | ⟨b, off, rfl, _, hc⟩
    · omega
    · obtain ⟨_, va, vc, _, _, h3⟩ := hc i p hi
      exact h3.small
  refine ⟨by rw [List.length_map]; exact h.len, h.small, hs, ?_⟩
  rcases h.at_ with h0 | ⟨b, off, rfl, hlt, hc⟩
  · exact .inl h0
  · refine .inr ⟨b, off, rfl, hlt, fun i l hl => ?_⟩
    rw [List.getElem?_map] at hl
    cases hx : ps[i]? with
    | none => rw [hx] at hl; cases hl
    | some p =>
      rw [hx] at hl
      obtain rfl : p.zs.length = l := Option.some.inj hl
      obtain ⟨_, va, vc, h1, h2, _⟩ := hc i p hx
      exact ⟨p.k, va, vc, h1, h2⟩
theorem pm_in {ps : List Pm} {p : Pm} (h : p ∈ ps) : 4 + p.zs.length ≤ (pmsB ps).length := by
  induction ps with
  | nil => cases h
  | cons q ps ih =>
    unfold pmsB at ih ⊢
    rw [List.flatMap_cons, List.length_append]
    rcases List.mem_cons.1 h with rfl | h1
    · have := pmB_len p
      omega
    · have := ih h1
      omega
theorem pm_psz {ps : List Pm} {p : Pm} (h : p ∈ ps) : p.zs.length ≤ psz (ps.map fun p => p.zs.length) := by
  have h1 := pm_in h
  have h2 := pms_split ps
  have h3 := congrArg List.length h2
  rw [List.length_append, List.length_replicate, pmsV_len] at h3
  have h4 := padN_lt (psz (ps.map fun p => p.zs.length))
  omega
theorem ChQ.ckW {w : World} {x : ChQ} (h : x.Wf w) : CkW w x.ck := by
  unfold ChQ.Wf at h
  obtain ⟨h1, h2, h3, h4, h5, h6, _, _, _, _, h11, h12, h13, h14⟩ := h
  exact ⟨⟨h1, h2, h3, h4, h5, h6, h11.small, SlK.small h12⟩, h13.pmR.prsB, h14.1⟩
/-- The bytes of a chunk's value. -/
def valB (c : CD) : List Nat :=
  if c.kind = 0 then bytesB c.tsn 4 ++ (bytesB c.stream 2 ++ (bytesB c.ssn 2 ++ (bytesB c.ppid 4 ++ c.xs)))
  else if c.kind = 1 ∨ c.kind = 2 then bytesB c.tag 4 ++ (bytesB c.room 4 ++ (bytesB c.outs 2 ++ (bytesB c.ins 2 ++ (bytesB c.tsn 4 ++ pmsV c.ps))))
  else if c.kind = 3 then sackB c.tsn c.room c.bs c.ds
  else if c.kind = 4 ∨ c.kind = 5 ∨ c.kind = 6 ∨ c.kind = 9 then pmsV c.ps
  else if c.kind = 7 then bytesB c.tsn 4
  else if c.kind = 8 ∨ c.kind = 11 ∨ c.kind = 14 then []
  else c.xs
def valV (x : ChQ) : Value :=
  if x.k = 0 then .iface 92 (.agg #[.int .u32 (x.t : Nat), .int .u16 (x.st : Nat), .int .u16 (x.ss : Nat), .int .u32 (x.pp : Nat), .slice x.xA x.xN x.xC])
  else if x.k = 1 ∨ x.k = 2 then .iface 95 (.agg #[.int .u32 (x.tg : Nat), .int .u32 (x.rm : Nat), .int .u16 (x.os : Nat), .int .u16 (x.is : Nat), .int .u32 (x.t : Nat), .slice x.pA x.pN x.pC])
  else if x.k = 3 then .iface 97 (.agg #[.int .u32 (x.t : Nat), .int .u32 (x.rm : Nat), .slice x.bA x.bN x.bC, .slice x.dA x.dN x.dC])
  else if x.k = 4 ∨ x.k = 5 ∨ x.k = 6 ∨ x.k = 9 then .iface 93 (.slice x.pA x.pN x.pC)
  else if x.k = 7 then .iface 98 (.int .u32 (x.t : Nat))
  else if x.k = 8 ∨ x.k = 11 ∨ x.k = 14 then .iface 100 (.agg #[])
  else .iface 101 (.slice x.xA x.xN x.xC)
def spcN (c : CD) : Nat := 4 + (valB c).length + padN (valB c).length
theorem spcN_four (c : CD) : spcN c % 4 = 0 := by
  unfold spcN padN
  omega
theorem chkN_ok {q l m : Bool} {n : Nat} (h : chkN q l m n = 0) : q = true ∧ l = false ∧ m = false ∧ n ≤ 1468 := by
  unfold chkN at h
  cases q <;> cases l <;> cases m <;> simp at h ⊢
  omega
/-- What is known of a chunk that may be. -/
structure OneQ (w : World) (x : ChQ) : Prop where
  vl : ∀ W, Calls Tryd.prog 26 #[.agg x.vals.toArray] W fun e w' => e = .returned (valV x) ∧ Below W.heap.size W w'
  sp : ∀ W, Below w.heap.size w W → Calls Tryd.prog 25 #[valV x] W fun e w' => e = .returned (.int .i64 (spcN x.cd : Nat)) ∧ Below W.heap.size W w'
  wr : ∀ W q zs, WrW W q (fun _ => False) zs → w.heap.size ≤ q → Below w.heap.size w W → zs.length % 4 = 0 → zs.length ≤ 100000 → Calls Tryd.prog 13 #[.pointer (some ⟨q, 0, none⟩), .agg x.vals.toArray] W (WrP W q (fun _ => False) (zs ++ chB x.k x.f (valB x.cd)))
  cd : CdB x.cd (valB x.cd)
  sb : spcN x.cd ≤ 1468
set_option maxRecDepth 100000 in
set_option maxHeartbeats 4000000 in
theorem one_any {w : World} {x : ChQ} (h : x.Wf w) (hc : chkOf x.ck = 0) : OneQ w x := by
  have hw := h
  unfold ChQ.Wf at hw
  obtain ⟨g1, g2, g3, g4, g5, g6, g7, g8, g9, g10, g11, g12, g13, g14, _⟩ := hw
  have gP := g13.pmR
  have gR := gP.prsB
  have lx := g14.len
  have lp := gP.len
  have lb := g11.len
  have ld := SlK.len g12
  have hpk : ∀ p ∈ x.pD.map PqD.pm, p.k < 65536 := by
    intro p hp
    obtain ⟨i, hi⟩ := List.getElem?_of_mem hp
    have hlt := (List.getElem?_eq_some_iff.1 hi).1
    rcases gP.at_ with h0 | ⟨_, _, _, _, hcc⟩
    · omega
    · exact (hcc i p hi).1
  have hps := fun p (hp : p ∈ x.pD.map PqD.pm) => pm_psz hp
  have hpl := pmsV_len (x.pD.map PqD.pm)
  unfold chkOf at hc
  by_cases h0 : x.k = 0
  · rw [if_pos (show x.ck.k = 0 from h0)] at hc
    obtain ⟨c1, c2, _, c4⟩ := chkN_ok hc
    have c1 := of_decide_eq_true c1
    have c2 := of_decide_eq_false c2
    obtain ⟨y1, y2, y3, y4, y5, y6, y7⟩ : x.tg = 0 ∧ x.rm = 0 ∧ x.os = 0 ∧ x.is = 0 ∧ x.bN = 0 ∧ x.dN = 0 ∧ x.pN = 0 := c1
    have y8 : ¬ x.xN = 0 := c2
    have y9 : 4 + (12 + x.xN) + padN (12 + x.xN) ≤ 1468 := c4
    have z1 : x.bD = [] := List.eq_nil_of_length_eq_zero (by omega)
    have z2 : x.dD = [] := List.eq_nil_of_length_eq_zero (by omega)
    have z3 : x.pD.map PqD.pm = [] := List.eq_nil_of_length_eq_zero (by omega)
    have eB : valB x.cd = bytesB x.t 4 ++ (bytesB x.st 2 ++ (bytesB x.ss 2 ++ (bytesB x.pp 4 ++ x.xZ))) := by unfold valB; rw [if_pos (show x.cd.kind = 0 from h0)]; rfl
    have eV : valV x = .iface 92 (.agg #[.int .u32 (x.t : Nat), .int .u16 (x.st : Nat), .int .u16 (x.ss : Nat), .int .u32 (x.pp : Nat), .slice x.xA x.xN x.xC]) := by unfold valV; rw [if_pos h0]
    have eL : (valB x.cd).length = 12 + x.xN := by rw [eB]; simp [bytesB_len]; omega
    have eS : spcN x.cd = 4 + (12 + x.xN) + padN (12 + x.xN) := by unfold spcN; rw [eL]
    refine ⟨fun W => ?_, fun W hW => ?_, fun W q zs hq1 hq2 hW h4 hb => ?_, ?_, by omega⟩
    · rw [eV]
      exact valueOf_data x.k x.f x.t x.st x.ss x.pp x.tg x.rm x.os x.is x.bA x.bN x.bC x.dA x.dN x.dC x.pA x.pN x.pC x.xA x.xN x.xC W h0
    · rw [eS, eV]
      exact space_data _ _ _ _ _ _ _ W g14.small _ rfl
    · have k := wchunk_data hq1 x.k x.f x.t x.st x.ss x.pp x.tg x.rm x.os x.is x.bA x.bN x.bC x.dA x.dN x.dC x.pA x.pN x.pC x.xA x.xN x.xC h0 w g14 hW hq2 g3 g4 g5 g6 g1 g2 h4 (by omega) (by omega)
      simp only [List.append_assoc] at k
      rw [eB]
      exact k
    · rw [eB]
      have := CdB.data x.f x.t x.st x.ss x.pp x.xZ g3 g4 g5 g6 (by omega) (by omega)
      have e : x.cd = ⟨0, x.f, x.t, x.st, x.ss, x.pp, 0, 0, 0, 0, [], [], [], x.xZ⟩ := by unfold ChQ.cd; rw [h0, y1, y2, y3, y4, z1, z2, z3]
      rw [e]
      exact this
  rw [if_neg (show ¬ x.ck.k = 0 from h0)] at hc
  by_cases h1 : x.k = 1 ∨ x.k = 2
  · rw [if_pos (show x.ck.k = 1 ∨ x.ck.k = 2 from h1)] at hc
    obtain ⟨c1, _, c3, c4⟩ := chkN_ok hc
    have c1 := of_decide_eq_true c1
    have c3 := of_decide_eq_false c3
    obtain ⟨y1, y2, y3, y4, y5, y6⟩ : x.st = 0 ∧ x.ss = 0 ∧ x.pp = 0 ∧ x.bN = 0 ∧ x.dN = 0 ∧ x.xN = 0 := c1
    have y8 : ¬ 16 < x.pN := c3
    have y9 : 4 + (16 + psz ((x.pD.map PqD.pm).map (fun p => p.zs.length))) + padN (16 + psz ((x.pD.map PqD.pm).map (fun p => p.zs.length))) ≤ 1468 := c4
    have z1 : x.bD = [] := List.eq_nil_of_length_eq_zero (by omega)
    have z2 : x.dD = [] := List.eq_nil_of_length_eq_zero (by omega)
    have z3 : x.xZ = [] := List.eq_nil_of_length_eq_zero (by omega)
    have hpb : ∀ p ∈ x.pD.map PqD.pm, p.zs.length ≤ 2000 := fun p hp => by have := hps p hp; omega
    have eB : valB x.cd = bytesB x.tg 4 ++ (bytesB x.rm 4 ++ (bytesB x.os 2 ++ (bytesB x.is 2 ++ (bytesB x.t 4 ++ pmsV (x.pD.map PqD.pm))))) := by unfold valB; rw [if_neg (show ¬ x.cd.kind = 0 from h0), if_pos (show x.cd.kind = 1 ∨ x.cd.kind = 2 from h1)]; rfl
    have eV : valV x = .iface 95 (.agg #[.int .u32 (x.tg : Nat), .int .u32 (x.rm : Nat), .int .u16 (x.os : Nat), .int .u16 (x.is : Nat), .int .u32 (x.t : Nat), .slice x.pA x.pN x.pC]) := by unfold valV; rw [if_neg h0, if_pos h1]
    have eL : (valB x.cd).length = 16 + psz ((x.pD.map PqD.pm).map (fun p => p.zs.length)) := by rw [eB]; simp only [List.length_append, bytesB_len, hpl]; omega
    have eS : spcN x.cd = 4 + (16 + psz ((x.pD.map PqD.pm).map (fun p => p.zs.length))) + padN (16 + psz ((x.pD.map PqD.pm).map (fun p => p.zs.length))) := by unfold spcN; rw [eL]
    refine ⟨fun W => ?_, fun W hW => ?_, fun W q zs hq1 hq2 hW h4 hb => ?_, ?_, by omega⟩
    · rw [eV]
      exact valueOf_init x.k x.f x.t x.st x.ss x.pp x.tg x.rm x.os x.is x.bA x.bN x.bC x.dA x.dN x.dC x.pA x.pN x.pC x.xA x.xN x.xC W h1
    · rw [eS, eV]
      exact space_init _ _ _ _ _ _ _ _ _ W (gR.below hW) (by omega) _ rfl
    · have k := wchunk_init hq1 x.k x.f x.t x.st x.ss x.pp x.tg x.rm x.os x.is x.bA x.bN x.bC x.dA x.dN x.dC x.pA x.pN x.pC x.xA x.xN x.xC h1 w gP hW hq2 (by omega) hpb g7 g8 g9 g10 g3 g1 g2 h4 (by omega) (by omega)
      simp only [List.append_assoc] at k
      rw [eB]
      exact k
    · rw [eB]
      have := CdB.init x.k x.f x.t x.tg x.rm x.os x.is (x.pD.map PqD.pm) h1 g3 g7 g8 g9 g10 (by omega) (fun p hp => ⟨hpk p hp, hpb p hp⟩)
      have e : x.cd = ⟨x.k, x.f, x.t, 0, 0, 0, x.tg, x.rm, x.os, x.is, [], [], x.pD.map PqD.pm, []⟩ := by unfold ChQ.cd; rw [y1, y2, y3, z1, z2, z3]
      rw [e]
      exact this
  rw [if_neg (show ¬ (x.ck.k = 1 ∨ x.ck.k = 2) from h1)] at hc
  by_cases h3 : x.k = 3
  · rw [if_pos (show x.ck.k = 3 from h3)] at hc
    obtain ⟨c1, _, c3, c4⟩ := chkN_ok hc
    have c1 := of_decide_eq_true c1
    have c3 := of_decide_eq_false c3
    obtain ⟨y1, y2, y3, y4, y5, y6, y7, y7b⟩ : x.st = 0 ∧ x.ss = 0 ∧ x.pp = 0 ∧ x.tg = 0 ∧ x.os = 0 ∧ x.is = 0 ∧ x.pN = 0 ∧ x.xN = 0 := c1
    have y8 : ¬ (16 < x.bN ∨ 16 < x.dN) := c3
    have y9 : 4 + (12 + 4 * x.bN + 4 * x.dN) + padN (12 + 4 * x.bN + 4 * x.dN) ≤ 1468 := c4
    have z1 : x.pD.map PqD.pm = [] := List.eq_nil_of_length_eq_zero (by omega)
    have z3 : x.xZ = [] := List.eq_nil_of_length_eq_zero (by omega)
    have eB : valB x.cd = sackB x.t x.rm x.bD x.dD := by unfold valB; rw [if_neg (show ¬ x.cd.kind = 0 from h0), if_neg (show ¬ (x.cd.kind = 1 ∨ x.cd.kind = 2) from h1), if_pos (show x.cd.kind = 3 from h3)]; rfl
    have eV : valV x = .iface 97 (.agg #[.int .u32 (x.t : Nat), .int .u32 (x.rm : Nat), .slice x.bA x.bN x.bC, .slice x.dA x.dN x.dC]) := by unfold valV; rw [if_neg h0, if_neg h1, if_pos h3]
    have eL : (valB x.cd).length = 12 + 4 * x.bN + 4 * x.dN := by rw [eB]; unfold sackB; simp only [List.length_append, bytesB_len, bksB_len, dusB_len]; omega
    have eS : spcN x.cd = 4 + (12 + 4 * x.bN + 4 * x.dN) + padN (12 + 4 * x.bN + 4 * x.dN) := by unfold spcN; rw [eL]
    refine ⟨fun W => ?_, fun W hW => ?_, fun W q zs hq1 hq2 hW h4 hb => ?_, ?_, by omega⟩
    · rw [eV]
      exact valueOf_sack x.k x.f x.t x.st x.ss x.pp x.tg x.rm x.os x.is x.bA x.bN x.bC x.dA x.dN x.dC x.pA x.pN x.pC x.xA x.xN x.xC W h3
    · rw [eS, eV]
      exact space_sack _ _ _ _ _ _ _ _ W g11.small (SlK.small g12) _ rfl
    · have k := wchunk_sack hq1 x.k x.f x.t x.st x.ss x.pp x.tg x.rm x.os x.is x.bA x.bN x.bC x.dA x.dN x.dC x.pA x.pN x.pC x.xA x.xN x.xC h3 w g11 g12 hW hq2 (by omega) (by omega) g3 g8 g1 g2 h4 (by omega) (by omega)
      rw [← lb, ← ld] at k
      rw [lb, ld] at k
      have e : bytesB x.t 4 ++ bytesB x.rm 4 ++ bytesB x.bN 2 ++ bytesB x.dN 2 ++ bksB x.bD ++ dusB x.dD = valB x.cd := by
        rw [eB]
        unfold sackB
        rw [lb, ld]
        simp only [List.append_assoc]
      rw [e] at k
      exact k
    · rw [eB]
      have := CdB.sack x.f x.t x.rm x.bD x.dD g3 g8 (by omega) (by omega) (fun p hp => by
        obtain ⟨i, hi⟩ := List.getElem?_of_mem hp
        have hlt := (List.getElem?_eq_some_iff.1 hi).1
        rcases g11.at_ with h9 | ⟨_, _, _, _, hcc⟩
        · omega
        · exact ⟨(hcc i p hi).1, (hcc i p hi).2.1⟩) (fun d hd => by
        obtain ⟨i, hi⟩ := List.getElem?_of_mem hd
        have hlt := (List.getElem?_eq_some_iff.1 hi).1
        have := SlK.bnd g12 i
        rw [List.getD_eq_getElem?_getD, hi] at this
        exact this)
      have e : x.cd = ⟨3, x.f, x.t, 0, 0, 0, 0, x.rm, 0, 0, x.bD, x.dD, [], []⟩ := by unfold ChQ.cd; rw [h3, y1, y2, y3, y4, y5, y6, z1, z3]
      rw [e]
      exact this
  rw [if_neg (show ¬ x.ck.k = 3 from h3)] at hc
  by_cases h4 : x.k = 4 ∨ x.k = 5 ∨ x.k = 6 ∨ x.k = 9
  · rw [if_pos (show x.ck.k = 4 ∨ x.ck.k = 5 ∨ x.ck.k = 6 ∨ x.ck.k = 9 from h4)] at hc
    obtain ⟨c1, _, c3, c4⟩ := chkN_ok hc
    have c1 := of_decide_eq_true c1
    have c3 := of_decide_eq_false c3
    obtain ⟨y0, y1, y2, y3, y4, y5, y6, y7, u1, u2, u3⟩ : x.t = 0 ∧ x.st = 0 ∧ x.ss = 0 ∧ x.pp = 0 ∧ x.tg = 0 ∧ x.rm = 0 ∧ x.os = 0 ∧ x.is = 0 ∧ x.bN = 0 ∧ x.dN = 0 ∧ x.xN = 0 := c1
    have y8 : ¬ 16 < x.pN := c3
    have y9 : 4 + (psz ((x.pD.map PqD.pm).map (fun p => p.zs.length))) + padN (psz ((x.pD.map PqD.pm).map (fun p => p.zs.length))) ≤ 1468 := c4
    have z1 : x.bD = [] := List.eq_nil_of_length_eq_zero (by omega)
    have z2 : x.dD = [] := List.eq_nil_of_length_eq_zero (by omega)
    have z3 : x.xZ = [] := List.eq_nil_of_length_eq_zero (by omega)
    have hpb : ∀ p ∈ x.pD.map PqD.pm, p.zs.length ≤ 2000 := fun p hp => by have := hps p hp; omega
    have eB : valB x.cd = pmsV (x.pD.map PqD.pm) := by unfold valB; rw [if_neg (show ¬ x.cd.kind = 0 from h0), if_neg (show ¬ (x.cd.kind = 1 ∨ x.cd.kind = 2) from h1), if_neg (show ¬ x.cd.kind = 3 from h3), if_pos (show x.cd.kind = 4 ∨ x.cd.kind = 5 ∨ x.cd.kind = 6 ∨ x.cd.kind = 9 from h4)]; rfl
    have eV : valV x = .iface 93 (.slice x.pA x.pN x.pC) := by unfold valV; rw [if_neg h0, if_neg h1, if_neg h3, if_pos h4]
    have eL : (valB x.cd).length = psz ((x.pD.map PqD.pm).map (fun p => p.zs.length)) := by rw [eB]; exact hpl
    have eS : spcN x.cd = 4 + (psz ((x.pD.map PqD.pm).map (fun p => p.zs.length))) + padN (psz ((x.pD.map PqD.pm).map (fun p => p.zs.length))) := by unfold spcN; rw [eL]
    refine ⟨fun W => ?_, fun W hW => ?_, fun W q zs hq1 hq2 hW h4' hb => ?_, ?_, by omega⟩
    · rw [eV]
      exact valueOf_prms x.k x.f x.t x.st x.ss x.pp x.tg x.rm x.os x.is x.bA x.bN x.bC x.dA x.dN x.dC x.pA x.pN x.pC x.xA x.xN x.xC W h4
    · rw [eS, eV]
      exact space_prms _ _ _ _ W (gR.below hW) (by omega) _ rfl
    · have k := wchunk_prms hq1 x.k x.f x.t x.st x.ss x.pp x.tg x.rm x.os x.is x.bA x.bN x.bC x.dA x.dN x.dC x.pA x.pN x.pC x.xA x.xN x.xC h4 w gP hW hq2 (by omega) hpb g1 g2 h4' (by omega) (by omega)
      rw [eB]
      exact k
    · rw [eB]
      have := CdB.prms x.k x.f (x.pD.map PqD.pm) h4 (by omega) (fun p hp => ⟨hpk p hp, hpb p hp⟩)
      have e : x.cd = ⟨x.k, x.f, 0, 0, 0, 0, 0, 0, 0, 0, [], [], x.pD.map PqD.pm, []⟩ := by unfold ChQ.cd; rw [y0, y1, y2, y3, y4, y5, y6, y7, z1, z2, z3]
      rw [e]
      exact this
  rw [if_neg (show ¬ (x.ck.k = 4 ∨ x.ck.k = 5 ∨ x.ck.k = 6 ∨ x.ck.k = 9) from h4)] at hc
  by_cases h7 : x.k = 7
  · rw [if_pos (show x.ck.k = 7 from h7)] at hc
    obtain ⟨c1, _, _, _⟩ := chkN_ok hc
    have c1 := of_decide_eq_true c1
    obtain ⟨y1, y2, y3, y4, y5, y6, y7, u1, u2, u3, u4⟩ : x.st = 0 ∧ x.ss = 0 ∧ x.pp = 0 ∧ x.tg = 0 ∧ x.rm = 0 ∧ x.os = 0 ∧ x.is = 0 ∧ x.bN = 0 ∧ x.dN = 0 ∧ x.pN = 0 ∧ x.xN = 0 := c1
    have z1 : x.bD = [] := List.eq_nil_of_length_eq_zero (by omega)
    have z2 : x.dD = [] := List.eq_nil_of_length_eq_zero (by omega)
    have z3 : x.xZ = [] := List.eq_nil_of_length_eq_zero (by omega)
    have z4 : x.pD.map PqD.pm = [] := List.eq_nil_of_length_eq_zero (by omega)
    have eB : valB x.cd = bytesB x.t 4 := by unfold valB; rw [if_neg (show ¬ x.cd.kind = 0 from h0), if_neg (show ¬ (x.cd.kind = 1 ∨ x.cd.kind = 2) from h1), if_neg (show ¬ x.cd.kind = 3 from h3), if_neg (show ¬ (x.cd.kind = 4 ∨ x.cd.kind = 5 ∨ x.cd.kind = 6 ∨ x.cd.kind = 9) from h4), if_pos (show x.cd.kind = 7 from h7)]; rfl
    have eV : valV x = .iface 98 (.int .u32 (x.t : Nat)) := by unfold valV; rw [if_neg h0, if_neg h1, if_neg h3, if_neg h4, if_pos h7]
    have eS : spcN x.cd = 8 := by unfold spcN; rw [eB, bytesB_len]; rfl
    refine ⟨fun W => ?_, fun W hW => ?_, fun W q zs hq1 hq2 hW h4' hb => ?_, ?_, by omega⟩
    · rw [eV]
      exact valueOf_tsnv x.k x.f x.t x.st x.ss x.pp x.tg x.rm x.os x.is x.bA x.bN x.bC x.dA x.dN x.dC x.pA x.pN x.pC x.xA x.xN x.xC W h7
    · rw [eS, eV]
      exact space_tsnv _ W _ rfl
    · rw [eB]
      exact wchunk_tsnv hq1 x.k x.f x.t x.st x.ss x.pp x.tg x.rm x.os x.is x.bA x.bN x.bC x.dA x.dN x.dC x.pA x.pN x.pC x.xA x.xN x.xC h7 g3 g1 g2 h4' (by omega) (by omega)
    · rw [eB]
      have := CdB.tsnv x.f x.t g3
      have e : x.cd = ⟨7, x.f, x.t, 0, 0, 0, 0, 0, 0, 0, [], [], [], []⟩ := by unfold ChQ.cd; rw [h7, y1, y2, y3, y4, y5, y6, y7, z1, z2, z3, z4]
      rw [e]
      exact this
  rw [if_neg (show ¬ x.ck.k = 7 from h7)] at hc
  by_cases h8 : x.k = 8 ∨ x.k = 11 ∨ x.k = 14
  · rw [if_pos (show x.ck.k = 8 ∨ x.ck.k = 11 ∨ x.ck.k = 14 from h8)] at hc
    obtain ⟨c1, _, _, _⟩ := chkN_ok hc
    have c1 := of_decide_eq_true c1
    obtain ⟨y0, y1, y2, y3, y4, y5, y6, y7, u1, u2, u3, u4⟩ : x.t = 0 ∧ x.st = 0 ∧ x.ss = 0 ∧ x.pp = 0 ∧ x.tg = 0 ∧ x.rm = 0 ∧ x.os = 0 ∧ x.is = 0 ∧ x.bN = 0 ∧ x.dN = 0 ∧ x.pN = 0 ∧ x.xN = 0 := c1
    have z1 : x.bD = [] := List.eq_nil_of_length_eq_zero (by omega)
    have z2 : x.dD = [] := List.eq_nil_of_length_eq_zero (by omega)
    have z3 : x.xZ = [] := List.eq_nil_of_length_eq_zero (by omega)
    have z4 : x.pD.map PqD.pm = [] := List.eq_nil_of_length_eq_zero (by omega)
    have eB : valB x.cd = [] := by unfold valB; rw [if_neg (show ¬ x.cd.kind = 0 from h0), if_neg (show ¬ (x.cd.kind = 1 ∨ x.cd.kind = 2) from h1), if_neg (show ¬ x.cd.kind = 3 from h3), if_neg (show ¬ (x.cd.kind = 4 ∨ x.cd.kind = 5 ∨ x.cd.kind = 6 ∨ x.cd.kind = 9) from h4), if_neg (show ¬ x.cd.kind = 7 from h7), if_pos (show x.cd.kind = 8 ∨ x.cd.kind = 11 ∨ x.cd.kind = 14 from h8)]
    have eV : valV x = .iface 100 (.agg #[]) := by unfold valV; rw [if_neg h0, if_neg h1, if_neg h3, if_neg h4, if_neg h7, if_pos h8]
    have eS : spcN x.cd = 4 := by unfold spcN; rw [eB]; rfl
    refine ⟨fun W => ?_, fun W hW => ?_, fun W q zs hq1 hq2 hW h4' hb => ?_, ?_, by omega⟩
    · rw [eV]
      exact valueOf_none x.k x.f x.t x.st x.ss x.pp x.tg x.rm x.os x.is x.bA x.bN x.bC x.dA x.dN x.dC x.pA x.pN x.pC x.xA x.xN x.xC W h8
    · rw [eS, eV]
      exact space_none W _ rfl
    · rw [eB]
      exact wchunk_none hq1 x.k x.f x.t x.st x.ss x.pp x.tg x.rm x.os x.is x.bA x.bN x.bC x.dA x.dN x.dC x.pA x.pN x.pC x.xA x.xN x.xC h8 g2 h4' (by omega)
    · rw [eB]
      have := CdB.none x.k x.f h8
      have e : x.cd = ⟨x.k, x.f, 0, 0, 0, 0, 0, 0, 0, 0, [], [], [], []⟩ := by unfold ChQ.cd; rw [y0, y1, y2, y3, y4, y5, y6, y7, z1, z2, z3, z4]
      rw [e]
      exact this
  rw [if_neg (show ¬ (x.ck.k = 8 ∨ x.ck.k = 11 ∨ x.ck.k = 14) from h8)] at hc
  obtain ⟨c1, _, _, c4⟩ := chkN_ok hc
  have c1 := of_decide_eq_true c1
  obtain ⟨y0, y1, y2, y3, y4, y5, y6, y7, u1, u2, u3⟩ : x.t = 0 ∧ x.st = 0 ∧ x.ss = 0 ∧ x.pp = 0 ∧ x.tg = 0 ∧ x.rm = 0 ∧ x.os = 0 ∧ x.is = 0 ∧ x.bN = 0 ∧ x.dN = 0 ∧ x.pN = 0 := c1
  have y9 : 4 + x.xN + padN x.xN ≤ 1468 := c4
  have hr : ¬ x.k = 0 ∧ ¬ x.k = 1 ∧ ¬ x.k = 2 ∧ ¬ x.k = 3 ∧ ¬ x.k = 4 ∧ ¬ x.k = 5 ∧ ¬ x.k = 6 ∧ ¬ x.k = 7 ∧ ¬ x.k = 8 ∧ ¬ x.k = 9 ∧ ¬ x.k = 11 ∧ ¬ x.k = 14 := by omega
  have z1 : x.bD = [] := List.eq_nil_of_length_eq_zero (by omega)
  have z2 : x.dD = [] := List.eq_nil_of_length_eq_zero (by omega)
  have z4 : x.pD.map PqD.pm = [] := List.eq_nil_of_length_eq_zero (by omega)
  have eB : valB x.cd = x.xZ := by unfold valB; rw [if_neg (show ¬ x.cd.kind = 0 from h0), if_neg (show ¬ (x.cd.kind = 1 ∨ x.cd.kind = 2) from h1), if_neg (show ¬ x.cd.kind = 3 from h3), if_neg (show ¬ (x.cd.kind = 4 ∨ x.cd.kind = 5 ∨ x.cd.kind = 6 ∨ x.cd.kind = 9) from h4), if_neg (show ¬ x.cd.kind = 7 from h7), if_neg (show ¬ (x.cd.kind = 8 ∨ x.cd.kind = 11 ∨ x.cd.kind = 14) from h8)]; rfl
  have eV : valV x = .iface 101 (.slice x.xA x.xN x.xC) := by unfold valV; rw [if_neg h0, if_neg h1, if_neg h3, if_neg h4, if_neg h7, if_neg h8]
  have eS : spcN x.cd = 4 + x.xN + padN x.xN := by unfold spcN; rw [eB, lx]
  refine ⟨fun W => ?_, fun W hW => ?_, fun W q zs hq1 hq2 hW h4' hb => ?_, ?_, by omega⟩
  · rw [eV]
    exact valueOf_raw x.k x.f x.t x.st x.ss x.pp x.tg x.rm x.os x.is x.bA x.bN x.bC x.dA x.dN x.dC x.pA x.pN x.pC x.xA x.xN x.xC W hr
  · rw [eS, eV]
    exact space_raw _ _ _ W g14.small _ rfl
  · rw [eB]
    exact wchunk_raw hq1 x.k x.f x.t x.st x.ss x.pp x.tg x.rm x.os x.is x.bA x.bN x.bC x.dA x.dN x.dC x.pA x.pN x.pC x.xA x.xN x.xC hr w g14 hW hq2 g1 g2 h4' (by omega) (by omega)
  · rw [eB]
    have := CdB.raw x.k x.f x.xZ hr (by omega)
    have e : x.cd = ⟨x.k, x.f, 0, 0, 0, 0, 0, 0, 0, 0, [], [], [], x.xZ⟩ := by unfold ChQ.cd; rw [y0, y1, y2, y3, y4, y5, y6, y7, z1, z2, z4]
    rw [e]
    exact this
theorem size_one {w : World} {x : ChQ} (h : x.Wf w) (hc : chkOf x.ck = 0) : Calls Tryd.prog 16 #[.agg x.vals.toArray] w fun e w' => e = .returned (.int .i64 (spcN x.cd : Nat)) ∧ Below w.heap.size w w' := by
  have o := one_any h hc
  exact sizeC_ok _ _ _ _ _ _ _ _ _ _ _ _ _ _ (valV x) (spcN x.cd) w (fun W v hv hb => by
    have k := check_all x.ck W ((ChQ.ckW h).below hb) v hv
    rw [hc] at k
    exact k) (fun W v hv => by rw [hv]; exact o.vl W) (fun W v hv hb => by rw [hv]; exact o.sp W hb)
end Go.Proofs.YtlgfbcfogcmdbaaDoor
namespace Go.Proofs.YtlgfbcfogcmdbaaDoor
open Go.RowKit
theorem PmR.below {w w' : World} {a : Option Addr} {n c : Nat} {ps : List Pm} (h : PmR w a n c ps) (hb : Below w.heap.size w w') : PmR w' a n c ps := by
  refine ⟨h.len, h.cap, h.small, ?_⟩
  rcases h.at_ with h0 | ⟨b, off, rfl, hlt, hc⟩
  · exact .inl h0
  · refine .inr ⟨b, off, rfl, Nat.lt_of_lt_of_le hlt hb.size, fun i p hp => ?_⟩
    obtain ⟨h1, va, vc, h2, h3, h4⟩ := hc i p hp
    exact ⟨h1, va, vc, (hb.cell (p := ⟨b, off + i * 2, none⟩) hlt).trans h2, (hb.cell (p := ⟨b, off + i * 2 + 1, none⟩) hlt).trans h3, h4.below hb⟩
/-- A chunk's cells, and its rows. -/
structure ChL (w : World) (c : CD) (cs : List Value) : Prop where
  ex : ∃ b1 b3 d1 d3 p1 p3 x1 x3, cs = [.int .u8 (c.kind : Nat), .int .u8 (c.flags : Nat), .int .u32 (c.tsn : Nat), .int .u16 (c.stream : Nat), .int .u16 (c.ssn : Nat), .int .u32 (c.ppid : Nat), .int .u32 (c.tag : Nat), .int .u32 (c.room : Nat), .int .u16 (c.outs : Nat), .int .u16 (c.ins : Nat), .slice b1 c.bs.length b3, .slice d1 c.ds.length d3, .slice p1 c.ps.length p3, .slice x1 c.xs.length x3] ∧
    BkR w b1 c.bs.length b3 c.bs ∧ SlDu w d1 c.ds.length d3 c.ds ∧ PmR w p1 c.ps.length p3 c.ps ∧ Sl w x1 c.xs.length x3 c.xs
theorem ChL.below {w w' : World} {c : CD} {cs : List Value} (h : ChL w c cs) (hb : Below w.heap.size w w') : ChL w' c cs := by
  obtain ⟨b1, b3, d1, d3, p1, p3, x1, x3, e, h1, h2, h3, h4⟩ := h.ex
  exact ⟨b1, b3, d1, d3, p1, p3, x1, x3, e, h1.below hb, h2.below hb, h3.below hb, h4.below hb⟩
theorem ChL.c14 {w : World} {c : CD} {cs : List Value} (h : ChL w c cs) : cs.length = 14 ∧ ∀ u ∈ cs, u.oneCell' = true := by
  obtain ⟨b1, b3, d1, d3, p1, p3, x1, x3, rfl, _⟩ := h.ex
  refine ⟨rfl, fun u hu => ?_⟩
  simp only [List.mem_cons, List.not_mem_nil, or_false] at hu
  rcases hu with rfl | rfl | rfl | rfl | rfl | rfl | rfl | rfl | rfl | rfl | rfl | rfl | rfl | rfl <;> rfl
theorem ChQ.chL {w : World} {x : ChQ} (h : x.Wf w) : ChL w x.cd x.vals := by
  have hw := h
  unfold ChQ.Wf at hw
  obtain ⟨_, _, _, _, _, _, _, _, _, _, g11, g12, g13, g14, _⟩ := hw
  have gP := g13.pmR
  have e1 : x.cd.bs.length = x.bN := g11.len
  have e2 : x.cd.ds.length = x.dN := SlK.len g12
  have e3 : x.cd.ps.length = x.pN := gP.len
  have e4 : x.cd.xs.length = x.xN := g14.len
  refine ⟨x.bA, x.bC, x.dA, x.dC, x.pA, x.pC, x.xA, x.xC, ?_, ?_, ?_, ?_, ?_⟩
  · rw [e1, e2, e3, e4]; rfl
  · rw [e1]; exact g11
  · rw [e2]; exact g12
  · rw [e3]; exact gP
  · rw [e4]; exact g14
/-- Numbers of a chunk that Take may answer. -/
theorem CdB.bnd {c : CD} {vz : List Nat} (h : CdB c vz) : (c.bs.length ≤ 16 ∧ ∀ p ∈ c.bs, p.1 < 65536 ∧ p.2 < 65536) ∧ (c.ds.length ≤ 16 ∧ ∀ d ∈ c.ds, d < 4294967296) ∧ (c.ps.length ≤ 16 ∧ ∀ p ∈ c.ps, p.k < 65536 ∧ p.zs.length ≤ 2000) ∧ c.xs.length ≤ 60000 := by
  have n1 : ([] : List (Nat × Nat)).length ≤ 16 ∧ ∀ p ∈ ([] : List (Nat × Nat)), p.1 < 65536 ∧ p.2 < 65536 := ⟨by simp, fun p hp => (by cases hp)⟩
  have n2 : ([] : List Nat).length ≤ 16 ∧ ∀ d ∈ ([] : List Nat), d < 4294967296 := ⟨by simp, fun p hp => (by cases hp)⟩
  have n3 : ([] : List Pm).length ≤ 16 ∧ ∀ p ∈ ([] : List Pm), p.k < 65536 ∧ p.zs.length ≤ 2000 := ⟨by simp, fun p hp => (by cases hp)⟩
  have n4 : ([] : List Nat).length ≤ 60000 := by simp
  cases h with
  | data flags tsn stream ssn ppid xs h1 h2 h3 h4 hx hb => exact ⟨n1, n2, n3, hb⟩
  | init kind flags tsn tag room outs ins ps hk h1 h2 h3 h4 h5 h16 hpk => exact ⟨n1, n2, ⟨h16, hpk⟩, n4⟩
  | sack flags tsn room bs ds h1 h2 hbn hdn hbb hdb => exact ⟨⟨hbn, hbb⟩, ⟨hdn, hdb⟩, n3, n4⟩
  | prms kind flags ps hk h16 hpk => exact ⟨n1, n2, ⟨h16, hpk⟩, n4⟩
  | tsnv flags tsn h1 => exact ⟨n1, n2, n3, n4⟩
  | none kind flags hk => exact ⟨n1, n2, n3, n4⟩
  | raw kind flags xs hk hb => exact ⟨n1, n2, n3, hb⟩
theorem ownK_bkR {w : World} {B : Nat} {a : Option Addr} {n c : Nat} {bs : List (Nat × Nat)} (h : OwnK w B a n c bs) (hn : n ≤ 1000) (hb : ∀ p ∈ bs, p.1 < 65536 ∧ p.2 < 65536) : BkR w a n c bs := by
  have hl := h.len
  refine ⟨hl, (OwnG.cap h).1, by omega, ?_⟩
  by_cases h0 : n = 0
  · exact .inl h0
  · obtain ⟨g, rfl, _, hg, _, _, hcl, _⟩ := OwnG.at_ h (fun _ => rfl) (by omega)
    refine .inr ⟨g, 0, rfl, hg, fun i p hp => ?_⟩
    have hm := hb p (List.mem_of_getElem? hp)
    have k0 := hcl i p hp 0 _ rfl
    have k1 := hcl i p hp 1 _ rfl
    exact ⟨hm.1, hm.2, by simpa using k0, by simpa using k1⟩
theorem ownD_slDu {w : World} {B : Nat} {a : Option Addr} {n c : Nat} {ds : List Nat} (h : OwnD w B a n c ds) (hn : n ≤ 1000) (hb : ∀ d ∈ ds, d < 4294967296) : SlDu w a n c ds := by
  have hl := h.len
  have hc := OwnG.cap h
  refine ⟨hl, hc.1, hc.2, by omega, fun e => ?_, fun i => ?_, ?_⟩
  · subst e
    rcases h.own.2 with ⟨hv, _⟩ | ⟨g, cap, cur, hv, _⟩
    · injection hv
    · injection hv with e1
      cases e1
  · rw [List.getD_eq_getElem?_getD]
    cases hx : ds[i]? with
    | none => simp
    | some d => exact hb d (List.mem_of_getElem? hx)
  · by_cases h0 : n = 0
    · exact .inl h0
    · obtain ⟨g, rfl, _, hg, _, _, hcl, _⟩ := OwnG.at_ h (fun _ => rfl) (by omega)
      refine .inr ⟨g, 0, rfl, hg, fun i hi => ?_⟩
      have hx : ds[i]? = some (ds.getD i 0) := by rw [List.getD_eq_getElem?_getD, List.getElem?_eq_getElem (by omega)]; rfl
      have k0 := hcl i _ hx 0 _ rfl
      simpa using k0
theorem pmO_pmR {w : World} {B : Nat} {a : Option Addr} {n c : Nat} {ps : List Pm} (h : PmO w B a n c ps) (hn : n ≤ 1000) (hb : ∀ p ∈ ps, p.k < 65536 ∧ p.zs.length ≤ 2000) : PmR w a n c ps := by
  obtain ⟨xs, rfl, h2, h3⟩ := h.ex
  have hl := h2.len
  refine ⟨by rw [List.length_map]; exact hl, (OwnG.cap h2).1, by omega, ?_⟩
  by_cases h0 : n = 0
  · exact .inl h0
  · obtain ⟨g, rfl, _, hg, _, _, hcl, _⟩ := OwnG.at_ h2 (fun _ => rfl) (by omega)
    refine .inr ⟨g, 0, rfl, hg, fun i p hp => ?_⟩
    rw [List.getElem?_map] at hp
    cases hx : xs[i]? with
    | none => rw [hx] at hp; cases hp
    | some x =>
      rw [hx] at hp
      obtain rfl : x.1 = p := Option.some.inj hp
      have hm := hb x.1 (List.mem_map.2 ⟨x, List.mem_of_getElem? hx, rfl⟩)
      have k0 := hcl i x hx 0 _ rfl
      have k1 := hcl i x hx 1 _ rfl
      exact ⟨hm.1, x.2.1, x.2.2, by simpa using k0, by simpa using k1, (h3 x (List.mem_of_getElem? hx)).sl (by omega)⟩
theorem ChO.chL {V : World} {B : Nat} {c : CD} {cs : List Value} {vz : List Nat} (h : ChO V B c cs) (hc : CdB c vz) : ChL V c cs := by
  obtain ⟨b1, b3, d1, d3, p1, p3, x1, x3, e, h1, h2, h3, h4⟩ := h.ex
  obtain ⟨⟨k1, k2⟩, ⟨k3, k4⟩, ⟨k5, k6⟩, k7⟩ := hc.bnd
  exact ⟨b1, b3, d1, d3, p1, p3, x1, x3, e, ownK_bkR h1 (by omega) k2, ownD_slDu h2 (by omega) k4, pmO_pmR h3 (by omega) k6, h4.sl (by omega)⟩
/-- A row of chunks. -/
structure ChsL (w : World) (a : Option Addr) (n c : Nat) (cds : List CD) : Prop where
  len : cds.length = n
  cap : n ≤ c
  small : n ≤ 281474976710656
  at_ : n = 0 ∨ ∃ b off, a = some ⟨b, off, none⟩ ∧ b < w.heap.size ∧ ∀ i d, cds[i]? = some d → ∃ cs, ChL w d cs ∧ w.rangeAt b (off + i * 14) cs
theorem ChsL.below {w w' : World} {a : Option Addr} {n c : Nat} {cds : List CD} (h : ChsL w a n c cds) (hb : Below w.heap.size w w') : ChsL w' a n c cds := by
  refine ⟨h.len, h.cap, h.small, ?_⟩
  rcases h.at_ with h0 | ⟨b, off, rfl, hlt, hc⟩
  · exact .inl h0
  · refine .inr ⟨b, off, rfl, Nat.lt_of_lt_of_le hlt hb.size, fun i d hd => ?_⟩
    obtain ⟨cs, h1, h2⟩ := hc i d hd
    exact ⟨cs, h1.below hb, fun j u hu => (hb.cell (p := ⟨b, off + i * 14 + j, none⟩) hlt).trans (h2 j u hu)⟩
theorem SlCq.chsL {w : World} {a : Option Addr} {n c : Nat} {dd : List ChQ} (h : SlCq w a n c dd) : ChsL w a n c (dd.map ChQ.cd) := by
  refine ⟨by rw [List.length_map]; exact h.len, h.cap, h.small, ?_⟩
  rcases h.at_ with h0 | ⟨b, off, rfl, hlt, hc⟩
  · exact .inl h0
  · refine .inr ⟨b, off, rfl, hlt, fun i d hd => ?_⟩
    rw [List.getElem?_map] at hd
    cases hx : dd[i]? with
    | none => rw [hx] at hd; cases hd
    | some x =>
      rw [hx] at hd
      obtain rfl : x.cd = d := Option.some.inj hd
      exact ⟨x.vals, ChQ.chL (h.wf x (List.mem_of_getElem? hx)), fun j u hu => hc i x hx j u hu⟩
theorem ChsO.chsL {V : World} {B : Nat} {la : Option Addr} {n lc : Nat} {cds : List CD} (h : ChsO V B la n lc cds) (hn : n ≤ 1000) (hc : ∀ d ∈ cds, ∃ vz, CdB d vz) : ChsL V la n lc cds := by
  obtain ⟨xs, h1, h2, h3⟩ := h.ex
  have hl := h2.len
  refine ⟨by omega, (OwnG.cap h2).1, by omega, ?_⟩
  by_cases h0 : n = 0
  · exact .inl h0
  · obtain ⟨g, rfl, _, hg, _, _, hcl, _⟩ := OwnG.at_ h2 (fun x => x.2.1) (by omega)
    refine .inr ⟨g, 0, rfl, hg, fun i d hd => ?_⟩
    have hi := (List.getElem?_eq_some_iff.1 hd).1
    obtain ⟨x, hx⟩ : ∃ x, xs[i]? = some x := ⟨_, List.getElem?_eq_getElem (by omega)⟩
    obtain ⟨vz, hv⟩ := hc d (List.mem_of_getElem? hd)
    refine ⟨x.1, (h3 i d x hd hx).chL hv, fun j u hu => ?_⟩
    have := hcl i x hx j u hu
    rw [Nat.zero_add]
    exact this
end Go.Proofs.YtlgfbcfogcmdbaaDoor
namespace Go.Proofs.YtlgfbcfogcmdbaaDoor
open Go.RowKit
theorem OwnG.appN {α : Type} {P : Program} {S T : TypeId} {k bytes : Nat} {cf : α → List Value} {w : World} {B : Nat} {a : Option Addr} {n c : Nat} {ps : List α} (L : Lays P S T k bytes cf) (h : OwnG T k cf w B a n c ps) (ty : TypeId) (qs : List α) (ad : Addr) (m c2 : Nat) (hm : qs.length = m) (hc : ∀ j u, (valsG cf qs)[j]? = some u → w.cell? (ad.add j) = some u) (hm1 : 0 < m) (h63 : n + m ≤ maxLen) (hb : (n + m) * bytes ≤ 140737488355328) (hB : B ≤ w.heap.size) :
    ∃ g c' w', (Builtin.append_ #[S, S] ty #[.slice a n c, .slice (some ad) m c2]).run P w = .ok (.slice (some ⟨g, 0, none⟩) (n + m) c') w' ∧ OwnG T k cf w' B (some ⟨g, 0, none⟩) (n + m) c' (ps ++ qs) ∧ w.grownBy w' (Value.slice a n c).ownBlock ∧
      ((Value.slice a n c).ownBlock = some g ∨ g = w.heap.size) ∧ g < w'.heap.size := by
  obtain ⟨z, hinfo, hzs⟩ := L.info
  obtain ⟨i, hi, hz0, hz1, hz2⟩ := info_parts hinfo
  obtain ⟨g, cap, w', hr, hown, hg, hl, hlt⟩ := run_append_lies (P := P) w S ty B T i z k bytes L.under hi hz0 hz1 hz2 hzs L.pos (.slice a n c) n (valsG cf ps) h.own ad m c2 (valsG cf qs) (by rw [valsG_len L.len, hm]) hc (valsG_one L.one qs) hm1 h63 hb hB w.heap.size rfl
  refine ⟨g, cap, w', hr, ⟨by simp [h.len, hm], ?_⟩, hg, hl, hlt⟩
  rw [valsG_app]
  exact hown
theorem addr_add (g o j : Nat) : (⟨g, o, none⟩ : Addr).add j = ⟨g, o + j, none⟩ := by
  unfold Addr.add
  split
  · subst_vars; rfl
  · rfl
/-- A row of structs, flattened: where cell j stands. -/
theorem valsG_inv {α : Type} {cf : α → List Value} {k : Nat} (hk : ∀ x, (cf x).length = k) (hk0 : 0 < k) (ps : List α) {j : Nat} {u : Value} (h : (valsG cf ps)[j]? = some u) : ∃ x, ps[j / k]? = some x ∧ (cf x)[j % k]? = some u := by
  have hl := (List.getElem?_eq_some_iff.1 h).1
  rw [valsG_len hk] at hl
  have hj : j / k < ps.length := by rwa [Nat.div_lt_iff_lt_mul hk0]
  refine ⟨ps[j / k], List.getElem?_eq_getElem hj, ?_⟩
  have hm : j % k < (cf ps[j / k]).length := by rw [hk]; exact Nat.mod_lt _ hk0
  have := valsG_at hk ps (j / k) _ (List.getElem?_eq_getElem hj) (j % k) _ (List.getElem?_eq_getElem hm)
  rw [Nat.mul_comm, Nat.div_add_mod] at this
  rw [h] at this
  rw [List.getElem?_eq_getElem hm, ← this]
/-- append of a row that lies somewhere to an empty one of the call's own; its run. -/
theorem appN_run {α : Type} {S T : TypeId} {k bytes : Nat} {cf : α → List Value} (L : Lays Tryd.prog S T k bytes cf) {w : World} {B : Nat} {a : Option Addr} {c : Nat} (h : OwnG T k cf w B a 0 c []) (ty : TypeId) {sa : Option Addr} {m sc : Nat} {qs : List α} (hm : qs.length = m)
    (hat : (sa = none ∧ m = 0) ∨ (0 < m ∧ ∃ b off, sa = some ⟨b, off, none⟩ ∧ ∀ j x, qs[j]? = some x → ∀ i u, (cf x)[i]? = some u → w.cell? ⟨b, off + j * k + i, none⟩ = some u) ∨ (m = 0 ∧ ∃ p, sa = some p)) (hb : m * bytes ≤ 140737488355328) (h63 : m ≤ maxLen) (hB : B ≤ w.heap.size) :
    ∃ a' c' w', (Builtin.append_ #[S, S] ty #[.slice a 0 c, .slice sa m sc]).run Tryd.prog w = .ok (.slice a' m c') w' ∧ OwnG T k cf w' B a' m c' qs ∧ w.grownBy w' (Value.slice a 0 c).ownBlock := by
  obtain ⟨z, hinfo, hzs⟩ := L.info
  obtain ⟨i0, hi0, hz0, hz1, hz2⟩ := info_parts hinfo
  rcases hat with ⟨rfl, rfl⟩ | ⟨hm0, b, off, rfl, hc⟩ | ⟨rfl, p, rfl⟩
  · obtain rfl : qs = [] := List.eq_nil_of_length_eq_zero hm
    exact ⟨a, c, w, run_append_owned_none (P := Tryd.prog) (w := w) B S ty T i0 k L.under hi0 (.slice a 0 c) 0 (valsG cf []) h.own, h, World.grownBy.refl w _⟩
  · obtain ⟨g, c', w', hr, ho, hg, _⟩ := h.appN L ty qs ⟨b, off, none⟩ m sc hm (fun j u hu => by
      obtain ⟨x, hx, hu2⟩ := valsG_inv L.len L.pos qs hu
      have := hc _ x hx _ u hu2
      rw [Nat.add_assoc, Nat.mul_comm, Nat.div_add_mod] at this
      rw [addr_add]
      exact this) hm0 (by omega) (by rw [Nat.zero_add]; exact hb) hB
    rw [Nat.zero_add] at hr ho
    exact ⟨_, c', w', hr, by simpa using ho, hg⟩
  · obtain rfl : qs = [] := List.eq_nil_of_length_eq_zero hm
    obtain ⟨v', w', hr, hown, hg, _⟩ := run_append_own (P := Tryd.prog) w B S ty T i0 z k bytes L.under hi0 hz0 hz1 hz2 hzs L.pos (.slice a 0 c) 0 (valsG cf []) h.own p 0 sc [] (by simp) (fun j u hj => by simp at hj) (fun u hu => by simp at hu) (by unfold maxLen; omega) (by omega) hB
    have hex : ∃ a' c', v' = .slice a' 0 c' := by
      rcases hown.2 with ⟨rfl, e⟩ | ⟨g, cap, cur, rfl, _⟩
      · exact ⟨none, 0, rfl⟩
      · exact ⟨_, _, rfl⟩
    obtain ⟨a', c', rfl⟩ := hex
    exact ⟨a', c', w', hr, ⟨rfl, by simpa [valsG] using hown⟩, hg⟩
/-- Bounds of what a chunk that was handed in holds. -/
def BndW (c : CD) : Prop := c.bs.length ≤ 35184372088832 ∧ (∀ p ∈ c.bs, p.1 < 65536 ∧ p.2 < 65536) ∧ c.ds.length ≤ 35184372088832 ∧ (∀ d ∈ c.ds, d < 4294967296) ∧ c.ps.length ≤ 4398046511104 ∧ (∀ p ∈ c.ps, p.k < 65536 ∧ p.zs.length ≤ 140737488351232) ∧ c.xs.length ≤ 140737488351232
theorem ownK_bkRW {w : World} {B : Nat} {a : Option Addr} {n c : Nat} {bs : List (Nat × Nat)} (h : OwnK w B a n c bs) (hn : n ≤ 35184372088832) (hb : ∀ p ∈ bs, p.1 < 65536 ∧ p.2 < 65536) : BkR w a n c bs := by
  have hl := h.len
  refine ⟨hl, (OwnG.cap h).1, by omega, ?_⟩
  by_cases h0 : n = 0
  · exact .inl h0
  · obtain ⟨g, rfl, _, hg, _, _, hcl, _⟩ := OwnG.at_ h (fun _ => rfl) (by omega)
    refine .inr ⟨g, 0, rfl, hg, fun i p hp => ?_⟩
    have hm := hb p (List.mem_of_getElem? hp)
    have k0 := hcl i p hp 0 _ rfl
    have k1 := hcl i p hp 1 _ rfl
    exact ⟨hm.1, hm.2, by simpa using k0, by simpa using k1⟩
theorem ownD_slDuW {w : World} {B : Nat} {a : Option Addr} {n c : Nat} {ds : List Nat} (h : OwnD w B a n c ds) (hn : n ≤ 35184372088832) (hb : ∀ d ∈ ds, d < 4294967296) : SlDu w a n c ds := by
  have hl := h.len
  have hc := OwnG.cap h
  refine ⟨hl, hc.1, hc.2, by omega, fun e => ?_, fun i => ?_, ?_⟩
  · subst e
    rcases h.own.2 with ⟨hv, _⟩ | ⟨g, cap, cur, hv, _⟩
    · injection hv
    · injection hv with e1
      cases e1
  · rw [List.getD_eq_getElem?_getD]
    cases hx : ds[i]? with
    | none => simp
    | some d => exact hb d (List.mem_of_getElem? hx)
  · by_cases h0 : n = 0
    · exact .inl h0
    · obtain ⟨g, rfl, _, hg, _, _, hcl, _⟩ := OwnG.at_ h (fun _ => rfl) (by omega)
      refine .inr ⟨g, 0, rfl, hg, fun i hi => ?_⟩
      have hx : ds[i]? = some (ds.getD i 0) := by rw [List.getD_eq_getElem?_getD, List.getElem?_eq_getElem (by omega)]; rfl
      have k0 := hcl i _ hx 0 _ rfl
      simpa using k0
theorem pmO_pmRW {w : World} {B : Nat} {a : Option Addr} {n c : Nat} {ps : List Pm} (h : PmO w B a n c ps) (hn : n ≤ 4398046511104) (hb : ∀ p ∈ ps, p.k < 65536 ∧ p.zs.length ≤ 140737488351232) : PmR w a n c ps := by
  obtain ⟨xs, rfl, h2, h3⟩ := h.ex
  have hl := h2.len
  refine ⟨by rw [List.length_map]; exact hl, (OwnG.cap h2).1, by omega, ?_⟩
  by_cases h0 : n = 0
  · exact .inl h0
  · obtain ⟨g, rfl, _, hg, _, _, hcl, _⟩ := OwnG.at_ h2 (fun _ => rfl) (by omega)
    refine .inr ⟨g, 0, rfl, hg, fun i p hp => ?_⟩
    rw [List.getElem?_map] at hp
    cases hx : xs[i]? with
    | none => rw [hx] at hp; cases hp
    | some x =>
      rw [hx] at hp
      obtain rfl : x.1 = p := Option.some.inj hp
      have hm := hb x.1 (List.mem_map.2 ⟨x, List.mem_of_getElem? hx, rfl⟩)
      have k0 := hcl i x hx 0 _ rfl
      have k1 := hcl i x hx 1 _ rfl
      exact ⟨hm.1, x.2.1, x.2.2, by simpa using k0, by simpa using k1, (h3 x (List.mem_of_getElem? hx)).sl (by omega)⟩
theorem ChO.chLW {V : World} {B : Nat} {c : CD} {cs : List Value} (h : ChO V B c cs) (hc : BndW c) : ChL V c cs := by
  obtain ⟨b1, b3, d1, d3, p1, p3, x1, x3, e, h1, h2, h3, h4⟩ := h.ex
  obtain ⟨k1, k2, k3, k4, k5, k6, k7⟩ := hc
  exact ⟨b1, b3, d1, d3, p1, p3, x1, x3, e, ownK_bkRW h1 k1 k2, ownD_slDuW h2 k3 k4, pmO_pmRW h3 k5 k6, h4.sl (by omega)⟩
theorem ChsO.chsLW {V : World} {B : Nat} {la : Option Addr} {n lc : Nat} {cds : List CD} (h : ChsO V B la n lc cds) (hn : n ≤ 1099511627776) (hc : ∀ d ∈ cds, BndW d) : ChsL V la n lc cds := by
  obtain ⟨xs, h1, h2, h3⟩ := h.ex
  have hl := h2.len
  refine ⟨by omega, (OwnG.cap h2).1, by omega, ?_⟩
  by_cases h0 : n = 0
  · exact .inl h0
  · obtain ⟨g, rfl, _, hg, _, _, hcl, _⟩ := OwnG.at_ h2 (fun x => x.2.1) (by omega)
    refine .inr ⟨g, 0, rfl, hg, fun i d hd => ?_⟩
    have hi := (List.getElem?_eq_some_iff.1 hd).1
    obtain ⟨x, hx⟩ : ∃ x, xs[i]? = some x := ⟨_, List.getElem?_eq_getElem (by omega)⟩
    refine ⟨x.1, (h3 i d x hd hx).chLW (hc d (List.mem_of_getElem? hd)), fun j u hu => ?_⟩
    have := hcl i x hx j u hu
    rw [Nat.zero_add]
    exact this
theorem ChQ.bndW {w : World} {x : ChQ} (h : x.Wf w) : BndW x.cd := by
  have hL := ChQ.chL h
  unfold ChQ.Wf at h
  obtain ⟨_, _, _, _, _, _, _, _, _, _, g11, g12, g13, g14⟩ := h
  have e1 : x.bD.length = x.bN := g11.len
  have e2 : x.dD.length = x.dN := SlK.len g12
  have e3 : x.pD.length = x.pN := g13.len
  have e4 : x.xZ.length = x.xN := g14.1.len
  refine ⟨?_, ?_, ?_, ?_, ?_, ?_, ?_⟩
  · show x.bD.length ≤ _
    have := g11.less
    omega
  · show ∀ p ∈ x.bD, _
    intro p hp
    obtain ⟨i, hi⟩ := List.getElem?_of_mem hp
    have hlt := (List.getElem?_eq_some_iff.1 hi).1
    obtain ⟨b, off, _, _, hc⟩ := g11.at_.resolve_left (by omega)
    exact ⟨(hc i p hi).1, (hc i p hi).2.1⟩
  · show x.dD.length ≤ _
    have := g14.2.2
    omega
  · show ∀ d ∈ x.dD, _
    intro d hd
    obtain ⟨i, hi⟩ := List.getElem?_of_mem hd
    have := SlK.bnd g12 i
    rw [List.getD_eq_getElem?_getD, hi] at this
    exact this
  · show (x.pD.map PqD.pm).length ≤ _
    rw [List.length_map]
    have := g13.less
    omega
  · show ∀ p ∈ x.pD.map PqD.pm, _
    intro p hp
    obtain ⟨y, hy, rfl⟩ := List.mem_map.1 hp
    have hw := g13.wf y hy
    unfold PqD.Wf at hw
    refine ⟨hw.1, ?_⟩
    show y.dataZ.length ≤ _
    rw [hw.2.1.len]
    exact hw.2.2
  · show x.xZ.length ≤ _
    have := g14.2.1
    omega

theorem own_emptyG {α : Type} (T : TypeId) (k : Nat) (cf : α → List Value) (w : World) : OwnG T k cf (w.alloc (.cells #[] T)) w.heap.size (some ⟨w.heap.size, 0, none⟩) 0 0 [] := by
  refine ⟨rfl, ⟨by simp [valsG], .inr ⟨w.heap.size, 0, #[], rfl, Nat.le_refl _, ?_, Nat.le_refl _, by unfold maxLen; omega, by simp, by simp [valsG]⟩⟩⟩
  show (w.heap.push _)[w.heap.size]? = _
  simp
/-- append([]T{}, row...): where the row lies behind it. -/
theorem cp_step {α : Type} {S T : TypeId} {k bytes : Nat} {cf : α → List Value} (L : Lays Tryd.prog S T k bytes cf) (V : World) (ty : TypeId) {sa : Option Addr} {m sc : Nat} {qs : List α} (hm : qs.length = m)
    (hat : (sa = none ∧ m = 0) ∨ (0 < m ∧ ∃ b off, sa = some ⟨b, off, none⟩ ∧ b < V.heap.size ∧ ∀ j x, qs[j]? = some x → ∀ i u, (cf x)[i]? = some u → V.cell? ⟨b, off + j * k + i, none⟩ = some u) ∨ (m = 0 ∧ ∃ p, sa = some p)) (hb : m * bytes ≤ 140737488355328) (h63 : m ≤ maxLen) :
    ∃ a' c' w', (Builtin.append_ #[S, S] ty #[.slice (some ⟨V.heap.size, 0, none⟩) 0 0, .slice sa m sc]).run Tryd.prog (V.alloc (.cells #[] T)) = .ok (.slice a' m c') w' ∧ OwnG T k cf w' V.heap.size a' m c' qs ∧ Below V.heap.size V w' := by
  have b0 : Below V.heap.size V (V.alloc (.cells #[] T)) := (Below.refl _ _).alloc (Nat.le_refl _) _
  obtain ⟨a', c', w', hr, ho, hg⟩ := appN_run L (own_emptyG T k cf V) ty hm (by
    rcases hat with h | ⟨h0, b, off, e, hl, hc⟩ | h
    · exact .inl h
    · exact .inr (.inl ⟨h0, b, off, e, fun j x hx i u hu => (b0.cell (p := ⟨b, off + j * k + i, none⟩) hl).trans (hc j x hx i u hu)⟩)
    · exact .inr (.inr h)) (sc := sc) hb h63 b0.size
  exact ⟨a', c', w', hr, ho, b0.grown hg b0.size (fun k hk => by
    obtain rfl : V.heap.size = k := Option.some.inj hk
    exact Nat.le_refl _)⟩
theorem cp_bytes (V : World) (ty : TypeId) {sa : Option Addr} {m sc : Nat} {ys : List Nat} (hs : Sl V sa m sc ys) (hb : m ≤ 140737488355328) :
    ∃ a' c' w', (Builtin.append_ #[30, 30] ty #[.slice (some ⟨V.heap.size, 0, none⟩) 0 0, .slice sa m sc]).run Tryd.prog (V.alloc (.cells #[] 5)) = .ok (.slice a' m c') w' ∧ OwnB w' V.heap.size a' m c' ys ∧ Below V.heap.size V w' := by
  have b0 : Below V.heap.size V (V.alloc (.cells #[] 5)) := (Below.refl _ _).alloc (Nat.le_refl _) _
  obtain ⟨a', c', w', hr, ho, hg, _⟩ := app_run (V.alloc (.cells #[] 5)) ty V.heap.size (some ⟨V.heap.size, 0, none⟩) 0 0 [] (own_empty V) sa m sc ys (hs.below b0) (by omega) b0.size
  rw [Nat.zero_add] at hr ho
  exact ⟨a', c', w', hr, by simpa using ho, b0.grown hg b0.size (fun k hk => by
    obtain rfl : V.heap.size = k := Option.some.inj hk
    exact Nat.le_refl _)⟩
theorem BkR.srcK {w : World} {a : Option Addr} {n c : Nat} {bs : List (Nat × Nat)} (h : BkR w a n c bs) : (a = none ∧ n = 0) ∨ (0 < n ∧ ∃ b off, a = some ⟨b, off, none⟩ ∧ b < w.heap.size ∧ ∀ j x, bs[j]? = some x → ∀ i u, (bkV x)[i]? = some u → w.cell? ⟨b, off + j * 2 + i, none⟩ = some u) ∨ (n = 0 ∧ ∃ p, a = some p) := by
  by_cases h0 : n = 0
  · cases a with
    | none => exact .inl ⟨rfl, h0⟩
    | some p => exact .inr (.inr ⟨h0, p, rfl⟩)
  · obtain ⟨b, off, e, hl, hc⟩ := h.at_.resolve_left h0
    refine .inr (.inl ⟨by omega, b, off, e, hl, fun j x hx i u hu => ?_⟩)
    obtain ⟨_, _, c0, c1⟩ := hc j x hx
    have hi : i < 2 := (List.getElem?_eq_some_iff.1 hu).1
    obtain rfl | rfl : i = 0 ∨ i = 1 := by omega
    · injection hu with hu; subst hu; exact c0
    · injection hu with hu; subst hu; exact c1
theorem SlDu.srcD {w : World} {a : Option Addr} {n c : Nat} {ds : List Nat} (h : SlDu w a n c ds) : (a = none ∧ n = 0) ∨ (0 < n ∧ ∃ b off, a = some ⟨b, off, none⟩ ∧ b < w.heap.size ∧ ∀ j x, ds[j]? = some x → ∀ i u, (duV x)[i]? = some u → w.cell? ⟨b, off + j * 1 + i, none⟩ = some u) ∨ (n = 0 ∧ ∃ p, a = some p) := by
  by_cases h0 : n = 0
  · cases a with
    | none => exact .inl ⟨rfl, h0⟩
    | some p => exact .inr (.inr ⟨h0, p, rfl⟩)
  · obtain ⟨b, off, e, hl, hc⟩ := (SlK.at_ h).resolve_left h0
    refine .inr (.inl ⟨by omega, b, off, e, hl, fun j x hx i u hu => ?_⟩)
    have hi : i < 1 := (List.getElem?_eq_some_iff.1 hu).1
    obtain rfl : i = 0 := by omega
    injection hu with hu
    subst hu
    have hj := (List.getElem?_eq_some_iff.1 hx).1
    have := hc j (by have := SlK.len h; omega)
    rw [List.getD_eq_getElem?_getD, hx] at this
    rw [Nat.mul_one, Nat.add_zero]
    exact this
theorem PmO.appW {w : World} {B : Nat} {a : Option Addr} {n c : Nat} {ps : List Pm} (h : PmO w B a n c ps) {p : Pm} {ma : Option Addr} {mc : Nat} (hm : OwnB w B ma p.zs.length mc p.zs) (hB : B ≤ w.heap.size) (hn : n + 1 ≤ 4398046511104) :
    ∃ g c' w', (Builtin.append_ #[29, 29] 29 #[.slice a n c, .slice (some ⟨w.heap.size, 0, none⟩) 1 1]).run Tryd.prog (w.alloc (.cells #[.int .u16 (p.k : Nat), .slice ma p.zs.length mc] 34)) = .ok (.slice (some ⟨g, 0, none⟩) (n + 1) c') w' ∧ PmO w' B (some ⟨g, 0, none⟩) (n + 1) c' (ps ++ [p]) ∧ Fr (fun k => B ≤ k) w w' ∧ (∀ {a2 : Option Addr} {n2 c2 : Nat} {zs : List Nat}, OwnB w B a2 n2 c2 zs → OwnB w' B a2 n2 c2 zs) ∧
      (∀ {α : Type} {T : TypeId} {k : Nat} {cf : α → List Value} {a2 : Option Addr} {n2 c2 : Nat} {zs : List α}, T ≠ 34 → OwnG T k cf w B a2 n2 c2 zs → OwnG T k cf w' B a2 n2 c2 zs) := by
  obtain ⟨xs, h1, h2, h3⟩ := h.ex
  have b0 : Below w.heap.size w (w.alloc (.cells (Pq.v (p, ma, mc)).toArray 34)) := (Below.refl _ _).alloc (Nat.le_refl _) _
  have st2 := Stc.new w (Pq.v (p, ma, mc)) 34 _ rfl
  have h2a := OwnG.below h2 b0
  obtain ⟨g7, c7, w7, hr7, ho7, hgr7, hg7, hg7l⟩ := OwnG.app layPm h2a 29 (p, ma, mc) ⟨w.heap.size, 0, none⟩ (fun j u hj => by
    have := st2.cell j u hj
    unfold Addr.add
    split
    · rename_i e; subst e; exact this
    · simpa using this) (by unfold maxLen; omega) (by omega) (Nat.le_trans hB b0.size)
  have keep : ∀ {a2 : Option Addr} {n2 c2 : Nat} {zs : List Nat}, OwnB w B a2 n2 c2 zs → OwnB w7 B a2 n2 c2 zs := fun {a2 n2 c2 zs} hx => by
    have hx2 := hx.below b0
    refine hx2.kept hgr7 ?_
    cases e : (Value.slice a2 n2 c2).ownBlock with
    | none => exact .inl rfl
    | some g => exact .inr (fun e2 => ownB_apartP hx2 h2a g e (e2 ▸ rfl))
  refine ⟨g7, c7, w7, hr7, ⟨xs ++ [(p, ma, mc)], by rw [List.map_append, h1]; rfl, ho7, fun x hx => ?_⟩, (Fr.of_below b0).trans (Fr.grown hgr7 (fun k hk => (h2.own.lt k hk).1)), keep, fun {α T k cf a2 n2 c2 zs} hT hx => ?_⟩
  · rcases List.mem_append.1 hx with hx | hx
    · exact keep (h3 x hx)
    · simp at hx
      subst hx
      exact keep hm
  · have hx2 := OwnG.below hx b0
    exact OwnG.kept hx2 hgr7 (ownG_apart hT hx2 h2a)
theorem ChsO.appW {V : World} {B : Nat} {la : Option Addr} {n lc : Nat} {cds : List CD} (h : ChsO V B la n lc cds) {c : CD} {cs : List Value} (hc : ChO V B c cs) (hB : B ≤ V.heap.size) (hn : n + 1 ≤ 1099511627776) :
    ∃ g c' V', (Builtin.append_ #[26, 26] 26 #[.slice la n lc, .slice (some ⟨V.heap.size, 0, none⟩) 1 1]).run Tryd.prog (V.alloc (.cells cs.toArray 32)) = .ok (.slice (some ⟨g, 0, none⟩) (n + 1) c') V' ∧ ChsO V' B (some ⟨g, 0, none⟩) (n + 1) c' (cds ++ [c]) ∧ Fr (fun k => B ≤ k) V V' := by
  obtain ⟨xs, h1, h2, h3⟩ := h.ex
  have b0 : Below V.heap.size V (V.alloc (.cells cs.toArray 32)) := (Below.refl _ _).alloc (Nat.le_refl _) _
  have st2 := Stc.new V cs 32 _ rfl
  have h2a := OwnG.below h2 b0
  obtain ⟨g, c', V', hr, ho, hgr, hg, hgl⟩ := OwnG.app layR h2a 26 ⟨cs, hc.c14⟩ ⟨V.heap.size, 0, none⟩ (fun j u hj => by
    have := st2.cell j u hj
    unfold Addr.add
    split
    · rename_i e; subst e; exact this
    · simpa using this) (by unfold maxLen; omega) (by omega) (Nat.le_trans hB b0.size)
  refine ⟨g, c', V', hr, ⟨xs ++ [⟨cs, hc.c14⟩], by simp [h1], ho, fun i d x hd hx => ?_⟩, (Fr.of_below b0).trans (Fr.grown hgr (fun k hk => (h2.own.lt k hk).1))⟩
  rcases Nat.lt_or_ge i cds.length with hi | hi
  · rw [List.getElem?_append_left hi] at hd
    rw [List.getElem?_append_left (by omega)] at hx
    exact ((h3 i d x hd hx).below b0).kept h2a hgr
  · rw [List.getElem?_append_right hi] at hd
    rw [List.getElem?_append_right (by omega), h1] at hx
    obtain ⟨k, hk⟩ : ∃ k, i - cds.length = k := ⟨_, rfl⟩
    rw [hk] at hd hx
    cases k with
    | zero =>
      simp at hd hx
      subst hd hx
      exact (hc.below b0).kept h2a hgr
    | succ k => simp at hd
theorem app_eq_list {P : Program} {S : TypeId} {ops : Array Oper} {rest : List Oper} {o : Oper} {A : Act} {w w' : World} {Q : Exit → Act → World → Prop} {v u r : Value} {ty : TypeId} (hgd : Region.wanted o (yielded ops A.tmps) = true) (s x : Operand)
    (ho : o.op = .call { callee := .builtin .append, args := #[s, x], argTypes := #[S, S] }) (hty : o.type = ty) (hs : A.eval s = v) (hx : A.eval x = u)
    (hrun : (Builtin.append_ #[S, S] ty #[v, u]).run P w = .ok r w') (hK : wpList P ops Q rest (A.put o.dst r) w') : wpList P ops Q (o :: rest) A w :=
  wpList_step fun K hK' => by
    rw [if_pos hgd]
    subst hty
    have := hK' _ _ hK
    unfold Oper.wp
    simp [execOp, ho, resolve, invoke, builtin, hs, hx, hrun, Result.andThen]
    exact this
theorem ChQ.parts {w : World} {x : ChQ} (h : x.Wf w) : BkR w x.bA x.bN x.bC x.bD ∧ SlDu w x.dA x.dN x.dC x.dD ∧ SlPq w x.pA x.pN x.pC x.pD ∧ Sl w x.xA x.xN x.xC x.xZ ∧ x.bN ≤ 35184372088832 ∧ x.dN ≤ 35184372088832 ∧ x.pN ≤ 4398046511104 ∧ x.xN ≤ 140737488351232 := by
  unfold ChQ.Wf at h
  obtain ⟨_, _, _, _, _, _, _, _, _, _, g11, g12, g13, g14⟩ := h
  exact ⟨g11, g12, g13, g14.1, g11.less, g14.2.2, g13.less, g14.2.1⟩
/-- A row of bytes of the call's own stays one when a byte is stored anywhere. -/
theorem OwnB.poke {w : World} {B : Nat} {a : Option Addr} {n c : Nat} {zs : List Nat} (h : OwnB w B a n c zs) (b j x : Nat) (hx : x < 256) : ∃ ys, OwnB (w.setCell ⟨b, j, none⟩ (.int .u8 (x : Nat))) B a n c ys := by
  have h0 := h
  obtain ⟨h1, ⟨h2, h3⟩, h4⟩ := h
  rcases h3 with ⟨hv, e⟩ | ⟨g, cap, cur, hv, hb, hh, hr⟩
  · exact ⟨zs, h1, ⟨h2, .inl ⟨hv, e⟩⟩, h4⟩
  · injection hv with e1 e2 e3
    subst e1 e3
    by_cases e : g = b
    · subst e
      exact ⟨_, h0.store j x hx⟩
    · refine ⟨zs, h1, ⟨h2, .inr ⟨g, c, cur, rfl, hb, ?_, hr⟩⟩, h4⟩
      exact (Below.heap_setCell _ _ _ _ (by simpa using e)).trans hh
theorem ChsO.below {V V' : World} {B : Nat} {la : Option Addr} {n lc : Nat} {cds : List CD} (h : ChsO V B la n lc cds) (hb : Below V.heap.size V V') : ChsO V' B la n lc cds := h.fr (Q := fun _ => False) (Fr.of_below hb) (fun _ _ _ e => e)
/-- A copy under way: the box, its rows. -/
def cpC (x : ChQ) (u v p y : Value) : List Value := [.int .u8 (x.k : Nat), .int .u8 (x.f : Nat), .int .u32 (x.t : Nat), .int .u16 (x.st : Nat), .int .u16 (x.ss : Nat), .int .u32 (x.pp : Nat), .int .u32 (x.tg : Nat), .int .u32 (x.rm : Nat), .int .u16 (x.os : Nat), .int .u16 (x.is : Nat), u, v, p, y]
structure CpS (wr : World) (x : ChQ) (b1 : Option Addr) (b3 : Nat) (d1 : Option Addr) (d3 : Nat) (p1 : Option Addr) (pn p3 : Nat) (x1 : Option Addr) (x3 : Nat) (ps : List Pm) (V : World) : Prop where
  bel : Below wr.heap.size wr V
  st : Stc V wr.heap.size (cpC x (.slice b1 x.bN b3) (.slice d1 x.dN d3) (.slice p1 pn p3) (.slice x1 x.xN x3))
  ob : OwnK V (wr.heap.size + 1) b1 x.bN b3 x.bD
  od : OwnD V (wr.heap.size + 1) d1 x.dN d3 x.dD
  op : PmO V (wr.heap.size + 1) p1 pn p3 ps
  ox : OwnB V (wr.heap.size + 1) x1 x.xN x3 x.xZ
/-- A block of cells of a type. -/
def BT (w : World) (b : Nat) (T : TypeId) : Prop := ∃ cur r, w.heap[b]? = some (.cells cur T r)
theorem BT.lt {w : World} {b : Nat} {T : TypeId} (h : BT w b T) : b < w.heap.size := by
  obtain ⟨cur, r, h⟩ := h
  exact (Array.getElem?_eq_some_iff.1 h).1
theorem BT.ne {w : World} {b c : Nat} {T U : TypeId} (h : BT w b T) (k : BT w c U) (hT : T ≠ U) : b ≠ c := by
  rintro rfl
  obtain ⟨cur, r, h⟩ := h
  obtain ⟨cur', r', k⟩ := k
  rw [h] at k
  injection k with k
  injection k with _ k _
  exact hT k
theorem BT.same {w w' : World} {b : Nat} {T : TypeId} (h : BT w b T) (he : w'.heap[b]? = w.heap[b]?) : BT w' b T := by
  obtain ⟨cur, r, h⟩ := h
  exact ⟨cur, r, he.trans h⟩
theorem BT.below {w w' : World} {b : Nat} {T : TypeId} (h : BT w b T) (hb : Below w.heap.size w w') : BT w' b T := h.same (hb.block b h.lt)
theorem BT.setCell {w : World} {b : Nat} {T : TypeId} (h : BT w b T) (a : Addr) (v : Value) : BT (w.setCell a v) b T := by
  obtain ⟨cur, r, h⟩ := h
  by_cases e : b = a.block
  · subst e
    refine ⟨if a.spot.isSome then cur else cur.setIfInBounds a.off v, r, ?_⟩
    simp only [World.setCell, Array.getElem?_modify, if_true, h, Option.map_some]
  · exact ⟨cur, r, (Below.heap_setCell _ _ _ _ (by omega)).trans h⟩
theorem OwnG.bt {α : Type} {T : TypeId} {k : Nat} {cf : α → List Value} {w : World} {B : Nat} {a : Option Addr} {n c : Nat} {ps : List α} (h : OwnG T k cf w B a n c ps) : ∀ g, (Value.slice a n c).ownBlock = some g → BT w g T := by
  intro g hg
  rcases h.own.2 with ⟨hv, _⟩ | ⟨g', cap, cur, hv, _, hh, _⟩
  · rw [hv] at hg; cases hg
  · rw [hv] at hg
    injection hg with e
    subst e
    exact ⟨cur, _, hh⟩
theorem OwnB.bt {w : World} {B : Nat} {a : Option Addr} {n c : Nat} {zs : List Nat} (h : OwnB w B a n c zs) : ∀ g, (Value.slice a n c).ownBlock = some g → BT w g 5 := by
  intro g hg
  rcases h.own.2 with ⟨hv, _⟩ | ⟨g', cap, cur, hv, _, hh, _⟩
  · rw [hv] at hg; cases hg
  · rw [hv] at hg
    injection hg with e
    subst e
    exact ⟨cur, _, hh⟩
/-- Bytes that Take made, poked: nothing else is turned. -/
structure TwS (W7 : World) (B : Nat) (V : World) : Prop where
  fr : Fr (fun k => B ≤ k ∧ BT W7 k 5) W7 V
  own : ∀ {a : Option Addr} {n c : Nat} {zs : List Nat}, OwnB W7 B a n c zs → ∃ ys, OwnB V B a n c ys
theorem TwS.refl (W7 : World) (B : Nat) : TwS W7 B W7 := ⟨Fr.refl _ _, fun h => ⟨_, h⟩⟩
theorem TwS.poke {W7 V : World} {B q n c : Nat} {zs : List Nat} (h : TwS W7 B V) (ho : OwnB W7 B (some ⟨q, 0, none⟩) n c zs) (j x : Nat) (hx : x < 256) : TwS W7 B (V.setCell ⟨q, j, none⟩ (.int .u8 (x : Nat))) :=
  ⟨h.fr.trans (Fr.setCell _ _ _ _ ⟨(ho.own.lt q rfl).1, ho.bt q rfl⟩), fun h2 => by
    obtain ⟨ys, hy⟩ := h.own h2
    exact hy.poke q j x hx⟩
theorem TwS.below {W7 V : World} {B : Nat} (h : TwS W7 B V) (hB : B ≤ W7.heap.size) : Below B W7 V := h.fr.below B hB (fun _ hk => hk.1)
theorem TwS.drew {W7 V : World} {B : Nat} (h : TwS W7 B V) : TwS W7 B V.drew := ⟨h.fr.trans (Fr.of_below (Below.refl _ _).drew), fun h2 => by
  obtain ⟨ys, hy⟩ := h.own h2
  exact ⟨ys, hy.below (Below.refl _ _).drew⟩⟩
theorem TwS.cell {α : Type} {T : TypeId} {k : Nat} {cf : α → List Value} {W7 V : World} {B g n c : Nat} {ps : List α} (h : TwS W7 B V) (hT : T ≠ 5) (ho : OwnG T k cf W7 B (some ⟨g, 0, none⟩) n c ps) (i : Nat) : V.cell? ⟨g, i, none⟩ = W7.cell? ⟨g, i, none⟩ :=
  h.fr.cell ⟨g, i, none⟩ (ho.own.lt g rfl).2 (fun e => (ho.bt g rfl).ne e.2 hT rfl)
set_option linter.unusedVariables false in
theorem xor88O (x y : Nat) (hx : x < 256) (hy : y < 256) : bits .xor .u8 (x : Int) (y : Int) = ((x ^^^ y : Nat) : Int) := u8_xor_nat x y hx hy
theorem xor17O (x : Nat) (hx : x < 256) : bits .xor .u8 (x : Int) 17 = ((x ^^^ 17 : Nat) : Int) := u8_xor_nat x 17 hx (by decide)
end Go.Proofs.YtlgfbcfogcmdbaaDoor
namespace Go.Proofs.YtlgfbcfogcmdbaaDoor
open Go.RowKit
/-- Chunks' bytes, one behind the other. -/
def catL (cvs : List (CD × List Nat)) : List Nat := cvs.flatMap fun x => chB x.1.kind x.1.flags x.2
theorem catL_cons (x : CD × List Nat) (cvs : List (CD × List Nat)) : catL (x :: cvs) = x.1.kind :: x.1.flags :: (bytesB (4 + x.2.length) 2 ++ (x.2 ++ (List.replicate (padN x.2.length) 0 ++ catL cvs))) := by
  unfold catL
  rw [List.flatMap_cons]
  unfold chB
  simp only [List.cons_append, List.append_assoc]
theorem take_bytes {w : World} {b off m c : Nat} {zs : List Nat} (hs : Sl w (some ⟨b, off, none⟩) m c zs) (h16 : 16 ≤ m) (h1480 : m ≤ 1480) (hsum : stampedB zs = true) (cvs : List (CD × List Nat)) (hz : zs.drop 12 = catL cvs) (h32 : cvs.length ≤ 32)
    (hok : ∀ x ∈ cvs, CdB x.1 x.2 ∧ x.1.kind < 256 ∧ x.1.flags < 256 ∧ 4 + x.2.length < 65536) :
    Calls Tryd.prog 8 #[.slice (some ⟨b, off, none⟩) m c] w (TkC w (numB (zs.take 2)) (numB ((zs.drop 2).take 2)) (numB ((zs.drop 4).take 4)) cvs.length (cvs.map (·.1))) := by
  have hdr : ∀ i x, cvs[i]? = some x → cvs.drop i = x :: cvs.drop (i + 1) := fun i x hx => by
    obtain ⟨hi, rfl⟩ := List.getElem?_eq_some_iff.1 hx
    exact List.drop_eq_getElem_cons hi
  refine take_cd hs h16 h1480 hsum cvs.length (cvs.map (·.1)) (by simp) (fun i => catL (cvs.drop i)) (by rw [hz]; rfl) (by simp [catL]) (fun i hi => ?_) h32 (fun i d hd W0 q W hW => ?_)
  · rw [hdr i _ (List.getElem?_eq_getElem hi), catL_cons]
    exact List.cons_ne_nil _ _
  · rw [List.getElem?_map] at hd
    cases hx : cvs[i]? with
    | none => rw [hx] at hd; cases hd
    | some x =>
      rw [hx] at hd
      obtain rfl : x.1 = d := Option.some.inj hd
      obtain ⟨k1, k2, k3, k4⟩ := hok x (List.mem_of_getElem? hx)
      rw [hdr i x hx, catL_cons] at hW
      have hi := (List.getElem?_eq_some_iff.1 hx).1
      exact rchunk_cd k1 hW i (by omega) k2 k3 k4 (by simp)
end Go.Proofs.YtlgfbcfogcmdbaaDoor
namespace Go.Proofs.YtlgfbcfogcmdbaaDoor
open Go.RowKit
theorem lay_takeR (zs : List Nat) (p : Nat) (ys : List Nat) (h : p ≤ zs.length) : (lay zs p ys).take p = zs.take p := by
  unfold lay
  rw [List.take_append_of_le_length (by simp; omega), List.take_take, Nat.min_self]
theorem lay_dropR (zs : List Nat) (p : Nat) (ys : List Nat) (h : p ≤ zs.length) : (lay zs p ys).drop (p + ys.length) = zs.drop (p + ys.length) := by
  unfold lay
  have e : (zs.take p).length = p := by simp; omega
  rw [← List.append_assoc, List.drop_append_of_le_length (by simp; omega), List.drop_of_length_le (by simp; omega), List.nil_append]
theorem stampV_drop (ys : List Nat) (h : 12 ≤ ys.length) : (stampV ys).drop 12 = ys.drop 12 := by
  have h1 : (stampV ys).drop 12 = (blank ys).drop 12 := by
    unfold stampV
    rw [if_neg (by omega)]
    exact lay_dropR (blank ys) 8 (le4 (crc (blank ys))) (by rw [blank_len ys h]; omega)
  rw [h1]
  exact lay_dropR ys 8 [0, 0, 0, 0] (by omega)
theorem stampV_take (ys : List Nat) (h : 12 ≤ ys.length) : (stampV ys).take 8 = ys.take 8 := by
  have h1 : (stampV ys).take 8 = (blank ys).take 8 := by
    unfold stampV
    rw [if_neg (by omega)]
    exact lay_takeR (blank ys) 8 (le4 (crc (blank ys))) (by rw [blank_len ys h]; omega)
  rw [h1]
  exact lay_takeR ys 8 [0, 0, 0, 0] (by omega)
theorem same_part {x y : List Nat} (h : x.take 8 = y.take 8) (p k : Nat) (hpk : p + k ≤ 8) : (x.drop p).take k = (y.drop p).take k := by
  have e : ((x.take 8).drop p).take k = ((y.take 8).drop p).take k := by rw [h]
  rw [List.drop_take, List.drop_take, List.take_take, List.take_take, Nat.min_eq_left (by omega)] at e
  exact e
/-- What Put lays of chunks, Take gives back. -/
theorem take_put {w : World} {b off m c : Nat} (f t g : Nat) (hf : f < 65536) (ht : t < 65536) (hg : g < 4294967296) (cvs : List (CD × List Nat)) (hs : Sl w (some ⟨b, off, none⟩) m c (stampV (hdB f t g ++ catL cvs))) (h16 : 16 ≤ m) (h1480 : m ≤ 1480) (h32 : cvs.length ≤ 32)
    (hok : ∀ x ∈ cvs, CdB x.1 x.2 ∧ x.1.kind < 256 ∧ x.1.flags < 256 ∧ 4 + x.2.length < 65536) :
    Calls Tryd.prog 8 #[.slice (some ⟨b, off, none⟩) m c] w (TkC w f t g cvs.length (cvs.map (·.1))) := by
  have h12 : 12 ≤ (hdB f t g ++ catL cvs).length := by rw [List.length_append, hdB_len]; omega
  have hy : hdB f t g ++ catL cvs = bytesB f 2 ++ (bytesB t 2 ++ (bytesB g 4 ++ (bytesB 0 4 ++ catL cvs))) := by unfold hdB; simp only [List.append_assoc]
  have k := take_bytes hs h16 h1480 (stamped_stamp _ h12) cvs (by rw [stampV_drop _ h12, List.drop_left' (hdB_len f t g)]) h32 hok
  have e := stampV_take _ h12
  have e0 := same_part e 0 2 (by omega)
  rw [List.drop_zero, List.drop_zero] at e0
  rw [e0, same_part e 2 2 (by omega), same_part e 4 4 (by omega), hy] at k
  have d2 := dropB (k := 0) (m := 2) (List.drop_zero (l := bytesB f 2 ++ (bytesB t 2 ++ (bytesB g 4 ++ (bytesB 0 4 ++ catL cvs))))) rfl rfl
  have d4 := dropB (m := 4) d2 rfl rfl
  rw [take2B, numB_two hf, numAt d2 rfl (numB_two ht), numAt d4 rfl (numB_four hg)] at k
  exact k
end Go.Proofs.YtlgfbcfogcmdbaaDoor
namespace Go.Proofs.YtlgfbcfogcmdbaaDoor
open Go.RowKit
theorem chq_one (x : ChQ) : x.vals.length = 14 ∧ ∀ u ∈ x.vals, u.oneCell' = true := by
  refine ⟨rfl, fun u hu => ?_⟩
  unfold ChQ.vals at hu
  simp only [List.mem_cons, List.not_mem_nil, or_false] at hu
  rcases hu with rfl | rfl | rfl | rfl | rfl | rfl | rfl | rfl | rfl | rfl | rfl | rfl | rfl | rfl <;> rfl
theorem getD_q {dd : List ChQ} {j : Nat} (h : j < dd.length) : dd[j]? = some (dd.getD j default) := by
  rw [List.getD_eq_getElem?_getD, List.getElem?_eq_getElem h]
  rfl
theorem SlCq.ckR {w : World} {a : Option Addr} {n c : Nat} {dd : List ChQ} (h : SlCq w a n c dd) : CkR w a n c (fun j => (dd.getD j default).vals) (fun j => chkOf (dd.getD j default).ck) (fun j => valV (dd.getD j default)) (fun j => spcN (dd.getD j default).cd) := by
  have hn := h.len
  have hw : ∀ j, j < n → (dd.getD j default).Wf w := fun j hj => h.wf _ (List.mem_of_getElem? (getD_q (by omega)))
  refine ⟨h.cap, h.small, fun j hj => (chq_one _).1, fun j hj => (chq_one _).2, ?_, fun j hj W hW => check_all (dd.getD j default).ck W ((ChQ.ckW (hw j hj)).below hW) _ rfl, fun j hj he W hW => (one_any (hw j hj) he).vl W, fun j hj he W hW => (one_any (hw j hj) he).sp W hW, fun j hj he => (one_any (hw j hj) he).sb⟩
  rcases h.at_ with h0 | ⟨b, off, rfl, hlt, hc⟩
  · exact .inl h0
  · exact .inr ⟨b, off, rfl, hlt, fun j hj i u hu => hc j _ (getD_q (by omega)) i u hu⟩
theorem SlCq.ckB {w : World} {a : Option Addr} {n c : Nat} {dd : List ChQ} (h : SlCq w a n c dd) : CkB w n (fun j => (dd.getD j default).vals) (fun j => chkOf (dd.getD j default).ck) (fun j => spcN (dd.getD j default).cd) (fun j => chB (dd.getD j default).k (dd.getD j default).f (valB (dd.getD j default).cd)) := by
  have hn := h.len
  have hw : ∀ j, j < n → (dd.getD j default).Wf w := fun j hj => h.wf _ (List.mem_of_getElem? (getD_q (by omega)))
  exact ⟨fun j hj he W q zs h1 h2 h3 h4 h5 => (one_any (hw j hj) he).wr W q zs h1 h2 h3 h4 h5, fun j hj he => chB_len _ _ _, fun j hj he => spcN_four _⟩
def cvQ (dd : List ChQ) : List (CD × List Nat) := dd.map fun x => (x.cd, valB x.cd)
/-- Put's answer. -/
def mbQ (dd : List ChQ) : Int := mbE (fun j => chkOf (dd.getD j default).ck) (fun j => spcN (dd.getD j default).cd) dd.length
def ptQ (f t g : Nat) (dd : List ChQ) : List Nat := if mbQ dd = 0 then stampV (hdB f t g ++ catL (cvQ dd)) else []
theorem catB_catL (dd : List ChQ) : ∀ n, n ≤ dd.length → catB (fun j => chB (dd.getD j default).k (dd.getD j default).f (valB (dd.getD j default).cd)) n = catL (cvQ (dd.take n))
  | 0, _ => by simp [catB, catL, cvQ]
  | n + 1, h => by
    rw [catB, catB_catL dd n (by omega), List.take_add_one, getD_q (by omega)]
    unfold cvQ catL
    simp
    rfl
theorem put_row {w : World} {a : Option Addr} {n c : Nat} {dd : List ChQ} (h : SlCq w a n c dd) (f t g : Nat) (hf : f < 65536) (ht : t < 65536) (hg : g < 4294967296) :
    Calls Tryd.prog 4 #[.agg #[.int .u16 (f : Nat), .int .u16 (t : Nat), .int .u32 (g : Nat)], .slice a n c] w (PutR w (ptQ f t g dd) (mbQ dd)) := by
  have k := put_any h.ckR h.ckB f t g hf ht hg
  have hn := h.len
  have e : putV f t g (fun j => chkOf (dd.getD j default).ck) (fun j => spcN (dd.getD j default).cd) (fun j => chB (dd.getD j default).k (dd.getD j default).f (valB (dd.getD j default).cd)) n = ptQ f t g dd := by
    unfold putV ptQ mbQ
    rw [catB_catL dd n (by omega), ← hn, List.take_length]
  rw [e] at k
  unfold mbQ
  rw [hn]
  exact k
theorem badE_all {dd : List ChQ} (h : mbQ dd = 0) : ∀ x ∈ dd, chkOf x.ck = 0 := by
  intro x hx
  obtain ⟨_, _, h3, _⟩ := mbE_ok h
  obtain ⟨i, hi⟩ := List.getElem?_of_mem hx
  have hlt := (List.getElem?_eq_some_iff.1 hi).1
  have := badE_ok h3 i hlt
  rw [getD_q hlt] at hi
  obtain rfl := Option.some.inj hi
  exact this
theorem sumS_cat (dd : List ChQ) : ∀ n, n ≤ dd.length → (catL (cvQ (dd.take n))).length = sumS (fun j => spcN (dd.getD j default).cd) n
  | 0, _ => by simp [catL, cvQ, sumS]
  | n + 1, h => by
    rw [← catB_catL dd (n + 1) h, catB, List.length_append, catB_catL dd n (by omega), sumS_cat dd n (by omega), sumS, chB_len]
    rfl
/-- What is known of what Put lays. -/
structure PtOk (f t g : Nat) (dd : List ChQ) : Prop where
  val : ptQ f t g dd = stampV (hdB f t g ++ catL (cvQ dd))
  one : 1 ≤ dd.length
  le : dd.length ≤ 32
  len : (hdB f t g ++ catL (cvQ dd)).length = 12 + sumS (fun j => spcN (dd.getD j default).cd) dd.length
  big : (hdB f t g ++ catL (cvQ dd)).length ≤ 1480
  small : 16 ≤ (hdB f t g ++ catL (cvQ dd)).length
  ok : ∀ x ∈ dd, chkOf x.ck = 0
theorem ptOk {f t g : Nat} {dd : List ChQ} (h : mbQ dd = 0) : PtOk f t g dd := by
  obtain ⟨h1, h2, h3, h4⟩ := mbE_ok h
  have hs := sumS_cat dd dd.length (Nat.le_refl _)
  rw [List.take_length] at hs
  have hl : (hdB f t g ++ catL (cvQ dd)).length = 12 + sumS (fun j => spcN (dd.getD j default).cd) dd.length := by rw [List.length_append, hdB_len, hs]
  have h4' : 4 ≤ sumS (fun j => spcN (dd.getD j default).cd) dd.length := by
    have m1 := sumS_mono (S := fun j => spcN (dd.getD j default).cd) h1
    have m2 : sumS (fun j => spcN (dd.getD j default).cd) 1 = 0 + spcN (dd.getD 0 default).cd := rfl
    have m3 : 4 ≤ spcN (dd.getD 0 default).cd := by unfold spcN; omega
    omega
  exact ⟨by unfold ptQ; rw [if_pos h], h1, h2, hl, by omega, by omega, badE_all h⟩
theorem mbQ_cases (dd : List ChQ) : mbQ dd = 0 ∨ mbQ dd = 2 ∨ mbQ dd = 6 := by
  have hb : ∀ n, badE (fun j => chkOf (dd.getD j default).ck) n = 0 ∨ badE (fun j => chkOf (dd.getD j default).ck) n = 2 ∨ badE (fun j => chkOf (dd.getD j default).ck) n = 6 := by
    intro n
    induction n with
    | zero => exact .inl rfl
    | succ n ih =>
      rw [badE]
      split
      · exact ih
      · exact chkOf_cases _
  unfold mbQ mbE
  repeat' split
  all_goals first | exact .inr (.inl rfl) | exact .inr (.inr rfl) | exact .inl rfl | exact hb _
theorem cv_ok {w : World} {dd : List ChQ} (hw : ∀ x ∈ dd, x.Wf w) (hok : ∀ x ∈ dd, chkOf x.ck = 0) : ∀ x ∈ cvQ dd, CdB x.1 x.2 ∧ x.1.kind < 256 ∧ x.1.flags < 256 ∧ 4 + x.2.length < 65536 := by
  intro y hy
  obtain ⟨x, hx, rfl⟩ := List.mem_map.1 hy
  have h := one_any (hw x hx) (hok x hx)
  have hwf := hw x hx
  unfold ChQ.Wf at hwf
  refine ⟨h.cd, hwf.1, hwf.2.1, ?_⟩
  have := h.sb
  unfold spcN at this
  show 4 + (valB x.cd).length < 65536
  omega
end Go.Proofs.YtlgfbcfogcmdbaaDoor
namespace Go.Proofs.YtlgfbcfogcmdbaaDoor
open Go.RowKit
theorem eq_a2 (a b c d : Int) (w : World) : (Op.equalIn 10000 71 (.agg #[.int .u16 a, .int .u16 b]) (.agg #[.int .u16 c, .int .u16 d])).run Tryd.prog w = .ok (a == c && b == d) w := by
  have hi0 : (Tryd.prog.info? 22).map (fun i => (i.zero, i.size, i.bytes)) = some (some (.int .u16 0), 1, 2) := by kernel_rfl
  obtain ⟨i, hi, hz0, hz1, hz2⟩ := info_parts hi0
  have hce : Tryd.prog.cellsOf 22 = 1 := by kernel_rfl
  have hag : ∀ w, (isAgg 22).run Tryd.prog w = .ok false w := fun w => by kernel_rfl
  rw [show (10000 : Nat) = 9998 + 1 + 1 from rfl, run_equalIn_array w (9998 + 1) _ _ Tryd.underlying71 hi, hce]
  by_cases h : a = c <;> by_cases h2 : b = d <;> simp [Op.eqItems, part, hag, List.range, List.range.loop, run_equalIn_int, Tryd.underlying22, h, h2]
set_option linter.unusedVariables false in
set_option maxRecDepth 100000 in
set_option maxHeartbeats 8000000 in
theorem same_yes (k f t st ss pp tg rm os is : Nat) (a1 : Option Addr) (a3 : Nat) (e1 : Option Addr) (e3 : Nat) (p1 : Option Addr) (p3 : Nat) (x1 : Option Addr) (x3 : Nat)
    (b1 : Option Addr) (b3 : Nat) (f1 : Option Addr) (f3 : Nat) (q1 : Option Addr) (q3 : Nat) (y1 : Option Addr) (y3 : Nat) (bn dn pn xn : Nat) (bs : List (Nat × Nat)) (ds : List Nat) (ps : List Pm) (xs : List Nat) (w : World)
    (hb : BkR w a1 bn a3 bs) (hb' : BkR w b1 bn b3 bs) (hd : SlDu w e1 dn e3 ds) (hd' : SlDu w f1 dn f3 ds) (hp : PmR w p1 pn p3 ps) (hp' : PmR w q1 pn q3 ps) (hx : Sl w x1 xn x3 xs) (hx' : Sl w y1 xn y3 xs) :
    Calls Tryd.prog 15 #[.agg #[.int .u8 (k : Nat), .int .u8 (f : Nat), .int .u32 (t : Nat), .int .u16 (st : Nat), .int .u16 (ss : Nat), .int .u32 (pp : Nat), .int .u32 (tg : Nat), .int .u32 (rm : Nat), .int .u16 (os : Nat), .int .u16 (is : Nat), .slice a1 bn a3, .slice e1 dn e3, .slice p1 pn p3, .slice x1 xn x3], .agg #[.int .u8 (k : Nat), .int .u8 (f : Nat), .int .u32 (t : Nat), .int .u16 (st : Nat), .int .u16 (ss : Nat), .int .u32 (pp : Nat), .int .u32 (tg : Nat), .int .u32 (rm : Nat), .int .u16 (os : Nat), .int .u16 (is : Nat), .slice b1 bn b3, .slice f1 dn f3, .slice q1 pn q3, .slice y1 xn y3]] w fun e w' => e = .returned (.bool true) ∧ Below w.heap.size w w' := by
  obtain ⟨W1, hW1⟩ : ∃ W1, W1 = w.alloc (.cells #[.int .u8 (k : Nat), .int .u8 (f : Nat), .int .u32 (t : Nat), .int .u16 (st : Nat), .int .u16 (ss : Nat), .int .u32 (pp : Nat), .int .u32 (tg : Nat), .int .u32 (rm : Nat), .int .u16 (os : Nat), .int .u16 (is : Nat), .slice a1 bn a3, .slice e1 dn e3, .slice p1 pn p3, .slice x1 xn x3] 32) := ⟨_, rfl⟩
  have bb1 : Below w.heap.size w W1 := by rw [hW1]; exact (Below.refl _ _).alloc (Nat.le_refl _) _
  have s1 := Stc.new w [.int .u8 (k : Nat), .int .u8 (f : Nat), .int .u32 (t : Nat), .int .u16 (st : Nat), .int .u16 (ss : Nat), .int .u32 (pp : Nat), .int .u32 (tg : Nat), .int .u32 (rm : Nat), .int .u16 (os : Nat), .int .u16 (is : Nat), .slice a1 bn a3, .slice e1 dn e3, .slice p1 pn p3, .slice x1 xn x3] 32 W1 hW1
  have z1 : W1.heap.size = w.heap.size + 1 := by rw [hW1]; simp
  obtain ⟨W2, hW2⟩ : ∃ W2, W2 = W1.alloc (.cells #[.int .u8 (k : Nat), .int .u8 (f : Nat), .int .u32 (t : Nat), .int .u16 (st : Nat), .int .u16 (ss : Nat), .int .u32 (pp : Nat), .int .u32 (tg : Nat), .int .u32 (rm : Nat), .int .u16 (os : Nat), .int .u16 (is : Nat), .slice b1 bn b3, .slice f1 dn f3, .slice q1 pn q3, .slice y1 xn y3] 32) := ⟨_, rfl⟩
  have bb2 : Below W1.heap.size W1 W2 := by rw [hW2]; exact (Below.refl _ _).alloc (Nat.le_refl _) _
  have s2 := Stc.new W1 [.int .u8 (k : Nat), .int .u8 (f : Nat), .int .u32 (t : Nat), .int .u16 (st : Nat), .int .u16 (ss : Nat), .int .u32 (pp : Nat), .int .u32 (tg : Nat), .int .u32 (rm : Nat), .int .u16 (os : Nat), .int .u16 (is : Nat), .slice b1 bn b3, .slice f1 dn f3, .slice q1 pn q3, .slice y1 xn y3] 32 W2 hW2
  have hB2 : Below w.heap.size w W2 := bb1.trans (bb2.mono bb1.size)
  have HC := (show Hid _ from And.intro (s1.below bb2) (z1 ▸ s2))
  have HB2 := (show Hid _ from hB2)
  have HR := (show Hid _ from And.intro (And.intro hb hb') (And.intro (And.intro hd hd') (And.intro hp hp')))
  have cv1 := conv_str (hx.below hB2)
  have cv2 := conv_str (hx'.below hB2)
  rw [hW2, hW1] at cv1 cv2
  have HW1 := (show Hid _ from hW1)
  have HW2 := (show Hid _ from hW2)
  clear bb1 s1 z1 bb2 s2 hB2 hb hb' hd hd' hp hp' hx hx' hW1 hW2
  go_enter Tryd.func15, Tryd.ntmps15
  go_wp2
  rw [← HW1.out, ← HW2.out]
  clear HW1 HW2 cv1 cv2
  have HBR0 : Hid (Below W2.heap.size W2 W2) := Below.refl _ _
  have k0 := fun V (hV : Below W2.heap.size W2 V) => (HC.out.1.below hV).cell 10 _ rfl
  have HK0 := (show Hid _ from k0)
  clear k0
  go_loopw [5] (fun u wr => ∃ i : Nat, i ≤ bn ∧ u = .int .i64 (i : Nat) ∧ Below W2.heap.size W2 wr) (fun u _ => bn - (intOf u).toNat)
  case atStart => exact ⟨0, by omega, rfl, HBR0.out⟩
  case round =>
    obtain ⟨i, hin, rfl, hbr⟩ := hrel
    have HBR := (show Hid _ from hbr)
    have kl := HK0.out wr hbr
    clear hbr HBR0
    by_cases hlt : i < bn
    · have hlt1 : (i : Int) < (bn : Int) := by omega
      obtain ⟨u, hu⟩ : ∃ u, bs[i]? = some u := ⟨_, List.getElem?_eq_getElem (by have := HR.out.1.1.len; omega)⟩
      obtain ⟨ab, ao, rfl, hal, hac⟩ : ∃ b off, a1 = some ⟨b, off, none⟩ ∧ b < w.heap.size ∧ ∀ i p, bs[i]? = some p → p.1 < 65536 ∧ p.2 < 65536 ∧ w.cell? ⟨b, off + i * 2, none⟩ = some (.int .u16 (p.1 : Nat)) ∧ w.cell? ⟨b, off + i * 2 + 1, none⟩ = some (.int .u16 (p.2 : Nat)) := HR.out.1.1.at_.resolve_left (by omega)
      obtain ⟨bb, bo, rfl, hbl, hbc⟩ : ∃ b off, b1 = some ⟨b, off, none⟩ ∧ b < w.heap.size ∧ ∀ i p, bs[i]? = some p → p.1 < 65536 ∧ p.2 < 65536 ∧ w.cell? ⟨b, off + i * 2, none⟩ = some (.int .u16 (p.1 : Nat)) ∧ w.cell? ⟨b, off + i * 2 + 1, none⟩ = some (.int .u16 (p.2 : Nat)) := HR.out.1.2.at_.resolve_left (by omega)
      obtain ⟨u1, u2⟩ := u
      obtain ⟨_, _, a1c, a2c⟩ := hac i _ hu
      obtain ⟨_, _, b1c, b2c⟩ := hbc i _ hu
      dsimp only at a1c a2c b1c b2c
      have HK : Hid (∀ V, Below W2.heap.size W2 V → V.cell? ⟨w.heap.size, 10, none⟩ = some (.slice (some ⟨ab, ao, none⟩) bn a3) ∧ V.cell? ⟨w.heap.size + 1, 10, none⟩ = some (.slice (some ⟨bb, bo, none⟩) bn b3) ∧ V.cell? ⟨ab, ao + i * 2, none⟩ = some (.int .u16 (u1 : Nat)) ∧ V.cell? ⟨ab, ao + i * 2 + 1, none⟩ = some (.int .u16 (u2 : Nat)) ∧ V.cell? ⟨bb, bo + i * 2, none⟩ = some (.int .u16 (u1 : Nat)) ∧ V.cell? ⟨bb, bo + i * 2 + 1, none⟩ = some (.int .u16 (u2 : Nat))) := by
        intro V hV
        have hwV : Below w.heap.size w V := HB2.out.trans (hV.mono HB2.out.size)
        exact ⟨(HC.out.1.below hV).cell 10 _ rfl, (HC.out.2.below hV).cell 10 _ rfl, (hwV.cell (p := ⟨ab, _, none⟩) hal).trans a1c, (hwV.cell (p := ⟨ab, _, none⟩) hal).trans a2c, (hwV.cell (p := ⟨bb, _, none⟩) hbl).trans b1c, (hwV.cell (p := ⟨bb, _, none⟩) hbl).trans b2c⟩
      have hca := HR.out.1.1.cap
      have hcb := HR.out.1.2.cap
      have hsm := HR.out.1.1.small
      clear a1c a2c b1c b2c hac hbc hu
      go_wp2_with fail
      refine wp_region_fixW mixedX (fun V => Below W2.heap.size W2 V) [(117, .pointer (some ⟨w.heap.size, 10, none⟩)), (118, .slice (some ⟨ab, ao, none⟩) bn a3), (119, .int .i64 (i : Nat)), (120, .pointer (some ⟨ab, ao + i * 2, none⟩)), (121, .agg #[.int .u16 (u1 : Nat), .int .u16 (u2 : Nat)]), (122, .pointer (some ⟨(w.heap.size + 1), 10, none⟩)), (123, .slice (some ⟨bb, bo, none⟩) bn b3), (124, .int .i64 (i : Nat)), (125, .pointer (some ⟨bb, bo + i * 2, none⟩)), (126, .agg #[.int .u16 (u1 : Nat), .int .u16 (u2 : Nat)]), (127, .bool false)] ?Z1 ?hZ1 (by kernel_rfl) (by kernel_rfl) (by kernel_rfl) (by kernel_rfl) ?h01 ?hops1 ?he1
      case hZ1 => simp only [List.foldl_cons, List.foldl_nil, List.setIfInBounds_toArray, List.set_cons_zero, List.set_cons_succ]; rfl
      case h01 => exact HBR.out.drew
      case hops1 =>
        refine ⟨?_, ?_, ?_, ?_, ?_, ?_, ?_, ?_, ?_, ?_, ?_, trivial⟩
        · exact fix_val (by rfl) (fun W hW => by obtain ⟨c0, c1, c2, c3, c4, c5⟩ := HK.out W hW; go_simp; (try with_reducible rfl); (try omega))
        · exact fix_val (by rfl) (fun W hW => by obtain ⟨c0, c1, c2, c3, c4, c5⟩ := HK.out W hW; go_simp; (try with_reducible rfl); (try omega))
        · exact fix_val (by rfl) (fun W hW => by obtain ⟨c0, c1, c2, c3, c4, c5⟩ := HK.out W hW; go_simp; (try with_reducible rfl); (try omega))
        · exact fix_val (by rfl) (fun W hW => by obtain ⟨c0, c1, c2, c3, c4, c5⟩ := HK.out W hW; go_simp; (try with_reducible rfl); (try omega))
        · exact fix_val (by rfl) (fun W hW => by obtain ⟨c0, c1, c2, c3, c4, c5⟩ := HK.out W hW; go_simp; (try with_reducible rfl); (try omega))
        · exact fix_val (by rfl) (fun W hW => by obtain ⟨c0, c1, c2, c3, c4, c5⟩ := HK.out W hW; go_simp; (try with_reducible rfl); (try omega))
        · exact fix_val (by rfl) (fun W hW => by obtain ⟨c0, c1, c2, c3, c4, c5⟩ := HK.out W hW; go_simp; (try with_reducible rfl); (try omega))
        · exact fix_val (by rfl) (fun W hW => by obtain ⟨c0, c1, c2, c3, c4, c5⟩ := HK.out W hW; go_simp; (try with_reducible rfl); (try omega))
        · exact fix_val (by rfl) (fun W hW => by obtain ⟨c0, c1, c2, c3, c4, c5⟩ := HK.out W hW; go_simp; (try with_reducible rfl); (try omega))
        · exact fix_val (by rfl) (fun W hW => by obtain ⟨c0, c1, c2, c3, c4, c5⟩ := HK.out W hW; go_simp; (try with_reducible rfl); (try omega))
        · exact fix_val (by rfl) (fun W hW => by have hn := eq_a2 u1 u2 u1 u2 W; go_simp; (try simp [Result.andThen]))
      case he1 =>

      intro V hV
      have HV := (show Hid _ from hV)
      clear hV HBR kl HK
      go_wp2
      go_roundw
      case rel => exact ⟨i + 1, by omega, by go_num, HV.out⟩
      case measure => simp [intOf]; omega
    · have hlt1 : ¬ (i : Int) < (bn : Int) := by omega
      go_wp2
      clear kl HK0
      have HBR0 := HBR
      clear HBR
      have k0 := fun V (hV : Below W2.heap.size W2 V) => (HC.out.1.below hV).cell 11 _ rfl
      have HK0 := (show Hid _ from k0)
      clear k0
      go_loopw [6] (fun u wr => ∃ i : Nat, i ≤ dn ∧ u = .int .i64 (i : Nat) ∧ Below W2.heap.size W2 wr) (fun u _ => dn - (intOf u).toNat)
      case atStart => exact ⟨0, by omega, rfl, HBR0.out⟩
      case round =>
        obtain ⟨i, hin, rfl, hbr⟩ := hrel
        have HBR := (show Hid _ from hbr)
        have kl := HK0.out wr hbr
        clear hbr HBR0
        by_cases hlt : i < dn
        · have hlt1 : (i : Int) < (dn : Int) := by omega
          obtain ⟨ab, ao, rfl, hal, hac⟩ : ∃ b off, e1 = some ⟨b, off, none⟩ ∧ b < w.heap.size ∧ ∀ i, i < dn → w.cell? ⟨b, off + i, none⟩ = some (.int .u32 (ds.getD i 0 : Nat)) := (SlK.at_ HR.out.2.1.1).resolve_left (by omega)
          obtain ⟨bb, bo, rfl, hbl, hbc⟩ : ∃ b off, f1 = some ⟨b, off, none⟩ ∧ b < w.heap.size ∧ ∀ i, i < dn → w.cell? ⟨b, off + i, none⟩ = some (.int .u32 (ds.getD i 0 : Nat)) := (SlK.at_ HR.out.2.1.2).resolve_left (by omega)
          have a1c := hac i hlt
          have b1c := hbc i hlt
          generalize ds.getD i 0 = u1 at a1c b1c
          have HK : Hid (∀ V, Below W2.heap.size W2 V → V.cell? ⟨w.heap.size, 11, none⟩ = some (.slice (some ⟨ab, ao, none⟩) dn e3) ∧ V.cell? ⟨w.heap.size + 1, 11, none⟩ = some (.slice (some ⟨bb, bo, none⟩) dn f3) ∧ V.cell? ⟨ab, ao + i, none⟩ = some (.int .u32 (u1 : Nat)) ∧ V.cell? ⟨bb, bo + i, none⟩ = some (.int .u32 (u1 : Nat))) := by
            intro V hV
            have hwV : Below w.heap.size w V := HB2.out.trans (hV.mono HB2.out.size)
            exact ⟨(HC.out.1.below hV).cell 11 _ rfl, (HC.out.2.below hV).cell 11 _ rfl, (hwV.cell (p := ⟨ab, _, none⟩) hal).trans a1c, (hwV.cell (p := ⟨bb, _, none⟩) hbl).trans b1c⟩
          have hca := SlK.cap HR.out.2.1.1
          have hcb := SlK.cap HR.out.2.1.2
          have hsm := SlK.small HR.out.2.1.1
          clear a1c b1c hac hbc
          go_wp2_with fail
          refine wp_region_fixW mixedX (fun V => Below W2.heap.size W2 V) [(135, .pointer (some ⟨w.heap.size, 11, none⟩)), (136, .slice (some ⟨ab, ao, none⟩) dn e3), (137, .int .i64 (i : Nat)), (138, .pointer (some ⟨ab, ao + i, none⟩)), (139, .int .u32 (u1 : Nat)), (140, .pointer (some ⟨(w.heap.size + 1), 11, none⟩)), (141, .slice (some ⟨bb, bo, none⟩) dn f3), (142, .int .i64 (i : Nat)), (143, .pointer (some ⟨bb, bo + i, none⟩)), (144, .int .u32 (u1 : Nat)), (145, .bool false)] ?Z2 ?hZ2 (by kernel_rfl) (by kernel_rfl) (by kernel_rfl) (by kernel_rfl) ?h02 ?hops2 ?he2
          case hZ2 => simp only [List.foldl_cons, List.foldl_nil, List.setIfInBounds_toArray, List.set_cons_zero, List.set_cons_succ]; rfl
          case h02 => exact HBR.out.drew
          case hops2 =>
            refine ⟨?_, ?_, ?_, ?_, ?_, ?_, ?_, ?_, ?_, ?_, ?_, trivial⟩
            · exact fix_val (by rfl) (fun W hW => by obtain ⟨c0, c1, c2, c3⟩ := HK.out W hW; go_simp; (try with_reducible rfl); (try omega))
            · exact fix_val (by rfl) (fun W hW => by obtain ⟨c0, c1, c2, c3⟩ := HK.out W hW; go_simp; (try with_reducible rfl); (try omega))
            · exact fix_val (by rfl) (fun W hW => by obtain ⟨c0, c1, c2, c3⟩ := HK.out W hW; go_simp; (try with_reducible rfl); (try omega))
            · exact fix_val (by rfl) (fun W hW => by obtain ⟨c0, c1, c2, c3⟩ := HK.out W hW; go_simp; (try with_reducible rfl); (try omega))
            · exact fix_val (by rfl) (fun W hW => by obtain ⟨c0, c1, c2, c3⟩ := HK.out W hW; go_simp; (try with_reducible rfl); (try omega))
            · exact fix_val (by rfl) (fun W hW => by obtain ⟨c0, c1, c2, c3⟩ := HK.out W hW; go_simp; (try with_reducible rfl); (try omega))
            · exact fix_val (by rfl) (fun W hW => by obtain ⟨c0, c1, c2, c3⟩ := HK.out W hW; go_simp; (try with_reducible rfl); (try omega))
            · exact fix_val (by rfl) (fun W hW => by obtain ⟨c0, c1, c2, c3⟩ := HK.out W hW; go_simp; (try with_reducible rfl); (try omega))
            · exact fix_val (by rfl) (fun W hW => by obtain ⟨c0, c1, c2, c3⟩ := HK.out W hW; go_simp; (try with_reducible rfl); (try omega))
            · exact fix_val (by rfl) (fun W hW => by obtain ⟨c0, c1, c2, c3⟩ := HK.out W hW; go_simp; (try with_reducible rfl); (try omega))
            · exact fix_val (by rfl) (fun W hW => by obtain ⟨c0, c1, c2, c3⟩ := HK.out W hW; go_simp; (try with_reducible rfl); (try omega))
          case he2 =>

          intro V hV
          have HV := (show Hid _ from hV)
          clear hV HBR kl HK
          go_wp2
          go_roundw
          case rel => exact ⟨i + 1, by omega, by go_num, HV.out⟩
          case measure => simp [intOf]; omega
        · have hlt1 : ¬ (i : Int) < (dn : Int) := by omega
          go_wp2
          clear kl HK0
          have HBR0 := HBR
          clear HBR
          have k0 := fun V (hV : Below W2.heap.size W2 V) => (HC.out.1.below hV).cell 12 _ rfl
          have HK0 := (show Hid _ from k0)
          clear k0
          go_loopw [7] (fun u wr => ∃ i : Nat, i ≤ pn ∧ u = .int .i64 (i : Nat) ∧ Below W2.heap.size W2 wr) (fun u _ => pn - (intOf u).toNat)
          case atStart => exact ⟨0, by omega, rfl, HBR0.out⟩
          case round =>
            obtain ⟨i, hin, rfl, hbr⟩ := hrel
            have HBR := (show Hid _ from hbr)
            have kl := HK0.out wr hbr
            clear hbr HBR0
            by_cases hlt : i < pn
            · have hlt1 : (i : Int) < (pn : Int) := by omega
              obtain ⟨u, hu⟩ : ∃ u, ps[i]? = some u := ⟨_, List.getElem?_eq_getElem (by have := HR.out.2.2.1.len; omega)⟩
              obtain ⟨ab, ao, rfl, hal, hac⟩ : ∃ b off, p1 = some ⟨b, off, none⟩ ∧ b < w.heap.size ∧ ∀ i p, ps[i]? = some p → p.k < 65536 ∧ ∃ va vc, w.cell? ⟨b, off + i * 2, none⟩ = some (.int .u16 (p.k : Nat)) ∧ w.cell? ⟨b, off + i * 2 + 1, none⟩ = some (.slice va p.zs.length vc) ∧ Sl w va p.zs.length vc p.zs := HR.out.2.2.1.at_.resolve_left (by omega)
              obtain ⟨bb, bo, rfl, hbl, hbc⟩ : ∃ b off, q1 = some ⟨b, off, none⟩ ∧ b < w.heap.size ∧ ∀ i p, ps[i]? = some p → p.k < 65536 ∧ ∃ va vc, w.cell? ⟨b, off + i * 2, none⟩ = some (.int .u16 (p.k : Nat)) ∧ w.cell? ⟨b, off + i * 2 + 1, none⟩ = some (.slice va p.zs.length vc) ∧ Sl w va p.zs.length vc p.zs := HR.out.2.2.2.at_.resolve_left (by omega)
              obtain ⟨u1, uz⟩ := u
              obtain ⟨_, va, vc, a1c, a2c, a3c⟩ := hac i _ hu
              obtain ⟨_, ua, uc, b1c, b2c, b3c⟩ := hbc i _ hu
              dsimp only at a1c a2c b1c b2c a3c b3c
              obtain ⟨sv, hsv⟩ : ∃ sv, sv = strOf uz := ⟨_, rfl⟩
              obtain ⟨vn, hvn⟩ : ∃ vn, vn = uz.length := ⟨_, rfl⟩
              rw [← hvn] at a2c a3c b2c b3c
              have HK : Hid (∀ V, Below W2.heap.size W2 V → V.cell? ⟨w.heap.size, 12, none⟩ = some (.slice (some ⟨ab, ao, none⟩) pn p3) ∧ V.cell? ⟨w.heap.size + 1, 12, none⟩ = some (.slice (some ⟨bb, bo, none⟩) pn q3) ∧ V.cell? ⟨ab, ao + i * 2, none⟩ = some (.int .u16 (u1 : Nat)) ∧ V.cell? ⟨ab, ao + i * 2 + 1, none⟩ = some (.slice va vn vc) ∧ V.cell? ⟨bb, bo + i * 2, none⟩ = some (.int .u16 (u1 : Nat)) ∧ V.cell? ⟨bb, bo + i * 2 + 1, none⟩ = some (.slice ua vn uc) ∧ (convert 30 9 (.slice va vn vc)).run Tryd.prog V = .ok (.string sv) V ∧ (convert 30 9 (.slice ua vn uc)).run Tryd.prog V = .ok (.string sv) V) := by
                intro V hV
                have hwV : Below w.heap.size w V := HB2.out.trans (hV.mono HB2.out.size)
                exact ⟨(HC.out.1.below hV).cell 12 _ rfl, (HC.out.2.below hV).cell 12 _ rfl, (hwV.cell (p := ⟨ab, _, none⟩) hal).trans a1c, (hwV.cell (p := ⟨ab, _, none⟩) hal).trans a2c, (hwV.cell (p := ⟨bb, _, none⟩) hbl).trans b1c, (hwV.cell (p := ⟨bb, _, none⟩) hbl).trans b2c, by rw [hsv]; exact conv_str (a3c.below hwV), by rw [hsv]; exact conv_str (b3c.below hwV)⟩
              have hca := HR.out.2.2.1.cap
              have hcb := HR.out.2.2.2.cap
              have hsm := HR.out.2.2.1.small
              clear a1c b1c a2c b2c a3c b3c hac hbc hu hsv hvn
              go_wp2_with fail
              refine wp_region_fixW mixedX (fun V => Below W2.heap.size W2 V) [(153, .pointer (some ⟨w.heap.size, 12, none⟩)), (154, .slice (some ⟨ab, ao, none⟩) pn p3), (155, .int .i64 (i : Nat)), (156, .pointer (some ⟨ab, ao + i * 2, none⟩)), (157, .pointer (some ⟨ab, ao + i * 2, none⟩)), (158, .int .u16 (u1 : Nat)), (159, .pointer (some ⟨(w.heap.size + 1), 12, none⟩)), (160, .slice (some ⟨bb, bo, none⟩) pn q3), (161, .int .i64 (i : Nat)), (162, .pointer (some ⟨bb, bo + i * 2, none⟩)), (163, .pointer (some ⟨bb, bo + i * 2, none⟩)), (164, .int .u16 (u1 : Nat)), (165, .bool false), (166, .bool false), (167, .pointer (some ⟨w.heap.size, 12, none⟩)), (168, .slice (some ⟨ab, ao, none⟩) pn p3), (169, .int .i64 (i : Nat)), (170, .pointer (some ⟨ab, ao + i * 2, none⟩)), (171, .pointer (some ⟨ab, ao + i * 2 + 1, none⟩)), (172, .slice va vn vc), (173, .string sv), (174, .pointer (some ⟨(w.heap.size + 1), 12, none⟩)), (175, .slice (some ⟨bb, bo, none⟩) pn q3), (176, .int .i64 (i : Nat)), (177, .pointer (some ⟨bb, bo + i * 2, none⟩)), (178, .pointer (some ⟨bb, bo + i * 2 + 1, none⟩)), (179, .slice ua vn uc), (180, .string sv), (181, .bool false), (182, .bool false)] ?Z3 ?hZ3 (by kernel_rfl) (by kernel_rfl) (by kernel_rfl) (by kernel_rfl) ?h03 ?hops3 ?he3
              case hZ3 => simp only [List.foldl_cons, List.foldl_nil, List.setIfInBounds_toArray, List.set_cons_zero, List.set_cons_succ]; rfl
              case h03 => exact HBR.out.drew
              case hops3 =>
                refine ⟨?_, ?_, ?_, ?_, ?_, ?_, ?_, ?_, ?_, ?_, ?_, ?_, ?_, ?_, ?_, ?_, ?_, ?_, ?_, ?_, ?_, ?_, ?_, ?_, ?_, ?_, ?_, ?_, ?_, ?_, trivial⟩
                · exact fix_val (by rfl) (fun W hW => by obtain ⟨c0, c1, c2, c3, c4, c5, c6, c7⟩ := HK.out W hW; go_simp; (try with_reducible rfl); (try omega))
                · exact fix_val (by rfl) (fun W hW => by obtain ⟨c0, c1, c2, c3, c4, c5, c6, c7⟩ := HK.out W hW; go_simp; (try with_reducible rfl); (try omega))
                · exact fix_val (by rfl) (fun W hW => by obtain ⟨c0, c1, c2, c3, c4, c5, c6, c7⟩ := HK.out W hW; go_simp; (try with_reducible rfl); (try omega))
                · exact fix_val (by rfl) (fun W hW => by obtain ⟨c0, c1, c2, c3, c4, c5, c6, c7⟩ := HK.out W hW; go_simp; (try with_reducible rfl); (try omega))
                · exact fix_val (by rfl) (fun W hW => by obtain ⟨c0, c1, c2, c3, c4, c5, c6, c7⟩ := HK.out W hW; go_simp; (try with_reducible rfl); (try omega))
                · exact fix_val (by rfl) (fun W hW => by obtain ⟨c0, c1, c2, c3, c4, c5, c6, c7⟩ := HK.out W hW; go_simp; (try with_reducible rfl); (try omega))
                · exact fix_val (by rfl) (fun W hW => by obtain ⟨c0, c1, c2, c3, c4, c5, c6, c7⟩ := HK.out W hW; go_simp; (try with_reducible rfl); (try omega))
                · exact fix_val (by rfl) (fun W hW => by obtain ⟨c0, c1, c2, c3, c4, c5, c6, c7⟩ := HK.out W hW; go_simp; (try with_reducible rfl); (try omega))
                · exact fix_val (by rfl) (fun W hW => by obtain ⟨c0, c1, c2, c3, c4, c5, c6, c7⟩ := HK.out W hW; go_simp; (try with_reducible rfl); (try omega))
                · exact fix_val (by rfl) (fun W hW => by obtain ⟨c0, c1, c2, c3, c4, c5, c6, c7⟩ := HK.out W hW; go_simp; (try with_reducible rfl); (try omega))
                · exact fix_val (by rfl) (fun W hW => by obtain ⟨c0, c1, c2, c3, c4, c5, c6, c7⟩ := HK.out W hW; go_simp; (try with_reducible rfl); (try omega))
                · exact fix_val (by rfl) (fun W hW => by obtain ⟨c0, c1, c2, c3, c4, c5, c6, c7⟩ := HK.out W hW; go_simp; (try with_reducible rfl); (try omega))
                · exact fix_val (by rfl) (fun W hW => by obtain ⟨c0, c1, c2, c3, c4, c5, c6, c7⟩ := HK.out W hW; go_simp; (try with_reducible rfl); (try omega))
                · exact fix_val (by rfl) (fun W hW => by obtain ⟨c0, c1, c2, c3, c4, c5, c6, c7⟩ := HK.out W hW; go_simp; (try with_reducible rfl); (try omega))
                · exact fix_val (by rfl) (fun W hW => by obtain ⟨c0, c1, c2, c3, c4, c5, c6, c7⟩ := HK.out W hW; go_simp; (try with_reducible rfl); (try omega))
                · exact fix_val (by rfl) (fun W hW => by obtain ⟨c0, c1, c2, c3, c4, c5, c6, c7⟩ := HK.out W hW; go_simp; (try with_reducible rfl); (try omega))
                · exact fix_val (by rfl) (fun W hW => by obtain ⟨c0, c1, c2, c3, c4, c5, c6, c7⟩ := HK.out W hW; go_simp; (try with_reducible rfl); (try omega))
                · exact fix_val (by rfl) (fun W hW => by obtain ⟨c0, c1, c2, c3, c4, c5, c6, c7⟩ := HK.out W hW; go_simp; (try with_reducible rfl); (try omega))
                · exact fix_val (by rfl) (fun W hW => by obtain ⟨c0, c1, c2, c3, c4, c5, c6, c7⟩ := HK.out W hW; go_simp; (try with_reducible rfl); (try omega))
                · exact fix_val (by rfl) (fun W hW => by obtain ⟨c0, c1, c2, c3, c4, c5, c6, c7⟩ := HK.out W hW; go_simp; (try with_reducible rfl); (try omega))
                · exact fix_val (by rfl) (fun W hW => by obtain ⟨c0, c1, c2, c3, c4, c5, c6, c7⟩ := HK.out W hW; go_simp; (try with_reducible rfl); (try omega))
                · exact fix_val (by rfl) (fun W hW => by obtain ⟨c0, c1, c2, c3, c4, c5, c6, c7⟩ := HK.out W hW; go_simp; (try with_reducible rfl); (try omega))
                · exact fix_val (by rfl) (fun W hW => by obtain ⟨c0, c1, c2, c3, c4, c5, c6, c7⟩ := HK.out W hW; go_simp; (try with_reducible rfl); (try omega))
                · exact fix_val (by rfl) (fun W hW => by obtain ⟨c0, c1, c2, c3, c4, c5, c6, c7⟩ := HK.out W hW; go_simp; (try with_reducible rfl); (try omega))
                · exact fix_val (by rfl) (fun W hW => by obtain ⟨c0, c1, c2, c3, c4, c5, c6, c7⟩ := HK.out W hW; go_simp; (try with_reducible rfl); (try omega))
                · exact fix_val (by rfl) (fun W hW => by obtain ⟨c0, c1, c2, c3, c4, c5, c6, c7⟩ := HK.out W hW; go_simp; (try with_reducible rfl); (try omega))
                · exact fix_val (by rfl) (fun W hW => by obtain ⟨c0, c1, c2, c3, c4, c5, c6, c7⟩ := HK.out W hW; go_simp; (try with_reducible rfl); (try omega))
                · exact fix_val (by rfl) (fun W hW => by obtain ⟨c0, c1, c2, c3, c4, c5, c6, c7⟩ := HK.out W hW; go_simp; (try with_reducible rfl); (try omega))
                · exact fix_val (by rfl) (fun W hW => by obtain ⟨c0, c1, c2, c3, c4, c5, c6, c7⟩ := HK.out W hW; go_simp; (try with_reducible rfl); (try omega))
                · exact fix_val (by rfl) (fun W hW => by obtain ⟨c0, c1, c2, c3, c4, c5, c6, c7⟩ := HK.out W hW; go_simp; (try with_reducible rfl); (try omega))
              case he3 =>

              intro V hV
              have HV := (show Hid _ from hV)
              clear hV HBR kl HK
              go_wp2
              go_roundw
              case rel => exact ⟨i + 1, by omega, by go_num, HV.out⟩
              case measure => simp [intOf]; omega
            · have hlt1 : ¬ (i : Int) < (pn : Int) := by omega
              go_wp2
              clear kl HK0
              have HBR0 := HBR
              clear HBR
              go_ret
              exact ⟨rfl, HB2.out.trans (HBR0.out.mono HB2.out.size)⟩
end Go.Proofs.YtlgfbcfogcmdbaaDoor
namespace Go.Proofs.YtlgfbcfogcmdbaaDoor
open Go.RowKit
theorem fix_load {P : Program} {ops : Array Oper} {F Z : Array Value} {G : World → Prop} {o : Oper} (hw : Region.wanted o (yielded ops F) = true) (ty : TypeId) (x : Operand) (ho : o.op = .load ty x) (b off : Nat) (hx : Act.eval ⟨F, []⟩ x = .pointer (some ⟨b, off, none⟩)) (cs : List Value) (d : TypeDesc) (hS : ∀ w, G w → w.rangeAt b off cs)
    (hu : P.underlying ty = some d) (hd : d.isRow = true) (hi : (P.info? ty).map (·.size) = some cs.length) (hZ : (o.dst.map (fun d => Z.getD d undef)).getD undef = .agg cs.toArray) : FixOp P ops F Z G o :=
  fix_val hw (fun w hG => by
    unfold execOp
    simp only [ho, hx, Instr.loadAt, Instr.sureAddr, Sem.run_bind, Sem.run_pure, Result.andThen_ok, run_loadVar_mid w b off ty cs d (hS w hG) hu hd hi, hZ])
theorem same_lies {w : World} {c : CD} {cs ds : List Value} (h1 : ChL w c cs) (h2 : ChL w c ds) : Calls Tryd.prog 15 #[.agg cs.toArray, .agg ds.toArray] w fun e w' => e = .returned (.bool true) ∧ Below w.heap.size w w' := by
  obtain ⟨b1, b3, d1, d3, p1, p3, x1, x3, rfl, k1, k2, k3, k4⟩ := h1.ex
  obtain ⟨b1', b3', d1', d3', p1', p3', x1', x3', rfl, k1', k2', k3', k4'⟩ := h2.ex
  exact same_yes _ _ _ _ _ _ _ _ _ _ _ _ _ _ _ _ _ _ _ _ _ _ _ _ _ _ _ _ _ _ c.bs c.ds c.ps c.xs w k1 k1' k2 k2' k3 k3' k4 k4'
set_option linter.unusedVariables false in
set_option maxRecDepth 100000 in
set_option maxHeartbeats 8000000 in
theorem sameAll_yes {w : World} {a : Option Addr} {n c : Nat} {a2 : Option Addr} {c2 : Nat} {cds : List CD} (h1 : ChsL w a n c cds) (h2 : ChsL w a2 n c2 cds) :
    Calls Tryd.prog 5 #[.slice a n c, .slice a2 n c2] w fun e w' => e = .returned (.bool true) ∧ Below w.heap.size w w' := by
  have hcap := h1.cap
  have hcap2 := h2.cap
  have hsm := h1.small
  have hlen := h1.len
  have HR := (show Hid _ from And.intro h1 h2)
  have HBR0 : Hid (Below w.heap.size w w) := Below.refl _ _
  clear h1 h2
  go_enter Tryd.func5, Tryd.ntmps5
  go_wp2
  go_loopw [5] (fun u wr => ∃ i : Nat, i ≤ n ∧ u = .int .i64 (i : Nat) ∧ Below w.heap.size w wr) (fun u _ => n - (intOf u).toNat)
  case atStart => exact ⟨0, by omega, rfl, HBR0.out⟩
  case round =>
    obtain ⟨i, hin, rfl, hbr⟩ := hrel
    have HBR := (show Hid _ from hbr)
    clear hbr HBR0
    by_cases hlt : i < n
    · have hlt1 : (i : Int) < (n : Int) := by omega
      obtain ⟨d, hd⟩ : ∃ d, cds[i]? = some d := ⟨_, List.getElem?_eq_getElem (by omega)⟩
      obtain ⟨ab, ao, rfl, hal, hac⟩ : ∃ b off, a = some ⟨b, off, none⟩ ∧ b < w.heap.size ∧ ∀ i d, cds[i]? = some d → ∃ cs, ChL w d cs ∧ w.rangeAt b (off + i * 14) cs := HR.out.1.at_.resolve_left (by omega)
      obtain ⟨bb, bo, rfl, hbl, hbc⟩ : ∃ b off, a2 = some ⟨b, off, none⟩ ∧ b < w.heap.size ∧ ∀ i d, cds[i]? = some d → ∃ cs, ChL w d cs ∧ w.rangeAt b (off + i * 14) cs := HR.out.2.at_.resolve_left (by omega)
      obtain ⟨cs, k1, r1⟩ := hac i d hd
      obtain ⟨ds, k2, r2⟩ := hbc i d hd
      have hcl := k1.c14.1
      have hdl := k2.c14.1
      have HRG : Hid (∀ V, Below w.heap.size w V → V.rangeAt ab (ao + i * 14) cs ∧ V.rangeAt bb (bo + i * 14) ds) := fun V hV => ⟨fun j u hu => (hV.cell (p := ⟨ab, ao + i * 14 + j, none⟩) hal).trans (r1 j u hu), fun j u hu => (hV.cell (p := ⟨bb, bo + i * 14 + j, none⟩) hbl).trans (r2 j u hu)⟩
      have HSM := (show Hid _ from fun V (hV : Below w.heap.size w V) => same_lies (k1.below hV) (k2.below hV))
      clear k1 k2 r1 r2 hac hbc hd
      go_wp2_with fail
      refine wp_region_fixW mixedX (fun V => Below w.heap.size w V) [(17, .slice (some ⟨ab, ao, none⟩) n c), (18, .int .i64 (i : Nat)), (19, .pointer (some ⟨ab, ao + i * 14, none⟩)), (20, .agg cs.toArray), (21, .slice (some ⟨bb, bo, none⟩) n c2), (22, .int .i64 (i : Nat)), (23, .pointer (some ⟨bb, bo + i * 14, none⟩)), (24, .agg ds.toArray), (25, .bool true), (26, .bool false)] ?Z1 ?hZ1 (by kernel_rfl) (by kernel_rfl) (by kernel_rfl) (by kernel_rfl) ?h01 ?hops1 ?he1
      case hZ1 => simp only [List.foldl_cons, List.foldl_nil, List.setIfInBounds_toArray, List.set_cons_zero, List.set_cons_succ]; rfl
      case h01 => exact HBR.out.drew
      case hops1 =>
        refine ⟨?_, ?_, ?_, ?_, ?_, ?_, ?_, ?_, ?_, ?_, trivial⟩
        · exact fix_val (by rfl) (fun W hW => by go_simp; (try with_reducible rfl); (try omega))
        · exact fix_val (by rfl) (fun W hW => by go_simp; (try with_reducible rfl); (try omega))
        · exact fix_val (by rfl) (fun W hW => by go_simp; (try with_reducible rfl); (try omega))
        · exact fix_load (by rfl) 32 (.tmp 19) rfl ab (ao + i * 14) rfl cs _ (fun W hW => (HRG.out W hW).1) Tryd.underlying32 rfl (ch_size14 _ hcl) rfl
        · exact fix_val (by rfl) (fun W hW => by go_simp; (try with_reducible rfl); (try omega))
        · exact fix_val (by rfl) (fun W hW => by go_simp; (try with_reducible rfl); (try omega))
        · exact fix_val (by rfl) (fun W hW => by go_simp; (try with_reducible rfl); (try omega))
        · exact fix_load (by rfl) 32 (.tmp 23) rfl bb (bo + i * 14) rfl ds _ (fun W hW => (HRG.out W hW).2) Tryd.underlying32 rfl (ch_size14 _ hdl) rfl
        · exact fix_call (vs := [.agg cs.toArray, .agg ds.toArray]) (by rfl) rfl (by rfl) Tryd.func15 (by rfl) (by rfl) (fun W hW => by exact (HSM.out W hW).mono (fun e V h => ⟨h.1, hW.trans (h.2.mono hW.size)⟩))
        · exact fix_val (by rfl) (fun W hW => by go_simp; (try with_reducible rfl); (try omega))
      case he1 =>

      intro V hV
      have HV := (show Hid _ from hV)
      clear hV HBR HRG HSM
      go_wp2
      go_roundw
      case rel => exact ⟨i + 1, by omega, by go_num, HV.out⟩
      case measure => simp [intOf]; omega
    · have hlt1 : ¬ (i : Int) < (n : Int) := by omega
      go_wp2
      go_ret
      exact ⟨rfl, HBR.out⟩
end Go.Proofs.YtlgfbcfogcmdbaaDoor
namespace Go.Proofs.YtlgfbcfogcmdbaaDoor
open Go.RowKit
structure TkE (w : World) (er : Int) (e : Ending) (w' : World) : Prop where
  ex : e = .returned (.tuple #[.agg #[.int .u16 0, .int .u16 0, .int .u32 0], .slice none 0 0, .int .i64 er])
  bel : Below w.heap.size w w'
set_option linter.unusedVariables false in
set_option maxRecDepth 100000 in
set_option maxHeartbeats 4000000 in
theorem take_sum {w : World} {b off m c : Nat} {zs : List Nat} (hs : Sl w (some ⟨b, off, none⟩) m c zs) (h16 : 16 ≤ m) (h1480 : m ≤ 1480) (hsum : stampedB zs = false) :
    Calls Tryd.prog 8 #[.slice (some ⟨b, off, none⟩) m c] w (TkE w 5) := by
  have hl := hs.len
  have hz := zero_head
  obtain ⟨W1, hW1⟩ : ∃ W1, W1 = w.alloc (.cells #[.int .u16 0, .int .u16 0, .int .u32 0] 25) := ⟨_, rfl⟩
  have b1 : Below w.heap.size w W1 := by rw [hW1]; exact (Below.refl _ _).alloc (Nat.le_refl _) _
  have s1 := Stc.new w [.int .u16 0, .int .u16 0, .int .u32 0] 25 W1 hW1
  have HST := (show Hid _ from stamped_any _ m c zs W1 (hs.below b1) (by omega))
  rw [hsum] at HST
  have HS1 := (show Hid _ from And.intro s1 b1)
  clear b1 s1 hs hsum hl
  go_enter Tryd.func8, Tryd.ntmps8
  go_wp2_with fail
  rw [← hW1]
  clear hW1 hz
  refine Calls.mono HST.out ?_
  clear HST
  rintro e w2 ⟨rfl, b2⟩
  have s3 := HS1.out.1.below b2
  have HS2 : Hid (Stc w2 w.heap.size [.int .u16 0, .int .u16 0, .int .u32 0] ∧ Below w.heap.size w w2) := ⟨s3, HS1.out.2.trans (b2.mono HS1.out.2.size)⟩
  have g0 := s3.free 0
  have g1 := s3.free 1
  have g2 := s3.free 2
  have d0 := s3.cell 0 _ rfl
  have d1 := s3.cell 1 _ rfl
  have d2 := s3.cell 2 _ rfl
  clear HS1 b2 s3
  have hz := zero_head
  go_wp2
  try simp only [Exit.inBlock, Exit.then]
  obtain ⟨s3, hb⟩ := HS2.out
  have hput := s3.put [.int .u16 0, .int .u16 0, .int .u32 0] rfl
  have hff := fr_setCellsX w.heap.size [.int .u16 0, .int .u16 0, .int .u32 0] 0 w2
  refine bodyPost_ret (results_cellE3 rfl _ _ w.heap.size 0 [.int .u16 0, .int .u16 0, .int .u32 0] _ rfl hput.range Tryd.underlying25 rfl (by kernel_rfl)) rfl ?_
  exact ⟨rfl, hb.trans (hff.below _ hb.size (fun k hk => by omega))⟩
end Go.Proofs.YtlgfbcfogcmdbaaDoor
namespace Go.Proofs.YtlgfbcfogcmdbaaDoor
open Go.RowKit
def c11 : List Value := [.int .u8 11, .int .u8 0, .int .u32 0, .int .u16 0, .int .u16 0, .int .u32 0, .int .u32 0, .int .u32 0, .int .u16 0, .int .u16 0, .slice none 0 0, .slice none 0 0, .slice none 0 0, .slice none 0 0]
theorem c11_one : ∀ u ∈ c11, u.oneCell' = true := by
  unfold c11
  intro v hv
  simp at hv
  rcases hv with rfl | rfl | rfl | rfl | rfl | rfl | rfl <;> rfl
def lvB : List Nat := hdB 1 2 3 ++ [11, 0, 0, 4]
theorem lvB_eq : lvB = [0, 1, 0, 2, 0, 0, 0, 3, 0, 0, 0, 0, 11, 0, 0, 4] := by decide
theorem lvB_blank : blank lvB = lvB := by rw [lvB_eq]; decide
theorem lv_stamp : ∃ x0 x1 x2 x3, stampV lvB = [0, 1, 0, 2, 0, 0, 0, 3, x0, x1, x2, x3, 11, 0, 0, 4] := by
  unfold stampV
  rw [lvB_blank, if_neg (by rw [lvB_eq]; decide)]
  generalize crc lvB = X
  rw [lvB_eq]
  exact ⟨X % 256, X / 256 % 256, X / 65536 % 256, X / 16777216 % 256, rfl⟩
/-- One chunk that has nothing, in a row of its own. -/
theorem lv_row (w W : World) (hW : W = w.alloc (.cells c11.toArray 32)) : CkR W (some ⟨w.heap.size, 0, none⟩) 1 1 (fun _ => c11) (fun _ => 0) (fun _ => .iface 100 (.agg #[])) (fun _ => 4) := by
  have s := Stc.new w c11 32 W hW
  have hk : (11 : Nat) = 8 ∨ (11 : Nat) = 11 ∨ (11 : Nat) = 14 := .inr (.inl rfl)
  exact ⟨Nat.le_refl _, by decide, fun _ _ => rfl, fun _ _ => c11_one, .inr ⟨w.heap.size, 0, rfl, s.lt, fun j hj => by
    have : j = 0 := by omega
    subst this
    exact s.range⟩, fun _ _ V _ => check_none 11 0 0 0 0 0 0 0 0 0 none 0 0 none 0 0 none 0 0 none 0 0 V hk, fun _ _ _ V _ => valueOf_none 11 0 0 0 0 0 0 0 0 0 none 0 0 none 0 0 none 0 0 none 0 0 V hk, fun _ _ _ V _ => space_none V _ rfl, fun _ _ _ => by decide⟩
theorem lv_put (w : World) : CkB w 1 (fun _ => c11) (fun _ => 0) (fun _ => 4) (fun _ => [11, 0, 0, 4]) :=
  ⟨fun _ _ _ W q zs hw _ _ h4 hb => wchunk_none hw 11 0 0 0 0 0 0 0 0 0 none 0 0 none 0 0 none 0 0 none 0 0 (.inr (.inl rfl)) (by decide) h4 (by omega), fun _ _ _ => rfl, fun _ _ _ => rfl⟩
set_option linter.unusedVariables false in
set_option maxRecDepth 100000 in
set_option maxHeartbeats 8000000 in
theorem live12_any (w : World) (hname : ∀ W, Below w.heap.size w W → Calls Tryd.prog 17 #[.int .u8 3] W fun e w' => e = .returned (.string ⟨#[83, 65, 67, 75]⟩) ∧ Below W.heap.size W w') :
    Calls Tryd.prog 6 #[] w fun e w' => e = .returned (.bool true) ∧ Below w.heap.size w w' := by
  obtain ⟨W1, hW1⟩ : ∃ W1, W1 = w.alloc (.cells c11.toArray 32) := ⟨_, rfl⟩
  have b1 : Below w.heap.size w W1 := by rw [hW1]; exact (Below.refl _ _).alloc (Nat.le_refl _) _
  have HP := (show Hid _ from put_any (lv_row w W1 hW1) (lv_put W1) 1 2 3 (by decide) (by decide) (by decide))
  obtain ⟨x0, x1, x2, x3, hst⟩ := lv_stamp
  have hE : mbE (fun _ => 0) (fun _ => 4) 1 = 0 := by decide
  have hpv : putV 1 2 3 (fun _ => 0) (fun _ => 4) (fun _ => [11, 0, 0, 4]) 1 = stampV lvB := by
    unfold putV
    rw [if_pos hE]
    rfl
  rw [hpv, hE] at HP
  have hsum : stampedB (stampV lvB) = true := stamped_stamp lvB (by rw [lvB_eq]; decide)
  obtain ⟨ys, hys⟩ : ∃ ys, ys = stampV lvB := ⟨_, rfl⟩
  rw [← hys] at HP hst hsum
  have hyl : ys.length = 16 := by rw [hst]; rfl
  have HYS := (show Hid _ from And.intro hst hsum)
  have HB1 := (show Hid _ from b1)
  have HNM := (show Hid _ from hname)
  clear hE hpv hst hsum hys b1 hname
  unfold c11 at hW1
  go_enter Tryd.func6, Tryd.ntmps6
  go_wp2_with fail
  rw [← hW1]
  clear hW1
  refine Calls.mono HP.out ?_
  clear HP
  rintro e w2 hR
  obtain ⟨a, c, rfl, ho⟩ := hR.ex
  rw [hyl] at ho ⊢
  have hb2 : Below w.heap.size w w2 := HB1.out.trans (hR.bel.mono HB1.out.size)
  have hs := ho.sl (by decide)
  obtain ⟨b, off, hab, hbl, hcell⟩ : ∃ b off, a = some ⟨b, off, none⟩ ∧ b < w2.heap.size ∧ ∀ i, i < 16 → w2.cell? ⟨b, off + i, none⟩ = some (.int .u8 (ys.getD i 0 : Nat)) := by
    rcases hs.at_ with e | e
    · omega
    · exact e
  subst hab
  have hy12 : ys.getD 12 0 = 11 := by rw [HYS.out.1]; rfl
  have hy15 : ys.getD 15 0 = 4 := by rw [HYS.out.1]; rfl
  have v12 := hcell 12 (by decide)
  have v15 := hcell 15 (by decide)
  rw [hy12] at v12
  rw [hy15] at v15
  have hcap := hs.cap
  have HT := (show Hid _ from take_ok hs (by decide) (by decide) HYS.out.2 1 (fun _ => ⟨c11, rfl, c11_one⟩) (fun i => if i = 0 then ys.drop 12 else []) rfl rfl (fun i hi => by
    have : i = 0 := by omega
    subst this
    rw [HYS.out.1]
    show [11, 0, 0, 4] ≠ []
    decide) (by decide) (fun i hi W0 q W hW => by
    have : i = 0 := by omega
    subst this
    have e1 : (if (0 : Nat) = 0 then ys.drop 12 else []) = [11, 0, 0, 4] := by rw [HYS.out.1]; rfl
    have e2 : (if (0 : Nat) + 1 = 0 then ys.drop 12 else []) = [] := rfl
    rw [e1] at hW
    rw [e2]
    exact rchunk_none 11 0 hW 0 (by decide) (.inr (.inl rfl)) (by decide)))
  have hn3 : numB ((ys.drop 4).take 4) = 3 := by rw [HYS.out.1]; rfl
  rw [hn3] at HT
  have HB2 := (show Hid _ from hb2)
  clear hs ho hR HB1 hcell hy12 hy15 hb2
  generalize numB (ys.take 2) = n1 at *
  generalize numB ((ys.drop 2).take 2) = n2 at *
  go_wp2_with fail
  refine Calls.mono HT.out ?_
  clear HT
  rintro e w3 hR
  obtain ⟨la, lc, rfl, ho⟩ := hR.ex
  have hb3 : Below w.heap.size w w3 := HB2.out.trans (hR.bel.mono HB2.out.size)
  have u12 := (hR.bel.cell (p := ⟨b, off + 12, none⟩) hbl).trans v12
  have u15 := (hR.bel.cell (p := ⟨b, off + 15, none⟩) hbl).trans v15
  have hbl3 : b < w3.heap.size := Nat.lt_of_lt_of_le hbl hR.bel.size
  obtain ⟨lg, hla, _, hlg, hlc, _, hcl, _⟩ := OwnG.at_ ho (fun x => x.2.1) (by decide)
  subst hla
  have l0 := hcl 0 _ rfl 0 _ rfl
  simp only [Nat.zero_mul, Nat.add_zero] at l0
  obtain ⟨W4, hW4⟩ : ∃ W4, W4 = w3.alloc (.cells #[.int .u16 (n1 : Nat), .int .u16 (n2 : Nat), .int .u32 3] 25) := ⟨_, rfl⟩
  have b4 : Below w3.heap.size w3 W4 := by rw [hW4]; exact (Below.refl _ _).alloc (Nat.le_refl _) _
  obtain ⟨W5, hW5⟩ : ∃ W5, W5 = W4.alloc (.cells #[.int .u8 1] 5) := ⟨_, rfl⟩
  have b5 : Below W4.heap.size W4 W5 := by rw [hW5]; exact (Below.refl _ _).alloc (Nat.le_refl _) _
  have HB5 : Hid (Below w.heap.size w W5) := (hb3.trans (b4.mono hb3.size)).trans (b5.mono (Nat.le_trans hb3.size b4.size))
  have HSZ : Hid (Calls Tryd.prog 16 #[.agg #[.int .u8 0, .int .u8 0, .int .u32 0, .int .u16 0, .int .u16 0, .int .u32 0, .int .u32 0, .int .u32 0, .int .u16 0, .int .u16 0, .slice none 0 0, .slice none 0 0, .slice none 0 0, .slice (some ⟨W4.heap.size, 0, none⟩) 1 1]] W5 fun e w' => e = .returned (.int .i64 20) ∧ Below W5.heap.size W5 w') := sizeC_data 0 0 0 0 0 0 0 0 0 0 none 0 0 none 0 0 none 0 0 (some ⟨W4.heap.size, 0, none⟩) 1 1 W5 rfl (by decide)
  have z4 : W4.heap.size = w3.heap.size + 1 := by rw [hW4]; simp
  rw [z4] at HSZ
  clear hR ho hcl HB2 hb3 v12 v15 b4 b5 z4
  go_wp2_with fail
  rw [← hW4, ← hW5]
  clear hW4 hW5
  refine Calls.mono HSZ.out ?_
  clear HSZ
  rintro e w6 ⟨rfl, b6⟩
  have HB6 : Hid (Below w.heap.size w w6) := HB5.out.trans (b6.mono HB5.out.size)
  clear b6 HB5 u12 u15 l0
  go_wp2_with fail
  refine Calls.mono (HNM.out w6 HB6.out) ?_
  rintro e w7 ⟨rfl, b7⟩
  have HB7 : Hid (Below w.heap.size w w7) := HB6.out.trans (b7.mono HB6.out.size)
  clear b7 HB6 HNM
  go_wp2
  go_ret
  exact ⟨rfl, HB7.out⟩
end Go.Proofs.YtlgfbcfogcmdbaaDoor
namespace Go.Proofs.YtlgfbcfogcmdbaaDoor
open Go.RowKit
def nmS : List (List UInt8) := [[68, 65, 84, 65], [73, 78, 73, 84], [73, 78, 73, 84, 32, 65, 67, 75], [83, 65, 67, 75], [72, 69, 65, 82, 84, 66, 69, 65, 84], [72, 69, 65, 82, 84, 66, 69, 65, 84, 32, 65, 67, 75], [65, 66, 79, 82, 84], [83, 72, 85, 84, 68, 79, 87, 78], [83, 72, 85, 84, 68, 79, 87, 78, 32, 65, 67, 75], [69, 82, 82, 79, 82], [67, 79, 79, 75, 73, 69, 32, 69, 67, 72, 79], [67, 79, 79, 75, 73, 69, 32, 65, 67, 75], [], [], [83, 72, 85, 84, 68, 79, 87, 78, 32, 67, 79, 77, 80, 76, 69, 84, 69]]
/-- The names lie where the program's text lays them. -/
def NW (w : World) : Prop := 0 < w.heap.size ∧ ∀ i s, nmS[i]? = some s → w.cell? ⟨0, i, none⟩ = some (.string ⟨s.toArray⟩)
theorem NW.below {w w' : World} (h : NW w) (hb : Below w.heap.size w w') : NW w' :=
  ⟨Nat.lt_of_lt_of_le h.1 hb.size, fun i s hs => (hb.cell (p := ⟨0, i, none⟩) h.1).trans (h.2 i s hs)⟩
def nmV (k : Nat) : ByteArray := if (nmS.getD k []) = [] then ⟨#[85, 78, 75, 78, 79, 87, 78]⟩ else ⟨(nmS.getD k []).toArray⟩
set_option linter.unusedVariables false in
set_option maxRecDepth 100000 in
set_option maxHeartbeats 8000000 in
theorem name_any (k : Nat) (hk : k < 256) (w : World) (h : NW w) : Calls Tryd.prog 17 #[.int .u8 (k : Nat)] w fun e w' => e = .returned (.string (nmV k)) ∧ Below w.heap.size w w' := by
  by_cases h15 : 15 ≤ k
  · have hv : nmV k = ⟨#[85, 78, 75, 78, 79, 87, 78]⟩ := by
      unfold nmV
      rw [if_pos]
      rw [List.getD_eq_getElem?_getD, List.getElem?_eq_none (by simpa [nmS] using h15)]
      rfl
    rw [hv]
    have g : (15 : Int) ≤ (k : Int) := by omega
    clear h hv
    go_enter Tryd.func17, Tryd.ntmps17
    go_wp2
    go_ret
    exact ⟨rfl, Below.refl _ _⟩
  · have hlt := h.1
    rcases (show k = 0 ∨ k = 1 ∨ k = 2 ∨ k = 3 ∨ k = 4 ∨ k = 5 ∨ k = 6 ∨ k = 7 ∨ k = 8 ∨ k = 9 ∨ k = 10 ∨ k = 11 ∨ k = 12 ∨ k = 13 ∨ k = 14 by omega) with rfl | rfl | rfl | rfl | rfl | rfl | rfl | rfl | rfl | rfl | rfl | rfl | rfl | rfl | rfl
    · have c0 := h.2 0 _ rfl
      go_enter Tryd.func17, Tryd.ntmps17
      go_wp2
      go_ret
      exact ⟨rfl, Below.refl _ _⟩
    · have c0 := h.2 1 _ rfl
      go_enter Tryd.func17, Tryd.ntmps17
      go_wp2
      go_ret
      exact ⟨rfl, Below.refl _ _⟩
    · have c0 := h.2 2 _ rfl
      go_enter Tryd.func17, Tryd.ntmps17
      go_wp2
      go_ret
      exact ⟨rfl, Below.refl _ _⟩
    · have c0 := h.2 3 _ rfl
      go_enter Tryd.func17, Tryd.ntmps17
      go_wp2
      go_ret
      exact ⟨rfl, Below.refl _ _⟩
    · have c0 := h.2 4 _ rfl
      go_enter Tryd.func17, Tryd.ntmps17
      go_wp2
      go_ret
      exact ⟨rfl, Below.refl _ _⟩
    · have c0 := h.2 5 _ rfl
      go_enter Tryd.func17, Tryd.ntmps17
      go_wp2
      go_ret
      exact ⟨rfl, Below.refl _ _⟩
    · have c0 := h.2 6 _ rfl
      go_enter Tryd.func17, Tryd.ntmps17
      go_wp2
      go_ret
      exact ⟨rfl, Below.refl _ _⟩
    · have c0 := h.2 7 _ rfl
      go_enter Tryd.func17, Tryd.ntmps17
      go_wp2
      go_ret
      exact ⟨rfl, Below.refl _ _⟩
    · have c0 := h.2 8 _ rfl
      go_enter Tryd.func17, Tryd.ntmps17
      go_wp2
      go_ret
      exact ⟨rfl, Below.refl _ _⟩
    · have c0 := h.2 9 _ rfl
      go_enter Tryd.func17, Tryd.ntmps17
      go_wp2
      go_ret
      exact ⟨rfl, Below.refl _ _⟩
    · have c0 := h.2 10 _ rfl
      go_enter Tryd.func17, Tryd.ntmps17
      go_wp2
      go_ret
      exact ⟨rfl, Below.refl _ _⟩
    · have c0 := h.2 11 _ rfl
      go_enter Tryd.func17, Tryd.ntmps17
      go_wp2
      go_ret
      exact ⟨rfl, Below.refl _ _⟩
    · have c0 := h.2 12 _ rfl
      go_enter Tryd.func17, Tryd.ntmps17
      go_wp2
      go_ret
      exact ⟨rfl, Below.refl _ _⟩
    · have c0 := h.2 13 _ rfl
      go_enter Tryd.func17, Tryd.ntmps17
      go_wp2
      go_ret
      exact ⟨rfl, Below.refl _ _⟩
    · have c0 := h.2 14 _ rfl
      go_enter Tryd.func17, Tryd.ntmps17
      go_wp2
      go_ret
      exact ⟨rfl, Below.refl _ _⟩
end Go.Proofs.YtlgfbcfogcmdbaaDoor
namespace Go.Proofs.YtlgfbcfogcmdbaaDoor
open Go.RowKit
theorem live12_nw (w : World) (h : NW w) : Calls Tryd.prog 6 #[] w fun e w' => e = .returned (.bool true) ∧ Below w.heap.size w w' :=
  live12_any w (fun W hW => name_any 3 (by decide) W (h.below hW))
end Go.Proofs.YtlgfbcfogcmdbaaDoor
namespace Go.Proofs.YtlgfbcfogcmdbaaDoor
open Go.Shelf Go.Lib Go.RowKit
/-- An array of strings that reads as these holds them, cell for cell. -/
theorem strs_of {H : Type} {enc : TypeId × Value → H} {P : Program} {w : World} {base : Nat} {sp : Nat → Bool} {held : Bool} {fuel : Nat} {t e : TypeId} {n : Nat} {cs : List Value} {ss : List (List UInt8)} {p : List MemPlace}
    (ht : P.underlying t = some (.array n e)) (he : P.underlying e = some .string) (hce : P.cellsOf e = 1) (hct : P.cellsOf t = n) (hn : ss.length = n)
    (h : DataW.trod enc P w base sp held fuel t cs = some (.agg (ss.map fun s => .lit (.string s)), p)) (i : Nat) (s : List UInt8) (hi : ss[i]? = some s) : cs[i]? = some (.string ⟨s.toArray⟩) := by
  cases fuel with
  | zero => simp [DataW.trod] at h
  | succ fuel =>
    simp only [DataW.trod, ht, hce, hct, Nat.mul_one] at h
    split at h
    · obtain ⟨xs, hm, hx⟩ := Option.map_eq_some_iff.1 h
      have hxs : xs.map (·.1) = ss.map fun s => (DataW.lit (.string s) : DataW H) := by simpa using congrArg Prod.fst hx
      have hil : i < n := by rw [← hn]; exact (List.getElem?_eq_some_iff.1 hi).1
      obtain ⟨b, hb, hf⟩ := mapM_at hm i i (by simp [hil])
      obtain ⟨q, hc, hq, _⟩ := DataW.trod_string he hf
      have h1 : cs[i]? = some (.string q) := by
        have := congrArg (·[0]?) hc
        simpa [List.getElem?_take, List.getElem?_drop] using this
      have h2 : (xs.map (·.1))[i]? = some (DataW.lit (.string q.data.toList) : DataW H) := by simp [hb, hq]
      rw [hxs, List.getElem?_map, hi] at h2
      have h3 : s = q.data.toList := by simpa using h2
      rw [h1, h3]
    · cases h
theorem nm_eq : (Rows.laid_trunkline_chunk_names : DataW Unit) = .agg (nmS.map fun s => .lit (.string s)) := by kernel_rfl
theorem nw_of_laid {W : World} (h : laidMet Tryd.prog [("trunkline/chunk.names", Rows.laid_trunkline_chunk_names)] W) : NW W := by
  rw [nm_eq] at h
  obtain ⟨g, t, cs, fuel, p, hg, hty, hvar, hd⟩ := Lib.laidMet.reads h (List.mem_singleton.2 rfl)
  have hg0 : Tryd.prog.globalNamed "trunkline/chunk.names" = some 0 := by kernel_rfl
  have ht0 : (Tryd.prog.globals[0]?).map (·.type) = some 72 := by kernel_rfl
  obtain rfl := Option.some.inj (hg0.symm.trans hg)
  obtain rfl := Option.some.inj (ht0.symm.trans hty)
  have hcell : ∀ i s, nmS[i]? = some s → W.cell? ⟨0, i, none⟩ = some (.string ⟨s.toArray⟩) := by
    intro i s hi
    rw [World.var?_cell hg hvar i, ← Array.getElem?_toList]
    exact strs_of Tryd.underlying72 Tryd.underlying9 (by kernel_rfl) (by kernel_rfl) rfl hd i s hi
  refine ⟨?_, hcell⟩
  have h0 := hcell 0 _ rfl
  rcases Nat.lt_or_ge 0 W.heap.size with h' | h'
  · exact h'
  · simp [World.cell?, Array.getElem?_eq_none h'] at h0
end Go.Proofs.YtlgfbcfogcmdbaaDoor
namespace Go.Proofs.YtlgfbcfogcmdbaaDoor.StHead
open Go.RowKit Go.ChangeShapes Go.WideShapes Go.ChangeAt
theorem fields : ∃ f0 f1 f2 : Field, Tryd.prog.underlying 25 = some (.struct #[f0, f1, f2]) ∧ f0.offset = 0 ∧ f1.offset = 1 ∧ f2.offset = 2 ∧ f0.type = 22 ∧ f1.type = 22 ∧ f2.type = 23 := ⟨_, _, _, Tryd.underlying25, rfl, rfl, rfl, rfl, rfl, rfl⟩
theorem cells_all : Tryd.prog.cellsOf 25 = 3 := by kernel_rfl
theorem cells_uint16 : Tryd.prog.cellsOf 22 = 1 := by kernel_rfl
theorem cells_uint32 : Tryd.prog.cellsOf 23 = 1 := by kernel_rfl
set_option linter.unusedVariables false in
set_option maxRecDepth 100000 in
theorem open_ {H : Type} {enc : TypeId × Value → H} {w : World} {b0 base : Nat} {held : Bool} {v : Value} {d : DataW H} {p : List MemPlace}
    (hv : Value.okWide Tryd.prog w .any b0 25 v) (h : DataW.Trod enc Tryd.prog w base (fun _ => true) held 25 v d p) (hw : ∀ n ∈ d.weights Tryd.prog 25, n ≤ reachBytes) :
    ∃ (x0 : Nat) (x1 : Nat) (x2 : Nat), v = .agg #[.int .u16 (x0 : Nat), .int .u16 (x1 : Nat), .int .u32 (x2 : Nat)] ∧ x0 < 65536 ∧ x1 < 65536 ∧ x2 < 4294967296 := by
  obtain ⟨f0, f1, f2, he, o0, o1, o2, t0, t1, t2⟩ := fields
  obtain ⟨cs, rfl, hsz⟩ := okWide_struct he hv
  rw [cells_all] at hsz
  obtain ⟨cl⟩ := cs
  obtain ⟨fuel, hf⟩ := h
  obtain ⟨xs, m, _, hx, _, hlen, hfs⟩ := DataW.trod_struct he hf
  have hsz2 : cl.length = 3 := hsz
  have hlen2 : xs.length = 3 := hlen
  match cl, hsz2, xs, hlen2 with
  | [v0, v1, v2], _, [y0, y1, y2], _ =>
    have hd := (Prod.mk.inj hx).1
    simp only [List.map_cons, List.map_nil] at hd
    have g0 := hfs 0 f0 rfl
    simp [Value.cells, o0, t0, cells_uint16] at g0
    have g1 := hfs 1 f1 rfl
    simp [Value.cells, o1, t1, cells_uint16] at g1
    have g2 := hfs 2 f2 rfl
    simp [Value.cells, o2, t2, cells_uint32] at g2
    obtain ⟨z0, e0, _, w0⟩ := DataW.trod_int Tryd.underlying22 g0
    simp at e0
    subst e0
    obtain ⟨m0, rfl⟩ : ∃ m : Nat, z0 = (m : Int) := ⟨z0.toNat, by have := bounds_u16 w0; omega⟩
    have b0 : m0 < 65536 := by have := bounds_u16 w0; omega
    obtain ⟨z1, e1, _, w1⟩ := DataW.trod_int Tryd.underlying22 g1
    simp at e1
    subst e1
    obtain ⟨m1, rfl⟩ : ∃ m : Nat, z1 = (m : Int) := ⟨z1.toNat, by have := bounds_u16 w1; omega⟩
    have b1 : m1 < 65536 := by have := bounds_u16 w1; omega
    obtain ⟨z2, e2, _, w2⟩ := DataW.trod_int Tryd.underlying23 g2
    simp at e2
    subst e2
    obtain ⟨m2, rfl⟩ : ∃ m : Nat, z2 = (m : Int) := ⟨z2.toNat, by have := bounds_u32 w2; omega⟩
    have b2 : m2 < 4294967296 := by have := bounds_u32 w2; omega
    exact ⟨m0, m1, m2, rfl, b0, b1, b2⟩
end Go.Proofs.YtlgfbcfogcmdbaaDoor.StHead
