/- streams: what is kept of a Data chunk. -/
import Derived.Test.YtjaheelgcjafcaaSfC
import Derived.Test.YtjaheelgcjafcaaCopy
namespace Go.Proofs.Ytjaheelgcjafcaa
open Go.RowKit
/-- The region of pieceOf: a call (10) answers new bytes, which are stored (12). -/
structure PoG (W0 : World) (q n : Nat) (zs : List Nat) (R : Option Addr × Nat → List Value) (θ : Option Addr × Nat) (l : Nat → Bool) (V : World) : Prop where
  s0 : l 10 = false → V = W0
  s1 : l 10 = true → l 12 = false → Below W0.heap.size W0 V ∧ OwnB V W0.heap.size θ.1 n θ.2 zs
  s2 : l 12 = true → ∃ V1, Below W0.heap.size W0 V1 ∧ OwnB V1 W0.heap.size θ.1 n θ.2 zs ∧ V = V1.setCells q 0 (R θ)
section
variable {W0 : World} {q n : Nat} {zs : List Nat} {R : Option Addr × Nat → List Value} {θ : Option Addr × Nat} {l : Nat → Bool} {V : World}
theorem PoG.start : PoG W0 q n zs R θ (fun _ => false) W0 := ⟨fun _ => rfl, fun e => (by cases e), fun e => (by cases e)⟩
theorem PoG.other (h : PoG W0 q n zs R θ l V) (i : Nat) (h1 : 10 ≠ i) (h2 : 12 ≠ i) : PoG W0 q n zs R θ (updL l i) V :=
  ⟨by rw [updL_neC h1]; exact h.s0, by rw [updL_neC h1, updL_neC h2]; exact h.s1, by rw [updL_neC h2]; exact h.s2⟩
theorem PoG.call {a : Option Addr} {c : Nat} (h12 : l 12 = false) (hb : Below W0.heap.size W0 V) (ho : OwnB V W0.heap.size a n c zs) : PoG W0 q n zs R (a, c) (updL l 10) V :=
  ⟨fun e => (by rw [updL_eqC] at e; cases e), fun _ _ => ⟨hb, ho⟩, fun e => (by rw [updL_neC (by decide), h12] at e; cases e)⟩
theorem PoG.bel (h : PoG W0 q n zs R θ l V) (h12 : l 12 = false) : Below W0.heap.size W0 V := by
  cases h10 : l 10 with
  | false => rw [h.s0 h10]; exact Below.refl _ _
  | true => exact (h.s1 h10 h12).1
theorem PoG.store (h : PoG W0 q n zs R θ l V) (h10 : l 10 = true) (h12 : l 12 = false) {z : List Value} (hz : Stc W0 q z) (hl : (R θ).length = z.length) : V.there q 0 (R θ).length ∧ PoG W0 q n zs R θ (updL l 12) (V.setCells q 0 (R θ)) := by
  obtain ⟨hb, ho⟩ := h.s1 h10 h12
  exact ⟨by rw [hl]; exact (hz.below hb).there, ⟨fun e => (by rw [updL_neC (by decide), h10] at e; cases e), fun _ e => (by rw [updL_eqC] at e; cases e), fun _ => ⟨V, hb, ho, rfl⟩⟩⟩
end
structure PoP (w : World) (f st ss pp n : Nat) (zs : List Nat) (e : Ending) (w' : World) : Prop where
  ex : ∃ a c, e = .returned (Pc.mk f st ss pp a n c zs).val ∧ OwnB w' w.heap.size a n c zs
  bel : Below w.heap.size w w'
set_option linter.unusedVariables false in
set_option maxRecDepth 100000 in
set_option maxHeartbeats 4000000 in
theorem pieceOf_any (k f t st ss pp : Nat) (c6 c7 c8 c9 c10 c11 c12 : Value) (xa : Option Addr) (n xc : Nat) (zs : List Nat) (w : World) (hs : Sl w xa n xc zs) (hn : n ≤ 100000) (v : Value) (hv : v = .agg #[.int .u8 (k : Nat), .int .u8 (f : Nat), .int .u32 (t : Nat), .int .u16 (st : Nat), .int .u16 (ss : Nat), .int .u32 (pp : Nat), c6, c7, c8, c9, c10, c11, c12, .slice xa n xc]) :
    Calls Try.prog 25 #[v] w (PoP w f st ss pp n zs) := by
  subst hv
  obtain ⟨W0, hW0⟩ : ∃ W0, W0 = (w.alloc (.cells #[.int .u8 (k : Nat), .int .u8 (f : Nat), .int .u32 (t : Nat), .int .u16 (st : Nat), .int .u16 (ss : Nat), .int .u32 (pp : Nat), c6, c7, c8, c9, c10, c11, c12, .slice xa n xc] 47)).alloc (.cells #[.int .u8 0, .int .u16 0, .int .u16 0, .int .u32 0, .slice none 0 0] 79) := ⟨_, rfl⟩
  have hb0 : Below w.heap.size w (w.alloc (.cells #[.int .u8 (k : Nat), .int .u8 (f : Nat), .int .u32 (t : Nat), .int .u16 (st : Nat), .int .u16 (ss : Nat), .int .u32 (pp : Nat), c6, c7, c8, c9, c10, c11, c12, .slice xa n xc] 47)) := (Below.refl _ _).alloc (Nat.le_refl _) _
  have hb1 : Below (w.alloc (.cells #[.int .u8 (k : Nat), .int .u8 (f : Nat), .int .u32 (t : Nat), .int .u16 (st : Nat), .int .u16 (ss : Nat), .int .u32 (pp : Nat), c6, c7, c8, c9, c10, c11, c12, .slice xa n xc] 47)).heap.size (w.alloc (.cells #[.int .u8 (k : Nat), .int .u8 (f : Nat), .int .u32 (t : Nat), .int .u16 (st : Nat), .int .u16 (ss : Nat), .int .u32 (pp : Nat), c6, c7, c8, c9, c10, c11, c12, .slice xa n xc] 47)) W0 := by rw [hW0]; exact (Below.refl _ _).alloc (Nat.le_refl _) _
  have hbd : Below w.heap.size w W0.drew := (hb0.trans (hb1.mono hb0.size)).drew
  have hC := ((Stc.new w [.int .u8 (k : Nat), .int .u8 (f : Nat), .int .u32 (t : Nat), .int .u16 (st : Nat), .int .u16 (ss : Nat), .int .u32 (pp : Nat), c6, c7, c8, c9, c10, c11, c12, .slice xa n xc] 47 _ rfl).below hb1).below (Below.refl _ _).drew
  have hZ := (Stc.new (w.alloc (.cells #[.int .u8 (k : Nat), .int .u8 (f : Nat), .int .u32 (t : Nat), .int .u16 (st : Nat), .int .u16 (ss : Nat), .int .u32 (pp : Nat), c6, c7, c8, c9, c10, c11, c12, .slice xa n xc] 47)) [.int .u8 0, .int .u16 0, .int .u16 0, .int .u32 0, .slice none 0 0] 79 W0 hW0).below (Below.refl _ _).drew
  rw [show (w.alloc (.cells #[.int .u8 (k : Nat), .int .u8 (f : Nat), .int .u32 (t : Nat), .int .u16 (st : Nat), .int .u16 (ss : Nat), .int .u32 (pp : Nat), c6, c7, c8, c9, c10, c11, c12, .slice xa n xc] 47)).heap.size = w.heap.size + 1 by simp] at hZ
  have HZ5 : Hid (Stc W0.drew (w.heap.size + 1) [.int .u8 0, .int .u16 0, .int .u16 0, .int .u32 0, .slice none 0 0]) := hZ
  have HKC : Hid (∀ V, Below W0.drew.heap.size W0.drew V → V.cell? ⟨w.heap.size, 1, none⟩ = some (.int .u8 (f : Nat)) ∧ V.cell? ⟨w.heap.size, 3, none⟩ = some (.int .u16 (st : Nat)) ∧ V.cell? ⟨w.heap.size, 4, none⟩ = some (.int .u16 (ss : Nat)) ∧ V.cell? ⟨w.heap.size, 5, none⟩ = some (.int .u32 (pp : Nat)) ∧ V.cell? ⟨w.heap.size, 13, none⟩ = some (.slice xa n xc)) := fun V hV => by
    have s := hC.below hV
    exact ⟨s.cell 1 _ rfl, s.cell 3 _ rfl, s.cell 4 _ rfl, s.cell 5 _ rfl, s.cell 13 _ rfl⟩
  have HCL := (show Hid _ from clone_any xa n xc zs W0.drew (hs.below hbd) (by omega))
  have HB := (show Hid _ from And.intro hbd (show w.heap.size + 1 < W0.drew.heap.size from hZ.lt))
  clear hC hZ hb0 hb1 hbd hs
  go_enter Try.func25, Try.ntmps25
  go_wp2_with fail
  rw [← hW0]
  clear hW0
  refine wp_region_parW mixedX (fun θ : Option Addr × Nat => [(3, .pointer (some ⟨w.heap.size, 1, none⟩)), (4, .int .u8 (f : Nat)), (5, .pointer (some ⟨w.heap.size, 3, none⟩)), (6, .int .u16 (st : Nat)), (7, .pointer (some ⟨w.heap.size, 4, none⟩)), (8, .int .u16 (ss : Nat)), (9, .pointer (some ⟨w.heap.size, 5, none⟩)), (10, .int .u32 (pp : Nat)), (11, .pointer (some ⟨w.heap.size, 13, none⟩)), (12, .slice xa n xc), (13, .slice θ.1 n θ.2), (14, .agg #[.int .u8 (f : Nat), .int .u16 (st : Nat), .int .u16 (ss : Nat), .int .u32 (pp : Nat), .slice θ.1 n θ.2])]) (fun θ l V => PoG W0.drew (w.heap.size + 1) n zs (fun θ => [.int .u8 (f : Nat), .int .u16 (st : Nat), .int .u16 (ss : Nat), .int .u32 (pp : Nat), .slice θ.1 n θ.2]) θ l V) (none, 0) ?Z1 ?hZ1 (by kernel_rfl) (by kernel_rfl) (fun θ => by kernel_rfl) (by kernel_rfl) ?h01 ?hops1 ?he1
  case hZ1 => intro θ; simp only [List.foldl_cons, List.foldl_nil, List.setIfInBounds_toArray, List.set_cons_zero, List.set_cons_succ]; rfl
  case h01 => exact PoG.start
  case hops1 =>
    refine ⟨?_, ?_, ?_, ?_, ?_, ?_, ?_, ?_, ?_, ?_, ?_, ?_, ?_, trivial⟩
    · exact par_val (fun θ => by rfl) (fun θ l V hg => hg.other 0 (by decide) (by decide)) (fun θ l V hl hc hd hg => by go_simp; (try with_reducible rfl); (try omega))
    · exact par_val (fun θ => by rfl) (fun θ l V hg => hg.other 1 (by decide) (by decide)) (fun θ l V hl hc hd hg => by have h12 : l 12 = false := (by cases h : l 12 with | false => rfl | true => exact absurd (hc 12 1 (by kernel_rfl) h) (by rw [hl]; decide)); obtain ⟨d0, d1, d2, d3, d4⟩ := HKC.out V (hg.bel h12); go_simp; (try with_reducible rfl); (try omega))
    · exact par_val (fun θ => by rfl) (fun θ l V hg => hg.other 2 (by decide) (by decide)) (fun θ l V hl hc hd hg => by go_simp; (try with_reducible rfl); (try omega))
    · exact par_val (fun θ => by rfl) (fun θ l V hg => hg.other 3 (by decide) (by decide)) (fun θ l V hl hc hd hg => by have h12 : l 12 = false := (by cases h : l 12 with | false => rfl | true => exact absurd (hc 12 3 (by kernel_rfl) h) (by rw [hl]; decide)); obtain ⟨d0, d1, d2, d3, d4⟩ := HKC.out V (hg.bel h12); go_simp; (try with_reducible rfl); (try omega))
    · exact par_val (fun θ => by rfl) (fun θ l V hg => hg.other 4 (by decide) (by decide)) (fun θ l V hl hc hd hg => by go_simp; (try with_reducible rfl); (try omega))
    · exact par_val (fun θ => by rfl) (fun θ l V hg => hg.other 5 (by decide) (by decide)) (fun θ l V hl hc hd hg => by have h12 : l 12 = false := (by cases h : l 12 with | false => rfl | true => exact absurd (hc 12 5 (by kernel_rfl) h) (by rw [hl]; decide)); obtain ⟨d0, d1, d2, d3, d4⟩ := HKC.out V (hg.bel h12); go_simp; (try with_reducible rfl); (try omega))
    · exact par_val (fun θ => by rfl) (fun θ l V hg => hg.other 6 (by decide) (by decide)) (fun θ l V hl hc hd hg => by go_simp; (try with_reducible rfl); (try omega))
    · exact par_val (fun θ => by rfl) (fun θ l V hg => hg.other 7 (by decide) (by decide)) (fun θ l V hl hc hd hg => by have h12 : l 12 = false := (by cases h : l 12 with | false => rfl | true => exact absurd (hc 12 7 (by kernel_rfl) h) (by rw [hl]; decide)); obtain ⟨d0, d1, d2, d3, d4⟩ := HKC.out V (hg.bel h12); go_simp; (try with_reducible rfl); (try omega))
    · exact par_val (fun θ => by rfl) (fun θ l V hg => hg.other 8 (by decide) (by decide)) (fun θ l V hl hc hd hg => by go_simp; (try with_reducible rfl); (try omega))
    · exact par_val (fun θ => by rfl) (fun θ l V hg => hg.other 9 (by decide) (by decide)) (fun θ l V hl hc hd hg => by have h12 : l 12 = false := (by cases h : l 12 with | false => rfl | true => exact absurd (hc 12 9 (by kernel_rfl) h) (by rw [hl]; decide)); obtain ⟨d0, d1, d2, d3, d4⟩ := HKC.out V (hg.bel h12); go_simp; (try with_reducible rfl); (try omega))
    · exact par_call (fun θ => by rfl) rfl (vs := fun _ => [.slice xa n xc]) (fun θ => by rfl) Try.func38 (by rfl) (by rfl) (fun θ l V hl hc hd hg => by
        have h11 : l 11 = false := (by cases h : l 11 with | false => rfl | true => exact absurd (hc 11 10 (by kernel_rfl) h) (by rw [hl]; decide))
        have h12 : l 12 = false := (by cases h : l 12 with | false => rfl | true => exact absurd (hc 12 10 (by kernel_rfl) h) (by rw [hl]; decide))
        obtain rfl := hg.s0 hl
        refine Calls.mono HCL.out ?_
        rintro e V2 ⟨a6, c6', rfl, ho6, _, hb6⟩
        exact ⟨_, rfl, next_set (by kernel_rfl) (a6, c6') [(13, .slice a6 n c6', 10), (14, .agg #[.int .u8 (f : Nat), .int .u16 (st : Nat), .int .u16 (ss : Nat), .int .u32 (pp : Nat), .slice a6 n c6'], 11)] (by simp only [List.foldl_cons, List.foldl_nil, List.setIfInBounds_toArray, List.set_cons_zero, List.set_cons_succ]) (by kernel_rfl) (fun y hy => by simp at hy; rcases hy with rfl | rfl; exact hl; exact h11) (fun d hd => by cases hd; rfl) (PoG.call h12 hb6 ho6)⟩)
    · exact par_val (fun θ => by rfl) (fun θ l V hg => hg.other 11 (by decide) (by decide)) (fun θ l V hl hc hd hg => by go_simp; (try with_reducible rfl); (try omega))
    · exact par_skip (fun θ => by rfl) (fun θ l V hl hc hd hg => by
        have h11 : l 11 = true := hd 11 (by kernel_rfl)
        have h10 : l 10 = true := hc 11 10 (by kernel_rfl) h11
        obtain ⟨hth, hst⟩ := hg.store h10 hl HZ5.out rfl
        exact ⟨_, run_storeX rfl (b := w.heap.size + 1) (k := 0) (by rfl) (cs := [.int .u8 (f : Nat), .int .u16 (st : Nat), .int .u16 (ss : Nat), .int .u32 (pp : Nat), .slice θ.1 n θ.2]) (by rfl) hth (by kernel_rfl) (by intro v hv; simp at hv; rcases hv with rfl | rfl | rfl | rfl | rfl <;> rfl), ⟨θ, fun _ _ _ _ _ _ => rfl, fun d hd => (by cases hd), hst⟩⟩)
  case he1 =>
  rintro ⟨da, dc⟩ l V hall hg
  obtain ⟨V1, hb1, ho1, rfl⟩ := hg.s2 (hall 12 (by decide))
  clear hall hg
  dsimp only at ho1 ⊢
  have hZ1 := HZ5.out.below hb1
  have hput := hZ1.put [.int .u8 (f : Nat), .int .u16 (st : Nat), .int .u16 (ss : Nat), .int .u32 (pp : Nat), .slice da n dc] rfl
  have hff := fr_setCellsX (w.heap.size + 1) [.int .u8 (f : Nat), .int .u16 (st : Nat), .int .u16 (ss : Nat), .int .u32 (pp : Nat), .slice da n dc] 0 V1
  have hlt := HB.out.2
  have hP : PoP w f st ss pp n zs (.returned (Pc.mk f st ss pp da n dc zs).val) (V1.setCells (w.heap.size + 1) 0 [.int .u8 (f : Nat), .int .u16 (st : Nat), .int .u16 (ss : Nat), .int .u32 (pp : Nat), .slice da n dc]) := by
    refine ⟨⟨da, dc, rfl, (ho1.fr hff (fun g hg _ e => ?_)).base HB.out.1.size⟩, (HB.out.1.trans (hb1.mono HB.out.1.size)).trans (hff.below _ (Nat.le_trans HB.out.1.size hb1.size) (fun k hk => ?_))⟩
    · have e2 : g = w.heap.size + 1 := e
      omega
    · have e2 : k = w.heap.size + 1 := hk
      omega
  have hrg := hput.range
  generalize V1.setCells (w.heap.size + 1) 0 [.int .u8 (f : Nat), .int .u16 (st : Nat), .int .u16 (ss : Nat), .int .u32 (pp : Nat), .slice da n dc] = V2 at *
  have HP := (show Hid _ from And.intro hP hrg)
  clear hP hrg hput hff hZ1 ho1 hb1
  go_wp2
  try simp only [Exit.inBlock, Exit.then]
  exact bodyPost_ret (results_cellE rfl _ _ (w.heap.size + 1) 0 [.int .u8 (f : Nat), .int .u16 (st : Nat), .int .u16 (ss : Nat), .int .u32 (pp : Nat), .slice da n dc] _ rfl HP.out.2 Try.underlying79 rfl (by kernel_rfl)) rfl HP.out.1
end Go.Proofs.Ytjaheelgcjafcaa
