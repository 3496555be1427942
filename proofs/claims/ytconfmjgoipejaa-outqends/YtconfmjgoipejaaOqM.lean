/- outq: what an acknowledgement tells, as it lies; count. -/
import Derived.Test.YtconfmjgoipejaaOqK
namespace Go.Proofs.Ytconfmjgoipejaa
open Go.RowKit Go.Shelf
/-- An api.Acked in block ab. -/
structure AcW (ab b0 b1 : Nat) (mv fs : Bool) (W : World) : Prop where
  bt : BT W ab 58
  c0 : W.cell? ⟨ab, 0, none⟩ = some (.int .i64 (b0 : Nat))
  c1 : W.cell? ⟨ab, 1, none⟩ = some (.int .i64 (b1 : Nat))
  c2 : W.cell? ⟨ab, 2, none⟩ = some (.bool mv)
  c3 : W.cell? ⟨ab, 3, none⟩ = some (.bool fs)
  free : ∀ i, W.frozen? ⟨ab, i, none⟩ = false
section
variable {W W' : World} {ab b0 b1 : Nat} {mv fs : Bool}
theorem AcW.lt (h : AcW ab b0 b1 mv fs W) : ab < W.heap.size := h.bt.lt
theorem AcW.fr {Q : Nat → Prop} (h : AcW ab b0 b1 mv fs W) (hf : Fr Q W W') (hq : ¬ Q ab) : AcW ab b0 b1 mv fs W' :=
  ⟨h.bt.same (hf.block ab h.lt hq), (hf.cell _ h.lt hq).trans h.c0, (hf.cell _ h.lt hq).trans h.c1, (hf.cell _ h.lt hq).trans h.c2, (hf.cell _ h.lt hq).trans h.c3, fun i => (hf.frozen ⟨ab, i, none⟩ h.lt hq).trans (h.free i)⟩
theorem AcW.below (h : AcW ab b0 b1 mv fs W) (hb : Below W.heap.size W W') : AcW ab b0 b1 mv fs W' := h.fr (Q := fun _ => False) (Fr.of_below hb) (fun e => e)
theorem AcW.drew (h : AcW ab b0 b1 mv fs W) : AcW ab b0 b1 mv fs W.drew := h.below (Below.refl _ _).drew
theorem AcW.other (h : AcW ab b0 b1 mv fs W) (a : Addr) (u : Value) (he : a.block ≠ ab) : AcW ab b0 b1 mv fs (W.setCell a u) := h.fr (Fr.setCell (fun k => k = a.block) W a u rfl) (fun e => he e.symm)
theorem AcW.grown {row : Option Nat} (h : AcW ab b0 b1 mv fs W) (hg : W.grownBy W' row) (hr : ∀ r, row = some r → ∃ o : Obj, W.heap[r]? = some o ∧ o.isCells = false) : AcW ab b0 b1 mv fs W' :=
  ⟨h.bt.grown hg hr, cell_kept h.c0 hg hr, cell_kept h.c1 hg hr, cell_kept h.c2 hg hr, cell_kept h.c3 hg hr, fun i => by
    have hs : W'.heap[ab]? = W.heap[ab]? := hg.block ab h.lt (fun e => by
      obtain ⟨o, ho, hc⟩ := hr ab e.symm
      obtain ⟨cur, r, hh⟩ := h.bt
      rw [hh] at ho
      obtain rfl := Option.some.inj ho
      cases hc)
    have := h.free i
    unfold World.frozen? at this ⊢
    dsimp only at this ⊢
    rw [hs]
    exact this⟩
theorem setCell_at (W : World) (b i j : Nat) (u : Value) (h : (W.cell? ⟨b, i, none⟩).isSome = true) : (W.setCell ⟨b, i, none⟩ u).cell? ⟨b, j, none⟩ = if j = i then some u else W.cell? ⟨b, j, none⟩ := by
  by_cases e : j = i
  · subst e
    rw [if_pos rfl]
    exact World.cell?_setCell_same' _ _ _ h
  · rw [if_neg e, World.cell?_setCell_other _ _ _ _ (by intro e2; injection e2 with _ e3; first | exact e e3 | exact e e3.symm)]
theorem AcW.put0 (h : AcW ab b0 b1 mv fs W) (x : Nat) : AcW ab x b1 mv fs (W.setCell ⟨ab, 0, none⟩ (.int .i64 (x : Nat))) := by
  have hs := setCell_at W ab 0
  have h0 : (W.cell? ⟨ab, 0, none⟩).isSome = true := by rw [h.c0]; rfl
  refine ⟨h.bt.setCell _ _, ?_, ?_, ?_, ?_, fun i => by rw [World.frozen?_setCell]; exact h.free i⟩
  · rw [hs 0 _ h0, if_pos rfl]
  · rw [hs 1 _ h0, if_neg (by decide)]; exact h.c1
  · rw [hs 2 _ h0, if_neg (by decide)]; exact h.c2
  · rw [hs 3 _ h0, if_neg (by decide)]; exact h.c3
theorem AcW.put1 (h : AcW ab b0 b1 mv fs W) (x : Nat) : AcW ab b0 x mv fs (W.setCell ⟨ab, 1, none⟩ (.int .i64 (x : Nat))) := by
  have hs := setCell_at W ab 1
  have h0 : (W.cell? ⟨ab, 1, none⟩).isSome = true := by rw [h.c1]; rfl
  refine ⟨h.bt.setCell _ _, ?_, ?_, ?_, ?_, fun i => by rw [World.frozen?_setCell]; exact h.free i⟩
  · rw [hs 0 _ h0, if_neg (by decide)]; exact h.c0
  · rw [hs 1 _ h0, if_pos rfl]
  · rw [hs 2 _ h0, if_neg (by decide)]; exact h.c2
  · rw [hs 3 _ h0, if_neg (by decide)]; exact h.c3
theorem AcW.put2 (h : AcW ab b0 b1 mv fs W) (x : Bool) : AcW ab b0 b1 x fs (W.setCell ⟨ab, 2, none⟩ (.bool x)) := by
  have hs := setCell_at W ab 2
  have h0 : (W.cell? ⟨ab, 2, none⟩).isSome = true := by rw [h.c2]; rfl
  refine ⟨h.bt.setCell _ _, ?_, ?_, ?_, ?_, fun i => by rw [World.frozen?_setCell]; exact h.free i⟩
  · rw [hs 0 _ h0, if_neg (by decide)]; exact h.c0
  · rw [hs 1 _ h0, if_neg (by decide)]; exact h.c1
  · rw [hs 2 _ h0, if_pos rfl]
  · rw [hs 3 _ h0, if_neg (by decide)]; exact h.c3
theorem AcW.put3 (h : AcW ab b0 b1 mv fs W) (x : Bool) : AcW ab b0 b1 mv x (W.setCell ⟨ab, 3, none⟩ (.bool x)) := by
  have hs := setCell_at W ab 3
  have h0 : (W.cell? ⟨ab, 3, none⟩).isSome = true := by rw [h.c3]; rfl
  refine ⟨h.bt.setCell _ _, ?_, ?_, ?_, ?_, fun i => by rw [World.frozen?_setCell]; exact h.free i⟩
  · rw [hs 0 _ h0, if_neg (by decide)]; exact h.c0
  · rw [hs 1 _ h0, if_neg (by decide)]; exact h.c1
  · rw [hs 2 _ h0, if_neg (by decide)]; exact h.c2
  · rw [hs 3 _ h0, if_pos rfl]
end
/-- What count adds. -/
def cntP (wy : Nat) (x : PcA) : Nat := if x.1.is = 1 ∧ x.1.wy = wy then x.1.zs.length else 0
structure CntR (w : World) (ab b0 b1 : Nat) (mv fs : Bool) (x : PcA) (e : Ending) (w' : World) : Prop where
  ex : e = .returned (.tuple #[])
  ac : AcW ab (b0 + cntP 0 x) (b1 + cntP 1 x) mv fs w'
  fr : Fr (fun b => b = ab) w w'
set_option linter.unusedVariables false in
set_option maxRecDepth 100000 in
set_option maxHeartbeats 2000000 in
theorem count_any {w : World} {ab b0 b1 : Nat} {mv fs : Bool} (h : AcW ab b0 b1 mv fs w) {pb k : Nat} {x : PcA} (hb0 : b0 ≤ 1000000) (hb1 : b1 ≤ 1000000) (hxl : x.1.zs.length ≤ 1000000) (hw : x.1.is = 1 → x.1.wy < 2)
    (h14 : w.cell? ⟨pb, k * 17 + 14, none⟩ = some (.int .i64 (x.1.is : Nat))) (h15 : w.cell? ⟨pb, k * 17 + 15, none⟩ = some (.int .i64 (x.1.wy : Nat))) (h13 : w.cell? ⟨pb, k * 17 + 13, none⟩ = some (.slice x.2.1 x.1.zs.length x.2.2)) :
    Calls Try.prog 48 #[.pointer (some ⟨ab, 0, none⟩), .pointer (some ⟨pb, k * 17, none⟩)] w (CntR w ab b0 b1 mv fs x) := by
  by_cases h1 : x.1.is = 1
  · have hw2 := hw h1
    obtain ⟨n, hn⟩ : ∃ n, n = x.1.zs.length := ⟨_, rfl⟩
    rw [← hn] at h13 hxl
    obtain ⟨xa, hxa⟩ : ∃ xa, xa = x.2.1 := ⟨_, rfl⟩
    obtain ⟨xc, hxc⟩ : ∃ xc, xc = x.2.2 := ⟨_, rfl⟩
    rw [← hxa, ← hxc] at h13
    rw [h1] at h14
    have HN := (show Hid _ from hn)
    clear hxa hxc hn
    rcases (show x.1.wy = 0 ∨ x.1.wy = 1 by omega) with hwy | hwy
    · rw [hwy] at h15
      have e0 : cntP 0 x = n := by unfold cntP; rw [if_pos ⟨h1, hwy⟩, HN.out]
      have e1 : cntP 1 x = 0 := by unfold cntP; rw [if_neg (by omega)]
      have c0 := h.c0
      have f0 := h.free 0
      have hwr : IntKind.i64.wrap ((b0 : Int) + (n : Int)) = ((b0 + n : Nat) : Int) := by rw [IntKind.wrap_i64]; omega
      obtain ⟨w2, hw2'⟩ : ∃ w2, w2 = w.drew.setCell ⟨ab, 0, none⟩ (.int .i64 ((b0 + n : Nat) : Int)) := ⟨_, rfl⟩
      have HF : Hid (CntR w ab b0 b1 mv fs x (.returned (.tuple #[])) w2) := ⟨rfl, by rw [e0, e1, Nat.add_zero, hw2']; exact h.drew.put0 _, by rw [hw2']; exact (Fr.of_below (Below.refl _ _).drew).trans (Fr.setCell _ _ _ _ rfl)⟩
      have HW := (show Hid _ from hw2')
      clear h e0 e1 hw2' h1 hwy
      go_enter Try.func48, Try.ntmps48
      go_wp2_with fail
      refine wp_region_stage mixedX [19] (fun stgN W => match stgN with | 0 => W = w.drew | _ => W = w2) (fun W => W = w.drew) [(9, .pointer (some ⟨ab, 0, none⟩)), (10, .pointer (some ⟨pb, k * 17, none⟩)), (11, .pointer (some ⟨pb, k * 17, none⟩)), (12, .pointer (some ⟨pb, k * 17 + 15, none⟩)), (13, .int .i64 0), (14, .pointer (some ⟨ab, 0, none⟩)), (15, .pointer (some ⟨ab, 0, none⟩)), (16, .pointer (some ⟨ab, 0, none⟩)), (17, .int .i64 (b0 : Nat)), (18, .pointer (some ⟨pb, k * 17, none⟩)), (19, .pointer (some ⟨pb, k * 17, none⟩)), (20, .pointer (some ⟨pb, k * 17, none⟩)), (21, .pointer (some ⟨pb, k * 17 + 13, none⟩)), (22, .slice xa n xc), (23, .int .i64 (n : Nat)), (24, .int .i64 ((b0 + n : Nat) : Int)), (25, .pointer (some ⟨ab, 0, none⟩)), (26, .pointer (some ⟨ab, 0, none⟩)), (27, .pointer (some ⟨ab, 0, none⟩))] ?Z1 ?hZ1 (by kernel_rfl) (by kernel_rfl) (by kernel_rfl) (by kernel_rfl) (by kernel_rfl) ?h01 ?hS1 (.inl (by kernel_rfl)) ?hops1 ?he1 (by kernel_rfl) (by decide)
      case hZ1 => simp only [List.foldl_cons, List.foldl_nil, List.setIfInBounds_toArray, List.set_cons_zero, List.set_cons_succ]; rfl
      case h01 => rfl
      case hS1 =>
        intro k W hk hW
        have hk : k < 1 := hk
        obtain rfl : k = 0 := by omega
        · exact hW
      case hops1 =>
        refine ⟨?_, ?_, ?_, ?_, ?_, ?_, ?_, ?_, ?_, ?_, ?_, ?_, ?_, ?_, ?_, ?_, ?_, ?_, ?_, ?_, trivial⟩
        · exact stg_val (by rfl) (by rfl) (fun W hW => by have hW : W = w.drew := hW; subst hW; go_simp; (try with_reducible rfl); (try omega))
        · exact stg_val (by rfl) (by rfl) (fun W hW => by have hW : W = w.drew := hW; subst hW; go_simp; (try with_reducible rfl); (try omega))
        · exact stg_val (by rfl) (by rfl) (fun W hW => by have hW : W = w.drew := hW; subst hW; go_simp; (try with_reducible rfl); (try omega))
        · exact stg_val (by rfl) (by rfl) (fun W hW => by have hW : W = w.drew := hW; subst hW; go_simp; (try with_reducible rfl); (try omega))
        · exact stg_val (by rfl) (by rfl) (fun W hW => by have hW : W = w.drew := hW; subst hW; go_simp; (try with_reducible rfl); (try omega))
        · exact stg_val (by rfl) (by rfl) (fun W hW => by have hW : W = w.drew := hW; subst hW; go_simp; (try with_reducible rfl); (try omega))
        · exact stg_val (by rfl) (by rfl) (fun W hW => by have hW : W = w.drew := hW; subst hW; go_simp; (try with_reducible rfl); (try omega))
        · exact stg_val (by rfl) (by rfl) (fun W hW => by have hW : W = w.drew := hW; subst hW; go_simp; (try with_reducible rfl); (try omega))
        · exact stg_val (by rfl) (by rfl) (fun W hW => by have hW : W = w.drew := hW; subst hW; go_simp; (try with_reducible rfl); (try omega))
        · exact stg_val (by rfl) (by rfl) (fun W hW => by have hW : W = w.drew := hW; subst hW; go_simp; (try with_reducible rfl); (try omega))
        · exact stg_val (by rfl) (by rfl) (fun W hW => by have hW : W = w.drew := hW; subst hW; go_simp; (try with_reducible rfl); (try omega))
        · exact stg_val (by rfl) (by rfl) (fun W hW => by have hW : W = w.drew := hW; subst hW; go_simp; (try with_reducible rfl); (try omega))
        · exact stg_val (by rfl) (by rfl) (fun W hW => by have hW : W = w.drew := hW; subst hW; go_simp; (try with_reducible rfl); (try omega))
        · exact stg_val (by rfl) (by rfl) (fun W hW => by have hW : W = w.drew := hW; subst hW; go_simp; (try with_reducible rfl); (try omega))
        · exact stg_val (by rfl) (by rfl) (fun W hW => by have hW : W = w.drew := hW; subst hW; go_simp; (try with_reducible rfl); (try omega))
        · exact stg_val (by rfl) (by rfl) (fun W hW => by have hW : W = w.drew := hW; subst hW; go_simp; (try with_reducible rfl); (try omega))
        · exact stg_val (by rfl) (by rfl) (fun W hW => by have hW : W = w.drew := hW; subst hW; go_simp; (try with_reducible rfl); (try omega))
        · exact stg_val (by rfl) (by rfl) (fun W hW => by have hW : W = w.drew := hW; subst hW; go_simp; (try with_reducible rfl); (try omega))
        · exact stg_val (by rfl) (by rfl) (fun W hW => by have hW : W = w.drew := hW; subst hW; go_simp; (try with_reducible rfl); (try omega))
        · exact stg_skip (by rfl) (by rfl) rfl (fun W hW => by have hW : W = w.drew := hW; subst hW; refine ⟨w2, ?_, rfl⟩; rw [HW.out]; go_simp; try rfl)
      case he1 =>
      intro W hW
      have hW : W = w2 := hW
      subst hW
      clear HW
      go_wp2
      go_end0
      exact HF.out
    · rw [hwy] at h15
      have e0 : cntP 0 x = 0 := by unfold cntP; rw [if_neg (by omega)]
      have e1 : cntP 1 x = n := by unfold cntP; rw [if_pos ⟨h1, hwy⟩, HN.out]
      have c0 := h.c1
      have f0 := h.free 1
      have hwr : IntKind.i64.wrap ((b1 : Int) + (n : Int)) = ((b1 + n : Nat) : Int) := by rw [IntKind.wrap_i64]; omega
      obtain ⟨w2, hw2'⟩ : ∃ w2, w2 = w.drew.setCell ⟨ab, 1, none⟩ (.int .i64 ((b1 + n : Nat) : Int)) := ⟨_, rfl⟩
      have HF : Hid (CntR w ab b0 b1 mv fs x (.returned (.tuple #[])) w2) := ⟨rfl, by rw [e0, e1, Nat.add_zero, hw2']; exact h.drew.put1 _, by rw [hw2']; exact (Fr.of_below (Below.refl _ _).drew).trans (Fr.setCell _ _ _ _ rfl)⟩
      have HW := (show Hid _ from hw2')
      clear h e0 e1 hw2' h1 hwy
      go_enter Try.func48, Try.ntmps48
      go_wp2_with fail
      refine wp_region_stage mixedX [19] (fun stgN W => match stgN with | 0 => W = w.drew | _ => W = w2) (fun W => W = w.drew) [(9, .pointer (some ⟨ab, 0, none⟩)), (10, .pointer (some ⟨pb, k * 17, none⟩)), (11, .pointer (some ⟨pb, k * 17, none⟩)), (12, .pointer (some ⟨pb, k * 17 + 15, none⟩)), (13, .int .i64 1), (14, .pointer (some ⟨ab, 0, none⟩)), (15, .pointer (some ⟨ab, 0, none⟩)), (16, .pointer (some ⟨ab, 1, none⟩)), (17, .int .i64 (b1 : Nat)), (18, .pointer (some ⟨pb, k * 17, none⟩)), (19, .pointer (some ⟨pb, k * 17, none⟩)), (20, .pointer (some ⟨pb, k * 17, none⟩)), (21, .pointer (some ⟨pb, k * 17 + 13, none⟩)), (22, .slice xa n xc), (23, .int .i64 (n : Nat)), (24, .int .i64 ((b1 + n : Nat) : Int)), (25, .pointer (some ⟨ab, 0, none⟩)), (26, .pointer (some ⟨ab, 0, none⟩)), (27, .pointer (some ⟨ab, 1, none⟩))] ?Z2 ?hZ2 (by kernel_rfl) (by kernel_rfl) (by kernel_rfl) (by kernel_rfl) (by kernel_rfl) ?h02 ?hS2 (.inl (by kernel_rfl)) ?hops2 ?he2 (by kernel_rfl) (by decide)
      case hZ2 => simp only [List.foldl_cons, List.foldl_nil, List.setIfInBounds_toArray, List.set_cons_zero, List.set_cons_succ]; rfl
      case h02 => rfl
      case hS2 =>
        intro k W hk hW
        have hk : k < 1 := hk
        obtain rfl : k = 0 := by omega
        · exact hW
      case hops2 =>
        refine ⟨?_, ?_, ?_, ?_, ?_, ?_, ?_, ?_, ?_, ?_, ?_, ?_, ?_, ?_, ?_, ?_, ?_, ?_, ?_, ?_, trivial⟩
        · exact stg_val (by rfl) (by rfl) (fun W hW => by have hW : W = w.drew := hW; subst hW; go_simp; (try with_reducible rfl); (try omega))
        · exact stg_val (by rfl) (by rfl) (fun W hW => by have hW : W = w.drew := hW; subst hW; go_simp; (try with_reducible rfl); (try omega))
        · exact stg_val (by rfl) (by rfl) (fun W hW => by have hW : W = w.drew := hW; subst hW; go_simp; (try with_reducible rfl); (try omega))
        · exact stg_val (by rfl) (by rfl) (fun W hW => by have hW : W = w.drew := hW; subst hW; go_simp; (try with_reducible rfl); (try omega))
        · exact stg_val (by rfl) (by rfl) (fun W hW => by have hW : W = w.drew := hW; subst hW; go_simp; (try with_reducible rfl); (try omega))
        · exact stg_val (by rfl) (by rfl) (fun W hW => by have hW : W = w.drew := hW; subst hW; go_simp; (try with_reducible rfl); (try omega))
        · exact stg_val (by rfl) (by rfl) (fun W hW => by have hW : W = w.drew := hW; subst hW; go_simp; (try with_reducible rfl); (try omega))
        · exact stg_val (by rfl) (by rfl) (fun W hW => by have hW : W = w.drew := hW; subst hW; go_simp; (try with_reducible rfl); (try omega))
        · exact stg_val (by rfl) (by rfl) (fun W hW => by have hW : W = w.drew := hW; subst hW; go_simp; (try with_reducible rfl); (try omega))
        · exact stg_val (by rfl) (by rfl) (fun W hW => by have hW : W = w.drew := hW; subst hW; go_simp; (try with_reducible rfl); (try omega))
        · exact stg_val (by rfl) (by rfl) (fun W hW => by have hW : W = w.drew := hW; subst hW; go_simp; (try with_reducible rfl); (try omega))
        · exact stg_val (by rfl) (by rfl) (fun W hW => by have hW : W = w.drew := hW; subst hW; go_simp; (try with_reducible rfl); (try omega))
        · exact stg_val (by rfl) (by rfl) (fun W hW => by have hW : W = w.drew := hW; subst hW; go_simp; (try with_reducible rfl); (try omega))
        · exact stg_val (by rfl) (by rfl) (fun W hW => by have hW : W = w.drew := hW; subst hW; go_simp; (try with_reducible rfl); (try omega))
        · exact stg_val (by rfl) (by rfl) (fun W hW => by have hW : W = w.drew := hW; subst hW; go_simp; (try with_reducible rfl); (try omega))
        · exact stg_val (by rfl) (by rfl) (fun W hW => by have hW : W = w.drew := hW; subst hW; go_simp; (try with_reducible rfl); (try omega))
        · exact stg_val (by rfl) (by rfl) (fun W hW => by have hW : W = w.drew := hW; subst hW; go_simp; (try with_reducible rfl); (try omega))
        · exact stg_val (by rfl) (by rfl) (fun W hW => by have hW : W = w.drew := hW; subst hW; go_simp; (try with_reducible rfl); (try omega))
        · exact stg_val (by rfl) (by rfl) (fun W hW => by have hW : W = w.drew := hW; subst hW; go_simp; (try with_reducible rfl); (try omega))
        · exact stg_skip (by rfl) (by rfl) rfl (fun W hW => by have hW : W = w.drew := hW; subst hW; refine ⟨w2, ?_, rfl⟩; rw [HW.out]; go_simp; try rfl)
      case he2 =>
      intro W hW
      have hW : W = w2 := hW
      subst hW
      clear HW
      go_wp2
      go_end0
      exact HF.out
  · have HF : Hid (CntR w ab b0 b1 mv fs x (.returned (.tuple #[])) w) := ⟨rfl, by
      have e0 : cntP 0 x = 0 := by unfold cntP; rw [if_neg (by omega)]
      have e1 : cntP 1 x = 0 := by unfold cntP; rw [if_neg (by omega)]
      rw [e0, e1]
      exact h, Fr.refl _ _⟩
    have hz : ((x.1.is : Int) == 1) = false := by simp; omega
    obtain ⟨is, his⟩ : ∃ is, is = x.1.is := ⟨_, rfl⟩
    rw [← his] at h14 hz h1
    clear h his
    go_enter Try.func48, Try.ntmps48
    go_wp2
    go_end0
    exact HF.out
end Go.Proofs.Ytconfmjgoipejaa
