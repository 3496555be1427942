/- outq: a variable of the caller's in a block of its own, through a range over a function. -/
import Derived.Test.YtconfmjgoipejaaOqW
namespace Go.Proofs.Ytconfmjgoipejaa
open Go.RowKit Go.Shelf
/-- The world is w, but for what lies from n0 on; the variable in block b is v. -/
structure Bx (w : World) (n0 b : Nat) (v : Value) (W : World) : Prop where
  bel : Below n0 w W
  cell : W.cell? ⟨b, 0, none⟩ = some v
  free : W.frozen? ⟨b, 0, none⟩ = false
section
variable {w W W' : World} {n0 b : Nat} {v : Value}
theorem Bx.new (w : World) (v : Value) (T : TypeId) (W : World) (hW : W = w.alloc (.cells #[v] T)) : Bx w w.heap.size w.heap.size v W := by
  subst hW
  refine ⟨(Below.refl _ _).alloc (Nat.le_refl _) _, box_new w v T, ?_⟩
  have hh : (w.alloc (.cells #[v] T)).heap[w.heap.size]? = some (.cells #[v] T) := World.alloc_heap_new w _
  unfold World.frozen?
  dsimp only
  rw [hh]
  simp
theorem Bx.grown {row : Option Nat} {B : Nat} (h : Bx w n0 b v W) (hB : n0 ≤ B) (hn : n0 ≤ W.heap.size) (hg : W.grownBy W' row) (hr : ∀ r, row = some r → B ≤ r ∧ ∃ o : Obj, W.heap[r]? = some o ∧ o.isCells = false) : Bx w n0 b v W' :=
  ⟨h.bel.grown hg hn (fun k hk => Nat.le_trans hB (hr k hk).1), cell_kept h.cell hg (fun r e => (hr r e).2), (frozen_kept h.cell hg (fun r e => (hr r e).2)).trans h.free⟩
theorem Bx.set (h : Bx w n0 b v W) (hb : n0 ≤ b) (u : Value) : Bx w n0 b u (W.setCell ⟨b, 0, none⟩ u) :=
  ⟨h.bel.setCell (p := ⟨b, 0, none⟩) hb _, World.cell?_setCell_same' _ _ _ (by rw [h.cell]; rfl), by rw [World.frozen?_setCell]; exact h.free⟩
theorem Bx.drew (h : Bx w n0 b v W) : Bx w n0 b v W.drew := ⟨h.bel.drew, h.cell, h.free⟩
theorem Bx.below {n1 : Nat} (h : Bx w n0 b v W) (hb : Below n1 W W') (h1 : b < n1) (h0 : n0 ≤ n1) : Bx w n0 b v W' :=
  ⟨h.bel.trans (hb.mono h0), (hb.cell (p := ⟨b, 0, none⟩) h1).trans h.cell, by
    have e : W'.heap[b]? = W.heap[b]? := hb.block b h1
    have := h.free
    unfold World.frozen? at this ⊢
    dsimp only at this ⊢
    rw [e]
    exact this⟩
end
theorem Kq.setDrew {B C : Nat} {Qs : Nat → Prop} (W : World) (b : Nat) (v : Value) (h1 : ¬ (B ≤ b ∧ b < B + C)) (h2 : ¬ Qs b) : Kq B C Qs W (W.setCell ⟨b, 0, none⟩ v).drew :=
  ⟨(Kq.set (B := B) (C := C) (Qs := Qs) W ⟨b, 0, none⟩ v h1 h2).size, (Kq.set (B := B) (C := C) (Qs := Qs) W ⟨b, 0, none⟩ v h1 h2).same⟩
theorem Kq.setB {B C : Nat} {Qs : Nat → Prop} (W : World) (b : Nat) (v : Value) (h1 : ¬ (B ≤ b ∧ b < B + C)) (h2 : ¬ Qs b) : Kq B C Qs W (W.setCell ⟨b, 0, none⟩ v) :=
  Kq.set W ⟨b, 0, none⟩ v h1 h2
end Go.Proofs.Ytconfmjgoipejaa
