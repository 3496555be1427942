/- A drawn region that makes a variable and stores into it; calls that only make memory beside: in any order. -/
import Derived.Test.YtlgfbcfogcmdbaaDoorRgZ
import Derived.Test.YtlgfbcfogcmdbaaDoorChB
namespace Go.Proofs.YtlgfbcfogcmdbaaDoor
open Go.RowKit
theorem Stc.there {w : World} {q : Nat} {cs : List Value} (h : Stc w q cs) : w.there q 0 cs.length := fun j hj => by
  rw [Nat.zero_add]
  exact ⟨by rw [h.cell j _ (List.getElem?_eq_getElem hj)]; rfl, h.free j⟩
theorem Stc.set {w : World} {q : Nat} {cs : List Value} (h : Stc w q cs) (j : Nat) (u : Value) : Stc (w.setCell ⟨q, j, none⟩ u) q (cs.set j u) := by
  refine ⟨by simp [World.setCell]; exact h.lt, fun i v hv => ?_, fun i => by rw [World.frozen?_setCell]; exact h.free i⟩
  rw [List.getElem?_set] at hv
  split at hv
  · rename_i e
    subst e
    split at hv
    · rename_i hl
      injection hv with hv
      subst hv
      exact World.cell?_setCell_same' _ _ _ (by rw [h.cell j _ (List.getElem?_eq_getElem hl)]; rfl)
    · cases hv
  · rename_i e
    rw [World.cell?_setCell_other _ _ _ _ (by intro e2; injection e2 with _ e3; exact e e3)]
    exact h.cell i v hv
theorem Stc.other {w : World} {q : Nat} {cs : List Value} (h : Stc w q cs) (q2 j : Nat) (u : Value) (hne : q2 ≠ q) : Stc (w.setCell ⟨q2, j, none⟩ u) q cs :=
  h.fr (Fr.setCell (fun b => b = q2) _ _ _ rfl) (fun e => hne e.symm)
theorem fr_setCellsX (b : Nat) : ∀ (vs : List Value) (o : Nat) (w : World), Fr (fun k => k = b) w (w.setCells b o vs) := by
  intro vs
  induction vs with
  | nil => intro o w; exact Fr.refl _ _
  | cons v vs ih =>
    intro o w
    exact (Fr.setCell (fun k => k = b) w ⟨b, o, none⟩ v rfl).trans (ih (o + 1) (w.setCell ⟨b, o, none⟩ v))
theorem frozen_setCellsX (b : Nat) : ∀ (vs : List Value) (o : Nat) (w : World) (x : Addr), (w.setCells b o vs).frozen? x = w.frozen? x := by
  intro vs
  induction vs with
  | nil => intro o w x; rfl
  | cons v vs ih =>
    intro o w x
    exact (ih (o + 1) (w.setCell ⟨b, o, none⟩ v) x).trans (World.frozen?_setCell _ _ _ _)
theorem Stc.put {w : World} {q : Nat} {cs : List Value} (h : Stc w q cs) (vs : List Value) (hl : vs.length = cs.length) : Stc (w.setCells q 0 vs) q vs := by
  refine ⟨Nat.lt_of_lt_of_le h.lt (fr_setCellsX q vs 0 w).size, fun i v hv => ?_, fun i => by rw [frozen_setCellsX]; exact h.free i⟩
  have := World.rangeAt_setCells_same w q 0 vs (by rw [hl]; exact h.there) i v hv
  rwa [Nat.zero_add] at this
/-- ia: the operation that makes it, is: the one that stores. -/
structure RgC (ia is_ : Nat) (w : World) (z cs : List Value) (θ : Nat) (l : Nat → Bool) (W : World) : Prop where
  a1 : l is_ = true → Stc W θ cs
  a2 : l is_ = false → l ia = true → Stc W θ z
  a3 : l ia = true → w.heap.size ≤ θ ∧ θ < W.heap.size
  a4 : Below w.heap.size w W
section
variable {ia is_ : Nat} {w : World} {z cs : List Value} {θ : Nat} {l : Nat → Bool} {W : World}
theorem updL_neC {l : Nat → Bool} {i j : Nat} (h : j ≠ i) : updL l i j = l j := if_neg h
theorem updL_eqC {l : Nat → Bool} {i : Nat} : updL l i i = true := if_pos rfl
theorem RgC.start (h : Below w.heap.size w W) : RgC ia is_ w z cs θ (fun _ => false) W := ⟨fun e => (by cases e), fun _ e => (by cases e), fun e => (by cases e), h⟩
theorem RgC.call {W' : World} (h : RgC ia is_ w z cs θ l W) (hb : Below W.heap.size W W') (i : Nat) (h1 : ia ≠ i) (h2 : is_ ≠ i) : RgC ia is_ w z cs θ (updL l i) W' :=
  ⟨by rw [updL_neC h2]; exact fun e => (h.a1 e).below hb, by rw [updL_neC h2, updL_neC h1]; exact fun e1 e2 => (h.a2 e1 e2).below hb, by rw [updL_neC h1]; exact fun e => ⟨(h.a3 e).1, Nat.lt_of_lt_of_le (h.a3 e).2 hb.size⟩, h.a4.trans (hb.mono h.a4.size)⟩
theorem RgC.other (h : RgC ia is_ w z cs θ l W) (i : Nat) (h1 : ia ≠ i) (h2 : is_ ≠ i) : RgC ia is_ w z cs θ (updL l i) W := h.call (Below.refl _ _) i h1 h2
theorem RgC.alloc (h : RgC ia is_ w z cs θ l W) (hs : l is_ = false) (hne : is_ ≠ ia) (T : TypeId) (zA : Array Value) (hz : zA = z.toArray) : RgC ia is_ w z cs W.heap.size (updL l ia) (W.alloc (.cells zA T)) := by
  subst hz
  refine ⟨by rw [updL_neC hne, hs]; exact fun e => (by cases e), fun _ _ => Stc.new W z T _ rfl, fun _ => ⟨h.a4.size, by simp⟩, h.a4.trans (((Below.refl _ _).alloc (Nat.le_refl _) _).mono h.a4.size)⟩
theorem RgC.store (h : RgC ia is_ w z cs θ l W) (ha : l ia = true) (hs : l is_ = false) (hl : cs.length = z.length) : W.there θ 0 cs.length ∧ RgC ia is_ w z cs θ (updL l is_) (W.setCells θ 0 cs) := by
  have s := h.a2 hs ha
  have hf := fr_setCellsX θ cs 0 W
  refine ⟨by rw [hl]; exact s.there, ⟨fun _ => s.put cs hl, fun e => (by rw [updL_eqC] at e; cases e), fun _ => ⟨(h.a3 ha).1, Nat.lt_of_lt_of_le (h.a3 ha).2 hf.size⟩, h.a4.trans (hf.below _ h.a4.size (fun k hk => by rw [hk]; exact (h.a3 ha).1))⟩⟩
end
end Go.Proofs.YtlgfbcfogcmdbaaDoor
