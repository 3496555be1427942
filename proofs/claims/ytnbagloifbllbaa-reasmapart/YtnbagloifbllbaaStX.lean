/- Structs stored whole. -/
import Derived.Test.YtnbagloifbllbaaSt
namespace Go.Proofs.Ytnbagloifbllbaa
open Go.RowKit
theorem fr_setCellsX (b : Nat) : ∀ (vs : List Value) (o : Nat) (w : World), Fr (fun k => k = b) w (w.setCells b o vs) := by
  intro vs
  induction vs with
  | nil => intro o w; exact Fr.refl _ _
  | cons v vs ih =>
    intro o w
    exact (Fr.setCell (fun k => k = b) w ⟨b, o, none⟩ v rfl).trans (ih (o + 1) (w.setCell ⟨b, o, none⟩ v))
theorem frozen_setCellsX (b : Nat) : ∀ (vs : List Value) (o : Nat) (w : World) (x : Addr), (w.setCells b o vs).frozen? x = w.frozen? x := by
  intro vs
  induction vs with
  | nil => intro o w x; rfl
  | cons v vs ih =>
    intro o w x
    exact (ih (o + 1) (w.setCell ⟨b, o, none⟩ v) x).trans (World.frozen?_setCell _ _ _ _)
theorem Stc.put {w : World} {q : Nat} {cs : List Value} (h : Stc w q cs) (vs : List Value) (hl : vs.length = cs.length) : Stc (w.setCells q 0 vs) q vs := by
  refine ⟨Nat.lt_of_lt_of_le h.lt (fr_setCellsX q vs 0 w).size, fun i v hv => ?_, fun i => by rw [frozen_setCellsX]; exact h.free i⟩
  have := World.rangeAt_setCells_same w q 0 vs (by rw [hl]; exact h.there) i v hv
  rwa [Nat.zero_add] at this
end Go.Proofs.Ytnbagloifbllbaa
