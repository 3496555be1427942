/- Packets in pieces: how they lie in memory, and what a search answers. -/
import Derived.Test.YtnbagloifbllbaaOwnK
import Derived.Test.YtnbagloifbllbaaOwnG
namespace Go.Proofs.Ytnbagloifbllbaa
open Go.RowKit
abbrev Nm := Nat × Nat × Nat × Nat
/-- A packet in pieces, as it lies. -/
structure Pt where
  sr : Nat
  ds : Nat
  pr : Nat
  id : Nat
  si : Int
  a : Option Addr
  n : Nat
  c : Nat
def Pt.nm (x : Pt) : Nm := (x.sr, x.ds, x.pr, x.id)
def Pt.cells (x : Pt) : List Value := [.int .u32 (x.sr : Nat), .int .u32 (x.ds : Nat), .int .u8 (x.pr : Nat), .int .u16 (x.id : Nat), .int .i64 x.si, .slice x.a x.n x.c]
theorem Pt.cells_len (x : Pt) : x.cells.length = 6 := rfl
theorem layPt : Lays Try.prog 48 58 6 48 Pt.cells :=
  ⟨Try.underlying48, ⟨.agg #[.int .u32 0, .int .u32 0, .int .u8 0, .int .u16 0, .int .i64 0, .slice none 0 0], by kernel_rfl, rfl⟩, by decide, fun _ => rfl, fun x u hu => by
    simp [Pt.cells] at hu
    rcases hu with rfl | rfl | rfl | rfl | rfl | rfl <;> rfl⟩
abbrev OwnT := OwnG 58 6 Pt.cells
/-- What a search by a test answers. -/
def IdxP {α : Type} (p : α → Bool) (l : List α) (v : Int) : Prop := (v = -1 ∧ ∀ x ∈ l, p x = false) ∨ ∃ (j : Nat) (x : α), v = (j : Int) ∧ l[j]? = some x ∧ p x = true ∧ ∀ k y, k < j → l[k]? = some y → p y = false
theorem IdxP.any {α : Type} {p : α → Bool} {l : List α} {v : Int} (h : IdxP p l v) : decide (0 ≤ v) = l.any p := by
  rcases h with ⟨rfl, h⟩ | ⟨j, x, rfl, hx, hp, _⟩
  · symm
    rw [show decide ((0 : Int) ≤ -1) = false from rfl]
    rw [List.any_eq_false]
    intro x hx
    rw [h x hx]
    simp
  · rw [decide_eq_true (by omega)]
    symm
    rw [List.any_eq_true]
    exact ⟨x, List.mem_of_getElem? hx, hp⟩
end Go.Proofs.Ytnbagloifbllbaa
