/- ref14.New. -/
import Derived.Test.YtconfmjgoipejaaOqN
namespace Go.Proofs.Ytconfmjgoipejaa
open Go.RowKit Go.Shelf
theorem r14new_bad (first : Nat) (outs size : Int) (w : World) (h : outs < 1 ∨ 8 < outs ∨ size < 1 ∨ 1452 < size) :
    Calls Try.prog 9 #[.int .u32 (first : Nat), .int .i64 outs, .int .i64 size] w fun e w' => e = .returned (.tuple #[.pointer none, .int .i64 2]) ∧ Below w.heap.size w w' := by
  by_cases h1 : outs < 1
  · go_enter Try.func9, Try.ntmps9
    go_wp2
    go_ret2
    exact ⟨rfl, Below.refl _ _⟩
  by_cases h2 : outs > 8
  · go_enter Try.func9, Try.ntmps9
    go_wp2
    go_ret2
    exact ⟨rfl, Below.refl _ _⟩
  by_cases h3 : size < 1
  · go_enter Try.func9, Try.ntmps9
    go_wp2
    go_ret2
    exact ⟨rfl, Below.refl _ _⟩
  have h4 : size > 1452 := by omega
  go_enter Try.func9, Try.ntmps9
  go_wp2
  go_ret2
  exact ⟨rfl, Below.refl _ _⟩
set_option maxRecDepth 100000 in
theorem r14new_ok (first outs size : Nat) (w : World) (h1 : 1 ≤ outs) (h2 : outs ≤ 8) (h3 : 1 ≤ size) (h4 : size ≤ 1452) :
    Calls Try.prog 9 #[.int .u32 (first : Nat), .int .i64 (outs : Nat), .int .i64 (size : Nat)] w fun e w' => (∃ p, e = .returned (.tuple #[.pointer (some p), .int .i64 0])) ∧ Below w.heap.size w w' := by
  have g1 : ¬ (outs : Int) < 1 := by omega
  have g2 : ¬ (outs : Int) > 8 := by omega
  have g3 : ¬ (size : Int) < 1 := by omega
  have g4 : ¬ (size : Int) > 1452 := by omega
  have hmk := mk16Q outs (by omega)
  go_enter Try.func9, Try.ntmps9
  go_wp2
  go_ret2
  refine ⟨⟨_, rfl⟩, ?_⟩
  exact ((Below.refl _ _).alloc (Nat.le_refl _) _).alloc (by simp) _
end Go.Proofs.Ytconfmjgoipejaa
