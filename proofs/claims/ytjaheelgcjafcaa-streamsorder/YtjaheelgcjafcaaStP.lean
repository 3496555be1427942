/- A piece's flags. -/
import Derived.Test.YtjaheelgcjafcaaChB
namespace Go.Proofs.Ytjaheelgcjafcaa
open Go.RowKit
theorem flag_begins : ∀ f : Nat, f < 256 → (bits BinOp.and IntKind.u8 (f : Int) 2 != 0) = decide (f / 2 % 2 = 1) := by decide +kernel
set_option linter.unusedVariables false in
set_option maxRecDepth 100000 in
theorem begins_any (f : Nat) (c1 c2 c3 c4 : Value) (w : World) (hf : f < 256) (v : Value) (hv : v = .agg #[.int .u8 (f : Nat), c1, c2, c3, c4]) :
    Calls Try.prog 39 #[v] w fun e w' => e = .returned (.bool (decide (f / 2 % 2 = 1))) ∧ Below w.heap.size w w' := by
  subst hv
  have hfl := flag_begins f hf
  go_enter Try.func39, Try.ntmps39
  go_wp2
  try rw [hfl]
  go_ret
  exact ⟨by first | rfl | rw [hfl], (Below.refl _ _).alloc (Nat.le_refl _) _⟩
theorem flag_ends : ∀ f : Nat, f < 256 → (bits BinOp.and IntKind.u8 (f : Int) 1 != 0) = decide (f % 2 = 1) := by decide +kernel
set_option linter.unusedVariables false in
set_option maxRecDepth 100000 in
theorem ends_any (f : Nat) (c1 c2 c3 c4 : Value) (w : World) (hf : f < 256) (v : Value) (hv : v = .agg #[.int .u8 (f : Nat), c1, c2, c3, c4]) :
    Calls Try.prog 42 #[v] w fun e w' => e = .returned (.bool (decide (f % 2 = 1))) ∧ Below w.heap.size w w' := by
  subst hv
  have hfl := flag_ends f hf
  go_enter Try.func42, Try.ntmps42
  go_wp2
  try rw [hfl]
  go_ret
  exact ⟨by first | rfl | rw [hfl], (Below.refl _ _).alloc (Nat.le_refl _) _⟩
theorem flag_free : ∀ f : Nat, f < 256 → (bits BinOp.and IntKind.u8 (f : Int) 4 != 0) = decide (f / 4 % 2 = 1) := by decide +kernel
set_option linter.unusedVariables false in
set_option maxRecDepth 100000 in
theorem free_any (f : Nat) (c1 c2 c3 c4 : Value) (w : World) (hf : f < 256) (v : Value) (hv : v = .agg #[.int .u8 (f : Nat), c1, c2, c3, c4]) :
    Calls Try.prog 43 #[v] w fun e w' => e = .returned (.bool (decide (f / 4 % 2 = 1))) ∧ Below w.heap.size w w' := by
  subst hv
  have hfl := flag_free f hf
  go_enter Try.func43, Try.ntmps43
  go_wp2
  try rw [hfl]
  go_ret
  exact ⟨by first | rfl | rw [hfl], (Below.refl _ _).alloc (Nat.le_refl _) _⟩
end Go.Proofs.Ytjaheelgcjafcaa
