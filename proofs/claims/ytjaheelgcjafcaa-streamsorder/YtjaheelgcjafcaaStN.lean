/- streams.New. -/
import Derived.Test.YtjaheelgcjafcaaStO
import Derived.Deep.OwnRows
import Derived.Carry
namespace Go.Proofs.Ytjaheelgcjafcaa
open Go.RowKit
set_option linter.unusedVariables false in
set_option maxRecDepth 100000 in
theorem snew_bad (n : Int) (w : World) (h : ¬ (1 ≤ n ∧ n ≤ 8)) :
    Calls Try.prog 12 #[.int .i64 n] w fun e w' => e = .returned (.tuple #[.pointer none, .int .i64 2]) ∧ Below w.heap.size w w' := by
  by_cases h1 : n < 1
  · go_enter Try.func12, Try.ntmps12
    go_wp2
    go_ret2
    exact ⟨rfl, Below.refl _ _⟩
  · have h2 : 8 < n := by omega
    go_enter Try.func12, Try.ntmps12
    go_wp2
    go_ret2
    exact ⟨rfl, Below.refl _ _⟩
theorem u16_info : (Try.prog.info? 42).map (fun i => (i.zero, i.size, i.bytes)) = some (some (.int .u16 0), 1, 2) := by kernel_rfl
theorem mk16 (c : Nat) (hc : c ≤ 64) (w : World) : (Instr.makeSlice 72 (.int .i64 (c : Int)) (.int .i64 (c : Int))).run Try.prog w = .ok (.slice (some ⟨w.heap.size, 0, none⟩) c c) (w.alloc (.cells (madeCells #[.int .u16 0] c) 42)) :=
  run_make_row' 72 42 (.int .u16 0) 2 Try.underlying72 u16_info rfl .i64 .i64 c (by omega) (by omega) w
set_option linter.unusedVariables false in
set_option maxRecDepth 100000 in
theorem snew_ok (n : Nat) (w : World) (h1 : 1 ≤ n) (h2 : n ≤ 8) :
    Calls Try.prog 12 #[.int .i64 (n : Nat)] w fun e w' => e = .returned (.tuple #[.pointer (some ⟨w.heap.size + 3, 0, none⟩), .int .i64 0])
      ∧ w' = (((w.alloc (.cells (madeCells #[.int .u16 0] n) 42)).alloc (.map #[] 0)).alloc (.map #[] 0)).alloc (.cells #[.slice (some ⟨w.heap.size, 0, none⟩) n n, .map (some (w.heap.size + 1)), .map (some (w.heap.size + 2))] 76) := by
  have h3 : ¬ (n : Int) < 1 := by omega
  have h4 : ¬ (8 : Int) < (n : Int) := by omega
  have hmk := mk16 n (by omega)
  have hm1 := fun W => run_makeMap (P := Try.prog) 73 W
  have hm2 := fun W => run_makeMap (P := Try.prog) 74 W
  go_enter Try.func12, Try.ntmps12
  go_wp2
  go_ret2
  exact ⟨rfl, rfl⟩
end Go.Proofs.Ytjaheelgcjafcaa
