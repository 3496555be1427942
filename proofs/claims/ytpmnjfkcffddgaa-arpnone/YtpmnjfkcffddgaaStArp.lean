/- A struct api.Arp, by value, as a parameter: opened. -/
import Derived.Test.YtpmnjfkcffddgaaProg
import Derived.Test.YtpmnjfkcffddgaaBase
import Derived.RowKit
import Derived.ChangeSlices
import Derived.SizedLaws
import Derived.ChangeArms
import Derived.WideShapes
import Derived.ProofKit
import Derived.OpenShut
namespace Go.Proofs.Ytpmnjfkcffddgaa.StArp
open Go.RowKit Go.ChangeShapes Go.WideShapes Go.ChangeAt
theorem fields : ∃ f0 f1 f2 f3 f4 : Field, Try.prog.underlying 31 = some (.struct #[f0, f1, f2, f3, f4]) ∧ f0.offset = 0 ∧ f1.offset = 1 ∧ f2.offset = 2 ∧ f3.offset = 3 ∧ f4.offset = 4 ∧ f0.type = 3 ∧ f1.type = 28 ∧ f2.type = 22 ∧ f3.type = 28 ∧ f4.type = 22 := ⟨_, _, _, _, _, Try.underlying31, rfl, rfl, rfl, rfl, rfl, rfl, rfl, rfl, rfl, rfl⟩
theorem cells_all : Try.prog.cellsOf 31 = 5 := by kernel_rfl
theorem cells_int : Try.prog.cellsOf 3 = 1 := by kernel_rfl
theorem cells_uint32 : Try.prog.cellsOf 22 = 1 := by kernel_rfl
theorem cells_uint64 : Try.prog.cellsOf 28 = 1 := by kernel_rfl
set_option linter.unusedVariables false in
set_option maxRecDepth 100000 in
theorem open_ {H : Type} {enc : TypeId × Value → H} {w : World} {b0 base : Nat} {held : Bool} {v : Value} {d : DataW H} {p : List MemPlace}
    (hv : Value.okWide Try.prog w .any b0 31 v) (h : DataW.Trod enc Try.prog w base (fun _ => true) held 31 v d p) (hw : ∀ n ∈ d.weights Try.prog 31, n ≤ reachBytes) :
    ∃ (x0 : Int) (x1 : Nat) (x2 : Nat) (x3 : Nat) (x4 : Nat), v = .agg #[.int .i64 x0, .int .u64 (x1 : Nat), .int .u32 (x2 : Nat), .int .u64 (x3 : Nat), .int .u32 (x4 : Nat)] ∧ (Lit.int .i64 x0).wf = true ∧ x1 < 18446744073709551616 ∧ x2 < 4294967296 ∧ x3 < 18446744073709551616 ∧ x4 < 4294967296 := by
  obtain ⟨f0, f1, f2, f3, f4, he, o0, o1, o2, o3, o4, t0, t1, t2, t3, t4⟩ := fields
  obtain ⟨cs, rfl, hsz⟩ := okWide_struct he hv
  rw [cells_all] at hsz
  obtain ⟨cl⟩ := cs
  obtain ⟨fuel, hf⟩ := h
  obtain ⟨xs, m, _, hx, _, hlen, hfs⟩ := DataW.trod_struct he hf
  have hsz2 : cl.length = 5 := hsz
  have hlen2 : xs.length = 5 := hlen
  match cl, hsz2, xs, hlen2 with
  | [v0, v1, v2, v3, v4], _, [y0, y1, y2, y3, y4], _ =>
    have hd := (Prod.mk.inj hx).1
    simp only [List.map_cons, List.map_nil] at hd
    have g0 := hfs 0 f0 rfl
    simp [Value.cells, o0, t0, cells_int] at g0
    have g1 := hfs 1 f1 rfl
    simp [Value.cells, o1, t1, cells_uint64] at g1
    have g2 := hfs 2 f2 rfl
    simp [Value.cells, o2, t2, cells_uint32] at g2
    have g3 := hfs 3 f3 rfl
    simp [Value.cells, o3, t3, cells_uint64] at g3
    have g4 := hfs 4 f4 rfl
    simp [Value.cells, o4, t4, cells_uint32] at g4
    obtain ⟨z0, e0, _, w0⟩ := DataW.trod_int Try.underlying3 g0
    simp at e0
    subst e0
    obtain ⟨z1, e1, _, w1⟩ := DataW.trod_int Try.underlying28 g1
    simp at e1
    subst e1
    obtain ⟨m1, rfl⟩ : ∃ m : Nat, z1 = (m : Int) := ⟨z1.toNat, by have := bounds_u64 w1; omega⟩
    have b1 : m1 < 18446744073709551616 := by have := bounds_u64 w1; omega
    obtain ⟨z2, e2, _, w2⟩ := DataW.trod_int Try.underlying22 g2
    simp at e2
    subst e2
    obtain ⟨m2, rfl⟩ : ∃ m : Nat, z2 = (m : Int) := ⟨z2.toNat, by have := bounds_u32 w2; omega⟩
    have b2 : m2 < 4294967296 := by have := bounds_u32 w2; omega
    obtain ⟨z3, e3, _, w3⟩ := DataW.trod_int Try.underlying28 g3
    simp at e3
    subst e3
    obtain ⟨m3, rfl⟩ : ∃ m : Nat, z3 = (m : Int) := ⟨z3.toNat, by have := bounds_u64 w3; omega⟩
    have b3 : m3 < 18446744073709551616 := by have := bounds_u64 w3; omega
    obtain ⟨z4, e4, _, w4⟩ := DataW.trod_int Try.underlying22 g4
    simp at e4
    subst e4
    obtain ⟨m4, rfl⟩ : ∃ m : Nat, z4 = (m : Int) := ⟨z4.toNat, by have := bounds_u32 w4; omega⟩
    have b4 : m4 < 4294967296 := by have := bounds_u32 w4; omega
    exact ⟨z0, m1, m2, m3, m4, rfl, w0, b1, b2, b3, b4⟩
end Go.Proofs.Ytpmnjfkcffddgaa.StArp
