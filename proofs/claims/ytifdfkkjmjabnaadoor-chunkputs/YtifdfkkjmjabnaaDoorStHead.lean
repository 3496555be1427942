/- A struct api.Head, by value, as a parameter: opened. -/
import Derived.Test.YtifdfkkjmjabnaaDoorProg
import Derived.Test.YtifdfkkjmjabnaaDoorBase
import Derived.RowKit
import Derived.ChangeSlices
import Derived.SizedLaws
import Derived.ChangeArms
import Derived.WideShapes
import Derived.ProofKit
import Derived.OpenShut
namespace Go.Proofs.YtifdfkkjmjabnaaDoor.StHead
open Go.RowKit Go.ChangeShapes Go.WideShapes Go.ChangeAt
theorem fields : ∃ f0 f1 f2 : Field, Tryd.prog.underlying 36 = some (.struct #[f0, f1, f2]) ∧ f0.offset = 0 ∧ f1.offset = 1 ∧ f2.offset = 2 ∧ f0.type = 23 ∧ f1.type = 23 ∧ f2.type = 22 := ⟨_, _, _, Tryd.underlying36, rfl, rfl, rfl, rfl, rfl, rfl⟩
theorem cells_all : Tryd.prog.cellsOf 36 = 3 := by kernel_rfl
theorem cells_uint16 : Tryd.prog.cellsOf 23 = 1 := by kernel_rfl
theorem cells_uint32 : Tryd.prog.cellsOf 22 = 1 := by kernel_rfl
set_option linter.unusedVariables false in
set_option maxRecDepth 100000 in
theorem open_ {H : Type} {enc : TypeId × Value → H} {w : World} {b0 base : Nat} {held : Bool} {v : Value} {d : DataW H} {p : List MemPlace}
    (hv : Value.okWide Tryd.prog w .any b0 36 v) (h : DataW.Trod enc Tryd.prog w base (fun _ => true) held 36 v d p) (hw : ∀ n ∈ d.weights Tryd.prog 36, n ≤ reachBytes) :
    ∃ (x0 : Nat) (x1 : Nat) (x2 : Nat), v = .agg #[.int .u16 (x0 : Nat), .int .u16 (x1 : Nat), .int .u32 (x2 : Nat)] ∧ x0 < 65536 ∧ x1 < 65536 ∧ x2 < 4294967296 := by
  obtain ⟨f0, f1, f2, he, o0, o1, o2, t0, t1, t2⟩ := fields
  obtain ⟨cs, rfl, hsz⟩ := okWide_struct he hv
  rw [cells_all] at hsz
  obtain ⟨cl⟩ := cs
  obtain ⟨fuel, hf⟩ := h
  obtain ⟨xs, m, _, hx, _, hlen, hfs⟩ := DataW.trod_struct he hf
  have hsz2 : cl.length = 3 := hsz
  have hlen2 : xs.length = 3 := hlen
  match cl, hsz2, xs, hlen2 with
  | [v0, v1, v2], _, [y0, y1, y2], _ =>
    have hd := (Prod.mk.inj hx).1
    simp only [List.map_cons, List.map_nil] at hd
    have g0 := hfs 0 f0 rfl
    simp [Value.cells, o0, t0, cells_uint16] at g0
    have g1 := hfs 1 f1 rfl
    simp [Value.cells, o1, t1, cells_uint16] at g1
    have g2 := hfs 2 f2 rfl
    simp [Value.cells, o2, t2, cells_uint32] at g2
    obtain ⟨z0, e0, _, w0⟩ := DataW.trod_int Tryd.underlying23 g0
    simp at e0
    subst e0
    obtain ⟨m0, rfl⟩ : ∃ m : Nat, z0 = (m : Int) := ⟨z0.toNat, by have := bounds_u16 w0; omega⟩
    have b0 : m0 < 65536 := by have := bounds_u16 w0; omega
    obtain ⟨z1, e1, _, w1⟩ := DataW.trod_int Tryd.underlying23 g1
    simp at e1
    subst e1
    obtain ⟨m1, rfl⟩ : ∃ m : Nat, z1 = (m : Int) := ⟨z1.toNat, by have := bounds_u16 w1; omega⟩
    have b1 : m1 < 65536 := by have := bounds_u16 w1; omega
    obtain ⟨z2, e2, _, w2⟩ := DataW.trod_int Tryd.underlying22 g2
    simp at e2
    subst e2
    obtain ⟨m2, rfl⟩ : ∃ m : Nat, z2 = (m : Int) := ⟨z2.toNat, by have := bounds_u32 w2; omega⟩
    have b2 : m2 < 4294967296 := by have := bounds_u32 w2; omega
    exact ⟨m0, m1, m2, rfl, b0, b1, b2⟩
end Go.Proofs.YtifdfkkjmjabnaaDoor.StHead
