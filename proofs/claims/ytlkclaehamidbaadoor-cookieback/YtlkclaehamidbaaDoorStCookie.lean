/- A struct api.Cookie, by value, as a parameter: opened. -/
import Derived.Test.YtlkclaehamidbaaDoorProg
import Derived.Test.YtlkclaehamidbaaDoorBase
import Derived.RowKit
import Derived.ChangeSlices
import Derived.SizedLaws
import Derived.ChangeArms
import Derived.WideShapes
import Derived.ProofKit
import Derived.OpenShut
namespace Go.Proofs.YtlkclaehamidbaaDoor.StCookie
open Go.RowKit Go.ChangeShapes Go.WideShapes Go.ChangeAt
theorem fields : ∃ f0 f1 f2 f3 f4 f5 f6 f7 f8 f9 f10 f11 f12 : Field, Tryd.prog.underlying 33 = some (.struct #[f0, f1, f2, f3, f4, f5, f6, f7, f8, f9, f10, f11, f12]) ∧ f0.offset = 0 ∧ f1.offset = 1 ∧ f2.offset = 2 ∧ f3.offset = 3 ∧ f4.offset = 4 ∧ f5.offset = 5 ∧ f6.offset = 6 ∧ f7.offset = 7 ∧ f8.offset = 8 ∧ f9.offset = 9 ∧ f10.offset = 10 ∧ f11.offset = 11 ∧ f12.offset = 12 ∧ f0.type = 3 ∧ f1.type = 3 ∧ f2.type = 30 ∧ f3.type = 30 ∧ f4.type = 31 ∧ f5.type = 31 ∧ f6.type = 31 ∧ f7.type = 31 ∧ f8.type = 31 ∧ f9.type = 30 ∧ f10.type = 30 ∧ f11.type = 31 ∧ f12.type = 31 := ⟨_, _, _, _, _, _, _, _, _, _, _, _, _, Tryd.underlying33, rfl, rfl, rfl, rfl, rfl, rfl, rfl, rfl, rfl, rfl, rfl, rfl, rfl, rfl, rfl, rfl, rfl, rfl, rfl, rfl, rfl, rfl, rfl, rfl, rfl, rfl⟩
theorem cells_all : Tryd.prog.cellsOf 33 = 13 := by kernel_rfl
theorem cells_int : Tryd.prog.cellsOf 3 = 1 := by kernel_rfl
theorem cells_uint16 : Tryd.prog.cellsOf 30 = 1 := by kernel_rfl
theorem cells_uint32 : Tryd.prog.cellsOf 31 = 1 := by kernel_rfl
set_option linter.unusedVariables false in
set_option maxRecDepth 100000 in
theorem open_ {H : Type} {enc : TypeId × Value → H} {w : World} {b0 base : Nat} {held : Bool} {v : Value} {d : DataW H} {p : List MemPlace}
    (hv : Value.okWide Tryd.prog w .any b0 33 v) (h : DataW.Trod enc Tryd.prog w base (fun _ => true) held 33 v d p) (hw : ∀ n ∈ d.weights Tryd.prog 33, n ≤ reachBytes) :
    ∃ (x0 : Int) (x1 : Int) (x2 : Nat) (x3 : Nat) (x4 : Nat) (x5 : Nat) (x6 : Nat) (x7 : Nat) (x8 : Nat) (x9 : Nat) (x10 : Nat) (x11 : Nat) (x12 : Nat), v = .agg #[.int .i64 x0, .int .i64 x1, .int .u16 (x2 : Nat), .int .u16 (x3 : Nat), .int .u32 (x4 : Nat), .int .u32 (x5 : Nat), .int .u32 (x6 : Nat), .int .u32 (x7 : Nat), .int .u32 (x8 : Nat), .int .u16 (x9 : Nat), .int .u16 (x10 : Nat), .int .u32 (x11 : Nat), .int .u32 (x12 : Nat)] ∧ (Lit.int .i64 x0).wf = true ∧ (Lit.int .i64 x1).wf = true ∧ x2 < 65536 ∧ x3 < 65536 ∧ x4 < 4294967296 ∧ x5 < 4294967296 ∧ x6 < 4294967296 ∧ x7 < 4294967296 ∧ x8 < 4294967296 ∧ x9 < 65536 ∧ x10 < 65536 ∧ x11 < 4294967296 ∧ x12 < 4294967296 := by
  obtain ⟨f0, f1, f2, f3, f4, f5, f6, f7, f8, f9, f10, f11, f12, he, o0, o1, o2, o3, o4, o5, o6, o7, o8, o9, o10, o11, o12, t0, t1, t2, t3, t4, t5, t6, t7, t8, t9, t10, t11, t12⟩ := fields
  obtain ⟨cs, rfl, hsz⟩ := okWide_struct he hv
  rw [cells_all] at hsz
  obtain ⟨cl⟩ := cs
  obtain ⟨fuel, hf⟩ := h
  obtain ⟨xs, m, _, hx, _, hlen, hfs⟩ := DataW.trod_struct he hf
  have hsz2 : cl.length = 13 := hsz
  have hlen2 : xs.length = 13 := hlen
  match cl, hsz2, xs, hlen2 with
  | [v0, v1, v2, v3, v4, v5, v6, v7, v8, v9, v10, v11, v12], _, [y0, y1, y2, y3, y4, y5, y6, y7, y8, y9, y10, y11, y12], _ =>
    have hd := (Prod.mk.inj hx).1
    simp only [List.map_cons, List.map_nil] at hd
    have g0 := hfs 0 f0 rfl
    simp [Value.cells, o0, t0, cells_int] at g0
    have g1 := hfs 1 f1 rfl
    simp [Value.cells, o1, t1, cells_int] at g1
    have g2 := hfs 2 f2 rfl
    simp [Value.cells, o2, t2, cells_uint16] at g2
    have g3 := hfs 3 f3 rfl
    simp [Value.cells, o3, t3, cells_uint16] at g3
    have g4 := hfs 4 f4 rfl
    simp [Value.cells, o4, t4, cells_uint32] at g4
    have g5 := hfs 5 f5 rfl
    simp [Value.cells, o5, t5, cells_uint32] at g5
    have g6 := hfs 6 f6 rfl
    simp [Value.cells, o6, t6, cells_uint32] at g6
    have g7 := hfs 7 f7 rfl
    simp [Value.cells, o7, t7, cells_uint32] at g7
    have g8 := hfs 8 f8 rfl
    simp [Value.cells, o8, t8, cells_uint32] at g8
    have g9 := hfs 9 f9 rfl
    simp [Value.cells, o9, t9, cells_uint16] at g9
    have g10 := hfs 10 f10 rfl
    simp [Value.cells, o10, t10, cells_uint16] at g10
    have g11 := hfs 11 f11 rfl
    simp [Value.cells, o11, t11, cells_uint32] at g11
    have g12 := hfs 12 f12 rfl
    simp [Value.cells, o12, t12, cells_uint32] at g12
    obtain ⟨z0, e0, _, w0⟩ := DataW.trod_int Tryd.underlying3 g0
    simp at e0
    subst e0
    obtain ⟨z1, e1, _, w1⟩ := DataW.trod_int Tryd.underlying3 g1
    simp at e1
    subst e1
    obtain ⟨z2, e2, _, w2⟩ := DataW.trod_int Tryd.underlying30 g2
    simp at e2
    subst e2
    obtain ⟨m2, rfl⟩ : ∃ m : Nat, z2 = (m : Int) := ⟨z2.toNat, by have := bounds_u16 w2; omega⟩
    have b2 : m2 < 65536 := by have := bounds_u16 w2; omega
    obtain ⟨z3, e3, _, w3⟩ := DataW.trod_int Tryd.underlying30 g3
    simp at e3
    subst e3
    obtain ⟨m3, rfl⟩ : ∃ m : Nat, z3 = (m : Int) := ⟨z3.toNat, by have := bounds_u16 w3; omega⟩
    have b3 : m3 < 65536 := by have := bounds_u16 w3; omega
    obtain ⟨z4, e4, _, w4⟩ := DataW.trod_int Tryd.underlying31 g4
    simp at e4
    subst e4
    obtain ⟨m4, rfl⟩ : ∃ m : Nat, z4 = (m : Int) := ⟨z4.toNat, by have := bounds_u32 w4; omega⟩
    have b4 : m4 < 4294967296 := by have := bounds_u32 w4; omega
    obtain ⟨z5, e5, _, w5⟩ := DataW.trod_int Tryd.underlying31 g5
    simp at e5
    subst e5
    obtain ⟨m5, rfl⟩ : ∃ m : Nat, z5 = (m : Int) := ⟨z5.toNat, by have := bounds_u32 w5; omega⟩
    have b5 : m5 < 4294967296 := by have := bounds_u32 w5; omega
    obtain ⟨z6, e6, _, w6⟩ := DataW.trod_int Tryd.underlying31 g6
    simp at e6
    subst e6
    obtain ⟨m6, rfl⟩ : ∃ m : Nat, z6 = (m : Int) := ⟨z6.toNat, by have := bounds_u32 w6; omega⟩
    have b6 : m6 < 4294967296 := by have := bounds_u32 w6; omega
    obtain ⟨z7, e7, _, w7⟩ := DataW.trod_int Tryd.underlying31 g7
    simp at e7
    subst e7
    obtain ⟨m7, rfl⟩ : ∃ m : Nat, z7 = (m : Int) := ⟨z7.toNat, by have := bounds_u32 w7; omega⟩
    have b7 : m7 < 4294967296 := by have := bounds_u32 w7; omega
    obtain ⟨z8, e8, _, w8⟩ := DataW.trod_int Tryd.underlying31 g8
    simp at e8
    subst e8
    obtain ⟨m8, rfl⟩ : ∃ m : Nat, z8 = (m : Int) := ⟨z8.toNat, by have := bounds_u32 w8; omega⟩
    have b8 : m8 < 4294967296 := by have := bounds_u32 w8; omega
    obtain ⟨z9, e9, _, w9⟩ := DataW.trod_int Tryd.underlying30 g9
    simp at e9
    subst e9
    obtain ⟨m9, rfl⟩ : ∃ m : Nat, z9 = (m : Int) := ⟨z9.toNat, by have := bounds_u16 w9; omega⟩
    have b9 : m9 < 65536 := by have := bounds_u16 w9; omega
    obtain ⟨z10, e10, _, w10⟩ := DataW.trod_int Tryd.underlying30 g10
    simp at e10
    subst e10
    obtain ⟨m10, rfl⟩ : ∃ m : Nat, z10 = (m : Int) := ⟨z10.toNat, by have := bounds_u16 w10; omega⟩
    have b10 : m10 < 65536 := by have := bounds_u16 w10; omega
    obtain ⟨z11, e11, _, w11⟩ := DataW.trod_int Tryd.underlying31 g11
    simp at e11
    subst e11
    obtain ⟨m11, rfl⟩ : ∃ m : Nat, z11 = (m : Int) := ⟨z11.toNat, by have := bounds_u32 w11; omega⟩
    have b11 : m11 < 4294967296 := by have := bounds_u32 w11; omega
    obtain ⟨z12, e12, _, w12⟩ := DataW.trod_int Tryd.underlying31 g12
    simp at e12
    subst e12
    obtain ⟨m12, rfl⟩ : ∃ m : Nat, z12 = (m : Int) := ⟨z12.toNat, by have := bounds_u32 w12; omega⟩
    have b12 : m12 < 4294967296 := by have := bounds_u32 w12; omega
    exact ⟨z0, z1, m2, m3, m4, m5, m6, m7, m8, m9, m10, m11, m12, rfl, w0, w1, b2, b3, b4, b5, b6, b7, b8, b9, b10, b11, b12⟩
end Go.Proofs.YtlkclaehamidbaaDoor.StCookie
