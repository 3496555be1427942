/- A struct api.Packet, by value, as a parameter: opened. -/
import Derived.Test.YtnbagloifbllbaaProg
import Derived.Test.YtnbagloifbllbaaBase
import Derived.RowKit
import Derived.ChangeSlices
import Derived.SizedLaws
import Derived.ChangeArms
import Derived.WideShapes
import Derived.ProofKit
import Derived.OpenShut
namespace Go.Proofs.Ytnbagloifbllbaa.StPacket
open Go.RowKit Go.ChangeShapes Go.WideShapes Go.ChangeAt
theorem fields : ∃ f0 f1 f2 f3 f4 f5 f6 f7 f8 : Field, Try.prog.underlying 26 = some (.struct #[f0, f1, f2, f3, f4, f5, f6, f7, f8]) ∧ f0.offset = 0 ∧ f1.offset = 1 ∧ f2.offset = 2 ∧ f3.offset = 3 ∧ f4.offset = 4 ∧ f5.offset = 5 ∧ f6.offset = 6 ∧ f7.offset = 7 ∧ f8.offset = 8 ∧ f0.type = 22 ∧ f1.type = 22 ∧ f2.type = 5 ∧ f3.type = 5 ∧ f4.type = 23 ∧ f5.type = 4 ∧ f6.type = 4 ∧ f7.type = 3 ∧ f8.type = 24 := ⟨_, _, _, _, _, _, _, _, _, Try.underlying26, rfl, rfl, rfl, rfl, rfl, rfl, rfl, rfl, rfl, rfl, rfl, rfl, rfl, rfl, rfl, rfl, rfl, rfl⟩
theorem cells_all : Try.prog.cellsOf 26 = 9 := by kernel_rfl
theorem cells___uint8 : Try.prog.cellsOf 24 = 1 := by kernel_rfl
theorem cells_bool : Try.prog.cellsOf 4 = 1 := by kernel_rfl
theorem cells_int : Try.prog.cellsOf 3 = 1 := by kernel_rfl
theorem cells_uint16 : Try.prog.cellsOf 23 = 1 := by kernel_rfl
theorem cells_uint32 : Try.prog.cellsOf 22 = 1 := by kernel_rfl
theorem cells_uint8 : Try.prog.cellsOf 5 = 1 := by kernel_rfl
theorem bytes_u8 : Try.prog.bytesOf 5 = 1 := by kernel_rfl
theorem open_bytes {H : Type} {enc : TypeId × Value → H} {w : World} {base : Nat} {held : Bool} {fuel : Nat} {v : Value} {y : DataW H × List MemPlace}
    (h : DataW.trod enc Try.prog w base (fun _ => true) held fuel 24 [v] = some y) (hw : ∀ n ∈ y.1.weights Try.prog 24, n ≤ reachBytes) : ∃ a n c zs, v = .slice a n c ∧ Sl w a n c zs ∧ c ≤ 140737488351232 := by
  rcases open_ints Try.underlying24 Try.underlying5 (by kernel_rfl) h with ⟨hcs, _⟩ | ⟨x, l, c, zs, hcs, _, hl, hm, hz, hx, hcell, hwz⟩
  · simp at hcs
    exact ⟨none, 0, 0, [], hcs, SlK.nil _ _ _ (by omega), by omega⟩
  · simp at hcs
    have hz' : zs.length = c := by simpa using hz
    have hb : (lits (H := H) .u8 (zs.take l)).length + (lits (H := H) .u8 (zs.drop l)).length ≤ reachBytes := by
      have := hw (((lits (H := H) .u8 (zs.take l)).length + (lits (H := H) .u8 (zs.drop l)).length) * Try.prog.bytesOf 5) (by
        rw [hx]
        unfold DataW.weights
        rw [Try.underlying24]
        simp)
      rwa [bytes_u8, Nat.mul_one] at this
    simp only [lits, List.length_map, List.length_take, List.length_drop, reachBytes] at hb
    exact ⟨_, _, _, _, hcs, SlK.of_ints (by omega) (fun z hz => by simp [Lit.wf, IntKind.min, IntKind.max, IntKind.signed, IntKind.bits] at hz; omega) hl hm hz' (by omega) hcell hwz, by omega⟩
set_option linter.unusedVariables false in
set_option maxRecDepth 100000 in
theorem open_ {H : Type} {enc : TypeId × Value → H} {w : World} {b0 base : Nat} {held : Bool} {v : Value} {d : DataW H} {p : List MemPlace}
    (hv : Value.okWide Try.prog w .any b0 26 v) (h : DataW.Trod enc Try.prog w base (fun _ => true) held 26 v d p) (hw : ∀ n ∈ d.weights Try.prog 26, n ≤ reachBytes) :
    ∃ (x0 : Nat) (x1 : Nat) (x2 : Nat) (x3 : Nat) (x4 : Nat) (x5 : Bool) (x6 : Bool) (x7 : Int) (a8 : Option Addr) (n8 c8 : Nat) (z8 : List Nat), v = .agg #[.int .u32 (x0 : Nat), .int .u32 (x1 : Nat), .int .u8 (x2 : Nat), .int .u8 (x3 : Nat), .int .u16 (x4 : Nat), .bool x5, .bool x6, .int .i64 x7, .slice a8 n8 c8] ∧ x0 < 4294967296 ∧ x1 < 4294967296 ∧ x2 < 256 ∧ x3 < 256 ∧ x4 < 65536 ∧ (Lit.int .i64 x7).wf = true ∧ (Sl w a8 n8 c8 z8 ∧ c8 ≤ 140737488351232) := by
  obtain ⟨f0, f1, f2, f3, f4, f5, f6, f7, f8, he, o0, o1, o2, o3, o4, o5, o6, o7, o8, t0, t1, t2, t3, t4, t5, t6, t7, t8⟩ := fields
  obtain ⟨cs, rfl, hsz⟩ := okWide_struct he hv
  rw [cells_all] at hsz
  obtain ⟨cl⟩ := cs
  obtain ⟨fuel, hf⟩ := h
  obtain ⟨xs, m, _, hx, _, hlen, hfs⟩ := DataW.trod_struct he hf
  have hsz2 : cl.length = 9 := hsz
  have hlen2 : xs.length = 9 := hlen
  match cl, hsz2, xs, hlen2 with
  | [v0, v1, v2, v3, v4, v5, v6, v7, v8], _, [y0, y1, y2, y3, y4, y5, y6, y7, y8], _ =>
    have hd := (Prod.mk.inj hx).1
    simp only [List.map_cons, List.map_nil] at hd
    have g0 := hfs 0 f0 rfl
    simp [Value.cells, o0, t0, cells_uint32] at g0
    have g1 := hfs 1 f1 rfl
    simp [Value.cells, o1, t1, cells_uint32] at g1
    have g2 := hfs 2 f2 rfl
    simp [Value.cells, o2, t2, cells_uint8] at g2
    have g3 := hfs 3 f3 rfl
    simp [Value.cells, o3, t3, cells_uint8] at g3
    have g4 := hfs 4 f4 rfl
    simp [Value.cells, o4, t4, cells_uint16] at g4
    have g5 := hfs 5 f5 rfl
    simp [Value.cells, o5, t5, cells_bool] at g5
    have g6 := hfs 6 f6 rfl
    simp [Value.cells, o6, t6, cells_bool] at g6
    have g7 := hfs 7 f7 rfl
    simp [Value.cells, o7, t7, cells_int] at g7
    have g8 := hfs 8 f8 rfl
    simp [Value.cells, o8, t8, cells___uint8] at g8
    obtain ⟨z0, e0, _, w0⟩ := DataW.trod_int Try.underlying22 g0
    simp at e0
    subst e0
    obtain ⟨m0, rfl⟩ : ∃ m : Nat, z0 = (m : Int) := ⟨z0.toNat, by have := bounds_u32 w0; omega⟩
    have b0 : m0 < 4294967296 := by have := bounds_u32 w0; omega
    obtain ⟨z1, e1, _, w1⟩ := DataW.trod_int Try.underlying22 g1
    simp at e1
    subst e1
    obtain ⟨m1, rfl⟩ : ∃ m : Nat, z1 = (m : Int) := ⟨z1.toNat, by have := bounds_u32 w1; omega⟩
    have b1 : m1 < 4294967296 := by have := bounds_u32 w1; omega
    obtain ⟨z2, e2, _, w2⟩ := DataW.trod_int Try.underlying5 g2
    simp at e2
    subst e2
    obtain ⟨m2, rfl⟩ : ∃ m : Nat, z2 = (m : Int) := ⟨z2.toNat, by have := bounds_u8 w2; omega⟩
    have b2 : m2 < 256 := by have := bounds_u8 w2; omega
    obtain ⟨z3, e3, _, w3⟩ := DataW.trod_int Try.underlying5 g3
    simp at e3
    subst e3
    obtain ⟨m3, rfl⟩ : ∃ m : Nat, z3 = (m : Int) := ⟨z3.toNat, by have := bounds_u8 w3; omega⟩
    have b3 : m3 < 256 := by have := bounds_u8 w3; omega
    obtain ⟨z4, e4, _, w4⟩ := DataW.trod_int Try.underlying23 g4
    simp at e4
    subst e4
    obtain ⟨m4, rfl⟩ : ∃ m : Nat, z4 = (m : Int) := ⟨z4.toNat, by have := bounds_u16 w4; omega⟩
    have b4 : m4 < 65536 := by have := bounds_u16 w4; omega
    obtain ⟨z5, e5, _⟩ := DataW.trod_bool Try.underlying4 g5
    simp at e5
    subst e5
    obtain ⟨z6, e6, _⟩ := DataW.trod_bool Try.underlying4 g6
    simp at e6
    subst e6
    obtain ⟨z7, e7, _, w7⟩ := DataW.trod_int Try.underlying3 g7
    simp at e7
    subst e7
    obtain ⟨a8, n8, c8, z8, rfl, s8, b8⟩ := open_bytes g8 (fun q hq => hw q (by
      rw [hd]
      unfold DataW.weights
      rw [he]
      exact DataW.weights_mem_each (j := 8) (t := f8.type) (d := y8.1) rfl rfl q (by rw [t8]; exact hq)))
    exact ⟨m0, m1, m2, m3, m4, z5, z6, z7, a8, n8, c8, z8, rfl, b0, b1, b2, b3, b4, w7, ⟨s8, b8⟩⟩
end Go.Proofs.Ytnbagloifbllbaa.StPacket
