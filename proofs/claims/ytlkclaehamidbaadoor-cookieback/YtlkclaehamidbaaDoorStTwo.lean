/- Two rows of bytes, an array of slices, by value, as a parameter: opened. -/
import Derived.Test.YtlkclaehamidbaaDoorProg
import Derived.Test.YtlkclaehamidbaaDoorBase
import Derived.RowKit
import Derived.ChangeSlices
import Derived.SizedLaws
import Derived.ChangeArms
import Derived.WideShapes
import Derived.ProofKit
import Derived.OpenShut
import Derived.Lib.SmallJoins
namespace Go.Proofs.YtlkclaehamidbaaDoor.StTwo
open Go.RowKit Go.ChangeShapes Go.WideShapes Go.ChangeAt
theorem cells_arr : Tryd.prog.cellsOf 29 = 2 := by kernel_rfl
theorem cells_el : Tryd.prog.cellsOf 22 = 1 := by kernel_rfl
theorem weightsAll_mem {H : Type} {P : Program} {e : TypeId} : ∀ {ds : List (DataW H)} {d : DataW H}, d ∈ ds → ∀ n ∈ d.weights P e, n ∈ DataW.weightsAll P e ds
  | x :: ds, d, hd, n, hn => by
    unfold DataW.weightsAll
    rcases List.mem_cons.1 hd with rfl | h
    · exact List.mem_append_left _ hn
    · exact List.mem_append_right _ (weightsAll_mem h n hn)
theorem bytes_u8 : Tryd.prog.bytesOf 5 = 1 := by kernel_rfl
theorem open_bytes {H : Type} {enc : TypeId × Value → H} {w : World} {base : Nat} {held : Bool} {fuel : Nat} {v : Value} {y : DataW H × List MemPlace}
    (h : DataW.trod enc Tryd.prog w base (fun _ => true) held fuel 22 [v] = some y) (hw : ∀ n ∈ y.1.weights Tryd.prog 22, n ≤ reachBytes) : ∃ a n c zs, v = .slice a n c ∧ Sl w a n c zs ∧ c ≤ 140737488351232 := by
  rcases open_ints Tryd.underlying22 Tryd.underlying5 (by kernel_rfl) h with ⟨hcs, _⟩ | ⟨x, l, c, zs, hcs, _, hl, hm, hz, hx, hcell, hwz⟩
  · simp at hcs
    exact ⟨none, 0, 0, [], hcs, SlK.nil _ _ _ (by omega), by omega⟩
  · simp at hcs
    have hz' : zs.length = c := by simpa using hz
    have hb : (lits (H := H) .u8 (zs.take l)).length + (lits (H := H) .u8 (zs.drop l)).length ≤ reachBytes := by
      have := hw (((lits (H := H) .u8 (zs.take l)).length + (lits (H := H) .u8 (zs.drop l)).length) * Tryd.prog.bytesOf 5) (by
        rw [hx]
        unfold DataW.weights
        rw [Tryd.underlying22]
        simp)
      rwa [bytes_u8, Nat.mul_one] at this
    simp only [lits, List.length_map, List.length_take, List.length_drop, reachBytes] at hb
    exact ⟨_, _, _, _, hcs, SlK.of_ints (by omega) (fun z hz => by simp [Lit.wf, IntKind.min, IntKind.max, IntKind.signed, IntKind.bits] at hz; omega) hl hm hz' (by omega) hcell hwz, by omega⟩
set_option maxRecDepth 100000 in
theorem open_ {H : Type} {enc : TypeId × Value → H} {w : World} {b0 base : Nat} {held : Bool} {v : Value} {d : DataW H} {p : List MemPlace}
    (hv : Value.okWide Tryd.prog w .any b0 29 v) (h : DataW.Trod enc Tryd.prog w base (fun _ => true) held 29 v d p) (hw : ∀ n ∈ d.weights Tryd.prog 29, n ≤ reachBytes) :
    ∃ (a0 : Option Addr) (n0 c0 : Nat) (z0 : List Nat) (a1 : Option Addr) (n1 c1 : Nat) (z1 : List Nat), v = .agg #[.slice a0 n0 c0, .slice a1 n1 c1] ∧ (Sl w a0 n0 c0 z0 ∧ c0 ≤ 140737488351232) ∧ (Sl w a1 n1 c1 z1 ∧ c1 ≤ 140737488351232) := by
  obtain ⟨cs, rfl, hcs, _⟩ : ∃ cs, v = .agg cs ∧ cs.size = Tryd.prog.cellsOf 29 ∧ Row.okWide Tryd.prog w .any b0 29 cs := by
    simpa [Value.okWide, Tryd.underlying29] using hv
  rw [cells_arr] at hcs
  obtain ⟨e0, e1, rfl⟩ := Joins.array2 hcs
  obtain ⟨fuel, hf⟩ := h
  obtain ⟨xs, m, _, hx, _, hxl, hel⟩ := DataW.trod_array Tryd.underlying29 hf
  have hd := (Prod.mk.inj hx).1
  match xs, hxl with
  | [y0, y1], _ =>
    have g0 := hel 0 (by omega)
    have g1 := hel 1 (by omega)
    simp [cells_el, Value.cells] at g0 g1
    have hwy : ∀ y ∈ [y0, y1], ∀ n ∈ y.1.weights Tryd.prog 22, n ≤ reachBytes := fun y hy n hn => hw n (by
      rw [hd]
      unfold DataW.weights
      rw [Tryd.underlying29]
      exact weightsAll_mem (List.mem_map.2 ⟨y, hy, rfl⟩) n hn)
    obtain ⟨a0, n0, c0, z0, rfl, s0, b0'⟩ := open_bytes g0 (hwy y0 (by simp))
    obtain ⟨a1, n1, c1, z1, rfl, s1, b1'⟩ := open_bytes g1 (hwy y1 (by simp))
    exact ⟨a0, n0, c0, z0, a1, n1, c1, z1, rfl, ⟨s0, b0'⟩, ⟨s1, b1'⟩⟩
end Go.Proofs.YtlkclaehamidbaaDoor.StTwo
