/- From what a row lists to what hash's contracts ask: the words of the rounds. -/
import Derived.Test.YtlkclaehamidbaaDoorRows
import Derived.Test.YtlkclaehamidbaaDoorWork
import Derived.Lib.LaidU8
import Derived.PinnedBridge
import Derived.MakeChecks
namespace Go.Proofs.YtlkclaehamidbaaDoor
open Go.Shelf Go.Lib Go.RowKit
theorem rw_eq : (Rows.laid_trunkline_hash_roundWords : DataW Unit) = tabData .u32 (kW.map fun z : Nat => (z : Int)) := by kernel_rfl
theorem kw_of_laid {W : World} (h : laidMet Tryd.prog [("trunkline/hash.roundWords", Rows.laid_trunkline_hash_roundWords)] W) : KW W := by
  rw [rw_eq] at h
  obtain ⟨g, t, cs, fuel, p, hg, hty, hvar, hd⟩ := Lib.laidMet.reads h (List.mem_singleton.2 rfl)
  have hg0 : Tryd.prog.globalNamed "trunkline/hash.roundWords" = some 0 := by kernel_rfl
  have ht0 : (Tryd.prog.globals[0]?).map (·.type) = some 113 := by kernel_rfl
  obtain rfl := Option.some.inj (hg0.symm.trans hg)
  obtain rfl := Option.some.inj (ht0.symm.trans hty)
  have hcs := cells_of_tab Tryd.underlying113 Tryd.underlying31 (by kernel_rfl) (by kernel_rfl) hd
  have hcell : ∀ i, i < 64 → W.cell? ⟨0, i, none⟩ = some (.int .u32 (kW.getD i 0 : Nat)) := by
    intro i hi
    rw [World.var?_cell hg hvar i, ← Array.getElem?_toList, hcs]
    have hkl : kW.length = 64 := by decide
    simp [List.getD_eq_getElem?_getD, hkl, hi]
  refine ⟨?_, hcell⟩
  have h0 := hcell 0 (by omega)
  rcases Nat.lt_or_ge 0 W.heap.size with h' | h'
  · exact h'
  · simp [World.cell?, Array.getElem?_eq_none h'] at h0
end Go.Proofs.YtlkclaehamidbaaDoor
