/- From what a row lists to where the names lie. -/
import Derived.Test.YtifdfkkjmjabnabDoorRows
import Derived.Test.YtifdfkkjmjabnabDoorNmC
import Derived.Lib.LaidU8
import Derived.PinnedBridge
import Derived.MakeChecks
namespace Go.Proofs.YtifdfkkjmjabnabDoor
open Go.Shelf Go.Lib Go.RowKit
/-- An array of strings that reads as these holds them, cell for cell. -/
theorem strs_of {H : Type} {enc : TypeId × Value → H} {P : Program} {w : World} {base : Nat} {sp : Nat → Bool} {held : Bool} {fuel : Nat} {t e : TypeId} {n : Nat} {cs : List Value} {ss : List (List UInt8)} {p : List MemPlace}
    (ht : P.underlying t = some (.array n e)) (he : P.underlying e = some .string) (hce : P.cellsOf e = 1) (hct : P.cellsOf t = n) (hn : ss.length = n)
    (h : DataW.trod enc P w base sp held fuel t cs = some (.agg (ss.map fun s => .lit (.string s)), p)) (i : Nat) (s : List UInt8) (hi : ss[i]? = some s) : cs[i]? = some (.string ⟨s.toArray⟩) := by
  cases fuel with
  | zero => simp [DataW.trod] at h
  | succ fuel =>
    simp only [DataW.trod, ht, hce, hct, Nat.mul_one] at h
    split at h
    · obtain ⟨xs, hm, hx⟩ := Option.map_eq_some_iff.1 h
      have hxs : xs.map (·.1) = ss.map fun s => (DataW.lit (.string s) : DataW H) := by simpa using congrArg Prod.fst hx
      have hil : i < n := by rw [← hn]; exact (List.getElem?_eq_some_iff.1 hi).1
      obtain ⟨b, hb, hf⟩ := mapM_at hm i i (by simp [hil])
      obtain ⟨q, hc, hq, _⟩ := DataW.trod_string he hf
      have h1 : cs[i]? = some (.string q) := by
        have := congrArg (·[0]?) hc
        simpa [List.getElem?_take, List.getElem?_drop] using this
      have h2 : (xs.map (·.1))[i]? = some (DataW.lit (.string q.data.toList) : DataW H) := by simp [hb, hq]
      rw [hxs, List.getElem?_map, hi] at h2
      have h3 : s = q.data.toList := by simpa using h2
      rw [h1, h3]
    · cases h
theorem nm_eq : (Rows.laid_trunkline_chunk_names : DataW Unit) = .agg (nmS.map fun s => .lit (.string s)) := by kernel_rfl
theorem nw_of_laid {W : World} (h : laidMet Tryd.prog [("trunkline/chunk.names", Rows.laid_trunkline_chunk_names)] W) : NW W := by
  rw [nm_eq] at h
  obtain ⟨g, t, cs, fuel, p, hg, hty, hvar, hd⟩ := Lib.laidMet.reads h (List.mem_singleton.2 rfl)
  have hg0 : Tryd.prog.globalNamed "trunkline/chunk.names" = some 0 := by kernel_rfl
  have ht0 : (Tryd.prog.globals[0]?).map (·.type) = some 46 := by kernel_rfl
  obtain rfl := Option.some.inj (hg0.symm.trans hg)
  obtain rfl := Option.some.inj (ht0.symm.trans hty)
  have hcell : ∀ i s, nmS[i]? = some s → W.cell? ⟨0, i, none⟩ = some (.string ⟨s.toArray⟩) := by
    intro i s hi
    rw [World.var?_cell hg hvar i, ← Array.getElem?_toList]
    exact strs_of Tryd.underlying46 Tryd.underlying9 (by kernel_rfl) (by kernel_rfl) rfl hd i s hi
  refine ⟨?_, hcell⟩
  have h0 := hcell 0 _ rfl
  rcases Nat.lt_or_ge 0 W.heap.size with h' | h'
  · exact h'
  · simp [World.cell?, Array.getElem?_eq_none h'] at h0
end Go.Proofs.YtifdfkkjmjabnabDoor
