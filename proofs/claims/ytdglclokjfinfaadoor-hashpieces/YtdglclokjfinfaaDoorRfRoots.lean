/- What the reference's roots answers: the 64 words of the rounds, in a new row. -/
import Derived.Test.YtdglclokjfinfaaDoorHashM
import Derived.Test.YtdglclokjfinfaaDoorOwnU
import Derived.Outline
import Derived.WalkLawsBesides
import Derived.WalkSpells
namespace Go.Proofs.YtdglclokjfinfaaDoor
open Go.RowKit
structure RootsP (w : World) (e : Ending) (w' : World) : Prop where
  row : e = .returned (.slice (some ⟨w.heap.size, 0, none⟩) 64 64)
  sl : SlU w' (some ⟨w.heap.size, 0, none⟩) 64 64 kW
  bel : Below w.heap.size w w'
theorem slU_new (w : World) (t : TypeId) (zs : List Nat) (hb : zs.all (· < 4294967296) = true) (hn : zs.length ≤ 1000) :
    SlU (w.alloc (.cells (zs.map fun z => Value.int .u32 (z : Nat)).toArray t)) (some ⟨w.heap.size, 0, none⟩) zs.length zs.length zs := by
  refine ⟨rfl, Nat.le_refl _, by unfold maxLen; omega, by omega, (fun h => by cases h), fun i => ?_, .inr ⟨_, _, rfl, by simp, fun i hi => ?_⟩⟩
  · by_cases hi : i < zs.length
    · have := List.all_eq_true.mp hb (zs[i]) (List.getElem_mem hi)
      simp [List.getD_eq_getElem?_getD, hi] at *
      exact this
    · simp [List.getD_eq_getElem?_getD, hi]
  rw [World.cell?_alloc_mark]
  simp [List.getD_eq_getElem?_getD, hi]
theorem ownU_new (w : World) (zs : List Nat) (hb : zs.all (· < 4294967296) = true) (hn : zs.length ≤ 1000) :
    OwnU (w.alloc (.cells (zs.map fun z => Value.int .u32 (z : Nat)).toArray 44)) w.heap.size (some ⟨w.heap.size, 0, none⟩) zs.length zs.length zs := by
  refine ⟨rfl, ⟨by simp [valsU], .inr ⟨w.heap.size, zs.length, (zs.map fun z => Value.int .u32 (z : Nat)).toArray, rfl, Nat.le_refl _, ?_, Nat.le_refl _, by unfold maxLen; omega, by simp, ?_⟩⟩, (slU_new w 44 zs hb hn).bnd⟩
  · show (w.heap.push _)[w.heap.size]? = _
    simp
  · rw [List.take_of_length_le (by simp), List.toList_toArray]; rfl
set_option maxRecDepth 100000 in
set_option maxHeartbeats 4000000 in
theorem roots_any (w : World) :
    Calls Tryd.prog 21 #[] w fun e w' => RootsP w e w' := by
  go_enter Tryd.func21, Tryd.ntmps21
  go_wp2
  change bodyPost _ _ _ _ _ (w.alloc (.cells (kW.map fun z => Value.int .u32 (z : Nat)).toArray 44))
  have hs := slU_new w 44 kW (by decide) (by decide)
  have hb : Below w.heap.size w (w.alloc (.cells (kW.map fun z => Value.int .u32 (z : Nat)).toArray 44)) := (Below.refl _ _).alloc (Nat.le_refl _) _
  generalize w.alloc (.cells (kW.map fun z => Value.int .u32 (z : Nat)).toArray 44) = W at *
  go_ret
  exact ⟨rfl, hs, hb⟩
end Go.Proofs.YtdglclokjfinfaaDoor
