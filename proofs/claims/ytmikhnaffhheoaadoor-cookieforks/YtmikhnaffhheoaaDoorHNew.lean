/- What hash.New and Fork answer. -/
import Derived.Test.YtmikhnaffhheoaaDoorWork
namespace Go.Proofs.YtmikhnaffhheoaaDoor
open Go.RowKit
theorem alloc_range (w : World) (cs : List Value) (t : TypeId) : (w.alloc (.cells cs.toArray t)).rangeAt w.heap.size 0 cs := by
  intro j x hx
  rw [Nat.zero_add, World.cell?_alloc_mark]
  simpa using hx
theorem hi8 : (Tryd.prog.info? 101).map (·.size) = some (wordsV iW).length := by kernel_rfl
set_option maxHeartbeats 1000000 in
theorem firstWords_any (w : World) : Calls Tryd.prog 56 #[] w fun e w' => e = .returned (.agg #[.int .u32 1779033703, .int .u32 3144134277, .int .u32 1013904242, .int .u32 2773480762, .int .u32 1359893119, .int .u32 2600822924, .int .u32 528734635, .int .u32 1541459225]) ∧ Below w.heap.size w w' := by
  go_enter Tryd.func56, Tryd.ntmps56
  go_wp2
  refine bodyPost_ret (results_cell_mid rfl _ _ w.heap.size 0 (wordsV iW) _ rfl (alloc_range w (wordsV iW) 101) Tryd.underlying101 rfl hi8) rfl ?_
  exact ⟨rfl, (Below.refl _ _).alloc (Nat.le_refl _) _⟩
def hash0 : Array Value := #[.int .u32 1779033703, .int .u32 3144134277, .int .u32 1013904242, .int .u32 2773480762, .int .u32 1359893119, .int .u32 2600822924, .int .u32 528734635, .int .u32 1541459225, .int .u8 0, .int .u8 0, .int .u8 0, .int .u8 0, .int .u8 0, .int .u8 0, .int .u8 0, .int .u8 0, .int .u8 0, .int .u8 0, .int .u8 0, .int .u8 0, .int .u8 0, .int .u8 0, .int .u8 0, .int .u8 0, .int .u8 0, .int .u8 0, .int .u8 0, .int .u8 0, .int .u8 0, .int .u8 0, .int .u8 0, .int .u8 0, .int .u8 0, .int .u8 0, .int .u8 0, .int .u8 0, .int .u8 0, .int .u8 0, .int .u8 0, .int .u8 0, .int .u8 0, .int .u8 0, .int .u8 0, .int .u8 0, .int .u8 0, .int .u8 0, .int .u8 0, .int .u8 0, .int .u8 0, .int .u8 0, .int .u8 0, .int .u8 0, .int .u8 0, .int .u8 0, .int .u8 0, .int .u8 0, .int .u8 0, .int .u8 0, .int .u8 0, .int .u8 0, .int .u8 0, .int .u8 0, .int .u8 0, .int .u8 0, .int .u8 0, .int .u8 0, .int .u8 0, .int .u8 0, .int .u8 0, .int .u8 0, .int .u8 0, .int .u8 0, .int .i64 0]
theorem hash0_v : ∀ i : Fin 8, hash0[i.1]? = some (.int .u32 (iW.getD i.1 0 : Nat)) := by
  intro i
  rcases i with ⟨i, hi⟩
  rcases i with _ | _ | _ | _ | _ | _ | _ | _ | i
  all_goals first | rfl | omega
theorem hash0_b (i : Nat) (hi : i < 64) : hash0[8 + i]? = some (.int .u8 0) := by
  have h : hash0.extract 8 72 = Array.replicate 64 (.int .u8 0) := by kernel_rfl
  have h2 : (hash0.extract 8 72)[i]? = some (.int .u8 0) := by rw [h]; simp [hi]
  rw [Array.getElem?_extract] at h2
  split at h2
  · exact h2
  · cases h2
theorem zero73 (w : World) : (zeroValue 104).run Tryd.prog w = .ok (.agg #[.int .u32 0, .int .u32 0, .int .u32 0, .int .u32 0, .int .u32 0, .int .u32 0, .int .u32 0, .int .u32 0, .int .u8 0, .int .u8 0, .int .u8 0, .int .u8 0, .int .u8 0, .int .u8 0, .int .u8 0, .int .u8 0, .int .u8 0, .int .u8 0, .int .u8 0, .int .u8 0, .int .u8 0, .int .u8 0, .int .u8 0, .int .u8 0, .int .u8 0, .int .u8 0, .int .u8 0, .int .u8 0, .int .u8 0, .int .u8 0, .int .u8 0, .int .u8 0, .int .u8 0, .int .u8 0, .int .u8 0, .int .u8 0, .int .u8 0, .int .u8 0, .int .u8 0, .int .u8 0, .int .u8 0, .int .u8 0, .int .u8 0, .int .u8 0, .int .u8 0, .int .u8 0, .int .u8 0, .int .u8 0, .int .u8 0, .int .u8 0, .int .u8 0, .int .u8 0, .int .u8 0, .int .u8 0, .int .u8 0, .int .u8 0, .int .u8 0, .int .u8 0, .int .u8 0, .int .u8 0, .int .u8 0, .int .u8 0, .int .u8 0, .int .u8 0, .int .u8 0, .int .u8 0, .int .u8 0, .int .u8 0, .int .u8 0, .int .u8 0, .int .u8 0, .int .u8 0, .int .i64 0]) w := by
  have h : (Tryd.prog.info? 104).map (·.zero) = some (some (.agg #[.int .u32 0, .int .u32 0, .int .u32 0, .int .u32 0, .int .u32 0, .int .u32 0, .int .u32 0, .int .u32 0, .int .u8 0, .int .u8 0, .int .u8 0, .int .u8 0, .int .u8 0, .int .u8 0, .int .u8 0, .int .u8 0, .int .u8 0, .int .u8 0, .int .u8 0, .int .u8 0, .int .u8 0, .int .u8 0, .int .u8 0, .int .u8 0, .int .u8 0, .int .u8 0, .int .u8 0, .int .u8 0, .int .u8 0, .int .u8 0, .int .u8 0, .int .u8 0, .int .u8 0, .int .u8 0, .int .u8 0, .int .u8 0, .int .u8 0, .int .u8 0, .int .u8 0, .int .u8 0, .int .u8 0, .int .u8 0, .int .u8 0, .int .u8 0, .int .u8 0, .int .u8 0, .int .u8 0, .int .u8 0, .int .u8 0, .int .u8 0, .int .u8 0, .int .u8 0, .int .u8 0, .int .u8 0, .int .u8 0, .int .u8 0, .int .u8 0, .int .u8 0, .int .u8 0, .int .u8 0, .int .u8 0, .int .u8 0, .int .u8 0, .int .u8 0, .int .u8 0, .int .u8 0, .int .u8 0, .int .u8 0, .int .u8 0, .int .u8 0, .int .u8 0, .int .u8 0, .int .i64 0])) := by kernel_rfl
  cases hi : Tryd.prog.info? 104 with
  | none => rw [hi] at h; cases h
  | some inf =>
    rw [hi] at h
    simp only [Option.map_some, Option.some.injEq] at h
    simp [zeroValue, typeInfo, hi, h]
set_option maxRecDepth 100000 in
set_option maxHeartbeats 2000000 in
theorem hnew_any (w : World) : Calls Tryd.prog 45 #[] w fun e w' => ∃ p, e = .returned (.pointer (some ⟨p, 0, none⟩)) ∧ HAt w' w.heap.size p iW (List.replicate 64 0) 0 ∧ Below w.heap.size w w' := by
  go_enter Tryd.func45, Tryd.ntmps45
  go_wp2_with fail
  refine (firstWords_any _).mono ?_
  rintro e w1 ⟨rfl, hb1⟩
  have hz73 := zero73
  go_wp2
  go_ret
  clear hz73
  have hz := hb1.size
  have hcell : ∀ i, (w1.alloc (.cells hash0 104)).cell? ⟨w1.heap.size, i, none⟩ = hash0[i]? := fun i => by rw [World.cell?_alloc_mark]
  have hfree : ∀ i, (w1.alloc (.cells hash0 104)).frozen? ⟨w1.heap.size, i, none⟩ = false := by
    intro i
    have hh : (w1.alloc (.cells hash0 104)).heap[w1.heap.size]? = some (.cells hash0 104) := by
      show (w1.heap.push _)[w1.heap.size]? = _
      simp
    unfold World.frozen?
    dsimp only
    rw [hh]
    simp
  have hr0 : ∀ i, (List.replicate 64 0).getD i 0 = 0 := fun i => by
    rw [List.getD_eq_getElem?_getD, List.getElem?_replicate]
    split <;> rfl
  have hH : HAt (w1.alloc (.cells hash0 104)) w.heap.size w1.heap.size iW (List.replicate 64 0) 0 := by
    refine ⟨hz, by simp, rfl, fun i => getD8 _ _ _ _ _ _ _ _ i (by omega) (by omega) (by omega) (by omega) (by omega) (by omega) (by omega) (by omega), by rw [List.length_replicate], fun i => by rw [hr0]; omega, fun i hi => ?_, fun i hi => ?_, ?_, hfree⟩
    · rw [hcell]; exact hash0_v ⟨i, hi⟩
    · rw [hcell, hr0, hash0_b i hi]; rfl
    · rw [hcell]; rfl
  exact ⟨w1.heap.size, rfl, hH, hb1.alloc hz _⟩
end Go.Proofs.YtmikhnaffhheoaaDoor
