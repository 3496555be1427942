/- The sum of a nil hash. -/
import Derived.Test.YtlgpabdadnfbeacDoorHNil
namespace Go.Proofs.YtlgpabdadnfbeacDoor
open Go.RowKit
set_option maxRecDepth 100000 in
theorem hsum_nil (w : World) :
    Calls Tryd.prog 11 #[.pointer none] w fun e w' => e = .returned (.agg z32) ∧ Below w.heap.size w w' := by
  have hrN := arr32_new w [] (w.alloc (.cells z32 27)) rfl
  have hbA : Below w.heap.size w (w.alloc (.cells z32 27)) := (Below.refl _ _).alloc (Nat.le_refl _) _
  have hone : ∀ u ∈ z32.toList, u.oneCell' = true := by decide
  obtain ⟨cs, hcs⟩ : ∃ cs, cs = z32.toList := ⟨_, rfl⟩
  have hcl : cs.length = 32 := by rw [hcs]; rfl
  rw [← hcs] at hone
  have hi32 : (Tryd.prog.info? 27).map (·.size) = some cs.length := by rw [hcl]; kernel_rfl
  have hi322 : (Tryd.prog.info? 27).map (·.size) = some cs.toArray.size := hi32
  have hth2 : (w.alloc (.cells z32 27)).there w.heap.size 0 cs.toArray.size := by rw [show cs.toArray.size = 32 from hcl]; exact hrN.there
  have hrg2 : ((w.alloc (.cells z32 27)).setCells w.heap.size 0 cs).rangeAt w.heap.size 0 cs := World.rangeAt_setCells_same _ _ _ _ (by rw [hcl]; exact hrN.there)
  have HB : Hid (Below w.heap.size w ((w.alloc (.cells z32 27)).setCells w.heap.size 0 cs)) := Below.setCells hbA _ _ _ (Nat.le_refl _)
  have HCS : Hid (cs.toArray = z32) := by show _ = _; rw [hcs]
  have HX : Hid (cs = z32.toList) := hcs
  clear hcs hbA hrN
  go_enter Tryd.func11, Tryd.ntmps11
  go_wp2_with (first | (refine wpList_store_mid rfl 27 _ _ rfl w.heap.size 0 cs.toArray rfl (by rw [HCS.out]; rfl) hth2 hi322 (all_oneCell_toArray hone) ?_))
  try simp only [Exit.inBlock, Exit.then]
  refine bodyPost_ret (results_cell_mid rfl _ _ w.heap.size 0 cs _ rfl hrg2 Tryd.underlying27 rfl hi32) rfl ?_
  exact ⟨by rw [HCS.out], HB.out⟩
end Go.Proofs.YtlgpabdadnfbeacDoor
