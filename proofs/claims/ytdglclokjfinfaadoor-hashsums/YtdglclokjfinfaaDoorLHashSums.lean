/- Whatever bytes: the walk of law05.HashSums ends with true. -/
import Derived.Test.YtdglclokjfinfaaDoorEqArr
import Derived.Test.YtdglclokjfinfaaDoorRfSum
namespace Go.Proofs.YtdglclokjfinfaaDoor
open Go.RowKit
set_option maxRecDepth 100000 in
set_option maxHeartbeats 4000000 in
theorem walk_HashSums (a : Option Addr) (n c : Nat) (zs : List Nat) (w : World) (h0 : Sl w a n c zs ∧ c * 1 ≤ 140737488351232) (hk : KW w) :
    Calls Tryd.prog 3 #[.slice a n c] w fun e w' => e = .returned (.bool true) ∧ Below w.heap.size w w' := by
  have hn : n ≤ 140737488351232 := by have := h0.1.cap; omega
  have hZ := h0.1
  clear h0
  have heq := fun W => eq_vals (shaN zs) (shaN_len _) (shaN_bnd _) W
  go_enter Tryd.func3, Tryd.ntmps3
  go_wp2_with fail
  refine (live5_any _ hk).mono ?_
  rintro e w1 ⟨rfl, hk1, hb1⟩
  have hZ1 := hZ.below hb1
  go_wp2_with fail
  refine (hashSum_any a n c zs w1 (slB_of hZ1) hk1 (by omega)).mono ?_
  rintro e w2 ⟨rfl, hk2, hb2⟩
  have hZ2 := hZ1.below hb2
  have hbel2 : Below w.heap.size w w2 := hb1.trans (hb2.mono hb1.size)
  have hrs := rsum_any a n c zs w2 hZ2 (by omega)
  obtain ⟨mcs, hmc⟩ : ∃ mcs, mcs = (vals (shaN zs)).toArray := ⟨_, rfl⟩
  rw [← hmc] at heq hrs ⊢
  clear hmc
  go_wp2_with fail
  refine hrs.mono ?_
  rintro e w3 ⟨rfl, hb3⟩
  have he3 := heq w3
  go_wp2
  go_ret
  exact ⟨rfl, hbel2.trans (hb3.mono hbel2.size)⟩
end Go.Proofs.YtdglclokjfinfaaDoor
