/- Whatever key and bytes: the walk of law05.HashMacs ends with true. -/
import Derived.Test.YtdglclokjfinfaaDoorEqArr
import Derived.Test.YtdglclokjfinfaaDoorRfMacL
namespace Go.Proofs.YtdglclokjfinfaaDoor
open Go.RowKit
set_option maxRecDepth 100000 in
set_option maxHeartbeats 4000000 in
theorem walk_HashMacs (a : Option Addr) (n c : Nat) (ks : List Nat) (a2 : Option Addr) (n2 c2 : Nat) (zs : List Nat) (w : World) (h0 : Sl w a n c ks ∧ c * 1 ≤ 140737488351232) (h1 : Sl w a2 n2 c2 zs ∧ c2 * 1 ≤ 140737488351232) (hk : KW w) :
    Calls Tryd.prog 4 #[.slice a n c, .slice a2 n2 c2] w fun e w' => e = .returned (.bool true) ∧ Below w.heap.size w w' := by
  have hn : n ≤ 140737488351232 := by have := h0.1.cap; omega
  have hn2 : n2 ≤ 140737488351232 := by have := h1.1.cap; omega
  have hK := h0.1
  have hZ := h1.1
  clear h0 h1
  have heq := fun W => eq_vals (macN ks zs) (by unfold macN; exact shaN_len _) (by unfold macN; exact shaN_bnd _) W
  go_enter Tryd.func4, Tryd.ntmps4
  go_wp2_with fail
  refine (live5_any _ hk).mono ?_
  rintro e w1 ⟨rfl, hk1, hb1⟩
  have hK1 := hK.below hb1
  have hZ1 := hZ.below hb1
  go_wp2_with fail
  refine (mac_any a n c ks a2 n2 c2 zs w1 (slB_of hK1) (slB_of hZ1) hk1 (by omega) (by omega)).mono ?_
  rintro e w2 ⟨rfl, hk2, hb2⟩
  have hK2 := hK1.below hb2
  have hZ2 := hZ1.below hb2
  have hbel2 : Below w.heap.size w w2 := hb1.trans (hb2.mono hb1.size)
  have hrs := rmac_any a n c ks a2 n2 c2 zs w2 hK2 hZ2 (by omega) (by omega)
  obtain ⟨mcs, hmc⟩ : ∃ mcs, mcs = (vals (macN ks zs)).toArray := ⟨_, rfl⟩
  rw [← hmc] at heq hrs ⊢
  clear hmc
  go_wp2_with fail
  refine hrs.mono ?_
  rintro e w3 ⟨rfl, hb3⟩
  have he3 := heq w3
  go_wp2
  go_ret
  exact ⟨rfl, hbel2.trans (hb3.mono hbel2.size)⟩
end Go.Proofs.YtdglclokjfinfaaDoor
