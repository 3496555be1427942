/- Whatever bytes: the walk of law05.HashNone ends with true. -/
import Derived.Test.YtlgpabdadnfbeacDoorHLive
import Derived.Test.YtlgpabdadnfbeacDoorHNilS
import Derived.DeepKeys
namespace Go.Proofs.YtlgpabdadnfbeacDoor
open Go.RowKit
theorem eq_z32 (W : World) : (Op.equalIn 10000 27 (.agg z32) (.agg z32)).run Tryd.prog W = .ok true W := by
  obtain ⟨la, hla⟩ := Option.isSome_iff_exists.1 (show (Tryd.prog.keyLits 3 27 (Value.agg z32).cells.toList).isSome = true by kernel_rfl)
  have hf : (Value.agg z32).formed Tryd.prog 27 = true := by kernel_rfl
  obtain ⟨r, h1, h2⟩ := run_equalIn_deep (P := Tryd.prog) 9997 3 27 (by kernel_rfl) W 3 3 (.agg z32) (.agg z32) la la hf hf hla hla
  rw [h2.2 rfl] at h1
  exact h1
set_option maxRecDepth 100000 in
set_option maxHeartbeats 4000000 in
theorem walk_HashNone (a : Option Addr) (n c : Nat) (zs : List Nat) (w : World) (_h0 : Sl w a n c zs ∧ c * 1 ≤ 140737488351232) (hk : KW w) :
    Calls Tryd.prog 3 #[.slice a n c] w fun e w' => e = .returned (.bool true) ∧ Below w.heap.size w w' := by
  go_enter Tryd.func3, Tryd.ntmps3
  go_wp2_with fail
  refine (live5_any _ hk).mono ?_
  rintro e w1 ⟨rfl, hk1, hb1⟩
  go_wp2_with fail
  refine (hwrite_nil _ _ _ _).mono ?_
  rintro e w2 ⟨rfl, hb2⟩
  go_wp2_with fail
  refine (hsum_nil _).mono ?_
  rintro e w3 ⟨rfl, hb3⟩
  have he := eq_z32 w3
  have he2 := he
  unfold z32 at he he2 ⊢
  go_wp2_with fail
  refine (hfork_nil _).mono ?_
  rintro e w4 ⟨rfl, hb4⟩
  go_wp2
  go_ret
  exact ⟨rfl, hb1.trans ((hb2.mono hb1.size).trans ((hb3.mono (Nat.le_trans hb1.size hb2.size)).trans (hb4.mono (Nat.le_trans hb1.size (Nat.le_trans hb2.size hb3.size)))))⟩
end Go.Proofs.YtlgpabdadnfbeacDoor
