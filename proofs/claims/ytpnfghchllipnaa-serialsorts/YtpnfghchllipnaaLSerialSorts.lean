/- The walk of trunklinelaw03.SerialSorts: it answers true. -/
import Derived.Test.YtpnfghchllipnaaLive3
import Derived.Test.YtpnfghchllipnaaRSort3
namespace Go.Proofs.Ytpnfghchllipnaa
open Go.RowKit
set_option maxHeartbeats 2000000 in
theorem walk_SerialSorts (b : Int) (f : Nat) (a : Option Addr) (n c : Nat) (zs : List Nat) (w : World) (_hb : (Lit.int .i64 b).wf = true) (hf : f < 4294967296) (hs0 : SlK .u32 4294967296 w a n c zs ∧ c * 4 ≤ 140737488351232) :
    Calls Try.prog 8 #[.int .i64 b, .int .u32 f, .slice a n c] w fun e w' => e = .returned (.bool true) ∧ Below w.heap.size w w' := by
  obtain ⟨hs, hcb⟩ := hs0
  have hcap := hs.cap
  go_enter Try.func8, Try.ntmps8
  go_wp2_with fail
  refine (sort_any b f hf a n c zs _ hs (by omega)).mono ?_
  rintro e w1 ⟨a1, c1, rfl, hs1, hb1⟩
  go_wp2_with fail
  refine (rsort_any b f hf a n c zs _ (hs.below hb1) (by omega)).mono ?_
  rintro e w2 ⟨a2, c2, rfl, hs2, hb2⟩
  have hs1' := hs1.below hb2
  clear hs1
  generalize sortR b f zs = R at *
  generalize sortE b f zs = E at *
  go_wp2_with fail
  refine (live_any _).mono ?_
  rintro e w3 ⟨rfl, hb3⟩
  go_wp2_with fail
  refine (same_any _ _ _ _ _ _ R R _ (hs1'.below hb3) (hs2.below hb3)).mono ?_
  rintro e w4 ⟨rfl, q, rfl⟩
  rw [sameB_refl]
  have hbel : Below w.heap.size w (w3.drewN q) := hb1.trans ((hb2.mono hb1.size).trans ((hb3.mono (Nat.le_trans hb1.size hb2.size)).trans ((drewN_below w3 q).mono (Nat.le_trans hb1.size (Nat.le_trans hb2.size hb3.size)))))
  clear hb1 hb2 hb3 hs1' hs2
  go_wp2
  go_ret
  exact ⟨rfl, hbel⟩
end Go.Proofs.Ytpnfghchllipnaa
