/- The walk of trunklinelaw03.SerialSpans: it answers true. -/
import Derived.Test.YtpnfghchllipnabLive3
import Derived.Test.YtpnfghchllipnabRSpan3
namespace Go.Proofs.Ytpnfghchllipnab
open Go.RowKit
theorem pair_at {w w' : World} {B : Nat} {a : Option Addr} {n c : Nat} {ps : List (Nat × Nat)} (h : OwnP w B a n c ps) (hb : Below w.heap.size w w') : OwnP w' B a n c ps := h.below hb
set_option maxHeartbeats 2000000 in
theorem walk_SerialSpans (b : Int) (a : Option Addr) (n c : Nat) (zs : List Nat) (w : World) (_hb : (Lit.int .i64 b).wf = true) (hs0 : SlK .u32 4294967296 w a n c zs ∧ c * 4 ≤ 140737488351232) :
    Calls Try.prog 4 #[.int .i64 b, .slice a n c] w fun e w' => e = .returned (.bool true) ∧ Below w.heap.size w w' := by
  obtain ⟨hs, _⟩ := hs0
  have hq := eq_pair
  have hRl : (spanR b zs).length ≤ 256 := by
    unfold spanR
    split
    · rename_i h
      have h1 := (spanTo_len (rnd b) zs zs.length).1
      have h2 : ¬ 256 < zs.length := by
        intro h3
        unfold spanE at h
        rw [if_pos h3] at h
        split at h
        · omega
        · contradiction
      omega
    · simp
  go_enter Try.func4, Try.ntmps4
  go_wp2_with fail
  refine (span_any b a n c zs _ hs).mono ?_
  rintro e w1 ⟨a1, c1, rfl, ho1, hb1⟩
  go_wp2_with fail
  refine (rspan_any b a n c zs _ (hs.below hb1)).mono ?_
  rintro e w2 ⟨a2, c2, rfl, ho2, hb2⟩
  have ho1' := ho1.below hb2
  have hbel : Below w.heap.size w w2 := hb1.trans (hb2.mono hb1.size)
  clear ho1 hb1 hb2
  generalize spanR b zs = R at *
  generalize spanE b zs = E at *
  go_wp2
  go_loopw [9] (fun i wr => ∃ k q : Nat, k ≤ R.length ∧ i = .int .i64 k ∧ wr = w2.drewN q) (fun i _ => R.length - (intOf i).toNat)
  case atStart => exact ⟨0, 0, by omega, rfl, rfl⟩
  case round =>
    obtain ⟨k, q, hk, rfl, hwr⟩ := hrel
    have hbq : Below w2.heap.size w2 wr := by rw [hwr]; exact drewN_below _ _
    have HW := (show Hid _ from hwr)
    clear hwr
    by_cases hkn : k < R.length
    · have h1 := ho1'.below hbq
      have h2 := ho2.below hbq
      obtain ⟨g1, rfl, _, _, hc1, hm1, hcl1, _⟩ := h1.at_ (by omega)
      obtain ⟨g2, rfl, _, _, hc2, hm2, hcl2, _⟩ := h2.at_ (by omega)
      obtain ⟨x0, x1⟩ := hcl1 k hkn
      obtain ⟨y0, y1⟩ := hcl2 k hkn
      have hk1 : (k : Int) < (R.length : Int) := by omega
      clear hcl1 hcl2 h1 h2
      generalize (R.getD k (0, 0)).1 = x at *
      generalize (R.getD k (0, 0)).2 = y at *
      generalize R.length = N at *
      go_wp2_with fail
      go_quiet (fail)
      all_goals
        go_wp2
        go_roundw
        case rel => exact ⟨k + 1, _, by omega, by go_num, by rw [HW.out]; exact World.drewN_drewN _ _ _⟩
        case measure => simp [intOf]; omega
    · obtain rfl : k = R.length := by omega
      go_wp2_with fail
      refine (live_any _).mono ?_
      rintro e w3 ⟨rfl, hb3⟩
      have hbb := hbel.trans (hbq.mono hbel.size)
      have hbel3 : Below w.heap.size w w3 := hbb.trans (hb3.mono hbb.size)
      go_wp2
      go_ret
      exact ⟨rfl, hbel3⟩
end Go.Proofs.Ytpnfghchllipnab
