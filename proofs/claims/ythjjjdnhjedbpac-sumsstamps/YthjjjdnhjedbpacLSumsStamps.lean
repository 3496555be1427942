/- Whatever bytes: the walk of trunklinelaw02.SumsStamps ends with true, and writes nothing that was there. -/
import Derived.Test.YthjjjdnhjedbpacRefStamp
import Derived.Test.YthjjjdnhjedbpacStamped
import Derived.Test.YthjjjdnhjedbpacLive
namespace Go.Proofs.Ythjjjdnhjedbpac
open Go.RowKit
set_option maxHeartbeats 1000000 in
theorem walk_SumsStamps (a : Option Addr) (n c : Nat) (zs : List Nat) (w : World) (hl0 : Sl w a n c zs ∧ c * 1 ≤ 140737488351232) :
    Calls Try.prog 3 #[.slice a n c] w fun e w' => e = .returned (.bool true) ∧ Below w.heap.size w w' := by
  obtain ⟨hl, hcb⟩ := hl0
  have hn : n ≤ 140737488351232 := by have := hl.cap; omega
  have hlen : (stampV zs).length ≤ n := by
    by_cases h : zs.length < 12
    · unfold stampV; rw [if_pos h]; simp
    · rw [stampV_len zs (by omega), hl.len]; exact Nat.le_refl _
  have HC : (stampE n = 0 ∧ Hid (stampedB zs = ((strOf (stampV zs)).toList == (strOf zs).toList))) ∨ (stampE n = 3 ∧ Hid (stampedB zs = false)) := by
    by_cases h : n < 12
    · exact .inr ⟨by unfold stampE; rw [if_pos h], by show _ = _; unfold stampedB; rw [if_pos (by rw [hl.len]; exact h)]⟩
    · exact .inl ⟨by unfold stampE; rw [if_neg h], by show _ = _; unfold stampedB; rw [if_neg (by rw [hl.len]; exact h)]⟩
  rcases HC with ⟨he, HS⟩ | ⟨he, HS⟩
  all_goals
    have HE := (show Hid _ from he)
    clear he
    go_enter Try.func3, Try.ntmps3
    go_wp2_with fail
    refine (stamp_any _ _ _ zs _ hl hn).mono ?_
    rintro e w1 ⟨a1, c1, rfl, ho1, hb1⟩
    rw [HE.out]
    go_wp2_with fail
    refine (refstamp_any _ _ _ zs _ (hl.below hb1) hn).mono ?_
    rintro e w2 ⟨a2, c2, rfl, ho2, hb2⟩
    rw [HE.out]
    have ho3 := ho1.below hb2
    have hb3 := hb1.trans (hb2.mono hb1.size)
    clear ho1 hb1 hb2
    go_wp2_with fail
    refine (live_any _).mono ?_
    rintro e w4 ⟨rfl, hb4⟩
    have hb5 := hb3.trans (hb4.mono hb3.size)
    have ho5 := ho3.below hb4
    have ho6 := ho2.below hb4
    have hl5 := hl.below hb5
    clear ho2 ho3 hb3 hb4
    have hc1 := conv_str (ho5.sl (by omega))
    have hc2 := conv_str (ho6.sl (by omega))
    go_wp2_with fail
    refine (stamped_any _ _ _ zs _ hl5 hn).mono ?_
    rintro e w6 ⟨rfl, hb6⟩
    rw [HS.out]
    have hc3 := conv_str ((ho6.below hb6).sl (by omega))
    have hc4 := conv_str (hl5.below hb6)
    clear hc1 hc2 ho5 ho6
    generalize stampV zs = ys at *
    go_wp2
    all_goals
      go_ret
      exact ⟨rfl, hb5.trans (hb6.mono hb5.size)⟩
end Go.Proofs.Ythjjjdnhjedbpac
