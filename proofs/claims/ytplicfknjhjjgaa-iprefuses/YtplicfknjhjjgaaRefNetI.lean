/- What the reference's Net answers: the same sum. -/
import Derived.Test.YtplicfknjhjjgaaProg
import Derived.Test.YtplicfknjhjjgaaBase
import Derived.Outline
import Derived.WalkLawsBesides
import Derived.WalkSpells
namespace Go.Proofs.Ytplicfknjhjjgaa
open Go.RowKit
set_option maxHeartbeats 400000 in
theorem add_any (s t : Nat) (w : World) (hs : s ≤ 65535) (ht : t ≤ 65535) :
    Calls Try.prog 35 #[.int .u32 s, .int .u32 t] w fun e w' => e = .returned (.int .u32 (ar (s + t))) ∧ w' = w := by
  have HT := (show Hid _ from ar_two s t hs ht)
  by_cases h : 65535 < s + t
  · go_enter Try.func35, Try.ntmps35
    go_wp2
    go_ret
    exact ⟨ret_int (by rw [HT.out, if_pos h]; omega), rfl⟩
  · go_enter Try.func35, Try.ntmps35
    go_wp2
    go_ret
    exact ⟨ret_int (by rw [HT.out, if_neg h]; omega), rfl⟩

theorem tot_twoR (zs : List Nat) (k : Nat) (h : k % 2 = 0) : totTo zs (k + 2) = totTo zs k + (zs.getD k 0 * 256 + zs.getD (k + 1) 0) := by
  show totTo zs k + _ * wt k + _ * wt (k + 1) = _
  unfold wt; rw [if_pos h, if_neg (by omega)]; omega
theorem tot_one (zs : List Nat) (k : Nat) (h : k % 2 = 0) : totTo zs (k + 1) = totTo zs k + zs.getD k 0 * 256 := by
  show totTo zs k + _ * wt k = _
  unfold wt; rw [if_pos h]

set_option maxHeartbeats 1000000 in
theorem refnet_any (a : Option Addr) (n c : Nat) (zs : List Nat) (w : World) (hs : Sl w a n c zs) :
    Calls Try.prog 17 #[.slice a n c] w fun e w' => e = .returned (.int .u16 (net zs)) ∧ w' = w := by
  have HN : Hid (net zs = 65535 - ar (totTo zs n)) := by rw [← hs.len]; rfl
  obtain ⟨hl, hcap, hroom, hsm, _, hb, hat⟩ := hs
  unfold maxLen at hroom
  go_enter Try.func17, Try.ntmps17
  go_wp2
  go_loop [3, 4] (fun r' i => ∃ (k : Nat), k % 2 = 0 ∧ k ≤ n + 1 ∧ i = .int .i64 k ∧ r' = .int .u32 (ar (totTo zs (min k n)))) (fun _ i => n + 1 - (intOf i).toNat)
  case atStart => exact ⟨0, rfl, by omega, rfl, by simp [totTo, ar]⟩
  case round =>
    obtain ⟨k, hev, hk, rfl, rfl⟩ := hrel
    by_cases hlt : k < n
    · rcases hat with h0 | ⟨b, off, rfl, hlt2, hcell⟩
      · omega
      · have hc := hcell k hlt
        have hx := hb k
        by_cases hlt3 : k + 1 < n
        · have hc1 := hcell (k + 1) hlt3
          have hx1 := hb (k + 1)
          have HM : Hid (min k n = k) := by show _ = _; omega
          have HM2 : Hid (min (k + 2) n = k + 2) := by show _ = _; omega
          have HE := (show Hid _ from tot_twoR zs k hev)
          have HA := (show Hid _ from ar_add (totTo zs k) (zs.getD k 0 * 256 + zs.getD (k + 1) 0))
          rw [HM.out] at *
          have HR : Hid (ar (totTo zs (min (k + 2) n)) = ar (ar (totTo zs k) + (zs.getD k 0 * 256 + zs.getD (k + 1) 0))) := by
            show _ = _
            rw [HM2.out, HE.out, HA.out]
          have hq := ar_le (totTo zs k)
          clear HE HA hb hcell HM
          generalize zs.getD k 0 = x at *
          generalize zs.getD (k + 1) 0 = y at *
          generalize ar (totTo zs k) = q at *
          go_wp2_with fail
          rw [show ((x : Int) * 256 + y) = ((x * 256 + y : Nat) : Int) from by omega]
          refine (add_any _ _ _ hq (by omega)).mono ?_
          rintro e w' ⟨rfl, rfl⟩
          go_wp2
          go_round
          case rel => exact ⟨k + 2, by omega, by omega, by go_num, by rw [HR.out]⟩
          case measure => simp [intOf]; omega
        · have HM : Hid (min k n = k) := by show _ = _; omega
          have HM2 : Hid (min (k + 2) n = k + 1) := by show _ = _; omega
          have HE := (show Hid _ from tot_one zs k hev)
          have HA := (show Hid _ from ar_add (totTo zs k) (zs.getD k 0 * 256))
          rw [HM.out] at *
          have HR : Hid (ar (totTo zs (min (k + 2) n)) = ar (ar (totTo zs k) + zs.getD k 0 * 256)) := by
            show _ = _
            rw [HM2.out, HE.out, HA.out]
          have hq := ar_le (totTo zs k)
          clear HE HA hb hcell HM
          generalize zs.getD k 0 = x at *
          generalize ar (totTo zs k) = q at *
          go_wp2_with fail
          rw [show ((x : Int) * 256) = ((x * 256 : Nat) : Int) from by omega]
          refine (add_any _ _ _ hq (by omega)).mono ?_
          rintro e w' ⟨rfl, rfl⟩
          go_wp2
          go_round
          case rel => exact ⟨k + 2, by omega, by omega, by go_num, by rw [HR.out]⟩
          case measure => simp [intOf]; omega
    · have HM : Hid (min k n = n) := by show _ = _; omega
      rw [HM.out] at *
      have hq := ar_le (totTo zs n)
      generalize ar (totTo zs n) = q at *
      go_wp2
      go_ret
      exact ⟨ret_int (by rw [HN.out]; omega), rfl⟩
end Go.Proofs.Ytplicfknjhjjgaa
