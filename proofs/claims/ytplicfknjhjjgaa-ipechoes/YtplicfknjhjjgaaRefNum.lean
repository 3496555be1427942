/- What the reference's Num answers: the same. -/
import Derived.Test.YtplicfknjhjjgaaSpan
namespace Go.Proofs.Ytplicfknjhjjgaa
open Go.RowKit
set_option maxHeartbeats 2000000 in
theorem refnum_any (a : Option Addr) (n c : Nat) (zs : List Nat) (p k : Int) (w : World) (hs : Sl w a n c zs) :
    Calls Try.prog 66 #[.slice a n c, .int .i64 p, .int .i64 k] w fun e w' => e = .returned (.tuple #[.int .u64 (numV zs p k : Nat), .int .i64 (nspanE n p k : Nat)]) ∧ w' = w := by
  have hl := hs.len
  by_cases he : nspanE n p k = 0
  · obtain ⟨hk1, hk8, hp0, hpk⟩ := nspan_ok he
    have HE := (show Hid _ from he)
    have HV : Hid (numV zs p k = numB ((zs.drop p.toNat).take k.toNat)) := by show _ = _; unfold numV; rw [hl, if_pos he]
    clear he
    obtain ⟨p, rfl⟩ := Int.eq_ofNat_of_zero_le hp0
    obtain ⟨k, rfl⟩ := Int.eq_ofNat_of_zero_le (show 0 ≤ k by omega)
    rw [Int.toNat_natCast, Int.toNat_natCast] at HV
    have hk8' : k ≤ 8 := by omega
    have hpk' : p + k ≤ n := by omega
    have hk1' : 1 ≤ k := by omega
    have hmid := mid_bnd zs p k hs.bnd
    have hml : ((zs.drop p).take k).length = k := by simp; omega
    obtain ⟨_, hcap, hroom, hsm, _, hb, hat⟩ := hs
    rcases hat with h0 | ⟨b, off, rfl, hlt, hcell⟩
    · omega
    have hcell2 : ∀ i, i < k → w.cell? ⟨b, off + p + i, none⟩ = some (.int .u8 (((zs.drop p).take k).getD i 0 : Nat)) := by
      intro i hi
      rw [mid_getD zs p k i hi, Nat.add_assoc]
      exact hcell (p + i) (by omega)
    clear hcell hb
    generalize (zs.drop p).take k = ys at *
    go_enter Try.func66, Try.ntmps66
    go_wp2
    go_loop [8, 9] (fun v i => ∃ j : Nat, j ≤ k ∧ i = .int .i64 j ∧ v = .int .u64 (numB (ys.take j) : Nat)) (fun _ i => k - (intOf i).toNat)
    case atStart => exact ⟨0, by omega, rfl, rfl⟩
    case round =>
      obtain ⟨j, hj, rfl, rfl⟩ := hrel
      by_cases hjk : j < k
      · have hc := hcell2 j hjk
        rw [Nat.add_assoc] at hc
        have hx := hmid j
        have HN : Hid (numB (ys.take (j + 1)) = numB (ys.take j) * 256 + ys.getD j 0) := by show _ = _; rw [take_snocN ys j (by omega), numB_snoc]
        have hq : numB (ys.take j) < 72057594037927936 := by
          have h1 := numB_lt (ys.take j) (fun i => by
            by_cases hi : i < j
            · simp [List.getD_eq_getElem?_getD, hi]; have := hmid i; simp [List.getD_eq_getElem?_getD] at this; exact this
            · rw [List.getD_eq_getElem?_getD, List.getElem?_eq_none (by simp; omega)]; exact Nat.zero_lt_succ _)
          have h2 := pow_small j (by omega)
          rw [List.length_take, Nat.min_eq_left (by omega)] at h1
          omega
        clear hcell2 hmid
        generalize numB (ys.take j) = q at *
        generalize ys.getD j 0 = x at *
        have hpj : (p : Int) + (j : Int) < (n : Int) := by omega
        go_wp2
        go_round
        case rel => exact ⟨j + 1, by omega, by go_num, by rw [HN.out]; go_num⟩
        case measure => simp [intOf]; omega
      · obtain rfl : j = k := by omega
        have HT : Hid (ys.take j = ys) := by show _ = _; rw [List.take_of_length_le (by omega)]
        go_wp2
        go_ret2
        exact ⟨by rw [HT.out, HV.out, HE.out]; rfl, rfl⟩
  · have HV : Hid (numV zs p k = 0) := by show _ = _; unfold numV; rw [hl, if_neg he]
    have hsm := hs.small
    have HC : (Hid (nspanE n p k = 2) ∧ (k < 1 ∨ 8 < k ∨ p < 0 ∨ (n : Int) < p)) ∨ (Hid (nspanE n p k = 3) ∧ 1 ≤ k ∧ k ≤ 8 ∧ 0 ≤ p ∧ p ≤ n ∧ (n : Int) - p < k) := by
      unfold nspanE spanE at *
      by_cases h1 : k < 1 ∨ 8 < k
      · rw [if_pos h1]; exact .inl ⟨rfl, by omega⟩
      · rw [if_neg h1] at *
        by_cases h2 : p < 0 ∨ (n : Int) < p ∨ k < 0
        · rw [if_pos h2]; exact .inl ⟨rfl, by omega⟩
        · rw [if_neg h2] at *
          by_cases h3 : (n : Int) - p < k
          · rw [if_pos h3]; exact .inr ⟨rfl, by omega⟩
          · rw [if_neg h3] at he; exact absurd rfl he
    rcases HC with ⟨HE, hc⟩ | ⟨HE, h1, h2, h3, h4, h5⟩
    · have hcase : k < 1 ∨ (1 ≤ k ∧ 8 < k) ∨ (1 ≤ k ∧ k ≤ 8 ∧ p < 0) ∨ (1 ≤ k ∧ k ≤ 8 ∧ 0 ≤ p ∧ (n : Int) < p) := by omega
      clear hc he
      rcases hcase with h1 | ⟨h1, h2⟩ | ⟨h1, h2, h3⟩ | ⟨h1, h2, h3, h4⟩
      all_goals
        go_enter Try.func66, Try.ntmps66
        go_wp2
        go_ret2
        exact ⟨by rw [HV.out, HE.out]; rfl, rfl⟩
    · clear he
      go_enter Try.func66, Try.ntmps66
      go_wp2
      go_ret2
      exact ⟨by rw [HV.out, HE.out]; rfl, rfl⟩
end Go.Proofs.Ytplicfknjhjjgaa
