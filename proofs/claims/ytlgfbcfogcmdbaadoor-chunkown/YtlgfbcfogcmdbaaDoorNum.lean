/- What octet.Num answers. -/
import Derived.Test.YtlgfbcfogcmdbaaDoorSpan
namespace Go.Proofs.YtlgfbcfogcmdbaaDoor
open Go.RowKit
set_option maxHeartbeats 2000000 in
theorem num_any (a : Option Addr) (n c : Nat) (zs : List Nat) (p k : Int) (w : World) (hs : Sl w a n c zs) :
    Calls Tryd.prog 63 #[.slice a n c, .int .i64 p, .int .i64 k] w fun e w' => e = .returned (.tuple #[.int .u64 (numV zs p k : Nat), .int .i64 (nspanE n p k : Nat)]) ∧ w' = w := by
  have hl := hs.len
  by_cases he : nspanE n p k = 0
  · obtain ⟨hk1, hk8, hp0, hpk⟩ := nspan_ok he
    have HE := (show Hid _ from he)
    have HV : Hid (numV zs p k = numB ((zs.drop p.toNat).take k.toNat)) := by show _ = _; unfold numV; rw [hl, if_pos he]
    clear he
    obtain ⟨p, rfl⟩ := Int.eq_ofNat_of_zero_le hp0
    obtain ⟨k, rfl⟩ := Int.eq_ofNat_of_zero_le (show 0 ≤ k by omega)
    rw [Int.toNat_natCast, Int.toNat_natCast] at HV
    have hk8' : k ≤ 8 := by omega
    have hpk' : p + k ≤ n := by omega
    have hk1' : 1 ≤ k := by omega
    have hmid := mid_bnd zs p k hs.bnd
    have hml : ((zs.drop p).take k).length = k := by simp; omega
    obtain ⟨_, hcap, hroom, hsm, _, hb, hat⟩ := hs
    rcases hat with h0 | ⟨b, off, rfl, hlt, hcell⟩
    · omega
    have hcell2 : ∀ i, i < k → w.cell? ⟨b, off + p + i, none⟩ = some (.int .u8 (((zs.drop p).take k).getD i 0 : Nat)) := by
      intro i hi
      rw [mid_getD zs p k i hi, Nat.add_assoc]
      exact hcell (p + i) (by omega)
    clear hcell hb
    generalize (zs.drop p).take k = ys at *
    have hpc : ¬ c = p := by omega
    have hpkp : p + k - p = k := by omega
    go_enter Tryd.func63, Tryd.ntmps63
    go_wp2_with (go_at_call 47; refine (nspan_any n p k _ hsm).mono ?_; rintro e w' ⟨rfl, rfl⟩; rw [HE.out])
    go_loop [9, 27] (fun v i => ∃ j : Nat, j ≤ k ∧ i = .int .i64 j ∧ v = .int .u64 (numB (ys.take j) : Nat)) (fun _ i => k - (intOf i).toNat)
    case atStart => exact ⟨0, by omega, rfl, rfl⟩
    case round =>
      obtain ⟨j, hj, rfl, rfl⟩ := hrel
      by_cases hjk : j < k
      · have hc := hcell2 j hjk
        have hx := hmid j
        have HN : Hid (numB (ys.take (j + 1)) = numB (ys.take j) * 256 + ys.getD j 0) := by show _ = _; rw [take_snocN ys j (by omega), numB_snoc]
        have hq : numB (ys.take j) < 72057594037927936 := by
          have h1 := numB_lt (ys.take j) (fun i => by
            by_cases hi : i < j
            · simp [List.getD_eq_getElem?_getD, hi]; have := hmid i; simp [List.getD_eq_getElem?_getD] at this; exact this
            · rw [List.getD_eq_getElem?_getD, List.getElem?_eq_none (by simp; omega)]; exact Nat.zero_lt_succ _)
          have h2 := pow_small j (by omega)
          rw [List.length_take, Nat.min_eq_left (by omega)] at h1
          omega
        have HO := (show Hid _ from or8 _ _ hq hx)
        clear hcell2 hmid
        generalize numB (ys.take j) = q at *
        generalize ys.getD j 0 = x at *
        go_wp2
        go_round
        case rel => exact ⟨j + 1, by omega, by go_num, by rw [HN.out, ← HO.out]⟩
        case measure => simp [intOf]; omega
      · obtain rfl : j = k := by omega
        have HT : Hid (ys.take j = ys) := by show _ = _; rw [List.take_of_length_le (by omega)]
        go_wp2
        go_ret2
        exact ⟨by rw [HT.out, HV.out, HE.out]; rfl, rfl⟩
  · have HV : Hid (numV zs p k = 0) := by show _ = _; unfold numV; rw [hl, if_neg he]
    have hne : ((nspanE n p k : Int) != 0) = true := by simp; omega
    have hsm := hs.small
    go_enter Tryd.func63, Tryd.ntmps63
    go_wp2_with (go_at_call 47; refine (nspan_any n p k _ hsm).mono ?_; rintro e w' ⟨rfl, rfl⟩)
    go_ret2
    exact ⟨by rw [HV.out]; rfl, rfl⟩
end Go.Proofs.YtlgfbcfogcmdbaaDoor
