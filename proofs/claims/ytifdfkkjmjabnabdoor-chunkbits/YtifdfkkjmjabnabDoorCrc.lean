/- What sums.Crc answers: the CRC-32C of the bytes. -/
import Derived.Test.YtifdfkkjmjabnabDoorProg
import Derived.Test.YtifdfkkjmjabnabDoorBase
import Derived.Outline
import Derived.WalkLawsBesides
import Derived.WalkSpells
namespace Go.Proofs.YtifdfkkjmjabnabDoor
open Go.RowKit
set_option maxHeartbeats 400000 in
theorem step_any (r x : Nat) (w : World) (hr : r < 4294967296) (hx : x < 256) :
    Calls Tryd.prog 54 #[.int .u32 r, .int .u8 x] w fun e w' => e = .returned (.int .u32 (cbyte r x)) ∧ w' = w := by
  go_enter Tryd.func54, Tryd.ntmps54
  go_wp2
  go_loop [0, 7] (fun r' i => ∃ (k : Nat), k ≤ 8 ∧ i = .int .i64 k ∧ r' = .int .u32 (cbits r x k)) (fun _ i => 8 - (intOf i).toNat)
  case atStart => exact ⟨0, by omega, rfl, rfl⟩
  case round =>
    obtain ⟨k, hk, rfl, rfl⟩ := hrel
    have hq := cbits_lt r x k hr
    have HE := (show Hid _ from cb_eq (cbits r x k) x k hq hx)
    have H : Hid (cb (cbits r x k) x k = cbits r x (k + 1)) := rfl
    by_cases hlt : k < 8
    · generalize cbits r x k = q at *
      go_wp2
      go_round
      case rel => exact ⟨k + 1, by omega, by go_num, by rw [HE.out, H.out]⟩
      case measure => simp [intOf]; omega
    · obtain rfl : k = 8 := by omega
      go_wp2
      go_ret
      exact ⟨rfl, rfl⟩

set_option maxHeartbeats 400000 in
theorem thr_crc (a : Option Addr) (n c : Nat) (zs : List Nat) (r : Nat) (w : World) (hr : r < 4294967296) (hs : Sl w a n c zs) :
    Calls Tryd.prog 53 #[.slice a n c, .int .u32 r, .func (.func 54) #[] #[]] w fun e w' => e = .returned (.int .u32 (crcReg r zs)) ∧ w' = w := by
  obtain ⟨hl, hcap, hroom, hsm, _, hb, hat⟩ := hs
  unfold maxLen at hroom
  go_enter Tryd.func53, Tryd.ntmps53
  go_wp2
  go_loop [1, 11] (fun r' i => ∃ (k : Nat), k ≤ n ∧ i = .int .i64 k ∧ r' = .int .u32 (crcReg r (zs.take k))) (fun _ i => n - (intOf i).toNat)
  case atStart => exact ⟨0, by omega, rfl, rfl⟩
  case round =>
    obtain ⟨k, hk, rfl, rfl⟩ := hrel
    have hq := crcReg_lt (zs.take k) r hr
    by_cases hlt : k < n
    · have HE : Hid (crcReg r (zs.take (k + 1)) = cbyte (crcReg r (zs.take k)) (zs.getD k 0)) := by
        rw [take_snocN zs k (by omega), crcReg_snoc]; rfl
      rcases hat with h0 | ⟨b, off, rfl, hlt2, hcell⟩
      · omega
      · have hc := hcell k hlt
        have hx := hb k
        generalize zs.getD k 0 = x at *
        generalize crcReg r (zs.take k) = q at *
        clear hcell hb
        go_wp2_with (go_at_call 54; refine (step_any _ _ _ hq hx).mono ?_; rintro e w' ⟨rfl, rfl⟩)
        go_round
        case rel => exact ⟨k + 1, by omega, by go_num, by rw [HE.out]⟩
        case measure => simp [intOf]; omega
    · obtain rfl : k = n := by omega
      have HT : Hid (zs.take k = zs) := by rw [← hl]; exact List.take_length
      go_wp2
      go_ret
      exact ⟨by rw [HT.out]; rfl, rfl⟩

set_option maxHeartbeats 400000 in
theorem crc_any (a : Option Addr) (n c : Nat) (zs : List Nat) (w : World) (hs : Sl w a n c zs) :
    Calls Tryd.prog 36 #[.slice a n c] w fun e w' => e = .returned (.int .u32 (crc zs)) ∧ w' = w := by
  have hq := crcReg_lt zs 4294967295 (by omega)
  have HE : Hid (crc zs = 4294967295 - crcReg 4294967295 zs) := rfl
  go_enter Tryd.func36, Tryd.ntmps36
  go_wp2_with (go_at_call 53; refine (thr_crc a n c zs 4294967295 _ (by omega) hs).mono ?_; rintro e w' ⟨rfl, rfl⟩)
  generalize crcReg 4294967295 zs = q at *
  go_ret
  exact ⟨ret_int (by rw [HE.out]; exact not32 q hq), rfl⟩
end Go.Proofs.YtifdfkkjmjabnabDoor
