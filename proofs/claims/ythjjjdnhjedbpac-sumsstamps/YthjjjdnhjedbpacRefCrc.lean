/- What the reference's Crc answers: the same CRC-32C. -/
import Derived.Test.YthjjjdnhjedbpacProg
import Derived.Test.YthjjjdnhjedbpacBase
import Derived.Outline
import Derived.WalkLawsBesides
import Derived.WalkSpells
import Derived.Deep.QuietTactic
import Derived.BigQuiet
namespace Go.Proofs.Ythjjjdnhjedbpac
open Go.RowKit
theorem below_drewN {B : Nat} {w w' : World} (h : Below B w w') (n : Nat) : Below B w (w'.drewN n) := ⟨h.os, h.tape, h.output, h.size, h.block⟩
theorem xor_poly (q : Nat) (h : q < 4294967296) : bits .xor .u32 (q : Int) 2197175160 = ((q ^^^ 2197175160 : Nat) : Int) := u32_xor_nat q 2197175160 h (by omega)
theorem cbr_ne (p x P j : Nat) (hR : cb p x j = if p % 2 = x / P % 2 then p / 2 else p / 2 ^^^ 2197175160) (h : ((p : Int) % 2 != (x : Int) / P % 2) = true) : cb p x j = p / 2 ^^^ 2197175160 := by
  rw [hR, if_neg]
  intro e
  have e2 : ((x : Int) / P) = ((x / P : Nat) : Int) := by norm_cast
  rw [e2] at h
  generalize x / P = y at *
  simp only [bne_iff_ne, ne_eq] at h
  omega
theorem cbr_eq (p x P j : Nat) (hR : cb p x j = if p % 2 = x / P % 2 then p / 2 else p / 2 ^^^ 2197175160) (h : ((p : Int) % 2 != (x : Int) / P % 2) = false) : cb p x j = p / 2 := by
  rw [hR, if_pos]
  have e2 : ((x : Int) / P) = ((x / P : Nat) : Int) := by norm_cast
  rw [e2] at h
  generalize x / P = y at *
  simp only [bne_eq_false_iff_eq] at h
  omega
set_option maxHeartbeats 1000000 in
theorem refcrc_any (a : Option Addr) (n c : Nat) (zs : List Nat) (w : World) (hs : Sl w a n c zs) :
    Calls Try.prog 20 #[.slice a n c] w fun e w' => e = .returned (.int .u32 (crc zs)) ∧ Below w.heap.size w w' := by
  obtain ⟨hl, hcap, hroom, hsm, _, hb, hat⟩ := hs
  unfold maxLen at hroom
  go_enter Try.func20, Try.ntmps20
  go_wp2
  go_loopw [3, 4] (fun r' i wr => ∃ (k : Nat), k ≤ n ∧ i = .int .i64 k ∧ r' = .int .u32 (crcReg 4294967295 (zs.take k)) ∧ Below w.heap.size w wr) (fun _ i _ => n - (intOf i).toNat)
  case atStart => exact ⟨0, by omega, rfl, rfl, Below.refl _ _⟩
  case round =>
    obtain ⟨k, hk, rfl, rfl, hbel⟩ := hrel
    have hq := crcReg_lt (zs.take k) 4294967295 (by omega)
    by_cases hlt : k < n
    · have HE : Hid (crcReg 4294967295 (zs.take (k + 1)) = cbyte (crcReg 4294967295 (zs.take k)) (zs.getD k 0)) := by
        rw [take_snocN zs k (by omega), crcReg_snoc]; rfl
      rcases hat with h0 | ⟨b, off, rfl, hlt2, hcell⟩
      · omega
      · have hc := hcell k hlt
        have hx := hb k
        generalize zs.getD k 0 = x at *
        generalize crcReg 4294967295 (zs.take k) = q at *
        clear hcell hb
        go_wp2
        go_loopw [3, 5] (fun r' i wr => ∃ (j : Nat), j ≤ 8 ∧ i = .int .i64 j ∧ r' = .int .u32 (cbits q x j) ∧ Below w.heap.size w wr) (fun _ i _ => 8 - (intOf i).toNat)
        case atStart => exact ⟨0, by omega, rfl, rfl, hbel⟩
        case round =>
          clear hbel
          obtain ⟨j, hj, rfl, rfl, hbel⟩ := hrel
          have hq2 := cbits_lt q x j hq
          by_cases hlt3 : j < 8
          · have HS : Hid (cbits q x (j + 1) = cb (cbits q x j) x j) := rfl
            have HR := (show Hid _ from cb_ref (cbits q x j) x j)
            have HX := (show Hid _ from xor_poly (cbits q x j / 2) (by omega))
            rw [← hbel.cell (p := ⟨b, off + k, none⟩) hlt2] at hc
            generalize cbits q x j = p at *
            have hki : (k : Int) < (n : Int) := by omega
            have hxw : IntKind.u32.wrap (x : Int) = (x : Int) := by rw [IntKind.wrap_u32']; omega
            have hP1 : 1 ≤ 2 ^ j := Nat.one_le_two_pow
            have hP2 : 2 ^ j ≤ 2 ^ 8 := Nat.pow_le_pow_right (by omega) (by omega)
            have hpw : IntKind.u32.wrap ((2 : Int) ^ j) = ((2 ^ j : Nat) : Int) := by
              rw [IntKind.wrap_u32', show ((2 : Int) ^ j) = ((2 ^ j : Nat) : Int) from by norm_cast]
              omega
            have HP : Hid (2 ^ j = 2 ^ j) := rfl
            generalize hPe : (2 : Nat) ^ j = P at *
            have HPE := (show Hid _ from hPe)
            clear hPe HP
            go_wp2_with fail
            go_quiet (fail)
            go_wp2
            · rename_i hbit
              go_roundw
              case rel => exact ⟨j + 1, by omega, by go_num, by rw [HS.out, cbr_ne p x P j HR.out hbit, ← HX.out]; rfl, below_drewN hbel nq⟩
              case measure => simp [intOf]; omega
            · rename_i hbit
              go_roundw
              case rel => exact ⟨j + 1, by omega, by go_num, by rw [HS.out, cbr_eq p x P j HR.out hbit]; rfl, below_drewN hbel nq⟩
              case measure => simp [intOf]; omega
          · obtain rfl : j = 8 := by omega
            go_wp2
            go_roundw
            case rel => exact ⟨k + 1, by omega, by go_num, by rw [HE.out]; rfl, hbel⟩
            case measure => simp [intOf]; omega
    · obtain rfl : k = n := by omega
      have HT : Hid (zs.take k = zs) := by rw [← hl]; exact List.take_length
      have HC : Hid (crc zs = 4294967295 - crcReg 4294967295 (zs.take k)) := by show _ = _; rw [HT.out]; rfl
      generalize crcReg 4294967295 (zs.take k) = q at *
      go_wp2
      go_ret
      exact ⟨ret_int (by rw [HC.out]; omega), hbel⟩
end Go.Proofs.Ythjjjdnhjedbpac
