/- What the reference's Digit answers. -/
import Derived.Test.YtplicfknjhjjgaaDoorUnhexE
import Derived.Test.YtplicfknjhjjgaaDoorDecE
import Derived.Deep.QuietTactic
import Derived.BigQuiet
namespace Go.Proofs.YtplicfknjhjjgaaDoor
open Go.RowKit
def lowD (q : Nat) : Nat := if q < 10 then 48 + q else 87 + q
def uppD (q : Nat) : Nat := if q < 10 then 48 + q else 55 + q
theorem lo_0 (w : World) : (Instr.index 9 (.string ⟨#[48, 49, 50, 51, 52, 53, 54, 55, 56, 57, 97, 98, 99, 100, 101, 102]⟩) (.int .i64 0)).run Tryd.prog w = .ok (.int .u8 48) w := by kernel_rfl
theorem lo_1 (w : World) : (Instr.index 9 (.string ⟨#[48, 49, 50, 51, 52, 53, 54, 55, 56, 57, 97, 98, 99, 100, 101, 102]⟩) (.int .i64 1)).run Tryd.prog w = .ok (.int .u8 49) w := by kernel_rfl
theorem lo_2 (w : World) : (Instr.index 9 (.string ⟨#[48, 49, 50, 51, 52, 53, 54, 55, 56, 57, 97, 98, 99, 100, 101, 102]⟩) (.int .i64 2)).run Tryd.prog w = .ok (.int .u8 50) w := by kernel_rfl
theorem lo_3 (w : World) : (Instr.index 9 (.string ⟨#[48, 49, 50, 51, 52, 53, 54, 55, 56, 57, 97, 98, 99, 100, 101, 102]⟩) (.int .i64 3)).run Tryd.prog w = .ok (.int .u8 51) w := by kernel_rfl
theorem lo_4 (w : World) : (Instr.index 9 (.string ⟨#[48, 49, 50, 51, 52, 53, 54, 55, 56, 57, 97, 98, 99, 100, 101, 102]⟩) (.int .i64 4)).run Tryd.prog w = .ok (.int .u8 52) w := by kernel_rfl
theorem lo_5 (w : World) : (Instr.index 9 (.string ⟨#[48, 49, 50, 51, 52, 53, 54, 55, 56, 57, 97, 98, 99, 100, 101, 102]⟩) (.int .i64 5)).run Tryd.prog w = .ok (.int .u8 53) w := by kernel_rfl
theorem lo_6 (w : World) : (Instr.index 9 (.string ⟨#[48, 49, 50, 51, 52, 53, 54, 55, 56, 57, 97, 98, 99, 100, 101, 102]⟩) (.int .i64 6)).run Tryd.prog w = .ok (.int .u8 54) w := by kernel_rfl
theorem lo_7 (w : World) : (Instr.index 9 (.string ⟨#[48, 49, 50, 51, 52, 53, 54, 55, 56, 57, 97, 98, 99, 100, 101, 102]⟩) (.int .i64 7)).run Tryd.prog w = .ok (.int .u8 55) w := by kernel_rfl
theorem lo_8 (w : World) : (Instr.index 9 (.string ⟨#[48, 49, 50, 51, 52, 53, 54, 55, 56, 57, 97, 98, 99, 100, 101, 102]⟩) (.int .i64 8)).run Tryd.prog w = .ok (.int .u8 56) w := by kernel_rfl
theorem lo_9 (w : World) : (Instr.index 9 (.string ⟨#[48, 49, 50, 51, 52, 53, 54, 55, 56, 57, 97, 98, 99, 100, 101, 102]⟩) (.int .i64 9)).run Tryd.prog w = .ok (.int .u8 57) w := by kernel_rfl
theorem lo_10 (w : World) : (Instr.index 9 (.string ⟨#[48, 49, 50, 51, 52, 53, 54, 55, 56, 57, 97, 98, 99, 100, 101, 102]⟩) (.int .i64 10)).run Tryd.prog w = .ok (.int .u8 97) w := by kernel_rfl
theorem lo_11 (w : World) : (Instr.index 9 (.string ⟨#[48, 49, 50, 51, 52, 53, 54, 55, 56, 57, 97, 98, 99, 100, 101, 102]⟩) (.int .i64 11)).run Tryd.prog w = .ok (.int .u8 98) w := by kernel_rfl
theorem lo_12 (w : World) : (Instr.index 9 (.string ⟨#[48, 49, 50, 51, 52, 53, 54, 55, 56, 57, 97, 98, 99, 100, 101, 102]⟩) (.int .i64 12)).run Tryd.prog w = .ok (.int .u8 99) w := by kernel_rfl
theorem lo_13 (w : World) : (Instr.index 9 (.string ⟨#[48, 49, 50, 51, 52, 53, 54, 55, 56, 57, 97, 98, 99, 100, 101, 102]⟩) (.int .i64 13)).run Tryd.prog w = .ok (.int .u8 100) w := by kernel_rfl
theorem lo_14 (w : World) : (Instr.index 9 (.string ⟨#[48, 49, 50, 51, 52, 53, 54, 55, 56, 57, 97, 98, 99, 100, 101, 102]⟩) (.int .i64 14)).run Tryd.prog w = .ok (.int .u8 101) w := by kernel_rfl
theorem lo_15 (w : World) : (Instr.index 9 (.string ⟨#[48, 49, 50, 51, 52, 53, 54, 55, 56, 57, 97, 98, 99, 100, 101, 102]⟩) (.int .i64 15)).run Tryd.prog w = .ok (.int .u8 102) w := by kernel_rfl
theorem lo_at (q : Nat) (h : q < 16) (w : World) : (Instr.index 9 (.string ⟨#[48, 49, 50, 51, 52, 53, 54, 55, 56, 57, 97, 98, 99, 100, 101, 102]⟩) (.int .i64 (q : Nat))).run Tryd.prog w = .ok (.int .u8 (lowD q : Nat)) w := by
  have hq : q = 0 ∨ q = 1 ∨ q = 2 ∨ q = 3 ∨ q = 4 ∨ q = 5 ∨ q = 6 ∨ q = 7 ∨ q = 8 ∨ q = 9 ∨ q = 10 ∨ q = 11 ∨ q = 12 ∨ q = 13 ∨ q = 14 ∨ q = 15 := by omega
  rcases hq with h | h | h | h | h | h | h | h | h | h | h | h | h | h | h | h
  · rw [h]; exact lo_0 w
  · rw [h]; exact lo_1 w
  · rw [h]; exact lo_2 w
  · rw [h]; exact lo_3 w
  · rw [h]; exact lo_4 w
  · rw [h]; exact lo_5 w
  · rw [h]; exact lo_6 w
  · rw [h]; exact lo_7 w
  · rw [h]; exact lo_8 w
  · rw [h]; exact lo_9 w
  · rw [h]; exact lo_10 w
  · rw [h]; exact lo_11 w
  · rw [h]; exact lo_12 w
  · rw [h]; exact lo_13 w
  · rw [h]; exact lo_14 w
  · rw [h]; exact lo_15 w
theorem up_0 (w : World) : (Instr.index 9 (.string ⟨#[48, 49, 50, 51, 52, 53, 54, 55, 56, 57, 65, 66, 67, 68, 69, 70]⟩) (.int .i64 0)).run Tryd.prog w = .ok (.int .u8 48) w := by kernel_rfl
theorem up_1 (w : World) : (Instr.index 9 (.string ⟨#[48, 49, 50, 51, 52, 53, 54, 55, 56, 57, 65, 66, 67, 68, 69, 70]⟩) (.int .i64 1)).run Tryd.prog w = .ok (.int .u8 49) w := by kernel_rfl
theorem up_2 (w : World) : (Instr.index 9 (.string ⟨#[48, 49, 50, 51, 52, 53, 54, 55, 56, 57, 65, 66, 67, 68, 69, 70]⟩) (.int .i64 2)).run Tryd.prog w = .ok (.int .u8 50) w := by kernel_rfl
theorem up_3 (w : World) : (Instr.index 9 (.string ⟨#[48, 49, 50, 51, 52, 53, 54, 55, 56, 57, 65, 66, 67, 68, 69, 70]⟩) (.int .i64 3)).run Tryd.prog w = .ok (.int .u8 51) w := by kernel_rfl
theorem up_4 (w : World) : (Instr.index 9 (.string ⟨#[48, 49, 50, 51, 52, 53, 54, 55, 56, 57, 65, 66, 67, 68, 69, 70]⟩) (.int .i64 4)).run Tryd.prog w = .ok (.int .u8 52) w := by kernel_rfl
theorem up_5 (w : World) : (Instr.index 9 (.string ⟨#[48, 49, 50, 51, 52, 53, 54, 55, 56, 57, 65, 66, 67, 68, 69, 70]⟩) (.int .i64 5)).run Tryd.prog w = .ok (.int .u8 53) w := by kernel_rfl
theorem up_6 (w : World) : (Instr.index 9 (.string ⟨#[48, 49, 50, 51, 52, 53, 54, 55, 56, 57, 65, 66, 67, 68, 69, 70]⟩) (.int .i64 6)).run Tryd.prog w = .ok (.int .u8 54) w := by kernel_rfl
theorem up_7 (w : World) : (Instr.index 9 (.string ⟨#[48, 49, 50, 51, 52, 53, 54, 55, 56, 57, 65, 66, 67, 68, 69, 70]⟩) (.int .i64 7)).run Tryd.prog w = .ok (.int .u8 55) w := by kernel_rfl
theorem up_8 (w : World) : (Instr.index 9 (.string ⟨#[48, 49, 50, 51, 52, 53, 54, 55, 56, 57, 65, 66, 67, 68, 69, 70]⟩) (.int .i64 8)).run Tryd.prog w = .ok (.int .u8 56) w := by kernel_rfl
theorem up_9 (w : World) : (Instr.index 9 (.string ⟨#[48, 49, 50, 51, 52, 53, 54, 55, 56, 57, 65, 66, 67, 68, 69, 70]⟩) (.int .i64 9)).run Tryd.prog w = .ok (.int .u8 57) w := by kernel_rfl
theorem up_10 (w : World) : (Instr.index 9 (.string ⟨#[48, 49, 50, 51, 52, 53, 54, 55, 56, 57, 65, 66, 67, 68, 69, 70]⟩) (.int .i64 10)).run Tryd.prog w = .ok (.int .u8 65) w := by kernel_rfl
theorem up_11 (w : World) : (Instr.index 9 (.string ⟨#[48, 49, 50, 51, 52, 53, 54, 55, 56, 57, 65, 66, 67, 68, 69, 70]⟩) (.int .i64 11)).run Tryd.prog w = .ok (.int .u8 66) w := by kernel_rfl
theorem up_12 (w : World) : (Instr.index 9 (.string ⟨#[48, 49, 50, 51, 52, 53, 54, 55, 56, 57, 65, 66, 67, 68, 69, 70]⟩) (.int .i64 12)).run Tryd.prog w = .ok (.int .u8 67) w := by kernel_rfl
theorem up_13 (w : World) : (Instr.index 9 (.string ⟨#[48, 49, 50, 51, 52, 53, 54, 55, 56, 57, 65, 66, 67, 68, 69, 70]⟩) (.int .i64 13)).run Tryd.prog w = .ok (.int .u8 68) w := by kernel_rfl
theorem up_14 (w : World) : (Instr.index 9 (.string ⟨#[48, 49, 50, 51, 52, 53, 54, 55, 56, 57, 65, 66, 67, 68, 69, 70]⟩) (.int .i64 14)).run Tryd.prog w = .ok (.int .u8 69) w := by kernel_rfl
theorem up_15 (w : World) : (Instr.index 9 (.string ⟨#[48, 49, 50, 51, 52, 53, 54, 55, 56, 57, 65, 66, 67, 68, 69, 70]⟩) (.int .i64 15)).run Tryd.prog w = .ok (.int .u8 70) w := by kernel_rfl
theorem up_at (q : Nat) (h : q < 16) (w : World) : (Instr.index 9 (.string ⟨#[48, 49, 50, 51, 52, 53, 54, 55, 56, 57, 65, 66, 67, 68, 69, 70]⟩) (.int .i64 (q : Nat))).run Tryd.prog w = .ok (.int .u8 (uppD q : Nat)) w := by
  have hq : q = 0 ∨ q = 1 ∨ q = 2 ∨ q = 3 ∨ q = 4 ∨ q = 5 ∨ q = 6 ∨ q = 7 ∨ q = 8 ∨ q = 9 ∨ q = 10 ∨ q = 11 ∨ q = 12 ∨ q = 13 ∨ q = 14 ∨ q = 15 := by omega
  rcases hq with h | h | h | h | h | h | h | h | h | h | h | h | h | h | h | h
  · rw [h]; exact up_0 w
  · rw [h]; exact up_1 w
  · rw [h]; exact up_2 w
  · rw [h]; exact up_3 w
  · rw [h]; exact up_4 w
  · rw [h]; exact up_5 w
  · rw [h]; exact up_6 w
  · rw [h]; exact up_7 w
  · rw [h]; exact up_8 w
  · rw [h]; exact up_9 w
  · rw [h]; exact up_10 w
  · rw [h]; exact up_11 w
  · rw [h]; exact up_12 w
  · rw [h]; exact up_13 w
  · rw [h]; exact up_14 w
  · rw [h]; exact up_15 w
theorem hexv_iff (b j : Nat) (hj : j < 16) : hexv b = some j ↔ (b = lowD j ∨ b = uppD j) := by
  unfold hexv lowD uppD
  constructor
  · intro h
    split at h
    · injection h with h; split <;> omega
    · split at h
      · injection h with h; split <;> omega
      · split at h
        · injection h with h; split <;> omega
        · cases h
  · intro h
    by_cases h10 : j < 10
    · rw [if_pos h10, if_pos h10] at h
      rw [if_pos (by omega)]
      congr 1
      omega
    · rw [if_neg h10, if_neg h10] at h
      rw [if_neg (by omega)]
      rcases h with h | h
      · rw [if_pos (by omega)]; congr 1; omega
      · rw [if_neg (by omega), if_pos (by omega)]; congr 1; omega
def digN : List Nat → Option Nat
  | [b] => hexv b
  | _ => none
def digS (x : ByteArray) : Option Nat := digN (natsOf x)
def digI (x : ByteArray) : Int := match digS x with
  | some v => (v : Int)
  | none => -1
theorem digI_of {x : ByteArray} {v : Nat} (h : digS x = some v) : digI x = (v : Int) := by unfold digI; rw [h]
theorem digI_no {x : ByteArray} (h : digS x = none) : digI x = -1 := by unfold digI; rw [h]
set_option maxHeartbeats 1000000 in
theorem digit_any (x : ByteArray) (w : World) :
    Calls Tryd.prog 16 #[.string x] w fun e w' => e = .returned (.int .i64 (digI x)) ∧ Below w.heap.size w w' := by
  by_cases h1 : x.size = 1
  · obtain ⟨⟨l⟩⟩ := x
    obtain ⟨u, rfl⟩ : ∃ u, l = [u] := by
      match l, h1 with
      | [u], _ => exact ⟨u, rfl⟩
    have HD : Hid (digS ⟨⟨[u]⟩⟩ = hexv u.toNat) := rfl
    have hu := u.toNat_lt
    clear h1
    go_enter Tryd.func16, Tryd.ntmps16
    go_wp2
    go_loopw [3] (fun i wr => ∃ j : Nat, j ≤ 16 ∧ i = .int .i64 j ∧ Hid (∀ k, k < j → hexv u.toNat ≠ some k) ∧ Below w.heap.size w wr) (fun i _ => 16 - (intOf i).toNat)
    case atStart => exact ⟨0, by omega, rfl, (fun k hk => by omega), Below.refl _ _⟩
    case round =>
      obtain ⟨j, hj, rfl, HK, hbel⟩ := hrel
      by_cases hlt : j < 16
      · have hI := hexv_iff u.toNat j hlt
        have HI := (show Hid _ from hI)
        clear hI
        have hl := lo_at j hlt
        have hu2 := up_at j hlt
        have hix : ∀ w, (Instr.index 9 (.string ⟨⟨[u]⟩⟩) (.int .i64 0)).run Tryd.prog w = .ok (.int .u8 (u.toNat : Nat)) w := by
          intro w
          simp [go_sem, Tryd.underlying9]
          rfl
        have hlow : lowD j < 256 := by unfold lowD; split <;> omega
        have hupp : uppD j < 256 := by unfold uppD; split <;> omega
        generalize lowD j = lo at *
        generalize uppD j = up at *
        generalize u.toNat = b at *
        have hS : wr.drew.os = wr.drew.os := rfl
        rcases (show b = lo ∨ (b = up ∧ ¬ b = lo) ∨ (¬ b = up ∧ ¬ b = lo) by omega) with e1 | ⟨e1, e2⟩ | ⟨e1, e2⟩
        · have HR : Hid (digI ⟨⟨[u]⟩⟩ = (j : Int)) := digI_of (HD.out.trans (HI.out.2 (.inl e1)))
          subst e1
          clear HI HK
          go_wp2_with fail
          go_quiet (fail)
          all_goals
            go_wp2
            go_ret
            exact ⟨by rw [HR.out]; rfl, ⟨hbel.os, hbel.tape, hbel.output, hbel.size, hbel.block⟩⟩
        · have HR : Hid (digI ⟨⟨[u]⟩⟩ = (j : Int)) := digI_of (HD.out.trans (HI.out.2 (.inr e1)))
          subst e1
          have d1 : decide (b = lo) = false := by simp; exact e2
          have d2 : ((b : Int) == (lo : Int)) = false := by simp; omega
          clear HI HK
          go_wp2_with fail
          go_quiet (fail)
          all_goals
            go_wp2
            go_ret
            exact ⟨by rw [HR.out]; rfl, ⟨hbel.os, hbel.tape, hbel.output, hbel.size, hbel.block⟩⟩
        · have d1 : decide (b = lo) = false := by simp; exact e2
          have d2 : ((b : Int) == (lo : Int)) = false := by simp; omega
          have d3 : decide (b = up) = false := by simp; exact e1
          have d4 : ((b : Int) == (up : Int)) = false := by simp; omega
          have HR : Hid (∀ k, k < j + 1 → hexv b ≠ some k) := by
            intro k hk
            by_cases hkj : k = j
            · subst hkj
              intro e
              rcases HI.out.1 e with e | e
              · exact e2 e
              · exact e1 e
            · exact HK.out k (by omega)
          clear HI HK
          go_wp2_with fail
          go_quiet (fail)
          all_goals
            go_wp2
            go_roundw
            case rel => exact ⟨j + 1, by omega, by go_num, HR, ⟨hbel.os, hbel.tape, hbel.output, hbel.size, hbel.block⟩⟩
            case measure => simp [intOf]; omega
      · obtain rfl : j = 16 := by omega
        have HR : Hid (digI ⟨⟨[u]⟩⟩ = -1) := by
          show _ = _
          apply digI_no
          rw [HD.out]
          cases h : hexv u.toNat with
          | none => rfl
          | some v => exact absurd h (HK.out v (hexv_lt h))
        clear HK
        go_wp2
        go_ret
        exact ⟨by rw [HR.out]; rfl, hbel⟩
  · have HD : Hid (digI x = -1) := by
      show _ = _
      apply digI_no
      unfold digS digN
      split
      · rename_i b hb
        exfalso
        apply h1
        have : (natsOf x).length = 1 := by rw [hb]; rfl
        simpa [natsOf] using this
      · rfl
    have h1' : ((x.size : Int) != 1) = true := by simp; omega
    have h2' : ((x.size : Int) == 1) = false := by simp; omega
    go_enter Tryd.func16, Tryd.ntmps16
    go_wp2
    go_ret
    exact ⟨by rw [HD.out]; rfl, Below.refl _ _⟩
end Go.Proofs.YtplicfknjhjjgaaDoor
