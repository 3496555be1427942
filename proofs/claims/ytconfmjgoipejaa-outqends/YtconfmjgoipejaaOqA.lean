/- outq: inAir, count, isIn. -/
import Derived.Test.YtconfmjgoipejaaOqN
namespace Go.Proofs.Ytconfmjgoipejaa
open Go.RowKit Go.Shelf
section
variable {w : World} {q nb : Nat} {pa : Option Addr} {cap : Nat} {L : List PcA} {cum size : Nat} {nx : List Nat}
def airL (L : List PcA) (i : Nat) : Nat := (if 0 < i then sumG (flyP 0) L L.length else 0) + (if 1 < i then sumG (flyP 1) L L.length else 0)
set_option maxRecDepth 100000 in
set_option maxHeartbeats 2000000 in
theorem inAir_any (h : QuW w q nb pa cap L cum size nx) (hL : L.length ≤ 100000) (hS : sumL L L.length ≤ 100000) :
    Calls Try.prog 26 #[.pointer (some ⟨q, 0, none⟩)] w fun e w' => e = .returned (.int .i64 (airL L 2 : Nat)) ∧ Below w.heap.size w w' := by
  have HF := (show Hid _ from fun (W : World) (hb : Below w.heap.size w W) (wy : Int) => flight_any (h.below hb) hL hS wy)
  have hb0 : sumG (flyP 0) L L.length ≤ 100000 := Nat.le_trans (sumG_le (flyP_le 0) L L.length) (by rw [← sumL_G]; exact hS)
  have hb1 : sumG (flyP 1) L L.length ≤ 100000 := Nat.le_trans (sumG_le (flyP_le 1) L L.length) (by rw [← sumL_G]; exact hS)
  have HA : Hid (airL L 0 = 0 ∧ airL L 1 = sumG (flyP 0) L L.length ∧ airL L 2 = sumG (flyP 0) L L.length + sumG (flyP 1) L L.length) := ⟨rfl, by simp [airL], by simp [airL]⟩
  clear h
  go_enter Try.func26, Try.ntmps26
  go_wp2
  go_loopw [3, 5] (fun u3 u5 wr => ∃ i : Nat, i ≤ 2 ∧ u5 = .int .i64 (i : Nat) ∧ u3 = .int .i64 (airL L i : Nat) ∧ Below w.heap.size w wr) (fun _ u _ => 2 - (intOf u).toNat)
  case atStart => exact ⟨0, by omega, rfl, by rw [HA.out.1]; rfl, Below.refl _ _⟩
  case round =>
    obtain ⟨i, hi, rfl, rfl, hb⟩ := hrel
    have HB := (show Hid _ from hb)
    clear hb
    obtain rfl | rfl | rfl : i = 0 ∨ i = 1 ∨ i = 2 := by omega
    · have HC := (show Hid _ from HF.out wr HB.out 0)
      rw [HA.out.1]
      go_wp2_with fail
      refine Calls.mono HC.out ?_
      rintro e w2 ⟨rfl, b2⟩
      have HB2 : Hid (Below w.heap.size w w2) := HB.out.trans (b2.mono HB.out.size)
      clear b2 HC
      go_wp2
      go_roundw
      case rel => exact ⟨1, by omega, rfl, by rw [HA.out.2.1], HB2.out⟩
      case measure => simp [intOf]
    · have HC := (show Hid _ from HF.out wr HB.out 1)
      rw [HA.out.2.1]
      generalize sumG (flyP 0) L L.length = s0 at *
      generalize sumG (flyP 1) L L.length = s1 at *
      go_wp2_with fail
      refine Calls.mono HC.out ?_
      rintro e w2 ⟨rfl, b2⟩
      have HB2 : Hid (Below w.heap.size w w2) := HB.out.trans (b2.mono HB.out.size)
      clear b2 HC
      go_wp2
      go_roundw
      case rel => exact ⟨2, by omega, rfl, by rw [HA.out.2.2]; go_num, HB2.out⟩
      case measure => simp [intOf]
    · go_wp2
      go_ret
      exact ⟨rfl, HB.out⟩
end
end Go.Proofs.Ytconfmjgoipejaa
