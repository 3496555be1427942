/- What the reference's Hex answers: the same. -/
import Derived.Test.YtplicfknjhjjgaaDoorHexE
import Derived.Deep.RegionHeld3
namespace Go.Proofs.YtplicfknjhjjgaaDoor
open Go.RowKit
/-- A text of one digit. -/
def oneD (q : Nat) : ByteArray := ⟨#[UInt8.ofNat (hexd q)]⟩
theorem sub_0 (w : World) : (Instr.slice 9 (.string ⟨#[48, 49, 50, 51, 52, 53, 54, 55, 56, 57, 97, 98, 99, 100, 101, 102]⟩) (some (.int .u8 0)) (some (.int .u8 1)) none).run Tryd.prog w = .ok (.string (oneD 0)) w := by kernel_rfl
theorem sub_1 (w : World) : (Instr.slice 9 (.string ⟨#[48, 49, 50, 51, 52, 53, 54, 55, 56, 57, 97, 98, 99, 100, 101, 102]⟩) (some (.int .u8 1)) (some (.int .u8 2)) none).run Tryd.prog w = .ok (.string (oneD 1)) w := by kernel_rfl
theorem sub_2 (w : World) : (Instr.slice 9 (.string ⟨#[48, 49, 50, 51, 52, 53, 54, 55, 56, 57, 97, 98, 99, 100, 101, 102]⟩) (some (.int .u8 2)) (some (.int .u8 3)) none).run Tryd.prog w = .ok (.string (oneD 2)) w := by kernel_rfl
theorem sub_3 (w : World) : (Instr.slice 9 (.string ⟨#[48, 49, 50, 51, 52, 53, 54, 55, 56, 57, 97, 98, 99, 100, 101, 102]⟩) (some (.int .u8 3)) (some (.int .u8 4)) none).run Tryd.prog w = .ok (.string (oneD 3)) w := by kernel_rfl
theorem sub_4 (w : World) : (Instr.slice 9 (.string ⟨#[48, 49, 50, 51, 52, 53, 54, 55, 56, 57, 97, 98, 99, 100, 101, 102]⟩) (some (.int .u8 4)) (some (.int .u8 5)) none).run Tryd.prog w = .ok (.string (oneD 4)) w := by kernel_rfl
theorem sub_5 (w : World) : (Instr.slice 9 (.string ⟨#[48, 49, 50, 51, 52, 53, 54, 55, 56, 57, 97, 98, 99, 100, 101, 102]⟩) (some (.int .u8 5)) (some (.int .u8 6)) none).run Tryd.prog w = .ok (.string (oneD 5)) w := by kernel_rfl
theorem sub_6 (w : World) : (Instr.slice 9 (.string ⟨#[48, 49, 50, 51, 52, 53, 54, 55, 56, 57, 97, 98, 99, 100, 101, 102]⟩) (some (.int .u8 6)) (some (.int .u8 7)) none).run Tryd.prog w = .ok (.string (oneD 6)) w := by kernel_rfl
theorem sub_7 (w : World) : (Instr.slice 9 (.string ⟨#[48, 49, 50, 51, 52, 53, 54, 55, 56, 57, 97, 98, 99, 100, 101, 102]⟩) (some (.int .u8 7)) (some (.int .u8 8)) none).run Tryd.prog w = .ok (.string (oneD 7)) w := by kernel_rfl
theorem sub_8 (w : World) : (Instr.slice 9 (.string ⟨#[48, 49, 50, 51, 52, 53, 54, 55, 56, 57, 97, 98, 99, 100, 101, 102]⟩) (some (.int .u8 8)) (some (.int .u8 9)) none).run Tryd.prog w = .ok (.string (oneD 8)) w := by kernel_rfl
theorem sub_9 (w : World) : (Instr.slice 9 (.string ⟨#[48, 49, 50, 51, 52, 53, 54, 55, 56, 57, 97, 98, 99, 100, 101, 102]⟩) (some (.int .u8 9)) (some (.int .u8 10)) none).run Tryd.prog w = .ok (.string (oneD 9)) w := by kernel_rfl
theorem sub_10 (w : World) : (Instr.slice 9 (.string ⟨#[48, 49, 50, 51, 52, 53, 54, 55, 56, 57, 97, 98, 99, 100, 101, 102]⟩) (some (.int .u8 10)) (some (.int .u8 11)) none).run Tryd.prog w = .ok (.string (oneD 10)) w := by kernel_rfl
theorem sub_11 (w : World) : (Instr.slice 9 (.string ⟨#[48, 49, 50, 51, 52, 53, 54, 55, 56, 57, 97, 98, 99, 100, 101, 102]⟩) (some (.int .u8 11)) (some (.int .u8 12)) none).run Tryd.prog w = .ok (.string (oneD 11)) w := by kernel_rfl
theorem sub_12 (w : World) : (Instr.slice 9 (.string ⟨#[48, 49, 50, 51, 52, 53, 54, 55, 56, 57, 97, 98, 99, 100, 101, 102]⟩) (some (.int .u8 12)) (some (.int .u8 13)) none).run Tryd.prog w = .ok (.string (oneD 12)) w := by kernel_rfl
theorem sub_13 (w : World) : (Instr.slice 9 (.string ⟨#[48, 49, 50, 51, 52, 53, 54, 55, 56, 57, 97, 98, 99, 100, 101, 102]⟩) (some (.int .u8 13)) (some (.int .u8 14)) none).run Tryd.prog w = .ok (.string (oneD 13)) w := by kernel_rfl
theorem sub_14 (w : World) : (Instr.slice 9 (.string ⟨#[48, 49, 50, 51, 52, 53, 54, 55, 56, 57, 97, 98, 99, 100, 101, 102]⟩) (some (.int .u8 14)) (some (.int .u8 15)) none).run Tryd.prog w = .ok (.string (oneD 14)) w := by kernel_rfl
theorem sub_15 (w : World) : (Instr.slice 9 (.string ⟨#[48, 49, 50, 51, 52, 53, 54, 55, 56, 57, 97, 98, 99, 100, 101, 102]⟩) (some (.int .u8 15)) (some (.int .u8 16)) none).run Tryd.prog w = .ok (.string (oneD 15)) w := by kernel_rfl
theorem sub_hex (q : Nat) (h : q < 16) (w : World) : (Instr.slice 9 (.string ⟨#[48, 49, 50, 51, 52, 53, 54, 55, 56, 57, 97, 98, 99, 100, 101, 102]⟩) (some (.int .u8 (q : Nat))) (some (.int .u8 ((q + 1 : Nat) : Int))) none).run Tryd.prog w = .ok (.string (oneD q)) w := by
  have hq : q = 0 ∨ q = 1 ∨ q = 2 ∨ q = 3 ∨ q = 4 ∨ q = 5 ∨ q = 6 ∨ q = 7 ∨ q = 8 ∨ q = 9 ∨ q = 10 ∨ q = 11 ∨ q = 12 ∨ q = 13 ∨ q = 14 ∨ q = 15 := by omega
  rcases hq with h | h | h | h | h | h | h | h | h | h | h | h | h | h | h | h
  · rw [h]; exact sub_0 w
  · rw [h]; exact sub_1 w
  · rw [h]; exact sub_2 w
  · rw [h]; exact sub_3 w
  · rw [h]; exact sub_4 w
  · rw [h]; exact sub_5 w
  · rw [h]; exact sub_6 w
  · rw [h]; exact sub_7 w
  · rw [h]; exact sub_8 w
  · rw [h]; exact sub_9 w
  · rw [h]; exact sub_10 w
  · rw [h]; exact sub_11 w
  · rw [h]; exact sub_12 w
  · rw [h]; exact sub_13 w
  · rw [h]; exact sub_14 w
  · rw [h]; exact sub_15 w
theorem strOf_size (zs : List Nat) : (strOf zs).size = zs.length := by
  show (zs.map UInt8.ofNat).toArray.size = _
  simp
theorem strOf_two (zs : List Nat) (p q : Nat) : strOf zs ++ oneD p ++ oneD q = strOf (zs ++ [hexd p, hexd q]) := by
  unfold strOf oneD
  apply ByteArray.ext
  simp
set_option maxHeartbeats 1000000 in
theorem refhex_any (a : Option Addr) (n c : Nat) (zs : List Nat) (w : World) (hs : Sl w a n c zs) (hn : n ≤ 140737488351232) :
    Calls Tryd.prog 13 #[.slice a n c] w fun e w' => e = .returned (.string (strOf (hexL zs))) ∧ Below w.heap.size w w' := by
  obtain ⟨hl, hcap, hroom, hsm, _, hb, hat⟩ := hs
  go_enter Tryd.func13, Tryd.ntmps13
  go_wp2
  go_loopw [3, 4] (fun vo i wr => ∃ (j : Nat), j ≤ n ∧ i = .int .i64 j ∧ vo = .string (strOf (hexL (zs.take j))) ∧ Below w.heap.size w wr) (fun _ i _ => n - (intOf i).toNat)
  case atStart => exact ⟨0, by omega, rfl, rfl, Below.refl _ _⟩
  case round =>
    obtain ⟨j, hj, rfl, rfl, hbel⟩ := hrel
    by_cases hjn : j < n
    · rcases hat with h0 | ⟨b, off, rfl, hlt, hcell⟩
      · omega
      have hc := hcell j hjn
      rw [← hbel.cell (p := ⟨b, off + j, none⟩) hlt] at hc
      have hx := hb j
      have HA : Hid (strOf (hexL (zs.take (j + 1))) = strOf (hexL (zs.take j)) ++ oneD (zs.getD j 0 / 16) ++ oneD (zs.getD j 0 % 16)) := by show _ = _; rw [take_snocN zs j (by omega), hexL_snoc, strOf_two]
      have hz : (strOf (hexL (zs.take j))).size = 2 * j := by rw [strOf_size, hexL_len]; simp; omega
      generalize strOf (hexL (zs.take j)) = S at *
      generalize zs.getD j 0 = x at *
      have hi1 : ∀ w, (Instr.slice 9 (.string ⟨#[48, 49, 50, 51, 52, 53, 54, 55, 56, 57, 97, 98, 99, 100, 101, 102]⟩) (some (.int .u8 ((x : Int) / 16))) (some (.int .u8 ((x : Int) / 16 + 1))) none).run Tryd.prog w = .ok (.string (oneD (x / 16))) w := by
        intro w
        have := sub_hex (x / 16) (by omega) w
        rw [show ((x / 16 : Nat) : Int) = (x : Int) / 16 from by omega, show ((x / 16 + 1 : Nat) : Int) = (x : Int) / 16 + 1 from by omega] at this
        exact this
      have hi2 : ∀ w, (Instr.slice 9 (.string ⟨#[48, 49, 50, 51, 52, 53, 54, 55, 56, 57, 97, 98, 99, 100, 101, 102]⟩) (some (.int .u8 ((x : Int) % 16))) (some (.int .u8 ((x : Int) % 16 + 1))) none).run Tryd.prog w = .ok (.string (oneD (x % 16))) w := by
        intro w
        have := sub_hex (x % 16) (by omega) w
        rw [show ((x % 16 : Nat) : Int) = (x : Int) % 16 from by omega, show ((x % 16 + 1 : Nat) : Int) = (x : Int) % 16 + 1 from by omega] at this
        exact this
      have hz1 : (oneD (x / 16)).size = 1 := rfl
      have hz2 : (oneD (x % 16)).size = 1 := rfl
      have ht1 : Int.tdiv (x : Int) 16 = (x : Int) / 16 := by rw [Int.tdiv_eq_ediv_of_nonneg (by omega)]
      have ht2 : Int.tmod (x : Int) 16 = (x : Int) % 16 := by rw [Int.tmod_eq_emod_of_nonneg (by omega)]
      have hw1 : IntKind.u8.wrap ((x : Int) / 16 + 1) = (x : Int) / 16 + 1 := by rw [IntKind.wrap_u8]; omega
      have hw2 : IntKind.u8.wrap ((x : Int) % 16 + 1) = (x : Int) % 16 + 1 := by rw [IntKind.wrap_u8]; omega
      have hw3 : IntKind.u8.wrap ((x : Int) / 16) = (x : Int) / 16 := by rw [IntKind.wrap_u8]; omega
      have hw4 : IntKind.u8.wrap (Int.tdiv (x : Int) 16) = (x : Int) / 16 := by rw [ht1]; exact hw3
      generalize oneD (x / 16) = p1 at *
      generalize oneD (x % 16) = p2 at *
      have hq1 : ∀ w, (Op.stringOp .add S p1).run Tryd.prog w = .ok (.string (S ++ p1)) w := fun w => run_string_add_sum w S p1 (by omega)
      have hz3 : (S ++ p1).size = 2 * j + 1 := by rw [ByteArray.size_append]; omega
      have hq2 : ∀ w, (Op.stringOp .add (S ++ p1) p2).run Tryd.prog w = .ok (.string (S ++ p1 ++ p2)) w := fun w => run_string_add_sum w (S ++ p1) p2 (by omega)
      have hji : (j : Int) < (n : Int) := by omega
      clear hcell hb hz hz1 hz2 hz3
      go_wp2_with fail
      go_region_held3 (fun w' => w'.cell? ⟨b, off + j, none⟩ = some (.int .u8 (x : Nat))) (go_keep) (fail)
      all_goals
        go_wp2
        go_roundw
        case rel => exact ⟨j + 1, by omega, by go_num, by rw [HA.out], hbel.drew⟩
        case measure => simp [intOf]; omega
    · obtain rfl : j = n := by omega
      have HT : Hid (zs.take j = zs) := by show _ = _; rw [← hl]; exact List.take_length
      rw [HT.out]
      go_wp2
      go_ret
      exact ⟨rfl, hbel⟩
end Go.Proofs.YtplicfknjhjjgaaDoor
