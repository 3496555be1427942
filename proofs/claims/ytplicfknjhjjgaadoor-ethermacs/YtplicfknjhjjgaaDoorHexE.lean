/- What octet.Hex answers. -/
import Derived.Test.YtplicfknjhjjgaaDoorBytes
import Derived.Test.YtplicfknjhjjgaaDoorStr
import Derived.Test.YtplicfknjhjjgaaDoorRoom
import Derived.Deep.RegionLaw
namespace Go.Proofs.YtplicfknjhjjgaaDoor
open Go.RowKit
def hexd (q : Nat) : Nat := if q < 10 then 48 + q else 87 + q
theorem idx_0 (w : World) : (Instr.index 9 (.string ⟨#[48, 49, 50, 51, 52, 53, 54, 55, 56, 57, 97, 98, 99, 100, 101, 102]⟩) (.int .u8 0)).run Tryd.prog w = .ok (.int .u8 48) w := by kernel_rfl
theorem idx_1 (w : World) : (Instr.index 9 (.string ⟨#[48, 49, 50, 51, 52, 53, 54, 55, 56, 57, 97, 98, 99, 100, 101, 102]⟩) (.int .u8 1)).run Tryd.prog w = .ok (.int .u8 49) w := by kernel_rfl
theorem idx_2 (w : World) : (Instr.index 9 (.string ⟨#[48, 49, 50, 51, 52, 53, 54, 55, 56, 57, 97, 98, 99, 100, 101, 102]⟩) (.int .u8 2)).run Tryd.prog w = .ok (.int .u8 50) w := by kernel_rfl
theorem idx_3 (w : World) : (Instr.index 9 (.string ⟨#[48, 49, 50, 51, 52, 53, 54, 55, 56, 57, 97, 98, 99, 100, 101, 102]⟩) (.int .u8 3)).run Tryd.prog w = .ok (.int .u8 51) w := by kernel_rfl
theorem idx_4 (w : World) : (Instr.index 9 (.string ⟨#[48, 49, 50, 51, 52, 53, 54, 55, 56, 57, 97, 98, 99, 100, 101, 102]⟩) (.int .u8 4)).run Tryd.prog w = .ok (.int .u8 52) w := by kernel_rfl
theorem idx_5 (w : World) : (Instr.index 9 (.string ⟨#[48, 49, 50, 51, 52, 53, 54, 55, 56, 57, 97, 98, 99, 100, 101, 102]⟩) (.int .u8 5)).run Tryd.prog w = .ok (.int .u8 53) w := by kernel_rfl
theorem idx_6 (w : World) : (Instr.index 9 (.string ⟨#[48, 49, 50, 51, 52, 53, 54, 55, 56, 57, 97, 98, 99, 100, 101, 102]⟩) (.int .u8 6)).run Tryd.prog w = .ok (.int .u8 54) w := by kernel_rfl
theorem idx_7 (w : World) : (Instr.index 9 (.string ⟨#[48, 49, 50, 51, 52, 53, 54, 55, 56, 57, 97, 98, 99, 100, 101, 102]⟩) (.int .u8 7)).run Tryd.prog w = .ok (.int .u8 55) w := by kernel_rfl
theorem idx_8 (w : World) : (Instr.index 9 (.string ⟨#[48, 49, 50, 51, 52, 53, 54, 55, 56, 57, 97, 98, 99, 100, 101, 102]⟩) (.int .u8 8)).run Tryd.prog w = .ok (.int .u8 56) w := by kernel_rfl
theorem idx_9 (w : World) : (Instr.index 9 (.string ⟨#[48, 49, 50, 51, 52, 53, 54, 55, 56, 57, 97, 98, 99, 100, 101, 102]⟩) (.int .u8 9)).run Tryd.prog w = .ok (.int .u8 57) w := by kernel_rfl
theorem idx_10 (w : World) : (Instr.index 9 (.string ⟨#[48, 49, 50, 51, 52, 53, 54, 55, 56, 57, 97, 98, 99, 100, 101, 102]⟩) (.int .u8 10)).run Tryd.prog w = .ok (.int .u8 97) w := by kernel_rfl
theorem idx_11 (w : World) : (Instr.index 9 (.string ⟨#[48, 49, 50, 51, 52, 53, 54, 55, 56, 57, 97, 98, 99, 100, 101, 102]⟩) (.int .u8 11)).run Tryd.prog w = .ok (.int .u8 98) w := by kernel_rfl
theorem idx_12 (w : World) : (Instr.index 9 (.string ⟨#[48, 49, 50, 51, 52, 53, 54, 55, 56, 57, 97, 98, 99, 100, 101, 102]⟩) (.int .u8 12)).run Tryd.prog w = .ok (.int .u8 99) w := by kernel_rfl
theorem idx_13 (w : World) : (Instr.index 9 (.string ⟨#[48, 49, 50, 51, 52, 53, 54, 55, 56, 57, 97, 98, 99, 100, 101, 102]⟩) (.int .u8 13)).run Tryd.prog w = .ok (.int .u8 100) w := by kernel_rfl
theorem idx_14 (w : World) : (Instr.index 9 (.string ⟨#[48, 49, 50, 51, 52, 53, 54, 55, 56, 57, 97, 98, 99, 100, 101, 102]⟩) (.int .u8 14)).run Tryd.prog w = .ok (.int .u8 101) w := by kernel_rfl
theorem idx_15 (w : World) : (Instr.index 9 (.string ⟨#[48, 49, 50, 51, 52, 53, 54, 55, 56, 57, 97, 98, 99, 100, 101, 102]⟩) (.int .u8 15)).run Tryd.prog w = .ok (.int .u8 102) w := by kernel_rfl
theorem idx_hex (q : Nat) (h : q < 16) (w : World) : (Instr.index 9 (.string ⟨#[48, 49, 50, 51, 52, 53, 54, 55, 56, 57, 97, 98, 99, 100, 101, 102]⟩) (.int .u8 (q : Nat))).run Tryd.prog w = .ok (.int .u8 (hexd q : Nat)) w := by
  have hq : q = 0 ∨ q = 1 ∨ q = 2 ∨ q = 3 ∨ q = 4 ∨ q = 5 ∨ q = 6 ∨ q = 7 ∨ q = 8 ∨ q = 9 ∨ q = 10 ∨ q = 11 ∨ q = 12 ∨ q = 13 ∨ q = 14 ∨ q = 15 := by omega
  rcases hq with h | h | h | h | h | h | h | h | h | h | h | h | h | h | h | h
  · rw [h]; exact idx_0 w
  · rw [h]; exact idx_1 w
  · rw [h]; exact idx_2 w
  · rw [h]; exact idx_3 w
  · rw [h]; exact idx_4 w
  · rw [h]; exact idx_5 w
  · rw [h]; exact idx_6 w
  · rw [h]; exact idx_7 w
  · rw [h]; exact idx_8 w
  · rw [h]; exact idx_9 w
  · rw [h]; exact idx_10 w
  · rw [h]; exact idx_11 w
  · rw [h]; exact idx_12 w
  · rw [h]; exact idx_13 w
  · rw [h]; exact idx_14 w
  · rw [h]; exact idx_15 w
theorem hexd_lt (q : Nat) (h : q < 16) : hexd q < 256 := by unfold hexd; split <;> omega
def hexL (zs : List Nat) : List Nat := zs.flatMap fun x => [hexd (x / 16), hexd (x % 16)]
theorem hexL_snoc (zs : List Nat) (x : Nat) : hexL (zs ++ [x]) = hexL zs ++ [hexd (x / 16), hexd (x % 16)] := by simp [hexL]
theorem hexL_len (zs : List Nat) : (hexL zs).length = 2 * zs.length := by
  induction zs with
  | nil => rfl
  | cons x zs ih => simp [hexL] at *; omega
theorem mkc (c : Nat) (hc : c ≤ 281474976710656) (w : World) : (Instr.makeSlice 30 (.int .i64 0) (.int .i64 (c : Int))).run Tryd.prog w = .ok (.slice (some ⟨w.heap.size, 0, none⟩) 0 c) (w.alloc (.cells (madeCells #[.int .u8 0] c) 5)) := by
  obtain ⟨i, hi, hz0, hz1, hz2⟩ := info_parts own_info
  have := run_make (P := Tryd.prog) w 30 5 i (.int .u8 0) Tryd.underlying30 hi hz0 .i64 .i64 0 (c : Int) (by omega) (by omega) (by rw [hz2]; omega) (by omega)
  rw [hz1, show (Value.int .u8 0).cells = #[.int .u8 0] from rfl] at this
  simpa using this
theorem own_made2 (w : World) (c : Nat) (hc : c ≤ 281474976710656) : OwnB (w.alloc (.cells (madeCells #[.int .u8 0] c) 5)) w.heap.size (some ⟨w.heap.size, 0, none⟩) 0 c [] :=
  ⟨rfl, World.ownsRow_made w _ c (Nat.le_refl _) (by unfold maxLen; omega) (by rw [size_madeCells]; omega), fun i => by simp⟩
set_option maxHeartbeats 2000000 in
theorem hex_any (a : Option Addr) (n c : Nat) (zs : List Nat) (w : World) (hs : Sl w a n c zs) (hn : n ≤ 140737488351232) :
    Calls Tryd.prog 10 #[.slice a n c] w fun e w' => e = .returned (.string (strOf (hexL zs))) ∧ Below w.heap.size w w' := by
  obtain ⟨hl, hcap, hroom, hsm, _, hb, hat⟩ := hs
  have hmk : ∀ w, (Instr.makeSlice 30 (.int .i64 0) (.int .i64 (2 * (n : Int)))).run Tryd.prog w = .ok (.slice (some ⟨w.heap.size, 0, none⟩) 0 (2 * n)) (w.alloc (.cells (madeCells #[.int .u8 0] (2 * n)) 5)) := by
    intro w
    rw [show (2 * (n : Int)) = ((2 * n : Nat) : Int) from by omega]
    exact mkc (2 * n) (by omega) w
  have hom := own_made2 w (2 * n) (by omega)
  go_enter Tryd.func10, Tryd.ntmps10
  go_wp2
  go_loopw [3, 12] (fun vo i wr => ∃ (j : Nat), j ≤ n ∧ i = .int .i64 j ∧ vo = .slice (some ⟨w.heap.size, 0, none⟩) (2 * j) (2 * n) ∧ OwnB wr w.heap.size (some ⟨w.heap.size, 0, none⟩) (2 * j) (2 * n) (hexL (zs.take j)) ∧ Below w.heap.size w wr) (fun _ i _ => n - (intOf i).toNat)
  case atStart => exact ⟨0, by omega, rfl, rfl, hom, (Below.refl _ _).alloc (Nat.le_refl _) _⟩
  case round =>
    obtain ⟨j, hj, rfl, rfl, hown, hbel⟩ := hrel
    clear hmk hom
    by_cases hjn : j < n
    · rcases hat with h0 | ⟨b, off, rfl, hlt, hcell⟩
      · omega
      have hc := hcell j hjn
      rw [← hbel.cell (p := ⟨b, off + j, none⟩) hlt] at hc
      have hx := hb j
      have HA : Hid (hexL (zs.take (j + 1)) = hexL (zs.take j) ++ [hexd (zs.getD j 0 / 16), hexd (zs.getD j 0 % 16)]) := by show _ = _; rw [take_snocN zs j (by omega), hexL_snoc]
      generalize zs.getD j 0 = x at *
      generalize hexL (zs.take j) = out at *
      have hi1 : ∀ w, (Instr.index 9 (.string ⟨#[48, 49, 50, 51, 52, 53, 54, 55, 56, 57, 97, 98, 99, 100, 101, 102]⟩) (.int .u8 ((x : Int) / 16))).run Tryd.prog w = .ok (.int .u8 (hexd (x / 16) : Nat)) w := by
        intro w
        rw [show ((x : Int) / 16) = ((x / 16 : Nat) : Int) from by omega]
        exact idx_hex (x / 16) (by omega) w
      have hand : bits .and .u8 (x : Int) 15 = ((x % 16 : Nat) : Int) := by
        have := u8_and_nat x 15 hx (by omega)
        rw [nat_mask4] at this
        exact this
      have hi2 : ∀ w, (Instr.index 9 (.string ⟨#[48, 49, 50, 51, 52, 53, 54, 55, 56, 57, 97, 98, 99, 100, 101, 102]⟩) (.int .u8 ((x : Int) % 16))).run Tryd.prog w = .ok (.int .u8 (hexd (x % 16) : Nat)) w := by
        intro w
        rw [show ((x : Int) % 16) = ((x % 16 : Nat) : Int) from by omega]
        exact idx_hex (x % 16) (by omega) w
      have hd1 := hexd_lt (x / 16) (by omega)
      have hd2 := hexd_lt (x % 16) (by omega)
      have hsz := hbel.size
      have hown1 : OwnB wr.drew w.heap.size (some ⟨w.heap.size, 0, none⟩) (2 * j) (2 * n) out := hown.below (Below.refl _ _).drew
      clear hcell hb
      generalize hexd (x / 16) = d1 at *
      generalize hexd (x % 16) = d2 at *
      go_wp2_with fail
      go_region_law (refine room_step rfl _ _ rfl w.heap.size w.heap.size (2 * j) (2 * n) out (by simp [Act.eval]) (hown1.alloc _) _ 2 2 [d1, d2] (by simp [Act.eval]) (sl_two wr.drew 5 _ _ _ _ rfl rfl hd1 hd2) (by omega) ?_; intro w2 ho2 hg2)
      all_goals
        have hb2 : Below w.heap.size w w2 := ((hbel.alloc hsz _).drew).trans ((Below.refl _ _).grown hg2 (by simp; omega) (fun k hk => by injection hk; omega))
        clear hg2
        go_wp2
        go_roundw
        case rel => exact ⟨j + 1, by omega, by go_num, rfl, by rw [HA.out]; exact ho2, hb2⟩
        case measure => simp [intOf]; omega
    · obtain rfl : j = n := by omega
      have HT : Hid (zs.take j = zs) := by show _ = _; rw [← hl]; exact List.take_length
      rw [HT.out] at hown
      have hcv := conv_str (hown.sl (by omega))
      clear hown
      go_wp2
      go_ret
      exact ⟨rfl, hbel⟩
end Go.Proofs.YtplicfknjhjjgaaDoor
