/- What live of layer 4's statements answers: true. -/
import Derived.Test.YtlgpabdadnfbeaaGapLive
namespace Go.Proofs.Ytlgpabdadnfbeaa
open Go.RowKit
def T0 : Nat → Bool := fun _ => false
def T1 : Nat → Bool := addS 9 T0 10
def T2 : Nat → Bool := addS 10 T1 12
def T3 : Nat → Bool := addS 10 T2 12
theorem t_c0 : addV 4294967296 10 (-1) = 9 := by decide +kernel
theorem t_e1 : addE 9 T0 10 = 0 ∧ addC 9 T0 10 = 10 ∧ addD 9 T0 [] 10 = [] := by decide +kernel
theorem t_e2 : addE 10 T1 12 = 0 ∧ addC 10 T1 12 = 10 ∧ addD 10 T1 [] 12 = [] := by decide +kernel
theorem t_e3 : addE 10 T2 12 = 17 ∧ addC 10 T2 12 = 10 ∧ addD 10 T2 [] 12 = [12] := by decide +kernel
theorem t_top : addV 4294967296 10 (lastS (farTo T3 256) : Nat) = 12 := by decide +kernel
theorem t_blk : (blkP (farTo T3 256)).take 16 = [(2, 2)] := by decide +kernel
theorem ownQ_one (w : World) (x y B : Nat) (hx : x < 65536) (hy : y < 65536) (hB : w.heap.size = B) : OwnQ (w.alloc (.cells #[.int .u16 (x : Nat), .int .u16 (y : Nat)] 33)) B (some ⟨B, 0, none⟩) 1 1 [(x, y)] := by
  subst hB
  refine ⟨rfl, ⟨rfl, .inr ⟨w.heap.size, 1, #[.int .u16 (x : Nat), .int .u16 (y : Nat)], rfl, Nat.le_refl _, ?_, Nat.le_refl _, by unfold maxLen; omega, rfl, rfl⟩⟩, fun q hq => by simp at hq; subst hq; exact ⟨hx, hy⟩⟩
  show (w.heap.push _)[w.heap.size]? = _
  simp
theorem Fr.belowT {w a b : World} {p cum : Nat} {db : Option Nat} {S : Nat → Bool} {ds : List Nat} (hT : Trk a w.heap.size p db cum S ds) (hF : Fr (ownT p db) a b) (hB : Below w.heap.size w a) : Below w.heap.size w b :=
  hB.trans (hF.below w.heap.size hB.size hT.own_ge)
set_option maxHeartbeats 2000000 in
theorem live4_any (w : World) : Calls Try.prog 10 #[] w fun e w' => e = .returned (.bool true) ∧ Below w.heap.size w w' := by
  go_enter Try.func10, Try.ntmps10
  go_wp2_with fail
  refine (new_any 10 _ (by omega)).mono ?_
  rintro e w1 ⟨p, rfl, hT1, hb1⟩
  rw [t_c0] at hT1
  go_wp2_with fail
  refine (tadd_any _ p none 9 T0 [] 10 _ hT1 (by omega)).mono ?_
  rintro e w2 ⟨rfl, db2, hT2, hF2, _⟩
  have hb2 := Fr.belowT hT1 hF2 hb1
  rw [t_e1.1]
  rw [t_e1.2.1, t_e1.2.2] at hT2
  change Trk w2 w.heap.size p db2 10 T1 [] at hT2
  clear hT1 hF2 hb1
  go_wp2_with fail
  refine (tadd_any _ p db2 10 T1 [] 12 _ hT2 (by omega)).mono ?_
  rintro e w3 ⟨rfl, db3, hT3, hF3, _⟩
  have hb3 := Fr.belowT hT2 hF3 hb2
  rw [t_e2.1]
  rw [t_e2.2.1, t_e2.2.2] at hT3
  change Trk w3 w.heap.size p db3 10 T2 [] at hT3
  clear hT2 hF3 hb2
  go_wp2_with fail
  refine (tadd_any _ p db3 10 T2 [] 12 _ hT3 (by omega)).mono ?_
  rintro e w4 ⟨rfl, db4, hT4, hF4, _⟩
  have hb4 := Fr.belowT hT3 hF4 hb3
  rw [t_e3.1]
  rw [t_e3.2.1, t_e3.2.2] at hT4
  change Trk w4 w.heap.size p db4 10 T3 [12] at hT4
  clear hT3 hF4 hb3
  go_wp2_with fail
  refine (cum_any p 10 _ hT4.c0).mono ?_
  rintro e w' ⟨rfl, hw'⟩
  subst w'
  go_wp2_with fail
  refine (top_any _ p db4 10 T3 [12] _ hT4).mono ?_
  rintro e w5 ⟨rfl, hb5⟩
  rw [t_top]
  have hT5 := hT4.below hb5
  have hbl5 : Below w.heap.size w w5 := hb4.trans (hb5.mono hb4.size)
  clear hT4 hb4 hb5
  go_wp2_with fail
  refine (callsIn_wide.1 (blocks_in _ p db4 10 T3 [12] _ hT5)).mono ?_
  rintro e w6 ⟨a6, c6, rfl, hq6, hb6⟩
  rw [t_blk] at hq6
  rw [t_blk]
  have hT6 := hT5.below hb6
  have hbl6 : Below w.heap.size w w6 := hbl5.trans (hb6.mono hbl5.size)
  have hl1 : ([(2, 2)] : List (Nat × Nat)).length = 1 := rfl
  rw [hl1] at hq6
  rw [hl1]
  clear hT5 hbl5 hb6
  go_wp2_with fail
  refine (sameb_any _ _ _ _ _ _ _ _ _ _ _ (hq6.alloc _) (ownQ_one w6 2 2 _ (by omega) (by omega) rfl) (by omega) (by omega)).mono ?_
  rintro e w7 ⟨rfl, q, hw7⟩
  rw [sameQ_refl]
  have hb67 : Below w6.heap.size w6 w7 := by rw [hw7]; exact ((Below.refl _ _).alloc (Nat.le_refl _) _).trans ((drewN_belowG _ q).mono (by simp))
  have hT7 := hT6.below hb67
  have hbl7 : Below w.heap.size w w7 := hbl6.trans (hb67.mono hbl6.size)
  clear hT6 hbl6 hb67 hw7 hq6
  go_wp2_with fail
  refine (tdups_any _ p db4 10 T3 [12] _ hT7).mono ?_
  rintro e w8 ⟨a8, c8, rfl, ho8, _, _, hT8, hF8⟩
  have hbl8 : Below w.heap.size w w8 := hbl7.trans (hF8.below w.heap.size hbl7.size (fun k hk => by rw [hk]; exact hT7.base))
  have hs8 := ho8.sl (by simp)
  have hl8 : ([12] : List Nat).length = 1 := rfl
  rw [hl8] at hs8
  rw [hl8]
  clear hT7 hT8 hbl7 hF8 ho8
  go_wp2_with fail
  refine (same_any _ _ _ _ _ _ _ _ _ (hs8.alloc _) (u32_oneB w8 22 12 (by omega) _ rfl)).mono ?_
  rintro e w9 ⟨rfl, q9, hw9⟩
  rw [sameB_refl]
  have hbl9 : Below w.heap.size w w9 := by
    rw [hw9]
    exact (hbl8.alloc hbl8.size _).trans ((drewN_belowG _ q9).mono (by have := hbl8.size; simp; omega))
  clear hbl8 hs8 hw9
  go_wp2
  go_ret
  exact ⟨rfl, hbl9⟩
end Go.Proofs.Ytlgpabdadnfbeaa
