/- The walk of trunklinelaw04.GapsAnyOrder: it answers true. -/
import Derived.Test.YtpnfghchllipnabGapY
namespace Go.Proofs.Ytpnfghchllipnab
open Go.RowKit
set_option maxRecDepth 100000 in
set_option maxHeartbeats 2000000 in
theorem walk_GapsAnyOrder (f : Nat) (a : Option Addr) (n c : Nat) (zs : List Nat) (turn : Nat) (w : World) (hf : f < 4294967296) (hs0 : SlK .u8 256 w a n c zs ∧ c * 1 ≤ 140737488351232) (ht : turn < 256) :
    Calls Try.prog 7 #[.int .u32 f, .slice a n c, .int .u8 turn] w fun e w' => e = .returned (.bool true) ∧ Below w.heap.size w w' := by
  obtain ⟨hs, hcb⟩ := hs0
  have hl := hs.len
  have hcap := hs.cap
  by_cases hle : n ≤ 100
  · have hle' : (n : Int) ≤ 100 := by omega
    go_enter Try.func7, Try.ntmps7
    go_wp2_with fail
    refine (new_any f _ hf).mono ?_
    rintro e w1 ⟨px, rfl, hX1, hb1⟩
    go_wp2_with fail
    refine (new_any f _ hf).mono ?_
    rintro e w2 ⟨py, rfl, hY2, hb2⟩
    have hX2 := hX1.below hb2
    have hY2' := hY2.rebase hb1.size
    have hbel2 : Below w.heap.size w w2 := hb1.trans (hb2.mono hb1.size)
    have htwo : Two px none py none := by
      rintro k (rfl | hk) (h2 | h2)
      · have := hX1.lt; have := hY2.base; omega
      · cases h2
      · cases hk
      · cases h2
    have HC0 : Hid (Rep f (setL []) 0 (addV 4294967296 f (-1)) (fun _ => false)) := by show Rep _ _ _ _ _; rw [setL_nil]; exact Rep.start f
    generalize addV 4294967296 f (-1) = c0 at *
    clear hX1 hY2 hb1 hb2
    go_wp2
    go_loopw [10] (fun iv wr => ∃ i : Nat, i ≤ n ∧ iv = .int .i64 i ∧ ∃ dbx cx Sx dx kx dby cy Sy dy ky, Trk wr w.heap.size px dbx cx Sx dx ∧ Trk wr w.heap.size py dby cy Sy dy ∧ Rep f (setL (zs.take i)) kx cx Sx ∧ Rep f (setL (backL zs n turn i)) ky cy Sy ∧ Two px dbx py dby ∧ Below w.heap.size w wr) (fun iv _ => n - (intOf iv).toNat)
    case atStart => exact ⟨0, by omega, rfl, none, c0, _, [], 0, none, c0, _, [], 0, hX2, hY2', HC0.out, HC0.out, htwo, hbel2⟩
    case round =>
      obtain ⟨i, hi, rfl, dbx, cx, Sx, dx, kx, dby, cy, Sy, dy, ky, hX, hY, hRx, hRy, htw, hbel⟩ := hrel
      clear hX2 hY2' hbel2 htwo HC0
      by_cases hiN : i < n
      · rcases hs.at_ with h0 | ⟨g, off, rfl, hlt, hcell⟩
        · omega
        have hN0 : 0 < n := by omega
        have hjlt : (n - 1 - i + turn) % n < n := Nat.mod_lt _ hN0
        obtain ⟨j, hj⟩ : ∃ j, j = (n - 1 - i + turn) % n := ⟨_, rfl⟩
        have hc1 := (hbel.cell (p := ⟨g, off + i, none⟩) hlt).trans (hcell i (by omega))
        have hz1 := hs.bnd i
        have hz2 := hs.bnd j
        have HT : Hid (setL (zs.take (i + 1)) = addA (setL (zs.take i)) (zs.getD i 0)) := by
          show _ = _
          rw [take_snocN zs i (by omega), setL_snoc]
        have HB : Hid (setL (backL zs n turn (i + 1)) = addA (setL (backL zs n turn i)) (zs.getD j 0)) := by
          show _ = _
          rw [backL_succ, setL_snoc, hj]
        have hcj := hcell j (by omega)
        have htm : Int.tmod ((n : Int) - 1 - i + turn) n = (j : Int) := by
          rw [Int.tmod_eq_emod_of_nonneg (by omega), hj]
          rw [show (n : Int) - 1 - i + turn = ((n - 1 - i + turn : Nat) : Int) from by omega]
          norm_cast
        rw [← hj] at hjlt
        clear hj hcell
        generalize zs.getD i 0 = x at *
        generalize zs.getD j 0 = y at *
        have ax := tadd_any w.heap.size px dbx cx Sx dx ((f + x) % 4294967296) wr hX (Nat.mod_lt _ (by omega))
        have ay := fun W (hT : Trk W w.heap.size py dby cy Sy dy) => tadd_any w.heap.size py dby cy Sy dy ((f + y) % 4294967296) W hT (Nat.mod_lt _ (by omega))
        rw [show (((f + x) % 4294967296 : Nat) : Int) = ((f : Int) + x) % 4294967296 from by omega] at ax
        rw [show (((f + y) % 4294967296 : Nat) : Int) = ((f : Int) + y) % 4294967296 from by omega] at ay
        obtain ⟨kx', hRx'⟩ := hRx.add hf x hz1
        obtain ⟨ky', hRy'⟩ := hRy.add hf y hz2
        have hi1 : (i : Int) < (n : Int) := by omega
        have hj1 : (j : Int) < (n : Int) := by omega
        have hi2 : (i : Int) < (n : Int) := by omega
        have hN0' : ((n : Int) == 0) = false := beq_eq_false_iff_ne.2 (by omega)
        skip
        go_wp2_with fail
        refine ax.mono ?_
        rintro e w3 ⟨rfl, dbx', hX3, hF3, hn3⟩
        have hY3 := hY.fr hF3 (fun k hk h2 => htw k h2 hk)
        have hb3 := Fr.belowT hX hF3 hbel
        have hc3 : w3.cell? ⟨g, off + j, none⟩ = some (.int .u8 (y : Nat)) := (hb3.cell (p := ⟨g, off + j, none⟩) hlt).trans hcj
        have htw3 := htw.next hY hn3
        clear ax hX hF3 hbel hc1 hcj
        go_wp2_with fail
        refine (ay _ hY3).mono ?_
        rintro e w4 ⟨rfl, dby', hY4, hF4, hn4⟩
        have hX4 := hX3.fr hF4 (fun k hk h2 => htw3 k hk h2)
        have hb4 := Fr.belowT hY3 hF4 hb3
        have htw4 := (htw3.symm.next hX3 hn4).symm
        clear ay hY3 hY hF4 hb3 hc3 hX3
        go_wp2
        go_roundw
        case rel => exact ⟨i + 1, by omega, by go_num, dbx', _, _, _, kx', dby', _, _, _, ky', hX4, hY4, by rw [HT.out]; exact hRx', by rw [HB.out]; exact hRy', htw4, hb4⟩
        case measure => simp [intOf]; omega
      · obtain rfl : i = n := by omega
        have HEQ : Hid (cx = cy ∧ Sx = Sy) := by
          by_cases h0 : i = 0
          · subst h0
            exact hRx.uniq (by have := hRy; simpa [backL] using this)
          · rw [back_all zs i turn (by omega) (by omega)] at hRx
            exact hRx.uniq hRy
        obtain ⟨rfl, rfl⟩ := HEQ.out
        clear HEQ hRx hRy
        obtain ⟨R, hR⟩ : ∃ R, R = (blkP (farTo Sx 256)).take 16 := ⟨_, rfl⟩
        have hl16 : R.length ≤ 16 := by rw [hR]; simp; omega
        have hbl : ∀ p db d W, Trk W w.heap.size p db cx Sx d → Calls Try.prog 22 #[.pointer (some ⟨p, 0, none⟩)] W fun e w' => ∃ a c, e = .returned (.slice a R.length c) ∧ OwnQ w' W.heap.size a R.length c R ∧ Below W.heap.size W w' := by
          intro p db d W hT
          rw [hR]
          exact callsIn_wide.1 (blocks_in w.heap.size p db cx Sx d W hT)
        clear hR
        go_wp2_with fail
        refine (live4_any _).mono ?_
        rintro e w5 ⟨rfl, hb5⟩
        have hX5 := hX.below hb5
        have hY5 := hY.below hb5
        have hbel5 : Below w.heap.size w w5 := hbel.trans (hb5.mono hbel.size)
        clear hX hY hbel hb5
        go_wp2_with fail
        refine (cum_any px cx _ hX5.c0).mono ?_
        rintro e w' ⟨rfl, hw'⟩
        subst w'
        go_wp2_with fail
        refine (cum_any py cx _ hY5.c0).mono ?_
        rintro e w' ⟨rfl, hw'⟩
        subst w'
        go_wp2_with fail
        refine (top_any _ px dbx cx Sx dx _ hX5).mono ?_
        rintro e w6 ⟨rfl, hb6⟩
        have hX6 := hX5.below hb6
        have hY6 := hY5.below hb6
        have hbel6 : Below w.heap.size w w6 := hbel5.trans (hb6.mono hbel5.size)
        go_wp2_with fail
        refine (top_any _ py dby cx Sx dy _ hY6).mono ?_
        rintro e w7 ⟨rfl, hb7⟩
        have hX7 := hX6.below hb7
        have hY7 := hY6.below hb7
        have hbel7 : Below w.heap.size w w7 := hbel6.trans (hb7.mono hbel6.size)
        clear hX5 hY5 hX6 hY6 hb6 hb7 hbel5 hbel6
        go_wp2_with fail
        refine (hbl px dbx dx _ hX7).mono ?_
        rintro e w8 ⟨a8, c8, rfl, hq8, hb8⟩
        have hY8 := hY7.below hb8
        have hbel8 : Below w.heap.size w w8 := hbel7.trans (hb8.mono hbel7.size)
        go_wp2_with fail
        refine (hbl py dby dy _ hY8).mono ?_
        rintro e w9 ⟨a9, c9, rfl, hq9, hb9⟩
        have hq89 := hq8.below hb9
        have hbel9 : Below w.heap.size w w9 := hbel8.trans (hb9.mono hbel8.size)
        clear hX7 hY7 hY8 hb8 hb9 hbel7 hbel8 hq8
        clear hbl
        go_wp2_with fail
        refine (sameb_any _ _ _ _ _ _ _ _ _ _ _ hq89 hq9 (by omega) (by omega)).mono ?_
        rintro e wA ⟨rfl, q, hwA⟩
        rw [sameQ_refl]
        have hbelA : Below w.heap.size w wA := by rw [hwA]; exact hbel9.trans ((drewN_belowG _ q).mono hbel9.size)
        clear hbel9 hq9 hq89 hwA
        go_wp2
        go_ret
        exact ⟨rfl, hbelA⟩
  · have hle' : ¬ (n : Int) ≤ 100 := by omega
    have hlt' : (100 : Int) < (n : Int) := by omega
    go_enter Try.func7, Try.ntmps7
    go_wp2_with fail
    refine (new_any f _ hf).mono ?_
    rintro e w1 ⟨px, rfl, hX1, hb1⟩
    go_wp2_with fail
    refine (new_any f _ hf).mono ?_
    rintro e w2 ⟨py, rfl, hY2, hb2⟩
    have hX2 := hX1.below hb2
    have hY2' := hY2.rebase hb1.size
    have hbel2 : Below w.heap.size w w2 := hb1.trans (hb2.mono hb1.size)
    have htwo : Two px none py none := by
      rintro k (rfl | hk) (h2 | h2)
      · have := hX1.lt; have := hY2.base; omega
      · cases h2
      · cases hk
      · cases h2
    have HC0 : Hid (Rep f (setL []) 0 (addV 4294967296 f (-1)) (fun _ => false)) := by show Rep _ _ _ _ _; rw [setL_nil]; exact Rep.start f
    generalize addV 4294967296 f (-1) = c0 at *
    clear hX1 hY2 hb1 hb2
    go_wp2
    go_loopw [10] (fun iv wr => ∃ i : Nat, i ≤ 100 ∧ iv = .int .i64 i ∧ ∃ dbx cx Sx dx kx dby cy Sy dy ky, Trk wr w.heap.size px dbx cx Sx dx ∧ Trk wr w.heap.size py dby cy Sy dy ∧ Rep f (setL (zs.take i)) kx cx Sx ∧ Rep f (setL (backL zs 100 turn i)) ky cy Sy ∧ Two px dbx py dby ∧ Below w.heap.size w wr) (fun iv _ => 100 - (intOf iv).toNat)
    case atStart => exact ⟨0, by omega, rfl, none, c0, _, [], 0, none, c0, _, [], 0, hX2, hY2', HC0.out, HC0.out, htwo, hbel2⟩
    case round =>
      obtain ⟨i, hi, rfl, dbx, cx, Sx, dx, kx, dby, cy, Sy, dy, ky, hX, hY, hRx, hRy, htw, hbel⟩ := hrel
      clear hX2 hY2' hbel2 htwo HC0
      by_cases hiN : i < 100
      · rcases hs.at_ with h0 | ⟨g, off, rfl, hlt, hcell⟩
        · omega
        have hN0 : 0 < 100 := by omega
        have hjlt : (100 - 1 - i + turn) % 100 < 100 := Nat.mod_lt _ hN0
        obtain ⟨j, hj⟩ : ∃ j, j = (100 - 1 - i + turn) % 100 := ⟨_, rfl⟩
        have hc1 := (hbel.cell (p := ⟨g, off + i, none⟩) hlt).trans (hcell i (by omega))
        have hz1 := hs.bnd i
        have hz2 := hs.bnd j
        have HT : Hid (setL (zs.take (i + 1)) = addA (setL (zs.take i)) (zs.getD i 0)) := by
          show _ = _
          rw [take_snocN zs i (by omega), setL_snoc]
        have HB : Hid (setL (backL zs 100 turn (i + 1)) = addA (setL (backL zs 100 turn i)) (zs.getD j 0)) := by
          show _ = _
          rw [backL_succ, setL_snoc, hj]
        have hcj := hcell j (by omega)
        have htm : Int.tmod ((100 : Int) - 1 - i + turn) 100 = (j : Int) := by
          rw [Int.tmod_eq_emod_of_nonneg (by omega), hj]
          rw [show (100 : Int) - 1 - i + turn = ((100 - 1 - i + turn : Nat) : Int) from by omega]
          norm_cast
        have htm2 : Int.tmod (99 - (i : Int) + turn) 100 = (j : Int) := by rw [← htm]; congr 1
        have htm3 : (99 - (i : Int) + turn) % 100 = (j : Int) := by rw [← htm2, Int.tmod_eq_emod_of_nonneg (by omega)]
        rw [← hj] at hjlt
        clear hj hcell
        generalize zs.getD i 0 = x at *
        generalize zs.getD j 0 = y at *
        have ax := tadd_any w.heap.size px dbx cx Sx dx ((f + x) % 4294967296) wr hX (Nat.mod_lt _ (by omega))
        have ay := fun W (hT : Trk W w.heap.size py dby cy Sy dy) => tadd_any w.heap.size py dby cy Sy dy ((f + y) % 4294967296) W hT (Nat.mod_lt _ (by omega))
        rw [show (((f + x) % 4294967296 : Nat) : Int) = ((f : Int) + x) % 4294967296 from by omega] at ax
        rw [show (((f + y) % 4294967296 : Nat) : Int) = ((f : Int) + y) % 4294967296 from by omega] at ay
        obtain ⟨kx', hRx'⟩ := hRx.add hf x hz1
        obtain ⟨ky', hRy'⟩ := hRy.add hf y hz2
        have hi1 : (i : Int) < (100 : Int) := by omega
        have hj1 : (j : Int) < (n : Int) := by omega
        have hi2 : (i : Int) < (n : Int) := by omega
        have hN0' : ((100 : Int) == 0) = false := beq_eq_false_iff_ne.2 (by omega)
        skip
        go_wp2_with fail
        refine ax.mono ?_
        rintro e w3 ⟨rfl, dbx', hX3, hF3, hn3⟩
        have hY3 := hY.fr hF3 (fun k hk h2 => htw k h2 hk)
        have hb3 := Fr.belowT hX hF3 hbel
        have hc3 : w3.cell? ⟨g, off + j, none⟩ = some (.int .u8 (y : Nat)) := (hb3.cell (p := ⟨g, off + j, none⟩) hlt).trans hcj
        have htw3 := htw.next hY hn3
        clear ax hX hF3 hbel hc1 hcj
        go_wp2_with fail
        refine (ay _ hY3).mono ?_
        rintro e w4 ⟨rfl, dby', hY4, hF4, hn4⟩
        have hX4 := hX3.fr hF4 (fun k hk h2 => htw3 k hk h2)
        have hb4 := Fr.belowT hY3 hF4 hb3
        have htw4 := (htw3.symm.next hX3 hn4).symm
        clear ay hY3 hY hF4 hb3 hc3 hX3
        go_wp2
        go_roundw
        case rel => exact ⟨i + 1, by omega, by go_num, dbx', _, _, _, kx', dby', _, _, _, ky', hX4, hY4, by rw [HT.out]; exact hRx', by rw [HB.out]; exact hRy', htw4, hb4⟩
        case measure => simp [intOf]; omega
      · obtain rfl : i = 100 := by omega
        have HEQ : Hid (cx = cy ∧ Sx = Sy) := by
          rw [back_all zs 100 turn (by omega) (by omega)] at hRx
          exact hRx.uniq hRy
        obtain ⟨rfl, rfl⟩ := HEQ.out
        clear HEQ hRx hRy
        obtain ⟨R, hR⟩ : ∃ R, R = (blkP (farTo Sx 256)).take 16 := ⟨_, rfl⟩
        have hl16 : R.length ≤ 16 := by rw [hR]; simp; omega
        have hbl : ∀ p db d W, Trk W w.heap.size p db cx Sx d → Calls Try.prog 22 #[.pointer (some ⟨p, 0, none⟩)] W fun e w' => ∃ a c, e = .returned (.slice a R.length c) ∧ OwnQ w' W.heap.size a R.length c R ∧ Below W.heap.size W w' := by
          intro p db d W hT
          rw [hR]
          exact callsIn_wide.1 (blocks_in w.heap.size p db cx Sx d W hT)
        clear hR
        go_wp2_with fail
        refine (live4_any _).mono ?_
        rintro e w5 ⟨rfl, hb5⟩
        have hX5 := hX.below hb5
        have hY5 := hY.below hb5
        have hbel5 : Below w.heap.size w w5 := hbel.trans (hb5.mono hbel.size)
        clear hX hY hbel hb5
        go_wp2_with fail
        refine (cum_any px cx _ hX5.c0).mono ?_
        rintro e w' ⟨rfl, hw'⟩
        subst w'
        go_wp2_with fail
        refine (cum_any py cx _ hY5.c0).mono ?_
        rintro e w' ⟨rfl, hw'⟩
        subst w'
        go_wp2_with fail
        refine (top_any _ px dbx cx Sx dx _ hX5).mono ?_
        rintro e w6 ⟨rfl, hb6⟩
        have hX6 := hX5.below hb6
        have hY6 := hY5.below hb6
        have hbel6 : Below w.heap.size w w6 := hbel5.trans (hb6.mono hbel5.size)
        go_wp2_with fail
        refine (top_any _ py dby cx Sx dy _ hY6).mono ?_
        rintro e w7 ⟨rfl, hb7⟩
        have hX7 := hX6.below hb7
        have hY7 := hY6.below hb7
        have hbel7 : Below w.heap.size w w7 := hbel6.trans (hb7.mono hbel6.size)
        clear hX5 hY5 hX6 hY6 hb6 hb7 hbel5 hbel6
        go_wp2_with fail
        refine (hbl px dbx dx _ hX7).mono ?_
        rintro e w8 ⟨a8, c8, rfl, hq8, hb8⟩
        have hY8 := hY7.below hb8
        have hbel8 : Below w.heap.size w w8 := hbel7.trans (hb8.mono hbel7.size)
        go_wp2_with fail
        refine (hbl py dby dy _ hY8).mono ?_
        rintro e w9 ⟨a9, c9, rfl, hq9, hb9⟩
        have hq89 := hq8.below hb9
        have hbel9 : Below w.heap.size w w9 := hbel8.trans (hb9.mono hbel8.size)
        clear hX7 hY7 hY8 hb8 hb9 hbel7 hbel8 hq8
        clear hbl
        go_wp2_with fail
        refine (sameb_any _ _ _ _ _ _ _ _ _ _ _ hq89 hq9 (by omega) (by omega)).mono ?_
        rintro e wA ⟨rfl, q, hwA⟩
        rw [sameQ_refl]
        have hbelA : Below w.heap.size w wA := by rw [hwA]; exact hbel9.trans ((drewN_belowG _ q).mono hbel9.size)
        clear hbel9 hq9 hq89 hwA
        go_wp2
        go_ret
        exact ⟨rfl, hbelA⟩
end Go.Proofs.Ytpnfghchllipnab
