/- The walk of trunklinelaw04.GapsShifts: it answers true. -/
import Derived.Test.YtlgpabdadnfbeaaGapW
import Derived.Test.YtlgpabdadnfbeaaGapSh
import Derived.Outline
import Derived.Test.YtlgpabdadnfbeaaDeedR
namespace Go.Proofs.Ytlgpabdadnfbeaa
open Go.RowKit
set_option maxRecDepth 100000 in
set_option maxHeartbeats 4000000 in
theorem walk_GapsShifts (f o : Nat) (a : Option Addr) (n c : Nat) (bs : List Int) (qs : List Bool) (w : World) (hf : f < 4294967296) (ho : o < 4294967296) (hs : SlD w a n c bs qs) :
    Calls Try.prog 5 #[.int .u32 f, .int .u32 o, .slice a n c] w fun e w' => e = .returned (.bool true) ∧ Below w.heap.size w w' := by
  have hl := hs.len
  have hcap := hs.cap
  have hsm := hs.small
  obtain ⟨b, hb⟩ : ∃ b : Nat, (b : Int) = ((o : Int) - f) % 4294967296 := ⟨(((o : Int) - f) % 4294967296).toNat, by omega⟩
  have HO : Hid (shM b f = o) := by show _ = _; unfold shM; omega
  go_enter Try.func5, Try.ntmps5
  go_wp2_with fail
  refine (new_any f _ hf).mono ?_
  rintro e w1 ⟨px, rfl, hX1, hb1⟩
  go_wp2_with fail
  refine (new_any o _ ho).mono ?_
  rintro e w2 ⟨py, rfl, hY2, hb2⟩
  have hX2 := hX1.below hb2
  have hY2' := hY2.rebase hb1.size
  have hbel2 : Below w.heap.size w w2 := hb1.trans (hb2.mono hb1.size)
  have htwo : Two px none py none := by
    rintro k (rfl | hk) (h2 | h2)
    · have := hX1.lt; have := hY2.base; omega
    · cases h2
    · cases hk
    · cases h2
  have HC0 : Hid (addV 4294967296 o (-1) = shM b (addV 4294967296 f (-1))) := by show _ = _; rw [← addV_shift, HO.out]
  rw [HC0.out] at hY2'
  generalize addV 4294967296 f (-1) = c0 at *
  clear hX1 hY2 hb1 hb2 HC0
  go_wp2
  rw [← hb]
  go_loopw [10] (fun iv wr => ∃ i : Nat, i ≤ n ∧ iv = .int .i64 i ∧ ∃ dbx cx S dx dby dy, Trk wr w.heap.size px dbx cx S dx ∧ Trk wr w.heap.size py dby (shM b cx) S dy ∧ Two px dbx py dby ∧ Below w.heap.size w wr) (fun iv _ => n - (intOf iv).toNat)
  case atStart => exact ⟨0, by omega, rfl, none, c0, _, [], none, [], hX2, hY2', htwo, hbel2⟩
  case round =>
    obtain ⟨i, hi, rfl, dbx, cx, S, dx, dby, dy, hX, hY, htw, hbel⟩ := hrel
    clear hX2 hY2' hbel2 htwo
    by_cases hiN : i < n ∧ i < 300
    · obtain ⟨hin, hi3⟩ := hiN
      rcases hs.at_ with h0 | ⟨g, off, rfl, hlt, hcell⟩
      · omega
      have hc1 := (hbel.cell (p := ⟨g, off + i * 2, none⟩) hlt).trans (hcell i hin).1
      have hcw := (hcell i hin).1
      have hz1 := hs.bnd i
      clear hcell
      generalize bs.getD i 0 = x at *
      have htl := addV_lt 4294967296 f x (by omega)
      have htl2 := addV_lt 4294967296 o x (by omega)
      have hcx := hX.cumlt
      have HI1 : Hid (((addV 4294967296 f x : Nat) : Int) = ((f : Int) + x) % 4294967296) := addV_int 4294967296 f x (by omega)
      have HI2 : Hid (((shM b (addV 4294967296 f x) : Nat) : Int) = ((o : Int) + x) % 4294967296) := by
        show _ = _
        rw [← addV_shift, HO.out]; exact addV_int 4294967296 o x (by omega)
      have htl2 : shM b (addV 4294967296 f x) < 4294967296 := Nat.mod_lt _ (by omega)
      have HEQ : Hid (addE (shM b cx) S (shM b (addV 4294967296 f x)) = addE cx S (addV 4294967296 f x) ∧ addC (shM b cx) S (shM b (addV 4294967296 f x)) = shM b (addC cx S (addV 4294967296 f x)) ∧ addS (shM b cx) S (shM b (addV 4294967296 f x)) = addS cx S (addV 4294967296 f x)) := ⟨addE_shift b cx _ S hcx, addC_shift b cx _ S hcx, addS_shift b cx _ S hcx⟩
      have HW1 : Hid (IntKind.u32.wrap ((f : Int) + IntKind.u32.wrap x) = ((addV 4294967296 f x : Nat) : Int)) := by
        show _ = _
        rw [IntKind.wrap_u32, IntKind.wrap_u32, HI1.out, Int.add_emod_emod]
      have HW2 : Hid (IntKind.u32.wrap ((o : Int) + IntKind.u32.wrap x) = ((shM b (addV 4294967296 f x) : Nat) : Int)) := by
        show _ = _
        rw [IntKind.wrap_u32, IntKind.wrap_u32, HI2.out, Int.add_emod_emod]
      clear HI1 HI2
      generalize addV 4294967296 f x = tx at *
      generalize shM b tx = ty at *
      have HT1 : Hid (∀ c1 r, ((addV 4294967296 (shM b c1) r : Nat) : Int) = IntKind.u32.wrap ((addV 4294967296 c1 r : Nat) + (b : Int))) := fun c1 r => by
        show _ = _
        rw [addV_shift, IntKind.wrap_u32]; unfold shM; omega
      have HC1 : Hid (∀ c1, ((shM b c1 : Nat) : Int) = IntKind.u32.wrap ((c1 : Int) + b)) := fun c1 => by show _ = _; rw [IntKind.wrap_u32]; unfold shM; omega
      have hi1 : (i : Int) < (n : Int) := by omega
      have hi2 : (i : Int) < (300 : Int) := by omega
      clear hi hl hcap hsm hs hb ho hf hcx
      obtain ⟨wv, hwv⟩ : ∃ wv, wv = wr := ⟨_, rfl⟩
      subst hwv
      go_wp2_with fail
      go_region_held3 (fun w' => w'.cell? ⟨g, off + i * 2, none⟩ = some (.int .i16 x)) (first | exact (hbel.cell (p := ⟨g, off + i * 2, none⟩) hlt).trans hcw | go_keep) (first
        | (go_at_call 16; first
          | (refine (tadd_at _ _ _ px _ _ _ _ tx _ _ hX (by first | exact Below.refl _ _ | exact (Below.refl _ _).drew) htl (by rfl) (by rw [HW1.out])).mono ?_; rintro e w3 ⟨rfl, dbx', hX3, hF3, hn3⟩; have hY3 := hY.fr hF3 (fun k hk h2 => htw k h2 hk); have hbel := Fr.belowT hX hF3 hbel; have htw3 := htw.next hY hn3)
          | (refine (tadd_at _ _ _ py _ _ _ _ ty _ _ hY3 (by first | exact Below.refl _ _ | exact (Below.refl _ _).drew) htl2 (by rfl) (by rw [HW2.out])).mono ?_; rintro e w4 ⟨rfl, dby', hY4, hF4, hn4⟩; rw [HEQ.out.1]; rw [HEQ.out.2.1, HEQ.out.2.2] at hY4; have hX4 := hX3.fr hF4 (fun k hk h2 => htw3 k hk h2); have hbel := Fr.belowT hY3 hF4 hbel; have htw4 := (htw3.symm.next hX3 hn4).symm))
        | (go_at_call 13; first
          | (refine (tcum_at _ _ px _ _ _ _ _ _ hX4 (by first | exact Below.refl _ _ | exact (Below.refl _ _).drew) (by rfl)).mono ?_; rintro e w' ⟨rfl, rfl⟩)
          | (refine (tcum_at _ _ py _ _ _ _ _ _ hY4 (by first | exact Below.refl _ _ | exact (Below.refl _ _).drew) (by rfl)).mono ?_; rintro e w' ⟨rfl, rfl⟩; rw [HC1.out]))
        | (go_at_call 14; first
          | (refine (ttop_at _ _ px _ _ _ _ _ _ hX4 (by first | exact Below.refl _ _ | exact (Below.refl _ _).drew) (by rfl)).mono ?_; rintro e w6 ⟨rfl, hb6⟩; have hX6 := hX4.below hb6; have hY6 := hY4.below hb6; have hbel := hbel.trans (hb6.mono hbel.size))
          | (refine (ttop_at _ _ py _ _ _ _ _ _ hY6 (by first | exact Below.refl _ _ | exact (Below.refl _ _).drew) (by rfl)).mono ?_; rintro e w7 ⟨rfl, hb7⟩; rw [HT1.out]; have hX7 := hX6.below hb7; have hY7 := hY6.below hb7; have hbel := hbel.trans (hb7.mono hbel.size)))
        | fail)
      all_goals
        go_wp2
        go_roundw
        case rel => exact ⟨i + 1, by omega, by go_num, dbx', _, _, _, dby', _, hX7, hY7, htw4, hbel⟩
        case measure => simp [intOf]; omega
    · obtain ⟨R, hR⟩ : ∃ R, R = (blkP (farTo S 256)).take 16 := ⟨_, rfl⟩
      have hl16 : R.length ≤ 16 := by rw [hR]; simp; omega
      have hbl : ∀ p db cc d W, Trk W w.heap.size p db cc S d → Calls Try.prog 11 #[.pointer (some ⟨p, 0, none⟩)] W fun e w' => ∃ a c, e = .returned (.slice a R.length c) ∧ OwnQ w' W.heap.size a R.length c R ∧ Below W.heap.size W w' := by
        intro p db cc d W hT
        rw [hR]
        exact callsIn_wide.1 (blocks_in w.heap.size p db cc S d W hT)
      clear hR
      have hno : (i : Int) < (n : Int) → ¬ (i : Int) < 300 := fun h => by omega
      by_cases hin : i < n
      · have hi1 : (i : Int) < (n : Int) := by omega
        have hi2 := hno hi1
        clear hno hiN
        go_wp2_with fail
        refine (live4_any _).mono ?_
        rintro e w5 ⟨rfl, hb5⟩
        have hX5 := hX.below hb5
        have hY5 := hY.below hb5
        have hbel5 : Below w.heap.size w w5 := hbel.trans (hb5.mono hbel.size)
        clear hX hY hbel hb5
        go_wp2_with fail
        refine (hbl px dbx _ dx _ hX5).mono ?_
        rintro e w8 ⟨a8, c8, rfl, hq8, hb8⟩
        have hY8 := hY5.below hb8
        have hbel8 : Below w.heap.size w w8 := hbel5.trans (hb8.mono hbel5.size)
        go_wp2_with fail
        refine (hbl py dby _ dy _ hY8).mono ?_
        rintro e w9 ⟨a9, c9, rfl, hq9, hb9⟩
        have hq89 := hq8.below hb9
        have hbel9 : Below w.heap.size w w9 := hbel8.trans (hb9.mono hbel8.size)
        clear hX5 hY5 hY8 hb8 hb9 hbel5 hbel8 hq8
        clear hbl
        go_wp2_with fail
        refine (sameb_any _ _ _ _ _ _ _ _ _ _ _ hq89 hq9 (by omega) (by omega)).mono ?_
        rintro e wA ⟨rfl, q, hwA⟩
        rw [sameQ_refl]
        have hbelA : Below w.heap.size w wA := by rw [hwA]; exact hbel9.trans ((drewN_belowG _ q).mono hbel9.size)
        clear hbel9 hq9 hq89 hwA
        go_wp2
        go_ret
        exact ⟨rfl, hbelA⟩
      · have hi1 : ¬ (i : Int) < (n : Int) := by omega
        clear hno hiN
        go_wp2_with fail
        refine (live4_any _).mono ?_
        rintro e w5 ⟨rfl, hb5⟩
        have hX5 := hX.below hb5
        have hY5 := hY.below hb5
        have hbel5 : Below w.heap.size w w5 := hbel.trans (hb5.mono hbel.size)
        clear hX hY hbel hb5
        go_wp2_with fail
        refine (hbl px dbx _ dx _ hX5).mono ?_
        rintro e w8 ⟨a8, c8, rfl, hq8, hb8⟩
        have hY8 := hY5.below hb8
        have hbel8 : Below w.heap.size w w8 := hbel5.trans (hb8.mono hbel5.size)
        go_wp2_with fail
        refine (hbl py dby _ dy _ hY8).mono ?_
        rintro e w9 ⟨a9, c9, rfl, hq9, hb9⟩
        have hq89 := hq8.below hb9
        have hbel9 : Below w.heap.size w w9 := hbel8.trans (hb9.mono hbel8.size)
        clear hX5 hY5 hY8 hb8 hb9 hbel5 hbel8 hq8
        clear hbl
        go_wp2_with fail
        refine (sameb_any _ _ _ _ _ _ _ _ _ _ _ hq89 hq9 (by omega) (by omega)).mono ?_
        rintro e wA ⟨rfl, q, hwA⟩
        rw [sameQ_refl]
        have hbelA : Below w.heap.size w wA := by rw [hwA]; exact hbel9.trans ((drewN_belowG _ q).mono hbel9.size)
        clear hbel9 hq9 hq89 hwA
        go_wp2
        go_ret
        exact ⟨rfl, hbelA⟩
end Go.Proofs.Ytlgpabdadnfbeaa
