/- The walk of trunklinelaw04.GapsOnce: it answers true. -/
import Derived.Test.YtlgpabdadnfbeaaGapW
import Derived.Test.YtlgpabdadnfbeaaGapO
import Derived.Test.YtlgpabdadnfbeaaDeedR
import Derived.Test.YtlgpabdadnfbeaaRef3A
import Derived.Test.YtlgpabdadnfbeaaZero16
import Derived.Outline
namespace Go.Proofs.Ytlgpabdadnfbeaa
open Go.RowKit
structure TkA (w : World) (B tb : Nat) (A : Nat → Bool) : Prop where
  base : B ≤ tb
  lt : tb < w.heap.size
  cell : ∀ j, j < 65536 → w.cell? ⟨tb, j, none⟩ = some (.bool (A j))
  free : ∀ j, w.frozen? ⟨tb, j, none⟩ = false
theorem TkA.fr {P : Nat → Prop} {w w' : World} {B tb : Nat} {A : Nat → Bool} (h : TkA w B tb A) (hf : Fr P w w') (hp : ¬ P tb) : TkA w' B tb A :=
  ⟨h.base, Nat.lt_of_lt_of_le h.lt hf.size, fun j hj => (hf.cell ⟨tb, j, none⟩ h.lt hp).trans (h.cell j hj), fun j => (hf.frozen ⟨tb, j, none⟩ h.lt hp).trans (h.free j)⟩
theorem TkA.below {w w' : World} {B tb : Nat} {A : Nat → Bool} (h : TkA w B tb A) (hb : Below w.heap.size w w') : TkA w' B tb A := h.fr (P := fun _ => False) (Fr.of_below hb) id
theorem TkA.store {w : World} {B tb : Nat} {A : Nat → Bool} (h : TkA w B tb A) (j : Nat) (hj : j < 65536) (v : Bool) : TkA (w.setCell ⟨tb, j, none⟩ (.bool v)) B tb (fun i => if i = j then v else A i) := by
  refine ⟨h.base, by simp [World.setCell]; exact h.lt, fun i hi => ?_, fun i => by rw [World.frozen?_setCell]; exact h.free i⟩
  by_cases e : i = j
  · subst e
    rw [if_pos rfl]
    exact World.cell?_setCell_same' _ _ _ (by rw [h.cell i hj]; rfl)
  · rw [if_neg e, World.cell?_setCell_other _ _ _ _ (by intro e2; injection e2 with _ e3; omega)]
    exact h.cell i hi
theorem once_add (A : Nat → Bool) (j : Nat) : (fun i => if i = j then true else A i) = addA A j := by
  funext i
  unfold addA
  by_cases e : i = j
  · simp [e]
  · simp [e]
theorem once_same (A : Nat → Bool) (j : Nat) : (fun i => if i = j then A j else A i) = A := by
  funext i
  by_cases e : i = j
  · simp [e]
  · simp [e]
theorem rahead32o (x y : Nat) (hx : x < 4294967296) (hy : y < 4294967296) (w : World) :
    Calls Try.prog 18 #[.int .i64 32, .int .u32 x, .int .u32 y] w fun e w' => ∃ er : Int, e = .returned (.tuple #[.int .i64 (aheadV 4294967296 x y), .int .i64 er]) ∧ Below w.heap.size w w' := by
  refine (rahead_any 32 x y hx hy w).mono ?_
  rintro e w' ⟨rfl, hb⟩
  exact ⟨_, by rw [ahead_32 x y hx hy], hb⟩
set_option maxRecDepth 100000 in
set_option maxHeartbeats 4000000 in
theorem walk_GapsOnce (f : Nat) (a : Option Addr) (n c : Nat) (bs : List Int) (qs : List Bool) (w : World) (hf : f < 4294967296) (hs : SlD w a n c bs qs) :
    Calls Try.prog 6 #[.int .u32 f, .slice a n c] w fun e w' => e = .returned (.bool true) ∧ Below w.heap.size w w' := by
  have hl := hs.len
  have hcap := hs.cap
  have hsm := hs.small
  obtain ⟨Z, hz, hzs, hzc⟩ := zero16
  go_enter Try.func6, Try.ntmps6
  go_wp2_with fail
  refine (new_any f _ hf).mono ?_
  rintro e w1 ⟨px, rfl, hX1, hb1⟩
  have hT1 : TkA (w1.alloc (.cells Z 44)) w.heap.size w1.heap.size (fun _ => false) := by
    refine ⟨hb1.size, by simp, fun j hj => ?_, fun j => ?_⟩
    · rw [World.cell?_alloc_mark]; exact hzc j hj
    · have hh : (w1.alloc (.cells Z 44)).heap[w1.heap.size]? = some (.cells Z 44) := by
        show (w1.heap.push _)[w1.heap.size]? = _
        simp
      unfold World.frozen?
      dsimp only
      rw [hh]
      simp
  have hX2 := hX1.below ((Below.refl w1.heap.size w1).alloc (Nat.le_refl _) (.cells Z 44))
  have hbel2 : Below w.heap.size w (w1.alloc (.cells Z 44)) := hb1.alloc hb1.size _
  have hap2 : ¬ ownT px none w1.heap.size := by
    rintro (h | h)
    · have := hX1.lt; omega
    · cases h
  have HC0 : Hid (RepO f (fun _ => false) 0 (addV 4294967296 f (-1)) (fun _ => false)) := RepO.start f
  generalize addV 4294967296 f (-1) = c0 at *
  clear hX1 hb1 hzs hzc
  go_wp2
  generalize w1.heap.size = tb at *
  go_loopw [7] (fun iv wr => ∃ i : Nat, i ≤ n ∧ iv = .int .i64 i ∧ ∃ dbx cx S dx A k, Trk wr w.heap.size px dbx cx S dx ∧ TkA wr w.heap.size tb A ∧ ¬ ownT px dbx tb ∧ RepO f A k cx S ∧ Below w.heap.size w wr) (fun iv _ => n - (intOf iv).toNat)
  case atStart => exact ⟨0, by omega, rfl, none, c0, _, [], _, 0, hX2, hT1, hap2, HC0.out, hbel2⟩
  case round =>
    obtain ⟨i, hi, rfl, dbx, cx, S, dx, A, k, hX, hT, hap, hR, hbel⟩ := hrel
    clear hX2 hT1 hap2 HC0 hbel2 hz
    by_cases hiN : i < n ∧ i < 300
    · obtain ⟨hin, hi3⟩ := hiN
      rcases hs.at_ with h0 | ⟨g, off, rfl, hlt, hcell⟩
      · omega
      have hcw := (hcell i hin).1
      have hc1 := (hbel.cell (p := ⟨g, off + i * 2, none⟩) hlt).trans hcw
      have hz1 := hs.bnd i
      clear hcell
      generalize bs.getD i 0 = x at *
      have htl := addV_lt 4294967296 f x (by omega)
      have ax := tadd_any w.heap.size px dbx cx S dx (addV 4294967296 f x) wr hX htl
      have HI1 : Hid (((addV 4294967296 f x : Nat) : Int) = ((f : Int) + x) % 4294967296) := addV_int 4294967296 f x (by omega)
      rw [HI1.out] at ax
      have hi1 : (i : Int) < (n : Int) := by omega
      have hi2 : (i : Int) < (300 : Int) := by omega
      have hstep := hR.step hf x hz1.1 hz1.2
      have HR := (show Hid _ from hR)
      have hfin := hR.fin
      clear hR HI1 htl
      generalize addD cx S dx (addV 4294967296 f x) = d1 at *
      generalize addE cx S (addV 4294967296 f x) = e1 at *
      generalize addC cx S (addV 4294967296 f x) = c1 at *
      generalize addS cx S (addV 4294967296 f x) = S1 at *
      have hcx := hX.cumlt
      by_cases hx0 : 0 ≤ x
      · obtain ⟨j, rfl⟩ : ∃ j : Nat, x = (j : Int) := ⟨x.toNat, by omega⟩
        have hj6 : j < 65536 := by omega
        rw [Int.toNat_natCast] at hstep
        clear hx0 hfin
        rcases hstep with ⟨rfl, _, hA, k', hR1, hah⟩ | ⟨rfl, hxA, rfl, rfl⟩ | ⟨rfl, rfl, rfl⟩
        · have HRR := (show Hid _ from hR1)
          have HAA : Hid ((fun i => if i = j then true else A i) = addA A j) := once_add A j
          have hah0 : ¬ aheadV 4294967296 cx c1 < 0 := by omega
          clear hR1 hah
          go_wp2_with fail
          refine (cum_any px cx _ hX.c0).mono ?_
          rintro e w' ⟨rfl, hw'⟩
          subst w'
          go_wp2_with fail
          refine ax.mono ?_
          rintro e w3 ⟨rfl, dbx', hX3, hF3, hn3⟩
          have hT3 := hT.fr hF3 hap
          have hb3 := Fr.belowT hX hF3 hbel
          have hc3 : w3.cell? ⟨g, off + i * 2, none⟩ = some (.int .i16 (j : Int)) := (hb3.cell (p := ⟨g, off + i * 2, none⟩) hlt).trans hcw
          have hap3 : ¬ ownT px dbx' tb := by
            rintro (h | h)
            · exact hap (.inl h)
            · rcases hn3 tb h with h2 | h2
              · exact hap (.inr h2)
              · have := hT.lt; omega
          have ht3 := hT3.cell j hj6
          have hfr3 := hT3.free j
          rw [hA] at ht3
          have HT4 := (show Hid _ from hT3.store j hj6 true)
          rw [HAA.out] at HT4
          have HX4 : Hid (Trk (w3.setCell ⟨tb, j, none⟩ (.bool true)) w.heap.size px dbx' c1 S1 d1) := hX3.fr (Fr.setCell (fun k => k = tb) w3 ⟨tb, j, none⟩ (.bool true) rfl) (fun k hk e => hap3 (by rw [← e]; exact hk))
          have HB4 : Hid (Below w.heap.size w (w3.setCell ⟨tb, j, none⟩ (.bool true))) := hb3.trans ((Fr.setCell (fun k => k = tb) w3 ⟨tb, j, none⟩ (.bool true) rfl).below w.heap.size hb3.size (fun k hk => by rw [hk]; exact hT3.base))
          clear ax hX hF3 hbel hc1 hT hn3 hap hX3 hT3
          go_wp2_with fail
          refine (cum_any px c1 _ HX4.out.c0).mono ?_
          rintro e w' ⟨rfl, hw'⟩
          subst w'
          obtain ⟨W4, hW4⟩ : ∃ W4, W4 = w3.setCell ⟨tb, j, none⟩ (.bool true) := ⟨_, rfl⟩
          rw [← hW4] at HT4 HX4 HB4
          rw [← hW4]
          clear hW4 ht3 hfr3 hc3 hb3
          have hc1l := HX4.out.cumlt
          go_wp2_with fail
          refine (rahead32o cx c1 hcx hc1l _).mono ?_
          rintro e w5 ⟨er, rfl, hb5⟩
          have hX5 := HX4.out.below hb5
          have hT5 := HT4.out.below hb5
          have hbel5 : Below w.heap.size w w5 := HB4.out.trans (hb5.mono HB4.out.size)
          clear HX4 HT4 HB4 hb5
          have H0 := thas_any w.heap.size px dbx' c1 S1 d1 c1 w5 hX5 hc1l
          rw [HRR.out.has0] at H0
          have HH1 : Hid (∀ W, Trk W w.heap.size px dbx' c1 S1 d1 → Calls Try.prog 12 #[.pointer (some ⟨px, 0, none⟩), .int .u32 (((c1 : Int) + 1) % 4294967296)] W fun e w' => e = .returned (.bool false) ∧ Below W.heap.size W w') := fun W hT => by
            have := thas_any w.heap.size px dbx' c1 S1 d1 ((c1 + 1) % 4294967296) W hT (Nat.mod_lt _ (by omega))
            rw [HRR.out.has1] at this
            rw [show ((c1 : Int) + 1) % 4294967296 = (((c1 + 1) % 4294967296 : Nat) : Int) from by omega]
            exact this
          go_wp2_with fail
          refine (cum_any px c1 _ hX5.c0).mono ?_
          rintro e w' ⟨rfl, hw'⟩
          subst w'
          go_wp2_with fail
          refine H0.mono ?_
          rintro e w6 ⟨rfl, hb6⟩
          have hX6 := hX5.below hb6
          have hT6 := hT5.below hb6
          have hbel6 : Below w.heap.size w w6 := hbel5.trans (hb6.mono hbel5.size)
          clear H0 hX5 hT5 hbel5 hb6
          go_wp2_with fail
          refine (cum_any px c1 _ hX6.c0).mono ?_
          rintro e w' ⟨rfl, hw'⟩
          subst w'
          go_wp2_with fail
          refine (HH1.out _ hX6).mono ?_
          rintro e w7 ⟨rfl, hb7⟩
          have hX7 := hX6.below hb7
          have hT7 := hT6.below hb7
          have hbel7 : Below w.heap.size w w7 := hbel6.trans (hb7.mono hbel6.size)
          clear hX6 hT6 hbel6 hb7 HH1
          go_wp2
          go_roundw
          case rel => exact ⟨i + 1, by omega, by go_num, dbx', c1, S1, d1, _, _, hX7, hT7, hap3, HRR.out, hbel7⟩
          case measure => simp [intOf]; omega
        · have HRR := (show Hid _ from HR.out)
          have hA : A j = true := hxA.resolve_left (by omega)
          have HAA : Hid ((fun i => if i = j then true else A i) = A) := by have := once_same A j; rw [hA] at this; exact this
          have hah0 : aheadV 4294967296 c1 c1 = 0 := by have := ahead_of c1 0 hcx (by omega); rwa [Nat.add_zero, Nat.mod_eq_of_lt hcx] at this
          clear hxA
          go_wp2_with fail
          refine (cum_any px c1 _ hX.c0).mono ?_
          rintro e w' ⟨rfl, hw'⟩
          subst w'
          go_wp2_with fail
          refine ax.mono ?_
          rintro e w3 ⟨rfl, dbx', hX3, hF3, hn3⟩
          have hT3 := hT.fr hF3 hap
          have hb3 := Fr.belowT hX hF3 hbel
          have hc3 : w3.cell? ⟨g, off + i * 2, none⟩ = some (.int .i16 (j : Int)) := (hb3.cell (p := ⟨g, off + i * 2, none⟩) hlt).trans hcw
          have hap3 : ¬ ownT px dbx' tb := by
            rintro (h | h)
            · exact hap (.inl h)
            · rcases hn3 tb h with h2 | h2
              · exact hap (.inr h2)
              · have := hT.lt; omega
          have ht3 := hT3.cell j hj6
          have hfr3 := hT3.free j
          rw [hA] at ht3
          have HT4 := (show Hid _ from hT3.store j hj6 true)
          rw [HAA.out] at HT4
          have HX4 : Hid (Trk (w3.setCell ⟨tb, j, none⟩ (.bool true)) w.heap.size px dbx' c1 S1 d1) := hX3.fr (Fr.setCell (fun k => k = tb) w3 ⟨tb, j, none⟩ (.bool true) rfl) (fun k hk e => hap3 (by rw [← e]; exact hk))
          have HB4 : Hid (Below w.heap.size w (w3.setCell ⟨tb, j, none⟩ (.bool true))) := hb3.trans ((Fr.setCell (fun k => k = tb) w3 ⟨tb, j, none⟩ (.bool true) rfl).below w.heap.size hb3.size (fun k hk => by rw [hk]; exact hT3.base))
          clear ax hX hF3 hbel hc1 hT hn3 hap hX3 hT3
          go_wp2_with fail
          refine (cum_any px c1 _ HX4.out.c0).mono ?_
          rintro e w' ⟨rfl, hw'⟩
          subst w'
          obtain ⟨W4, hW4⟩ : ∃ W4, W4 = w3.setCell ⟨tb, j, none⟩ (.bool true) := ⟨_, rfl⟩
          rw [← hW4] at HT4 HX4 HB4
          rw [← hW4]
          clear hW4 ht3 hfr3 hc3 hb3
          have hc1l := HX4.out.cumlt
          go_wp2_with fail
          refine (rahead32o c1 c1 hcx hc1l _).mono ?_
          rintro e w5 ⟨er, rfl, hb5⟩
          have hX5 := HX4.out.below hb5
          have hT5 := HT4.out.below hb5
          have hbel5 : Below w.heap.size w w5 := HB4.out.trans (hb5.mono HB4.out.size)
          clear HX4 HT4 HB4 hb5
          have H0 := thas_any w.heap.size px dbx' c1 S1 d1 c1 w5 hX5 hc1l
          rw [HRR.out.has0] at H0
          have HH1 : Hid (∀ W, Trk W w.heap.size px dbx' c1 S1 d1 → Calls Try.prog 12 #[.pointer (some ⟨px, 0, none⟩), .int .u32 (((c1 : Int) + 1) % 4294967296)] W fun e w' => e = .returned (.bool false) ∧ Below W.heap.size W w') := fun W hT => by
            have := thas_any w.heap.size px dbx' c1 S1 d1 ((c1 + 1) % 4294967296) W hT (Nat.mod_lt _ (by omega))
            rw [HRR.out.has1] at this
            rw [show ((c1 : Int) + 1) % 4294967296 = (((c1 + 1) % 4294967296 : Nat) : Int) from by omega]
            exact this
          go_wp2_with fail
          refine (cum_any px c1 _ hX5.c0).mono ?_
          rintro e w' ⟨rfl, hw'⟩
          subst w'
          go_wp2_with fail
          refine H0.mono ?_
          rintro e w6 ⟨rfl, hb6⟩
          have hX6 := hX5.below hb6
          have hT6 := hT5.below hb6
          have hbel6 : Below w.heap.size w w6 := hbel5.trans (hb6.mono hbel5.size)
          clear H0 hX5 hT5 hbel5 hb6
          go_wp2_with fail
          refine (cum_any px c1 _ hX6.c0).mono ?_
          rintro e w' ⟨rfl, hw'⟩
          subst w'
          go_wp2_with fail
          refine (HH1.out _ hX6).mono ?_
          rintro e w7 ⟨rfl, hb7⟩
          have hX7 := hX6.below hb7
          have hT7 := hT6.below hb7
          have hbel7 : Below w.heap.size w w7 := hbel6.trans (hb7.mono hbel6.size)
          clear hX6 hT6 hbel6 hb7 HH1
          go_wp2
          go_roundw
          case rel => exact ⟨i + 1, by omega, by go_num, dbx', c1, S1, d1, _, _, hX7, hT7, hap3, HRR.out, hbel7⟩
          case measure => simp [intOf]; omega
        · have HRR := (show Hid _ from HR.out)
          have HAA : Hid ((fun i => if i = j then A j else A i) = A) := once_same A j
          have hah0 : aheadV 4294967296 c1 c1 = 0 := by have := ahead_of c1 0 hcx (by omega); rwa [Nat.add_zero, Nat.mod_eq_of_lt hcx] at this
          cases hA : A j with
          | false =>
            rw [hA] at HAA
            go_wp2_with fail
            refine (cum_any px c1 _ hX.c0).mono ?_
            rintro e w' ⟨rfl, hw'⟩
            subst w'
            go_wp2_with fail
            refine ax.mono ?_
            rintro e w3 ⟨rfl, dbx', hX3, hF3, hn3⟩
            have hT3 := hT.fr hF3 hap
            have hb3 := Fr.belowT hX hF3 hbel
            have hc3 : w3.cell? ⟨g, off + i * 2, none⟩ = some (.int .i16 (j : Int)) := (hb3.cell (p := ⟨g, off + i * 2, none⟩) hlt).trans hcw
            have hap3 : ¬ ownT px dbx' tb := by
              rintro (h | h)
              · exact hap (.inl h)
              · rcases hn3 tb h with h2 | h2
                · exact hap (.inr h2)
                · have := hT.lt; omega
            have ht3 := hT3.cell j hj6
            have hfr3 := hT3.free j
            rw [hA] at ht3
            have HT4 := (show Hid _ from hT3.store j hj6 false)
            rw [HAA.out] at HT4
            have HX4 : Hid (Trk (w3.setCell ⟨tb, j, none⟩ (.bool false)) w.heap.size px dbx' c1 S1 d1) := hX3.fr (Fr.setCell (fun k => k = tb) w3 ⟨tb, j, none⟩ (.bool false) rfl) (fun k hk e => hap3 (by rw [← e]; exact hk))
            have HB4 : Hid (Below w.heap.size w (w3.setCell ⟨tb, j, none⟩ (.bool false))) := hb3.trans ((Fr.setCell (fun k => k = tb) w3 ⟨tb, j, none⟩ (.bool false) rfl).below w.heap.size hb3.size (fun k hk => by rw [hk]; exact hT3.base))
            clear ax hX hF3 hbel hc1 hT hn3 hap hX3 hT3
            go_wp2_with fail
            refine (cum_any px c1 _ HX4.out.c0).mono ?_
            rintro e w' ⟨rfl, hw'⟩
            subst w'
            obtain ⟨W4, hW4⟩ : ∃ W4, W4 = w3.setCell ⟨tb, j, none⟩ (.bool false) := ⟨_, rfl⟩
            rw [← hW4] at HT4 HX4 HB4
            rw [← hW4]
            clear hW4 ht3 hfr3 hc3 hb3
            have hc1l := HX4.out.cumlt
            go_wp2_with fail
            refine (rahead32o c1 c1 hcx hc1l _).mono ?_
            rintro e w5 ⟨er, rfl, hb5⟩
            have hX5 := HX4.out.below hb5
            have hT5 := HT4.out.below hb5
            have hbel5 : Below w.heap.size w w5 := HB4.out.trans (hb5.mono HB4.out.size)
            clear HX4 HT4 HB4 hb5
            have H0 := thas_any w.heap.size px dbx' c1 S1 d1 c1 w5 hX5 hc1l
            rw [HRR.out.has0] at H0
            have HH1 : Hid (∀ W, Trk W w.heap.size px dbx' c1 S1 d1 → Calls Try.prog 12 #[.pointer (some ⟨px, 0, none⟩), .int .u32 (((c1 : Int) + 1) % 4294967296)] W fun e w' => e = .returned (.bool false) ∧ Below W.heap.size W w') := fun W hT => by
              have := thas_any w.heap.size px dbx' c1 S1 d1 ((c1 + 1) % 4294967296) W hT (Nat.mod_lt _ (by omega))
              rw [HRR.out.has1] at this
              rw [show ((c1 : Int) + 1) % 4294967296 = (((c1 + 1) % 4294967296 : Nat) : Int) from by omega]
              exact this
            go_wp2_with fail
            refine (cum_any px c1 _ hX5.c0).mono ?_
            rintro e w' ⟨rfl, hw'⟩
            subst w'
            go_wp2_with fail
            refine H0.mono ?_
            rintro e w6 ⟨rfl, hb6⟩
            have hX6 := hX5.below hb6
            have hT6 := hT5.below hb6
            have hbel6 : Below w.heap.size w w6 := hbel5.trans (hb6.mono hbel5.size)
            clear H0 hX5 hT5 hbel5 hb6
            go_wp2_with fail
            refine (cum_any px c1 _ hX6.c0).mono ?_
            rintro e w' ⟨rfl, hw'⟩
            subst w'
            go_wp2_with fail
            refine (HH1.out _ hX6).mono ?_
            rintro e w7 ⟨rfl, hb7⟩
            have hX7 := hX6.below hb7
            have hT7 := hT6.below hb7
            have hbel7 : Below w.heap.size w w7 := hbel6.trans (hb7.mono hbel6.size)
            clear hX6 hT6 hbel6 hb7 HH1
            go_wp2
            go_roundw
            case rel => exact ⟨i + 1, by omega, by go_num, dbx', c1, S1, d1, _, _, hX7, hT7, hap3, HRR.out, hbel7⟩
            case measure => simp [intOf]; omega
          | true =>
            rw [hA] at HAA
            go_wp2_with fail
            refine (cum_any px c1 _ hX.c0).mono ?_
            rintro e w' ⟨rfl, hw'⟩
            subst w'
            go_wp2_with fail
            refine ax.mono ?_
            rintro e w3 ⟨rfl, dbx', hX3, hF3, hn3⟩
            have hT3 := hT.fr hF3 hap
            have hb3 := Fr.belowT hX hF3 hbel
            have hc3 : w3.cell? ⟨g, off + i * 2, none⟩ = some (.int .i16 (j : Int)) := (hb3.cell (p := ⟨g, off + i * 2, none⟩) hlt).trans hcw
            have hap3 : ¬ ownT px dbx' tb := by
              rintro (h | h)
              · exact hap (.inl h)
              · rcases hn3 tb h with h2 | h2
                · exact hap (.inr h2)
                · have := hT.lt; omega
            have ht3 := hT3.cell j hj6
            have hfr3 := hT3.free j
            rw [hA] at ht3
            have HT4 := (show Hid _ from hT3.store j hj6 true)
            rw [HAA.out] at HT4
            have HX4 : Hid (Trk (w3.setCell ⟨tb, j, none⟩ (.bool true)) w.heap.size px dbx' c1 S1 d1) := hX3.fr (Fr.setCell (fun k => k = tb) w3 ⟨tb, j, none⟩ (.bool true) rfl) (fun k hk e => hap3 (by rw [← e]; exact hk))
            have HB4 : Hid (Below w.heap.size w (w3.setCell ⟨tb, j, none⟩ (.bool true))) := hb3.trans ((Fr.setCell (fun k => k = tb) w3 ⟨tb, j, none⟩ (.bool true) rfl).below w.heap.size hb3.size (fun k hk => by rw [hk]; exact hT3.base))
            clear ax hX hF3 hbel hc1 hT hn3 hap hX3 hT3
            go_wp2_with fail
            refine (cum_any px c1 _ HX4.out.c0).mono ?_
            rintro e w' ⟨rfl, hw'⟩
            subst w'
            obtain ⟨W4, hW4⟩ : ∃ W4, W4 = w3.setCell ⟨tb, j, none⟩ (.bool true) := ⟨_, rfl⟩
            rw [← hW4] at HT4 HX4 HB4
            rw [← hW4]
            clear hW4 ht3 hfr3 hc3 hb3
            have hc1l := HX4.out.cumlt
            go_wp2_with fail
            refine (rahead32o c1 c1 hcx hc1l _).mono ?_
            rintro e w5 ⟨er, rfl, hb5⟩
            have hX5 := HX4.out.below hb5
            have hT5 := HT4.out.below hb5
            have hbel5 : Below w.heap.size w w5 := HB4.out.trans (hb5.mono HB4.out.size)
            clear HX4 HT4 HB4 hb5
            have H0 := thas_any w.heap.size px dbx' c1 S1 d1 c1 w5 hX5 hc1l
            rw [HRR.out.has0] at H0
            have HH1 : Hid (∀ W, Trk W w.heap.size px dbx' c1 S1 d1 → Calls Try.prog 12 #[.pointer (some ⟨px, 0, none⟩), .int .u32 (((c1 : Int) + 1) % 4294967296)] W fun e w' => e = .returned (.bool false) ∧ Below W.heap.size W w') := fun W hT => by
              have := thas_any w.heap.size px dbx' c1 S1 d1 ((c1 + 1) % 4294967296) W hT (Nat.mod_lt _ (by omega))
              rw [HRR.out.has1] at this
              rw [show ((c1 : Int) + 1) % 4294967296 = (((c1 + 1) % 4294967296 : Nat) : Int) from by omega]
              exact this
            go_wp2_with fail
            refine (cum_any px c1 _ hX5.c0).mono ?_
            rintro e w' ⟨rfl, hw'⟩
            subst w'
            go_wp2_with fail
            refine H0.mono ?_
            rintro e w6 ⟨rfl, hb6⟩
            have hX6 := hX5.below hb6
            have hT6 := hT5.below hb6
            have hbel6 : Below w.heap.size w w6 := hbel5.trans (hb6.mono hbel5.size)
            clear H0 hX5 hT5 hbel5 hb6
            go_wp2_with fail
            refine (cum_any px c1 _ hX6.c0).mono ?_
            rintro e w' ⟨rfl, hw'⟩
            subst w'
            go_wp2_with fail
            refine (HH1.out _ hX6).mono ?_
            rintro e w7 ⟨rfl, hb7⟩
            have hX7 := hX6.below hb7
            have hT7 := hT6.below hb7
            have hbel7 : Below w.heap.size w w7 := hbel6.trans (hb7.mono hbel6.size)
            clear hX6 hT6 hbel6 hb7 HH1
            go_wp2
            go_roundw
            case rel => exact ⟨i + 1, by omega, by go_num, dbx', c1, S1, d1, _, _, hX7, hT7, hap3, HRR.out, hbel7⟩
            case measure => simp [intOf]; omega
      · obtain ⟨j, hj⟩ : ∃ j : Nat, IntKind.u16.wrap x = (j : Int) := ⟨(x % 65536).toNat, by rw [IntKind.wrap_u16]; omega⟩
        have hj2 := hj
        rw [IntKind.wrap_u16] at hj2
        have hj6 : j < 65536 := by omega
        have hA : A j = false := hfin j (by omega)
        have hxl : x < 0 := by omega
        have HAA : Hid ((fun i => if i = j then A j else A i) = A) := once_same A j
        rw [hA] at HAA
        clear hfin hj2
        rcases hstep with ⟨_, h0, _⟩ | ⟨rfl, hxA, rfl, rfl⟩ | ⟨rfl, rfl, rfl⟩
        · exact absurd h0 hx0
        · have HRR := (show Hid _ from HR.out)
          have hah0 : aheadV 4294967296 c1 c1 = 0 := by have := ahead_of c1 0 hcx (by omega); rwa [Nat.add_zero, Nat.mod_eq_of_lt hcx] at this
          clear hxA
          go_wp2_with fail
          refine (cum_any px c1 _ hX.c0).mono ?_
          rintro e w' ⟨rfl, hw'⟩
          subst w'
          go_wp2_with fail
          refine ax.mono ?_
          rintro e w3 ⟨rfl, dbx', hX3, hF3, hn3⟩
          have hT3 := hT.fr hF3 hap
          have hb3 := Fr.belowT hX hF3 hbel
          have hc3 : w3.cell? ⟨g, off + i * 2, none⟩ = some (.int .i16 x) := (hb3.cell (p := ⟨g, off + i * 2, none⟩) hlt).trans hcw
          have hap3 : ¬ ownT px dbx' tb := by
            rintro (h | h)
            · exact hap (.inl h)
            · rcases hn3 tb h with h2 | h2
              · exact hap (.inr h2)
              · have := hT.lt; omega
          have ht3 := hT3.cell j hj6
          have hfr3 := hT3.free j
          rw [hA] at ht3
          have HT4 := (show Hid _ from hT3.store j hj6 false)
          rw [HAA.out] at HT4
          have HX4 : Hid (Trk (w3.setCell ⟨tb, j, none⟩ (.bool false)) w.heap.size px dbx' c1 S1 d1) := hX3.fr (Fr.setCell (fun k => k = tb) w3 ⟨tb, j, none⟩ (.bool false) rfl) (fun k hk e => hap3 (by rw [← e]; exact hk))
          have HB4 : Hid (Below w.heap.size w (w3.setCell ⟨tb, j, none⟩ (.bool false))) := hb3.trans ((Fr.setCell (fun k => k = tb) w3 ⟨tb, j, none⟩ (.bool false) rfl).below w.heap.size hb3.size (fun k hk => by rw [hk]; exact hT3.base))
          clear ax hX hF3 hbel hc1 hT hn3 hap hX3 hT3
          go_wp2_with fail
          refine (cum_any px c1 _ HX4.out.c0).mono ?_
          rintro e w' ⟨rfl, hw'⟩
          subst w'
          obtain ⟨W4, hW4⟩ : ∃ W4, W4 = w3.setCell ⟨tb, j, none⟩ (.bool false) := ⟨_, rfl⟩
          rw [← hW4] at HT4 HX4 HB4
          rw [← hW4]
          clear hW4 ht3 hfr3 hc3 hb3
          have hc1l := HX4.out.cumlt
          go_wp2_with fail
          refine (rahead32o c1 c1 hcx hc1l _).mono ?_
          rintro e w5 ⟨er, rfl, hb5⟩
          have hX5 := HX4.out.below hb5
          have hT5 := HT4.out.below hb5
          have hbel5 : Below w.heap.size w w5 := HB4.out.trans (hb5.mono HB4.out.size)
          clear HX4 HT4 HB4 hb5
          have H0 := thas_any w.heap.size px dbx' c1 S1 d1 c1 w5 hX5 hc1l
          rw [HRR.out.has0] at H0
          have HH1 : Hid (∀ W, Trk W w.heap.size px dbx' c1 S1 d1 → Calls Try.prog 12 #[.pointer (some ⟨px, 0, none⟩), .int .u32 (((c1 : Int) + 1) % 4294967296)] W fun e w' => e = .returned (.bool false) ∧ Below W.heap.size W w') := fun W hT => by
            have := thas_any w.heap.size px dbx' c1 S1 d1 ((c1 + 1) % 4294967296) W hT (Nat.mod_lt _ (by omega))
            rw [HRR.out.has1] at this
            rw [show ((c1 : Int) + 1) % 4294967296 = (((c1 + 1) % 4294967296 : Nat) : Int) from by omega]
            exact this
          go_wp2_with fail
          refine (cum_any px c1 _ hX5.c0).mono ?_
          rintro e w' ⟨rfl, hw'⟩
          subst w'
          go_wp2_with fail
          refine H0.mono ?_
          rintro e w6 ⟨rfl, hb6⟩
          have hX6 := hX5.below hb6
          have hT6 := hT5.below hb6
          have hbel6 : Below w.heap.size w w6 := hbel5.trans (hb6.mono hbel5.size)
          clear H0 hX5 hT5 hbel5 hb6
          go_wp2_with fail
          refine (cum_any px c1 _ hX6.c0).mono ?_
          rintro e w' ⟨rfl, hw'⟩
          subst w'
          go_wp2_with fail
          refine (HH1.out _ hX6).mono ?_
          rintro e w7 ⟨rfl, hb7⟩
          have hX7 := hX6.below hb7
          have hT7 := hT6.below hb7
          have hbel7 : Below w.heap.size w w7 := hbel6.trans (hb7.mono hbel6.size)
          clear hX6 hT6 hbel6 hb7 HH1
          go_wp2
          go_roundw
          case rel => exact ⟨i + 1, by omega, by go_num, dbx', c1, S1, d1, _, _, hX7, hT7, hap3, HRR.out, hbel7⟩
          case measure => simp [intOf]; omega
        · have HRR := (show Hid _ from HR.out)
          have hah0 : aheadV 4294967296 c1 c1 = 0 := by have := ahead_of c1 0 hcx (by omega); rwa [Nat.add_zero, Nat.mod_eq_of_lt hcx] at this
          go_wp2_with fail
          refine (cum_any px c1 _ hX.c0).mono ?_
          rintro e w' ⟨rfl, hw'⟩
          subst w'
          go_wp2_with fail
          refine ax.mono ?_
          rintro e w3 ⟨rfl, dbx', hX3, hF3, hn3⟩
          have hT3 := hT.fr hF3 hap
          have hb3 := Fr.belowT hX hF3 hbel
          have hc3 : w3.cell? ⟨g, off + i * 2, none⟩ = some (.int .i16 x) := (hb3.cell (p := ⟨g, off + i * 2, none⟩) hlt).trans hcw
          have hap3 : ¬ ownT px dbx' tb := by
            rintro (h | h)
            · exact hap (.inl h)
            · rcases hn3 tb h with h2 | h2
              · exact hap (.inr h2)
              · have := hT.lt; omega
          have ht3 := hT3.cell j hj6
          have hfr3 := hT3.free j
          rw [hA] at ht3
          have HT4 := (show Hid _ from hT3.store j hj6 false)
          rw [HAA.out] at HT4
          have HX4 : Hid (Trk (w3.setCell ⟨tb, j, none⟩ (.bool false)) w.heap.size px dbx' c1 S1 d1) := hX3.fr (Fr.setCell (fun k => k = tb) w3 ⟨tb, j, none⟩ (.bool false) rfl) (fun k hk e => hap3 (by rw [← e]; exact hk))
          have HB4 : Hid (Below w.heap.size w (w3.setCell ⟨tb, j, none⟩ (.bool false))) := hb3.trans ((Fr.setCell (fun k => k = tb) w3 ⟨tb, j, none⟩ (.bool false) rfl).below w.heap.size hb3.size (fun k hk => by rw [hk]; exact hT3.base))
          clear ax hX hF3 hbel hc1 hT hn3 hap hX3 hT3
          go_wp2_with fail
          refine (cum_any px c1 _ HX4.out.c0).mono ?_
          rintro e w' ⟨rfl, hw'⟩
          subst w'
          obtain ⟨W4, hW4⟩ : ∃ W4, W4 = w3.setCell ⟨tb, j, none⟩ (.bool false) := ⟨_, rfl⟩
          rw [← hW4] at HT4 HX4 HB4
          rw [← hW4]
          clear hW4 ht3 hfr3 hc3 hb3
          have hc1l := HX4.out.cumlt
          go_wp2_with fail
          refine (rahead32o c1 c1 hcx hc1l _).mono ?_
          rintro e w5 ⟨er, rfl, hb5⟩
          have hX5 := HX4.out.below hb5
          have hT5 := HT4.out.below hb5
          have hbel5 : Below w.heap.size w w5 := HB4.out.trans (hb5.mono HB4.out.size)
          clear HX4 HT4 HB4 hb5
          have H0 := thas_any w.heap.size px dbx' c1 S1 d1 c1 w5 hX5 hc1l
          rw [HRR.out.has0] at H0
          have HH1 : Hid (∀ W, Trk W w.heap.size px dbx' c1 S1 d1 → Calls Try.prog 12 #[.pointer (some ⟨px, 0, none⟩), .int .u32 (((c1 : Int) + 1) % 4294967296)] W fun e w' => e = .returned (.bool false) ∧ Below W.heap.size W w') := fun W hT => by
            have := thas_any w.heap.size px dbx' c1 S1 d1 ((c1 + 1) % 4294967296) W hT (Nat.mod_lt _ (by omega))
            rw [HRR.out.has1] at this
            rw [show ((c1 : Int) + 1) % 4294967296 = (((c1 + 1) % 4294967296 : Nat) : Int) from by omega]
            exact this
          go_wp2_with fail
          refine (cum_any px c1 _ hX5.c0).mono ?_
          rintro e w' ⟨rfl, hw'⟩
          subst w'
          go_wp2_with fail
          refine H0.mono ?_
          rintro e w6 ⟨rfl, hb6⟩
          have hX6 := hX5.below hb6
          have hT6 := hT5.below hb6
          have hbel6 : Below w.heap.size w w6 := hbel5.trans (hb6.mono hbel5.size)
          clear H0 hX5 hT5 hbel5 hb6
          go_wp2_with fail
          refine (cum_any px c1 _ hX6.c0).mono ?_
          rintro e w' ⟨rfl, hw'⟩
          subst w'
          go_wp2_with fail
          refine (HH1.out _ hX6).mono ?_
          rintro e w7 ⟨rfl, hb7⟩
          have hX7 := hX6.below hb7
          have hT7 := hT6.below hb7
          have hbel7 : Below w.heap.size w w7 := hbel6.trans (hb7.mono hbel6.size)
          clear hX6 hT6 hbel6 hb7 HH1
          go_wp2
          go_roundw
          case rel => exact ⟨i + 1, by omega, by go_num, dbx', c1, S1, d1, _, _, hX7, hT7, hap3, HRR.out, hbel7⟩
          case measure => simp [intOf]; omega
    · have hno : (i : Int) < (n : Int) → ¬ (i : Int) < 300 := fun h => by omega
      by_cases hin : i < n
      · have hi1 : (i : Int) < (n : Int) := by omega
        have hi2 := hno hi1
        clear hno hiN
        go_wp2_with fail
        refine (live4_any _).mono ?_
        rintro e w5 ⟨rfl, hb5⟩
        have hbel5 : Below w.heap.size w w5 := hbel.trans (hb5.mono hbel.size)
        go_wp2
        go_ret
        exact ⟨rfl, hbel5⟩
      · have hi1 : ¬ (i : Int) < (n : Int) := by omega
        clear hno hiN
        go_wp2_with fail
        refine (live4_any _).mono ?_
        rintro e w5 ⟨rfl, hb5⟩
        have hbel5 : Below w.heap.size w w5 := hbel.trans (hb5.mono hbel.size)
        go_wp2
        go_ret
        exact ⟨rfl, hbel5⟩
end Go.Proofs.Ytlgpabdadnfbeaa
