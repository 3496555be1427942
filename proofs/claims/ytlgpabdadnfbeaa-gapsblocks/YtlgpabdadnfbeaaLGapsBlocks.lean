/- The walk of trunklinelaw04.GapsBlocks: it answers true. -/
import Derived.Test.YtlgpabdadnfbeaaGapR7
import Derived.Test.YtlgpabdadnfbeaaGapG
namespace Go.Proofs.Ytlgpabdadnfbeaa
open Go.RowKit
set_option maxRecDepth 100000 in
set_option maxHeartbeats 4000000 in
theorem walk_GapsBlocks (f : Nat) (a : Option Addr) (n c : Nat) (bs : List Int) (qs : List Bool) (w : World) (hf : f < 4294967296) (hs : SlD w a n c bs qs) :
    Calls Try.prog 4 #[.int .u32 f, .slice a n c] w fun e w' => e = .returned (.bool true) ∧ Below w.heap.size w w' := by
  go_enter Try.func4, Try.ntmps4
  go_wp2_with fail
  refine (lplay_any f a n c bs qs w hf hs).mono ?_
  rintro e w1 ⟨px, py, rfl, dbx, fb, db, cum, S, ds, A, k, hB, hR, _, hb1⟩
  have hX := hB.x
  have hS1 : S 1 = false := by rw [hR.bits, if_neg (by omega)]; exact hR.gap
  have hcl := hX.cumlt
  obtain ⟨hg, he, _, _⟩ := blk_good S hS1 256 (Nat.le_refl _)
  have hbl := callsIn_wide.1 (blocks_in w.heap.size px dbx cum S ds w1 hX)
  have hn := farTo_len S 256
  have htop := fun W hT => top_any w.heap.size px dbx cum S ds W hT
  have HTop : Hid ((blkP (farTo S 256)).length ≤ 16 → addV 4294967296 cum (lastS (farTo S 256) : Nat) = (cum + endOf 0 ((blkP (farTo S 256)).take 16)) % 4294967296) := fun h => by
    rw [List.take_of_length_le h, he]
    have := addV_int 4294967296 cum (lastS (farTo S 256) : Nat) (by omega)
    omega
  have hg16 := good_take S 0 _ 16 hg
  obtain ⟨R, hRR⟩ : ∃ R, R = (blkP (farTo S 256)).take 16 := ⟨_, rfl⟩
  have hR16 : R.length ≤ 16 := by rw [hRR]; simp; omega
  have HLen : Hid (R.length ≠ 16 → (blkP (farTo S 256)).length ≤ 16) := fun h => by rw [hRR] at h; simp at h; omega
  rw [← hRR] at hg16 hbl HTop
  generalize addV 4294967296 cum (lastS (farTo S 256) : Nat) = tp at *
  have hhas : ∀ k : Nat, 1 ≤ k → k ≤ 256 → ∀ W, Trk W w.heap.size px dbx cum S ds → Calls Try.prog 12 #[.pointer (some ⟨px, 0, none⟩), .int .u32 (((cum : Int) + k) % 4294967296)] W fun e w' => e = .returned (.bool (S k)) ∧ Below W.heap.size W w' := by
    intro k h1 h2 W hT
    have := thas_any w.heap.size px dbx cum S ds ((cum + k) % 4294967296) W hT (Nat.mod_lt _ (by omega))
    rw [hasV_near cum S hcl k h1 h2] at this
    rw [show ((cum : Int) + k) % 4294967296 = (((cum + k) % 4294967296 : Nat) : Int) from by omega]
    exact this
  have HG := (show Hid _ from good_at S R hg16)
  clear hB hR hs hg he hn hg16 hRR hS1
  go_wp2_with fail
  refine hbl.mono ?_
  rintro e w2 ⟨a2, c2, rfl, ho2, hb2⟩
  have hX2 := hX.below hb2
  have hbel2 : Below w.heap.size w w2 := hb1.trans (hb2.mono hb1.size)
  have hoB := ho2.base hb1.size
  clear hbl hX hb1 hb2 ho2
  obtain ⟨m, hm⟩ : ∃ m, m = R.length := ⟨_, rfl⟩
  rw [← hm] at hoB hR16 HLen HG
  rw [← hm]
  clear hm
  have hend0 : endOf 0 (R.take 0) = 0 := rfl
  go_wp2
  go_loopw [9, 10] (fun av iv wr => ∃ i : Nat, i ≤ m ∧ iv = .int .i64 i ∧ av = .int .i64 (endOf 0 (R.take i) : Nat) ∧ endOf 0 (R.take i) ≤ 256 ∧ Trk wr w.heap.size px dbx cum S ds ∧ OwnQ wr w.heap.size a2 m c2 R ∧ Below w.heap.size w wr) (fun _ iv _ => m - (intOf iv).toNat)
  case atStart => exact ⟨0, by omega, rfl, by rw [hend0]; rfl, by rw [hend0]; omega, hX2, hoB, hbel2⟩
  case round =>
    obtain ⟨i, hi, rfl, rfl, hat, hX, ho, hbel⟩ := hrel
    clear hX2 hoB hbel2 hend0
    by_cases him : i < m
    · obtain ⟨g1, g2, g3, g4, g5, g6⟩ := HG.out i him
      obtain ⟨g, rfl, hg1, hg2, hg3, hg4, hg5, _⟩ := ho.at_ (by omega)
      obtain ⟨hc0, hc1⟩ := hg5 i him
      have HG6 := (show Hid _ from g6)
      have HG4 := (show Hid _ from g4)
      have HG5 := (show Hid _ from g5)
      clear g6 g4 g5 hg5
      generalize (R.getD i (0, 0)).1 = x at *
      generalize (R.getD i (0, 0)).2 = y at *
      obtain ⟨ac, hac⟩ : ∃ ac, ac = endOf 0 (R.take i) := ⟨_, rfl⟩
      rw [← hac] at g1 hat HG4
      rw [← hac]
      clear hac
      have hi1 : (i : Int) < (m : Int) := by omega
      have hx1 : ¬ (x : Int) < (ac : Int) + 2 := by omega
      have hy1 : ¬ (y : Int) < (x : Int) := by omega
      have hy2 : ¬ (256 : Int) < (y : Int) := by omega
      have hw2 : IntKind.i64.wrap ((ac : Int) + 2) = (ac : Int) + 2 := by rw [IntKind.wrap_i64]; omega
      have hwx : IntKind.i64.wrap (x : Int) = (x : Int) := by rw [IntKind.wrap_i64]; omega
      have hwy : IntKind.i64.wrap (y : Int) = (y : Int) := by rw [IntKind.wrap_i64]; omega
      have hd1 : decide ((x : Int) < (ac : Int) + 2) = false := decide_eq_false hx1
      have hd2 : decide ((y : Int) < (x : Int)) = false := decide_eq_false hy1
      have hd3 : decide ((256 : Int) < (y : Int)) = false := decide_eq_false hy2
      go_wp2_with fail
      go_quiet (fail)
      all_goals
        try simp only [show decide (y < x) = false from decide_eq_false (by omega)]
        clear hw2 hd1 hd2 hd3 hwx hwy
        obtain ⟨w3, hw3⟩ : ∃ w3, w3 = wr.drewN nq := ⟨_, rfl⟩
        rw [← hw3]
        have hb3 : Below wr.heap.size wr w3 := by rw [hw3]; exact drewN_belowR _ _
        clear hw3
        have hX3 := hX.below hb3
        have ho3 := ho.below hb3
        have hbel3 : Below w.heap.size w w3 := hbel.trans (hb3.mono hbel.size)
        have hc03 := (hb3.cell (p := ⟨g, i * 2, none⟩) hg2).trans hc0
        have hc13 := (hb3.cell (p := ⟨g, i * 2 + 1, none⟩) hg2).trans hc1
        have hg23 : g < w3.heap.size := Nat.lt_of_lt_of_le hg2 hb3.size
        clear hX ho hbel hc0 hc1 hb3 hg2 hx1 hy1 hy2
        go_wp2
        go_loopw [11] (fun kv wr => ∃ k : Nat, ac < k ∧ k ≤ x ∧ kv = .int .i64 k ∧ Trk wr w.heap.size px dbx cum S ds ∧ Below w3.heap.size w3 wr) (fun kv _ => x - (intOf kv).toNat)
        case atStart => exact ⟨ac + 1, by omega, by omega, by go_num, hX3, Below.refl _ _⟩
        case round =>
          obtain ⟨k, hk1, hk2, rfl, hX, hbw⟩ := hrel
          clear hX3
          have hcc0 := (hbw.cell (p := ⟨g, i * 2, none⟩) hg23).trans hc03
          by_cases hkx : k < x
          · have hSk := HG4.out k hk1 hkx
            have hh := hhas k (by omega) (by omega)
            rw [hSk] at hh
            have hkx' : (k : Int) < (x : Int) := by omega
            go_wp2_with fail
            refine (cum_any px cum _ hX.c0).mono ?_
            rintro e w' ⟨rfl, hw'⟩
            subst w'
            go_wp2_with fail
            refine (hh _ hX).mono ?_
            rintro e w5 ⟨rfl, hb5⟩
            have hX5 := hX.below hb5
            have hbw5 : Below w3.heap.size w3 w5 := hbw.trans (hb5.mono hbw.size)
            clear hX hbw hb5 hh hcc0 hSk
            go_wp2
            go_roundw
            case rel => exact ⟨k + 1, by omega, by omega, by go_num, hX5, hbw5⟩
            case measure => simp [intOf]; omega
          · obtain rfl : k = x := by omega
            have hX4 := hX
            have hbel4 : Below w.heap.size w wr := hbel3.trans (hbw.mono hbel3.size)
            have ho4 := ho3.below hbw
            have hc04 := hcc0
            have hc14 := (hbw.cell (p := ⟨g, i * 2 + 1, none⟩) hg23).trans hc13
            have hg24 : g < wr.heap.size := Nat.lt_of_lt_of_le hg23 hbw.size
            obtain ⟨w4, hw4⟩ : ∃ w4, w4 = wr := ⟨_, rfl⟩
            subst hw4
            clear hX hbw hcc0 hbel3 ho3 hc03 hc13 hg23
            have hkk : ¬ (k : Int) < (k : Int) := by omega
            go_wp2
            go_loopw [12] (fun kv wr => ∃ j : Nat, k ≤ j ∧ j ≤ y + 1 ∧ kv = .int .i64 j ∧ Trk wr w.heap.size px dbx cum S ds ∧ Below w4.heap.size w4 wr) (fun kv _ => y + 1 - (intOf kv).toNat)
            case atStart => exact ⟨k, by omega, by omega, rfl, hX4, Below.refl _ _⟩
            case round =>
              obtain ⟨j, hj1, hj2, rfl, hX, hbw⟩ := hrel
              clear hX4
              have hcc1 := (hbw.cell (p := ⟨g, i * 2 + 1, none⟩) hg24).trans hc14
              by_cases hjy : j ≤ y
              · have hSk := HG5.out j hj1 hjy
                have hh := hhas j (by omega) (by omega)
                rw [hSk] at hh
                have hjy' : (j : Int) ≤ (y : Int) := by omega
                go_wp2_with fail
                refine (cum_any px cum _ hX.c0).mono ?_
                rintro e w' ⟨rfl, hw'⟩
                subst w'
                go_wp2_with fail
                refine (hh _ hX).mono ?_
                rintro e w5 ⟨rfl, hb5⟩
                have hX5 := hX.below hb5
                have hbw5 : Below w4.heap.size w4 w5 := hbw.trans (hb5.mono hbw.size)
                clear hX hbw hb5 hh hcc1 hSk
                go_wp2
                go_roundw
                case rel => exact ⟨j + 1, by omega, by omega, by go_num, hX5, hbw5⟩
                case measure => simp [intOf]; omega
              · have hjy' : ¬ (j : Int) ≤ (y : Int) := by omega
                have hbel5 : Below w.heap.size w wr := hbel4.trans (hbw.mono hbel4.size)
                have ho5 := ho4.below hbw
                clear hbw hbel4 ho4
                go_wp2
                go_roundw
                case rel => exact ⟨i + 1, by omega, by go_num, by rw [HG6.out], by rw [HG6.out]; exact g3, hX, ho5, hbel5⟩
                case measure => simp [intOf]; omega
    · obtain rfl : i = m := by omega
      have HI : Hid (R.take i = R) := by show _ = _; exact List.take_of_length_le (by have := ho.len; omega)
      rw [HI.out] at hat
      rw [HI.out]
      have him' : ¬ (i : Int) < (i : Int) := by omega
      have hR16' : ¬ (16 : Int) < (i : Int) := by omega
      go_wp2_with fail
      refine (live4_any _).mono ?_
      rintro e w5 ⟨rfl, hb5⟩
      have hX5 := hX.below hb5
      have hbel5 : Below w.heap.size w w5 := hbel.trans (hb5.mono hbel.size)
      clear hX hbel hb5 ho
      by_cases h16 : i = 16
      · subst h16
        go_wp2
        go_ret
        exact ⟨rfl, hbel5⟩
      · have htp : tp = (cum + endOf 0 R) % 4294967296 := by have := HTop.out (HLen.out h16); exact this
        have h16' : ((i : Int) == 16) = false := by simp; omega
        obtain ⟨ac, hac⟩ : ∃ ac, ac = endOf 0 R := ⟨_, rfl⟩
        rw [← hac] at htp hat
        rw [← hac]
        clear hac
        have htp2 : (tp : Int) = ((cum : Int) + ac) % 4294967296 := by omega
        have ht2 := htop _ hX5
        rw [htp2] at ht2
        clear htp htp2 htop
        go_wp2_with fail
        refine ht2.mono ?_
        rintro e w6 ⟨rfl, hb6⟩
        have hX6 := hX5.below hb6
        have hbel6 : Below w.heap.size w w6 := hbel5.trans (hb6.mono hbel5.size)
        clear hX5 hbel5 hb6 ht2
        go_wp2_with fail
        refine (cum_any px cum _ hX6.c0).mono ?_
        rintro e w' ⟨rfl, hw'⟩
        subst w'
        go_wp2
        go_ret
        exact ⟨rfl, hbel6⟩
end Go.Proofs.Ytlgpabdadnfbeaa
