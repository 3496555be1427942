/- Whatever bytes, place and change: the walk of trunklinelaw02.SumsTurned ends with true, and writes nothing that was there. -/
import Derived.Test.YthjjjdnhjedbpacTurn
import Derived.Test.YthjjjdnhjedbpacLive
import Derived.RegionTactic
namespace Go.Proofs.Ythjjjdnhjedbpac
open Go.RowKit
theorem from_mod (p : Int) (n : Nat) (h : 12 < n) : ∃ m : Nat, m < n - 12 ∧ (IntKind.u64.wrap p).tmod ((n : Int) - 12) = (m : Int) := by
  have h1 : 0 ≤ IntKind.u64.wrap p := by rw [IntKind.wrap_u64]; omega
  rw [Int.tmod_eq_emod_of_nonneg h1]
  generalize IntKind.u64.wrap p = q at *
  have h2 := Int.emod_nonneg q (show (n : Int) - 12 ≠ 0 by omega)
  have h3 := Int.emod_lt_of_pos q (show 0 < (n : Int) - 12 by omega)
  exact ⟨(q % ((n : Int) - 12)).toNat, by omega, by omega⟩
theorem xor88 (x y : Nat) (hx : x < 256) (hy : y < 256) : bits .xor .u8 (x : Int) (y : Int) = ((x ^^^ y : Nat) : Int) := u8_xor_nat x y hx hy
set_option maxHeartbeats 4000000 in
theorem walk_SumsTurned (a : Option Addr) (n c : Nat) (zs : List Nat) (p : Int) (y0 y1 y2 y3 : Nat) (w : World) (hl0 : Sl w a n c zs ∧ c * 1 ≤ 140737488351232) (_hp : (Lit.int .i64 p).wf = true) (hy0 : y0 < 256) (hy1 : y1 < 256) (hy2 : y2 < 256) (hy3 : y3 < 256) :
    Calls Try.prog 4 #[.slice a n c, .int .i64 p, .agg #[.int .u8 (y0 : Nat), .int .u8 (y1 : Nat), .int .u8 (y2 : Nat), .int .u8 (y3 : Nat)]] w fun e w' => e = .returned (.bool true) ∧ Below w.heap.size w w' := by
  obtain ⟨hl, hcb⟩ := hl0
  have hn : n ≤ 140737488351232 := by have := hl.cap; omega
  have hlen := hl.len
  clear hcb
  have hb0 : Below w.heap.size w (w.alloc (.cells #[.int .u8 (y0 : Nat), .int .u8 (y1 : Nat), .int .u8 (y2 : Nat), .int .u8 (y3 : Nat)] 28)) := (Below.refl _ _).alloc (Nat.le_refl _) _
  have hz0 : (w.alloc (.cells #[.int .u8 (y0 : Nat), .int .u8 (y1 : Nat), .int .u8 (y2 : Nat), .int .u8 (y3 : Nat)] 28)).heap.size = w.heap.size + 1 := by simp
  have hcells : ∀ i, i < 4 → (w.alloc (.cells #[.int .u8 (y0 : Nat), .int .u8 (y1 : Nat), .int .u8 (y2 : Nat), .int .u8 (y3 : Nat)] 28)).cell? ⟨w.heap.size, i, none⟩ = some (.int .u8 ([y0, y1, y2, y3].getD i 0 : Nat)) := by
    intro i hi
    rcases (show i = 0 ∨ i = 1 ∨ i = 2 ∨ i = 3 by omega) with rfl | rfl | rfl | rfl <;> simp
  have hl0 := hl.below hb0
  by_cases h12 : n < 12
  · have HE : Hid (stampE n = 3) := by show _ = _; unfold stampE; rw [if_pos h12]
    have HS : Hid (stampedB zs = false) := by show _ = _; unfold stampedB; rw [if_pos (by omega)]
    have hd : decide ((n : Int) < 12) = true := by simp; omega
    go_enter Try.func4, Try.ntmps4
    go_wp2_with fail
    refine (stamp_any _ _ _ zs _ hl0 hn).mono ?_
    rintro e w1 ⟨a1, c1, rfl, ho1, hb1⟩
    rw [HE.out]
    have hb01 := hb0.trans (hb1.mono (by rw [hz0]; omega))
    clear ho1 hb1 hb0 hl0 hcells
    go_wp2_with fail
    refine (live_any _).mono ?_
    rintro e w2 ⟨rfl, hb2⟩
    have hb02 := hb01.trans (hb2.mono hb01.size)
    go_wp2_with fail
    refine (stamped_any _ _ _ zs _ (hl.below hb02) hn).mono ?_
    rintro e w3 ⟨rfl, hb3⟩
    rw [HS.out]
    go_wp2
    go_ret
    exact ⟨rfl, hb02.trans (hb3.mono hb02.size)⟩
  · have HE : Hid (stampE n = 0) := by show _ = _; unfold stampE; rw [if_neg h12]
    have hsl : (stampV zs).length = n := by rw [stampV_len zs (by omega), hlen]
    have HST := (show Hid _ from stamped_stamp zs (by omega))
    go_enter Try.func4, Try.ntmps4
    go_wp2_with fail
    refine (stamp_any _ _ _ zs _ hl0 hn).mono ?_
    rintro e w1 ⟨a1, c1, rfl, ho1, hb1⟩
    rw [HE.out, hsl]
    rw [hsl] at ho1
    have HSL := (show Hid _ from hsl)
    clear hsl
    have hz1 := hb1.size
    rw [hz0] at hz1
    have hcells1 : ∀ i, i < 4 → w1.cell? ⟨w.heap.size, i, none⟩ = some (.int .u8 ([y0, y1, y2, y3].getD i 0 : Nat)) := by
      intro i hi
      rw [hb1.cell (p := ⟨w.heap.size, i, none⟩) (by rw [hz0]; show w.heap.size < _; omega)]
      exact hcells i hi
    have hb01 := hb0.trans (hb1.mono (by rw [hz0]; omega))
    have hbase : w.heap.size + 1 ≤ (w.alloc (.cells #[.int .u8 (y0 : Nat), .int .u8 (y1 : Nat), .int .u8 (y2 : Nat), .int .u8 (y3 : Nat)] 28)).heap.size := by rw [hz0]; exact Nat.le_refl _
    have ho1' := ho1.base hbase
    clear hb1 hb0 hl0 hcells ho1 hbase hz0
    go_wp2_with fail
    refine (stamped_any _ _ _ (stampV zs) _ (ho1'.sl (by omega)) hn).mono ?_
    rintro e w2 ⟨rfl, hb2⟩
    rw [HST.out]
    have ho2 := ho1'.below hb2
    have hz2 := hb2.size
    have hcells2 : ∀ i, i < 4 → w2.cell? ⟨w.heap.size, i, none⟩ = some (.int .u8 ([y0, y1, y2, y3].getD i 0 : Nat)) := by
      intro i hi
      rw [hb2.cell (p := ⟨w.heap.size, i, none⟩) (by show w.heap.size < _; omega)]
      exact hcells1 i hi
    have hb02 := hb01.trans (hb2.mono hb01.size)
    clear hcells1 ho1' hb2 hb01
    by_cases h13 : n = 12
    · have h13' : ((n : Int) == 12) = true := by simp; omega
      go_wp2_with fail
      refine (live_any _).mono ?_
      rintro e w3 ⟨rfl, hb3⟩
      go_wp2
      go_ret
      exact ⟨rfl, hb02.trans (hb3.mono hb02.size)⟩
    · have h13' : ((n : Int) == 12) = false := by simp; omega
      have hnz : (n : Int) - 12 ≠ 0 := by omega
      obtain ⟨m, hm, hmod⟩ := from_mod p n (by omega)
      obtain ⟨g, hg⟩ : ∃ g, a1 = some ⟨g, 0, none⟩ := by
        rcases ho2.own.2 with ⟨_, h0⟩ | ⟨g, cap, cur, hv, _⟩
        · omega
        · injection hv with e1
          exact ⟨g, e1⟩
      subst hg
      have hgl := (ho2.own.lt g rfl).1
      have hbs : ∀ i, [y0, y1, y2, y3].getD i 0 < 256 := getD_bnd _ (by simp; omega)
      have HZL : Hid (zs.length = n) := hlen
      clear hlen
      generalize [y0, y1, y2, y3] = bs at *
      go_wp2
      go_loopw [10, 11] (fun vt i wr => ∃ (j : Nat) (X : List Nat), j ≤ 4 ∧ 12 + m + j ≤ n ∧ i = .int .i64 j ∧ vt = .bool (tb bs j) ∧ OwnB wr (w.heap.size + 1) (some ⟨g, 0, none⟩) n c1 X ∧ Turned (stampV zs) X (12 + m) j bs ∧ Below (w.heap.size + 1) w2 wr) (fun _ i _ => 4 - (intOf i).toNat)
      case atStart => exact ⟨0, stampV zs, by omega, by omega, rfl, rfl, ho2, ⟨rfl, fun q _ => by rw [if_neg (by omega)]⟩, Below.refl _ _⟩
      case round =>
        obtain ⟨j, X, hj, hjn, rfl, rfl, hown, hT, hbel⟩ := hrel
        by_cases hgo : j < 4 ∧ 12 + m + j < n
        · obtain ⟨hj4, hjn2⟩ := hgo
          have hc := hown.cell (12 + m + j) hjn2
          have hf := hown.free (12 + m + j)
          have hby := (hbel.cell (p := ⟨w.heap.size, j, none⟩) (by show w.heap.size < _; omega)).trans (hcells2 j hj4)
          have hx := hown.bnd (12 + m + j)
          have hy := hbs j
          have HT2 := (show Hid _ from turned_step (stampV zs) X bs (12 + m) j hT (by rw [HSL.out]; exact hjn2))
          have HTB : Hid (tb bs (j + 1) = (tb bs j || (bs.getD j 0 != 0))) := rfl
          have hx2 := xor_u8 _ _ hx hy
          have HX := (show Hid _ from xor88 _ _ hx hy)
          have hst := (show Hid _ from hown.store (12 + m + j) _ hx2)
          generalize X.getD (12 + m + j) 0 = x at *
          generalize bs.getD j 0 = y at *
          generalize tb bs j = t at *
          have hlt1 : (12 : Int) + (m : Int) + (j : Int) < (n : Int) := by omega
          have hj4i : (j : Int) < 4 := by omega
          clear hT
          by_cases hyy : y = 0
          · have hyz : ((y : Int) != 0) = false := by simp; omega
            have HYY := (show Hid _ from hyy)
            clear hyy
            cases t
            all_goals
              go_wp2_with fail
              go_region
              all_goals
                go_wp2
                go_roundw
                case rel =>
                  refine ⟨j + 1, X.set (12 + m + j) (x ^^^ y), by omega, by omega, by go_num, by rw [HTB.out]; simp [HYY.out], ?_, HT2.out, ?_⟩
                  · rw [HX.out]
                    exact hst.out.below (Below.refl _ _).drew
                  · exact (hbel.setCell (p := ⟨g, 12 + m + j, none⟩) hgl _).drew
                case measure => simp [intOf]; omega
          · have hyz : ((y : Int) != 0) = true := by simp; omega
            cases t
            all_goals
              go_wp2_with fail
              go_region
              all_goals
                go_wp2
                go_roundw
                case rel =>
                  refine ⟨j + 1, X.set (12 + m + j) (x ^^^ y), by omega, by omega, by go_num, by rw [HTB.out]; simp [hyy], ?_, HT2.out, ?_⟩
                  · rw [HX.out]
                    exact hst.out.below (Below.refl _ _).drew
                  · exact (hbel.setCell (p := ⟨g, 12 + m + j, none⟩) hgl _).drew
                case measure => simp [intOf]; omega
        · have HTT := (show Hid _ from turned_told zs X bs (12 + m) j (by rw [HZL.out]; omega) (by omega) hj (by rw [HZL.out]; exact hjn) hT hbs hown.bnd)
          have hb3 : Below w.heap.size w wr := hb02.trans (hbel.mono (by omega))
          have hs3 := hown.sl (by omega)
          clear hown hT hbel
          generalize tb bs j = t at *
          by_cases hj4 : j < 4
          · have hd : decide ((12 : Int) + (m : Int) + (j : Int) < (n : Int)) = false := by simp; omega
            have hnlt : ¬ (12 : Int) + (m : Int) + (j : Int) < (n : Int) := by omega
            go_wp2_with fail
            refine (live_any _).mono ?_
            rintro e w4 ⟨rfl, hb4⟩
            go_wp2_with fail
            refine (stamped_any _ _ _ X _ (hs3.below hb4) hn).mono ?_
            rintro e w5 ⟨rfl, hb5⟩
            rw [HTT.out]
            cases t
            all_goals
              go_wp2
              go_ret
              exact ⟨rfl, hb3.trans ((hb4.mono hb3.size).trans (hb5.mono (Nat.le_trans hb3.size hb4.size)))⟩
          · go_wp2_with fail
            refine (live_any _).mono ?_
            rintro e w4 ⟨rfl, hb4⟩
            go_wp2_with fail
            refine (stamped_any _ _ _ X _ (hs3.below hb4) hn).mono ?_
            rintro e w5 ⟨rfl, hb5⟩
            rw [HTT.out]
            cases t
            all_goals
              go_wp2
              go_ret
              exact ⟨rfl, hb3.trans ((hb4.mono hb3.size).trans (hb5.mono (Nat.le_trans hb3.size hb4.size)))⟩
end Go.Proofs.Ythjjjdnhjedbpac
