/- The walk of trunklinelaw09.ArpOrder. -/
import Derived.Test.YtpmnjfkcffddgaaArX
import Derived.Test.YtpmnjfkcffddgaaSlRB
namespace Go.Proofs.Ytpmnjfkcffddgaa
open Go.RowKit
/-- What was sent is what was taken. -/
structure FinS (w wr : World) (q0 : Nat) (sa : Option Addr) (sn sc : Nat) (ga : Option Addr) (gc : Nat) (S : List (List Nat)) : Prop where
  box : Stc wr q0 [.slice ga sn gc]
  row : OwnZ wr w.heap.size sa sn sc S
  got : OwnZ wr w.heap.size ga sn gc S
  bel : Below w.heap.size w wr
theorem FinS.below {w wr w2 : World} {q0 : Nat} {sa : Option Addr} {sn sc : Nat} {ga : Option Addr} {gc : Nat} {S : List (List Nat)} (h : FinS w wr q0 sa sn sc ga gc S) (hb : Below wr.heap.size wr w2) : FinS w w2 q0 sa sn sc ga gc S :=
  ⟨h.box.below hb, OwnG.below h.row hb, OwnG.below h.got hb, h.bel.trans (hb.mono h.bel.size)⟩
theorem OrS.fin {w wr : World} {q0 i : Nat} {sa : Option Addr} {sn sc : Nat} (h : OrS w wr q0 i true sa sn sc) : ∃ ga gc S, FinS w wr q0 sa sn sc ga gc S := by
  obtain ⟨kd, ga, gn, gc, S, G, now, lost, D, h1, h2, h3, h4, h5⟩ := h.ex
  rw [h4 rfl, List.append_nil] at h3
  subst h3
  have e1 := h2.row.len
  have e2 := h2.got.row.len
  obtain rfl : gn = sn := by omega
  exact ⟨ga, gc, S, h2.got.box, h2.row, h2.got.row, h2.bel⟩
set_option maxRecDepth 100000 in
set_option maxHeartbeats 8000000 in
theorem walk_ArpOrder (a : Option Addr) (n c : Nat) (rr : List (Option Addr × Nat × Nat × List Nat)) (a8 : Nat) (w : World) (hs : SlRB w a n c rr) (h8 : a8 < 256) :
    Calls Try.prog 5 #[.slice a n c, .int .u8 (a8 : Nat)] w fun e w' => e = .returned (.bool true) ∧ Below w.heap.size w w' := by
  obtain ⟨tt, htt⟩ : ∃ tt : Nat, tt = a8 % 30 := ⟨_, rfl⟩
  have hte : (a8 : Int) % 30 = (tt : Int) := by omega
  have htm : Int.tmod (a8 : Int) 30 = (tt : Int) := by rw [Int.tmod_eq_emod_of_nonneg (by omega)]; exact hte
  have hm := hmf
  have hnew := anew_ok 5 1 w (by decide)
  have hcap := hs.cap
  have HS := (show Hid _ from hs)
  clear hs htt
  go_enter Try.func5, Try.ntmps5
  go_wp2_with fail
  refine hnew.mono ?_
  rintro e w1 ⟨rfl, hst1, hb1⟩
  have hc1 := CaW.new hst1 (by decide) (by decide)
  obtain ⟨kd0, hkd⟩ : ∃ kd0 : Nat → RoleA, kd0 = fun g => if g = w.heap.size then .cache else .no := ⟨_, rfl⟩
  have hkn : ∀ g, g < w.heap.size → kd0 g = .no := fun g hg => by rw [hkd]; exact if_neg (by omega)
  have hno : kd0 w1.heap.size = .no := by rw [hkd]; exact if_neg (by have := hst1.lt; omega)
  rw [← hkd] at hc1
  obtain ⟨W, hW⟩ : ∃ W, W = w1.alloc (.cells #[.slice none 0 0] 48) := ⟨_, rfl⟩
  have b0 : Below w1.heap.size w1 W := by rw [hW]; exact (Below.refl _ _).alloc (Nat.le_refl _) _
  have stq := Stc.new w1 [.slice none 0 0] 48 W hW
  have H1 : Hid (OrS w W w1.heap.size 0 false none 0 0) := ⟨kd0, none, 0, 0, [], [], 0, 0, [], hc1.below b0, ⟨⟨stq, OwnG.nil _ _, hno, fun g hg => (by cases hg)⟩, OwnG.nil _ _, fun g hg => (by cases hg), hb1.size, hkn, hb1.trans (b0.mono hb1.size)⟩, rfl, fun e => (by cases e), by omega, by omega, by omega, by simp⟩
  clear hnew hst1 hb1 hc1 hkd hkn hno b0 stq
  go_wp2
  rw [← hW]
  clear hW
  go_loopw [7, 10] (fun u7 u10 wr => ∃ (i : Nat) (sa : Option Addr) (sn sc : Nat), i ≤ n ∧ i ≤ 30 ∧ u10 = .int .i64 (i : Nat) ∧ u7 = .slice sa sn sc ∧ OrS w wr w1.heap.size i false sa sn sc) (fun _ u10 _ => n - (intOf u10).toNat)
  case atStart => exact ⟨0, none, 0, 0, by omega, by omega, rfl, rfl, H1.out⟩
  case round =>
    obtain ⟨i, sa, sn, sc, hi, hi1, rfl, rfl, hO⟩ := hrel
    clear H1
    by_cases hlt : i < n ∧ i < 30
    · have hi2 : (i : Int) < (n : Int) := by omega
      have hi3 : (i : Int) < 30 := by omega
      obtain ⟨x, hx⟩ : ∃ x, rr[i]? = some x := ⟨_, List.getElem?_eq_getElem (by have := HS.out.len; omega)⟩
      obtain ⟨xa, xn, xc, xz⟩ := x
      rcases HS.out.at_ with h0 | ⟨b, off, rfl, hlt2, hcell⟩
      · omega
      have cz0 := hcell i _ hx
      dsimp only at cz0
      have HSL : Hid (Sl w xa xn xc xz) := HS.out.rows i _ hx
      have HCZ : Hid (∀ V, Below w.heap.size w V → V.cell? ⟨b, off + i, none⟩ = some (.slice xa xn xc)) := fun V hV => (hV.cell (p := ⟨b, off + i, none⟩) hlt2).trans cz0
      have HO := (show Hid _ from hO)
      clear hO cz0 hcell hx hlt2
      by_cases hat : i = tt
      · subst hat
        have HT := (show Hid _ from HO.out.calls_take i (Nat.le_refl _) (by omega))
        go_wp2_with fail
        refine Calls.mono HT.out ?_
        rintro e w2 ⟨a2, n2, c2, er2, rfl, hF⟩
        have HT2 := (show Hid _ from hF.calls_out (by omega))
        clear hF HT HO
        go_wp2_with fail
        refine Calls.mono HT2.out ?_
        rintro e w3 ⟨⟨v3, rfl⟩, hO3⟩
        have HO := (show Hid _ from hO3.weak)
        clear hO3 HT2
        have cz := HCZ.out _ HO.out.bel
        have HSD := (show Hid _ from HO.out.calls_send (by omega) HSL.out)
        clear HO
        go_wp2_with fail
        refine Calls.mono HSD.out ?_
        rintro e w4 ⟨a4, n4, c4, er4, rfl, hF4⟩
        clear cz HSD
        by_cases her : er4 = 0
        · subst her
          rw [if_pos rfl] at hF4
          have cz4 := HCZ.out _ hF4.bel
          have hcs := conv_str (HSL.out.below hF4.bel)
          obtain ⟨W5, hW5⟩ : ∃ W5, W5 = w4.alloc (.cells #[.string (strOf xz)] 9) := ⟨_, rfl⟩
          obtain ⟨g7, c7, W7, hr7, hF7⟩ := hF4.app (by omega) W5 hW5
          rw [hW5] at hr7
          have HT7 := (show Hid _ from hF7.calls_out (by omega))
          clear hF4 hF7 hW5
          go_wp2_with (at_builtin; refine app_eq_list rfl _ _ rfl rfl rfl rfl hr7 ?_)
          refine Calls.mono HT7.out ?_
          rintro e w8 ⟨⟨v8, rfl⟩, hO8⟩
          have HO8 := (show Hid _ from hO8)
          clear hO8 HT7 hr7 hcs cz4
          go_wp2
          go_roundw
          case rel => exact ⟨i + 1, _, _, _, by omega, by omega, by go_num, rfl, HO8.out⟩
          case measure => simp [intOf]; omega
        · rw [if_neg her] at hF4
          have hx0 : ((er4 : Int) == 0) = false := by simp; omega
          have hy0 : ¬ (er4 : Int) = 0 := by omega
          have HT7 := (show Hid _ from hF4.calls_out (by omega))
          clear hF4
          go_wp2_with fail
          refine Calls.mono HT7.out ?_
          rintro e w8 ⟨⟨v8, rfl⟩, hO8⟩
          have HO8 := (show Hid _ from hO8)
          clear hO8 HT7
          go_wp2
          go_roundw
          case rel => exact ⟨i + 1, _, _, _, by omega, by omega, by go_num, rfl, HO8.out⟩
          case measure => simp [intOf]; omega
      · have hat1 : ((i : Int) == (tt : Int)) = false := by simp; omega
        have hat2 : ¬ (i : Int) = (tt : Int) := by omega
        have cz := HCZ.out _ HO.out.bel
        have HSD := (show Hid _ from HO.out.calls_send (by omega) HSL.out)
        clear HO
        go_wp2_with fail
        refine Calls.mono HSD.out ?_
        rintro e w4 ⟨a4, n4, c4, er4, rfl, hF4⟩
        clear cz HSD
        by_cases her : er4 = 0
        · subst her
          rw [if_pos rfl] at hF4
          have cz4 := HCZ.out _ hF4.bel
          have hcs := conv_str (HSL.out.below hF4.bel)
          obtain ⟨W5, hW5⟩ : ∃ W5, W5 = w4.alloc (.cells #[.string (strOf xz)] 9) := ⟨_, rfl⟩
          obtain ⟨g7, c7, W7, hr7, hF7⟩ := hF4.app (by omega) W5 hW5
          rw [hW5] at hr7
          have HT7 := (show Hid _ from hF7.calls_out (by omega))
          clear hF4 hF7 hW5
          go_wp2_with (at_builtin; refine app_eq_list rfl _ _ rfl rfl rfl rfl hr7 ?_)
          refine Calls.mono HT7.out ?_
          rintro e w8 ⟨⟨v8, rfl⟩, hO8⟩
          have HO8 := (show Hid _ from hO8)
          clear hO8 HT7 hr7 hcs cz4
          go_wp2
          go_roundw
          case rel => exact ⟨i + 1, _, _, _, by omega, by omega, by go_num, rfl, HO8.out⟩
          case measure => simp [intOf]; omega
        · rw [if_neg her] at hF4
          have hx0 : ((er4 : Int) == 0) = false := by simp; omega
          have hy0 : ¬ (er4 : Int) = 0 := by omega
          have HT7 := (show Hid _ from hF4.calls_out (by omega))
          clear hF4
          go_wp2_with fail
          refine Calls.mono HT7.out ?_
          rintro e w8 ⟨⟨v8, rfl⟩, hO8⟩
          have HO8 := (show Hid _ from hO8)
          clear hO8 HT7
          go_wp2
          go_roundw
          case rel => exact ⟨i + 1, _, _, _, by omega, by omega, by go_num, rfl, HO8.out⟩
          case measure => simp [intOf]; omega
    · have HT := (show Hid _ from hO.calls_take 31 (by omega) (by omega))
      clear hO
      by_cases hin : (i : Int) < (n : Int)
      · have hi3 : ¬ (i : Int) < 30 := by omega
        go_wp2_with fail
        refine Calls.mono HT.out ?_
        rintro e w2 ⟨a2, n2, c2, er2, rfl, hF⟩
        have HT2 := (show Hid _ from hF.calls_out (by omega))
        clear hF HT
        go_wp2_with fail
        refine Calls.mono HT2.out ?_
        rintro e w3 ⟨⟨v3, rfl⟩, hO3⟩
        obtain ⟨ga, gc, SS, hF⟩ := hO3.fin
        have c0 := hF.box.cell 0 _ rfl
        have hsc := hF.row.cap.1
        have hsn := hO3.few
        have HF := (show Hid _ from hF)
        clear hO3 HT2 hF
        go_wp2
        go_loopw [17] (fun u17 wr => ∃ j : Nat, j ≤ sn ∧ u17 = .int .i64 (j : Nat) ∧ FinS w wr w1.heap.size sa sn sc ga gc SS) (fun u17 _ => sn - (intOf u17).toNat)
        case atStart => exact ⟨0, by omega, rfl, HF.out⟩
        case round =>
          obtain ⟨j, hj, rfl, hF⟩ := hrel
          clear HF c0
          by_cases hjn : j < sn
          · have hj1 : (j : Int) < (sn : Int) := by omega
            obtain ⟨z, hz⟩ : ∃ z, SS[j]? = some z := ⟨_, List.getElem?_eq_getElem (by have := hF.row.len; omega)⟩
            obtain ⟨g1, rfl, _, _, hnc1, _, hcl1, _⟩ := OwnG.at_ hF.row (fun _ => rfl) (by omega)
            obtain ⟨g2, rfl, _, _, hnc2, _, hcl2, _⟩ := OwnG.at_ hF.got (fun _ => rfl) (by omega)
            have d1 := hcl1 j z hz 0 _ rfl
            rw [Nat.mul_one, Nat.add_zero] at d1
            have d2 := hcl2 j z hz 0 _ rfl
            rw [Nat.mul_one, Nat.add_zero] at d2
            have d0 := hF.box.cell 0 _ rfl
            have HKC : Hid (wr.drew.cell? ⟨w1.heap.size, 0, none⟩ = some (.slice (some ⟨g2, 0, none⟩) sn gc) ∧ wr.drew.cell? ⟨g1, j, none⟩ = some (.string (strOf z)) ∧ wr.drew.cell? ⟨g2, j, none⟩ = some (.string (strOf z))) := ⟨d0, d1, d2⟩
            have HFF := (show Hid _ from hF.below (Below.refl _ _).drew)
            clear hF hcl1 hcl2 hz d0 d1 d2
            go_wp2_with fail
            refine wp_region_fixW mixedX (fun V => V = wr.drew) [(97, .slice (some ⟨g1, 0, none⟩) sn sc), (98, .int .i64 (j : Nat)), (99, .pointer (some ⟨g1, j, none⟩)), (100, .string (strOf z)), (101, .slice (some ⟨g2, 0, none⟩) sn gc), (102, .int .i64 (j : Nat)), (103, .pointer (some ⟨g2, j, none⟩)), (104, .string (strOf z)), (105, .bool false)] ?Z1 ?hZ1 (by kernel_rfl) (by kernel_rfl) (by kernel_rfl) (by kernel_rfl) ?h01 ?hops1 ?he1
            case hZ1 => simp only [List.foldl_cons, List.foldl_nil, List.setIfInBounds_toArray, List.set_cons_zero, List.set_cons_succ]; rfl
            case h01 => rfl
            case hops1 =>
              refine ⟨?_, ?_, ?_, ?_, ?_, ?_, ?_, ?_, ?_, trivial⟩
              · exact fix_val (by rfl) (fun W hW => by subst hW; obtain ⟨d0, d1, d2⟩ := HKC.out; go_simp; (try with_reducible rfl); (try omega))
              · exact fix_val (by rfl) (fun W hW => by subst hW; obtain ⟨d0, d1, d2⟩ := HKC.out; go_simp; (try with_reducible rfl); (try omega))
              · exact fix_val (by rfl) (fun W hW => by subst hW; obtain ⟨d0, d1, d2⟩ := HKC.out; go_simp; (try with_reducible rfl); (try omega))
              · exact fix_val (by rfl) (fun W hW => by subst hW; obtain ⟨d0, d1, d2⟩ := HKC.out; go_simp; (try with_reducible rfl); (try omega))
              · exact fix_val (by rfl) (fun W hW => by subst hW; obtain ⟨d0, d1, d2⟩ := HKC.out; go_simp; (try with_reducible rfl); (try omega))
              · exact fix_val (by rfl) (fun W hW => by subst hW; obtain ⟨d0, d1, d2⟩ := HKC.out; go_simp; (try with_reducible rfl); (try omega))
              · exact fix_val (by rfl) (fun W hW => by subst hW; obtain ⟨d0, d1, d2⟩ := HKC.out; go_simp; (try with_reducible rfl); (try omega))
              · exact fix_val (by rfl) (fun W hW => by subst hW; obtain ⟨d0, d1, d2⟩ := HKC.out; go_simp; (try with_reducible rfl); (try omega))
              · exact fix_val (by rfl) (fun W hW => by subst hW; obtain ⟨d0, d1, d2⟩ := HKC.out; go_simp; (try with_reducible rfl); (try omega))
            case he1 =>
            rintro V rfl
            clear HKC
            go_wp2
            go_roundw
            case rel => exact ⟨j + 1, by omega, by go_num, HFF.out⟩
            case measure => simp [intOf]; omega
          · obtain rfl : j = sn := by omega
            have HL9 := (show Hid _ from live9_any wr)
            have HB := (show Hid _ from hF.bel)
            clear hF
            go_wp2_with fail
            refine Calls.mono HL9.out ?_
            rintro e w5 ⟨rfl, hb5⟩
            have HB5 := (show Hid _ from HB.out.trans (hb5.mono HB.out.size))
            clear hb5 HL9
            go_wp2
            go_ret
            exact ⟨rfl, HB5.out⟩
      · have hi3 : True := trivial
        go_wp2_with fail
        refine Calls.mono HT.out ?_
        rintro e w2 ⟨a2, n2, c2, er2, rfl, hF⟩
        have HT2 := (show Hid _ from hF.calls_out (by omega))
        clear hF HT
        go_wp2_with fail
        refine Calls.mono HT2.out ?_
        rintro e w3 ⟨⟨v3, rfl⟩, hO3⟩
        obtain ⟨ga, gc, SS, hF⟩ := hO3.fin
        have c0 := hF.box.cell 0 _ rfl
        have hsc := hF.row.cap.1
        have hsn := hO3.few
        have HF := (show Hid _ from hF)
        clear hO3 HT2 hF
        go_wp2
        go_loopw [17] (fun u17 wr => ∃ j : Nat, j ≤ sn ∧ u17 = .int .i64 (j : Nat) ∧ FinS w wr w1.heap.size sa sn sc ga gc SS) (fun u17 _ => sn - (intOf u17).toNat)
        case atStart => exact ⟨0, by omega, rfl, HF.out⟩
        case round =>
          obtain ⟨j, hj, rfl, hF⟩ := hrel
          clear HF c0
          by_cases hjn : j < sn
          · have hj1 : (j : Int) < (sn : Int) := by omega
            obtain ⟨z, hz⟩ : ∃ z, SS[j]? = some z := ⟨_, List.getElem?_eq_getElem (by have := hF.row.len; omega)⟩
            obtain ⟨g1, rfl, _, _, hnc1, _, hcl1, _⟩ := OwnG.at_ hF.row (fun _ => rfl) (by omega)
            obtain ⟨g2, rfl, _, _, hnc2, _, hcl2, _⟩ := OwnG.at_ hF.got (fun _ => rfl) (by omega)
            have d1 := hcl1 j z hz 0 _ rfl
            rw [Nat.mul_one, Nat.add_zero] at d1
            have d2 := hcl2 j z hz 0 _ rfl
            rw [Nat.mul_one, Nat.add_zero] at d2
            have d0 := hF.box.cell 0 _ rfl
            have HKC : Hid (wr.drew.cell? ⟨w1.heap.size, 0, none⟩ = some (.slice (some ⟨g2, 0, none⟩) sn gc) ∧ wr.drew.cell? ⟨g1, j, none⟩ = some (.string (strOf z)) ∧ wr.drew.cell? ⟨g2, j, none⟩ = some (.string (strOf z))) := ⟨d0, d1, d2⟩
            have HFF := (show Hid _ from hF.below (Below.refl _ _).drew)
            clear hF hcl1 hcl2 hz d0 d1 d2
            go_wp2_with fail
            refine wp_region_fixW mixedX (fun V => V = wr.drew) [(97, .slice (some ⟨g1, 0, none⟩) sn sc), (98, .int .i64 (j : Nat)), (99, .pointer (some ⟨g1, j, none⟩)), (100, .string (strOf z)), (101, .slice (some ⟨g2, 0, none⟩) sn gc), (102, .int .i64 (j : Nat)), (103, .pointer (some ⟨g2, j, none⟩)), (104, .string (strOf z)), (105, .bool false)] ?Z2 ?hZ2 (by kernel_rfl) (by kernel_rfl) (by kernel_rfl) (by kernel_rfl) ?h02 ?hops2 ?he2
            case hZ2 => simp only [List.foldl_cons, List.foldl_nil, List.setIfInBounds_toArray, List.set_cons_zero, List.set_cons_succ]; rfl
            case h02 => rfl
            case hops2 =>
              refine ⟨?_, ?_, ?_, ?_, ?_, ?_, ?_, ?_, ?_, trivial⟩
              · exact fix_val (by rfl) (fun W hW => by subst hW; obtain ⟨d0, d1, d2⟩ := HKC.out; go_simp; (try with_reducible rfl); (try omega))
              · exact fix_val (by rfl) (fun W hW => by subst hW; obtain ⟨d0, d1, d2⟩ := HKC.out; go_simp; (try with_reducible rfl); (try omega))
              · exact fix_val (by rfl) (fun W hW => by subst hW; obtain ⟨d0, d1, d2⟩ := HKC.out; go_simp; (try with_reducible rfl); (try omega))
              · exact fix_val (by rfl) (fun W hW => by subst hW; obtain ⟨d0, d1, d2⟩ := HKC.out; go_simp; (try with_reducible rfl); (try omega))
              · exact fix_val (by rfl) (fun W hW => by subst hW; obtain ⟨d0, d1, d2⟩ := HKC.out; go_simp; (try with_reducible rfl); (try omega))
              · exact fix_val (by rfl) (fun W hW => by subst hW; obtain ⟨d0, d1, d2⟩ := HKC.out; go_simp; (try with_reducible rfl); (try omega))
              · exact fix_val (by rfl) (fun W hW => by subst hW; obtain ⟨d0, d1, d2⟩ := HKC.out; go_simp; (try with_reducible rfl); (try omega))
              · exact fix_val (by rfl) (fun W hW => by subst hW; obtain ⟨d0, d1, d2⟩ := HKC.out; go_simp; (try with_reducible rfl); (try omega))
              · exact fix_val (by rfl) (fun W hW => by subst hW; obtain ⟨d0, d1, d2⟩ := HKC.out; go_simp; (try with_reducible rfl); (try omega))
            case he2 =>
            rintro V rfl
            clear HKC
            go_wp2
            go_roundw
            case rel => exact ⟨j + 1, by omega, by go_num, HFF.out⟩
            case measure => simp [intOf]; omega
          · obtain rfl : j = sn := by omega
            have HL9 := (show Hid _ from live9_any wr)
            have HB := (show Hid _ from hF.bel)
            clear hF
            go_wp2_with fail
            refine Calls.mono HL9.out ?_
            rintro e w5 ⟨rfl, hb5⟩
            have HB5 := (show Hid _ from HB.out.trans (hb5.mono HB.out.size))
            clear hb5 HL9
            go_wp2
            go_ret
            exact ⟨rfl, HB5.out⟩
end Go.Proofs.Ytpmnjfkcffddgaa
