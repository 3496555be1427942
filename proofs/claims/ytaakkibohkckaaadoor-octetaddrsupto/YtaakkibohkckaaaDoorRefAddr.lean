/- What the reference's Addr answers: the same. -/
import Derived.Test.YtaakkibohkckaaaDoorAdRef
import Derived.Test.YtaakkibohkckaaaDoorRefUnhex
import Derived.Deep.QuietTactic
import Derived.BigQuiet
namespace Go.Proofs.YtaakkibohkckaaaDoor
open Go.RowKit
set_option maxHeartbeats 2000000 in
theorem refaddr_any (s : ByteArray) (w : World) (hT : Lib.Utf8Tabs 0 1 w) (hs : s.size ≤ 1048576) :
    Calls Tryd.prog 12 #[.string s] w fun e w' => e = .returned (.tuple #[.int .u32 ((adOf s).1 : Nat), .int .i64 ((adOf s).2.1 : Nat), .int .i64 ((adOf s).2.2 : Nat)]) ∧ Below w.heap.size w w' := by
  have HU := (show Hid _ from adOf_lrun s)
  go_enter Tryd.func12, Tryd.ntmps12
  go_wp2_with fail
  refine (letters_any s _ (by omega) hT).mono ?_
  rintro e w1 ⟨L, v, rfl, hown, hLR, hll, hbel⟩
  obtain ⟨a1, c1, hv⟩ := hown.slice
  subst hv
  have hn : L.length ≤ 1048576 := by omega
  obtain ⟨n, hnn⟩ : ∃ n, n = L.length := ⟨_, rfl⟩
  rw [← hnn] at hown hn ⊢
  have HN : Hid (n = L.length) := hnn
  have HLR := (show Hid _ from hLR)
  clear hll hnn hLR
  go_wp2
  go_loopw [6, 7, 8, 9] (fun va vn vp i wr => ∃ (j : Nat) (bs : List Nat) (st : Ad), j ≤ n ∧ i = .int .i64 j ∧ va = .int .u32 (st.ahead : Nat) ∧ vn = .string (nowS st) ∧ vp = .int .i64 (st.points : Nat) ∧ Hid (LR bs (L.drop j)) ∧ Hid (lrun bs j st = adOf s) ∧ st.ok ∧ Hid (st.begun = false → st.number = 0) ∧ OwnS wr w.heap.size (.slice a1 n c1) n L ∧ Below w.heap.size w wr) (fun _ _ _ i _ => n - (intOf i).toNat)
  case atStart => exact ⟨0, natsOf s, ⟨0, 0, 0, false⟩, by omega, rfl, rfl, rfl, rfl, HLR, HU.out.symm, ⟨by decide, by decide, by decide⟩, (fun _ => rfl), hown, hbel⟩
  case round =>
    clear hown hbel HLR
    obtain ⟨j, bs, st, hj, rfl, rfl, rfl, rfl, HB, HR, hok, H0, hown, hbel⟩ := hrel
    have hah := hok.small
    have hnb := hok.n
    have hpt := hok.p
    have hsz0 := now_size st
    have hemp := now_empty st hok
    by_cases hlt : j < n
    · obtain ⟨g, c, hv, hc⟩ : ∃ g c, Value.slice a1 n c1 = .slice (some ⟨g, 0, none⟩) n c ∧ n ≤ c := by
        rcases hown.form with ⟨_, h0⟩ | h
        · omega
        · exact h
      injection hv with e1 _ e3
      subst e1 e3
      have hjL : j < L.length := by have := HN.out; omega
      have hx : L[j]? = some (L[j]'hjL) := List.getElem?_eq_getElem hjL
      have hdr : L.drop j = L[j]'hjL :: L.drop (j + 1) := List.drop_eq_getElem_cons hjL
      generalize L[j]'hjL = x at *
      have hcell := hown.cells j x hx
      rw [Nat.zero_add] at hcell
      have hji : (j : Int) < (n : Int) := by omega
      have HB2 := HB.out
      rw [hdr] at HB2
      clear hx hdr hjL HB
      cases bs with
      | nil => exact absurd HB2 (by simp [LR])
      | cons b t =>
        obtain ⟨x', M', e, hB⟩ := HB2
        injection e with e1 e2
        subst e1 e2
        by_cases hdot : b = 46 ∧ x = one b
        · obtain ⟨hb46, hxo⟩ := hdot
          have hM : Hid (LR t (L.drop (j + 1))) := by
            rcases hB with ⟨_, _, hM⟩ | ⟨hbig, _⟩
            · exact hM
            · omega
          have hxd : (x.toList == [46]) = true := by rw [hxo, one_toList b (by omega), hb46]; rfl
          clear hB
          by_cases hpo : st.begun = true ∧ st.points ≠ 3
          · have hnow : nowS st = numS st.number := by unfold nowS; rw [if_pos hpo.1]
            have hne : (numS st.number).toList.isEmpty = false := by rw [← hnow, hemp, hpo.1]; rfl
            have hp3 : (st.points : Int) < 3 := by omega
            have hsm : st.ahead < 65536 := by
              have h1 := hok.a
              have : 256 ^ st.points ≤ 256 ^ 2 := Nat.pow_le_pow_right (by omega) (by omega)
              omega
            have htk : st.take b = some ⟨st.ahead * 256 + st.number, st.points + 1, 0, false⟩ := by rw [hb46, take_pt, Ad.point, if_pos hpo]
            have HR2 : Hid (lrun t (j + 1) ⟨st.ahead * 256 + st.number, st.points + 1, 0, false⟩ = adOf s) := by
              show _ = _
              rw [← HR.out, lrun, htk]
            have HOK : Hid (Ad.ok ⟨st.ahead * 256 + st.number, st.points + 1, 0, false⟩) := Ad.take_ok hok htk
            have hnn2 : Hid (st.number < 256) := by show _ < _; omega
            rw [hnow]
            clear HR htk hemp hnow hpo hb46 hxo
            go_wp2_with fail
            refine (value_any st.number hnn2.out _).mono ?_
            rintro e w2 ⟨rfl, hb2⟩
            have hown2 := hown.below hb2
            have hb02 := hbel.trans (hb2.mono hbel.size)
            clear hown hbel hb2 hcell
            go_wp2
            go_roundw
            case rel => exact ⟨j + 1, t, ⟨st.ahead * 256 + st.number, st.points + 1, 0, false⟩, by omega, by go_num, by go_num, rfl, by go_num, hM, HR2, HOK.out, (fun _ => rfl), hown2, hb02⟩
            case measure => simp [intOf]; omega
          · have htk : st.take b = none := by rw [hb46, take_pt, Ad.point, if_neg hpo]
            have HE : Hid (adOf s = (0, j, 4)) := by show _ = _; rw [← HR.out, lrun, htk]
            clear HR htk hb46 hxo
            by_cases hbg : st.begun = true
            · have h3 : st.points = 3 := Classical.byContradiction fun h => hpo ⟨hbg, h⟩
              have hp3 : ¬ (st.points : Int) < 3 := by omega
              clear h3
              rw [hbg] at hemp
              clear hpo
              go_wp2
              go_ret3
              exact ⟨by rw [HE.out]; rfl, hbel⟩
            · have hbf : st.begun = false := by simpa using hbg
              rw [hbf] at hemp
              clear hpo
              go_wp2
              go_ret3
              exact ⟨by rw [HE.out]; rfl, hbel⟩
        · by_cases hgo : ∃ st', st.take b = some st' ∧ b < 128 ∧ x = one b ∧ LR t (L.drop (j + 1))
          · obtain ⟨st', htk, hb128, hxo, hM⟩ := hgo
            have hb46 : b ≠ 46 := fun e => hdot ⟨e, hxo⟩
            have hxd : (x.toList == [46]) = false := by rw [hxo, one_toList b hb128, decide_eq_false hb46]
            have hxs : x.size = 1 := by rw [hxo]; rfl
            have hpart : isNum (nowS st ++ x) := by rw [hxo]; exact (isNum_one st hok H0.out b hb46 hb128).2 ⟨st', htk⟩
            obtain ⟨hn1, hn2, hn3⟩ := now_take st st' hok H0.out b hb46 hb128 htk
            rw [← hxo] at hn1
            have H02 : Hid (st'.begun = false → st'.number = 0) := (txt_take st st' b hok H0.out htk).2
            have HOK : Hid st'.ok := Ad.take_ok hok htk
            have HR2 : Hid (lrun t (j + 1) st' = adOf s) := by show _ = _; rw [← HR.out, lrun, htk]
            have HM : Hid (LR t (L.drop (j + 1))) := hM
            have HN1 := (show Hid _ from hn1)
            have HN2 := (show Hid _ from hn2)
            have HN3 := (show Hid _ from hn3)
            have hq : ∀ w, (Op.stringOp .add (nowS st) x).run Tryd.prog w = .ok (.string (nowS st ++ x)) w := fun w => run_string_add_sum w _ _ (by omega)
            have hys : ¬ (nowS st ++ x).size = 0 := by rw [ByteArray.size_append]; omega
            have HP := (show Hid _ from hpart)
            clear hpart HR hB hdot hemp htk hn1 hn2 hn3 hM hxo
            generalize nowS st ++ x = y at *
            go_wp2_with fail
            refine (part_any y true _ ⟨fun _ => HP.out, fun _ => rfl⟩ hys).mono ?_
            rintro e w2 ⟨rfl, hb2⟩
            have hown2 := hown.below hb2
            have hb02 := hbel.trans (hb2.mono hbel.size)
            have hcell2 := keepc hb2 hcell
            clear hown hbel hb2 hcell
            go_wp2
            go_roundw
            case rel => exact ⟨j + 1, t, st', by omega, by go_num, by rw [HN2.out], by rw [HN1.out], by rw [HN3.out], HM, HR2, HOK.out, H02, hown2, hb02⟩
            case measure => simp [intOf]; omega
          · have hall : (x.toList == [46]) = false ∧ ¬ isNum (nowS st ++ x) ∧ adOf s = (0, j, 4) ∧ 1 ≤ x.size ∧ x.size ≤ 4 := by
              rcases hB with ⟨hb128, hxo, hM⟩ | ⟨hb128, hbad⟩
              · have hb46 : b ≠ 46 := fun e => hdot ⟨e, hxo⟩
                have htk : st.take b = none := by
                  cases h : st.take b with
                  | none => rfl
                  | some st' => exact absurd ⟨st', h, hb128, hxo, hM⟩ hgo
                refine ⟨by rw [hxo, one_toList b hb128, decide_eq_false hb46], ?_, by rw [← HR.out, lrun, htk], by rw [hxo]; exact Nat.le_refl _, by rw [hxo, one_size]; omega⟩
                rw [hxo, isNum_one st hok H0.out b hb46 hb128]
                rintro ⟨st', h⟩
                rw [htk] at h
                cases h
              · exact ⟨bad_toList x hbad, isNum_bad st hok x hbad, by rw [← HR.out, lrun, take_big st b hb128], bad_size x hbad, bad_small x hbad⟩
            obtain ⟨hxd, hpart, hE, hxs1, hxs4⟩ := hall
            have HE : Hid (adOf s = (0, j, 4)) := hE
            clear hgo hE
            have hq : ∀ w, (Op.stringOp .add (nowS st) x).run Tryd.prog w = .ok (.string (nowS st ++ x)) w := fun w => run_string_add_sum w _ _ (by omega)
            have hys : ¬ (nowS st ++ x).size = 0 := by rw [ByteArray.size_append]; omega
            have HP := (show Hid _ from hpart)
            clear hpart HR hB hdot hemp
            generalize nowS st ++ x = y at *
            go_wp2_with fail
            refine (part_any y false _ ⟨fun h => (by cases h), fun h => absurd h HP.out⟩ hys).mono ?_
            rintro e w2 ⟨rfl, hb2⟩
            go_wp2
            go_ret3
            exact ⟨by rw [HE.out]; rfl, hbel.trans (hb2.mono hbel.size)⟩
    · obtain rfl : j = n := by omega
      have hnil : L.drop j = [] := List.drop_of_length_le (by have := HN.out; omega)
      have HB2 := HB.out
      rw [hnil] at HB2
      cases bs with
      | cons b t =>
        obtain ⟨x, M, e, _⟩ := HB2
        cases e
      | nil =>
        have hrun := HR.out
        rw [lrun] at hrun
        clear HB HB2 hnil HR
        by_cases hend : st.begun = true ∧ st.points = 3
        · rw [if_pos hend] at hrun
          have HE : Hid (adOf s = (st.ahead * 256 + st.number, 0, 0)) := hrun.symm
          have hnow : nowS st = numS st.number := by unfold nowS; rw [if_pos hend.1]
          have hne : (numS st.number).toList.isEmpty = false := by rw [← hnow, hemp, hend.1]; rfl
          have hp3 : ¬ (st.points : Int) < 3 := by omega
          have hnn2 : Hid (st.number < 256) := by show _ < _; omega
          rw [hnow]
          clear hrun hend hemp hnow
          go_wp2_with fail
          refine (value_any st.number hnn2.out _).mono ?_
          rintro e w2 ⟨rfl, hb2⟩
          go_wp2
          go_ret3
          exact ⟨by rw [HE.out]; go_num, hbel.trans (hb2.mono hbel.size)⟩
        · rw [if_neg hend] at hrun
          have HE : Hid (adOf s = (0, j, 3)) := hrun.symm
          clear hrun
          by_cases hp : st.points < 3
          · have hp3 : (st.points : Int) < 3 := by omega
            clear hend hemp
            go_wp2
            go_ret3
            exact ⟨by rw [HE.out]; rfl, hbel⟩
          · have hp3 : ¬ (st.points : Int) < 3 := by omega
            have hbf : st.begun = false := by
              cases h : st.begun with
              | false => rfl
              | true => exact absurd ⟨h, by omega⟩ hend
            rw [hbf] at hemp
            clear hend hp
            go_wp2
            go_ret3
            exact ⟨by rw [HE.out]; rfl, hbel⟩
end Go.Proofs.YtaakkibohkckaaaDoor
