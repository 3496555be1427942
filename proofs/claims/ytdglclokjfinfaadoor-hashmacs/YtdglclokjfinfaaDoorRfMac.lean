/- What the reference's Mac answers. -/
import Derived.Test.YtdglclokjfinfaaDoorRfSum
import Derived.Test.YtdglclokjfinfaaDoorHMac
namespace Go.Proofs.YtdglclokjfinfaaDoor
open Go.RowKit
theorem keyB_eq (ks L : List Nat) (h : L = if 64 < ks.length then shaN ks else ks) : keyB ks = L ++ List.replicate (64 - L.length) 0 := by
  unfold keyB
  split at h
  · rename_i h2; rw [if_pos h2, h, shaN_len]
  · rename_i h2; rw [if_neg h2, h]
set_option maxRecDepth 100000 in
set_option maxHeartbeats 8000000 in
theorem rmac_short (a : Option Addr) (n c : Nat) (ks : List Nat) (a2 : Option Addr) (n2 c2 : Nat) (zs : List Nat) (w : World) (h : Sl w a n c ks) (h2 : Sl w a2 n2 c2 zs) (hn : n ≤ 140737488355000) (hn2 : n2 ≤ 140737488355000) (h64 : n ≤ 64) :
    Calls Tryd.prog 13 #[.slice a n c, .slice a2 n2 c2] w fun e w' => e = .returned (.agg (vals (macN ks zs)).toArray) ∧ Below w.heap.size w w' := by
  obtain ⟨w0, hw0⟩ : ∃ w0, w0 = w.alloc (.cells z32 24) := ⟨_, rfl⟩
  have hb0 : Below w.heap.size w w0 := by rw [hw0]; exact (Below.refl _ _).alloc (Nat.le_refl _) _
  have hR0 := arr32_new w [] w0 hw0
  have hl := h.len
  have hz0 : w0.heap.size = w.heap.size + 1 := by rw [hw0]; simp
  have ho := own_empty w0
  have hoe := ho
  rw [hz0] at ho
  have h0 := h.below hb0
  have h20 := h2.below hb0
  have HZ0 := (show Hid _ from hz0)
  clear hz0
  go_enter Tryd.func13, Tryd.ntmps13
  go_wp2_with (at_builtin; go_must (change wpList _ _ _ _ _ ((w.alloc (.cells z32 24)).alloc (.cells #[] 5)); rw [← hw0]; clear hw0; refine app_list rfl _ _ rfl (w.heap.size + 1) _ 0 0 [] rfl ho _ n c ks rfl (h0.below ((Below.refl _ _).alloc (Nat.le_refl _) _)) (by omega) (by have := HZ0.out; simp; omega) ?_))
  intro a1 c1 w1 ho1 hg1
  have ho1' : OwnB w1 w0.heap.size a1 n c1 ks := by rw [HZ0.out]; simpa using ho1
  have hb1 : Below w0.heap.size w0 w1 := ((Below.refl _ _).alloc (Nat.le_refl _) _).trans (by rw [HZ0.out]; exact ho.up hg1 (by have := HZ0.out; simp; omega))
  clear hg1 ho ho1 hoe
  have g64 : ¬ (64 : Int) < (n : Int) := by omega
  obtain ⟨L, hL⟩ : ∃ L, L = ks := ⟨_, rfl⟩
  have HLL : Hid (L = if 64 < ks.length then shaN ks else ks) := by show _ = _; rw [if_neg (by omega)]; exact hL
  rw [← hL] at ho1' hl
  have hL64 : L.length ≤ 64 := by omega
  clear hL
  subst hl
  obtain ⟨a3, ha3⟩ : ∃ a3, a3 = a1 := ⟨_, rfl⟩
  obtain ⟨c3, hc3⟩ : ∃ c3, c3 = c1 := ⟨_, rfl⟩
  obtain ⟨w3, hw3⟩ : ∃ w3, w3 = w1 := ⟨_, rfl⟩
  subst ha3 hc3 hw3
  have ho3 := ho1'
  have hb3 := hb1
  clear ho1' hb1
  go_wp2_with fail
  go_loopw [5] (fun lv wr => ∃ (m : Nat) (a4 : Option Addr) (c4 : Nat), L.length ≤ m ∧ m ≤ 64 ∧ lv = .slice a4 m c4 ∧ OwnB wr w0.heap.size a4 m c4 (L ++ List.replicate (m - L.length) 0) ∧ Below w0.heap.size w0 wr) (fun lv _ => 64 - lenV lv)
  case atStart => exact ⟨L.length, a3, c3, Nat.le_refl _, hL64, rfl, by rw [Nat.sub_self]; simpa using ho3, hb3⟩
  case round =>
    obtain ⟨m, a4, c4, hm1, hm2, rfl, ho4, hb4⟩ := hrel
    clear ho3 hb3
    by_cases hm64 : m < 64
    · have hmi : (m : Int) < 64 := by omega
      have hz4 := hb4.size
      go_wp2_with (at_builtin; go_must (refine app_list rfl _ _ rfl w0.heap.size _ _ c4 _ rfl (ho4.alloc _) _ 1 1 [0] rfl (sl_new wr 5 (0, 0) [0] rfl (by decide) _ rfl) (by omega) (by simp; omega) ?_))
      intro a5 c5 w5 ho5 hg5
      have hb5 : Below w0.heap.size w0 w5 := (hb4.alloc hz4 _).trans ((ho4.alloc _).up hg5 (by simp; omega))
      clear hg5
      go_wp2
      go_roundw
      case rel => exact ⟨m + 1, a5, c5, by omega, by omega, rfl, by rw [show m + 1 - L.length = (m - L.length) + 1 from by omega, List.replicate_succ', ← List.append_assoc]; simpa using ho5, hb5⟩
      case measure => simp [lenV]; omega
    · have em : m = 64 := by omega
      subst em
      have HK : Hid (keyB ks = L ++ List.replicate (64 - L.length) 0) := keyB_eq ks L HLL.out
      rw [← HK.out] at ho4
      obtain ⟨K, hK⟩ : ∃ K, K = keyB ks := ⟨_, rfl⟩
      rw [← hK] at ho4
      have HKK := (show Hid _ from hK)
      have hkl : K.length = 64 := by rw [hK]; exact keyB_len ks
      have hform : ∃ g, a4 = some ⟨g, 0, none⟩ := by
        rcases ho4.own.2 with ⟨_, h00⟩ | ⟨g, cap, cur, hv, _⟩
        · omega
        · injection hv with e1
          exact ⟨g, e1⟩
      obtain ⟨gK, rfl⟩ := hform
      clear hK hm1 hm2
      have hin0 : OwnB ((wr.alloc (.cells #[] 5)).alloc (.cells #[] 5)) w0.heap.size (some ⟨wr.heap.size, 0, none⟩) 0 0 [] := ((own_empty wr).alloc _).base hb4.size
      have hout0 : OwnB ((wr.alloc (.cells #[] 5)).alloc (.cells #[] 5)) w0.heap.size (some ⟨wr.heap.size + 1, 0, none⟩) 0 0 [] := by
        have := own_empty (wr.alloc (.cells #[] 5))
        rw [show (wr.alloc (.cells #[] 5)).heap.size = wr.heap.size + 1 by simp] at this
        exact this.base (by have := hb4.size; omega)
      have hlong0 := (ho4.alloc (.cells #[] 5)).alloc (.cells #[] 5)
      have hgKlt : gK < wr.heap.size := (ho4.own.lt gK rfl).2
      have hb60 : Below w0.heap.size w0 ((wr.alloc (.cells #[] 5)).alloc (.cells #[] 5)) := (hb4.alloc hb4.size _).alloc (by have := hb4.size; simp; omega) _
      have ap1 : Apart (some ⟨wr.heap.size, 0, none⟩) 0 0 (some ⟨wr.heap.size + 1, 0, none⟩) 0 0 := fun g h1 h2 => by simp [Value.ownBlock] at h1 h2; omega
      have ap2 : Apart (some ⟨wr.heap.size, 0, none⟩) 0 0 (some ⟨gK, 0, none⟩) 64 c4 := fun g h1 h2 => by simp [Value.ownBlock] at h1 h2; omega
      have ap3 : Apart (some ⟨wr.heap.size + 1, 0, none⟩) 0 0 (some ⟨gK, 0, none⟩) 64 c4 := fun g h1 h2 => by simp [Value.ownBlock] at h1 h2; omega
      clear ho4 hb4
      go_wp2_with fail
      obtain ⟨wA, hwA⟩ : ∃ wA, wA = wr := ⟨_, rfl⟩
      subst hwA
      go_loopw [7, 8, 9] (fun vi vo iv wr => ∃ (i : Nat) (ai : Option Addr) (ci : Nat) (ao : Option Addr) (co : Nat), i ≤ 64 ∧ iv = .int .i64 i ∧ vi = .slice ai i ci ∧ vo = .slice ao i co ∧ OwnB wr w0.heap.size ai i ci ((K.take i).map (· ^^^ 54)) ∧ OwnB wr w0.heap.size ao i co ((K.take i).map (· ^^^ 92)) ∧ OwnB wr w0.heap.size (some ⟨gK, 0, none⟩) 64 c4 K ∧ Apart ai i ci ao i co ∧ Apart ai i ci (some ⟨gK, 0, none⟩) 64 c4 ∧ Apart ao i co (some ⟨gK, 0, none⟩) 64 c4 ∧ Below w0.heap.size w0 wr) (fun _ _ iv _ => 64 - (intOf iv).toNat)
      case atStart => exact ⟨0, _, 0, _, 0, by omega, rfl, rfl, rfl, hin0, hout0, hlong0, ap1, ap2, ap3, hb60⟩
      case round =>
        obtain ⟨i, ai, ci, ao, co, hi, rfl, rfl, rfl, hin, hout, hlong, q1, q2, q3, hb6⟩ := hrel
        clear hin0 hout0 hlong0 ap1 ap2 ap3 hb60
        by_cases hi64 : i < 64
        · have hc := hlong.cell i hi64
          have hxb := hlong.bnd i
          have HT : Hid (K.take (i + 1) = K.take i ++ [K.getD i 0]) := take_snocN K i (by omega)
          generalize K.getD i 0 = x at *
          have hx1 := u8_xor_nat x 54 hxb (by omega)
          have hx2 := u8_xor_nat x 92 hxb (by omega)
          rw [show ((54 : Nat) : Int) = 54 from rfl] at hx1
          rw [show ((92 : Nat) : Int) = 92 from rfl] at hx2
          have hl1 := xor_lt8 x 54 hxb (by omega)
          have hl2 := xor_lt8 x 92 hxb (by omega)
          have HA1 : Hid ((K.take (i + 1)).map (· ^^^ 54) = (K.take i).map (· ^^^ 54) ++ [x ^^^ 54]) := by show _ = _; rw [HT.out]; simp
          have HA2 : Hid ((K.take (i + 1)).map (· ^^^ 92) = (K.take i).map (· ^^^ 92) ++ [x ^^^ 92]) := by show _ = _; rw [HT.out]; simp
          generalize x ^^^ 54 = y1 at *
          generalize x ^^^ 92 = y2 at *
          have hii : (i : Int) < 64 := by omega
          have hz6 := hb6.size
          go_wp2_with (at_builtin; go_must (refine app_list2 rfl _ _ rfl w0.heap.size ai i ci _ rfl (hin.alloc _) _ 1 1 [y1] rfl (sl_one wr 5 _ y1 (by first | rfl | exact hx1) hl1) (by omega) (by simp; omega) ?_))
          intro aj cj w7 hin7 hg7 hn7
          have hout7 := (hout.alloc (.cells #[.int .u8 (y1 : Nat)] 5)).kept hg7 q1.keep
          have hlong7 := (hlong.alloc (.cells #[.int .u8 (y1 : Nat)] 5)).kept hg7 q2.keep
          have r1 : Apart aj (i + 1) cj ao i co := q1.next hout (by simp) hn7
          have r2 : Apart aj (i + 1) cj (some ⟨gK, 0, none⟩) 64 c4 := q2.next hlong (by simp) hn7
          have hb7 : Below w0.heap.size w0 w7 := (hb6.alloc hz6 _).trans ((hin.alloc _).up hg7 (by simp; omega))
          have hc7 := hlong7.cell i hi64
          have HC : Hid (K.getD i 0 = x) := by
            show _ = _
            have h1 := hlong.cell i hi64
            rw [hc] at h1
            injection h1 with h1
            injection h1 with _ h1
            omega
          rw [HC.out] at hc7
          have hz7 := hb7.size
          clear hg7 hn7 hin hout hlong q1 q2 hb6 hc
          go_wp2_with (at_builtin; go_must (refine app_list2 rfl _ _ rfl w0.heap.size ao i co _ rfl (hout7.alloc _) _ 1 1 [y2] rfl (sl_one w7 5 _ y2 (by first | rfl | exact hx2) hl2) (by omega) (by simp; omega) ?_))
          intro ap cp w8 hout8 hg8 hn8
          have hin8 := (hin7.alloc (.cells #[.int .u8 (y2 : Nat)] 5)).kept hg8 r1.symm.keep
          have hlong8 := (hlong7.alloc (.cells #[.int .u8 (y2 : Nat)] 5)).kept hg8 q3.keep
          have s1 : Apart ap (i + 1) cp aj (i + 1) cj := r1.symm.next hin7 (by simp) hn8
          have s3 : Apart ap (i + 1) cp (some ⟨gK, 0, none⟩) 64 c4 := q3.next hlong7 (by simp) hn8
          have hb8 : Below w0.heap.size w0 w8 := (hb7.alloc hz7 _).trans ((hout7.alloc _).up hg8 (by simp; omega))
          clear hg8 hn8 hout7 hlong7 hc7
          go_wp2
          go_roundw
          case rel => exact ⟨i + 1, aj, cj, ap, cp, by omega, by go_num, rfl, rfl, by rw [HA1.out, List.map_take]; exact hin8, by rw [HA2.out, List.map_take]; exact hout8, hlong8, s1.symm, r2, s3, hb8⟩
          case measure => simp [intOf]; omega
        · have ei : i = 64 := by omega
          subst ei
          have HT : Hid (K.take 64 = K) := by show _ = _; rw [← hkl]; exact List.take_length
          rw [HT.out] at hin hout
          have h26 := h20.below hb6
          clear hi hi64 q2 q3 hlong
          have hz6 := hb6.size
          obtain ⟨I, hI⟩ : ∃ I, I = K.map (· ^^^ 54) := ⟨_, rfl⟩
          obtain ⟨O, hO⟩ : ∃ O, O = K.map (· ^^^ 92) := ⟨_, rfl⟩
          rw [← hI] at hin
          rw [← hO] at hout
          have hol : O.length = 64 := hout.len
          have HMAC : Hid (macN ks zs = shaN (O ++ shaN (I ++ zs))) := by show _ = _; rw [hO, hI, HKK.out]; rfl
          clear hI hO
          go_wp2_with (at_builtin; go_must (refine app_list rfl _ _ rfl w0.heap.size ai 64 ci I rfl hin _ n2 c2 zs rfl h26 (by omega) hz6 ?_))
          intro a7 c7 w7 ho7 hg7
          have hout7 := hout.kept hg7 q1.keep
          have hb7 : Below w0.heap.size w0 w7 := hb6.trans (hin.up hg7 hz6)
          have hs7 := ho7.sl (by omega)
          clear hg7 ho7 hin hout q1 hb6 h26
          go_wp2_with fail
          refine (rsum_any a7 (64 + n2) c7 (I ++ zs) w7 hs7 (by omega)).mono ?_
          rintro e w8 ⟨rfl, hb78⟩
          have hout8 := hout7.below hb78
          have hb8 : Below w0.heap.size w0 w8 := hb7.trans (hb78.mono hb7.size)
          clear hout7 hb7 hb78 hs7
          obtain ⟨J, hJ⟩ : ∃ J, J = shaN (I ++ zs) := ⟨_, rfl⟩
          have hJl : J.length = 32 := by rw [hJ]; exact shaN_len _
          have hJb : ∀ i, J.getD i 0 < 256 := by rw [hJ]; exact shaN_bnd _
          rw [← hJ] at HMAC ⊢
          clear hJ
          obtain ⟨jc, hjc⟩ : ∃ jc, jc = vals J := ⟨_, rfl⟩
          rw [← hjc]
          have hjcl : jc.length = 32 := by rw [hjc]; simp [vals, hJl]
          have hone2 : ∀ u ∈ jc, u.oneCell' = true := by rw [hjc]; exact vals_one _
          have hTB := arr32_new w8 [] (w8.alloc (.cells z32 24)) rfl
          have hbB : Below w8.heap.size w8 (w8.alloc (.cells z32 24)) := (Below.refl _ _).alloc (Nat.le_refl _) _
          have hthB : (w8.alloc (.cells z32 24)).there w8.heap.size 0 jc.toArray.size := by rw [show jc.toArray.size = 32 from hjcl]; exact hTB.there
          have hi32 : (Tryd.prog.info? 24).map (·.size) = some jc.toArray.size := by rw [show jc.toArray.size = 32 from hjcl]; kernel_rfl
          obtain ⟨w9, hw9⟩ : ∃ w9, w9 = (w8.alloc (.cells z32 24)).setCells w8.heap.size 0 jc := ⟨_, rfl⟩
          have hI9 : Arr8 w9 w8.heap.size w8.heap.size 32 J := by
            rw [hw9, hjc]
            have := hTB.copied 0 J hJb (by rw [hJl]; omega)
            rwa [lay_full _ _ (by rw [outL_len, hJl])] at this
          have hb89 : Below w8.heap.size w8 w9 := by rw [hw9]; exact Below.setCells hbB _ _ _ (Nat.le_refl _)
          have hout9 := hout8.below hb89
          have hb9 : Below w0.heap.size w0 w9 := hb8.trans (hb89.mono hb8.size)
          have hs9 := (hI9.slB (by omega)).1
          have hz9 := hb9.size
          clear hjc hTB hbB hb89 hout8 hb8 hI9
          go_wp2_with (first | (refine wpList_store_mid rfl 24 _ _ rfl w8.heap.size 0 jc.toArray rfl rfl hthB hi32 (all_oneCell_toArray hone2) ?_; change wpList _ _ _ _ _ ((w8.alloc (.cells z32 24)).setCells w8.heap.size 0 jc); rw [← hw9]; clear hw9) | (at_builtin; go_must (refine app_list rfl _ _ rfl w0.heap.size ao 64 co O rfl hout9 _ 32 32 J rfl hs9 (by omega) hz9 ?_)))
          intro aa ca wa hoa hga
          have hba : Below w0.heap.size w0 wa := hb9.trans (hout9.up hga hz9)
          have hsa := hoa.sl (by omega)
          clear hga hoa hout9 hb9 hs9
          go_wp2_with fail
          refine (rsum_any aa (64 + 32) ca (O ++ J) wa hsa (by omega)).mono ?_
          rintro e wb ⟨rfl, hbab⟩
          have hbb : Below w0.heap.size w0 wb := hba.trans (hbab.mono hba.size)
          have hRb := hR0.below hbb
          have hbel : Below w.heap.size w wb := hb0.trans (hbb.mono hb0.size)
          rw [← HMAC.out]
          obtain ⟨cs, hcs⟩ : ∃ cs, cs = vals (macN ks zs) := ⟨_, rfl⟩
          have hcl : cs.length = 32 := by rw [hcs]; simp [vals, macN, shaN_len]
          have hone3 : ∀ u ∈ cs, u.oneCell' = true := by rw [hcs]; exact vals_one _
          have HCS : Hid (cs = vals (macN ks zs)) := hcs
          rw [← hcs]
          have hth := hRb.there
          have hi64 : (Tryd.prog.info? 24).map (·.size) = some cs.length := by rw [hcl]; kernel_rfl
          have hi642 : (Tryd.prog.info? 24).map (·.size) = some cs.toArray.size := hi64
          have hth2 : wb.there w.heap.size 0 cs.toArray.size := by rw [show cs.toArray.size = 32 from hcl]; exact hth
          have hrg2 : (wb.setCells w.heap.size 0 cs).rangeAt w.heap.size 0 cs := World.rangeAt_setCells_same _ _ _ _ (by rw [hcl]; exact hth)
          have HBF : Hid (Below w.heap.size w (wb.setCells w.heap.size 0 cs)) := Below.setCells hbel _ _ _ (Nat.le_refl _)
          clear hcs hRb hbel hbb hba hbab hsa hth
          go_wp2_with (refine wpList_store_mid rfl 24 _ _ rfl w.heap.size 0 cs.toArray rfl rfl hth2 hi642 (all_oneCell_toArray hone3) ?_)
          try simp only [Exit.inBlock, Exit.then]
          refine bodyPost_ret (results_cell_mid rfl _ _ w.heap.size 0 cs _ rfl hrg2 Tryd.underlying24 rfl hi64) rfl ?_
          exact ⟨by rw [HCS.out], HBF.out⟩
end Go.Proofs.YtdglclokjfinfaaDoor
