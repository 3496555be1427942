/- The walk of trunklinelaw03.SerialOrders: it answers true. -/
import Derived.Test.YtpnfghchllipnabLive3
namespace Go.Proofs.Ytpnfghchllipnab
open Go.RowKit
theorem ret_bool {p q : Bool} (h : p = q) : Ending.returned (.bool p) = .returned (.bool q) := by rw [h]
theorem cnt_snoc (y : Nat) (A : List Nat) (k : Nat) (hk : k < A.length) : (A.take (k + 1)).count y = (A.take k).count y + if A.getD k 0 = y then 1 else 0 := by
  rw [take_snocN A k hk, List.count_append]
  congr 1
  by_cases h : A.getD k 0 = y
  · rw [if_pos h, h]; simp
  · rw [if_neg h]
    exact List.count_eq_zero_of_not_mem (by simp; exact fun e => h (by simpa using e.symm))
theorem cnt_one (y : Nat) (A : List Nat) (hn : A.Nodup) (hy : y ∈ A) : A.count y = 1 := by
  have h1 := List.nodup_iff_count.1 hn y
  have h2 := List.count_pos_iff.2 hy
  omega
theorem fit_map (wide : Bool) (zs : List Nat) (hb : ∀ i, zs.getD i 0 < 4294967296) : ∀ z ∈ zs.map (fitV wide), z < rnd (fitB wide) := by
  intro z hz
  obtain ⟨y, hy, rfl⟩ := List.mem_map.1 hz
  obtain ⟨i, hi, rfl⟩ := List.getElem_of_mem hy
  have := hb i
  exact fitV_lt wide _ (by simpa [List.getD_eq_getElem?_getD, hi] using this)
theorem up_u64 (M f x : Nat) (hf : f < M) : (((x : Int) + M - f) % M) = ((upV M f x : Nat) : Int) := by
  unfold upV
  rw [show (x : Int) + M - f = ((x + (M - f) : Nat) : Int) from by omega]
  norm_cast
set_option maxRecDepth 100000 in
set_option maxHeartbeats 2000000 in
theorem walk_SerialOrders (f : Nat) (a : Option Addr) (n c : Nat) (zs : List Nat) (wide : Bool) (w : World) (hf : f < 4294967296) (hs0 : SlK .u32 4294967296 w a n c zs ∧ c * 4 ≤ 140737488351232) :
    Calls Try.prog 3 #[.int .u32 f, .slice a n c, .bool wide] w fun e w' => e = .returned (.bool true) ∧ Below w.heap.size w w' := by
  obtain ⟨hs, hcb⟩ := hs0
  have hl := hs.len
  have hcap := hs.cap
  have hf1 := fun w => fit_any wide f hf w
  have hfit := fun x hx w => fit_any wide x hx w
  have hxM := fitV_lt wide f hf
  have hx32 := fitV_lt32 wide f hf
  have hmM := fit_map wide zs hs.bnd
  go_enter Try.func3, Try.ntmps3
  go_wp2_with (go_at_call 9; refine (hf1 _).mono ?_; rintro e w' ⟨rfl, hw'⟩; subst w')
  clear hf1
  go_loopw [9, 10] (fun mv iv wr => ∃ (k : Nat) (a1 : Option Addr) (c1 : Nat), k ≤ n ∧ iv = .int .i64 k ∧ mv = .slice a1 k c1 ∧ OwnU wr w.heap.size a1 k c1 ((zs.map (fitV wide)).take k) ∧ Below w.heap.size w wr) (fun _ iv _ => n - (intOf iv).toNat)
  case atStart => exact ⟨0, none, 0, by omega, rfl, rfl, OwnU.nil _ _, Below.refl _ _⟩
  case round =>
    obtain ⟨k, a1, c1, hk, rfl, rfl, hown, hbel⟩ := hrel
    by_cases hkn : k < n
    · rcases hs.at_ with h0 | ⟨g, off, rfl, hlt, hcell⟩
      · omega
      have hc := (hbel.cell (p := ⟨g, off + k, none⟩) hlt).trans (hcell k hkn)
      have hx := hs.bnd k
      have hfx := hfit _ hx
      have hf32 := fitV_lt32 wide _ hx
      have HT : Hid ((zs.map (fitV wide)).take (k + 1) = (zs.map (fitV wide)).take k ++ [fitV wide (zs.getD k 0)]) := by
        show _ = _
        rw [take_snocN _ k (by simp; omega)]
        congr 2
        simp [List.getD_eq_getElem?_getD, show k < zs.length from by omega]
      have hsz := hbel.size
      have hk1 : (k : Int) < (n : Int) := by omega
      clear hcell hfit hmM
      generalize zs.getD k 0 = x at *
      generalize fitV wide x = y at *
      go_wp2_with (first | (go_at_call 9; refine (hfx _).mono ?_; rintro e w' ⟨rfl, hw'⟩; subst w') | (at_builtin; go_must (refine app_listU rfl _ _ rfl w.heap.size a1 k c1 _ rfl (hown.alloc _) _ 1 1 [y] rfl (u32_oneB _ _ y hf32 _ rfl) (by omega) (by simp; omega) ?_)))
      intro a2 c2 w2 ho2 hg2
      have hb2 : Below w.heap.size w w2 := (hbel.alloc hsz _).trans ((hown.alloc _).up hg2 (by simp; omega))
      clear hg2 hown
      go_wp2
      go_roundw
      case rel => exact ⟨k + 1, a2, c2, by omega, by go_num, rfl, by rw [HT.out]; exact ho2, hb2⟩
      case measure => simp [intOf]; omega
    · obtain rfl : k = n := by omega
      have HT : Hid ((zs.map (fitV wide)).take k = zs.map (fitV wide)) := by show _ = _; exact List.take_of_length_le (by simp; omega)
      rw [HT.out] at hown
      have hml : (zs.map (fitV wide)).length = k := by simp; omega
      generalize zs.map (fitV wide) = m at *
      have hsm := hown.sl (by omega)
      have so1 := sort_any (fitB wide) (fitV wide f) hx32 a1 k c1 m wr hsm (by omega)
      have hE1 : sortE (fitB wide) (fitV wide f) m = 0 := chk_fit wide _ (by intro z hz; rcases List.mem_cons.1 hz with rfl | hz; exact hxM; exact hmM z hz)
      have hR1 : sortR (fitB wide) (fitV wide f) m = sortV (rnd (fitB wide)) (fitV wide f) m := by unfold sortR; rw [if_pos hE1]
      rw [hR1, hE1] at so1
      obtain ⟨hmet, hmem⟩ := sortV_spec (rnd (fitB wide)) (fitV wide f) m hxM hmM
      have hAM : ∀ z ∈ sortV (rnd (fitB wide)) (fitV wide f) m, z < rnd (fitB wide) := fun z hz => hmM z ((hmem z).1 hz)
      have hAl := sortV_len (rnd (fitB wide)) (fitV wide f) m
      have so2 := fun a c W h => sort_any (fitB wide) (fitV wide f) hx32 a (sortV (rnd (fitB wide)) (fitV wide f) m).length c (sortV (rnd (fitB wide)) (fitV wide f) m) W h (by omega)
      have hE2 : sortE (fitB wide) (fitV wide f) (sortV (rnd (fitB wide)) (fitV wide f) m) = 0 := chk_fit wide _ (by intro z hz; rcases List.mem_cons.1 hz with rfl | hz; exact hxM; exact hAM z hz)
      have hR2 : sortR (fitB wide) (fitV wide f) (sortV (rnd (fitB wide)) (fitV wide f) m) = sortV (rnd (fitB wide)) (fitV wide f) m := by unfold sortR; rw [if_pos hE2]; exact sortV_again _ _ m hxM hmM
      rw [hR2, hE2] at so2
      have hnd := met_nodup _ _ _ hmet
      clear hE1 hE2 hR1 hR2 hfit
      generalize sortV (rnd (fitB wide)) (fitV wide f) m = A at *
      have hbM : (fitB wide = 16 ∧ rnd (fitB wide) = 65536) ∨ (fitB wide = 32 ∧ rnd (fitB wide) = 4294967296) := by cases wide <;> simp [fitB, rnd]
      generalize rnd (fitB wide) = M at *
      generalize fitB wide = bt at *
      generalize fitV wide f = x at *
      have HNX : Hid (∀ i, i + 1 < A.length → upV M x (A.getD i 0) < upV M x (A.getD (i + 1) 0)) := by
        show ∀ _, _
        intro i hi
        have := List.pairwise_iff_getElem.1 hmet i (i + 1) (by omega) hi (by omega)
        simpa [List.getD_eq_getElem?_getD, hi, show i < A.length from by omega] using this
      have HCN : Hid (∀ i, i < k → A.count (m.getD i 0) = 1) := by
        show ∀ _, _
        intro i hi
        refine cnt_one _ A hnd ((hmem _).2 ?_)
        rw [List.getD_eq_getElem?_getD, List.getElem?_eq_getElem (by omega)]
        exact List.getElem_mem _
      have HXM := (show Hid _ from hxM)
      clear hmet hnd hmem hAM hmM hxM
      go_wp2_with fail
      refine so1.mono ?_
      rintro e w2 ⟨a2, c2, rfl, hs2, hb2⟩
      clear so1
      go_wp2_with fail
      refine (so2 _ _ _ hs2).mono ?_
      rintro e w3 ⟨a3, c3, rfl, hs3, hb3⟩
      clear so2
      have hs23 := hs2.below hb3
      have hsm3 := (hsm.below hb2).below hb3
      have hbel3 : Below w.heap.size w w3 := hbel.trans ((hb2.mono hbel.size).trans (hb3.mono (Nat.le_trans hbel.size hb2.size)))
      clear hs2 hsm hb2 hb3 hbel hown
      go_wp2_with fail
      refine (same_any _ _ _ _ _ _ A A _ hs23 hs3).mono ?_
      rintro e w4 ⟨rfl, q0, hw4⟩
      rw [sameB_refl]
      have hb4 : Below w3.heap.size w3 w4 := by rw [hw4]; exact drewN_below _ _
      have hsA := hs23.below hb4
      have hsM := hsm3.below hb4
      have hbel4 : Below w.heap.size w w4 := hbel3.trans (hb4.mono hbel3.size)
      clear hw4 hb4 hs23 hsm3 hs3 hbel3
      have hAs := hsA.small
      go_wp2
      go_loopw [17] (fun iv wr => ∃ i q : Nat, i ≤ k ∧ iv = .int .i64 i ∧ wr = w4.drewN q) (fun iv _ => k - (intOf iv).toNat)
      case atStart => exact ⟨0, 0, by omega, rfl, rfl⟩
      case round =>
        obtain ⟨i, q1, hi, rfl, hwr⟩ := hrel
        have hbr : Below w4.heap.size w4 wr := by rw [hwr]; exact drewN_below _ _
        have HWR := (show Hid _ from hwr)
        clear hwr
        by_cases hik : i < k
        · rcases (hsM.below hbr).at_ with h0 | ⟨gm, om, rfl, hltm, hcm⟩
          · omega
          have hci := hcm i hik
          clear hcm
          have HC1 := (show Hid _ from HCN.out i hik)
          generalize m.getD i 0 = y at *
          obtain ⟨W0, hW0⟩ : ∃ W0, W0 = wr := ⟨_, rfl⟩
          subst hW0
          have hi1 : (i : Int) < (k : Int) := by omega
          go_wp2
          go_loopw [18, 19] (fun cv jv wr => ∃ j q : Nat, j ≤ A.length ∧ jv = .int .i64 j ∧ cv = .int .i64 ((A.take j).count y : Nat) ∧ wr = W0.drewN q) (fun _ jv _ => A.length - (intOf jv).toNat)
          case atStart => exact ⟨0, 0, by omega, rfl, by simp, rfl⟩
          case round =>
            obtain ⟨j, q2, hj, rfl, rfl, hwr⟩ := hrel
            have hbr2 : Below W0.heap.size W0 wr := by rw [hwr]; exact drewN_below _ _
            have HW2 := (show Hid _ from hwr)
            clear hwr
            by_cases hjA : j < A.length
            · rcases ((hsA.below hbr).below hbr2).at_ with h0 | ⟨ga, oa, rfl, hlta, hca⟩
              · omega
              have hcj := hca j hjA
              have hci2 := (hbr2.cell (p := ⟨gm, om + i, none⟩) hltm).trans hci
              have HSN := (show Hid _ from cnt_snoc y A j hjA)
              have hcb2 : (A.take j).count y ≤ j := Nat.le_trans List.count_le_length (by simp; omega)
              have hj1 : (j : Int) < (A.length : Int) := by omega
              clear hca hci
              generalize A.getD j 0 = z at *
              generalize (A.take j).count y = cc at *
              by_cases hzy : z = y
              · have H5 : Hid ((A.take (j + 1)).count y = cc + 1) := by show _ = _; rw [HSN.out, if_pos hzy]
                subst hzy
                clear HSN
                go_wp2_with fail
                go_quiet (fail)
                all_goals
                  go_wp2
                  go_roundw
                  case rel => exact ⟨j + 1, _, by omega, by go_num, by rw [H5.out]; go_num, by rw [HW2.out]; exact World.drewN_drewN _ _ _⟩
                  case measure => simp [intOf]; omega
              · have H5 : Hid ((A.take (j + 1)).count y = cc) := by show _ = _; rw [HSN.out, if_neg hzy]; rfl
                have hne : ((z : Int) == (y : Int)) = false := by simp; omega
                clear HSN hzy
                go_wp2_with fail
                go_quiet (fail)
                all_goals
                  go_wp2
                  go_roundw
                  case rel => exact ⟨j + 1, _, by omega, by go_num, by rw [H5.out], by rw [HW2.out]; exact World.drewN_drewN _ _ _⟩
                  case measure => simp [intOf]; omega
            · obtain rfl : j = A.length := by omega
              have H5 : Hid ((A.take A.length).count y = 1) := by show _ = _; rw [List.take_length]; exact HC1.out
              rw [H5.out]
              go_wp2
              go_roundw
              case rel => exact ⟨i + 1, _, by omega, by go_num, by rw [HW2.out, HWR.out]; exact World.drewN_drewN _ _ _⟩
              case measure => simp [intOf]; omega
        · obtain rfl : i = k := by omega
          have hbel5 : Below w.heap.size w wr := hbel4.trans (hbr.mono hbel4.size)
          have hsA5 := hsA.below hbr
          clear HCN HWR hbr hbel4 hsA hsM
          obtain ⟨W0, hW0⟩ : ∃ W0, W0 = wr := ⟨_, rfl⟩
          subst hW0
          have HXM2 := HXM.out
          rcases hbM with ⟨rfl, rfl⟩ | ⟨rfl, rfl⟩
          all_goals
            go_wp2
            go_loopw [21] (fun iv wr => ∃ j q : Nat, j ≤ A.length ∧ iv = .int .i64 j ∧ wr = W0.drewN q) (fun iv _ => A.length - (intOf iv).toNat)
            case atStart => exact ⟨0, 0, by omega, rfl, rfl⟩
            case round =>
              obtain ⟨j, q2, hj, rfl, hwr⟩ := hrel
              have hbr2 : Below W0.heap.size W0 wr := by rw [hwr]; exact drewN_below _ _
              have HW2 := (show Hid _ from hwr)
              clear hwr
              by_cases hjA : j + 1 < A.length
              · rcases (hsA5.below hbr2).at_ with h0 | ⟨ga, oa, rfl, hlta, hca⟩
                · omega
                have hcj := hca j (by omega)
                have hcj1 := hca (j + 1) hjA
                have hlt := HNX.out j hjA
                have hb1 := hsA5.bnd j
                have hb2 := hsA5.bnd (j + 1)
                have hj1 : (j : Int) < (A.length : Int) := by omega
                have hj2 : (j : Int) + 1 < (A.length : Int) := by omega
                have hj3 : (0 : Int) ≤ (j : Int) + 1 := by omega
                have hw1 : IntKind.i64.wrap ((j : Int) + 1) = (j : Int) + 1 := by rw [IntKind.wrap_i64]; omega
                have u1 := up_u64 _ x (A.getD j 0) HXM2
                have u2 := up_u64 _ x (A.getD (j + 1) 0) HXM2
                clear hca HNX
                generalize A.getD j 0 = y at *
                generalize A.getD (j + 1) 0 = z at *
                generalize upV _ x y = uy at *
                generalize upV _ x z = uz at *
                generalize A.length = N at *
                have e1 : IntKind.u64.wrap (y : Int) = y := by rw [IntKind.wrap_u64]; omega
                have e2 : IntKind.u64.wrap (z : Int) = z := by rw [IntKind.wrap_u64]; omega
                go_wp2_with fail
                go_quiet (fail)
                all_goals
                  go_wp2
                  go_roundw
                  case rel => exact ⟨j + 1, _, by omega, by go_num, by rw [HW2.out]; exact World.drewN_drewN _ _ _⟩
                  case measure => simp [intOf]; omega
              · have hj2 : ¬ (j : Int) + 1 < (A.length : Int) := by omega
                have hAk : (A.length : Int) ≤ (i : Int) := by omega
                go_wp2_with fail
                refine (live_any _).mono ?_
                rintro e w6 ⟨rfl, hb6⟩
                have hbr3 := hbel5.trans (hbr2.mono hbel5.size)
                have hbel6 : Below w.heap.size w w6 := hbr3.trans (hb6.mono hbr3.size)
                clear hb6 hbr3 hbr2 hbel5 hsA5 HNX HW2
                go_wp2
                go_ret
                exact ⟨rfl, hbel6⟩
end Go.Proofs.Ytpnfghchllipnab
