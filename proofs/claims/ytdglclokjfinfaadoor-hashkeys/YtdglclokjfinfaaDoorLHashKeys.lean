/- Whatever key, bytes and number: the walk of law05.HashKeys ends with true. -/
import Derived.Test.YtdglclokjfinfaaDoorEqArr
import Derived.Test.YtdglclokjfinfaaDoorAppZ
namespace Go.Proofs.YtdglclokjfinfaaDoor
open Go.RowKit
theorem keyB_long (k : List Nat) (h : 64 < k.length) : keyB (shaN k) = keyB k := by
  unfold keyB
  rw [if_neg (by rw [shaN_len]; omega), if_pos h, shaN_len]
theorem keyB_zeros (k : List Nat) (m : Nat) (h : k.length + m ≤ 64) : keyB (k ++ List.replicate m 0) = keyB k := by
  unfold keyB
  rw [if_neg (by simp; omega), if_neg (by omega), List.length_append, List.length_replicate, List.append_assoc, List.replicate_append_replicate]
  congr 2
  omega
/-- What stands while the two sums under a key are held against one another. -/
structure KyC (w0 : World) (a : Option Addr) (n c : Nat) (ks : List Nat) (a2 : Option Addr) (n2 c2 : Nat) (zs : List Nat) (g : Nat) (W : World) : Prop where
  sK : SlB W a n c ks
  sZ : SlB W a2 n2 c2 zs
  sS : SlB W (some ⟨g, 0, none⟩) 32 32 (shaN ks)
  kw : KW W
  bel : Below w0.heap.size w0 W
theorem KyC.next {w0 : World} {a : Option Addr} {n c : Nat} {ks : List Nat} {a2 : Option Addr} {n2 c2 : Nat} {zs : List Nat} {g : Nat} {W W' : World} (h : KyC w0 a n c ks a2 n2 c2 zs g W) (hb : Below W.heap.size W W') : KyC w0 a n c ks a2 n2 c2 zs g W' :=
  ⟨h.sK.below hb, h.sZ.below hb, h.sS.below hb, h.kw.below (Nat.le_refl _) hb, h.bel.trans (hb.mono h.bel.size)⟩
theorem mac_at (a : Option Addr) (n c : Nat) (ks : List Nat) (a2 : Option Addr) (n2 c2 : Nat) (zs : List Nat) (w : World) (h : SlB w a n c ks) (h2 : SlB w a2 n2 c2 zs) (hk : KW w) (hsz : n ≤ 1152921504606840000) (hsz2 : n2 ≤ 1152921504606830000) (M : List Nat) (hM : macN ks zs = M) (mcs : Array Value) (hmc : mcs = (vals M).toArray) (v1 v2 : Value) (e1 : v1 = .slice a n c) (e2 : v2 = .slice a2 n2 c2) :
    Calls Tryd.prog 12 #[v1, v2] w fun e w' => e = .returned (.agg mcs) ∧ KW w' ∧ Below w.heap.size w w' := by
  subst e1 e2 hmc hM
  exact mac_any a n c ks a2 n2 c2 zs w h h2 hk hsz hsz2
set_option maxRecDepth 100000 in
set_option maxHeartbeats 4000000 in
theorem walk_HashKeys (a : Option Addr) (n c : Nat) (ks : List Nat) (a2 : Option Addr) (n2 c2 : Nat) (zs : List Nat) (m : Nat) (w : World) (h0 : Sl w a n c ks ∧ c * 1 ≤ 140737488351232) (h1 : Sl w a2 n2 c2 zs ∧ c2 * 1 ≤ 140737488351232) (hm : m < 256) (hk : KW w) :
    Calls Tryd.prog 7 #[.slice a n c, .slice a2 n2 c2, .int .u8 (m : Nat)] w fun e w' => e = .returned (.bool true) ∧ Below w.heap.size w w' := by
  have hK : SlB w a n c ks := slB_of h0.1
  have hZ : SlB w a2 n2 c2 zs := slB_of h1.1
  have hn : n ≤ 140737488351232 := by have := h0.1.cap; omega
  have hn2 : n2 ≤ 140737488351232 := by have := h1.1.cap; omega
  have hl := h0.1.len
  clear h0 h1
  by_cases h64 : 64 < n
  · have g1 : (64 : Int) < n := by omega
    have HM : Hid (macN (shaN ks) zs = macN ks zs) := by show _ = _; unfold macN; rw [keyB_long ks (by omega)]
    go_enter Tryd.func7, Tryd.ntmps7
    go_wp2_with fail
    refine (hashSum_any a n c ks w hK hk (by omega)).mono ?_
    rintro e w1 ⟨rfl, hk1, hb1⟩
    obtain ⟨ic, hic⟩ : ∃ ic, ic = vals (shaN ks) := ⟨_, rfl⟩
    rw [← hic]
    have hicl : ic.length = 32 := by rw [hic]; simp [vals, shaN_len]
    have hone2 : ∀ u ∈ ic, u.oneCell' = true := by rw [hic]; exact vals_one _
    have hbB : Below w1.heap.size w1 (w1.alloc (.cells z32 24)) := (Below.refl _ _).alloc (Nat.le_refl _) _
    have hTB := arr32_new w1 [] (w1.alloc (.cells z32 24)) rfl
    have hthB : (w1.alloc (.cells z32 24)).there w1.heap.size 0 ic.toArray.size := by rw [show ic.toArray.size = 32 from hicl]; exact hTB.there
    have hi32 : (Tryd.prog.info? 24).map (·.size) = some ic.toArray.size := by rw [show ic.toArray.size = 32 from hicl]; kernel_rfl
    obtain ⟨w2, hw2⟩ : ∃ w2, w2 = (w1.alloc (.cells z32 24)).setCells w1.heap.size 0 ic := ⟨_, rfl⟩
    have hI2 : Arr8 w2 w1.heap.size w1.heap.size 32 (shaN ks) := by
      rw [hw2, hic]
      have := hTB.copied 0 (shaN ks) (shaN_bnd ks) (by rw [shaN_len]; omega)
      rwa [lay_full _ _ (by rw [outL_len, shaN_len])] at this
    have hb12 : Below w1.heap.size w1 w2 := by rw [hw2]; exact Below.setCells hbB _ _ _ (Nat.le_refl _)
    have hk2 := hk1.below (Nat.le_refl _) hb12
    have hbel2 : Below w.heap.size w w2 := hb1.trans (hb12.mono hb1.size)
    clear hic hTB hbB hk1 hb12
    go_wp2_with (refine wpList_store_mid rfl 24 _ _ rfl w1.heap.size 0 ic.toArray rfl rfl hthB hi32 (all_oneCell_toArray hone2) ?_; change wpList _ _ _ _ _ ((w1.alloc (.cells z32 24)).setCells w1.heap.size 0 ic); rw [← hw2]; clear hw2)
    have hC : KyC w a n c ks a2 n2 c2 zs w1.heap.size w2.drew := KyC.next ⟨hK.below hbel2, hZ.below hbel2, hI2.slB (by omega), hk2, hbel2⟩ (Below.refl _ _).drew
    obtain ⟨mcs, hmc⟩ : ∃ mcs, mcs = (vals (macN ks zs)).toArray := ⟨_, rfl⟩
    have heq := fun W => eq_vals (macN ks zs) (by unfold macN; exact shaN_len _) (by unfold macN; exact shaN_bnd _) W
    rw [← hmc] at heq
    have HMC := (show Hid _ from hmc)
    have hn32 : 32 ≤ 1152921504606840000 := by omega
    have hnn : n ≤ 1152921504606840000 := by omega
    have hnz : n2 ≤ 1152921504606830000 := by omega
    clear hmc hK hZ hI2 hk2 hbel2 hb1 hone2 hi32 hthB hk
    go_region_held3 (fun w' => KyC w a n c ks a2 n2 c2 zs w1.heap.size w') (first | assumption | exact KyC.next (by assumption) (by assumption)) (first
      | (go_at_call 9; refine (live5_any _ (KyC.kw (by assumption))).mono ?_; rintro e w3 ⟨rfl, hk3, hb3⟩; have hC := KyC.next (by assumption) hb3; clear hk3)
      | (go_at_call 12; first
          | (refine (mac_at a n c ks a2 n2 c2 zs _ (KyC.sK (by assumption)) (KyC.sZ (by assumption)) (KyC.kw (by assumption)) hnn hnz _ rfl mcs HMC.out _ _ (by rfl) (by rfl)).mono ?_; rintro e w4 ⟨rfl, hk4, hb4⟩; have hC := KyC.next (by assumption) hb4; clear hk4)
          | (refine (mac_at _ 32 32 (shaN ks) a2 n2 c2 zs _ (KyC.sS (by assumption)) (KyC.sZ (by assumption)) (KyC.kw (by assumption)) hn32 hnz _ HM.out mcs HMC.out _ _ (by rfl) (by rfl)).mono ?_; rintro e w5 ⟨rfl, hk5, hb5⟩; have hC := KyC.next (by assumption) hb5; have he5 := heq w5; clear hk5)
          | fail)
      | fail)
    all_goals
      go_wp2
      go_ret
      exact ⟨rfl, KyC.bel (by assumption)⟩
  · have g1 : ¬ (64 : Int) < n := by omega
    obtain ⟨q, hq⟩ : ∃ q, q = m % (65 - n) := ⟨_, rfl⟩
    have hq1 : (m : Int) % (65 - (n : Int)) = (q : Int) := by
      rw [hq, show (65 : Int) - (n : Int) = ((65 - n : Nat) : Int) from by omega]
      exact (Int.natCast_emod _ _).symm
    have hq2 : n + q ≤ 64 := by have := Nat.mod_lt m (show 0 < 65 - n by omega); omega
    have HM : Hid (macN (ks ++ List.replicate q 0) zs = macN ks zs) := by show _ = _; unfold macN; rw [keyB_zeros ks q (by omega)]
    have hd0 : ¬ (65 : Int) - (n : Int) = 0 := by omega
    have hdw : IntKind.i64.wrap (65 - (n : Int)) = 65 - (n : Int) := by rw [IntKind.wrap_i64]; omega
    clear hq
    go_enter Tryd.func7, Tryd.ntmps7
    go_wp2_with fail
    refine (live5_any _ hk).mono ?_
    rintro e w1 ⟨rfl, hk1, hb1⟩
    have hK1 := hK.below hb1
    have hZ1 := hZ.below hb1
    go_wp2_with fail
    obtain ⟨mcs, hmc⟩ : ∃ mcs, mcs = (vals (macN ks zs)).toArray := ⟨_, rfl⟩
    have heq := fun W => eq_vals (macN ks zs) (by unfold macN; exact shaN_len _) (by unfold macN; exact shaN_bnd _) W
    rw [← hmc] at heq
    have HMC := (show Hid _ from hmc)
    clear hmc
    refine (mac_at a n c ks a2 n2 c2 zs w1 hK1 hZ1 hk1 (by omega) (by omega) _ rfl mcs HMC.out _ _ (by rfl) (by rfl)).mono ?_
    rintro e w2 ⟨rfl, hk2, hb2⟩
    have hK2 := hK1.below hb2
    have hZ2 := hZ1.below hb2
    have hbel2 : Below w.heap.size w w2 := hb1.trans (hb2.mono hb1.size)
    have ho := own_empty w2
    clear hb1 hb2 hk1 hK1 hZ1
    go_wp2_with (at_builtin; go_must (refine app_list rfl _ _ rfl w2.heap.size _ 0 0 [] rfl ho _ n c ks rfl (hK2.1.below ((Below.refl _ _).alloc (Nat.le_refl _) _)) (by omega) (by simp) ?_))
    intro a3 c3 w3 ho3 hg3
    have hb3 : Below w2.heap.size w2 w3 := ((Below.refl _ _).alloc (Nat.le_refl _) _).trans (ho.up hg3 (by simp))
    clear hg3 ho
    have hz3 := hb3.size
    go_wp2_with (at_builtin; go_must (refine zeros_list rfl _ _ rfl w2.heap.size a3 n c3 ks rfl ho3 q rfl (by omega) hz3 ?_))
    intro a4 c4 w4 ho4 hg4
    have hb4 : Below w2.heap.size w2 w4 := hb3.trans (ho3.up hg4 hb3.size)
    have hZ4 := hZ2.below hb4
    have hK4 : SlB w4 a4 (n + q) c4 (ks ++ List.replicate q 0) := slB_of (ho4.sl (by omega))
    have hk4 := hk2.below (Nat.le_refl _) hb4
    have hbel4 : Below w.heap.size w w4 := hbel2.trans (hb4.mono hbel2.size)
    clear hg4 ho4 hb4 hb3 ho3 hK2 hZ2 hk2
    go_wp2_with fail
    refine (mac_at a4 (n + q) c4 _ a2 n2 c2 zs w4 hK4 hZ4 hk4 (by omega) (by omega) _ HM.out mcs HMC.out _ _ (by rfl) (by rfl)).mono ?_
    rintro e w5 ⟨rfl, hk5, hb5⟩
    have he5 := heq w5
    go_wp2
    go_ret
    exact ⟨rfl, hbel4.trans (hb5.mono hbel4.size)⟩
end Go.Proofs.YtdglclokjfinfaaDoor
