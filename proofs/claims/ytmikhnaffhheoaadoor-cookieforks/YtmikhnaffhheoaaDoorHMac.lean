/- What hash.Mac answers. -/
import Derived.Test.YtmikhnaffhheoaaDoorHKey
import Derived.Deep.RegionHeld3
namespace Go.Proofs.YtmikhnaffhheoaaDoor
open Go.RowKit
theorem keyB_len (k : List Nat) : (keyB k).length = 64 := by
  unfold keyB
  split
  · simp [shaN_len]
  · simp; omega
theorem keyB_bnd (k : List Nat) (hk : ∀ i, k.getD i 0 < 256) : ∀ i, (keyB k).getD i 0 < 256 := by
  intro i
  unfold keyB
  split
  · rw [getD_appN]; split
    · exact shaN_bnd k i
    · rw [rep0]; omega
  · rw [getD_appN]; split
    · exact hk i
    · rw [rep0]; omega
theorem prt2 (w W : World) (T : TypeId) (a1 : Option Addr) (n1 c1 : Nat) (z1 : List Nat) (a2 : Option Addr) (n2 c2 : Nat) (z2 : List Nat) (hW : W = w.alloc (.cells #[.slice a1 n1 c1, .slice a2 n2 c2] T)) (h1 : SlB w a1 n1 c1 z1) (h2 : SlB w a2 n2 c2 z2) : Prt W w.heap.size [(a1, n1, c1, z1), (a2, n2, c2, z2)] := by
  have hb : Below w.heap.size w W := by rw [hW]; exact (Below.refl _ _).alloc (Nat.le_refl _) _
  refine ⟨by rw [hW]; simp, fun i x hx => ?_, fun i x hx => ?_, fun i x hx => ?_⟩
  · rcases i with _ | _ | i
    · simp at hx; subst hx; rw [hW, World.cell?_alloc_mark]; rfl
    · simp at hx; subst hx; rw [hW, World.cell?_alloc_mark]; rfl
    · simp at hx
  · rcases i with _ | _ | i
    · simp at hx; subst hx; exact (h1.below hb).1
    · simp at hx; subst hx; exact (h2.below hb).1
    · simp at hx
  · rcases i with _ | _ | i
    · simp at hx; subst hx; exact (h1.below hb).2
    · simp at hx; subst hx; exact (h2.below hb).2
    · simp at hx
theorem Arr8.slB {w : World} {B g N : Nat} {L : List Nat} (h : Arr8 w B g N L) (hN : N ≤ 1000) : SlB w (some ⟨g, 0, none⟩) N N L :=
  ⟨⟨h.len, Nat.le_refl _, by unfold maxLen; omega, by omega, fun e => (by cases e), h.bnd, .inr ⟨g, 0, rfl, h.lt, fun i hi => by rw [Nat.zero_add]; exact h.cell i hi⟩⟩, fun k hk => by rw [← blk_of hk]; exact h.lt⟩
set_option maxRecDepth 100000 in
set_option maxHeartbeats 4000000 in
theorem mac_any (a : Option Addr) (n c : Nat) (ks : List Nat) (a2 : Option Addr) (n2 c2 : Nat) (zs : List Nat) (w : World) (h : SlB w a n c ks) (h2 : SlB w a2 n2 c2 zs) (hk : KW w) (hsz : n ≤ 1152921504606840000) (hsz2 : n2 ≤ 1152921504606830000) :
    Calls Tryd.prog 22 #[.slice a n c, .slice a2 n2 c2] w fun e w' => e = .returned (.agg (vals (macN ks zs)).toArray) ∧ KW w' ∧ Below w.heap.size w w' := by
  have hl2 := h2.1.len
  have hk0 := hk.1
  have hkl := keyB_len ks
  have hkb := keyB_bnd ks h.1.bnd
  obtain ⟨w0, hw0⟩ : ∃ w0, w0 = w.alloc (.cells z32 66) := ⟨_, rfl⟩
  have hb0 : Below w.heap.size w w0 := by rw [hw0]; exact (Below.refl _ _).alloc (Nat.le_refl _) _
  have hR0 := arr32_new w [] w0 hw0
  go_enter Tryd.func22, Tryd.ntmps22
  go_wp2_with fail
  change Calls _ _ _ (w.alloc (.cells z32 66)) _
  rw [← hw0]
  clear hw0
  refine (keyBlock_any a n c ks w0 (h.below hb0) (hk.below (Nat.le_refl _) hb0) hsz).mono ?_
  rintro e w1 ⟨rfl, hk1, hb1⟩
  have hR1 := hR0.below hb1
  have hbel1 : Below w.heap.size w w1 := hb0.trans (hb1.mono hb0.size)
  have h21 := h2.below hbel1
  obtain ⟨K, hK⟩ : ∃ K, K = keyB ks := ⟨_, rfl⟩
  rw [← hK] at hkl hkb ⊢
  have HK := (show Hid _ from hK)
  have hmk := fun W x hx => masked_any K hkl hkb x hx W
  obtain ⟨kc, hkc⟩ : ∃ kc, kc = vals K := ⟨_, rfl⟩
  rw [← hkc] at hmk ⊢
  have hkcl : kc.length = 64 := by rw [hkc]; simp [vals, hkl]
  have hone1 : ∀ u ∈ kc, u.oneCell' = true := by rw [hkc]; exact vals_one _
  have hbA : Below w1.heap.size w1 (w1.alloc (.cells zb64 80)) := (Below.refl _ _).alloc (Nat.le_refl _) _
  have hTA := arrb_new w1 (w1.alloc (.cells zb64 80)) rfl
  have hthA : (w1.alloc (.cells zb64 80)).there w1.heap.size 0 kc.toArray.size := by rw [show kc.toArray.size = 64 from hkcl]; exact hTA.there
  have hi64 : (Tryd.prog.info? 80).map (·.size) = some kc.length := by rw [hkcl]; kernel_rfl
  have hiA : (Tryd.prog.info? 80).map (·.size) = some kc.toArray.size := hi64
  obtain ⟨w2, hw2⟩ : ∃ w2, w2 = (w1.alloc (.cells zb64 80)).setCells w1.heap.size 0 kc := ⟨_, rfl⟩
  have hS2 : Arr8 w2 w1.heap.size w1.heap.size 64 K := by
    rw [hw2, hkc]
    have := hTA.copied 0 K hkb (by rw [hkl]; omega)
    rwa [lay_full _ _ (by rw [List.length_replicate, hkl])] at this
  have hb12 : Below w1.heap.size w1 w2 := by rw [hw2]; exact Below.setCells hbA _ _ _ (Nat.le_refl _)
  have hrgK : w2.rangeAt w1.heap.size 0 kc := by rw [hkc]; exact hS2.range
  have hR2 := hR1.below hb12
  have hk2 := hk1.below (Nat.le_refl _) hb12
  have h22 := h21.below hb12
  have hbel2 : Below w.heap.size w w2 := hbel1.trans (hb12.mono hbel1.size)
  have hm54 := hmk w2 54 (by omega)
  have HKC := (show Hid _ from hkc)
  have hw1z : w.heap.size < w1.heap.size := hR1.lt
  clear hkc hK hb0 hb1 hR0 hTA hbA hR1 hk1 h21 hbel1 hb12 hl2
  go_wp2_with (first | (refine wpList_store_mid rfl 80 _ _ rfl w1.heap.size 0 kc.toArray rfl rfl hthA hiA (all_oneCell_toArray hone1) ?_; change wpList _ _ _ _ _ ((w1.alloc (.cells zb64 80)).setCells w1.heap.size 0 kc); rw [← hw2]; clear hw2) | (refine wpList_load_mid rfl 80 _ rfl w1.heap.size 0 rfl kc _ hrgK Tryd.underlying80 rfl hi64 ?_))
  refine hm54.mono ?_
  rintro e w3 ⟨g1, rfl, hA3, hb3⟩
  have hR3 := hR2.below hb3
  have hk3 := hk2.below (Nat.le_refl _) hb3
  have h23 := h22.below hb3
  have hS3 := hS2.below hb3
  have hbel3 : Below w.heap.size w w3 := hbel2.trans (hb3.mono hbel2.size)
  have hw2z : w1.heap.size < w2.heap.size := hS2.lt
  clear hm54 hR2 hk2 h22 hS2 hbel2 hb3 hrgK
  obtain ⟨w4, hw4⟩ : ∃ w4, w4 = w3.alloc (.cells #[.slice (some ⟨g1, 0, none⟩) 64 64, .slice a2 n2 c2] 22) := ⟨_, rfl⟩
  have hb4 : Below w3.heap.size w3 w4 := by rw [hw4]; exact (Below.refl _ _).alloc (Nat.le_refl _) _
  have hP4 := prt2 w3 w4 22 _ _ _ _ _ _ _ _ hw4 (hA3.slB (by omega)) h23
  have hfl1 : flatB [((some ⟨g1, 0, none⟩ : Option Addr), 64, 64, K.map (· ^^^ 54)), (a2, n2, c2, zs)] = K.map (· ^^^ 54) ++ zs := by simp [flatB]
  have hso := sumOf_any w3.heap.size 2 _ rfl w4 hP4 (hk3.below (Nat.le_refl _) hb4) (by omega) (by rw [hfl1]; simp [hkl]; have := h23.1.len; omega)
  rw [hfl1] at hso
  go_wp2_with fail
  rw [← hw4]
  clear hw4 hP4 hfl1
  refine hso.mono ?_
  rintro e w5 ⟨rfl, hk5, hb45⟩
  have hb35 : Below w3.heap.size w3 w5 := hb4.trans (hb45.mono hb4.size)
  have hR5 := hR3.below hb35
  have hS5 := hS3.below hb35
  have hbel5 : Below w.heap.size w w5 := hbel3.trans (hb35.mono hbel3.size)
  have hw3z : w1.heap.size < w3.heap.size := hS3.lt
  clear hso hR3 hS3 hbel3 hb4 hb45 hk3 h23 hA3
  obtain ⟨I, hI⟩ : ∃ I, I = K.map (· ^^^ 54) ++ zs := ⟨_, rfl⟩
  rw [← hI]
  obtain ⟨ic, hic⟩ : ∃ ic, ic = vals (shaN I) := ⟨_, rfl⟩
  rw [← hic]
  have hicl : ic.length = 32 := by rw [hic]; simp [vals, shaN_len]
  have hone2 : ∀ u ∈ ic, u.oneCell' = true := by rw [hic]; exact vals_one _
  have hbB : Below w5.heap.size w5 (w5.alloc (.cells z32 66)) := (Below.refl _ _).alloc (Nat.le_refl _) _
  have hTB := arr32_new w5 [] (w5.alloc (.cells z32 66)) rfl
  have hthB : (w5.alloc (.cells z32 66)).there w5.heap.size 0 ic.toArray.size := by rw [show ic.toArray.size = 32 from hicl]; exact hTB.there
  have hi32 : (Tryd.prog.info? 66).map (·.size) = some ic.toArray.size := by rw [show ic.toArray.size = 32 from hicl]; kernel_rfl
  obtain ⟨w6, hw6⟩ : ∃ w6, w6 = (w5.alloc (.cells z32 66)).setCells w5.heap.size 0 ic := ⟨_, rfl⟩
  have hI6 : Arr8 w6 w5.heap.size w5.heap.size 32 (shaN I) := by
    rw [hw6, hic]
    have := hTB.copied 0 (shaN I) (shaN_bnd I) (by rw [shaN_len]; omega)
    rwa [lay_full _ _ (by rw [outL_len, shaN_len])] at this
  have hb56 : Below w5.heap.size w5 w6 := by rw [hw6]; exact Below.setCells hbB _ _ _ (Nat.le_refl _)
  have hR6 := hR5.below hb56
  have hS6 := hS5.below hb56
  have hk6 := hk5.below (Nat.le_refl _) hb56
  have hbel6 : Below w.heap.size w w6 := hbel5.trans (hb56.mono hbel5.size)
  have hrgK6 : w6.rangeAt w1.heap.size 0 kc := by rw [HKC.out]; exact hS6.range
  have hm92 := hmk w6 92 (by omega)
  have HIC := (show Hid _ from hI)
  have hw5z : w1.heap.size < w5.heap.size := hS5.lt
  clear hic hI hTB hbB hR5 hS5 hk5 hbel5 hb56
  go_wp2_with (first | (refine wpList_store_mid rfl 66 _ _ rfl w5.heap.size 0 ic.toArray rfl rfl hthB hi32 (all_oneCell_toArray hone2) ?_; change wpList _ _ _ _ _ ((w5.alloc (.cells z32 66)).setCells w5.heap.size 0 ic); rw [← hw6]; clear hw6) | (refine wpList_load_mid rfl 80 _ rfl w1.heap.size 0 rfl kc _ hrgK6 Tryd.underlying80 rfl hi64 ?_))
  have hSx := hS6
  have hRx := hR6
  have HMAC : Hid (shaN (K.map (· ^^^ 92) ++ shaN I) = macN ks zs) := by show _ = _; rw [HIC.out, HK.out]; rfl
  obtain ⟨cs, hcs⟩ : ∃ cs, cs = vals (macN ks zs) := ⟨_, rfl⟩
  have hcl : cs.length = 32 := by rw [hcs]; simp [vals, macN, shaN_len]
  have hone : ∀ u ∈ cs, u.oneCell' = true := by rw [hcs]; exact vals_one _
  have HCS : Hid (cs = vals (macN ks zs)) := hcs
  have hso2 : ∀ (B7 : Nat) (w7 : World) (g2 : Nat), Arr8 w7 B7 g2 64 (K.map (· ^^^ 92)) → Arr8 w7 w5.heap.size w5.heap.size 32 (shaN I) → KW w7 → Calls Tryd.prog 35 #[.slice (some ⟨w7.heap.size, 0, none⟩) 2 2] (w7.alloc (.cells #[.slice (some ⟨g2, 0, none⟩) 64 64, .slice (some ⟨w5.heap.size, 0, none⟩) 32 32] 22)) fun e w' => e = .returned (.agg cs.toArray) ∧ KW w' ∧ Below w7.heap.size w7 w' := by
    intro B7 w7 g2 hA hI hkk
    have hb8 : Below w7.heap.size w7 (w7.alloc (.cells #[.slice (some ⟨g2, 0, none⟩) 64 64, .slice (some ⟨w5.heap.size, 0, none⟩) 32 32] 22)) := (Below.refl _ _).alloc (Nat.le_refl _) _
    have hfl2 : flatB [((some ⟨g2, 0, none⟩ : Option Addr), 64, 64, K.map (· ^^^ 92)), (some ⟨w5.heap.size, 0, none⟩, 32, 32, shaN I)] = K.map (· ^^^ 92) ++ shaN I := by simp [flatB]
    have hso := sumOf_any w7.heap.size 2 _ rfl _ (prt2 w7 _ 22 _ _ _ _ _ _ _ _ rfl (hA.slB (by omega)) (hI.slB (by omega))) (hkk.below (Nat.le_refl _) hb8) (by omega) (by rw [hfl2]; simp [hkl, shaN_len])
    rw [hfl2, HMAC.out, ← hcs] at hso
    exact hso.mono fun e w' ⟨h1, h2, h3⟩ => ⟨h1, h2, hb8.trans (h3.mono hb8.size)⟩
  have hu48 := Tryd.underlying80
  have hu24 := Tryd.underlying66
  have hi24 : (Tryd.prog.info? 66).map (·.size) = some cs.length := by rw [hcl]; kernel_rfl
  clear hm92 hrgK6 hcs HMAC HIC
  go_region_held3 (fun w' => w'.rangeAt w1.heap.size 0 kc ∧ w'.there w.heap.size 0 32) (first
      | exact ⟨by rw [HKC.out]; exact hSx.range, hRx.there⟩
      | exact ⟨by rw [HKC.out]; exact (hSx.below (Below.refl _ _).drew).range, (hRx.below (Below.refl _ _).drew).there⟩
      | exact ⟨by rw [HKC.out]; exact (hSx.below ((Below.refl _ _).alloc (Nat.le_refl _) _)).range, (hRx.below ((Below.refl _ _).alloc (Nat.le_refl _) _)).there⟩
      | exact ⟨by rw [HKC.out]; exact (hSx.fr (Fr.setCells _ _ _ _) (by omega)).range, World.there_setCells hRx.there _ _ _⟩) (first
    | (go_at_call 36; refine (hmk _ 92 (by omega)).mono ?_; rintro e w7 ⟨g2, rfl, hA7, hb7⟩; have hb67 : Below w6.heap.size w6 w7 := ((Below.refl _ _).drew).trans hb7; have hSx := hS6.below hb67; have hRx := hR6.below hb67; have hI7 := hI6.below hb67; have hk7 := hk6.below (Nat.le_refl _) hb67; have hbel7 : Below w.heap.size w w7 := hbel6.trans (hb67.mono hbel6.size))
    | (go_at_call 35; refine (hso2 _ w7 g2 hA7 hI7 hk7).mono ?_; rintro e w9 ⟨rfl, hk9, hb79⟩; have hSx := hSx.below hb79; have hRx := hRx.below hb79; have hbel9 : Below w.heap.size w w9 := hbel7.trans (hb79.mono hbel7.size))
    | fail)
  all_goals
    have hrg2 : (w9.setCells w.heap.size 0 cs).rangeAt w.heap.size 0 cs := World.rangeAt_setCells_same _ _ _ _ (by rw [hcl]; exact hRx.there)
    have HB : Hid (Below w.heap.size w (w9.setCells w.heap.size 0 cs)) := Below.setCells hbel9 _ _ _ (Nat.le_refl _)
    have HKW : Hid (KW (w9.setCells w.heap.size 0 cs)) := hk9.fr (Fr.setCells _ _ _ _) (by omega)
    go_wp2
    try simp only [Exit.inBlock, Exit.then]
    refine bodyPost_ret (results_cell_mid rfl _ _ w.heap.size 0 cs _ rfl hrg2 hu24 rfl hi24) rfl ?_
    exact ⟨by rw [HCS.out], HKW.out, HB.out⟩
end Go.Proofs.YtmikhnaffhheoaaDoor
