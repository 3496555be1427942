/- What hash.keyBlock answers. -/
import Derived.Test.YtmikhnaffhheoaaDoorHMask
namespace Go.Proofs.YtmikhnaffhheoaaDoor
open Go.RowKit
def zb64 : Array Value := #[.int .u8 0, .int .u8 0, .int .u8 0, .int .u8 0, .int .u8 0, .int .u8 0, .int .u8 0, .int .u8 0, .int .u8 0, .int .u8 0, .int .u8 0, .int .u8 0, .int .u8 0, .int .u8 0, .int .u8 0, .int .u8 0, .int .u8 0, .int .u8 0, .int .u8 0, .int .u8 0, .int .u8 0, .int .u8 0, .int .u8 0, .int .u8 0, .int .u8 0, .int .u8 0, .int .u8 0, .int .u8 0, .int .u8 0, .int .u8 0, .int .u8 0, .int .u8 0, .int .u8 0, .int .u8 0, .int .u8 0, .int .u8 0, .int .u8 0, .int .u8 0, .int .u8 0, .int .u8 0, .int .u8 0, .int .u8 0, .int .u8 0, .int .u8 0, .int .u8 0, .int .u8 0, .int .u8 0, .int .u8 0, .int .u8 0, .int .u8 0, .int .u8 0, .int .u8 0, .int .u8 0, .int .u8 0, .int .u8 0, .int .u8 0, .int .u8 0, .int .u8 0, .int .u8 0, .int .u8 0, .int .u8 0, .int .u8 0, .int .u8 0, .int .u8 0]
theorem zb64_vals : zb64 = (vals (List.replicate 64 0)).toArray := by kernel_rfl
theorem rep0 (n i : Nat) : (List.replicate n 0).getD i 0 = 0 := by
  rw [List.getD_eq_getElem?_getD, List.getElem?_replicate]
  split <;> rfl
theorem arrb_new (w W : World) (hW : W = w.alloc (.cells zb64 80)) : Arr8 W w.heap.size w.heap.size 64 (List.replicate 64 0) :=
  arr_of_vals w (List.replicate 64 0) 64 (by simp) (fun i => by rw [rep0]; omega) 80 W (by rw [hW, zb64_vals])
theorem lay_rep (ys : List Nat) (_h : ys.length ≤ 64) : lay (List.replicate 64 0) 0 ys = ys ++ List.replicate (64 - ys.length) 0 := by
  unfold lay
  rw [List.take_zero, List.nil_append, Nat.zero_add, List.drop_replicate]
theorem lay_full (L ys : List Nat) (h : L.length = ys.length) : lay L 0 ys = ys := by
  unfold lay
  rw [List.take_zero, List.nil_append, List.drop_eq_nil_of_le (by omega), List.append_nil]
theorem shaN_len (b : List Nat) : (shaN b).length = 32 := by simp [shaN, bytesW]
theorem shaN_bnd (b : List Nat) : ∀ i, (shaN b).getD i 0 < 256 := by
  intro i
  by_cases h : i < 32
  · simp [shaN, bytesW, List.getD_eq_getElem?_getD, h]; omega
  · rw [List.getD_eq_getElem?_getD, List.getElem?_eq_none (by rw [shaN_len]; omega)]; simp
set_option maxRecDepth 100000 in
set_option maxHeartbeats 4000000 in
theorem keyBlock_any (a : Option Addr) (n c : Nat) (zs : List Nat) (w : World) (h : SlB w a n c zs) (hk : KW w) (hsz : n ≤ 1152921504606840000) :
    Calls Tryd.prog 34 #[.slice a n c] w fun e w' => e = .returned (.agg (vals (keyB zs)).toArray) ∧ KW w' ∧ Below w.heap.size w w' := by
  have hl := h.1.len
  have hk0 := hk.1
  obtain ⟨w0, hw0⟩ : ∃ w0, w0 = w.alloc (.cells zb64 80) := ⟨_, rfl⟩
  obtain ⟨W, hW⟩ : ∃ W, W = w0.alloc (.cells zb64 80) := ⟨_, rfl⟩
  have hb0 : Below w.heap.size w w0 := by rw [hw0]; exact (Below.refl _ _).alloc (Nat.le_refl _) _
  have hbW0 : Below w0.heap.size w0 W := by rw [hW]; exact (Below.refl _ _).alloc (Nat.le_refl _) _
  have hbW : Below w.heap.size w W := hb0.trans (hbW0.mono hb0.size)
  have hz0 : w0.heap.size = w.heap.size + 1 := by rw [hw0]; simp
  have hT0 := arrb_new w0 W hW
  have hR0 := (arrb_new w w0 hw0).below hbW0
  have hsW := h.below hbW
  have hkW := hk.below (Nat.le_refl _) hbW
  rw [hz0] at hT0
  by_cases h64 : n ≤ 64
  · have hn64 : ¬ (64 : Int) < (n : Int) := by omega
    have HKB : Hid (keyB zs = lay (List.replicate 64 0) 0 zs) := by show _ = _; rw [lay_rep zs (by omega)]; unfold keyB; rw [if_neg (by omega)]
    obtain ⟨w5, hw5⟩ : ∃ w5, w5 = W.setCells (w.heap.size + 1) 0 (vals zs) := ⟨_, rfl⟩
    have hcp := copy_arr W _ _ 64 _ hT0 0 64 64 ⟨w.heap.size + 1, 0, none⟩ (fun _ => rfl) a n c zs hsW.1 (by omega) (by omega)
    rw [← hw5] at hcp
    have hT5 : Arr8 w5 (w.heap.size + 1) (w.heap.size + 1) 64 (keyB zs) := by rw [hw5, HKB.out]; exact hT0.copied 0 zs hsW.1.bnd (by rw [hsW.1.len]; omega)
    have hF5 : Fr (fun k => k = w.heap.size + 1) W w5 := by rw [hw5]; exact Fr.setCells _ _ _ _
    have hR5 : Arr8 w5 w.heap.size w.heap.size 64 (List.replicate 64 0) := hR0.fr hF5 (by omega)
    have hk5 : KW w5 := hkW.fr hF5 (by omega)
    have hbel5 : Below w.heap.size w w5 := by rw [hw5]; exact Below.setCells hbW _ _ _ (by omega)
    have hrg := hT5.range
    have hcl : (vals (keyB zs)).length = 64 := by have := hT5.len; simpa [vals] using this
    have hone := vals_one (keyB zs)
    have hth := hR5.there
    obtain ⟨cs, hcs⟩ : ∃ cs, cs = vals (keyB zs) := ⟨_, rfl⟩
    rw [← hcs] at hrg hcl hone
    have HE : Hid (cs = vals (keyB zs)) := hcs
    have hi64 : (Tryd.prog.info? 80).map (·.size) = some cs.length := by rw [hcl]; kernel_rfl
    have hth2 : w5.there w.heap.size 0 cs.toArray.size := by rw [show cs.toArray.size = 64 from hcl]; exact hth
    have hi642 : (Tryd.prog.info? 80).map (·.size) = some cs.toArray.size := hi64
    have hrg2 : (w5.setCells w.heap.size 0 cs).rangeAt w.heap.size 0 cs := World.rangeAt_setCells_same _ _ _ _ (by rw [hcl]; exact hth)
    have HB : Hid (Below w.heap.size w (w5.setCells w.heap.size 0 cs)) := Below.setCells hbel5 _ _ _ (Nat.le_refl _)
    have HK : Hid (KW (w5.setCells w.heap.size 0 cs)) := hk5.fr (Fr.setCells _ _ _ _) (by omega)
    rw [hW, hw0] at hcp
    unfold zb64 at hcp
    clear hcs hth hR5 hT5 hbel5 hk5 hF5 hw5 hT0 hR0 hbW hkW hsW hcl hb0 hbW0 hz0
    clear hW hw0
    go_enter Tryd.func34, Tryd.ntmps34
    go_wp2_with (first | (refine wpList_load_mid rfl 80 _ rfl (w.heap.size + 1) 0 rfl cs _ hrg Tryd.underlying80 rfl hi64 ?_) | (refine wpList_store_mid rfl 80 _ _ rfl w.heap.size 0 cs.toArray rfl rfl hth2 hi642 (all_oneCell_toArray hone) ?_))
    try simp only [Exit.inBlock, Exit.then]
    refine bodyPost_ret (results_cell_mid rfl _ _ w.heap.size 0 cs _ rfl hrg2 Tryd.underlying80 rfl hi64) rfl ?_
    exact ⟨by rw [HE.out], HK.out, HB.out⟩
  · have hn64 : (64 : Int) < (n : Int) := by omega
    have hsum := hashSum_any a n c zs W hsW hkW hsz
    obtain ⟨ss, hss⟩ : ∃ ss, ss = vals (shaN zs) := ⟨_, rfl⟩
    rw [← hss] at hsum
    go_enter Tryd.func34, Tryd.ntmps34
    go_wp2_with fail
    change Calls _ _ _ ((w.alloc (.cells zb64 80)).alloc (.cells zb64 80)) _
    rw [← hw0, ← hW]
    refine hsum.mono ?_
    rintro e w1 ⟨rfl, hk1, hb1⟩
    have hbA : Below w1.heap.size w1 (w1.alloc (.cells z32 66)) := (Below.refl _ _).alloc (Nat.le_refl _) _
    have hTA := arr32_new w1 [] (w1.alloc (.cells z32 66)) rfl
    have hssl : ss.length = 32 := by rw [hss]; simp [vals, shaN_len]
    have hone1 : ∀ u ∈ ss, u.oneCell' = true := by rw [hss]; exact vals_one _
    have hthA : (w1.alloc (.cells z32 66)).there w1.heap.size 0 ss.toArray.size := by rw [show ss.toArray.size = 32 from hssl]; exact hTA.there
    have hiA : (Tryd.prog.info? 66).map (·.size) = some ss.toArray.size := by rw [show ss.toArray.size = 32 from hssl]; kernel_rfl
    obtain ⟨w4, hw4⟩ : ∃ w4, w4 = (w1.alloc (.cells z32 66)).setCells w1.heap.size 0 ss := ⟨_, rfl⟩
    have hS4 : Arr8 w4 w1.heap.size w1.heap.size 32 (shaN zs) := by
      rw [hw4, hss]
      have := hTA.copied 0 (shaN zs) (shaN_bnd zs) (by rw [shaN_len]; omega)
      rwa [lay_full _ _ (by rw [outL_len, shaN_len])] at this
    have hb14 : Below w1.heap.size w1 w4 := by rw [hw4]; exact Below.setCells hbA _ _ _ (Nat.le_refl _)
    have hbW4 : Below W.heap.size W w4 := hb1.trans (hb14.mono hb1.size)
    have hT4 := hT0.below hbW4
    have hR4 := hR0.below hbW4
    have hk4 := hk1.below (Nat.le_refl _) hb14
    have hbel4 : Below w.heap.size w w4 := hbW.trans (hbW4.mono hbW.size)
    have hsl4 : Sl w4 (some ⟨w1.heap.size, 0, none⟩) 32 32 (shaN zs) := ⟨shaN_len zs, Nat.le_refl _, by unfold maxLen; omega, by omega, fun e => (by cases e), shaN_bnd zs, .inr ⟨w1.heap.size, 0, rfl, hS4.lt, fun i hi => by rw [Nat.zero_add]; exact hS4.cell i hi⟩⟩
    have HKB : Hid (keyB zs = lay (List.replicate 64 0) 0 (shaN zs)) := by show _ = _; rw [lay_rep _ (by rw [shaN_len]; omega), shaN_len]; unfold keyB; rw [if_pos (by omega)]
    obtain ⟨w5, hw5⟩ : ∃ w5, w5 = w4.setCells (w.heap.size + 1) 0 (vals (shaN zs)) := ⟨_, rfl⟩
    have hcp := copy_arr w4 _ _ 64 _ hT4 0 64 64 ⟨w.heap.size + 1, 0, none⟩ (fun _ => rfl) (some ⟨w1.heap.size, 0, none⟩) 32 32 (shaN zs) hsl4 (by omega) (by omega)
    rw [← hw5] at hcp
    have hT5 : Arr8 w5 (w.heap.size + 1) (w.heap.size + 1) 64 (keyB zs) := by rw [hw5, HKB.out]; exact hT4.copied 0 (shaN zs) hsl4.bnd (by rw [hsl4.len]; omega)
    have hF5 : Fr (fun k => k = w.heap.size + 1) w4 w5 := by rw [hw5]; exact Fr.setCells _ _ _ _
    have hR5 : Arr8 w5 w.heap.size w.heap.size 64 (List.replicate 64 0) := hR4.fr hF5 (by omega)
    have hk5 : KW w5 := hk4.fr hF5 (by omega)
    have hbel5 : Below w.heap.size w w5 := by rw [hw5]; exact Below.setCells hbel4 _ _ _ (by omega)
    have hrg := hT5.range
    have hcl : (vals (keyB zs)).length = 64 := by have := hT5.len; simpa [vals] using this
    have hone := vals_one (keyB zs)
    have hth := hR5.there
    obtain ⟨cs, hcs⟩ : ∃ cs, cs = vals (keyB zs) := ⟨_, rfl⟩
    rw [← hcs] at hrg hcl hone
    have HE : Hid (cs = vals (keyB zs)) := hcs
    have hi64 : (Tryd.prog.info? 80).map (·.size) = some cs.length := by rw [hcl]; kernel_rfl
    have hth2 : w5.there w.heap.size 0 cs.toArray.size := by rw [show cs.toArray.size = 64 from hcl]; exact hth
    have hi642 : (Tryd.prog.info? 80).map (·.size) = some cs.toArray.size := hi64
    have hrg2 : (w5.setCells w.heap.size 0 cs).rangeAt w.heap.size 0 cs := World.rangeAt_setCells_same _ _ _ _ (by rw [hcl]; exact hth)
    have HB : Hid (Below w.heap.size w (w5.setCells w.heap.size 0 cs)) := Below.setCells hbel5 _ _ _ (Nat.le_refl _)
    have HK : Hid (KW (w5.setCells w.heap.size 0 cs)) := hk5.fr (Fr.setCells _ _ _ _) (by omega)
    have hw1z : w.heap.size < w1.heap.size := Nat.lt_of_lt_of_le hR0.lt hb1.size
    clear hsum hTA hbA hb14 hbW4 hS4 hT0 hR0 hbW hkW hsW hk1 hb1 hW hw0 hb0 hbW0 hz0 hssl hss
    clear hcs hth hR5 hT5 hbel5 hk5 hF5 hw5 hT4 hR4 hbel4 hk4 hsl4 hcl
    go_wp2_with (first | (refine wpList_store_mid rfl 66 _ _ rfl w1.heap.size 0 ss.toArray rfl rfl hthA hiA (all_oneCell_toArray hone1) ?_; change wpList _ _ _ _ _ ((w1.alloc (.cells z32 66)).setCells w1.heap.size 0 ss); rw [← hw4]; clear hw4) | (refine wpList_load_mid rfl 80 _ rfl (w.heap.size + 1) 0 rfl cs _ hrg Tryd.underlying80 rfl hi64 ?_) | (refine wpList_store_mid rfl 80 _ _ rfl w.heap.size 0 cs.toArray rfl rfl hth2 hi642 (all_oneCell_toArray hone) ?_))
    try simp only [Exit.inBlock, Exit.then]
    refine bodyPost_ret (results_cell_mid rfl _ _ w.heap.size 0 cs _ rfl hrg2 Tryd.underlying80 rfl hi64) rfl ?_
    exact ⟨by rw [HE.out], HK.out, HB.out⟩
end Go.Proofs.YtmikhnaffhheoaaDoor
