/- What Sum of a hash answers. -/
import Derived.Test.YtmikhnaffhheoaaDoorHEnd
namespace Go.Proofs.YtmikhnaffhheoaaDoor
open Go.RowKit
theorem OwnB.blk {w : World} {B : Nat} {a : Option Addr} {n c : Nat} {zs : List Nat} (h : OwnB w B a n c zs) : ∀ k, blkOf a n = some k → B ≤ k ∧ k < w.heap.size := by
  intro k hk
  rcases h.own.2 with ⟨hv, _⟩ | ⟨g, cap, cur, hv, hb, hh, _⟩
  · injection hv with e1
    subst e1
    simp [blkOf] at hk
  · injection hv with e1
    subst e1
    have hk := blk_of hk
    subst hk
    exact h.own.lt g rfl
theorem endB_len (n : Nat) (hn : n * 8 < 18446744073709551616) : (endB n).length ≤ 72 := by
  have := padN_ge n
  rw [endB_eq n hn, lay_len _ _ _ (by simp [bytesB_len]; omega)]; simp; omega
set_option maxRecDepth 100000 in
set_option maxHeartbeats 2000000 in
theorem hsum_any (B p : Nat) (bs : List Nat) (w : World) (h : HB w B p bs) (hk : KW w) (hsz : bs.length ≤ 1152921504606840000) :
    Calls Tryd.prog 47 #[.pointer (some ⟨p, 0, none⟩)] w fun e w' => e = .returned (.agg (vals (shaN bs)).toArray) ∧ KW w' ∧ Below w.heap.size w w' := by
  obtain ⟨b, hH, hW⟩ := h
  have hel := endB_len bs.length (by omega)
  have hrN := arr32_new w [] (w.alloc (.cells z32 66)) rfl
  have hbA : Below w.heap.size w (w.alloc (.cells z32 66)) := (Below.refl _ _).alloc (Nat.le_refl _) _
  have hHA := hH.below hbA
  have hkA := hk.below (Nat.le_refl _) hbA
  obtain ⟨W0, hW0⟩ : ∃ W0, W0 = w.alloc (.cells z32 66) := ⟨_, rfl⟩
  rw [← hW0] at hrN hbA hHA hkA
  have hg0 := hk.1
  go_enter Tryd.func47, Tryd.ntmps47
  go_wp2_with fail
  change Calls _ _ _ (w.alloc (.cells z32 66)) _
  rw [← hW0]
  clear hW0 hH hk
  refine (hfork_any B p _ b _ W0 hHA).mono ?_
  rintro e w1 ⟨q, rfl, hQ1, hb1⟩
  have hH1 := hHA.below hb1
  have hk1 := hkA.below (Nat.le_refl _) hb1
  have hr1 := hrN.below hb1
  have hbel1 : Below w.heap.size w w1 := hbA.trans (hb1.mono hbA.size)
  have hqB : W0.heap.size ≤ q := hQ1.base
  have hW0z : w.heap.size < W0.heap.size := hrN.lt
  clear hHA hkA hrN hb1 hbA
  go_wp2_with fail
  refine (ending_any B p _ b _ w1 hH1 (by omega)).mono ?_
  rintro e w2 ⟨a2, c2, rfl, ho2, hb2⟩
  have hQ2 := hQ1.below hb2
  have hk2 := hk1.below (Nat.le_refl _) hb2
  have hr2 := hr1.below hb2
  have hbel2 : Below w.heap.size w w2 := hbel1.trans (hb2.mono hbel1.size)
  have hblk := ho2.blk
  have hql := hQ1.lt
  have hHB2 : HB w2 W0.heap.size q bs := ⟨b, hQ2, hW⟩
  have hwr := hwrite_any W0.heap.size q bs a2 (endB bs.length).length c2 (endB bs.length) w2 hHB2 hk2 (by omega) (ho2.sl (by omega)) (fun e => by have := hblk q e; omega) (by omega)
  have HWH : Hid (bs ++ endB bs.length = whole bs) := rfl
  rw [HWH.out] at hwr
  clear hQ1 hH1 hk1 hr1 hbel1 hb2 hHB2 hblk ho2
  go_wp2_with fail
  refine hwr.mono ?_
  rintro e w3 ⟨rfl, hB3, hk3, hF3⟩
  obtain ⟨b3, hH3, _⟩ := hB3
  have hr3 := hr2.fr hF3 (by omega)
  have hbel3 : Below w.heap.size w w3 := hbel2.trans (hF3.below w.heap.size hbel2.size (fun k hk => by rw [hk]; omega))
  clear hwr hk2 hr2 hF3 hbel2 hQ2
  go_wp2_with fail
  refine (hbytes_any _ q _ b3 _ w3 hH3).mono ?_
  rintro e w4 ⟨rfl, hb4⟩
  have hk4 := hk3.below (Nat.le_refl _) hb4
  have hr4 := hr3.below hb4
  have hbel4 : Below w.heap.size w w4 := hbel3.trans (hb4.mono hbel3.size)
  obtain ⟨cs, hcs⟩ : ∃ cs, cs = vals (bytesW (compTo (whole bs) ((whole bs).length / 64))) := ⟨_, rfl⟩
  have hcl : cs.length = 32 := by rw [hcs]; simp [vals, bytesW]
  have hone : ∀ u ∈ cs, u.oneCell' = true := by rw [hcs]; exact vals_one _
  have HCS : Hid (cs = vals (shaN bs)) := by show _ = _; rw [hcs]; rfl
  rw [← hcs]
  have hth := hr4.there
  have hi32 : (Tryd.prog.info? 66).map (·.size) = some cs.length := by rw [hcl]; kernel_rfl
  have hth2 : w4.there w.heap.size 0 cs.toArray.size := by rw [show cs.toArray.size = 32 from hcl]; exact hth
  have hi322 : (Tryd.prog.info? 66).map (·.size) = some cs.toArray.size := hi32
  have hrg2 : (w4.setCells w.heap.size 0 cs).rangeAt w.heap.size 0 cs := World.rangeAt_setCells_same _ _ _ _ (by rw [hcl]; exact hth)
  have HB : Hid (Below w.heap.size w (w4.setCells w.heap.size 0 cs)) := Below.setCells hbel4 _ _ _ (Nat.le_refl _)
  have HK : Hid (KW (w4.setCells w.heap.size 0 cs)) := hk4.fr (Fr.setCells _ _ _ _) (by omega)
  clear hcs hth hr4 hr3 hbel4 hbel3 hk4 hk3 hH3 hb4 hcl
  go_wp2_with (refine wpList_store_mid rfl 66 _ _ rfl w.heap.size 0 cs.toArray rfl rfl hth2 hi322 (all_oneCell_toArray hone) ?_)
  try simp only [Exit.inBlock, Exit.then]
  refine bodyPost_ret (results_cell_mid rfl _ _ w.heap.size 0 cs _ rfl hrg2 Tryd.underlying66 rfl hi32) rfl ?_
  exact ⟨by rw [HCS.out], HK.out, HB.out⟩
end Go.Proofs.YtmikhnaffhheoaaDoor
