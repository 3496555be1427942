/- What hash.Sum answers. -/
import Derived.Test.YtmikhnaffhheoaaDoorHSumOf
namespace Go.Proofs.YtmikhnaffhheoaaDoor
open Go.RowKit
/-- A row of bytes whose block is there. -/
def SlB (w : World) (a : Option Addr) (n c : Nat) (zs : List Nat) : Prop := Sl w a n c zs ∧ ∀ k, blkOf a n = some k → k < w.heap.size
theorem slB_of {w : World} {a : Option Addr} {n c : Nat} {zs : List Nat} (h : Sl w a n c zs) : SlB w a n c zs := by
  refine ⟨h, fun k hk => ?_⟩
  rcases h.at_ with h0 | ⟨b, off, rfl, hlt, _⟩
  · simp [blkOf, h0] at hk
  · rw [← blk_of hk]; exact hlt
theorem SlB.below {w w' : World} {a : Option Addr} {n c : Nat} {zs : List Nat} (h : SlB w a n c zs) (hb : Below w.heap.size w w') : SlB w' a n c zs := ⟨h.1.below hb, fun k hk => Nat.lt_of_lt_of_le (h.2 k hk) hb.size⟩
set_option maxRecDepth 100000 in
set_option maxHeartbeats 2000000 in
theorem hashSum_any (a : Option Addr) (n c : Nat) (zs : List Nat) (w : World) (h : SlB w a n c zs) (hk : KW w) (hsz : n ≤ 1152921504606840000) :
    Calls Tryd.prog 44 #[.slice a n c] w fun e w' => e = .returned (.agg (vals (shaN zs)).toArray) ∧ KW w' ∧ Below w.heap.size w w' := by
  have hl := h.1.len
  go_enter Tryd.func44, Tryd.ntmps44
  go_wp2_with fail
  obtain ⟨W0, hW0⟩ : ∃ W0, W0 = w.alloc (.cells z32 66) := ⟨_, rfl⟩
  obtain ⟨W, hW⟩ : ∃ W, W = W0.alloc (.cells #[.slice a n c] 22) := ⟨_, rfl⟩
  change Calls _ _ _ ((w.alloc (.cells z32 66)).alloc (.cells #[.slice a n c] 22)) _
  have hrN := arr32_new w [] W0 hW0
  have hbA : Below w.heap.size w W0 := by rw [hW0]; exact (Below.refl _ _).alloc (Nat.le_refl _) _
  have hbB : Below W0.heap.size W0 W := by rw [hW]; exact (Below.refl _ _).alloc (Nat.le_refl _) _
  have hbW : Below w.heap.size w W := hbA.trans (hbB.mono hbA.size)
  have hz0 : W0.heap.size = w.heap.size + 1 := by rw [hW0]; simp
  have hP : Prt W (w.heap.size + 1) [(a, n, c, zs)] := by
    refine ⟨by rw [hW]; simp; omega, fun i x hx => ?_, fun i x hx => ?_, fun i x hx => ?_⟩
    · cases i with
      | zero =>
        simp at hx; subst hx
        rw [hW, ← hz0, World.cell?_alloc_mark]; rfl
      | succ i => simp at hx
    · cases i with
      | zero => simp at hx; subst hx; exact (h.below hbW).1
      | succ i => simp at hx
    · cases i with
      | zero => simp at hx; subst hx; exact (h.below hbW).2
      | succ i => simp at hx
  have hrW := hrN.below hbB
  have hkW := hk.below (Nat.le_refl _) hbW
  have hfl : flatB [(a, n, c, zs)] = zs := by simp [flatB]
  have hso := sumOf_any (w.heap.size + 1) 1 [(a, n, c, zs)] rfl W hP hkW (by omega) (by rw [hfl]; omega)
  rw [hfl] at hso
  rw [← hW0, ← hW]
  have hk0 := hk.1
  clear hW hW0 hP hfl hrN hbA hbB hz0 hkW
  refine hso.mono ?_
  rintro e w4 ⟨rfl, hk4, hb4⟩
  have hr4 := hrW.below hb4
  have hbel4 : Below w.heap.size w w4 := hbW.trans (hb4.mono hbW.size)
  obtain ⟨cs, hcs⟩ : ∃ cs, cs = vals (shaN zs) := ⟨_, rfl⟩
  have hcl : cs.length = 32 := by rw [hcs]; simp [vals, shaN, bytesW]
  have hone : ∀ u ∈ cs, u.oneCell' = true := by rw [hcs]; exact vals_one _
  have HCS : Hid (cs = vals (shaN zs)) := hcs
  rw [← hcs]
  have hth := hr4.there
  have hi32 : (Tryd.prog.info? 66).map (·.size) = some cs.length := by rw [hcl]; kernel_rfl
  have hth2 : w4.there w.heap.size 0 cs.toArray.size := by rw [show cs.toArray.size = 32 from hcl]; exact hth
  have hi322 : (Tryd.prog.info? 66).map (·.size) = some cs.toArray.size := hi32
  have hrg2 : (w4.setCells w.heap.size 0 cs).rangeAt w.heap.size 0 cs := World.rangeAt_setCells_same _ _ _ _ (by rw [hcl]; exact hth)
  have HB : Hid (Below w.heap.size w (w4.setCells w.heap.size 0 cs)) := Below.setCells hbel4 _ _ _ (Nat.le_refl _)
  have HK : Hid (KW (w4.setCells w.heap.size 0 cs)) := hk4.fr (Fr.setCells _ _ _ _) (by omega)
  clear hcs hth hr4 hrW hbel4 hk4 hso hb4 hcl
  go_wp2_with (refine wpList_store_mid rfl 66 _ _ rfl w.heap.size 0 cs.toArray rfl rfl hth2 hi322 (all_oneCell_toArray hone) ?_)
  try simp only [Exit.inBlock, Exit.then]
  refine bodyPost_ret (results_cell_mid rfl _ _ w.heap.size 0 cs _ rfl hrg2 Tryd.underlying66 rfl hi32) rfl ?_
  exact ⟨by rw [HCS.out], HK.out, HB.out⟩
end Go.Proofs.YtmikhnaffhheoaaDoor
