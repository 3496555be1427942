/- What hash.sumOf and hash.Sum answer. -/
import Derived.Test.YtmikhnaffhheoaaDoorHSum
namespace Go.Proofs.YtmikhnaffhheoaaDoor
open Go.RowKit
/-- A row of rows of bytes as it lies in a world. -/
structure Prt (w : World) (g : Nat) (xs : List (Option Addr × Nat × Nat × List Nat)) : Prop where
  lt : g < w.heap.size
  cell : ∀ (i : Nat) (x : Option Addr × Nat × Nat × List Nat), xs[i]? = some x → w.cell? ⟨g, i, none⟩ = some (.slice x.1 x.2.1 x.2.2.1)
  sl : ∀ (i : Nat) (x : Option Addr × Nat × Nat × List Nat), xs[i]? = some x → Sl w x.1 x.2.1 x.2.2.1 x.2.2.2
  blk : ∀ (i : Nat) (x : Option Addr × Nat × Nat × List Nat), xs[i]? = some x → ∀ k, blkOf x.1 x.2.1 = some k → k < w.heap.size
def flatB (xs : List (Option Addr × Nat × Nat × List Nat)) : List Nat := xs.flatMap (·.2.2.2)
theorem flatB_snoc (xs : List (Option Addr × Nat × Nat × List Nat)) (i : Nat) (x : Option Addr × Nat × Nat × List Nat) (h : xs[i]? = some x) : flatB (xs.take (i + 1)) = flatB (xs.take i) ++ x.2.2.2 := by
  unfold flatB
  rw [List.take_add_one, h]
  simp
theorem flatB_le (xs : List (Option Addr × Nat × Nat × List Nat)) (i : Nat) : (flatB (xs.take i)).length ≤ (flatB xs).length := by
  conv => rhs; rw [← List.take_append_drop i xs]
  unfold flatB
  rw [List.flatMap_append, List.length_append]
  omega
set_option maxRecDepth 100000 in
set_option maxHeartbeats 2000000 in
theorem sumOf_any (g m : Nat) (xs : List (Option Addr × Nat × Nat × List Nat)) (hm : xs.length = m) (w : World) (h : Prt w g xs) (hk : KW w) (hm2 : m ≤ 1000) (hsz : (flatB xs).length ≤ 1152921504606840000) :
    Calls Tryd.prog 35 #[.slice (some ⟨g, 0, none⟩) m m] w fun e w' => e = .returned (.agg (vals (shaN (flatB xs))).toArray) ∧ KW w' ∧ Below w.heap.size w w' := by
  go_enter Tryd.func35, Tryd.ntmps35
  go_wp2_with fail
  obtain ⟨W0, hW0⟩ : ∃ W0, W0 = w.alloc (.cells z32 66) := ⟨_, rfl⟩
  change Calls _ _ _ (w.alloc (.cells z32 66)) _
  have hrN := arr32_new w [] W0 hW0
  have hbA : Below w.heap.size w W0 := by rw [hW0]; exact (Below.refl _ _).alloc (Nat.le_refl _) _
  rw [← hW0]
  clear hW0
  refine (hnew_any W0).mono ?_
  rintro e w1 ⟨p, rfl, hH1, hb1⟩
  have hbel1 : Below w.heap.size w w1 := hbA.trans (hb1.mono hbA.size)
  have hk1 := hk.below (Nat.le_refl _) hbel1
  have hr1 := hrN.below hb1
  have hB1 : HB w1 W0.heap.size p [] := ⟨_, hH1, fun i hi => by simp at hi⟩
  have hpB := hH1.base
  have hW0z : w.heap.size < W0.heap.size := hrN.lt
  have hk0 := hk.1
  clear hH1 hrN hbA hb1
  go_wp2_with fail
  go_loopw [9] (fun iv wr => ∃ i : Nat, i ≤ m ∧ iv = .int .i64 i ∧ HB wr W0.heap.size p (flatB (xs.take i)) ∧ KW wr ∧ Arr8 wr w.heap.size w.heap.size 32 (outL [] 0) ∧ Below w.heap.size w wr) (fun iv _ => m - (intOf iv).toNat)
  case atStart => exact ⟨0, by omega, rfl, hB1, hk1, hr1, hbel1⟩
  case round =>
    obtain ⟨i, hi, rfl, hB, hkr, hr, hbel⟩ := hrel
    clear hB1 hk1 hr1 hbel1
    by_cases him : i < m
    · obtain ⟨x, hx⟩ : ∃ x, xs[i]? = some x := ⟨_, List.getElem?_eq_getElem (by omega)⟩
      have hci := (hbel.cell (p := ⟨g, i, none⟩) h.lt).trans (h.cell i x hx)
      have hsl := (h.sl i x hx).below hbel
      have hbk := h.blk i x hx
      have hfs := flatB_snoc xs i x hx
      have hle := flatB_le xs (i + 1)
      rw [hfs, List.length_append] at hle
      have hxl := hsl.len
      obtain ⟨xa, xn, xc, xz⟩ := x
      simp only at hci hsl hbk hfs hle hxl
      have hwr := hwrite_any W0.heap.size p (flatB (xs.take i)) xa xn xc xz wr hB hkr (by omega) hsl (fun e => by have := hbk p e; omega) (by omega)
      rw [← hfs] at hwr
      have hi1 : (i : Int) < (m : Int) := by omega
      clear hfs hle hx hsl hbk hxl
      go_wp2_with fail
      refine hwr.mono ?_
      rintro e w3 ⟨rfl, hB3, hk3, hF3⟩
      have hr3 := hr.fr hF3 (by omega)
      have hbel3 : Below w.heap.size w w3 := hbel.trans (hF3.below w.heap.size hbel.size (fun k hk => by rw [hk]; omega))
      clear hwr hB hkr hr hbel hF3 hci
      go_wp2
      go_roundw
      case rel => exact ⟨i + 1, by omega, by go_num, hB3, hk3, hr3, hbel3⟩
      case measure => simp [intOf]; omega
    · have hi1 : ¬ (i : Int) < (m : Int) := by omega
      have hz : xs.take i = xs := List.take_of_length_le (by omega)
      rw [hz] at hB
      clear hz
      go_wp2_with fail
      refine (hsum_any _ p _ wr hB hkr hsz).mono ?_
      rintro e w4 ⟨rfl, hk4, hb4⟩
      have hr4 := hr.below hb4
      have hbel4 : Below w.heap.size w w4 := hbel.trans (hb4.mono hbel.size)
      obtain ⟨cs, hcs⟩ : ∃ cs, cs = vals (shaN (flatB xs)) := ⟨_, rfl⟩
      have hcl : cs.length = 32 := by rw [hcs]; simp [vals, shaN, bytesW]
      have hone : ∀ u ∈ cs, u.oneCell' = true := by rw [hcs]; exact vals_one _
      have HCS : Hid (cs = vals (shaN (flatB xs))) := hcs
      rw [← hcs]
      have hth := hr4.there
      have hi32 : (Tryd.prog.info? 66).map (·.size) = some cs.length := by rw [hcl]; kernel_rfl
      have hth2 : w4.there w.heap.size 0 cs.toArray.size := by rw [show cs.toArray.size = 32 from hcl]; exact hth
      have hi322 : (Tryd.prog.info? 66).map (·.size) = some cs.toArray.size := hi32
      have hrg2 : (w4.setCells w.heap.size 0 cs).rangeAt w.heap.size 0 cs := World.rangeAt_setCells_same _ _ _ _ (by rw [hcl]; exact hth)
      have HB : Hid (Below w.heap.size w (w4.setCells w.heap.size 0 cs)) := Below.setCells hbel4 _ _ _ (Nat.le_refl _)
      have HK : Hid (KW (w4.setCells w.heap.size 0 cs)) := hk4.fr (Fr.setCells _ _ _ _) (by omega)
      clear hcs hth hr4 hr hbel4 hbel hk4 hkr hB hb4 hcl
      go_wp2_with (refine wpList_store_mid rfl 66 _ _ rfl w.heap.size 0 cs.toArray rfl rfl hth2 hi322 (all_oneCell_toArray hone) ?_)
      try simp only [Exit.inBlock, Exit.then]
      refine bodyPost_ret (results_cell_mid rfl _ _ w.heap.size 0 cs _ rfl hrg2 Tryd.underlying66 rfl hi32) rfl ?_
      exact ⟨by rw [HCS.out], HK.out, HB.out⟩
end Go.Proofs.YtmikhnaffhheoaaDoor
