/- What hash.masked answers. -/
import Derived.Test.YtmikhnaffhheoaaDoorHSum1
namespace Go.Proofs.YtmikhnaffhheoaaDoor
open Go.RowKit
def mskL (ks : List Nat) (x i : Nat) : List Nat := (List.range 64).map fun j => if j < i then ks.getD j 0 ^^^ x else ks.getD j 0
theorem mskL_len (ks : List Nat) (x i : Nat) : (mskL ks x i).length = 64 := by simp [mskL]
theorem mskL_get (ks : List Nat) (x i j : Nat) (hj : j < 64) : (mskL ks x i).getD j 0 = if j < i then ks.getD j 0 ^^^ x else ks.getD j 0 := by
  simp [mskL, List.getD_eq_getElem?_getD, hj]
theorem mskL_out (ks : List Nat) (x i j : Nat) (hj : ¬ j < 64) : (mskL ks x i).getD j 0 = 0 := by
  rw [List.getD_eq_getElem?_getD, List.getElem?_eq_none (by rw [mskL_len]; omega)]; rfl
theorem mskL_all (ks : List Nat) (x : Nat) (hl : ks.length = 64) : mskL ks x 64 = ks.map (· ^^^ x) := by
  refine getD_ext _ _ (by rw [mskL_len]; simp [hl]) (fun j hj => ?_)
  rw [mskL_len] at hj
  rw [mskL_get ks x 64 j hj, if_pos hj]
  simp [List.getD_eq_getElem?_getD, show j < ks.length by omega]
theorem mskL_zero (ks : List Nat) (x : Nat) (hl : ks.length = 64) : mskL ks x 0 = ks := by
  refine getD_ext _ _ (by rw [mskL_len, hl]) (fun j hj => ?_)
  rw [mskL_len] at hj
  rw [mskL_get ks x 0 j hj, if_neg (by omega)]
theorem Arr8.store {w : World} {B g N : Nat} {L : List Nat} (h : Arr8 w B g N L) (i x : Nat) (hi : i < N) (hx : x < 256) (L2 : List Nat) (hl : L2.length = N) (hv : ∀ j, L2.getD j 0 = if j = i then x else L.getD j 0) : Arr8 (w.setCell ⟨g, i, none⟩ (.int .u8 (x : Nat))) B g N L2 := by
  refine ⟨h.base, by simp [World.setCell]; exact h.lt, hl, fun j => ?_, fun j hj => ?_, fun j => by rw [World.frozen?_setCell]; exact h.free j⟩
  · rw [hv]; split
    · exact hx
    · exact h.bnd j
  · rw [hv]
    by_cases e : j = i
    · subst e
      rw [if_pos rfl]
      exact World.cell?_setCell_same' _ _ _ (by rw [h.cell j hi]; rfl)
    · rw [if_neg e, World.cell?_setCell_other _ _ _ _ (by intro e2; injection e2 with _ e3; omega)]
      exact h.cell j hj
theorem arr_of_vals (w : World) (ks : List Nat) (N : Nat) (hl : ks.length = N) (hb : ∀ i, ks.getD i 0 < 256) (T : TypeId) (W : World) (hW : W = w.alloc (.cells (vals ks).toArray T)) : Arr8 W w.heap.size w.heap.size N ks := by
  have hfree : ∀ i, W.frozen? ⟨w.heap.size, i, none⟩ = false := by
    intro i
    have hh : W.heap[w.heap.size]? = some (.cells (vals ks).toArray T) := by
      rw [hW]
      show (w.heap.push _)[w.heap.size]? = _
      simp
    unfold World.frozen?
    dsimp only
    rw [hh]
    simp
  refine ⟨Nat.le_refl _, by rw [hW]; simp, hl, hb, fun i hi => ?_, hfree⟩
  rw [hW, World.cell?_alloc_mark]
  have := vals_at ks i (by omega)
  simpa using this
theorem xor_lt8 (a b : Nat) (ha : a < 256) (hb : b < 256) : a ^^^ b < 256 := Nat.xor_lt_two_pow (n := 8) ha hb
set_option maxRecDepth 100000 in
set_option maxHeartbeats 2000000 in
theorem masked_any (ks : List Nat) (hl : ks.length = 64) (hb : ∀ i, ks.getD i 0 < 256) (x : Nat) (hx : x < 256) (w : World) :
    Calls Tryd.prog 36 #[.agg (vals ks).toArray, .int .u8 (x : Nat)] w fun e w' => ∃ g, e = .returned (.slice (some ⟨g, 0, none⟩) 64 64) ∧ Arr8 w' w.heap.size g 64 (ks.map (· ^^^ x)) ∧ Below w.heap.size w w' := by
  obtain ⟨cs, hcs⟩ : ∃ cs, cs = vals ks := ⟨_, rfl⟩
  obtain ⟨W, hW⟩ : ∃ W, W = w.alloc (.cells cs.toArray 80) := ⟨_, rfl⟩
  have hA0 : Arr8 W w.heap.size w.heap.size 64 (mskL ks x 0) := by rw [mskL_zero ks x hl]; exact arr_of_vals w ks 64 hl hb 80 W (by rw [hW, hcs])
  have hbW : Below w.heap.size w W := by rw [hW]; exact (Below.refl _ _).alloc (Nat.le_refl _) _
  have HALL : Hid (mskL ks x 64 = ks.map (· ^^^ x)) := mskL_all ks x hl
  rw [← hcs]
  clear hcs
  go_enter Tryd.func36, Tryd.ntmps36
  go_wp2_with fail
  rw [← hW]
  clear hW
  go_loopw [6] (fun iv wr => ∃ i : Nat, i ≤ 64 ∧ iv = .int .i64 i ∧ Arr8 wr w.heap.size w.heap.size 64 (mskL ks x i) ∧ Below w.heap.size w wr) (fun iv _ => 64 - (intOf iv).toNat)
  case atStart => exact ⟨0, by omega, rfl, hA0, hbW⟩
  case round =>
    obtain ⟨i, hi, rfl, hA, hbel⟩ := hrel
    clear hA0 hbW
    by_cases hi64 : i < 64
    · have hci := hA.cell i hi64
      have hfi := hA.free i
      rw [mskL_get ks x i i hi64, if_neg (by omega)] at hci
      have hki := hb i
      have hxo := u8_xor_nat (ks.getD i 0) x hki hx
      have HST : Hid (Arr8 (wr.setCell ⟨w.heap.size, i, none⟩ (.int .u8 ((ks.getD i 0 ^^^ x : Nat) : Int))) w.heap.size w.heap.size 64 (mskL ks x (i + 1))) := hA.store i _ hi64 (xor_lt8 _ _ hki hx) _ (mskL_len ks x (i + 1)) (fun j => by
        by_cases hj : j < 64
        · rw [mskL_get ks x (i + 1) j hj, mskL_get ks x i j hj]
          by_cases e : j = i
          · subst e; rw [if_pos (by omega), if_pos rfl]
          · rw [if_neg e]
            by_cases e2 : j < i
            · rw [if_pos (by omega), if_pos e2]
            · rw [if_neg (by omega), if_neg e2]
        · rw [mskL_out ks x (i + 1) j hj, mskL_out ks x i j hj, if_neg (by omega)])
      have HB2 : Hid (Below w.heap.size w (wr.setCell ⟨w.heap.size, i, none⟩ (.int .u8 ((ks.getD i 0 ^^^ x : Nat) : Int)))) := hbel.setCell (p := ⟨w.heap.size, i, none⟩) (Nat.le_refl _) _
      generalize ks.getD i 0 ^^^ x = y at *
      generalize ks.getD i 0 = z at *
      have hi1 : (i : Int) < 64 := by omega
      clear hA hbel
      go_wp2
      go_roundw
      case rel => exact ⟨i + 1, by omega, by go_num, HST.out, HB2.out⟩
      case measure => simp [intOf]; omega
    · have e64 : i = 64 := by omega
      have hi1 : ¬ (i : Int) < 64 := by omega
      rw [e64, HALL.out] at hA
      clear e64
      go_wp2
      go_ret
      exact ⟨w.heap.size, rfl, hA, hbel⟩
end Go.Proofs.YtmikhnaffhheoaaDoor
