/- What hash.bytes answers. -/
import Derived.Test.YtmikhnaffhheoaaDoorArrSl
namespace Go.Proofs.YtmikhnaffhheoaaDoor
open Go.RowKit
theorem bytes4 (x : Nat) (hx : x < 4294967296) : bytesV x 4 = bytesB x 4 ∧ bytesE x 4 = 0 := by
  have h : bytesE x 4 = 0 := by
    unfold bytesE
    rw [if_neg (by omega), if_pos (Nat.div_eq_of_lt (by show x < 256 ^ 4; omega))]
  exact ⟨by unfold bytesV; rw [if_pos h]; rfl, h⟩
theorem bytesB_bnd (x k : Nat) : ∀ i, (bytesB x k).getD i 0 < 256 := by
  induction k with
  | zero => intro i; simp [bytesB]
  | succ k ih =>
    intro i
    cases i with
    | zero => show x / 256 ^ k % 256 < 256; omega
    | succ i => exact ih i
theorem Fr.setCells (b : Nat) : ∀ (vs : List Value) (o : Nat) (w : World), Fr (fun k => k = b) w (w.setCells b o vs) := by
  intro vs
  induction vs with
  | nil => intro o w; exact Fr.refl _ _
  | cons v t ih => intro o w; exact (Fr.setCell (fun k => k = b) w ⟨b, o, none⟩ v rfl).trans (ih (o + 1) (w.setCell ⟨b, o, none⟩ v))
theorem Arr8.fr {P : Nat → Prop} {w w' : World} {B g N : Nat} {L : List Nat} (h : Arr8 w B g N L) (hf : Fr P w w') (hp : ¬ P g) : Arr8 w' B g N L :=
  ⟨h.base, Nat.lt_of_lt_of_le h.lt hf.size, h.len, h.bnd, fun i hi => (hf.cell ⟨g, i, none⟩ h.lt hp).trans (h.cell i hi), fun i => (hf.frozen ⟨g, i, none⟩ h.lt hp).trans (h.free i)⟩
theorem HAt.fr {P : Nat → Prop} {w w' : World} {B p : Nat} {v b : List Nat} {n : Nat} (h : HAt w B p v b n) (hf : Fr P w w') (hp : ¬ P p) : HAt w' B p v b n :=
  ⟨h.base, Nat.lt_of_lt_of_le h.lt hf.size, h.vlen, h.vbnd, h.blen, h.bbnd, fun i hi => (hf.cell ⟨p, i, none⟩ h.lt hp).trans (h.vc i hi), fun i hi => (hf.cell ⟨p, 8 + i, none⟩ h.lt hp).trans (h.bc i hi), (hf.cell ⟨p, 72, none⟩ h.lt hp).trans h.nc, fun i => (hf.frozen ⟨p, i, none⟩ h.lt hp).trans (h.free i)⟩
theorem Arr8.range {w : World} {B g N : Nat} {L : List Nat} (h : Arr8 w B g N L) : w.rangeAt g 0 (vals L) := by
  intro j x hx
  have hj : j < L.length := by have := (List.getElem?_eq_some_iff.1 hx).1; simpa [vals] using this
  rw [Nat.zero_add, h.cell j (by rw [← h.len]; exact hj), ← hx, vals_at L j hj]
theorem Arr8.there {w : World} {B g N : Nat} {L : List Nat} (h : Arr8 w B g N L) : w.there g 0 N := by
  intro j hj
  rw [Nat.zero_add]
  exact ⟨by rw [h.cell j hj]; rfl, h.free j⟩
set_option maxRecDepth 100000 in
set_option maxHeartbeats 4000000 in
theorem hbytes_any (B p : Nat) (v b : List Nat) (n : Nat) (w : World) (h : HAt w B p v b n) :
    Calls Tryd.prog 60 #[.pointer (some ⟨p, 0, none⟩)] w fun e w' => e = .returned (.agg (vals (bytesW v)).toArray) ∧ Below w.heap.size w w' := by
  go_enter Tryd.func60, Tryd.ntmps60
  go_wp2_with fail
  obtain ⟨w0, hw0⟩ : ∃ w0, w0 = w.alloc (.cells z32 66) := ⟨_, rfl⟩
  obtain ⟨W, hW⟩ : ∃ W, W = w0.alloc (.cells z32 66) := ⟨_, rfl⟩
  have hb0 : Below w.heap.size w w0 := by rw [hw0]; exact (Below.refl _ _).alloc (Nat.le_refl _) _
  have hbW0 : Below w0.heap.size w0 W := by rw [hW]; exact (Below.refl _ _).alloc (Nat.le_refl _) _
  have hbW : Below w.heap.size w W := hb0.trans (hbW0.mono hb0.size)
  have hz0 : w0.heap.size = w.heap.size + 1 := by rw [hw0]; simp
  have hT0 := arr32_new w0 v W hW
  have hR0 : Arr8 W w.heap.size w.heap.size 32 (outL v 0) := (arr32_new w v w0 hw0).below hbW0
  have hHW := h.below hbW
  change Code.wp _ _ _ _ ((w.alloc (.cells z32 66)).alloc (.cells z32 66))
  rw [← hw0, ← hW]
  rw [hz0] at hT0
  have hltp := h.lt
  clear hW hw0 hb0 hbW0 hz0
  go_loopw [9] (fun iv wr => ∃ i : Nat, i ≤ 8 ∧ iv = .int .i64 i ∧ Arr8 wr (w.heap.size + 1) (w.heap.size + 1) 32 (outL v i) ∧ Arr8 wr w.heap.size w.heap.size 32 (outL v 0) ∧ HAt wr B p v b n ∧ Below w.heap.size w wr) (fun iv _ => 8 - (intOf iv).toNat)
  case atStart => exact ⟨0, by omega, rfl, hT0, hR0, hHW, hbW⟩
  case round =>
    obtain ⟨i, hi, rfl, hT, hR, hH, hbel⟩ := hrel
    clear hT0 hR0 hHW hbW
    by_cases hi8 : i < 8
    · have hci := hH.vc i hi8
      have hx := hH.vbnd i
      have hby := fun W => bytes_any (v.getD i 0) 4 W (by omega)
      rw [(bytes4 _ hx).1, (bytes4 _ hx).2, bytesB_len] at hby
      have hST := outL_step v i hi8
      have hyb := bytesB_bnd (v.getD i 0) 4
      have hyl := bytesB_len (v.getD i 0) 4
      generalize bytesB (v.getD i 0) 4 = ys at *
      generalize v.getD i 0 = x at *
      have hi1 : (i : Int) < 8 := by omega
      go_wp2_with fail
      go_quiet (fail)
      all_goals
        obtain ⟨w3, hw3⟩ : ∃ w3, w3 = wr.drewN nq := ⟨_, rfl⟩
        rw [← hw3]
        have hb3 : Below wr.heap.size wr w3 := by rw [hw3]; simp only [World.drewN]; exact ⟨rfl, rfl, rfl, Nat.le_refl _, fun k _ => rfl⟩
        clear hw3
        have hxm : (x : Int) % 18446744073709551616 = (x : Int) := by omega
        go_wp2_with fail
        refine (hby _).mono ?_
        rintro e w4 ⟨a4, c4, rfl, ho4, hb4⟩
        have hb34 : Below wr.heap.size wr w4 := hb3.trans (hb4.mono hb3.size)
        have hT4 := hT.below hb34
        have hR4 := hR.below hb34
        have hH4 := hH.below hb34
        have hbel4 : Below w.heap.size w w4 := hbel.trans (hb34.mono hbel.size)
        clear hT hR hH hbel hb3 hb4 hb34 hci
        obtain ⟨a', hsl, ha'⟩ := arr_from 66 32 Tryd.underlying66 (w.heap.size + 1) 0 (4 * i) ((i : Int) * 4) (by omega) (by omega)
        have hcp := copy_arr w4 _ _ 32 _ hT4 (4 * i) (32 - 4 * i) (32 - 4 * i) a' (fun h => by rw [ha' (by omega), Nat.zero_add]) a4 4 c4 ys (ho4.sl (by omega)) (by omega) (by omega)
        obtain ⟨w5, hw5⟩ : ∃ w5, w5 = w4.setCells (w.heap.size + 1) (4 * i) (vals ys) := ⟨_, rfl⟩
        rw [← hw5] at hcp
        have hT5 : Arr8 w5 (w.heap.size + 1) (w.heap.size + 1) 32 (outL v (i + 1)) := by rw [hw5, ← hST]; exact hT4.copied (4 * i) ys hyb (by omega)
        have hbel5 : Below w.heap.size w w5 := by rw [hw5]; exact Below.setCells hbel4 _ _ _ (by omega)
        have hF5 : Fr (fun k => k = w.heap.size + 1) w4 w5 := by rw [hw5]; exact Fr.setCells _ _ _ _
        have hR5 : Arr8 w5 w.heap.size w.heap.size 32 (outL v 0) := hR4.fr hF5 (by omega)
        have hH5 : HAt w5 B p v b n := hH4.fr hF5 (by omega)
        clear hw5 hT4 hR4 hH4 hbel4 ho4 ha' hF5 hST
        go_wp2
        go_roundw
        case rel => exact ⟨i + 1, by omega, by go_num, hT5, hR5, hH5, hbel5⟩
        case measure => simp [intOf]; omega
    · have e8 : i = 8 := by omega
      have hi1 : ¬ (i : Int) < 8 := by omega
      rw [e8, outL_all] at hT
      have hrg := hT.range
      have hcl : (vals (bytesW v)).length = 32 := by have := hT.len; simpa [vals] using this
      have hone := vals_one (bytesW v)
      have hth := hR.there
      obtain ⟨cs, hcs⟩ : ∃ cs, cs = vals (bytesW v) := ⟨_, rfl⟩
      rw [← hcs] at hrg hcl hone
      have HE : Hid (cs = vals (bytesW v)) := hcs
      have hi32 : (Tryd.prog.info? 66).map (·.size) = some cs.length := by rw [hcl]; kernel_rfl
      have hth2 : wr.there w.heap.size 0 cs.toArray.size := by rw [show cs.toArray.size = 32 from hcl]; exact hth
      have hi322 : (Tryd.prog.info? 66).map (·.size) = some cs.toArray.size := hi32
      have hrg2 : (wr.setCells w.heap.size 0 cs).rangeAt w.heap.size 0 cs := World.rangeAt_setCells_same _ _ _ _ (by rw [hcl]; exact hth)
      have HB : Hid (Below w.heap.size w (wr.setCells w.heap.size 0 cs)) := Below.setCells hbel _ _ _ (Nat.le_refl _)
      clear hcs hT hR hbel hcl hth e8 hH
      go_wp2_with (first | (refine wpList_load_mid rfl 66 _ rfl (w.heap.size + 1) 0 rfl cs _ hrg Tryd.underlying66 rfl hi32 ?_) | (refine wpList_store_mid rfl 66 _ _ rfl w.heap.size 0 cs.toArray rfl rfl hth2 hi322 (all_oneCell_toArray hone) ?_))
      try simp only [Exit.inBlock, Exit.then]
      refine bodyPost_ret (results_cell_mid rfl _ _ w.heap.size 0 cs _ rfl hrg2 Tryd.underlying66 rfl hi32) rfl ?_
      exact ⟨by rw [HE.out], HB.out⟩
end Go.Proofs.YtmikhnaffhheoaaDoor
