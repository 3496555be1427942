/- What ending of a hash answers. -/
import Derived.Test.YtmikhnaffhheoaaDoorHWrite
namespace Go.Proofs.YtmikhnaffhheoaaDoor
open Go.RowKit
theorem bytes8 (x : Nat) (hx : x < 18446744073709551616) : bytesV x 8 = bytesB x 8 ∧ bytesE x 8 = 0 := by
  have h : bytesE x 8 = 0 := by
    unfold bytesE
    rw [if_neg (by omega), if_pos (Nat.div_eq_of_lt (by show x < 256 ^ 8; omega))]
  exact ⟨by unfold bytesV; rw [if_pos h]; rfl, h⟩
theorem padN_ge (n : Nat) : 9 ≤ padN n ∧ padN n ≤ 72 := by
  unfold padN
  split <;> omega
theorem endB_eq (n : Nat) (hn : n * 8 < 18446744073709551616) : endB n = lay ((List.replicate (padN n) 0).set 0 128) (padN n - 8) (bytesB (n * 8) 8) := by
  have h := padN_ge n
  obtain ⟨q, hq⟩ : ∃ q, padN n = q + 9 := ⟨padN n - 9, by omega⟩
  unfold endB lay
  rw [hq, Nat.mod_eq_of_lt hn, show q + 9 - 9 = q from by omega, show q + 9 - 8 = q + 1 from by omega, List.replicate_succ, List.set_cons_zero, List.take_succ_cons, List.take_replicate, bytesB_len, Nat.min_eq_left (by omega)]
  rw [List.drop_eq_nil_of_le (by simp), List.append_nil]
  rfl
set_option maxRecDepth 100000 in
set_option maxHeartbeats 2000000 in
theorem ending_any (B p : Nat) (v b : List Nat) (n : Nat) (w : World) (h : HAt w B p v b n) (hn : n ≤ 1152921504606846976) :
    Calls Tryd.prog 59 #[.pointer (some ⟨p, 0, none⟩)] w fun e w' => ∃ a c, e = .returned (.slice a (endB n).length c) ∧ OwnB w' w.heap.size a (endB n).length c (endB n) ∧ Below w.heap.size w w' := by
  have hc := h.nc
  obtain ⟨o, ho⟩ : ∃ o, o = n % 64 := ⟨_, rfl⟩
  have htm : Int.tmod (n : Int) 64 = (o : Int) := by rw [Int.tmod_eq_emod_of_nonneg (by omega)]; omega
  have ho64 : o < 64 := by omega
  obtain ⟨r0, hr0⟩ : ∃ r0 : Nat, (64 : Int) - (o : Int) = (r0 : Int) := ⟨64 - o, by omega⟩
  have hw1 : IntKind.i64.wrap (64 - (o : Int)) = (r0 : Int) := by rw [IntKind.wrap_i64]; omega
  by_cases hsm : o ≤ 55
  · have hlt : ¬ (r0 : Int) < 9 := by omega
    obtain ⟨r, hr⟩ : ∃ r, r = r0 := ⟨_, rfl⟩
    subst hr
    have HRP : Hid (padN n = r) := by show _ = _; unfold padN; rw [← ho, if_neg (by omega)]; omega
    have hrb : 9 ≤ r ∧ r ≤ 72 := by omega
    clear ho
    have hmk := mkn r (by omega)
    have hfull := own_full w r (by omega)
    have hst := hfull.store 0 128 (by omega)
    have hc1 := hfull.cell 0 (by omega)
    have hf1 := hfull.free 0
    obtain ⟨W, hWn⟩ : ∃ W, W = w.alloc (.cells ((madeCells #[.int .u8 0] r).setIfInBounds 0 (.int .u8 128)) 5) := ⟨_, rfl⟩
    have hW : W = (w.alloc (.cells (madeCells #[.int .u8 0] r) 5)).setCell ⟨w.heap.size, 0, none⟩ (.int .u8 128) := by rw [hWn]; first | (simp [go_sem]; done) | (rw [World.setCell_alloc_mark]; done) | (simp [World.setCell, World.alloc]; done)
    have hbA : Below w.heap.size w (w.alloc (.cells (madeCells #[.int .u8 0] r) 5)) := (Below.refl _ _).alloc (Nat.le_refl _) _
    have hbW : Below w.heap.size w W := by rw [hW]; exact hbA.setCell (p := ⟨w.heap.size, 0, none⟩) (Nat.le_refl _) _
    have hoW : OwnB W w.heap.size (some ⟨w.heap.size, 0, none⟩) r r ((List.replicate r 0).set 0 128) := by rw [hW]; exact hst
    have hcW := h.below hbW
    have hcn := hcW.nc
    rw [hWn] at hcn
    clear hW
    have hcA := (h.below hbA).nc
    have hpl := h.lt
    have hpne : ¬ p = w.heap.size := by omega
    have hpne2 : ¬ w.heap.size = p := by omega
    have hby := bytes_any (n * 8) 8 W (by omega)
    rw [(bytes8 _ (by omega)).1, (bytes8 _ (by omega)).2, bytesB_len] at hby
    have HEQ : Hid (endB n = lay ((List.replicate r 0).set 0 128) (r - 8) (bytesB (n * 8) 8)) := by
      show _ = _
      rw [endB_eq n (by omega), HRP.out]
    have hyl := bytesB_len (n * 8) 8
    have HLEN : Hid ((endB n).length = r) := by
      show _ = _
      rw [HEQ.out, lay_len _ _ _ (by simp [bytesB_len]; omega)]; simp
    generalize bytesB (n * 8) 8 = ys at *
    have hmul : IntKind.u64.wrap ((n : Int) * 8) = (n : Int) * 8 := by rw [IntKind.wrap_u64]; omega
    have hcv : IntKind.u64.wrap (n : Int) = (n : Int) := by rw [IntKind.wrap_u64]; omega
    have hcv2 : (n : Int) % 18446744073709551616 = (n : Int) := by omega
    have hmul2 : ((n : Int) * 8) % 18446744073709551616 = (n : Int) * 8 := by omega
    have hr8 : IntKind.i64.wrap ((r : Int) - 8) = ((r - 8 : Nat) : Int) := by rw [IntKind.wrap_i64]; omega
    have hr82 : (r : Int) - 8 = ((r - 8 : Nat) : Int) := by omega
    have hr1 : (0 : Int) < (r : Int) := by omega
    rw [show ((n * 8 : Nat) : Int) = (n : Int) * 8 from by omega] at hby
    clear hst hfull hbA
    go_enter Tryd.func59, Tryd.ntmps59
    go_wp2_with fail
    rw [← hWn]
    clear hWn
    refine hby.mono ?_
    rintro e w2 ⟨a2, c2, rfl, ho2, hb2⟩
    have hoW2 := hoW.below hb2
    have hbel2 : Below w.heap.size w w2 := hbW.trans (hb2.mono hbW.size)
    obtain ⟨a5, hsf, ha5⟩ := slice_from w.heap.size 0 r r ((r - 8 : Nat) : Int) (r - 8) rfl (by omega) (Nat.le_refl _)
    obtain rfl := ha5 (by omega)
    rw [Nat.zero_add] at hsf
    obtain ⟨w3, hcp, ho3, hg3⟩ := copy_run w2 w.heap.size w.heap.size (r - 8) (r - (r - 8)) (r - (r - 8)) r r (some ⟨w.heap.size, r - 8, none⟩) _ hoW2 a2 8 c2 ys (ho2.sl (by omega)) (fun _ => rfl) (by omega) (by omega)
    have hbel3 : Below w.heap.size w w3 := hbel2.trans (hoW2.up hg3 (by have := hbel2.size; omega))
    rw [← HEQ.out] at ho3
    clear hg3 hoW hoW2 hby ho2 hb2 hbW hcW hcn hbel2
    go_wp2
    go_ret
    exact ⟨some ⟨w.heap.size, 0, none⟩, r, by rw [HLEN.out]; rfl, by rw [HLEN.out]; exact ho3, hbel3⟩
  · have hlt : (r0 : Int) < 9 := by omega
    obtain ⟨r, hr⟩ : ∃ r : Nat, (r0 : Int) + 64 = (r : Int) := ⟨r0 + 64, by omega⟩
    have hw2 : IntKind.i64.wrap ((r0 : Int) + 64) = (r : Int) := by rw [IntKind.wrap_i64]; omega
    have HRP : Hid (padN n = r) := by show _ = _; unfold padN; rw [← ho, if_pos (by omega)]; omega
    have hrb : 9 ≤ r ∧ r ≤ 72 := by omega
    clear ho
    have hmk := mkn r (by omega)
    have hfull := own_full w r (by omega)
    have hst := hfull.store 0 128 (by omega)
    have hc1 := hfull.cell 0 (by omega)
    have hf1 := hfull.free 0
    obtain ⟨W, hWn⟩ : ∃ W, W = w.alloc (.cells ((madeCells #[.int .u8 0] r).setIfInBounds 0 (.int .u8 128)) 5) := ⟨_, rfl⟩
    have hW : W = (w.alloc (.cells (madeCells #[.int .u8 0] r) 5)).setCell ⟨w.heap.size, 0, none⟩ (.int .u8 128) := by rw [hWn]; first | (simp [go_sem]; done) | (rw [World.setCell_alloc_mark]; done) | (simp [World.setCell, World.alloc]; done)
    have hbA : Below w.heap.size w (w.alloc (.cells (madeCells #[.int .u8 0] r) 5)) := (Below.refl _ _).alloc (Nat.le_refl _) _
    have hbW : Below w.heap.size w W := by rw [hW]; exact hbA.setCell (p := ⟨w.heap.size, 0, none⟩) (Nat.le_refl _) _
    have hoW : OwnB W w.heap.size (some ⟨w.heap.size, 0, none⟩) r r ((List.replicate r 0).set 0 128) := by rw [hW]; exact hst
    have hcW := h.below hbW
    have hcn := hcW.nc
    rw [hWn] at hcn
    clear hW
    have hcA := (h.below hbA).nc
    have hpl := h.lt
    have hpne : ¬ p = w.heap.size := by omega
    have hpne2 : ¬ w.heap.size = p := by omega
    have hby := bytes_any (n * 8) 8 W (by omega)
    rw [(bytes8 _ (by omega)).1, (bytes8 _ (by omega)).2, bytesB_len] at hby
    have HEQ : Hid (endB n = lay ((List.replicate r 0).set 0 128) (r - 8) (bytesB (n * 8) 8)) := by
      show _ = _
      rw [endB_eq n (by omega), HRP.out]
    have hyl := bytesB_len (n * 8) 8
    have HLEN : Hid ((endB n).length = r) := by
      show _ = _
      rw [HEQ.out, lay_len _ _ _ (by simp [bytesB_len]; omega)]; simp
    generalize bytesB (n * 8) 8 = ys at *
    have hmul : IntKind.u64.wrap ((n : Int) * 8) = (n : Int) * 8 := by rw [IntKind.wrap_u64]; omega
    have hcv : IntKind.u64.wrap (n : Int) = (n : Int) := by rw [IntKind.wrap_u64]; omega
    have hcv2 : (n : Int) % 18446744073709551616 = (n : Int) := by omega
    have hmul2 : ((n : Int) * 8) % 18446744073709551616 = (n : Int) * 8 := by omega
    have hr8 : IntKind.i64.wrap ((r : Int) - 8) = ((r - 8 : Nat) : Int) := by rw [IntKind.wrap_i64]; omega
    have hr82 : (r : Int) - 8 = ((r - 8 : Nat) : Int) := by omega
    have hr1 : (0 : Int) < (r : Int) := by omega
    rw [show ((n * 8 : Nat) : Int) = (n : Int) * 8 from by omega] at hby
    clear hst hfull hbA
    go_enter Tryd.func59, Tryd.ntmps59
    go_wp2_with fail
    rw [← hWn]
    clear hWn
    refine hby.mono ?_
    rintro e w2 ⟨a2, c2, rfl, ho2, hb2⟩
    have hoW2 := hoW.below hb2
    have hbel2 : Below w.heap.size w w2 := hbW.trans (hb2.mono hbW.size)
    obtain ⟨a5, hsf, ha5⟩ := slice_from w.heap.size 0 r r ((r - 8 : Nat) : Int) (r - 8) rfl (by omega) (Nat.le_refl _)
    obtain rfl := ha5 (by omega)
    rw [Nat.zero_add] at hsf
    obtain ⟨w3, hcp, ho3, hg3⟩ := copy_run w2 w.heap.size w.heap.size (r - 8) (r - (r - 8)) (r - (r - 8)) r r (some ⟨w.heap.size, r - 8, none⟩) _ hoW2 a2 8 c2 ys (ho2.sl (by omega)) (fun _ => rfl) (by omega) (by omega)
    have hbel3 : Below w.heap.size w w3 := hbel2.trans (hoW2.up hg3 (by have := hbel2.size; omega))
    rw [← HEQ.out] at ho3
    clear hg3 hoW hoW2 hby ho2 hb2 hbW hcW hcn hbel2
    go_wp2
    go_ret
    exact ⟨some ⟨w.heap.size, 0, none⟩, r, by rw [HLEN.out]; rfl, by rw [HLEN.out]; exact ho3, hbel3⟩
end Go.Proofs.YtmikhnaffhheoaaDoor
