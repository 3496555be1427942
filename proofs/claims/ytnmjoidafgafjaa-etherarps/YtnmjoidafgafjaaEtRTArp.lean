/- What the reference's TakeArp answers. -/
import Derived.Test.YtnmjoidafgafjaaEtTArp2
import Derived.Test.YtnmjoidafgafjaaEtNum
import Derived.Test.YtnmjoidafgafjaaBnM
import Derived.Test.YtnmjoidafgafjaaSlc
import Derived.Lib.SmallJoins
import Derived.Deep.RegionHeld3
namespace Go.Proofs.Ytnmjoidafgafjaa
open Go.RowKit
theorem SlK.takeE {k : IntKind} {M : Nat} {w : World} {a : Option Addr} {n c : Nat} {zs : List Nat} (h : SlK k M w a n c zs) (j : Nat) (hj : j ≤ n) (hM : 0 < M) : SlK k M w a j c (zs.take j) := by
  obtain ⟨h1, h2, h3, h4, h5, h6, h7⟩ := h
  refine ⟨by simp; omega, by omega, h3, by omega, ?_, fun i => ?_, ?_⟩
  · intro e; have := h5 e; omega
  · by_cases hi : i < j
    · have := h6 i
      simpa [List.getD_eq_getElem?_getD, List.getElem?_take_of_lt hi] using this
    · rw [List.getD_eq_getElem?_getD, List.getElem?_eq_none (by simp; omega)]
      exact hM
  · rcases h7 with h7 | ⟨b', off', e, hlt, hc⟩
    · exact .inl (by omega)
    · refine .inr ⟨b', off', e, hlt, fun i hi => ?_⟩
      rw [hc i (by omega)]
      simp [List.getD_eq_getElem?_getD, List.getElem?_take_of_lt hi]
theorem beq_noE {x y : ByteArray} (h : ¬ x = y) : (x.toList == y.toList) = false := by
  rw [Lib.toList_data, Lib.toList_data]
  cases hb : x.data.toList == y.data.toList with
  | false => rfl
  | true =>
    have e := eq_of_beq hb
    cases x
    cases y
    simp at e
    exact absurd (by rw [e]) h
theorem arp_begin (zs : List Nat) (hb : ∀ i, zs.getD i 0 < 256) (hl : 28 ≤ zs.length) : (strOf (zs.take 6) = ⟨#[0, 1, 8, 0, 6, 4]⟩ ↔ numV zs 0 6 = 4429186564) := by
  have hB := bytesB_at zs 0 6 hb (by omega) (by omega) (by omega)
  constructor
  · intro h
    have h2 : zs.take 6 = [0, 1, 8, 0, 6, 4] := by
      refine strOf_inj (fun i => ?_) (getD_bnd _ (by decide)) (h.trans (by decide))
      by_cases hi : i < 6
      · rw [List.getD_eq_getElem?_getD, List.getElem?_take_of_lt hi, ← List.getD_eq_getElem?_getD]; exact hb i
      · rw [List.getD_eq_getElem?_getD, List.getElem?_eq_none (by simp; omega)]; decide
    unfold numV
    have e : nspanE zs.length 0 6 = 0 := by
      unfold nspanE spanE
      rw [if_neg (by omega), if_neg (by omega), if_neg (by omega)]
    rw [if_pos e]
    show numB ((zs.drop 0).take 6) = _
    rw [List.drop_zero, h2]
    rfl
  · intro h
    have h3 : zs.take 6 = bytesB 4429186564 6 := by
      have : bytesB (numV zs 0 6) 6 = (zs.drop 0).take 6 := hB
      rw [h, List.drop_zero] at this
      exact this.symm
    rw [h3]
    decide +kernel
set_option maxRecDepth 100000 in
set_option maxHeartbeats 1000000 in
theorem rtakeArp_any (a : Option Addr) (n c : Nat) (zs : List Nat) (w : World) (hs : Sl w a n c zs) :
    Calls Try.prog 17 #[.slice a n c] w fun e w' => TaP zs w e w' := by
  have hl := hs.len
  have hcap := hs.cap
  have hb0 : Below w.heap.size w (w.alloc (.cells #[.int .i64 0, .int .u64 0, .int .u32 0, .int .u64 0, .int .u32 0] 38)) := (Below.refl _ _).alloc (Nat.le_refl _) _
  have hR0 := Stc.new w [.int .i64 0, .int .u64 0, .int .u32 0, .int .u64 0, .int .u32 0] 38 (w.alloc (.cells #[.int .i64 0, .int .u64 0, .int .u32 0, .int .u64 0, .int .u32 0] 38)) rfl
  by_cases h1 : n < 28
  · have hn1 : (n : Int) < 28 := by omega
    have HE : Hid (taE zs = 3) := by show _ = _; unfold taE; rw [if_pos (by omega)]
    have HN : Hid (∀ p k, taN zs p k = 0) := fun p k => by unfold taN; rw [HE.out]; rfl
    have HRG := (show Hid _ from hR0.range)
    have HBB := (show Hid _ from hb0)
    clear hR0 hb0
    go_enter Try.func17, Try.ntmps17
    go_wp2
    try simp only [Exit.inBlock, Exit.then]
    refine bodyPost_ret (results_cellE2 rfl _ _ w.heap.size 0 [.int .i64 0, .int .u64 0, .int .u32 0, .int .u64 0, .int .u32 0] _ rfl HRG.out Try.underlying38 rfl (by kernel_rfl)) rfl ?_
    exact ⟨by rw [HN.out, HN.out, HN.out, HN.out, HN.out, HE.out]; rfl, HBB.out⟩
  have hn1 : ¬ (n : Int) < 28 := by omega
  obtain ⟨W0, hW0⟩ : ∃ W0, W0 = w.alloc (.cells #[.int .i64 0, .int .u64 0, .int .u32 0, .int .u64 0, .int .u32 0] 38) := ⟨_, rfl⟩
  rw [← hW0] at hb0 hR0
  have hs0 := hs.below hb0
  have hsl : ∀ w, (Instr.slice 24 (.slice a n c) none (some (.int .i64 6)) none).run Try.prog w = .ok (.slice a 6 c) w := fun w => slice_to a n c 6 (by omega) w
  have hk0 := conv_str (hs0.takeE 6 (by omega) (by omega))
  have hk6 := numV_lt zs 6 2 hs.bnd
  have hk14 := numV_lt zs 14 4 hs.bnd
  have hk24 := numV_lt zs 24 4 hs.bnd
  have hbeg := arp_begin zs hs.bnd (by omega)
  obtain ⟨O, hO⟩ : ∃ O, O = numV zs 6 2 := ⟨_, rfl⟩
  obtain ⟨FM, hFM⟩ : ∃ FM, FM = numV zs 8 6 := ⟨_, rfl⟩
  obtain ⟨FI, hFI⟩ : ∃ FI, FI = numV zs 14 4 := ⟨_, rfl⟩
  obtain ⟨TM, hTM⟩ : ∃ TM, TM = numV zs 18 6 := ⟨_, rfl⟩
  obtain ⟨TI, hTI⟩ : ∃ TI, TI = numV zs 24 4 := ⟨_, rfl⟩
  obtain ⟨ST, hST⟩ : ∃ ST, ST = strOf (zs.take 6) := ⟨_, rfl⟩
  rw [← hST] at hk0 hbeg
  have hOb : O < 65536 := by rw [hO]; exact hk6
  have hFIb : FI < 4294967296 := by rw [hFI]; exact hk14
  have hTIb : TI < 4294967296 := by rw [hTI]; exact hk24
  have HO := (show Hid _ from hO)
  have HFM := (show Hid _ from hFM)
  have HFI := (show Hid _ from hFI)
  have HTM := (show Hid _ from hTM)
  have HTI := (show Hid _ from hTI)
  have HBG := (show Hid _ from hbeg)
  have hwq : w.heap.size < W0.heap.size := hR0.lt
  clear hO hFM hFI hTM hTI hbeg hST hk6 hk14 hk24 hcap
  by_cases h2 : ST = ⟨#[0, 1, 8, 0, 6, 4]⟩
  case neg =>
    have h2b := beq_noE h2
    have h2c : (ST.toList == [0, 1, 8, 0, 6, 4]) = false := by rw [show (⟨#[0, 1, 8, 0, 6, 4]⟩ : ByteArray).toList = [0, 1, 8, 0, 6, 4] from by rw [Lib.toList_data]] at h2b; exact h2b
    have h2d : (ST.toList != [0, 1, 8, 0, 6, 4]) = true := by rw [bne, h2c]; rfl
    have HE : Hid (taE zs = 4) := by show _ = _; unfold taE; rw [if_neg (by omega), if_pos (fun e => h2 (HBG.out.2 e))]
    have HN : Hid (∀ p k, taN zs p k = 0) := fun p k => by unfold taN; rw [HE.out]; rfl
    have HRG := (show Hid _ from hR0.range)
    have HBB := (show Hid _ from hb0)
    rw [hW0] at HRG HBB hk0
    clear hR0 hb0
    go_enter Try.func17, Try.ntmps17
    go_wp2
    try simp only [Exit.inBlock, Exit.then]
    refine bodyPost_ret (results_cellE2 rfl _ _ w.heap.size 0 [.int .i64 0, .int .u64 0, .int .u32 0, .int .u64 0, .int .u32 0] _ rfl HRG.out Try.underlying38 rfl (by kernel_rfl)) rfl ?_
    exact ⟨by rw [HN.out, HN.out, HN.out, HN.out, HN.out, HE.out]; rfl, HBB.out⟩
  case pos =>
    subst h2
    have HB2 : Hid (numV zs 0 6 = 4429186564) := HBG.out.1 rfl
    have hk0' := hk0
    rw [hW0] at hk0'
    by_cases h3 : O = 1 ∨ O = 2
    case neg =>
      have q1 : ((O : Int) != 1) = true := by simp; omega
      have q2 : ((O : Int) != 2) = true := by simp; omega
      have HE : Hid (taE zs = 11) := by show _ = _; unfold taE; rw [if_neg (by omega), if_neg (by rw [HB2.out]; simp), if_neg (by rw [← HO.out]; exact h3)]
      have HN : Hid (∀ p k, taN zs p k = 0) := fun p k => by unfold taN; rw [HE.out]; rfl
      have r0 := hR0.cell 0 _ rfl
      have r0f := hR0.free 0
      have r1 := hR0.cell 1 _ rfl
      have r1f := hR0.free 1
      have r2 := hR0.cell 2 _ rfl
      have r2f := hR0.free 2
      have r3 := hR0.cell 3 _ rfl
      have r3f := hR0.free 3
      have r4 := hR0.cell 4 _ rfl
      have r4f := hR0.free 4
      have hR4 := (((((hR0.set 0 (.int .i64 0)).set 1 (.int .u64 0)).set 2 (.int .u32 0)).set 3 (.int .u64 0)).set 4 (.int .u32 0))
      have hb4 := (((((hb0.setCell (p := ⟨w.heap.size, 0, none⟩) (Nat.le_refl _) (.int .i64 0)).setCell (p := ⟨w.heap.size, 1, none⟩) (Nat.le_refl _) (.int .u64 0)).setCell (p := ⟨w.heap.size, 2, none⟩) (Nat.le_refl _) (.int .u32 0)).setCell (p := ⟨w.heap.size, 3, none⟩) (Nat.le_refl _) (.int .u64 0)).setCell (p := ⟨w.heap.size, 4, none⟩) (Nat.le_refl _) (.int .u32 0))
      have HRG := (show Hid _ from hR4.range)
      have HBB := (show Hid _ from hb4)
      clear hR4 hb4 hR0 hb0
      go_enter Try.func17, Try.ntmps17
      go_wp2_with fail
      rw [← hW0]
      clear hW0 hk0'
      refine (number_at _ n c zs 6 2 O HO.out.symm _ hs0 _ _ _ rfl rfl rfl).mono ?_
      rintro e w' ⟨rfl, hw'⟩
      subst w'
      go_wp2
      try simp only [Exit.inBlock, Exit.then]
      refine bodyPost_ret (results_cellE2 rfl _ _ w.heap.size 0 [.int .i64 0, .int .u64 0, .int .u32 0, .int .u64 0, .int .u32 0] _ rfl HRG.out Try.underlying38 rfl (by kernel_rfl)) rfl ?_
      exact ⟨by rw [HN.out, HN.out, HN.out, HN.out, HN.out, HE.out]; rfl, HBB.out⟩
    case pos =>
      have HE : Hid (taE zs = 0) := by show _ = _; unfold taE; rw [if_neg (by omega), if_neg (by rw [HB2.out]; simp), if_pos (by rw [← HO.out]; exact h3)]
      have HN : Hid (∀ p k : Nat, taN zs p k = numV zs (p : Int) (k : Int)) := fun p k => by unfold taN; rw [HE.out]; rfl
      have r0 := hR0.cell 0 _ rfl
      have r0f := hR0.free 0
      have r1 := hR0.cell 1 _ rfl
      have r1f := hR0.free 1
      have r2 := hR0.cell 2 _ rfl
      have r2f := hR0.free 2
      have r3 := hR0.cell 3 _ rfl
      have r3f := hR0.free 3
      have r4 := hR0.cell 4 _ rfl
      have r4f := hR0.free 4
      go_enter Try.func17, Try.ntmps17
      go_wp2_with fail
      rw [← hW0]
      clear hW0 hk0'
      refine (number_at _ n c zs 6 2 O HO.out.symm _ hs0 _ _ _ rfl rfl rfl).mono ?_
      rintro e w' ⟨rfl, hw'⟩
      subst w'
      have hm1 : (FI : Int) % 4294967296 = (FI : Int) := by omega
      have hm2 : (TI : Int) % 4294967296 = (TI : Int) := by omega
      have hm3 : IntKind.i64.wrap (O : Int) = (O : Int) := by rw [IntKind.wrap_i64]; omega
      rcases h3 with rfl | rfl
      · go_wp2_with fail
        refine (number_at _ n c zs 8 6 FM HFM.out.symm _ hs0 _ _ _ rfl rfl rfl).mono ?_
        rintro e w' ⟨rfl, hw'⟩
        subst w'
        go_wp2_with fail
        refine (number_at _ n c zs 14 4 FI HFI.out.symm _ hs0 _ _ _ rfl rfl rfl).mono ?_
        rintro e w' ⟨rfl, hw'⟩
        subst w'
        go_wp2_with fail
        refine (number_at _ n c zs 18 6 TM HTM.out.symm _ hs0 _ _ _ rfl rfl rfl).mono ?_
        rintro e w' ⟨rfl, hw'⟩
        subst w'
        go_wp2_with fail
        refine (number_at _ n c zs 24 4 TI HTI.out.symm _ hs0 _ _ _ rfl rfl rfl).mono ?_
        rintro e w' ⟨rfl, hw'⟩
        subst w'
        have hR6 := (((((hR0.set 0 (.int .i64 1)).set 1 (.int .u64 (FM : Nat))).set 2 (.int .u32 (FI : Nat))).set 3 (.int .u64 (TM : Nat))).set 4 (.int .u32 (TI : Nat)))
        have hb06 := (((((hb0.setCell (p := ⟨w.heap.size, 0, none⟩) (Nat.le_refl _) (.int .i64 1)).setCell (p := ⟨w.heap.size, 1, none⟩) (Nat.le_refl _) (.int .u64 (FM : Nat))).setCell (p := ⟨w.heap.size, 2, none⟩) (Nat.le_refl _) (.int .u32 (FI : Nat))).setCell (p := ⟨w.heap.size, 3, none⟩) (Nat.le_refl _) (.int .u64 (TM : Nat))).setCell (p := ⟨w.heap.size, 4, none⟩) (Nat.le_refl _) (.int .u32 (TI : Nat)))
        have HRG := (show Hid _ from hR6.range)
        have HBB := (show Hid _ from hb06)
        clear hR6 hb06 hR0 hb0
        go_wp2
        try simp only [Exit.inBlock, Exit.then]
        refine bodyPost_ret (results_cellE2 rfl _ _ w.heap.size 0 [.int .i64 1, .int .u64 (FM : Nat), .int .u32 (FI : Nat), .int .u64 (TM : Nat), .int .u32 (TI : Nat)] _ rfl HRG.out Try.underlying38 rfl (by kernel_rfl)) rfl ?_
        exact ⟨by rw [HN.out, HN.out, HN.out, HN.out, HN.out, HE.out, HFM.out, HFI.out, HTM.out, HTI.out]; rw [show numV zs ((6 : Nat) : Int) ((2 : Nat) : Int) = 1 from HO.out.symm]; rfl, HBB.out⟩
      · go_wp2_with fail
        refine (number_at _ n c zs 8 6 FM HFM.out.symm _ hs0 _ _ _ rfl rfl rfl).mono ?_
        rintro e w' ⟨rfl, hw'⟩
        subst w'
        go_wp2_with fail
        refine (number_at _ n c zs 14 4 FI HFI.out.symm _ hs0 _ _ _ rfl rfl rfl).mono ?_
        rintro e w' ⟨rfl, hw'⟩
        subst w'
        go_wp2_with fail
        refine (number_at _ n c zs 18 6 TM HTM.out.symm _ hs0 _ _ _ rfl rfl rfl).mono ?_
        rintro e w' ⟨rfl, hw'⟩
        subst w'
        go_wp2_with fail
        refine (number_at _ n c zs 24 4 TI HTI.out.symm _ hs0 _ _ _ rfl rfl rfl).mono ?_
        rintro e w' ⟨rfl, hw'⟩
        subst w'
        have hR6 := (((((hR0.set 0 (.int .i64 2)).set 1 (.int .u64 (FM : Nat))).set 2 (.int .u32 (FI : Nat))).set 3 (.int .u64 (TM : Nat))).set 4 (.int .u32 (TI : Nat)))
        have hb06 := (((((hb0.setCell (p := ⟨w.heap.size, 0, none⟩) (Nat.le_refl _) (.int .i64 2)).setCell (p := ⟨w.heap.size, 1, none⟩) (Nat.le_refl _) (.int .u64 (FM : Nat))).setCell (p := ⟨w.heap.size, 2, none⟩) (Nat.le_refl _) (.int .u32 (FI : Nat))).setCell (p := ⟨w.heap.size, 3, none⟩) (Nat.le_refl _) (.int .u64 (TM : Nat))).setCell (p := ⟨w.heap.size, 4, none⟩) (Nat.le_refl _) (.int .u32 (TI : Nat)))
        have HRG := (show Hid _ from hR6.range)
        have HBB := (show Hid _ from hb06)
        clear hR6 hb06 hR0 hb0
        go_wp2
        try simp only [Exit.inBlock, Exit.then]
        refine bodyPost_ret (results_cellE2 rfl _ _ w.heap.size 0 [.int .i64 2, .int .u64 (FM : Nat), .int .u32 (FI : Nat), .int .u64 (TM : Nat), .int .u32 (TI : Nat)] _ rfl HRG.out Try.underlying38 rfl (by kernel_rfl)) rfl ?_
        exact ⟨by rw [HN.out, HN.out, HN.out, HN.out, HN.out, HE.out, HFM.out, HFI.out, HTM.out, HTI.out]; rw [show numV zs ((6 : Nat) : Int) ((2 : Nat) : Int) = 2 from HO.out.symm]; rfl, HBB.out⟩
end Go.Proofs.Ytnmjoidafgafjaa
