/- What ether.TakeArp answers. -/
import Derived.Test.YtnmjoidafgafjaaEtTArp
namespace Go.Proofs.Ytnmjoidafgafjaa
open Go.RowKit
def taE (zs : List Nat) : Nat := if zs.length < 28 then 3 else if numV zs 0 6 ≠ 4429186564 then 4 else if numV zs 6 2 = 1 ∨ numV zs 6 2 = 2 then 0 else 11
def taN (zs : List Nat) (p k : Nat) : Nat := if taE zs = 0 then numV zs (p : Int) (k : Int) else 0
structure TaP (zs : List Nat) (w : World) (e : Ending) (w' : World) : Prop where
  ans : e = .returned (.tuple #[.agg #[.int .i64 (taN zs 6 2 : Nat), .int .u64 (taN zs 8 6 : Nat), .int .u32 (taN zs 14 4 : Nat), .int .u64 (taN zs 18 6 : Nat), .int .u32 (taN zs 24 4 : Nat)], .int .i64 (taE zs : Nat)])
  bel : Below w.heap.size w w'
set_option maxRecDepth 100000 in
set_option maxHeartbeats 2000000 in
theorem takeArp_any (a : Option Addr) (n c : Nat) (zs : List Nat) (w : World) (hs : Sl w a n c zs) :
    Calls Try.prog 16 #[.slice a n c] w fun e w' => TaP zs w e w' := by
  have hl := hs.len
  have hb0 : Below w.heap.size w (w.alloc (.cells #[.int .i64 0, .int .u64 0, .int .u32 0, .int .u64 0, .int .u32 0] 38)) := (Below.refl _ _).alloc (Nat.le_refl _) _
  have hR0 := Stc.new w [.int .i64 0, .int .u64 0, .int .u32 0, .int .u64 0, .int .u32 0] 38 (w.alloc (.cells #[.int .i64 0, .int .u64 0, .int .u32 0, .int .u64 0, .int .u32 0] 38)) rfl
  by_cases h1 : n < 28
  · have hn1 : (n : Int) < 28 := by omega
    have HE : Hid (taE zs = 3) := by show _ = _; unfold taE; rw [if_pos (by omega)]
    have HN : Hid (∀ p k, taN zs p k = 0) := fun p k => by unfold taN; rw [HE.out]; rfl
    have HRG := (show Hid _ from hR0.range)
    have HBB := (show Hid _ from hb0)
    clear hR0 hb0
    go_enter Try.func16, Try.ntmps16
    go_wp2
    try simp only [Exit.inBlock, Exit.then]
    refine bodyPost_ret (results_cellE2 rfl _ _ w.heap.size 0 [.int .i64 0, .int .u64 0, .int .u32 0, .int .u64 0, .int .u32 0] _ rfl HRG.out Try.underlying38 rfl (by kernel_rfl)) rfl ?_
    exact ⟨by rw [HN.out, HN.out, HN.out, HN.out, HN.out, HE.out]; rfl, HBB.out⟩
  have hn1 : ¬ (n : Int) < 28 := by omega
  obtain ⟨W0, hW0⟩ : ∃ W0, W0 = w.alloc (.cells #[.int .i64 0, .int .u64 0, .int .u32 0, .int .u64 0, .int .u32 0] 38) := ⟨_, rfl⟩
  rw [← hW0] at hb0 hR0
  have hs0 := hs.below hb0
  have hzW : W0.heap.size = w.heap.size + 1 := by rw [hW0]; simp
  obtain ⟨W1, hW1⟩ : ∃ W1, W1 = W0.alloc (.cells #[.slice a n c] 24) := ⟨_, rfl⟩
  obtain ⟨W2, hW2⟩ : ∃ W2, W2 = W1.alloc (.cells #[.int .i64 0] 3) := ⟨_, rfl⟩
  have hz1 : W1.heap.size = W0.heap.size + 1 := by rw [hW1]; simp
  have b01 : Below W0.heap.size W0 W1 := by rw [hW1]; exact (Below.refl _ _).alloc (Nat.le_refl _) _
  have b12 : Below W1.heap.size W1 W2 := by rw [hW2]; exact (Below.refl _ _).alloc (Nat.le_refl _) _
  have b02 : Below W0.heap.size W0 W2 := b01.trans (b12.mono b01.size)
  have sb := (Stc.new W0 [.slice a n c] 24 W1 hW1).below b12
  have st := Stc.new W1 [.int .i64 0] 3 W2 hW2
  have hec := eachArp_cut W0 W0.heap.size W1.heap.size a n c zs W2 hs0 sb st (by omega) (by omega) b02
  have hk6 := numV_lt zs 6 2 hs.bnd
  have HZW := (show Hid _ from hzW)
  have HZ1 := (show Hid _ from hz1)
  have HW1 := (show Hid _ from hW1)
  have HW2 := (show Hid _ from hW2)
  clear hW1 hW2 hzW hz1
  obtain ⟨O, hO⟩ : ∃ O, O = numV zs 6 2 := ⟨_, rfl⟩
  obtain ⟨FM, hFM⟩ : ∃ FM, FM = numV zs 8 6 := ⟨_, rfl⟩
  obtain ⟨FI, hFI⟩ : ∃ FI, FI = numV zs 14 4 := ⟨_, rfl⟩
  obtain ⟨TM, hTM⟩ : ∃ TM, TM = numV zs 18 6 := ⟨_, rfl⟩
  obtain ⟨TI, hTI⟩ : ∃ TI, TI = numV zs 24 4 := ⟨_, rfl⟩
  obtain ⟨BG, hBG⟩ : ∃ BG, BG = numV zs 0 6 := ⟨_, rfl⟩
  rw [← hO, ← hFM, ← hFI, ← hTM, ← hTI, ← hBG] at hec
  have hOb : O < 65536 := by rw [hO]; exact hk6
  have HO := (show Hid _ from hO)
  have HFM := (show Hid _ from hFM)
  have HFI := (show Hid _ from hFI)
  have HTM := (show Hid _ from hTM)
  have HTI := (show Hid _ from hTI)
  have HBG := (show Hid _ from hBG)
  clear hO hFM hFI hTM hTI hBG hk6
  go_enter Try.func16, Try.ntmps16
  go_wp2_with fail
  rw [← hW0]
  clear hW0
  refine (cutting_any a n c W0).mono ?_
  rintro e w1 ⟨rfl, hw1⟩
  rw [← HW1.out, ← HW2.out] at hw1
  subst hw1
  rw [← HZ1.out]
  go_wp2_with fail
  refine hec.mono ?_
  rintro e w3 ⟨rfl, hb3⟩
  have hR3 := hR0.below hb3
  have hb03 : Below w.heap.size w w3 := hb0.trans (hb3.mono hb0.size)
  have hwq : w.heap.size < w3.heap.size := hR3.lt
  clear hec b01 b12 b02 sb st hb3 hR0 hb0 hs0
  by_cases h2 : BG = 4429186564
  case neg =>
    have h2a : ¬ (BG : Int) = 4429186564 := by omega
    have h2b : ((BG : Int) != 4429186564) = true := by simpa using h2a
    have r0 := hR3.cell 0 _ rfl
    have r0f := hR3.free 0
    have r1 := hR3.cell 1 _ rfl
    have r1f := hR3.free 1
    have r2 := hR3.cell 2 _ rfl
    have r2f := hR3.free 2
    have r3 := hR3.cell 3 _ rfl
    have r3f := hR3.free 3
    have r4 := hR3.cell 4 _ rfl
    have r4f := hR3.free 4
    have HE : Hid (taE zs = 4) := by show _ = _; unfold taE; rw [if_neg (by omega), if_pos (by rw [← HBG.out]; exact h2)]
    have HN : Hid (∀ p k, taN zs p k = 0) := fun p k => by unfold taN; rw [HE.out]; rfl
    have hR4 := ((((((hR3.set 0 (.int .i64 0)).set 1 (.int .u64 0)).set 2 (.int .u32 0)).set 3 (.int .u64 0)).set 4 (.int .u32 0))).below ((Below.refl _ _).alloc (Nat.le_refl _) (.cells #[.int .i64 (O : Nat), .int .u64 (FM : Nat), .int .u32 (FI : Nat), .int .u64 (TM : Nat), .int .u32 (TI : Nat)] 38))
    have hb4 := ((((((hb03.setCell (p := ⟨w.heap.size, 0, none⟩) (Nat.le_refl _) (.int .i64 0)).setCell (p := ⟨w.heap.size, 1, none⟩) (Nat.le_refl _) (.int .u64 0)).setCell (p := ⟨w.heap.size, 2, none⟩) (Nat.le_refl _) (.int .u32 0)).setCell (p := ⟨w.heap.size, 3, none⟩) (Nat.le_refl _) (.int .u64 0)).setCell (p := ⟨w.heap.size, 4, none⟩) (Nat.le_refl _) (.int .u32 0))).alloc (by simp [World.setCell]; omega) (.cells #[.int .i64 (O : Nat), .int .u64 (FM : Nat), .int .u32 (FI : Nat), .int .u64 (TM : Nat), .int .u32 (TI : Nat)] 38)
    have HRG := (show Hid _ from hR4.range)
    have HBB := (show Hid _ from hb4)
    clear hR4 hb4 hR3 hb03
    go_wp2
    try simp only [Exit.inBlock, Exit.then]
    refine bodyPost_ret (results_cellE2 rfl _ _ w.heap.size 0 [.int .i64 0, .int .u64 0, .int .u32 0, .int .u64 0, .int .u32 0] _ rfl HRG.out Try.underlying38 rfl (by kernel_rfl)) rfl ?_
    exact ⟨by rw [HN.out, HN.out, HN.out, HN.out, HN.out, HE.out]; rfl, HBB.out⟩
  case pos =>
    by_cases h3 : O = 1 ∨ O = 2
    case neg =>
      have h3b : decide ((O : Int) = 1 ∨ (O : Int) = 2) = false := by rw [decide_eq_false_iff_not]; omega
      have r0 := hR3.cell 0 _ rfl
      have r0f := hR3.free 0
      have r1 := hR3.cell 1 _ rfl
      have r1f := hR3.free 1
      have r2 := hR3.cell 2 _ rfl
      have r2f := hR3.free 2
      have r3 := hR3.cell 3 _ rfl
      have r3f := hR3.free 3
      have r4 := hR3.cell 4 _ rfl
      have r4f := hR3.free 4
      have HE : Hid (taE zs = 11) := by show _ = _; unfold taE; rw [if_neg (by omega), if_neg (by rw [← HBG.out]; simpa using h2), if_neg (by rw [← HO.out]; exact h3)]
      have HN : Hid (∀ p k, taN zs p k = 0) := fun p k => by unfold taN; rw [HE.out]; rfl
      have hR4 := ((((((hR3.set 0 (.int .i64 0)).set 1 (.int .u64 0)).set 2 (.int .u32 0)).set 3 (.int .u64 0)).set 4 (.int .u32 0))).below ((Below.refl _ _).alloc (Nat.le_refl _) (.cells #[.int .i64 (O : Nat), .int .u64 (FM : Nat), .int .u32 (FI : Nat), .int .u64 (TM : Nat), .int .u32 (TI : Nat)] 38))
      have hb4 := ((((((hb03.setCell (p := ⟨w.heap.size, 0, none⟩) (Nat.le_refl _) (.int .i64 0)).setCell (p := ⟨w.heap.size, 1, none⟩) (Nat.le_refl _) (.int .u64 0)).setCell (p := ⟨w.heap.size, 2, none⟩) (Nat.le_refl _) (.int .u32 0)).setCell (p := ⟨w.heap.size, 3, none⟩) (Nat.le_refl _) (.int .u64 0)).setCell (p := ⟨w.heap.size, 4, none⟩) (Nat.le_refl _) (.int .u32 0))).alloc (by simp [World.setCell]; omega) (.cells #[.int .i64 (O : Nat), .int .u64 (FM : Nat), .int .u32 (FI : Nat), .int .u64 (TM : Nat), .int .u32 (TI : Nat)] 38)
      have HRG := (show Hid _ from hR4.range)
      have HBB := (show Hid _ from hb4)
      clear hR4 hb4 hR3 hb03
      have x0 : (w3.alloc (.cells #[.int .i64 (O : Nat), .int .u64 (FM : Nat), .int .u32 (FI : Nat), .int .u64 (TM : Nat), .int .u32 (TI : Nat)] 38)).cell? ⟨w3.heap.size, 0, none⟩ = some (.int .i64 (O : Nat)) := by rw [World.cell?_alloc_mark]; rfl
      subst h2
      go_wp2_with fail
      refine (isOp_any (O : Int) _).mono ?_
      rintro e w4 ⟨rfl, hw4⟩
      subst w4
      rw [h3b]
      go_wp2
      try simp only [Exit.inBlock, Exit.then]
      refine bodyPost_ret (results_cellE2 rfl _ _ w.heap.size 0 [.int .i64 0, .int .u64 0, .int .u32 0, .int .u64 0, .int .u32 0] _ rfl HRG.out Try.underlying38 rfl (by kernel_rfl)) rfl ?_
      exact ⟨by rw [HN.out, HN.out, HN.out, HN.out, HN.out, HE.out]; rfl, HBB.out⟩
    case pos =>
      have h3b : decide ((O : Int) = 1 ∨ (O : Int) = 2) = true := by rw [decide_eq_true_iff]; omega
      have HE : Hid (taE zs = 0) := by show _ = _; unfold taE; rw [if_neg (by omega), if_neg (by rw [← HBG.out]; simpa using h2), if_pos (by rw [← HO.out]; exact h3)]
      have HN : Hid (∀ p k : Nat, taN zs p k = numV zs (p : Int) (k : Int)) := fun p k => by unfold taN; rw [HE.out]; rfl
      obtain ⟨w4, hw4⟩ : ∃ w4, w4 = w3.alloc (.cells #[.int .i64 (O : Nat), .int .u64 (FM : Nat), .int .u32 (FI : Nat), .int .u64 (TM : Nat), .int .u32 (TI : Nat)] 38) := ⟨_, rfl⟩
      have b34 : Below w3.heap.size w3 w4 := by rw [hw4]; exact (Below.refl _ _).alloc (Nat.le_refl _) _
      have hX4 := Stc.new w3 [.int .i64 (O : Nat), .int .u64 (FM : Nat), .int .u32 (FI : Nat), .int .u64 (TM : Nat), .int .u32 (TI : Nat)] 38 w4 hw4
      have hR4 := hR3.below b34
      have hb04 : Below w.heap.size w w4 := hb03.trans (b34.mono hb03.size)
      have x0 := hX4.cell 0 _ rfl
      have x1 := hX4.cell 1 _ rfl
      have x2 := hX4.cell 2 _ rfl
      have x3 := hX4.cell 3 _ rfl
      have x4 := hX4.cell 4 _ rfl
      have HR4 := (show Hid _ from hR4)
      have HB4 := (show Hid _ from hb04)
      have x0' := x0
      rw [hw4] at x0'
      clear hR3 hb03 b34 hR4 hb04 hX4
      subst h2
      go_wp2_with fail
      rw [← hw4]
      clear hw4 x0'
      refine (isOp_any (O : Int) _).mono ?_
      rintro e w5 ⟨rfl, hw5⟩
      subst w5
      rw [h3b]
      have hR4 := HR4.out
      have hb04 := HB4.out
      have r0 := hR4.cell 0 _ rfl
      have r0f := hR4.free 0
      have r1 := hR4.cell 1 _ rfl
      have r1f := hR4.free 1
      have r2 := hR4.cell 2 _ rfl
      have r2f := hR4.free 2
      have r3 := hR4.cell 3 _ rfl
      have r3f := hR4.free 3
      have r4 := hR4.cell 4 _ rfl
      have r4f := hR4.free 4
      have hR6 := (((((hR4.set 0 (.int .i64 (O : Nat))).set 1 (.int .u64 (FM : Nat))).set 2 (.int .u32 (FI : Nat))).set 3 (.int .u64 (TM : Nat))).set 4 (.int .u32 (TI : Nat)))
      have hb06 := (((((hb04.setCell (p := ⟨w.heap.size, 0, none⟩) (Nat.le_refl _) (.int .i64 (O : Nat))).setCell (p := ⟨w.heap.size, 1, none⟩) (Nat.le_refl _) (.int .u64 (FM : Nat))).setCell (p := ⟨w.heap.size, 2, none⟩) (Nat.le_refl _) (.int .u32 (FI : Nat))).setCell (p := ⟨w.heap.size, 3, none⟩) (Nat.le_refl _) (.int .u64 (TM : Nat))).setCell (p := ⟨w.heap.size, 4, none⟩) (Nat.le_refl _) (.int .u32 (TI : Nat)))
      have HRG := (show Hid _ from hR6.range)
      have HBB := (show Hid _ from hb06)
      clear hR6 hb06 hR4 hb04 HR4 HB4
      go_wp2
      try simp only [Exit.inBlock, Exit.then]
      refine bodyPost_ret (results_cellE2 rfl _ _ w.heap.size 0 [.int .i64 (O : Nat), .int .u64 (FM : Nat), .int .u32 (FI : Nat), .int .u64 (TM : Nat), .int .u32 (TI : Nat)] _ rfl HRG.out Try.underlying38 rfl (by kernel_rfl)) rfl ?_
      exact ⟨by rw [HN.out, HN.out, HN.out, HN.out, HN.out, HE.out, HO.out, HFM.out, HFI.out, HTM.out, HTI.out]; rfl, HBB.out⟩
end Go.Proofs.Ytnmjoidafgafjaa
