/- What ip.Take answers. -/
import Derived.Test.YtplicfknjhjjgaaIpTk0
import Derived.Test.YtplicfknjhjjgaaCopy
namespace Go.Proofs.Ytplicfknjhjjgaa
open Go.RowKit
theorem it_bad (zs : List Nat) (k : Nat) (hk : ¬ k = 0) (h : itE zs = k) : itB zs = [] ∧ Ending.returned (.tuple #[.agg #[.int .u32 0, .int .u32 0, .int .u8 0, .int .u8 0, .int .u16 0, .bool false, .bool false, .int .i64 0, .slice none 0 0], .int .i64 (k : Nat)]) = .returned (.tuple #[.agg #[.int .u32 (itN zs 12 4 : Nat), .int .u32 (itN zs 16 4 : Nat), .int .u8 (itN zs 9 1 : Nat), .int .u8 (itN zs 8 1 : Nat), .int .u16 (itN zs 4 2 : Nat), .bool (itD zs 16384), .bool (itD zs 8192), .int .i64 (itO zs : Nat), .slice none ([] : List Nat).length 0], .int .i64 (k : Nat)]) ∧ True := by
  have h' : ¬ itE zs = 0 := by omega
  refine ⟨by unfold itB; rw [if_neg h'], ?_, trivial⟩
  unfold itN itD itO
  rw [if_neg h', if_neg h', if_neg h', if_neg h', if_neg h', if_neg h', if_neg h', if_neg h']
  rfl
set_option maxRecDepth 100000 in
set_option maxHeartbeats 1000000 in
theorem itake_any (a : Option Addr) (n c : Nat) (zs : List Nat) (w : World) (hs : Sl w a n c zs) :
    Calls Try.prog 22 #[.slice a n c] w fun e w' => TipP zs w e w' := by
  have hl := hs.len
  have hcap := hs.cap
  have HBAD : Hid (∀ k, itE zs = k → ¬ k = 0 → itB zs = [] ∧ Ending.returned (.tuple #[.agg #[.int .u32 0, .int .u32 0, .int .u8 0, .int .u8 0, .int .u16 0, .bool false, .bool false, .int .i64 0, .slice none 0 0], .int .i64 (k : Nat)]) = .returned (.tuple #[.agg #[.int .u32 (itN zs 12 4 : Nat), .int .u32 (itN zs 16 4 : Nat), .int .u8 (itN zs 9 1 : Nat), .int .u8 (itN zs 8 1 : Nat), .int .u16 (itN zs 4 2 : Nat), .bool (itD zs 16384), .bool (itD zs 8192), .int .i64 (itO zs : Nat), .slice none ([] : List Nat).length 0], .int .i64 (k : Nat)]) ∧ True) := fun k h hk => it_bad zs k hk h
  have hb0 : Below w.heap.size w (w.alloc (.cells #[.int .u32 0, .int .u32 0, .int .u8 0, .int .u8 0, .int .u16 0, .bool false, .bool false, .int .i64 0, .slice none 0 0] 26)) := (Below.refl _ _).alloc (Nat.le_refl _) _
  have hR0 := Stc.new w [.int .u32 0, .int .u32 0, .int .u8 0, .int .u8 0, .int .u16 0, .bool false, .bool false, .int .i64 0, .slice none 0 0] 26 (w.alloc (.cells #[.int .u32 0, .int .u32 0, .int .u8 0, .int .u8 0, .int .u16 0, .bool false, .bool false, .int .i64 0, .slice none 0 0] 26)) rfl
  by_cases h1 : n < 20
  · have hn1 : (n : Int) < 20 := by omega
    have HE : Hid (itE zs = 3) := by show _ = _; unfold itE; rw [if_pos (by omega)]
    have HN := HBAD.out 3 HE.out (by omega)
    have HRG := (show Hid _ from hR0.range)
    have HBB := (show Hid _ from hb0)
    clear hR0 hb0
    go_enter Try.func22, Try.ntmps22
    go_wp2
    try simp only [Exit.inBlock, Exit.then]
    refine bodyPost_ret (results_cellE2 rfl _ _ w.heap.size 0 [.int .u32 0, .int .u32 0, .int .u8 0, .int .u8 0, .int .u16 0, .bool false, .bool false, .int .i64 0, .slice none 0 0] _ rfl HRG.out Try.underlying26 rfl (by kernel_rfl)) rfl ?_
    exact ⟨⟨none, 0, by rw [HN.1, HE.out]; exact HN.2.1, by rw [HN.1]; exact OwnB.nil _ _⟩, HBB.out⟩
  have hn1 : ¬ (n : Int) < 20 := by omega
  obtain ⟨W0, hW0⟩ : ∃ W0, W0 = w.alloc (.cells #[.int .u32 0, .int .u32 0, .int .u8 0, .int .u8 0, .int .u16 0, .bool false, .bool false, .int .i64 0, .slice none 0 0] 26) := ⟨_, rfl⟩
  rw [← hW0] at hb0 hR0
  have hs0 := hs.below hb0
  have hrh := readHead_any a n c zs W0 hs0
  obtain ⟨SR, hSR⟩ : ∃ V, V = numV zs 12 4 := ⟨_, rfl⟩
  obtain ⟨DS, hDS⟩ : ∃ V, V = numV zs 16 4 := ⟨_, rfl⟩
  obtain ⟨PR, hPR⟩ : ∃ V, V = numV zs 9 1 := ⟨_, rfl⟩
  obtain ⟨TT, hTT⟩ : ∃ V, V = numV zs 8 1 := ⟨_, rfl⟩
  obtain ⟨ID, hID⟩ : ∃ V, V = numV zs 4 2 := ⟨_, rfl⟩
  obtain ⟨o14, ho14⟩ : ∃ b, b = decide (numV zs 6 2 / 16384 % 2 = 1) := ⟨_, rfl⟩
  obtain ⟨o13, ho13⟩ : ∃ b, b = decide (numV zs 6 2 / 8192 % 2 = 1) := ⟨_, rfl⟩
  obtain ⟨o15, ho15⟩ : ∃ b, b = decide (numV zs 6 2 / 32768 % 2 = 1) := ⟨_, rfl⟩
  obtain ⟨OF, hOF⟩ : ∃ V, V = numV zs 6 2 % 8192 * 8 := ⟨_, rfl⟩
  obtain ⟨VR, hVR⟩ : ∃ V, V = numV zs 0 1 / 16 := ⟨_, rfl⟩
  obtain ⟨HD, hHD⟩ : ∃ V, V = numV zs 0 1 % 16 * 4 := ⟨_, rfl⟩
  obtain ⟨WH, hWH⟩ : ∃ V, V = numV zs 2 2 := ⟨_, rfl⟩
  rw [← hSR, ← hDS, ← hPR, ← hTT, ← hID, ← ho14, ← ho13, ← ho15, ← hOF, ← hVR, ← hHD, ← hWH] at hrh
  have HIT : Hid (itE zs = if zs.length < 20 then 3 else if lnE VR HD WH zs.length ≠ 0 then lnE VR HD WH zs.length else if net (zs.take HD) ≠ 0 then 5 else if o15 = true ∨ (o13 = true ∧ (WH - HD) % 8 ≠ 0) then 4 else if 65515 < OF + (WH - HD) then 6 else 0) := by
    show _ = _
    rw [hVR, hHD, hWH, hOF, ho15, ho13]
    simp only [decide_eq_true_eq]
    rfl
  have HOK : Hid (itE zs = 0 → itN zs 12 4 = SR ∧ itN zs 16 4 = DS ∧ itN zs 9 1 = PR ∧ itN zs 8 1 = TT ∧ itN zs 4 2 = ID ∧ itD zs 16384 = o14 ∧ itD zs 8192 = o13 ∧ itO zs = OF ∧ itB zs = (zs.drop HD).take (WH - HD)) := by
    intro h
    unfold itN itD itO itB
    rw [if_pos h, if_pos h, if_pos h, if_pos h, if_pos h, if_pos h, if_pos h, if_pos h, if_pos h]
    exact ⟨hSR.symm, hDS.symm, hPR.symm, hTT.symm, hID.symm, ho14.symm, ho13.symm, hOF.symm, by rw [hHD, hWH]; rfl⟩
  have hOFb : OF ≤ 65528 := by omega
  clear hSR hDS hPR hTT hID ho14 ho13 ho15 hOF hVR hHD hWH
  go_enter Try.func22, Try.ntmps22
  go_wp2_with fail
  rw [← hW0]
  clear hW0
  refine hrh.mono ?_
  rintro e w1 ⟨rfl, b1⟩
  have hs1 := hs0.below b1
  have hR1 := hR0.below b1
  have bb1 : Below w.heap.size w w1 := hb0.trans (b1.mono hb0.size)
  obtain ⟨w2, hw2⟩ : ∃ w2, w2 = w1.alloc (.cells #[.int .u32 (SR : Nat), .int .u32 (DS : Nat), .int .u8 (PR : Nat), .int .u8 (TT : Nat), .int .u16 (ID : Nat), .bool o14, .bool o13, .int .i64 (OF : Nat), .slice none 0 0, .int .u64 (VR : Nat), .int .i64 (HD : Nat), .int .i64 (WH : Nat), .bool o15] 78) := ⟨_, rfl⟩
  have b12 : Below w1.heap.size w1 w2 := by rw [hw2]; exact (Below.refl _ _).alloc (Nat.le_refl _) _
  have hX2 := Stc.new w1 [.int .u32 (SR : Nat), .int .u32 (DS : Nat), .int .u8 (PR : Nat), .int .u8 (TT : Nat), .int .u16 (ID : Nat), .bool o14, .bool o13, .int .i64 (OF : Nat), .slice none 0 0, .int .u64 (VR : Nat), .int .i64 (HD : Nat), .int .i64 (WH : Nat), .bool o15] 78 w2 hw2
  have hs2 := hs1.below b12
  have hR2 := hR1.below b12
  have bb2 : Below w.heap.size w w2 := bb1.trans (b12.mono bb1.size)
  clear hrh hs0 hR0 hb0 hs1 hR1 b1 b12 bb1
  go_wp2_with fail
  rw [← hw2]
  clear hw2
  refine (lengths_any SR DS PR TT ID o14 o13 OF VR HD WH o15 n w2).mono ?_
  rintro e w3 ⟨rfl, b3⟩
  have hs3 := hs2.below b3
  have hR3 := hR2.below b3
  have hX3 := hX2.below b3
  have bb3 : Below w.heap.size w w3 := bb2.trans (b3.mono bb2.size)
  clear hs2 hR2 hX2 bb2 b3
  by_cases h2 : lnE VR HD WH n = 0
  case neg =>
    have HE : Hid (itE zs = lnE VR HD WH n) := by show _ = _; rw [HIT.out, hl, if_neg h1, if_pos h2]
    have h2a : ¬ ((lnE VR HD WH n : Nat) : Int) = 0 := by omega
    have h2b : (((lnE VR HD WH n : Nat) : Int) != 0) = true := by simpa using h2a
    have HN := HBAD.out _ HE.out h2
    generalize lnE VR HD WH n = E at *
    have r0 := hR3.cell 0 _ rfl
    have r1 := hR3.cell 1 _ rfl
    have r2 := hR3.cell 2 _ rfl
    have r3 := hR3.cell 3 _ rfl
    have r4 := hR3.cell 4 _ rfl
    have r5 := hR3.cell 5 _ rfl
    have r6 := hR3.cell 6 _ rfl
    have r7 := hR3.cell 7 _ rfl
    have r8 := hR3.cell 8 _ rfl
    have r0f := hR3.free 0
    have r1f := hR3.free 1
    have r2f := hR3.free 2
    have r3f := hR3.free 3
    have r4f := hR3.free 4
    have r5f := hR3.free 5
    have r6f := hR3.free 6
    have r7f := hR3.free 7
    have r8f := hR3.free 8
    have hR9 := (((((((((hR3.set 0 (.int .u32 0)).set 1 (.int .u32 0)).set 2 (.int .u8 0)).set 3 (.int .u8 0)).set 4 (.int .u16 0)).set 5 (.bool false)).set 6 (.bool false)).set 7 (.int .i64 0)).set 8 (.slice none 0 0))
    have hb9 := (((((((((bb3.setCell (p := ⟨w.heap.size, 0, none⟩) (Nat.le_refl _) (.int .u32 0)).setCell (p := ⟨w.heap.size, 1, none⟩) (Nat.le_refl _) (.int .u32 0)).setCell (p := ⟨w.heap.size, 2, none⟩) (Nat.le_refl _) (.int .u8 0)).setCell (p := ⟨w.heap.size, 3, none⟩) (Nat.le_refl _) (.int .u8 0)).setCell (p := ⟨w.heap.size, 4, none⟩) (Nat.le_refl _) (.int .u16 0)).setCell (p := ⟨w.heap.size, 5, none⟩) (Nat.le_refl _) (.bool false)).setCell (p := ⟨w.heap.size, 6, none⟩) (Nat.le_refl _) (.bool false)).setCell (p := ⟨w.heap.size, 7, none⟩) (Nat.le_refl _) (.int .i64 0)).setCell (p := ⟨w.heap.size, 8, none⟩) (Nat.le_refl _) (.slice none 0 0))
    have HRG := (show Hid _ from hR9.range)
    have HBB := (show Hid _ from hb9)
    clear hR9 hb9 hR3 bb3
    go_wp2
    try simp only [Exit.inBlock, Exit.then]
    refine bodyPost_ret (results_cellE2 rfl _ _ w.heap.size 0 [.int .u32 0, .int .u32 0, .int .u8 0, .int .u8 0, .int .u16 0, .bool false, .bool false, .int .i64 0, .slice none 0 0] _ rfl HRG.out Try.underlying26 rfl (by kernel_rfl)) rfl ?_
    exact ⟨⟨none, 0, by rw [HN.1, HE.out]; exact HN.2.1, by rw [HN.1]; exact OwnB.nil _ _⟩, HBB.out⟩
  case pos =>
  have hln : VR = 4 ∧ 20 ≤ HD ∧ HD ≤ n ∧ HD ≤ WH ∧ WH ≤ n := by
    unfold lnE at h2
    split at h2
    · cases h2
    · rename_i g1
      split at h2
      · cases h2
      · split at h2
        · cases h2
        · split at h2
          · cases h2
          · omega
  obtain ⟨_, hH20, hHn, hHW, hWn⟩ := hln
  rw [h2]
  have HIT2 : Hid (itE zs = if net (zs.take HD) ≠ 0 then 5 else if o15 = true ∨ (o13 = true ∧ (WH - HD) % 8 ≠ 0) then 4 else if 65515 < OF + (WH - HD) then 6 else 0) := by show _ = _; rw [HIT.out, hl, if_neg h1, if_neg (by rw [h2]; simp)]
  obtain ⟨m, hm⟩ : ∃ m, m = WH - HD := ⟨_, rfl⟩
  rw [← hm] at HIT2 HOK
  rcases hs3.at_ with h00 | ⟨b, off, rfl, hltb, _⟩
  · omega
  obtain ⟨ab, hab, hab2⟩ := slice_lh b off n c HD WH hHW (by omega)
  have hsB3 : Sl w3 (some ab) m (c - HD) ((zs.drop HD).take m) := by rw [hm]; exact hs3.midE HD WH hHW hWn (by omega) ab hab2
  rw [← hm] at hab
  have hsH3 := hs3.takeE HD hHn (by omega)
  have hst := fun W => slice_to (some ⟨b, off, none⟩) n c HD (by omega) W
  have hmn : m ≤ n := by omega
  have hsm := hs3.small
  obtain ⟨w4, hw4⟩ : ∃ w4, w4 = w3.alloc (.cells #[.int .u32 (SR : Nat), .int .u32 (DS : Nat), .int .u8 (PR : Nat), .int .u8 (TT : Nat), .int .u16 (ID : Nat), .bool o14, .bool o13, .int .i64 (OF : Nat), .slice none 0 0] 26) := ⟨_, rfl⟩
  have b34 : Below w3.heap.size w3 w4 := by rw [hw4]; exact (Below.refl _ _).alloc (Nat.le_refl _) _
  have hP4 := Stc.new w3 [.int .u32 (SR : Nat), .int .u32 (DS : Nat), .int .u8 (PR : Nat), .int .u8 (TT : Nat), .int .u16 (ID : Nat), .bool o14, .bool o13, .int .i64 (OF : Nat), .slice none 0 0] 26 w4 hw4
  have hX4 := hX3.below b34
  have hR4 := hR3.below b34
  have hp8 := hP4.cell 8 _ rfl
  have hp8f := hP4.free 8
  have z34 : w3.heap.size < w4.heap.size := hP4.lt
  have zx3 := hX3.lt
  have zr3 := hR3.lt
  obtain ⟨w5, hw5⟩ : ∃ w5, w5 = w3.alloc (.cells #[.int .u32 (SR : Nat), .int .u32 (DS : Nat), .int .u8 (PR : Nat), .int .u8 (TT : Nat), .int .u16 (ID : Nat), .bool o14, .bool o13, .int .i64 (OF : Nat), .slice (some ab) m (c - HD)] 26) := ⟨_, rfl⟩
  have b35 : Below w3.heap.size w3 w5 := by rw [hw5]; exact (Below.refl _ _).alloc (Nat.le_refl _) _
  have hP5 := Stc.new w3 [.int .u32 (SR : Nat), .int .u32 (DS : Nat), .int .u8 (PR : Nat), .int .u8 (TT : Nat), .int .u16 (ID : Nat), .bool o14, .bool o13, .int .i64 (OF : Nat), .slice (some ab) m (c - HD)] 26 w5 hw5
  have hX5 := hX3.below b35
  have hR5 := hR3.below b35
  have bb5 : Below w.heap.size w w5 := bb3.trans (b35.mono bb3.size)
  have hsB5 := hsB3.below b35
  have hsH5 := hsH3.below b35
  have x0 := hX3.cell 0 _ rfl
  have x1 := hX3.cell 1 _ rfl
  have x2 := hX3.cell 2 _ rfl
  have x3 := hX3.cell 3 _ rfl
  have x4 := hX3.cell 4 _ rfl
  have x5 := hX3.cell 5 _ rfl
  have x6 := hX3.cell 6 _ rfl
  have x7 := hX3.cell 7 _ rfl
  have x8 := hX3.cell 8 _ rfl
  have x10 := hX4.cell 10 _ rfl
  have x11 := hX4.cell 11 _ rfl
  have x10' := hX5.cell 10 _ rfl
  rw [hw5] at x10'
  rw [hw4] at x10 x11
  have HM := (show Hid _ from hm)
  clear hs3 hR3 hX3 bb3 hX4 hR4 hP4 b34 b35 hsB3 hsH3 h2 hw4 hm hp8 hp8f
  go_wp2_with fail
  rw [← hw5]
  clear hw5 x0 x1 x2 x3 x4 x5 x6 x7 x8 x10 x11 x10'
  have hN := net_le (zs.take HD)
  refine (net_any (some ⟨b, off, none⟩) HD c (zs.take HD) w5 hsH5).mono ?_
  rintro e w6 ⟨rfl, b6⟩
  have hP6 := hP5.below b6
  have hX6 := hX5.below b6
  have hR6 := hR5.below b6
  have bb6 : Below w.heap.size w w6 := bb5.trans (b6.mono bb5.size)
  have hsB6 := hsB5.below b6
  have zw6 := b6.size
  have zp5 := hP5.lt
  have zr6 : w.heap.size < w3.heap.size := zr3
  generalize net (zs.take HD) = N at *
  clear hP5 hX5 hR5 bb5 hsB5 hsH5 b6
  by_cases h5 : N = 0
  case neg =>
    have HE : Hid (itE zs = 5) := by show _ = _; rw [HIT2.out, if_pos h5]
    have HN := HBAD.out 5 HE.out (by omega)
    have h5a : ¬ (N : Int) = 0 := by omega
    have h5b : ((N : Int) != 0) = true := by simpa using h5a
    have r0 := hR6.cell 0 _ rfl
    have r1 := hR6.cell 1 _ rfl
    have r2 := hR6.cell 2 _ rfl
    have r3 := hR6.cell 3 _ rfl
    have r4 := hR6.cell 4 _ rfl
    have r5 := hR6.cell 5 _ rfl
    have r6 := hR6.cell 6 _ rfl
    have r7 := hR6.cell 7 _ rfl
    have r8 := hR6.cell 8 _ rfl
    have r0f := hR6.free 0
    have r1f := hR6.free 1
    have r2f := hR6.free 2
    have r3f := hR6.free 3
    have r4f := hR6.free 4
    have r5f := hR6.free 5
    have r6f := hR6.free 6
    have r7f := hR6.free 7
    have r8f := hR6.free 8
    have hR9 := (((((((((hR6.set 0 (.int .u32 0)).set 1 (.int .u32 0)).set 2 (.int .u8 0)).set 3 (.int .u8 0)).set 4 (.int .u16 0)).set 5 (.bool false)).set 6 (.bool false)).set 7 (.int .i64 0)).set 8 (.slice none 0 0))
    have hb9 := (((((((((bb6.setCell (p := ⟨w.heap.size, 0, none⟩) (Nat.le_refl _) (.int .u32 0)).setCell (p := ⟨w.heap.size, 1, none⟩) (Nat.le_refl _) (.int .u32 0)).setCell (p := ⟨w.heap.size, 2, none⟩) (Nat.le_refl _) (.int .u8 0)).setCell (p := ⟨w.heap.size, 3, none⟩) (Nat.le_refl _) (.int .u8 0)).setCell (p := ⟨w.heap.size, 4, none⟩) (Nat.le_refl _) (.int .u16 0)).setCell (p := ⟨w.heap.size, 5, none⟩) (Nat.le_refl _) (.bool false)).setCell (p := ⟨w.heap.size, 6, none⟩) (Nat.le_refl _) (.bool false)).setCell (p := ⟨w.heap.size, 7, none⟩) (Nat.le_refl _) (.int .i64 0)).setCell (p := ⟨w.heap.size, 8, none⟩) (Nat.le_refl _) (.slice none 0 0))
    have HRG := (show Hid _ from hR9.range)
    have HBB := (show Hid _ from hb9)
    clear hR9 hb9 hR6 bb6
    go_wp2
    try simp only [Exit.inBlock, Exit.then]
    refine bodyPost_ret (results_cellE2 rfl _ _ w.heap.size 0 [.int .u32 0, .int .u32 0, .int .u8 0, .int .u8 0, .int .u16 0, .bool false, .bool false, .int .i64 0, .slice none 0 0] _ rfl HRG.out Try.underlying26 rfl (by kernel_rfl)) rfl ?_
    exact ⟨⟨none, 0, by rw [HN.1, HE.out]; exact HN.2.1, by rw [HN.1]; exact OwnB.nil _ _⟩, HBB.out⟩
  case pos =>
  subst h5
  have HIT3 : Hid (itE zs = if o15 = true ∨ (o13 = true ∧ m % 8 ≠ 0) then 4 else if 65515 < OF + m then 6 else 0) := by show _ = _; rw [HIT2.out, if_neg (by simp)]
  have x12 := hX6.cell 12 _ rfl
  cases o15 with
  | true =>
    have HE : Hid (itE zs = 4) := by show _ = _; rw [HIT3.out, if_pos (.inl rfl)]
    have HN := HBAD.out 4 HE.out (by omega)
    have r0 := hR6.cell 0 _ rfl
    have r1 := hR6.cell 1 _ rfl
    have r2 := hR6.cell 2 _ rfl
    have r3 := hR6.cell 3 _ rfl
    have r4 := hR6.cell 4 _ rfl
    have r5 := hR6.cell 5 _ rfl
    have r6 := hR6.cell 6 _ rfl
    have r7 := hR6.cell 7 _ rfl
    have r8 := hR6.cell 8 _ rfl
    have r0f := hR6.free 0
    have r1f := hR6.free 1
    have r2f := hR6.free 2
    have r3f := hR6.free 3
    have r4f := hR6.free 4
    have r5f := hR6.free 5
    have r6f := hR6.free 6
    have r7f := hR6.free 7
    have r8f := hR6.free 8
    have hR9 := (((((((((hR6.set 0 (.int .u32 0)).set 1 (.int .u32 0)).set 2 (.int .u8 0)).set 3 (.int .u8 0)).set 4 (.int .u16 0)).set 5 (.bool false)).set 6 (.bool false)).set 7 (.int .i64 0)).set 8 (.slice none 0 0))
    have hb9 := (((((((((bb6.setCell (p := ⟨w.heap.size, 0, none⟩) (Nat.le_refl _) (.int .u32 0)).setCell (p := ⟨w.heap.size, 1, none⟩) (Nat.le_refl _) (.int .u32 0)).setCell (p := ⟨w.heap.size, 2, none⟩) (Nat.le_refl _) (.int .u8 0)).setCell (p := ⟨w.heap.size, 3, none⟩) (Nat.le_refl _) (.int .u8 0)).setCell (p := ⟨w.heap.size, 4, none⟩) (Nat.le_refl _) (.int .u16 0)).setCell (p := ⟨w.heap.size, 5, none⟩) (Nat.le_refl _) (.bool false)).setCell (p := ⟨w.heap.size, 6, none⟩) (Nat.le_refl _) (.bool false)).setCell (p := ⟨w.heap.size, 7, none⟩) (Nat.le_refl _) (.int .i64 0)).setCell (p := ⟨w.heap.size, 8, none⟩) (Nat.le_refl _) (.slice none 0 0))
    have HRG := (show Hid _ from hR9.range)
    have HBB := (show Hid _ from hb9)
    clear hR9 hb9 hR6 bb6
    go_wp2
    try simp only [Exit.inBlock, Exit.then]
    refine bodyPost_ret (results_cellE2 rfl _ _ w.heap.size 0 [.int .u32 0, .int .u32 0, .int .u8 0, .int .u8 0, .int .u16 0, .bool false, .bool false, .int .i64 0, .slice none 0 0] _ rfl HRG.out Try.underlying26 rfl (by kernel_rfl)) rfl ?_
    exact ⟨⟨none, 0, by rw [HN.1, HE.out]; exact HN.2.1, by rw [HN.1]; exact OwnB.nil _ _⟩, HBB.out⟩
  | false =>
  have hic := isCut_any SR DS PR TT ID o14 o13 (OF : Int) (some ab) m (c - HD) w6 (by omega)
  have p0 := hP6.cell 0 _ rfl
  have p1 := hP6.cell 1 _ rfl
  have p2 := hP6.cell 2 _ rfl
  have p3 := hP6.cell 3 _ rfl
  have p4 := hP6.cell 4 _ rfl
  have p5 := hP6.cell 5 _ rfl
  have p6 := hP6.cell 6 _ rfl
  have p7 := hP6.cell 7 _ rfl
  have p8 := hP6.cell 8 _ rfl
  have HXD : Hid (∀ q : Bool, q = (!o13 || decide (m % 8 = 0)) → (q = false ↔ (o13 = true ∧ m % 8 ≠ 0))) := by
    intro q hq
    subst hq
    cases o13 <;> simp
  obtain ⟨q, hq⟩ : ∃ q, q = (!o13 || decide (m % 8 = 0)) := ⟨_, rfl⟩
  rw [← hq] at hic
  have HQ := (show Hid _ from HXD.out q hq)
  clear hq
  go_wp2_with fail
  refine hic.mono ?_
  rintro e w7 ⟨rfl, b7⟩
  have hP7 := hP6.below b7
  have hR7 := hR6.below b7
  have bb7 : Below w.heap.size w w7 := bb6.trans (b7.mono bb6.size)
  have hsB7 := hsB6.below b7
  have zw7 := b7.size
  clear hic hP6 hX6 hR6 bb6 hsB6 b7 x12 p0 p1 p2 p3 p4 p5 p6 p7 p8
  cases q with
  | false =>
    have HE : Hid (itE zs = 4) := by show _ = _; rw [HIT3.out, if_pos (.inr (HQ.out.1 rfl))]
    have HN := HBAD.out 4 HE.out (by omega)
    have r0 := hR7.cell 0 _ rfl
    have r1 := hR7.cell 1 _ rfl
    have r2 := hR7.cell 2 _ rfl
    have r3 := hR7.cell 3 _ rfl
    have r4 := hR7.cell 4 _ rfl
    have r5 := hR7.cell 5 _ rfl
    have r6 := hR7.cell 6 _ rfl
    have r7 := hR7.cell 7 _ rfl
    have r8 := hR7.cell 8 _ rfl
    have r0f := hR7.free 0
    have r1f := hR7.free 1
    have r2f := hR7.free 2
    have r3f := hR7.free 3
    have r4f := hR7.free 4
    have r5f := hR7.free 5
    have r6f := hR7.free 6
    have r7f := hR7.free 7
    have r8f := hR7.free 8
    have hR9 := (((((((((hR7.set 0 (.int .u32 0)).set 1 (.int .u32 0)).set 2 (.int .u8 0)).set 3 (.int .u8 0)).set 4 (.int .u16 0)).set 5 (.bool false)).set 6 (.bool false)).set 7 (.int .i64 0)).set 8 (.slice none 0 0))
    have hb9 := (((((((((bb7.setCell (p := ⟨w.heap.size, 0, none⟩) (Nat.le_refl _) (.int .u32 0)).setCell (p := ⟨w.heap.size, 1, none⟩) (Nat.le_refl _) (.int .u32 0)).setCell (p := ⟨w.heap.size, 2, none⟩) (Nat.le_refl _) (.int .u8 0)).setCell (p := ⟨w.heap.size, 3, none⟩) (Nat.le_refl _) (.int .u8 0)).setCell (p := ⟨w.heap.size, 4, none⟩) (Nat.le_refl _) (.int .u16 0)).setCell (p := ⟨w.heap.size, 5, none⟩) (Nat.le_refl _) (.bool false)).setCell (p := ⟨w.heap.size, 6, none⟩) (Nat.le_refl _) (.bool false)).setCell (p := ⟨w.heap.size, 7, none⟩) (Nat.le_refl _) (.int .i64 0)).setCell (p := ⟨w.heap.size, 8, none⟩) (Nat.le_refl _) (.slice none 0 0))
    have HRG := (show Hid _ from hR9.range)
    have HBB := (show Hid _ from hb9)
    clear hR9 hb9 hR7 bb7
    go_wp2
    try simp only [Exit.inBlock, Exit.then]
    refine bodyPost_ret (results_cellE2 rfl _ _ w.heap.size 0 [.int .u32 0, .int .u32 0, .int .u8 0, .int .u8 0, .int .u16 0, .bool false, .bool false, .int .i64 0, .slice none 0 0] _ rfl HRG.out Try.underlying26 rfl (by kernel_rfl)) rfl ?_
    exact ⟨⟨none, 0, by rw [HN.1, HE.out]; exact HN.2.1, by rw [HN.1]; exact OwnB.nil _ _⟩, HBB.out⟩
  | true =>
  have HIT4 : Hid (itE zs = if 65515 < OF + m then 6 else 0) := by
    show _ = _
    rw [HIT3.out, if_neg]
    intro h
    rcases h with h | h
    · cases h
    · have := HQ.out.2 h; cases this
  have hfi := fits_any SR DS PR TT ID o14 o13 (OF : Int) (some ab) m (c - HD) w7 (by omega) (by omega)
  have p0 := hP7.cell 0 _ rfl
  have p1 := hP7.cell 1 _ rfl
  have p2 := hP7.cell 2 _ rfl
  have p3 := hP7.cell 3 _ rfl
  have p4 := hP7.cell 4 _ rfl
  have p5 := hP7.cell 5 _ rfl
  have p6 := hP7.cell 6 _ rfl
  have p7 := hP7.cell 7 _ rfl
  have p8 := hP7.cell 8 _ rfl
  go_wp2_with fail
  refine hfi.mono ?_
  rintro e w8 ⟨rfl, b8⟩
  have hP8 := hP7.below b8
  have hR8 := hR7.below b8
  have bb8 : Below w.heap.size w w8 := bb7.trans (b8.mono bb7.size)
  have hsB8 := hsB7.below b8
  have zw8 := b8.size
  clear hfi hP7 hR7 bb7 hsB7 b8 p0 p1 p2 p3 p4 p5 p6 p7 p8
  by_cases h6 : (OF : Int) + (m : Int) ≤ 65515
  case neg =>
    rw [decide_eq_false h6]
    have HE : Hid (itE zs = 6) := by show _ = _; rw [HIT4.out, if_pos (by omega)]
    have HN := HBAD.out 6 HE.out (by omega)
    have r0 := hR8.cell 0 _ rfl
    have r1 := hR8.cell 1 _ rfl
    have r2 := hR8.cell 2 _ rfl
    have r3 := hR8.cell 3 _ rfl
    have r4 := hR8.cell 4 _ rfl
    have r5 := hR8.cell 5 _ rfl
    have r6 := hR8.cell 6 _ rfl
    have r7 := hR8.cell 7 _ rfl
    have r8 := hR8.cell 8 _ rfl
    have r0f := hR8.free 0
    have r1f := hR8.free 1
    have r2f := hR8.free 2
    have r3f := hR8.free 3
    have r4f := hR8.free 4
    have r5f := hR8.free 5
    have r6f := hR8.free 6
    have r7f := hR8.free 7
    have r8f := hR8.free 8
    have hR9 := (((((((((hR8.set 0 (.int .u32 0)).set 1 (.int .u32 0)).set 2 (.int .u8 0)).set 3 (.int .u8 0)).set 4 (.int .u16 0)).set 5 (.bool false)).set 6 (.bool false)).set 7 (.int .i64 0)).set 8 (.slice none 0 0))
    have hb9 := (((((((((bb8.setCell (p := ⟨w.heap.size, 0, none⟩) (Nat.le_refl _) (.int .u32 0)).setCell (p := ⟨w.heap.size, 1, none⟩) (Nat.le_refl _) (.int .u32 0)).setCell (p := ⟨w.heap.size, 2, none⟩) (Nat.le_refl _) (.int .u8 0)).setCell (p := ⟨w.heap.size, 3, none⟩) (Nat.le_refl _) (.int .u8 0)).setCell (p := ⟨w.heap.size, 4, none⟩) (Nat.le_refl _) (.int .u16 0)).setCell (p := ⟨w.heap.size, 5, none⟩) (Nat.le_refl _) (.bool false)).setCell (p := ⟨w.heap.size, 6, none⟩) (Nat.le_refl _) (.bool false)).setCell (p := ⟨w.heap.size, 7, none⟩) (Nat.le_refl _) (.int .i64 0)).setCell (p := ⟨w.heap.size, 8, none⟩) (Nat.le_refl _) (.slice none 0 0))
    have HRG := (show Hid _ from hR9.range)
    have HBB := (show Hid _ from hb9)
    clear hR9 hb9 hR8 bb8
    go_wp2
    try simp only [Exit.inBlock, Exit.then]
    refine bodyPost_ret (results_cellE2 rfl _ _ w.heap.size 0 [.int .u32 0, .int .u32 0, .int .u8 0, .int .u8 0, .int .u16 0, .bool false, .bool false, .int .i64 0, .slice none 0 0] _ rfl HRG.out Try.underlying26 rfl (by kernel_rfl)) rfl ?_
    exact ⟨⟨none, 0, by rw [HN.1, HE.out]; exact HN.2.1, by rw [HN.1]; exact OwnB.nil _ _⟩, HBB.out⟩
  case pos =>
    rw [decide_eq_true h6]
    have HE : Hid (itE zs = 0) := by show _ = _; rw [HIT4.out, if_neg (by omega)]
    have HK := (show Hid _ from HOK.out HE.out)
    have hml : ((zs.drop HD).take m).length = m := hsB8.len
    have p8 := hP8.cell 8 _ rfl
    generalize (zs.drop HD).take m = BY at *
    go_wp2_with fail
    refine (clone_any (some ab) m (c - HD) BY w8 hsB8 (by omega)).mono ?_
    rintro e w9 ⟨a9, c9, rfl, o9, _, b9⟩
    have hP9 := hP8.below b9
    have hR9 := hR8.below b9
    have bb9 : Below w.heap.size w w9 := bb8.trans (b9.mono bb8.size)
    clear p8 hP8 hR8 bb8 hsB8
    have p0 := hP9.cell 0 _ rfl
    have p1 := hP9.cell 1 _ rfl
    have p2 := hP9.cell 2 _ rfl
    have p3 := hP9.cell 3 _ rfl
    have p4 := hP9.cell 4 _ rfl
    have p5 := hP9.cell 5 _ rfl
    have p6 := hP9.cell 6 _ rfl
    have p7 := hP9.cell 7 _ rfl
    have p8 := hP9.cell 8 _ rfl
    have p8f := hP9.free 8
    have r0 := hR9.cell 0 _ rfl
    have r1 := hR9.cell 1 _ rfl
    have r2 := hR9.cell 2 _ rfl
    have r3 := hR9.cell 3 _ rfl
    have r4 := hR9.cell 4 _ rfl
    have r5 := hR9.cell 5 _ rfl
    have r6 := hR9.cell 6 _ rfl
    have r7 := hR9.cell 7 _ rfl
    have r8 := hR9.cell 8 _ rfl
    have r0f := hR9.free 0
    have r1f := hR9.free 1
    have r2f := hR9.free 2
    have r3f := hR9.free 3
    have r4f := hR9.free 4
    have r5f := hR9.free 5
    have r6f := hR9.free 6
    have r7f := hR9.free 7
    have r8f := hR9.free 8
    have hRA := ((((((((((hR9.other w3.heap.size 8 (.slice a9 m c9) (by omega)).set 0 (.int .u32 (SR : Nat))).set 1 (.int .u32 (DS : Nat))).set 2 (.int .u8 (PR : Nat))).set 3 (.int .u8 (TT : Nat))).set 4 (.int .u16 (ID : Nat))).set 5 (.bool o14)).set 6 (.bool o13)).set 7 (.int .i64 (OF : Nat))).set 8 (.slice a9 m c9))
    have hbA := ((((((((((bb9.setCell (p := ⟨w3.heap.size, 8, none⟩) (by show w.heap.size ≤ w3.heap.size; omega) (.slice a9 m c9)).setCell (p := ⟨w.heap.size, 0, none⟩) (Nat.le_refl _) (.int .u32 (SR : Nat))).setCell (p := ⟨w.heap.size, 1, none⟩) (Nat.le_refl _) (.int .u32 (DS : Nat))).setCell (p := ⟨w.heap.size, 2, none⟩) (Nat.le_refl _) (.int .u8 (PR : Nat))).setCell (p := ⟨w.heap.size, 3, none⟩) (Nat.le_refl _) (.int .u8 (TT : Nat))).setCell (p := ⟨w.heap.size, 4, none⟩) (Nat.le_refl _) (.int .u16 (ID : Nat))).setCell (p := ⟨w.heap.size, 5, none⟩) (Nat.le_refl _) (.bool o14)).setCell (p := ⟨w.heap.size, 6, none⟩) (Nat.le_refl _) (.bool o13)).setCell (p := ⟨w.heap.size, 7, none⟩) (Nat.le_refl _) (.int .i64 (OF : Nat))).setCell (p := ⟨w.heap.size, 8, none⟩) (Nat.le_refl _) (.slice a9 m c9))
    have HOF := (show Hid _ from ((((((((((o9.setOther w3.heap.size 8 (.slice a9 m c9) (by omega)).setOther w.heap.size 0 (.int .u32 (SR : Nat)) (by omega)).setOther w.heap.size 1 (.int .u32 (DS : Nat)) (by omega)).setOther w.heap.size 2 (.int .u8 (PR : Nat)) (by omega)).setOther w.heap.size 3 (.int .u8 (TT : Nat)) (by omega)).setOther w.heap.size 4 (.int .u16 (ID : Nat)) (by omega)).setOther w.heap.size 5 (.bool o14) (by omega)).setOther w.heap.size 6 (.bool o13) (by omega)).setOther w.heap.size 7 (.int .i64 (OF : Nat)) (by omega)).setOther w.heap.size 8 (.slice a9 m c9) (by omega)).base (show w.heap.size ≤ w8.heap.size by omega))
    have HRG := (show Hid _ from hRA.range)
    have HBB := (show Hid _ from hbA)
    have HML := (show Hid _ from hml)
    clear hRA hbA hP9 hR9 bb9 o9 b9 hml
    go_wp2
    try simp only [Exit.inBlock, Exit.then]
    refine bodyPost_ret (results_cellE2 rfl _ _ w.heap.size 0 [.int .u32 (SR : Nat), .int .u32 (DS : Nat), .int .u8 (PR : Nat), .int .u8 (TT : Nat), .int .u16 (ID : Nat), .bool o14, .bool o13, .int .i64 (OF : Nat), .slice a9 m c9] _ rfl HRG.out Try.underlying26 rfl (by kernel_rfl)) rfl ?_
    obtain ⟨e1, e2, e3, e4, e5, e6, e7, e8, e9⟩ := HK.out
    refine ⟨⟨a9, c9, ?_, ?_⟩, HBB.out⟩
    · rw [e1, e2, e3, e4, e5, e6, e7, e8, e9, HML.out, HE.out]; rfl
    · rw [e9, HML.out]; exact HOF.out
end Go.Proofs.Ytplicfknjhjjgaa
