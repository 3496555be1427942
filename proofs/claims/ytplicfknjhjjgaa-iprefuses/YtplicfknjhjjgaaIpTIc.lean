/- What ip.TakeIcmp answers. -/
import Derived.Test.YtplicfknjhjjgaaIpRd
import Derived.Test.YtplicfknjhjjgaaSlc
import Derived.Test.YtplicfknjhjjgaaSt
import Derived.Test.YtplicfknjhjjgaaIpWide
namespace Go.Proofs.Ytplicfknjhjjgaa
open Go.RowKit
def icE (zs : List Nat) : Nat := if zs.length < 8 then 3 else if net zs ≠ 0 then 5 else 0
def icN (zs : List Nat) (p k : Nat) : Nat := if icE zs = 0 then numV zs (p : Int) (k : Int) else 0
def icB (zs : List Nat) : List Nat := if icE zs = 0 then zs.drop 8 else []
/-- A message and an error are answered. -/
structure TicP (zs : List Nat) (w : World) (e : Ending) (w' : World) : Prop where
  ans : ∃ a c, e = .returned (.tuple #[.agg #[.int .u8 (icN zs 0 1 : Nat), .int .u8 (icN zs 1 1 : Nat), .int .u32 (icN zs 4 4 : Nat), .slice a (icB zs).length c], .int .i64 (icE zs : Nat)]) ∧ OwnB w' w.heap.size a (icB zs).length c (icB zs)
  bel : Below w.heap.size w w'
theorem ic_bad (zs : List Nat) (k : Nat) (hk : ¬ k = 0) (h : icE zs = k) : icB zs = [] ∧ Ending.returned (.tuple #[.agg #[.int .u8 0, .int .u8 0, .int .u32 0, .slice none 0 0], .int .i64 (k : Nat)]) = .returned (.tuple #[.agg #[.int .u8 (icN zs 0 1 : Nat), .int .u8 (icN zs 1 1 : Nat), .int .u32 (icN zs 4 4 : Nat), .slice none ([] : List Nat).length 0], .int .i64 (k : Nat)]) := by
  have h0 : ¬ icE zs = 0 := by omega
  unfold icB icN
  rw [if_neg h0, if_neg h0, if_neg h0, if_neg h0]
  exact ⟨rfl, rfl⟩
theorem tic_start (wT w1 : World) (r : Nat) (av : Value) (rs xs : List Value) (T T1 T2 : TypeId) (sr : Stc w1 r rs) (hr : wT.heap.size ≤ r) (b : Below wT.heap.size wT w1) : HcS wT w1.heap.size (w1.heap.size + 1) av (w1.heap.size + 2) r 0 xs rs (((w1.alloc (.cells #[av] T1)).alloc (.cells #[.int .i64 0] T2)).alloc (.cells xs.toArray T)) := by
  obtain ⟨A, hA⟩ : ∃ A, A = w1.alloc (.cells #[av] T1) := ⟨_, rfl⟩
  obtain ⟨B, hB⟩ : ∃ B, B = A.alloc (.cells #[.int .i64 0] T2) := ⟨_, rfl⟩
  obtain ⟨C, hC⟩ : ∃ C, C = B.alloc (.cells xs.toArray T) := ⟨_, rfl⟩
  rw [← hA, ← hB, ← hC]
  have zA : A.heap.size = w1.heap.size + 1 := by rw [hA]; simp
  have zB : B.heap.size = w1.heap.size + 2 := by rw [hB]; simp; omega
  have bA : Below w1.heap.size w1 A := by rw [hA]; exact (Below.refl _ _).alloc (Nat.le_refl _) _
  have bB : Below A.heap.size A B := by rw [hB]; exact (Below.refl _ _).alloc (Nat.le_refl _) _
  have bC : Below B.heap.size B C := by rw [hC]; exact (Below.refl _ _).alloc (Nat.le_refl _) _
  have bAC : Below A.heap.size A C := bB.trans (bC.mono bB.size)
  have b1C : Below w1.heap.size w1 C := bA.trans (bAC.mono bA.size)
  have sA := (Stc.new w1 [av] T1 A hA).below bAC
  have sB := (Stc.new A [.int .i64 0] T2 B hB).below bC
  have sC := Stc.new B xs T C hC
  rw [zA] at sB
  rw [zB] at sC
  have l1 := sr.lt
  have l2 := b.size
  exact ⟨sA, sB, sC, sr.below b1C, by omega, by omega, by omega, by omega, by omega, by omega, by omega, by omega, hr, b.trans (b1C.mono l2)⟩
set_option maxRecDepth 100000 in
set_option maxHeartbeats 2000000 in
theorem takeIcmp_any (a : Option Addr) (n c : Nat) (zs : List Nat) (w : World) (hs : Sl w a n c zs) (hn : n ≤ 140737488355328) :
    Calls Try.prog 18 #[.slice a n c] w fun e w' => TicP zs w e w' := by
  have hl := hs.len
  have hcap := hs.cap
  have HBAD : Hid (∀ k, icE zs = k → ¬ k = 0 → _) := fun k h hk => ic_bad zs k hk h
  have hb0 : Below w.heap.size w (w.alloc (.cells #[.int .u8 0, .int .u8 0, .int .u32 0, .slice none 0 0] 28)) := (Below.refl _ _).alloc (Nat.le_refl _) _
  have hR0 := Stc.new w [.int .u8 0, .int .u8 0, .int .u32 0, .slice none 0 0] 28 (w.alloc (.cells #[.int .u8 0, .int .u8 0, .int .u32 0, .slice none 0 0] 28)) rfl
  by_cases h1 : n < 8
  · have hn1 : (n : Int) < 8 := by omega
    have HE : Hid (icE zs = 3) := by show _ = _; unfold icE; rw [if_pos (by omega)]
    have HN := HBAD.out 3 HE.out (by omega)
    have HRG := (show Hid _ from hR0.range)
    have HBB := (show Hid _ from hb0)
    clear hR0 hb0
    go_enter Try.func18, Try.ntmps18
    go_wp2
    try simp only [Exit.inBlock, Exit.then]
    refine bodyPost_ret (results_cellE2 rfl _ _ w.heap.size 0 [.int .u8 0, .int .u8 0, .int .u32 0, .slice none 0 0] _ rfl HRG.out Try.underlying28 rfl (by kernel_rfl)) rfl ?_
    exact ⟨⟨none, 0, by rw [HN.1, HE.out]; exact HN.2, by rw [HN.1]; exact OwnB.nil _ _⟩, HBB.out⟩
  have hn1 : ¬ (n : Int) < 8 := by omega
  rcases hs.at_ with h00 | ⟨b, off, rfl, hltb, hcellw⟩
  · omega
  clear hcellw
  obtain ⟨W0, hW0⟩ : ∃ W0, W0 = w.alloc (.cells #[.int .u8 0, .int .u8 0, .int .u32 0, .slice none 0 0] 28) := ⟨_, rfl⟩
  rw [← hW0] at hb0 hR0
  have hs0 := hs.below hb0
  have HIC : Hid (icE zs = if net zs ≠ 0 then 5 else 0) := by show _ = _; unfold icE; rw [if_neg (by omega)]
  go_enter Try.func18, Try.ntmps18
  go_wp2_with fail
  rw [← hW0]
  clear hW0
  refine (net_any (some ⟨b, off, none⟩) n c zs W0 hs0).mono ?_
  rintro e w1 ⟨rfl, b1⟩
  have hR1 := hR0.below b1
  have bb1 : Below w.heap.size w w1 := hb0.trans (b1.mono hb0.size)
  clear hR0 hb0 hs0 b1
  generalize net zs = NT at *
  by_cases g6 : NT = 0
  case neg =>
    have HE : Hid (icE zs = 5) := by show _ = _; rw [HIC.out, if_pos g6]
    have HN := HBAD.out 5 HE.out (by omega)
    have t6 : ¬ (NT : Int) = 0 := by omega
    have t6b : ((NT : Int) != 0) = true := by simpa using t6
    have r0 := hR1.cell 0 _ rfl
    have r1 := hR1.cell 1 _ rfl
    have r2 := hR1.cell 2 _ rfl
    have r3 := hR1.cell 3 _ rfl
    have r0f := hR1.free 0
    have r1f := hR1.free 1
    have r2f := hR1.free 2
    have r3f := hR1.free 3
    have hR9 := ((((hR1.set 0 (.int .u8 0)).set 1 (.int .u8 0)).set 2 (.int .u32 0)).set 3 (.slice none 0 0))
    have hb9 := ((((bb1.setCell (p := ⟨w.heap.size, 0, none⟩) (Nat.le_refl _) (.int .u8 0)).setCell (p := ⟨w.heap.size, 1, none⟩) (Nat.le_refl _) (.int .u8 0)).setCell (p := ⟨w.heap.size, 2, none⟩) (Nat.le_refl _) (.int .u32 0)).setCell (p := ⟨w.heap.size, 3, none⟩) (Nat.le_refl _) (.slice none 0 0))
    have HRG := (show Hid _ from hR9.range)
    have HBB := (show Hid _ from hb9)
    clear hR9 hb9 hR1 bb1
    go_wp2
    try simp only [Exit.inBlock, Exit.then]
    refine bodyPost_ret (results_cellE2 rfl _ _ w.heap.size 0 [.int .u8 0, .int .u8 0, .int .u32 0, .slice none 0 0] _ rfl HRG.out Try.underlying28 rfl (by kernel_rfl)) rfl ?_
    exact ⟨⟨none, 0, by rw [HN.1, HE.out]; exact HN.2, by rw [HN.1]; exact OwnB.nil _ _⟩, HBB.out⟩
  case pos =>
  subst g6
  have HE : Hid (icE zs = 0) := by show _ = _; rw [HIC.out, if_neg (by simp)]
  obtain ⟨V0, hV0⟩ : ∃ V, V = numV zs 0 1 := ⟨_, rfl⟩
  obtain ⟨V1, hV1⟩ : ∃ V, V = numV zs 1 1 := ⟨_, rfl⟩
  obtain ⟨V4, hV4⟩ : ∃ V, V = numV zs 4 4 := ⟨_, rfl⟩
  have q0 : V0 < 256 := by rw [hV0]; exact numV_lt zs 0 1 hs.bnd
  have q1 : V1 < 256 := by rw [hV1]; exact numV_lt zs 1 1 hs.bnd
  have q4 : V4 < 4294967296 := by rw [hV4]; exact numV_lt zs 4 4 hs.bnd
  have HOK : Hid (icN zs 0 1 = V0 ∧ icN zs 1 1 = V1 ∧ icN zs 4 4 = V4 ∧ icB zs = zs.drop 8) := by
    show _ ∧ _
    unfold icN icB
    rw [if_pos HE.out, if_pos HE.out, if_pos HE.out, if_pos HE.out]
    exact ⟨hV0.symm, hV1.symm, hV4.symm, rfl⟩
  have HV0 := (show Hid _ from hV0.symm)
  have HV1 := (show Hid _ from hV1.symm)
  have HV4 := (show Hid _ from hV4.symm)
  clear hV0 hV1 hV4
  have m0 : (V0 : Int) % 256 = (V0 : Int) := by omega
  have m1 : (V1 : Int) % 256 = (V1 : Int) := by omega
  have m4 : (V4 : Int) % 4294967296 = (V4 : Int) := by omega
  obtain ⟨W4, hW4⟩ : ∃ W4, W4 = ((w1.alloc (.cells #[.slice (some ⟨b, off, none⟩) n c] 24)).alloc (.cells #[.int .i64 0] 3)).alloc (.cells #[.int .u8 0, .int .u8 0, .int .u32 0, .slice none 0 0] 28) := ⟨_, rfl⟩
  have d0 : HcS w w1.heap.size (w1.heap.size + 1) (.slice (some ⟨b, off, none⟩) n c) (w1.heap.size + 1 + 1) w.heap.size 0 [.int .u8 0, .int .u8 0, .int .u32 0, .slice none 0 0] [.int .u8 0, .int .u8 0, .int .u32 0, .slice none 0 0] W4 := by rw [hW4]; exact tic_start w w1 w.heap.size _ _ [.int .u8 0, .int .u8 0, .int .u32 0, .slice none 0 0] 28 _ _ hR1 (Nat.le_refl _) bb1
  have hlw := hR1.lt
  clear hR1 bb1
  go_wp2_with fail
  refine (reading_any (some ⟨b, off, none⟩) n c w1).mono ?_
  rintro e w' ⟨rfl, hw'⟩
  subst hw'
  go_wp2_with fail
  rw [← hW4]
  clear hW4
  refine (d0.cut zs hs 1 (by omega)).mono ?_
  rintro e w2 ⟨rfl, d1⟩
  rw [show numV zs ((0 : Nat) : Int) ((1 : Nat) : Int) = V0 from HV0.out]
  clear d0
  have x0 := d1.sx.cell 0 _ rfl
  have x0f := d1.sx.free 0
  have d1' := d1.set 0 (.int .u8 (V0 : Nat))
  clear d1
  go_wp2_with fail
  refine (d1'.cut zs hs 1 (by omega)).mono ?_
  rintro e w3 ⟨rfl, d2⟩
  rw [show numV zs ((0 + 1 : Nat) : Int) ((1 : Nat) : Int) = V1 from HV1.out]
  clear d1' x0 x0f
  have x1 := d2.sx.cell 1 _ rfl
  have x1f := d2.sx.free 1
  have d2' := d2.set 1 (.int .u8 (V1 : Nat))
  clear d2
  go_wp2_with fail
  refine (d2'.cut zs hs 2 (by omega)).mono ?_
  rintro e w4 ⟨rfl, d3⟩
  generalize numV zs ((0 + 1 + 1 : Nat) : Int) ((2 : Nat) : Int) = j3
  clear d2' x1 x1f
  go_wp2_with fail
  refine (d3.cut zs hs 4 (by omega)).mono ?_
  rintro e w5 ⟨rfl, d4⟩
  rw [show numV zs ((0 + 1 + 1 + 2 : Nat) : Int) ((4 : Nat) : Int) = V4 from HV4.out]
  clear d3
  have x2 := d4.sx.cell 2 _ rfl
  have x2f := d4.sx.free 2
  obtain ⟨w6, hw6⟩ : ∃ w6, w6 = w5.setCell ⟨w1.heap.size + 1 + 1, 2, none⟩ (.int .u32 (V4 : Nat)) := ⟨_, rfl⟩
  have d5 := d4.set 2 (.int .u32 (V4 : Nat))
  rw [← hw6] at d5
  clear d4
  obtain ⟨ab0, hab, hab2⟩ := slice_from b off n c 8 8 rfl (by omega) hcap
  have hsd := (hs.below d5.bel).dropE 8 (by omega) ab0 hab2
  obtain ⟨m, hm⟩ : ∃ m, m = n - 8 := ⟨_, rfl⟩
  rw [← hm] at hsd
  have HD : Hid ((zs.drop 8).length = m) := hsd.len
  simp only [← hm] at hab
  have hmb : m ≤ 140737488355328 := by omega
  clear hm
  obtain ⟨BY, hBY⟩ : ∃ B, B = zs.drop 8 := ⟨_, rfl⟩
  rw [← hBY] at hsd HD HOK
  clear hBY
  go_wp2_with fail
  rw [← hw6]
  clear hw6
  refine (clone_anyW (some ab0) m (c - 8) BY w6 hsd hmb).mono ?_
  rintro e w7 ⟨ab, cb, rfl, o7, _, b7⟩
  have sx7 := d5.sx.below b7
  have sr7 := d5.sr.below b7
  have bb7 : Below w.heap.size w w7 := d5.bel.trans (b7.mono d5.bel.size)
  have lx := d5.sx.lt
  have lr := d5.sr.lt
  clear x2 x2f d5 b7 hsd hab hab2
  have x3 := sx7.cell 3 _ rfl
  have x3f := sx7.free 3
  have x0 := sx7.cell 0 _ rfl
  have x1 := sx7.cell 1 _ rfl
  have x2 := sx7.cell 2 _ rfl
  have sx8 := sx7.set 3 (.slice ab m cb)
  have sr8 := sr7.other (w1.heap.size + 1 + 1) 3 (.slice ab m cb) (by omega)
  have bb8 := bb7.setCell (p := ⟨w1.heap.size + 1 + 1, 3, none⟩) (by show w.heap.size ≤ w1.heap.size + 1 + 1; omega) (.slice ab m cb)
  have o8 := o7.setOther (w1.heap.size + 1 + 1) 3 (.slice ab m cb) lx
  have y0 := sx8.cell 0 _ rfl
  have y1 := sx8.cell 1 _ rfl
  have y2 := sx8.cell 2 _ rfl
  have y3 := sx8.cell 3 _ rfl
  have r0 := sr8.cell 0 _ rfl
  have r1 := sr8.cell 1 _ rfl
  have r2 := sr8.cell 2 _ rfl
  have r3 := sr8.cell 3 _ rfl
  have r0f := sr8.free 0
  have r1f := sr8.free 1
  have r2f := sr8.free 2
  have r3f := sr8.free 3
  have hR9 := ((((sr8.set 0 (.int .u8 (V0 : Nat))).set 1 (.int .u8 (V1 : Nat))).set 2 (.int .u32 (V4 : Nat))).set 3 (.slice ab m cb))
  have hb9 := ((((bb8.setCell (p := ⟨w.heap.size, 0, none⟩) (Nat.le_refl _) (.int .u8 (V0 : Nat))).setCell (p := ⟨w.heap.size, 1, none⟩) (Nat.le_refl _) (.int .u8 (V1 : Nat))).setCell (p := ⟨w.heap.size, 2, none⟩) (Nat.le_refl _) (.int .u32 (V4 : Nat))).setCell (p := ⟨w.heap.size, 3, none⟩) (Nat.le_refl _) (.slice ab m cb))
  have HOF := (show Hid _ from ((((o8.setOther w.heap.size 0 (.int .u8 (V0 : Nat)) lr).setOther w.heap.size 1 (.int .u8 (V1 : Nat)) lr).setOther w.heap.size 2 (.int .u32 (V4 : Nat)) lr).setOther w.heap.size 3 (.slice ab m cb) lr).base (Nat.le_of_lt lr))
  have HRG := (show Hid _ from hR9.range)
  have HBB := (show Hid _ from hb9)
  clear hR9 hb9 sx7 sr7 sx8 sr8 bb7 bb8 o7 o8
  go_wp2
  try simp only [Exit.inBlock, Exit.then]
  refine bodyPost_ret (results_cellE2 rfl _ _ w.heap.size 0 [.int .u8 (V0 : Nat), .int .u8 (V1 : Nat), .int .u32 (V4 : Nat), .slice ab m cb] _ rfl HRG.out Try.underlying28 rfl (by kernel_rfl)) rfl ?_
  obtain ⟨e1, e2, e3, e4⟩ := HOK.out
  refine ⟨⟨ab, cb, ?_, ?_⟩, HBB.out⟩
  · rw [e1, e2, e3, e4, HD.out, HE.out]; rfl
  · rw [e4, HD.out]; exact HOF.out
end Go.Proofs.Ytplicfknjhjjgaa
