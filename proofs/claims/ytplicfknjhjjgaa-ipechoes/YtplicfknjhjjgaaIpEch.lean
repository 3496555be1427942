/- What ip.Echo answers. -/
import Derived.Test.YtplicfknjhjjgaaIpEc0
namespace Go.Proofs.Ytplicfknjhjjgaa
open Go.RowKit
set_option maxRecDepth 100000 in
set_option maxHeartbeats 2000000 in
theorem echo_any (sr ds pr tt id : Nat) (dn mo : Bool) (of : Int) (a : Option Addr) (n c : Nat) (zs : List Nat) (w : World) (hs : Sl w a n c zs) (hn : n ≤ 140737488355328) :
    Calls Try.prog 7 #[.agg #[.int .u32 (sr : Nat), .int .u32 (ds : Nat), .int .u8 (pr : Nat), .int .u8 (tt : Nat), .int .u16 (id : Nat), .bool dn, .bool mo, .int .i64 of, .slice a n c]] w fun e w' => EcP sr ds pr id mo of zs w e w' := by
  obtain ⟨W1, hW1⟩ : ∃ W, W = w.alloc (.cells #[.int .u32 (sr : Nat), .int .u32 (ds : Nat), .int .u8 (pr : Nat), .int .u8 (tt : Nat), .int .u16 (id : Nat), .bool dn, .bool mo, .int .i64 of, .slice a n c] 26) := ⟨_, rfl⟩
  obtain ⟨W2, hW2⟩ : ∃ W, W = W1.alloc (.cells #[.int .u32 0, .int .u32 0, .int .u8 0, .int .u8 0, .int .u16 0, .bool false, .bool false, .int .i64 0, .slice none 0 0] 26) := ⟨_, rfl⟩
  have z1 : W1.heap.size = w.heap.size + 1 := by rw [hW1]; simp
  have b1 : Below w.heap.size w W1 := by rw [hW1]; exact (Below.refl _ _).alloc (Nat.le_refl _) _
  have b2 : Below W1.heap.size W1 W2 := by rw [hW2]; exact (Below.refl _ _).alloc (Nat.le_refl _) _
  have sP := (Stc.new w [.int .u32 (sr : Nat), .int .u32 (ds : Nat), .int .u8 (pr : Nat), .int .u8 (tt : Nat), .int .u16 (id : Nat), .bool dn, .bool mo, .int .i64 of, .slice a n c] 26 W1 hW1).below b2
  have sR := Stc.new W1 [.int .u32 0, .int .u32 0, .int .u8 0, .int .u8 0, .int .u16 0, .bool false, .bool false, .int .i64 0, .slice none 0 0] 26 W2 hW2
  rw [z1] at sR
  have b02 : Below w.heap.size w W2 := b1.trans (b2.mono b1.size)
  have hs2 := hs.below b02
  clear b1 b2 z1
  have p0 := sP.cell 0 _ rfl
  have p1 := sP.cell 1 _ rfl
  have p2 := sP.cell 2 _ rfl
  have p3 := sP.cell 3 _ rfl
  have p4 := sP.cell 4 _ rfl
  have p5 := sP.cell 5 _ rfl
  have p6 := sP.cell 6 _ rfl
  have p7 := sP.cell 7 _ rfl
  have p8 := sP.cell 8 _ rfl
  by_cases hq : of = 0 ∧ mo = false ∧ pr = 1
  case neg =>
    subst hW2
    subst hW1
    have HRG := (show Hid _ from sR.range)
    have HBB := (show Hid _ from b02)
    clear sR sP b02 hs2 p0 p1 p2 p3 p4 p5 p6 p7 p8
    rcases (show ¬ of = 0 ∨ (of = 0 ∧ mo = true) ∨ (of = 0 ∧ mo = false ∧ ¬ pr = 1) by
      by_cases h1 : of = 0
      · cases mo
        · exact .inr (.inr ⟨h1, rfl, fun e => hq ⟨h1, rfl, e⟩⟩)
        · exact .inr (.inl ⟨h1, rfl⟩)
      · exact .inl h1) with h1 | ⟨h1, h2⟩ | ⟨h1, h2, h3⟩
    · have h1b : (of != 0) = true := by simpa using h1
      clear hq
      go_enter Try.func7, Try.ntmps7
      go_wp2
      try simp only [Exit.inBlock, Exit.then]
      refine bodyPost_ret (results_cellE2 rfl _ _ (w.heap.size + 1) 0 [.int .u32 0, .int .u32 0, .int .u8 0, .int .u8 0, .int .u16 0, .bool false, .bool false, .int .i64 0, .slice none 0 0] _ rfl HRG.out Try.underlying26 rfl (by kernel_rfl)) rfl ?_
      exact ec_no _ _ _ _ _ _ _ (fun h => h1 h.1) _ _ HBB.out
    · subst h1 h2
      clear hq
      go_enter Try.func7, Try.ntmps7
      go_wp2
      try simp only [Exit.inBlock, Exit.then]
      refine bodyPost_ret (results_cellE2 rfl _ _ (w.heap.size + 1) 0 [.int .u32 0, .int .u32 0, .int .u8 0, .int .u8 0, .int .u16 0, .bool false, .bool false, .int .i64 0, .slice none 0 0] _ rfl HRG.out Try.underlying26 rfl (by kernel_rfl)) rfl ?_
      exact ec_no _ _ _ _ _ _ _ (fun h => by cases h.2.1) _ _ HBB.out
    · subst h1 h2
      have h3b : ((pr : Int) != 1) = true := by simp; omega
      clear hq
      go_enter Try.func7, Try.ntmps7
      go_wp2
      try simp only [Exit.inBlock, Exit.then]
      refine bodyPost_ret (results_cellE2 rfl _ _ (w.heap.size + 1) 0 [.int .u32 0, .int .u32 0, .int .u8 0, .int .u8 0, .int .u16 0, .bool false, .bool false, .int .i64 0, .slice none 0 0] _ rfl HRG.out Try.underlying26 rfl (by kernel_rfl)) rfl ?_
      exact ec_no _ _ _ _ _ _ _ (fun h => h3 h.2.2.1) _ _ HBB.out
  case pos =>
    obtain ⟨rfl, rfl, hp1⟩ := hq
    have hp1b : ((pr : Int) != 1) = false := by simp; omega
    have HP1 : Hid (pr = 1) := hp1
    clear hp1
    go_enter Try.func7, Try.ntmps7
    go_wp2_with fail
    rw [← hW1, ← hW2]
    clear hW1 hW2
    refine (takeIcmp_any a n c zs W2 hs2 hn).mono ?_
    rintro e w3 ⟨⟨a3, c3, rfl, o3⟩, b3⟩
    obtain ⟨E, hE⟩ : ∃ x, x = icE zs := ⟨_, rfl⟩
    obtain ⟨T0, hT0⟩ : ∃ x, x = icN zs 0 1 := ⟨_, rfl⟩
    obtain ⟨T1, hT1⟩ : ∃ x, x = icN zs 1 1 := ⟨_, rfl⟩
    obtain ⟨T4, hT4⟩ : ∃ x, x = icN zs 4 4 := ⟨_, rfl⟩
    obtain ⟨BY, hBY⟩ : ∃ x, x = icB zs := ⟨_, rfl⟩
    obtain ⟨m, hm⟩ : ∃ m, m = BY.length := ⟨_, rfl⟩
    have hml : BY.length ≤ zs.length - 8 := by
      rw [hBY]
      unfold icB
      split
      · rw [List.length_drop]; exact Nat.le_refl _
      · simp
    have hmb : m ≤ 140737488355320 := by rw [hm]; have := hs.len; omega
    have q4 : T4 < 4294967296 := by
      rw [hT4]; unfold icN
      split
      · exact numV_lt zs 4 4 hs.bnd
      · omega
    rw [← hE, ← hT0, ← hT1, ← hT4, ← hBY, ← hm]
    rw [← hBY, ← hm] at o3
    have HE := (show Hid _ from hE)
    have H0 := (show Hid _ from hT0)
    have H1 := (show Hid _ from hT1)
    have H4 := (show Hid _ from hT4)
    have HB := (show Hid _ from hBY)
    have HM := (show Hid _ from hm)
    clear hE hT0 hT1 hT4 hBY hm hml p0 p1 p2 p3 p4 p5 p6 p7 p8
    obtain ⟨w4, hw4⟩ : ∃ w4, w4 = w3.alloc (.cells #[.int .u8 (T0 : Nat), .int .u8 (T1 : Nat), .int .u32 (T4 : Nat), .slice a3 m c3] 28) := ⟨_, rfl⟩
    have b34 : Below w3.heap.size w3 w4 := by rw [hw4]; exact (Below.refl _ _).alloc (Nat.le_refl _) _
    have sX := Stc.new w3 [.int .u8 (T0 : Nat), .int .u8 (T1 : Nat), .int .u32 (T4 : Nat), .slice a3 m c3] 28 w4 hw4
    have b24 : Below W2.heap.size W2 w4 := b3.trans (b34.mono b3.size)
    have sP4 := sP.below b24
    have sR4 := sR.below b24
    have o4 := o3.below b34
    have hlr := sR.lt
    have hl3 := b3.size
    have bb4 : Below w.heap.size w w4 := b02.trans (b24.mono b02.size)
    have sP3 := sP.below b3
    have sR3 := sR.below b3
    have bb3 : Below w.heap.size w w3 := b02.trans (b3.mono b02.size)
    have hlp3 : w.heap.size < w3.heap.size := sP3.lt
    have hlr3 : w.heap.size + 1 < w3.heap.size := sR3.lt
    have p0 := sP3.cell 0 _ rfl
    have p1 := sP3.cell 1 _ rfl
    have p2 := sP3.cell 2 _ rfl
    have p3 := sP3.cell 3 _ rfl
    have p4 := sP3.cell 4 _ rfl
    have p5 := sP3.cell 5 _ rfl
    have p6 := sP3.cell 6 _ rfl
    have p7 := sP3.cell 7 _ rfl
    have p8 := sP3.cell 8 _ rfl
    have r0 := sR3.cell 0 _ rfl
    have r1 := sR3.cell 1 _ rfl
    have r2 := sR3.cell 2 _ rfl
    have r3 := sR3.cell 3 _ rfl
    have r4 := sR3.cell 4 _ rfl
    have r5 := sR3.cell 5 _ rfl
    have r6 := sR3.cell 6 _ rfl
    have r7 := sR3.cell 7 _ rfl
    have r8 := sR3.cell 8 _ rfl
    have r0f := sR3.free 0
    have r1f := sR3.free 1
    have r2f := sR3.free 2
    have r3f := sR3.free 3
    have r4f := sR3.free 4
    have r5f := sR3.free 5
    have r6f := sR3.free 6
    have r7f := sR3.free 7
    have r8f := sR3.free 8
    subst hw4
    clear sP sR b3 b34 b24
    by_cases hg : E = 0 ∧ T0 = 8 ∧ T1 = 0
    case neg =>
      have hR9 := (((((((((sR3.set 0 (.int .u32 0)).set 1 (.int .u32 0)).set 2 (.int .u8 0)).set 3 (.int .u8 0)).set 4 (.int .u16 0)).set 5 (.bool false)).set 6 (.bool false)).set 7 (.int .i64 0)).set 8 (.slice none 0 0))
      have hb9 := (((((((((bb3.setCell (p := ⟨w.heap.size + 1, 0, none⟩) (by show w.heap.size ≤ w.heap.size + 1; omega) (.int .u32 0)).setCell (p := ⟨w.heap.size + 1, 1, none⟩) (by show w.heap.size ≤ w.heap.size + 1; omega) (.int .u32 0)).setCell (p := ⟨w.heap.size + 1, 2, none⟩) (by show w.heap.size ≤ w.heap.size + 1; omega) (.int .u8 0)).setCell (p := ⟨w.heap.size + 1, 3, none⟩) (by show w.heap.size ≤ w.heap.size + 1; omega) (.int .u8 0)).setCell (p := ⟨w.heap.size + 1, 4, none⟩) (by show w.heap.size ≤ w.heap.size + 1; omega) (.int .u16 0)).setCell (p := ⟨w.heap.size + 1, 5, none⟩) (by show w.heap.size ≤ w.heap.size + 1; omega) (.bool false)).setCell (p := ⟨w.heap.size + 1, 6, none⟩) (by show w.heap.size ≤ w.heap.size + 1; omega) (.bool false)).setCell (p := ⟨w.heap.size + 1, 7, none⟩) (by show w.heap.size ≤ w.heap.size + 1; omega) (.int .i64 0)).setCell (p := ⟨w.heap.size + 1, 8, none⟩) (by show w.heap.size ≤ w.heap.size + 1; omega) (.slice none 0 0))
      have HRG : Hid (∀ o, _) := fun o => (hR9.below ((Below.refl _ _).alloc (Nat.le_refl _) o)).range
      have HBB : Hid (∀ o, _) := fun o => hb9.alloc hb9.size o
      clear hR9 hb9 sR4 sP4 sX bb4 o4
      rcases (show ¬ E = 0 ∨ (E = 0 ∧ ¬ T0 = 8) ∨ (E = 0 ∧ T0 = 8 ∧ ¬ T1 = 0) by omega) with h1 | ⟨h1p, h2⟩ | ⟨h1p, h2p, h3⟩
      · have h1b : ((E : Int) != 0) = true := by simp; omega
        clear hg
        (try clear h1p); (try clear h2p)
        go_wp2
        try simp only [Exit.inBlock, Exit.then]
        refine bodyPost_ret (results_cellE2 rfl _ _ (w.heap.size + 1) 0 [.int .u32 0, .int .u32 0, .int .u8 0, .int .u8 0, .int .u16 0, .bool false, .bool false, .int .i64 0, .slice none 0 0] _ rfl (HRG.out _) Try.underlying26 rfl (by kernel_rfl)) rfl ?_
        exact ec_no _ _ _ _ _ _ _ (fun h => h1 (HE.out.trans h.2.2.2.1)) _ _ (HBB.out _)
      · have h1b : ((E : Int) != 0) = false := by simp; omega
        have h2b : ((T0 : Int) != 8) = true := by simp; omega
        clear hg
        (try clear h1p); (try clear h2p)
        go_wp2
        try simp only [Exit.inBlock, Exit.then]
        refine bodyPost_ret (results_cellE2 rfl _ _ (w.heap.size + 1) 0 [.int .u32 0, .int .u32 0, .int .u8 0, .int .u8 0, .int .u16 0, .bool false, .bool false, .int .i64 0, .slice none 0 0] _ rfl (HRG.out _) Try.underlying26 rfl (by kernel_rfl)) rfl ?_
        exact ec_no _ _ _ _ _ _ _ (fun h => h2 (H0.out.trans h.2.2.2.2.1)) _ _ (HBB.out _)
      · have h1b : ((E : Int) != 0) = false := by simp; omega
        have h2b : ((T0 : Int) != 8) = false := by simp; omega
        have h3b : ((T1 : Int) != 0) = true := by simp; omega
        clear hg
        (try clear h1p); (try clear h2p)
        go_wp2
        try simp only [Exit.inBlock, Exit.then]
        refine bodyPost_ret (results_cellE2 rfl _ _ (w.heap.size + 1) 0 [.int .u32 0, .int .u32 0, .int .u8 0, .int .u8 0, .int .u16 0, .bool false, .bool false, .int .i64 0, .slice none 0 0] _ rfl (HRG.out _) Try.underlying26 rfl (by kernel_rfl)) rfl ?_
        exact ec_no _ _ _ _ _ _ _ (fun h => h3 (H1.out.trans h.2.2.2.2.2)) _ _ (HBB.out _)
    case pos =>
      have HQ : Hid (E = 0 ∧ T0 = 8 ∧ T1 = 0) := hg
      have h1b : ((E : Int) != 0) = false := by simp; omega
      have h2b : ((T0 : Int) != 8) = false := by simp; omega
      have h3b : ((T1 : Int) != 0) = false := by simp; omega
      have q1 : T1 < 256 := by omega
      have hs5 : Sl (w3.alloc (.cells #[.int .u8 0, .int .u8 (T1 : Nat), .int .u32 (T4 : Nat), .slice a3 m c3] 28)) a3 m c3 BY := (o3.alloc _).sl (by omega)
      have hbk := back_any sr ds pr tt id dn false 0 a n c 0 T1 T4 a3 m c3 BY (w3.alloc (.cells #[.int .u8 0, .int .u8 (T1 : Nat), .int .u32 (T4 : Nat), .slice a3 m c3] 28)) (by omega) q1 q4 hs5 hmb
      clear hg sP4 sR4 sX bb4 o4
      go_wp2_with fail
      refine hbk.mono ?_
      rintro e w6 ⟨a6, c6, rfl, o6, b6⟩
      have b36 : Below w3.heap.size w3 w6 := ((Below.refl _ _).alloc (Nat.le_refl _) _).trans (b6.mono (by simp))
      have sP6 := sP3.below b36
      have sR6 := sR3.below b36
      have bb6 : Below w.heap.size w w6 := bb3.trans (b36.mono bb3.size)
      have hlp6 : w.heap.size < w6.heap.size := sP6.lt
      have hlr6 : w.heap.size + 1 < w6.heap.size := sR6.lt
      have o7 : OwnB w6 (w.heap.size + 2) a6 (8 + m) c6 (icV 0 T1 T4 BY) := o6.base (by simp; omega)
      clear p0 p1 p2 p3 p4 p5 p6 p7 p8 r0 r1 r2 r3 r4 r5 r6 r7 r8 r0f r1f r2f r3f r4f r5f r6f r7f r8f sP3 sR3 bb3 b36 b6 o6 hs5 hbk hlp3 hlr3
      have p4 := sP6.cell 4 _ rfl
      have r0 := sR6.cell 0 _ rfl
      have r1 := sR6.cell 1 _ rfl
      have r2 := sR6.cell 2 _ rfl
      have r3 := sR6.cell 3 _ rfl
      have r4 := sR6.cell 4 _ rfl
      have r5 := sR6.cell 5 _ rfl
      have r6 := sR6.cell 6 _ rfl
      have r7 := sR6.cell 7 _ rfl
      have r8 := sR6.cell 8 _ rfl
      have r0f := sR6.free 0
      have r1f := sR6.free 1
      have r2f := sR6.free 2
      have r3f := sR6.free 3
      have r4f := sR6.free 4
      have r5f := sR6.free 5
      have r6f := sR6.free 6
      have r7f := sR6.free 7
      have r8f := sR6.free 8
      have hR9 := (((((((((sR6.set 0 (.int .u32 (ds : Nat))).set 1 (.int .u32 (sr : Nat))).set 2 (.int .u8 1)).set 3 (.int .u8 64)).set 4 (.int .u16 (id : Nat))).set 5 (.bool false)).set 6 (.bool false)).set 7 (.int .i64 0)).set 8 (.slice a6 (8 + m) c6))
      have hb9 := (((((((((bb6.setCell (p := ⟨w.heap.size + 1, 0, none⟩) (by show w.heap.size ≤ w.heap.size + 1; omega) (.int .u32 (ds : Nat))).setCell (p := ⟨w.heap.size + 1, 1, none⟩) (by show w.heap.size ≤ w.heap.size + 1; omega) (.int .u32 (sr : Nat))).setCell (p := ⟨w.heap.size + 1, 2, none⟩) (by show w.heap.size ≤ w.heap.size + 1; omega) (.int .u8 1)).setCell (p := ⟨w.heap.size + 1, 3, none⟩) (by show w.heap.size ≤ w.heap.size + 1; omega) (.int .u8 64)).setCell (p := ⟨w.heap.size + 1, 4, none⟩) (by show w.heap.size ≤ w.heap.size + 1; omega) (.int .u16 (id : Nat))).setCell (p := ⟨w.heap.size + 1, 5, none⟩) (by show w.heap.size ≤ w.heap.size + 1; omega) (.bool false)).setCell (p := ⟨w.heap.size + 1, 6, none⟩) (by show w.heap.size ≤ w.heap.size + 1; omega) (.bool false)).setCell (p := ⟨w.heap.size + 1, 7, none⟩) (by show w.heap.size ≤ w.heap.size + 1; omega) (.int .i64 0)).setCell (p := ⟨w.heap.size + 1, 8, none⟩) (by show w.heap.size ≤ w.heap.size + 1; omega) (.slice a6 (8 + m) c6))
      have HOF : Hid (∀ o, _) := fun o => (((((((((((o7.setOther (w.heap.size + 1) 0 (.int .u32 (ds : Nat)) (by omega)).setOther (w.heap.size + 1) 1 (.int .u32 (sr : Nat)) (by omega)).setOther (w.heap.size + 1) 2 (.int .u8 1) (by omega)).setOther (w.heap.size + 1) 3 (.int .u8 64) (by omega)).setOther (w.heap.size + 1) 4 (.int .u16 (id : Nat)) (by omega)).setOther (w.heap.size + 1) 5 (.bool false) (by omega)).setOther (w.heap.size + 1) 6 (.bool false) (by omega)).setOther (w.heap.size + 1) 7 (.int .i64 0) (by omega)).setOther (w.heap.size + 1) 8 (.slice a6 (8 + m) c6) (by omega)).base (show w.heap.size ≤ w.heap.size + 2 by omega)).alloc o)
      have HRG : Hid (∀ o, _) := fun o => (hR9.below ((Below.refl _ _).alloc (Nat.le_refl _) o)).range
      have HBB : Hid (∀ o, _) := fun o => hb9.alloc hb9.size o
      clear hR9 hb9 sR6 sP6 bb6 o7
      go_wp2
      try simp only [Exit.inBlock, Exit.then]
      refine bodyPost_ret (results_cellE2 rfl _ _ (w.heap.size + 1) 0 [.int .u32 (ds : Nat), .int .u32 (sr : Nat), .int .u8 1, .int .u8 64, .int .u16 (id : Nat), .bool false, .bool false, .int .i64 0, .slice a6 (8 + m) c6] _ rfl (HRG.out _) Try.underlying26 rfl (by kernel_rfl)) rfl ?_
      obtain ⟨e1, e2, e3⟩ := HQ.out
      have HOF2 := HOF.out
      rw [e3] at HOF2
      exact ec_yes _ _ _ _ _ _ _ ⟨rfl, rfl, HP1.out, HE.out.symm.trans e1, H0.out.symm.trans e2, H1.out.symm.trans e3⟩ T4 m BY H4.out.symm HB.out.symm HM.out.symm _ _ _ _ (HOF2 _) (HBB.out _)
end Go.Proofs.Ytplicfknjhjjgaa
