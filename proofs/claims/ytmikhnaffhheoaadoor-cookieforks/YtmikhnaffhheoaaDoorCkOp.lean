/- What cookie.Open answers. -/
import Derived.Test.YtmikhnaffhheoaaDoorCkSd
import Derived.Test.YtmikhnaffhheoaaDoorCkRe
namespace Go.Proofs.YtmikhnaffhheoaaDoor
open Go.RowKit
/-- The error of bytes, behind the test of the tick. -/
def opB (cur : List Nat) (fm : Option (List Nat)) (zs : List Nat) (now : Int) : Nat := if sealedV cur fm (zs.take 52) (zs.drop 52) = false then 5 else if numV (zs.take 52) ((48 : Nat) : Int) ((4 : Nat) : Int) ≠ 0 then 4 else if ckMay (IntKind.i64.wrap (numV (zs.take 52) ((0 : Nat) : Int) ((8 : Nat) : Int) : Nat)) (IntKind.i64.wrap (numV (zs.take 52) ((8 : Nat) : Int) ((4 : Nat) : Int) : Nat)) = false then 6 else if now < IntKind.i64.wrap (numV (zs.take 52) ((0 : Nat) : Int) ((8 : Nat) : Int) : Nat) ∨ IntKind.i64.wrap (numV (zs.take 52) ((0 : Nat) : Int) ((8 : Nat) : Int) : Nat) + IntKind.i64.wrap (numV (zs.take 52) ((8 : Nat) : Int) ((4 : Nat) : Int) : Nat) < now then 8 else 0
def opE (cur : List Nat) (fm : Option (List Nat)) (zs : List Nat) (now : Int) : Nat := if now < 0 ∨ 1099511627776 < now then 2 else if zs.length ≠ 84 then 4 else opB cur fm zs now
/-- A cookie and an error are answered. -/
structure OpP (E : Nat) (bs : List Nat) (w : World) (e : Ending) (w' : World) : Prop where
  ans : (E = 0 ∧ e = .returned (.tuple #[.agg #[.int .i64 (IntKind.i64.wrap (numV bs ((0 : Nat) : Int) ((8 : Nat) : Int) : Nat)), .int .i64 (IntKind.i64.wrap (numV bs ((8 : Nat) : Int) ((4 : Nat) : Int) : Nat)), .int .u16 (numV bs ((12 : Nat) : Int) ((2 : Nat) : Int) : Nat), .int .u16 (numV bs ((14 : Nat) : Int) ((2 : Nat) : Int) : Nat), .int .u32 (numV bs ((16 : Nat) : Int) ((4 : Nat) : Int) : Nat), .int .u32 (numV bs ((20 : Nat) : Int) ((4 : Nat) : Int) : Nat), .int .u32 (numV bs ((24 : Nat) : Int) ((4 : Nat) : Int) : Nat), .int .u32 (numV bs ((28 : Nat) : Int) ((4 : Nat) : Int) : Nat), .int .u32 (numV bs ((32 : Nat) : Int) ((4 : Nat) : Int) : Nat), .int .u16 (numV bs ((36 : Nat) : Int) ((2 : Nat) : Int) : Nat), .int .u16 (numV bs ((38 : Nat) : Int) ((2 : Nat) : Int) : Nat), .int .u32 (numV bs ((40 : Nat) : Int) ((4 : Nat) : Int) : Nat), .int .u32 (numV bs ((44 : Nat) : Int) ((4 : Nat) : Int) : Nat)], .int .i64 0])) ∨ (¬ E = 0 ∧ e = .returned (.tuple #[.agg #[.int .i64 0, .int .i64 0, .int .u16 0, .int .u16 0, .int .u32 0, .int .u32 0, .int .u32 0, .int .u32 0, .int .u32 0, .int .u16 0, .int .u16 0, .int .u32 0, .int .u32 0], .int .i64 (E : Nat)]))
  bel : Below w.heap.size w w'
set_option maxRecDepth 100000 in
set_option maxHeartbeats 4000000 in
theorem open_any (kp : Nat) (cur : List Nat) (fm : Option (List Nat)) (a : Option Addr) (n c : Nat) (zs : List Nat) (now : Int) (w : World) (hk : Ky w kp cur fm) (hs : Sl w a n c zs) (hkw : KW w) :
    Calls Tryd.prog 13 #[.pointer (some ⟨kp, 0, none⟩), .slice a n c, .int .i64 now] w fun e w' => OpP (opE cur fm zs now) (zs.take 52) w e w' := by
  have hl := hs.len
  have hb0 : Below w.heap.size w (w.alloc (.cells #[.int .i64 0, .int .i64 0, .int .u16 0, .int .u16 0, .int .u32 0, .int .u32 0, .int .u32 0, .int .u32 0, .int .u32 0, .int .u16 0, .int .u16 0, .int .u32 0, .int .u32 0] 39)) := (Below.refl _ _).alloc (Nat.le_refl _) _
  have hR0 := Stc.new w [.int .i64 0, .int .i64 0, .int .u16 0, .int .u16 0, .int .u32 0, .int .u32 0, .int .u32 0, .int .u32 0, .int .u32 0, .int .u16 0, .int .u16 0, .int .u32 0, .int .u32 0] 39 (w.alloc (.cells #[.int .i64 0, .int .i64 0, .int .u16 0, .int .u16 0, .int .u32 0, .int .u32 0, .int .u32 0, .int .u32 0, .int .u32 0, .int .u16 0, .int .u16 0, .int .u32 0, .int .u32 0] 39)) rfl
  by_cases h1 : now < 0 ∨ 1099511627776 < now
  · have HE : Hid (opE cur fm zs now = 2) := by show _ = _; unfold opE; rw [if_pos h1]
    have HRG := (show Hid _ from hR0.range)
    have HBB := (show Hid _ from hb0)
    clear hR0 hb0
    rcases (show now < 0 ∨ (¬ now < 0 ∧ 1099511627776 < now) by omega) with h2 | ⟨h2, h3⟩
    all_goals
      clear h1
      go_enter Tryd.func13, Tryd.ntmps13
      go_wp2
      try simp only [Exit.inBlock, Exit.then]
      refine bodyPost_ret (results_cellE2 rfl _ _ w.heap.size 0 [.int .i64 0, .int .i64 0, .int .u16 0, .int .u16 0, .int .u32 0, .int .u32 0, .int .u32 0, .int .u32 0, .int .u32 0, .int .u16 0, .int .u16 0, .int .u32 0, .int .u32 0] _ rfl HRG.out Tryd.underlying39 rfl (by kernel_rfl)) rfl ?_
      exact ⟨.inr ⟨by rw [HE.out]; decide, by rw [HE.out]; rfl⟩, HBB.out⟩
  have hn1 : ¬ now < 0 := by omega
  have hn2 : ¬ 1099511627776 < now := by omega
  have HE1 : Hid (opE cur fm zs now = if zs.length ≠ 84 then 4 else opB cur fm zs now) := by show _ = _; unfold opE; rw [if_neg h1]
  clear h1
  by_cases h84 : n = 84
  case neg =>
    have HE : Hid (opE cur fm zs now = 4) := by show _ = _; rw [HE1.out, if_pos (by omega)]
    have h84b : ((n : Int) != 84) = true := by simp; omega
    have HRG := (show Hid _ from hR0.range)
    have HBB := (show Hid _ from hb0)
    clear hR0 hb0
    go_enter Tryd.func13, Tryd.ntmps13
    go_wp2
    try simp only [Exit.inBlock, Exit.then]
    refine bodyPost_ret (results_cellE2 rfl _ _ w.heap.size 0 [.int .i64 0, .int .i64 0, .int .u16 0, .int .u16 0, .int .u32 0, .int .u32 0, .int .u32 0, .int .u32 0, .int .u32 0, .int .u16 0, .int .u16 0, .int .u32 0, .int .u32 0] _ rfl HRG.out Tryd.underlying39 rfl (by kernel_rfl)) rfl ?_
    exact ⟨.inr ⟨by rw [HE.out]; decide, by rw [HE.out]; rfl⟩, HBB.out⟩
  case pos =>
  subst h84
  have HE2 : Hid (opE cur fm zs now = opB cur fm zs now) := by show _ = _; rw [HE1.out, if_neg (by omega)]
  rcases hs.at_ with h00 | ⟨g, off, rfl, hltb, hcellw⟩
  · omega
  clear hcellw HE1
  have hcap := hs.cap
  obtain ⟨W0, hW0⟩ : ∃ W0, W0 = w.alloc (.cells #[.int .i64 0, .int .i64 0, .int .u16 0, .int .u16 0, .int .u32 0, .int .u32 0, .int .u32 0, .int .u32 0, .int .u32 0, .int .u16 0, .int .u16 0, .int .u32 0, .int .u32 0] 39) := ⟨_, rfl⟩
  rw [← hW0] at hb0 hR0
  have bD : Below W0.heap.size W0 W0.drew := (Below.refl _ _).drew
  have b0D : Below w.heap.size w W0.drew := hb0.trans (bD.mono hb0.size)
  have hsD := hs.below b0D
  have hst := slice_to (some ⟨g, off, none⟩) 84 c 52 (by omega)
  have hst2 : ∀ w, (Instr.slice 22 (.slice (some ⟨g, off, none⟩) 84 c) none (some (.int .i64 52)) none).run Tryd.prog w = .ok (.slice (some ⟨g, off, none⟩) 52 c) w := hst
  obtain ⟨ax, hsf, hsf2⟩ := slice_from g off 84 c 52 52 rfl (by omega) hcap
  have hsfx : ∀ w, (Instr.slice 22 (.slice (some ⟨g, off, none⟩) 84 c) (some (.int .i64 52)) none none).run Tryd.prog w = .ok (.slice (some ax) 32 (c - 52)) w := hsf
  have hT := hsD.takeE 52 (by omega) (by omega)
  have hDr : Sl W0.drew (some ax) 32 (c - 52) (zs.drop 52) := hsD.dropE 52 (by omega) ax hsf2
  obtain ⟨bs, hbs⟩ : ∃ bs, bs = zs.take 52 := ⟨_, rfl⟩
  obtain ⟨ss, hss⟩ : ∃ ss, ss = zs.drop 52 := ⟨_, rfl⟩
  rw [← hbs] at hT ⊢
  rw [← hss] at hDr
  have HB2 : Hid (∀ E, opB cur fm zs now = E → opE cur fm zs now = E) := fun E h => HE2.out.trans h
  obtain ⟨D, hD⟩ : ∃ D, D = sealedV cur fm bs ss := ⟨_, rfl⟩
  have hsd := sealed_any kp cur fm (some ⟨g, off, none⟩) 52 c bs (some ax) 32 (c - 52) ss W0.drew (hk.below b0D) (slB_of hT) hDr (hkw.next b0D) (by omega)
  rw [← hD] at hsd
  obtain ⟨U0, hU0⟩ : ∃ U, U = IntKind.i64.wrap (numV bs ((0 : Nat) : Int) ((8 : Nat) : Int) : Nat) := ⟨_, rfl⟩
  obtain ⟨U1, hU1⟩ : ∃ U, U = IntKind.i64.wrap (numV bs ((8 : Nat) : Int) ((4 : Nat) : Int) : Nat) := ⟨_, rfl⟩
  obtain ⟨SP, hSP⟩ : ∃ U, U = numV bs ((48 : Nat) : Int) ((4 : Nat) : Int) := ⟨_, rfl⟩
  have HOB : Hid (opB cur fm zs now = if D = false then 5 else if SP ≠ 0 then 4 else if ckMay U0 U1 = false then 6 else if now < U0 ∨ U0 + U1 < now then 8 else 0) := by
    show _ = _
    unfold opB
    rw [← hbs, ← hss, ← hD, ← hSP, ← hU0, ← hU1]
  have HU0 := (show Hid _ from hU0)
  have HU1 := (show Hid _ from hU1)
  have HSP := (show Hid _ from hSP)
  clear hD hst hsf hsf2 HE2 hU0 hU1 hSP hbs hss
  go_enter Tryd.func13, Tryd.ntmps13
  go_wp2_with fail
  rw [← hW0]
  clear hW0
  go_region_with (first
    | (go_at_call 24; refine hsd.mono ?_; rintro e w1 ⟨rfl, b1⟩)
    | fail)
  all_goals
    have b01 : Below W0.heap.size W0 w1 := bD.trans b1
    have hR1 := hR0.below b01
    have bb1 : Below w.heap.size w w1 := hb0.trans (b01.mono hb0.size)
    have hT1 := hT.below b1
    clear b1 hT hDr hsD b0D bD hb0 hR0 hsd
    cases D
    case false =>
      have HE : Hid (opE cur fm zs now = 5) := HB2.out _ (by rw [HOB.out]; rfl)
      have y0 := hR1.cell 0 _ rfl
      have y1 := hR1.cell 1 _ rfl
      have y2 := hR1.cell 2 _ rfl
      have y3 := hR1.cell 3 _ rfl
      have y4 := hR1.cell 4 _ rfl
      have y5 := hR1.cell 5 _ rfl
      have y6 := hR1.cell 6 _ rfl
      have y7 := hR1.cell 7 _ rfl
      have y8 := hR1.cell 8 _ rfl
      have y9 := hR1.cell 9 _ rfl
      have y10 := hR1.cell 10 _ rfl
      have y11 := hR1.cell 11 _ rfl
      have y12 := hR1.cell 12 _ rfl
      have y0f := hR1.free 0
      have y1f := hR1.free 1
      have y2f := hR1.free 2
      have y3f := hR1.free 3
      have y4f := hR1.free 4
      have y5f := hR1.free 5
      have y6f := hR1.free 6
      have y7f := hR1.free 7
      have y8f := hR1.free 8
      have y9f := hR1.free 9
      have y10f := hR1.free 10
      have y11f := hR1.free 11
      have y12f := hR1.free 12
      have hR9 := (((((((((((((hR1.set 0 (.int .i64 0)).set 1 (.int .i64 0)).set 2 (.int .u16 0)).set 3 (.int .u16 0)).set 4 (.int .u32 0)).set 5 (.int .u32 0)).set 6 (.int .u32 0)).set 7 (.int .u32 0)).set 8 (.int .u32 0)).set 9 (.int .u16 0)).set 10 (.int .u16 0)).set 11 (.int .u32 0)).set 12 (.int .u32 0))
      have HRG := (show Hid _ from hR9.range)
      have HBB := (show Hid _ from (((((((((((((bb1.setCell (p := ⟨w.heap.size, 0, none⟩) (Nat.le_refl _) (.int .i64 0)).setCell (p := ⟨w.heap.size, 1, none⟩) (Nat.le_refl _) (.int .i64 0)).setCell (p := ⟨w.heap.size, 2, none⟩) (Nat.le_refl _) (.int .u16 0)).setCell (p := ⟨w.heap.size, 3, none⟩) (Nat.le_refl _) (.int .u16 0)).setCell (p := ⟨w.heap.size, 4, none⟩) (Nat.le_refl _) (.int .u32 0)).setCell (p := ⟨w.heap.size, 5, none⟩) (Nat.le_refl _) (.int .u32 0)).setCell (p := ⟨w.heap.size, 6, none⟩) (Nat.le_refl _) (.int .u32 0)).setCell (p := ⟨w.heap.size, 7, none⟩) (Nat.le_refl _) (.int .u32 0)).setCell (p := ⟨w.heap.size, 8, none⟩) (Nat.le_refl _) (.int .u32 0)).setCell (p := ⟨w.heap.size, 9, none⟩) (Nat.le_refl _) (.int .u16 0)).setCell (p := ⟨w.heap.size, 10, none⟩) (Nat.le_refl _) (.int .u16 0)).setCell (p := ⟨w.heap.size, 11, none⟩) (Nat.le_refl _) (.int .u32 0)).setCell (p := ⟨w.heap.size, 12, none⟩) (Nat.le_refl _) (.int .u32 0)))
      clear hR9
      clear hR1 bb1 hT1
      go_wp2
      try simp only [Exit.inBlock, Exit.then]
      refine bodyPost_ret (results_cellE2 rfl _ _ w.heap.size 0 [.int .i64 0, .int .i64 0, .int .u16 0, .int .u16 0, .int .u32 0, .int .u32 0, .int .u32 0, .int .u32 0, .int .u32 0, .int .u16 0, .int .u16 0, .int .u32 0, .int .u32 0] _ rfl HRG.out Tryd.underlying39 rfl (by kernel_rfl)) rfl ?_
      exact ⟨.inr ⟨by rw [HE.out]; decide, by rw [HE.out]; rfl⟩, HBB.out⟩
    case true =>
    have hre := read_any (some ⟨g, off, none⟩) c bs w1 hT1
    rw [← HU0.out, ← HU1.out, ← HSP.out] at hre
    obtain ⟨V2, hV2⟩ : ∃ V, V = numV bs ((12 : Nat) : Int) ((2 : Nat) : Int) := ⟨_, rfl⟩
    obtain ⟨V3, hV3⟩ : ∃ V, V = numV bs ((14 : Nat) : Int) ((2 : Nat) : Int) := ⟨_, rfl⟩
    obtain ⟨V4, hV4⟩ : ∃ V, V = numV bs ((16 : Nat) : Int) ((4 : Nat) : Int) := ⟨_, rfl⟩
    obtain ⟨V5, hV5⟩ : ∃ V, V = numV bs ((20 : Nat) : Int) ((4 : Nat) : Int) := ⟨_, rfl⟩
    obtain ⟨V6, hV6⟩ : ∃ V, V = numV bs ((24 : Nat) : Int) ((4 : Nat) : Int) := ⟨_, rfl⟩
    obtain ⟨V7, hV7⟩ : ∃ V, V = numV bs ((28 : Nat) : Int) ((4 : Nat) : Int) := ⟨_, rfl⟩
    obtain ⟨V8, hV8⟩ : ∃ V, V = numV bs ((32 : Nat) : Int) ((4 : Nat) : Int) := ⟨_, rfl⟩
    obtain ⟨V9, hV9⟩ : ∃ V, V = numV bs ((36 : Nat) : Int) ((2 : Nat) : Int) := ⟨_, rfl⟩
    obtain ⟨V10, hV10⟩ : ∃ V, V = numV bs ((38 : Nat) : Int) ((2 : Nat) : Int) := ⟨_, rfl⟩
    obtain ⟨V11, hV11⟩ : ∃ V, V = numV bs ((40 : Nat) : Int) ((4 : Nat) : Int) := ⟨_, rfl⟩
    obtain ⟨V12, hV12⟩ : ∃ V, V = numV bs ((44 : Nat) : Int) ((4 : Nat) : Int) := ⟨_, rfl⟩
    rw [← hV2, ← hV3, ← hV4, ← hV5, ← hV6, ← hV7, ← hV8, ← hV9, ← hV10, ← hV11, ← hV12] at hre
    have HV2 := (show Hid _ from hV2)
    have HV3 := (show Hid _ from hV3)
    have HV4 := (show Hid _ from hV4)
    have HV5 := (show Hid _ from hV5)
    have HV6 := (show Hid _ from hV6)
    have HV7 := (show Hid _ from hV7)
    have HV8 := (show Hid _ from hV8)
    have HV9 := (show Hid _ from hV9)
    have HV10 := (show Hid _ from hV10)
    have HV11 := (show Hid _ from hV11)
    have HV12 := (show Hid _ from hV12)
    clear hV2 hV3 hV4 hV5 hV6 hV7 hV8 hV9 hV10 hV11 hV12
    go_wp2_with fail
    refine hre.mono ?_
    rintro e w2 ⟨rfl, b2⟩
    have hR2 := hR1.below b2
    have bb2 : Below w.heap.size w w2 := bb1.trans (b2.mono bb1.size)
    have hlr : w.heap.size < w2.heap.size := hR2.lt
    clear hR1 bb1 b2 hT1 hre
    by_cases hsp : SP = 0
    case neg =>
      have HE : Hid (opE cur fm zs now = 4) := HB2.out _ (by rw [HOB.out, if_neg (by simp), if_pos hsp])
      have hspb : ((SP : Int) != 0) = true := by simp; omega
      have y0 := hR2.cell 0 _ rfl
      have y1 := hR2.cell 1 _ rfl
      have y2 := hR2.cell 2 _ rfl
      have y3 := hR2.cell 3 _ rfl
      have y4 := hR2.cell 4 _ rfl
      have y5 := hR2.cell 5 _ rfl
      have y6 := hR2.cell 6 _ rfl
      have y7 := hR2.cell 7 _ rfl
      have y8 := hR2.cell 8 _ rfl
      have y9 := hR2.cell 9 _ rfl
      have y10 := hR2.cell 10 _ rfl
      have y11 := hR2.cell 11 _ rfl
      have y12 := hR2.cell 12 _ rfl
      have y0f := hR2.free 0
      have y1f := hR2.free 1
      have y2f := hR2.free 2
      have y3f := hR2.free 3
      have y4f := hR2.free 4
      have y5f := hR2.free 5
      have y6f := hR2.free 6
      have y7f := hR2.free 7
      have y8f := hR2.free 8
      have y9f := hR2.free 9
      have y10f := hR2.free 10
      have y11f := hR2.free 11
      have y12f := hR2.free 12
      have hR9 := (((((((((((((hR2.set 0 (.int .i64 0)).set 1 (.int .i64 0)).set 2 (.int .u16 0)).set 3 (.int .u16 0)).set 4 (.int .u32 0)).set 5 (.int .u32 0)).set 6 (.int .u32 0)).set 7 (.int .u32 0)).set 8 (.int .u32 0)).set 9 (.int .u16 0)).set 10 (.int .u16 0)).set 11 (.int .u32 0)).set 12 (.int .u32 0))
      have hb9 := (((((((((((((bb2.setCell (p := ⟨w.heap.size, 0, none⟩) (Nat.le_refl _) (.int .i64 0)).setCell (p := ⟨w.heap.size, 1, none⟩) (Nat.le_refl _) (.int .i64 0)).setCell (p := ⟨w.heap.size, 2, none⟩) (Nat.le_refl _) (.int .u16 0)).setCell (p := ⟨w.heap.size, 3, none⟩) (Nat.le_refl _) (.int .u16 0)).setCell (p := ⟨w.heap.size, 4, none⟩) (Nat.le_refl _) (.int .u32 0)).setCell (p := ⟨w.heap.size, 5, none⟩) (Nat.le_refl _) (.int .u32 0)).setCell (p := ⟨w.heap.size, 6, none⟩) (Nat.le_refl _) (.int .u32 0)).setCell (p := ⟨w.heap.size, 7, none⟩) (Nat.le_refl _) (.int .u32 0)).setCell (p := ⟨w.heap.size, 8, none⟩) (Nat.le_refl _) (.int .u32 0)).setCell (p := ⟨w.heap.size, 9, none⟩) (Nat.le_refl _) (.int .u16 0)).setCell (p := ⟨w.heap.size, 10, none⟩) (Nat.le_refl _) (.int .u16 0)).setCell (p := ⟨w.heap.size, 11, none⟩) (Nat.le_refl _) (.int .u32 0)).setCell (p := ⟨w.heap.size, 12, none⟩) (Nat.le_refl _) (.int .u32 0))
      have HRG : Hid (∀ o, _) := fun o => (hR9.below ((Below.refl _ _).alloc (Nat.le_refl _) o)).range
      have HBB : Hid (∀ o, _) := fun o => hb9.alloc hb9.size o
      clear hR9 hb9
      clear hR2 bb2
      go_wp2
      try simp only [Exit.inBlock, Exit.then]
      refine bodyPost_ret (results_cellE2 rfl _ _ w.heap.size 0 [.int .i64 0, .int .i64 0, .int .u16 0, .int .u16 0, .int .u32 0, .int .u32 0, .int .u32 0, .int .u32 0, .int .u32 0, .int .u16 0, .int .u16 0, .int .u32 0, .int .u32 0] _ rfl (HRG.out _) Tryd.underlying39 rfl (by kernel_rfl)) rfl ?_
      exact ⟨.inr ⟨by rw [HE.out]; decide, by rw [HE.out]; rfl⟩, (HBB.out _)⟩
    case pos =>
    have hspb : ((SP : Int) != 0) = false := by simp; omega
    have HOB2 : Hid (opB cur fm zs now = if ckMay U0 U1 = false then 6 else if now < U0 ∨ U0 + U1 < now then 8 else 0) := by show _ = _; rw [HOB.out, if_neg (by simp), if_neg (by simpa using hsp)]
    clear hsp HOB
    obtain ⟨w3, hw3⟩ : ∃ W, W = w2.alloc (.cells #[.int .i64 U0, .int .i64 U1, .int .u16 (V2 : Nat), .int .u16 (V3 : Nat), .int .u32 (V4 : Nat), .int .u32 (V5 : Nat), .int .u32 (V6 : Nat), .int .u32 (V7 : Nat), .int .u32 (V8 : Nat), .int .u16 (V9 : Nat), .int .u16 (V10 : Nat), .int .u32 (V11 : Nat), .int .u32 (V12 : Nat)] 39) := ⟨_, rfl⟩
    have b23 : Below w2.heap.size w2 w3 := by rw [hw3]; exact (Below.refl _ _).alloc (Nat.le_refl _) _
    have sC := Stc.new w2 [.int .i64 U0, .int .i64 U1, .int .u16 (V2 : Nat), .int .u16 (V3 : Nat), .int .u32 (V4 : Nat), .int .u32 (V5 : Nat), .int .u32 (V6 : Nat), .int .u32 (V7 : Nat), .int .u32 (V8 : Nat), .int .u16 (V9 : Nat), .int .u16 (V10 : Nat), .int .u32 (V11 : Nat), .int .u32 (V12 : Nat)] 39 w3 hw3
    have hR3 := hR2.below b23
    have bb3 : Below w.heap.size w w3 := bb2.trans (b23.mono bb2.size)
    have hmy := ckMay_any U0 U1 ⟨0, 0, V2, V3, V4, V5, V6, V7, V8, V9, V10, V11, V12⟩ w3
    clear hR2 bb2 b23
    go_wp2_with fail
    rw [← hw3]
    clear hw3
    refine hmy.mono ?_
    rintro e w4 ⟨rfl, b4⟩
    have sC4 := sC.below b4
    have hR4 := hR3.below b4
    have bb4 : Below w.heap.size w w4 := bb3.trans (b4.mono bb3.size)
    clear sC hR3 bb3 b4 hmy hlr
    cases hMy : ckMay U0 U1
    case false =>
      have HE : Hid (opE cur fm zs now = 6) := HB2.out _ (by rw [HOB2.out, hMy]; rfl)
      clear hMy
      have y0 := hR4.cell 0 _ rfl
      have y1 := hR4.cell 1 _ rfl
      have y2 := hR4.cell 2 _ rfl
      have y3 := hR4.cell 3 _ rfl
      have y4 := hR4.cell 4 _ rfl
      have y5 := hR4.cell 5 _ rfl
      have y6 := hR4.cell 6 _ rfl
      have y7 := hR4.cell 7 _ rfl
      have y8 := hR4.cell 8 _ rfl
      have y9 := hR4.cell 9 _ rfl
      have y10 := hR4.cell 10 _ rfl
      have y11 := hR4.cell 11 _ rfl
      have y12 := hR4.cell 12 _ rfl
      have y0f := hR4.free 0
      have y1f := hR4.free 1
      have y2f := hR4.free 2
      have y3f := hR4.free 3
      have y4f := hR4.free 4
      have y5f := hR4.free 5
      have y6f := hR4.free 6
      have y7f := hR4.free 7
      have y8f := hR4.free 8
      have y9f := hR4.free 9
      have y10f := hR4.free 10
      have y11f := hR4.free 11
      have y12f := hR4.free 12
      have hR9 := (((((((((((((hR4.set 0 (.int .i64 0)).set 1 (.int .i64 0)).set 2 (.int .u16 0)).set 3 (.int .u16 0)).set 4 (.int .u32 0)).set 5 (.int .u32 0)).set 6 (.int .u32 0)).set 7 (.int .u32 0)).set 8 (.int .u32 0)).set 9 (.int .u16 0)).set 10 (.int .u16 0)).set 11 (.int .u32 0)).set 12 (.int .u32 0))
      have HRG := (show Hid _ from hR9.range)
      have HBB := (show Hid _ from (((((((((((((bb4.setCell (p := ⟨w.heap.size, 0, none⟩) (Nat.le_refl _) (.int .i64 0)).setCell (p := ⟨w.heap.size, 1, none⟩) (Nat.le_refl _) (.int .i64 0)).setCell (p := ⟨w.heap.size, 2, none⟩) (Nat.le_refl _) (.int .u16 0)).setCell (p := ⟨w.heap.size, 3, none⟩) (Nat.le_refl _) (.int .u16 0)).setCell (p := ⟨w.heap.size, 4, none⟩) (Nat.le_refl _) (.int .u32 0)).setCell (p := ⟨w.heap.size, 5, none⟩) (Nat.le_refl _) (.int .u32 0)).setCell (p := ⟨w.heap.size, 6, none⟩) (Nat.le_refl _) (.int .u32 0)).setCell (p := ⟨w.heap.size, 7, none⟩) (Nat.le_refl _) (.int .u32 0)).setCell (p := ⟨w.heap.size, 8, none⟩) (Nat.le_refl _) (.int .u32 0)).setCell (p := ⟨w.heap.size, 9, none⟩) (Nat.le_refl _) (.int .u16 0)).setCell (p := ⟨w.heap.size, 10, none⟩) (Nat.le_refl _) (.int .u16 0)).setCell (p := ⟨w.heap.size, 11, none⟩) (Nat.le_refl _) (.int .u32 0)).setCell (p := ⟨w.heap.size, 12, none⟩) (Nat.le_refl _) (.int .u32 0)))
      clear hR9
      clear hR4 bb4 sC4
      go_wp2
      try simp only [Exit.inBlock, Exit.then]
      refine bodyPost_ret (results_cellE2 rfl _ _ w.heap.size 0 [.int .i64 0, .int .i64 0, .int .u16 0, .int .u16 0, .int .u32 0, .int .u32 0, .int .u32 0, .int .u32 0, .int .u32 0, .int .u16 0, .int .u16 0, .int .u32 0, .int .u32 0] _ rfl HRG.out Tryd.underlying39 rfl (by kernel_rfl)) rfl ?_
      exact ⟨.inr ⟨by rw [HE.out]; decide, by rw [HE.out]; rfl⟩, HBB.out⟩
    case true =>
    have hmm := of_decide_eq_true hMy
    have HOB3 : Hid (opB cur fm zs now = if now < U0 ∨ U0 + U1 < now then 8 else 0) := by show _ = _; rw [HOB2.out, hMy]; rfl
    clear hMy HOB2
    obtain ⟨q1, q2, q3, q4⟩ := hmm
    have x0 := sC4.cell 0 _ rfl
    have x1 := sC4.cell 1 _ rfl
    by_cases hst8 : now < U0 ∨ U0 + U1 < now
    case pos =>
      have HE : Hid (opE cur fm zs now = 8) := HB2.out _ (by rw [HOB3.out, if_pos hst8])
      have y0 := hR4.cell 0 _ rfl
      have y1 := hR4.cell 1 _ rfl
      have y2 := hR4.cell 2 _ rfl
      have y3 := hR4.cell 3 _ rfl
      have y4 := hR4.cell 4 _ rfl
      have y5 := hR4.cell 5 _ rfl
      have y6 := hR4.cell 6 _ rfl
      have y7 := hR4.cell 7 _ rfl
      have y8 := hR4.cell 8 _ rfl
      have y9 := hR4.cell 9 _ rfl
      have y10 := hR4.cell 10 _ rfl
      have y11 := hR4.cell 11 _ rfl
      have y12 := hR4.cell 12 _ rfl
      have y0f := hR4.free 0
      have y1f := hR4.free 1
      have y2f := hR4.free 2
      have y3f := hR4.free 3
      have y4f := hR4.free 4
      have y5f := hR4.free 5
      have y6f := hR4.free 6
      have y7f := hR4.free 7
      have y8f := hR4.free 8
      have y9f := hR4.free 9
      have y10f := hR4.free 10
      have y11f := hR4.free 11
      have y12f := hR4.free 12
      have hR9 := (((((((((((((hR4.set 0 (.int .i64 0)).set 1 (.int .i64 0)).set 2 (.int .u16 0)).set 3 (.int .u16 0)).set 4 (.int .u32 0)).set 5 (.int .u32 0)).set 6 (.int .u32 0)).set 7 (.int .u32 0)).set 8 (.int .u32 0)).set 9 (.int .u16 0)).set 10 (.int .u16 0)).set 11 (.int .u32 0)).set 12 (.int .u32 0))
      have HRG := (show Hid _ from hR9.range)
      have HBB := (show Hid _ from (((((((((((((bb4.setCell (p := ⟨w.heap.size, 0, none⟩) (Nat.le_refl _) (.int .i64 0)).setCell (p := ⟨w.heap.size, 1, none⟩) (Nat.le_refl _) (.int .i64 0)).setCell (p := ⟨w.heap.size, 2, none⟩) (Nat.le_refl _) (.int .u16 0)).setCell (p := ⟨w.heap.size, 3, none⟩) (Nat.le_refl _) (.int .u16 0)).setCell (p := ⟨w.heap.size, 4, none⟩) (Nat.le_refl _) (.int .u32 0)).setCell (p := ⟨w.heap.size, 5, none⟩) (Nat.le_refl _) (.int .u32 0)).setCell (p := ⟨w.heap.size, 6, none⟩) (Nat.le_refl _) (.int .u32 0)).setCell (p := ⟨w.heap.size, 7, none⟩) (Nat.le_refl _) (.int .u32 0)).setCell (p := ⟨w.heap.size, 8, none⟩) (Nat.le_refl _) (.int .u32 0)).setCell (p := ⟨w.heap.size, 9, none⟩) (Nat.le_refl _) (.int .u16 0)).setCell (p := ⟨w.heap.size, 10, none⟩) (Nat.le_refl _) (.int .u16 0)).setCell (p := ⟨w.heap.size, 11, none⟩) (Nat.le_refl _) (.int .u32 0)).setCell (p := ⟨w.heap.size, 12, none⟩) (Nat.le_refl _) (.int .u32 0)))
      clear hR9
      clear hR4 bb4 sC4
      rcases (show now < U0 ∨ (¬ now < U0 ∧ U0 + U1 < now) by omega) with h5 | ⟨h5, h6⟩
      all_goals
        clear hst8
        go_wp2
        try simp only [Exit.inBlock, Exit.then]
        refine bodyPost_ret (results_cellE2 rfl _ _ w.heap.size 0 [.int .i64 0, .int .i64 0, .int .u16 0, .int .u16 0, .int .u32 0, .int .u32 0, .int .u32 0, .int .u32 0, .int .u32 0, .int .u16 0, .int .u16 0, .int .u32 0, .int .u32 0] _ rfl HRG.out Tryd.underlying39 rfl (by kernel_rfl)) rfl ?_
        exact ⟨.inr ⟨by rw [HE.out]; decide, by rw [HE.out]; rfl⟩, HBB.out⟩
    case neg =>
    have HE : Hid (opE cur fm zs now = 0) := HB2.out _ (by rw [HOB3.out, if_neg hst8])
    have h5 : ¬ now < U0 := by omega
    have h6 : ¬ U0 + U1 < now := by omega
    clear hst8 x0 x1
    have x0 := sC4.cell 0 _ rfl
    have x1 := sC4.cell 1 _ rfl
    have x2 := sC4.cell 2 _ rfl
    have x3 := sC4.cell 3 _ rfl
    have x4 := sC4.cell 4 _ rfl
    have x5 := sC4.cell 5 _ rfl
    have x6 := sC4.cell 6 _ rfl
    have x7 := sC4.cell 7 _ rfl
    have x8 := sC4.cell 8 _ rfl
    have x9 := sC4.cell 9 _ rfl
    have x10 := sC4.cell 10 _ rfl
    have x11 := sC4.cell 11 _ rfl
    have x12 := sC4.cell 12 _ rfl
    have y0 := hR4.cell 0 _ rfl
    have y1 := hR4.cell 1 _ rfl
    have y2 := hR4.cell 2 _ rfl
    have y3 := hR4.cell 3 _ rfl
    have y4 := hR4.cell 4 _ rfl
    have y5 := hR4.cell 5 _ rfl
    have y6 := hR4.cell 6 _ rfl
    have y7 := hR4.cell 7 _ rfl
    have y8 := hR4.cell 8 _ rfl
    have y9 := hR4.cell 9 _ rfl
    have y10 := hR4.cell 10 _ rfl
    have y11 := hR4.cell 11 _ rfl
    have y12 := hR4.cell 12 _ rfl
    have y0f := hR4.free 0
    have y1f := hR4.free 1
    have y2f := hR4.free 2
    have y3f := hR4.free 3
    have y4f := hR4.free 4
    have y5f := hR4.free 5
    have y6f := hR4.free 6
    have y7f := hR4.free 7
    have y8f := hR4.free 8
    have y9f := hR4.free 9
    have y10f := hR4.free 10
    have y11f := hR4.free 11
    have y12f := hR4.free 12
    have hR9 := (((((((((((((hR4.set 0 (.int .i64 U0)).set 1 (.int .i64 U1)).set 2 (.int .u16 (V2 : Nat))).set 3 (.int .u16 (V3 : Nat))).set 4 (.int .u32 (V4 : Nat))).set 5 (.int .u32 (V5 : Nat))).set 6 (.int .u32 (V6 : Nat))).set 7 (.int .u32 (V7 : Nat))).set 8 (.int .u32 (V8 : Nat))).set 9 (.int .u16 (V9 : Nat))).set 10 (.int .u16 (V10 : Nat))).set 11 (.int .u32 (V11 : Nat))).set 12 (.int .u32 (V12 : Nat)))
    have HRG := (show Hid _ from hR9.range)
    have HBB := (show Hid _ from (((((((((((((bb4.setCell (p := ⟨w.heap.size, 0, none⟩) (Nat.le_refl _) (.int .i64 U0)).setCell (p := ⟨w.heap.size, 1, none⟩) (Nat.le_refl _) (.int .i64 U1)).setCell (p := ⟨w.heap.size, 2, none⟩) (Nat.le_refl _) (.int .u16 (V2 : Nat))).setCell (p := ⟨w.heap.size, 3, none⟩) (Nat.le_refl _) (.int .u16 (V3 : Nat))).setCell (p := ⟨w.heap.size, 4, none⟩) (Nat.le_refl _) (.int .u32 (V4 : Nat))).setCell (p := ⟨w.heap.size, 5, none⟩) (Nat.le_refl _) (.int .u32 (V5 : Nat))).setCell (p := ⟨w.heap.size, 6, none⟩) (Nat.le_refl _) (.int .u32 (V6 : Nat))).setCell (p := ⟨w.heap.size, 7, none⟩) (Nat.le_refl _) (.int .u32 (V7 : Nat))).setCell (p := ⟨w.heap.size, 8, none⟩) (Nat.le_refl _) (.int .u32 (V8 : Nat))).setCell (p := ⟨w.heap.size, 9, none⟩) (Nat.le_refl _) (.int .u16 (V9 : Nat))).setCell (p := ⟨w.heap.size, 10, none⟩) (Nat.le_refl _) (.int .u16 (V10 : Nat))).setCell (p := ⟨w.heap.size, 11, none⟩) (Nat.le_refl _) (.int .u32 (V11 : Nat))).setCell (p := ⟨w.heap.size, 12, none⟩) (Nat.le_refl _) (.int .u32 (V12 : Nat))))
    clear hR9 hR4 bb4 sC4
    go_wp2
    try simp only [Exit.inBlock, Exit.then]
    refine bodyPost_ret (results_cellE2 rfl _ _ w.heap.size 0 [.int .i64 U0, .int .i64 U1, .int .u16 (V2 : Nat), .int .u16 (V3 : Nat), .int .u32 (V4 : Nat), .int .u32 (V5 : Nat), .int .u32 (V6 : Nat), .int .u32 (V7 : Nat), .int .u32 (V8 : Nat), .int .u16 (V9 : Nat), .int .u16 (V10 : Nat), .int .u32 (V11 : Nat), .int .u32 (V12 : Nat)] _ rfl HRG.out Tryd.underlying39 rfl (by kernel_rfl)) rfl ?_
    refine ⟨.inl ⟨HE.out, ?_⟩, HBB.out⟩
    rw [← HU0.out, ← HU1.out, ← HV2.out, ← HV3.out, ← HV4.out, ← HV5.out, ← HV6.out, ← HV7.out, ← HV8.out, ← HV9.out, ← HV10.out, ← HV11.out, ← HV12.out]
    rfl
end Go.Proofs.YtmikhnaffhheoaaDoor
