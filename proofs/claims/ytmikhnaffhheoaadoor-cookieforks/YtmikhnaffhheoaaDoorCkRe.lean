/- What cookie.read answers. -/
import Derived.Test.YtmikhnaffhheoaaDoorCkRa
namespace Go.Proofs.YtmikhnaffhheoaaDoor
open Go.RowKit
set_option maxRecDepth 100000 in
set_option maxHeartbeats 2000000 in
theorem read_any (a : Option Addr) (c : Nat) (zs : List Nat) (w : World) (hs : Sl w a 52 c zs) :
    Calls Tryd.prog 25 #[.slice a 52 c] w fun e w' => e = .returned (.tuple #[.agg #[.int .i64 (IntKind.i64.wrap (numV zs ((0 : Nat) : Int) ((8 : Nat) : Int) : Nat)), .int .i64 (IntKind.i64.wrap (numV zs ((8 : Nat) : Int) ((4 : Nat) : Int) : Nat)), .int .u16 (numV zs ((12 : Nat) : Int) ((2 : Nat) : Int) : Nat), .int .u16 (numV zs ((14 : Nat) : Int) ((2 : Nat) : Int) : Nat), .int .u32 (numV zs ((16 : Nat) : Int) ((4 : Nat) : Int) : Nat), .int .u32 (numV zs ((20 : Nat) : Int) ((4 : Nat) : Int) : Nat), .int .u32 (numV zs ((24 : Nat) : Int) ((4 : Nat) : Int) : Nat), .int .u32 (numV zs ((28 : Nat) : Int) ((4 : Nat) : Int) : Nat), .int .u32 (numV zs ((32 : Nat) : Int) ((4 : Nat) : Int) : Nat), .int .u16 (numV zs ((36 : Nat) : Int) ((2 : Nat) : Int) : Nat), .int .u16 (numV zs ((38 : Nat) : Int) ((2 : Nat) : Int) : Nat), .int .u32 (numV zs ((40 : Nat) : Int) ((4 : Nat) : Int) : Nat), .int .u32 (numV zs ((44 : Nat) : Int) ((4 : Nat) : Int) : Nat)], .int .u64 (numV zs ((48 : Nat) : Int) ((4 : Nat) : Int) : Nat)]) ∧ Below w.heap.size w w' := by
  obtain ⟨W1, hW1⟩ : ∃ W, W = w.alloc (.cells #[.slice a 52 c] 22) := ⟨_, rfl⟩
  obtain ⟨W2, hW2⟩ : ∃ W, W = W1.alloc (.cells #[.int .i64 0, .int .i64 0, .int .u16 0, .int .u16 0, .int .u32 0, .int .u32 0, .int .u32 0, .int .u32 0, .int .u32 0, .int .u16 0, .int .u16 0, .int .u32 0, .int .u32 0] 39) := ⟨_, rfl⟩
  obtain ⟨W3, hW3⟩ : ∃ W, W = W2.alloc (.cells #[.int .i64 0] 3) := ⟨_, rfl⟩
  have z1 : W1.heap.size = w.heap.size + 1 := by rw [hW1]; simp
  have z2 : W2.heap.size = w.heap.size + 1 + 1 := by rw [hW2]; simp; omega
  have z3 : W3.heap.size = w.heap.size + 1 + 1 + 1 := by rw [hW3]; simp; omega
  have b1 : Below w.heap.size w W1 := by rw [hW1]; exact (Below.refl _ _).alloc (Nat.le_refl _) _
  have b2 : Below W1.heap.size W1 W2 := by rw [hW2]; exact (Below.refl _ _).alloc (Nat.le_refl _) _
  have b3 : Below W2.heap.size W2 W3 := by rw [hW3]; exact (Below.refl _ _).alloc (Nat.le_refl _) _
  have b02 : Below w.heap.size w W2 := b1.trans (b2.mono b1.size)
  have sB := ((Stc.new w [.slice a 52 c] 22 W1 hW1).below b2).below b3
  have sR := Stc.new W1 [.int .i64 0, .int .i64 0, .int .u16 0, .int .u16 0, .int .u32 0, .int .u32 0, .int .u32 0, .int .u32 0, .int .u32 0, .int .u16 0, .int .u16 0, .int .u32 0, .int .u32 0] 39 W2 hW2
  have sA := Stc.new W2 [.int .i64 0] 3 W3 hW3
  rw [z1] at sR
  rw [z2] at sA
  have hea := eachR_any W2 W3 w.heap.size (w.heap.size + 1 + 1) a c zs (hs.below b02) b3 (by omega) (by omega) (by omega) (sB.cell 0 _ rfl) sA
  obtain ⟨V0, hV0⟩ : ∃ V, V = numV zs ((0 : Nat) : Int) ((8 : Nat) : Int) := ⟨_, rfl⟩
  obtain ⟨V1, hV1⟩ : ∃ V, V = numV zs ((8 : Nat) : Int) ((4 : Nat) : Int) := ⟨_, rfl⟩
  obtain ⟨V2, hV2⟩ : ∃ V, V = numV zs ((12 : Nat) : Int) ((2 : Nat) : Int) := ⟨_, rfl⟩
  obtain ⟨V3, hV3⟩ : ∃ V, V = numV zs ((14 : Nat) : Int) ((2 : Nat) : Int) := ⟨_, rfl⟩
  obtain ⟨V4, hV4⟩ : ∃ V, V = numV zs ((16 : Nat) : Int) ((4 : Nat) : Int) := ⟨_, rfl⟩
  obtain ⟨V5, hV5⟩ : ∃ V, V = numV zs ((20 : Nat) : Int) ((4 : Nat) : Int) := ⟨_, rfl⟩
  obtain ⟨V6, hV6⟩ : ∃ V, V = numV zs ((24 : Nat) : Int) ((4 : Nat) : Int) := ⟨_, rfl⟩
  obtain ⟨V7, hV7⟩ : ∃ V, V = numV zs ((28 : Nat) : Int) ((4 : Nat) : Int) := ⟨_, rfl⟩
  obtain ⟨V8, hV8⟩ : ∃ V, V = numV zs ((32 : Nat) : Int) ((4 : Nat) : Int) := ⟨_, rfl⟩
  obtain ⟨V9, hV9⟩ : ∃ V, V = numV zs ((36 : Nat) : Int) ((2 : Nat) : Int) := ⟨_, rfl⟩
  obtain ⟨V10, hV10⟩ : ∃ V, V = numV zs ((38 : Nat) : Int) ((2 : Nat) : Int) := ⟨_, rfl⟩
  obtain ⟨V11, hV11⟩ : ∃ V, V = numV zs ((40 : Nat) : Int) ((4 : Nat) : Int) := ⟨_, rfl⟩
  obtain ⟨V12, hV12⟩ : ∃ V, V = numV zs ((44 : Nat) : Int) ((4 : Nat) : Int) := ⟨_, rfl⟩
  obtain ⟨V13, hV13⟩ : ∃ V, V = numV zs ((48 : Nat) : Int) ((4 : Nat) : Int) := ⟨_, rfl⟩
  rw [← hV0, ← hV1, ← hV2, ← hV3, ← hV4, ← hV5, ← hV6, ← hV7, ← hV8, ← hV9, ← hV10, ← hV11, ← hV12, ← hV13] at hea ⊢
  obtain ⟨U0, hU0⟩ : ∃ U, U = IntKind.i64.wrap (V0 : Int) := ⟨_, rfl⟩
  obtain ⟨U1, hU1⟩ : ∃ U, U = IntKind.i64.wrap (V1 : Int) := ⟨_, rfl⟩
  rw [← hU0, ← hU1] at hea ⊢
  have hm := hmf
  clear hV0 hV1 hV2 hV3 hV4 hV5 hV6 hV7 hV8 hV9 hV10 hV11 hV12 hV13 hU0 hU1 sB sA b1 b2 b3 z1 z3 hs
  go_enter Tryd.func25, Tryd.ntmps25
  go_wp2_with fail
  rw [← hW1, ← hW2, ← hW3]
  clear hW1 hW2 hW3
  refine hea.mono ?_
  rintro e w4 ⟨rfl, b4, z4⟩
  have sR4 := sR.below b4
  have b04 : Below w.heap.size w w4 := b02.trans (b4.mono b02.size)
  have y0 := sR4.cell 0 _ rfl
  have y1 := sR4.cell 1 _ rfl
  have y2 := sR4.cell 2 _ rfl
  have y3 := sR4.cell 3 _ rfl
  have y4 := sR4.cell 4 _ rfl
  have y5 := sR4.cell 5 _ rfl
  have y6 := sR4.cell 6 _ rfl
  have y7 := sR4.cell 7 _ rfl
  have y8 := sR4.cell 8 _ rfl
  have y9 := sR4.cell 9 _ rfl
  have y10 := sR4.cell 10 _ rfl
  have y11 := sR4.cell 11 _ rfl
  have y12 := sR4.cell 12 _ rfl
  have y0f := sR4.free 0
  have y1f := sR4.free 1
  have y2f := sR4.free 2
  have y3f := sR4.free 3
  have y4f := sR4.free 4
  have y5f := sR4.free 5
  have y6f := sR4.free 6
  have y7f := sR4.free 7
  have y8f := sR4.free 8
  have y9f := sR4.free 9
  have y10f := sR4.free 10
  have y11f := sR4.free 11
  have y12f := sR4.free 12
  have hR9 := (((((((((((((sR4.set 0 (.int .i64 U0)).set 1 (.int .i64 U1)).set 2 (.int .u16 (V2 : Nat))).set 3 (.int .u16 (V3 : Nat))).set 4 (.int .u32 (V4 : Nat))).set 5 (.int .u32 (V5 : Nat))).set 6 (.int .u32 (V6 : Nat))).set 7 (.int .u32 (V7 : Nat))).set 8 (.int .u32 (V8 : Nat))).set 9 (.int .u16 (V9 : Nat))).set 10 (.int .u16 (V10 : Nat))).set 11 (.int .u32 (V11 : Nat))).set 12 (.int .u32 (V12 : Nat)))
  have HRG := (show Hid _ from hR9.range)
  have HBB := (show Hid _ from (((((((((((((b04.setCell (p := ⟨w.heap.size + 1, 0, none⟩) (by show w.heap.size ≤ w.heap.size + 1; omega) (.int .i64 U0)).setCell (p := ⟨w.heap.size + 1, 1, none⟩) (by show w.heap.size ≤ w.heap.size + 1; omega) (.int .i64 U1)).setCell (p := ⟨w.heap.size + 1, 2, none⟩) (by show w.heap.size ≤ w.heap.size + 1; omega) (.int .u16 (V2 : Nat))).setCell (p := ⟨w.heap.size + 1, 3, none⟩) (by show w.heap.size ≤ w.heap.size + 1; omega) (.int .u16 (V3 : Nat))).setCell (p := ⟨w.heap.size + 1, 4, none⟩) (by show w.heap.size ≤ w.heap.size + 1; omega) (.int .u32 (V4 : Nat))).setCell (p := ⟨w.heap.size + 1, 5, none⟩) (by show w.heap.size ≤ w.heap.size + 1; omega) (.int .u32 (V5 : Nat))).setCell (p := ⟨w.heap.size + 1, 6, none⟩) (by show w.heap.size ≤ w.heap.size + 1; omega) (.int .u32 (V6 : Nat))).setCell (p := ⟨w.heap.size + 1, 7, none⟩) (by show w.heap.size ≤ w.heap.size + 1; omega) (.int .u32 (V7 : Nat))).setCell (p := ⟨w.heap.size + 1, 8, none⟩) (by show w.heap.size ≤ w.heap.size + 1; omega) (.int .u32 (V8 : Nat))).setCell (p := ⟨w.heap.size + 1, 9, none⟩) (by show w.heap.size ≤ w.heap.size + 1; omega) (.int .u16 (V9 : Nat))).setCell (p := ⟨w.heap.size + 1, 10, none⟩) (by show w.heap.size ≤ w.heap.size + 1; omega) (.int .u16 (V10 : Nat))).setCell (p := ⟨w.heap.size + 1, 11, none⟩) (by show w.heap.size ≤ w.heap.size + 1; omega) (.int .u32 (V11 : Nat))).setCell (p := ⟨w.heap.size + 1, 12, none⟩) (by show w.heap.size ≤ w.heap.size + 1; omega) (.int .u32 (V12 : Nat))))
  clear hR9 sR4 sR b4 b04 b02 hea z2 z4 hm
  go_wp2
  try simp only [Exit.inBlock, Exit.then]
  refine bodyPost_ret (results_cellE2 rfl _ _ (w.heap.size + 1) 0 [.int .i64 U0, .int .i64 U1, .int .u16 (V2 : Nat), .int .u16 (V3 : Nat), .int .u32 (V4 : Nat), .int .u32 (V5 : Nat), .int .u32 (V6 : Nat), .int .u32 (V7 : Nat), .int .u32 (V8 : Nat), .int .u16 (V9 : Nat), .int .u16 (V10 : Nat), .int .u32 (V11 : Nat), .int .u32 (V12 : Nat)] _ rfl HRG.out Tryd.underlying39 rfl (by kernel_rfl)) rfl ?_
  exact ⟨rfl, HBB.out⟩
end Go.Proofs.YtmikhnaffhheoaaDoor
