/- What cookie.each answers where the numbers are read. -/
import Derived.Test.YtmikhnaffhheoaaDoorCkRd
namespace Go.Proofs.YtmikhnaffhheoaaDoor
open Go.RowKit
set_option maxRecDepth 100000 in
set_option maxHeartbeats 4000000 in
theorem eachR_any (w0 w : World) (bb ab : Nat) (a : Option Addr) (c : Nat) (zs : List Nat) (hs : Sl w0 a 52 c zs) (hbel : Below w0.heap.size w0 w) (hbl : bb < w.heap.size) (hal : w0.heap.size ≤ ab) (hne : ab ≠ bb) (hbc : w.cell? ⟨bb, 0, none⟩ = some (.slice a 52 c)) (hsa : Stc w ab [.int .i64 0]) :
    Calls Tryd.prog 19 #[.agg #[.int .i64 0, .int .i64 0, .int .u16 0, .int .u16 0, .int .u32 0, .int .u32 0, .int .u32 0, .int .u32 0, .int .u32 0, .int .u16 0, .int .u16 0, .int .u32 0, .int .u32 0], .func (.func 38) #[] #[.pointer (some ⟨bb, 0, none⟩), .pointer (some ⟨ab, 0, none⟩)]] w fun e w' => e = .returned (.tuple #[.agg #[.int .i64 (IntKind.i64.wrap (numV zs ((0 : Nat) : Int) ((8 : Nat) : Int) : Nat)), .int .i64 (IntKind.i64.wrap (numV zs ((8 : Nat) : Int) ((4 : Nat) : Int) : Nat)), .int .u16 (numV zs ((12 : Nat) : Int) ((2 : Nat) : Int) : Nat), .int .u16 (numV zs ((14 : Nat) : Int) ((2 : Nat) : Int) : Nat), .int .u32 (numV zs ((16 : Nat) : Int) ((4 : Nat) : Int) : Nat), .int .u32 (numV zs ((20 : Nat) : Int) ((4 : Nat) : Int) : Nat), .int .u32 (numV zs ((24 : Nat) : Int) ((4 : Nat) : Int) : Nat), .int .u32 (numV zs ((28 : Nat) : Int) ((4 : Nat) : Int) : Nat), .int .u32 (numV zs ((32 : Nat) : Int) ((4 : Nat) : Int) : Nat), .int .u16 (numV zs ((36 : Nat) : Int) ((2 : Nat) : Int) : Nat), .int .u16 (numV zs ((38 : Nat) : Int) ((2 : Nat) : Int) : Nat), .int .u32 (numV zs ((40 : Nat) : Int) ((4 : Nat) : Int) : Nat), .int .u32 (numV zs ((44 : Nat) : Int) ((4 : Nat) : Int) : Nat)], .int .u64 (numV zs ((48 : Nat) : Int) ((4 : Nat) : Int) : Nat)]) ∧ Below w0.heap.size w0 w' ∧ w.heap.size ≤ w'.heap.size := by
  obtain ⟨V0, hV0⟩ : ∃ V, V = numV zs ((0 : Nat) : Int) ((8 : Nat) : Int) := ⟨_, rfl⟩
  obtain ⟨V1, hV1⟩ : ∃ V, V = numV zs ((8 : Nat) : Int) ((4 : Nat) : Int) := ⟨_, rfl⟩
  obtain ⟨V2, hV2⟩ : ∃ V, V = numV zs ((12 : Nat) : Int) ((2 : Nat) : Int) := ⟨_, rfl⟩
  obtain ⟨V3, hV3⟩ : ∃ V, V = numV zs ((14 : Nat) : Int) ((2 : Nat) : Int) := ⟨_, rfl⟩
  obtain ⟨V4, hV4⟩ : ∃ V, V = numV zs ((16 : Nat) : Int) ((4 : Nat) : Int) := ⟨_, rfl⟩
  obtain ⟨V5, hV5⟩ : ∃ V, V = numV zs ((20 : Nat) : Int) ((4 : Nat) : Int) := ⟨_, rfl⟩
  obtain ⟨V6, hV6⟩ : ∃ V, V = numV zs ((24 : Nat) : Int) ((4 : Nat) : Int) := ⟨_, rfl⟩
  obtain ⟨V7, hV7⟩ : ∃ V, V = numV zs ((28 : Nat) : Int) ((4 : Nat) : Int) := ⟨_, rfl⟩
  obtain ⟨V8, hV8⟩ : ∃ V, V = numV zs ((32 : Nat) : Int) ((4 : Nat) : Int) := ⟨_, rfl⟩
  obtain ⟨V9, hV9⟩ : ∃ V, V = numV zs ((36 : Nat) : Int) ((2 : Nat) : Int) := ⟨_, rfl⟩
  obtain ⟨V10, hV10⟩ : ∃ V, V = numV zs ((38 : Nat) : Int) ((2 : Nat) : Int) := ⟨_, rfl⟩
  obtain ⟨V11, hV11⟩ : ∃ V, V = numV zs ((40 : Nat) : Int) ((4 : Nat) : Int) := ⟨_, rfl⟩
  obtain ⟨V12, hV12⟩ : ∃ V, V = numV zs ((44 : Nat) : Int) ((4 : Nat) : Int) := ⟨_, rfl⟩
  obtain ⟨V13, hV13⟩ : ∃ V, V = numV zs ((48 : Nat) : Int) ((4 : Nat) : Int) := ⟨_, rfl⟩
  rw [← hV0, ← hV1, ← hV2, ← hV3, ← hV4, ← hV5, ← hV6, ← hV7, ← hV8, ← hV9, ← hV10, ← hV11, ← hV12, ← hV13]
  have H0 := (show Hid _ from hV0.symm)
  have H1 := (show Hid _ from hV1.symm)
  have H2 := (show Hid _ from hV2.symm)
  have H3 := (show Hid _ from hV3.symm)
  have H4 := (show Hid _ from hV4.symm)
  have H5 := (show Hid _ from hV5.symm)
  have H6 := (show Hid _ from hV6.symm)
  have H7 := (show Hid _ from hV7.symm)
  have H8 := (show Hid _ from hV8.symm)
  have H9 := (show Hid _ from hV9.symm)
  have H10 := (show Hid _ from hV10.symm)
  have H11 := (show Hid _ from hV11.symm)
  have H12 := (show Hid _ from hV12.symm)
  have H13 := (show Hid _ from hV13.symm)
  obtain ⟨U0, hU0⟩ : ∃ U, U = IntKind.i64.wrap (V0 : Int) := ⟨_, rfl⟩
  obtain ⟨U1, hU1⟩ : ∃ U, U = IntKind.i64.wrap (V1 : Int) := ⟨_, rfl⟩
  rw [← hU0, ← hU1]
  have HU0 := (show Hid _ from hU0.symm)
  have HU1 := (show Hid _ from hU1.symm)
  clear hU0 hU1
  clear hV0 hV1 hV2 hV3 hV4 hV5 hV6 hV7 hV8 hV9 hV10 hV11 hV12 hV13
  obtain ⟨W1, hW1⟩ : ∃ W, W = w.alloc (.cells #[.int .i64 0, .int .i64 0, .int .u16 0, .int .u16 0, .int .u32 0, .int .u32 0, .int .u32 0, .int .u32 0, .int .u32 0, .int .u16 0, .int .u16 0, .int .u32 0, .int .u32 0] 39) := ⟨_, rfl⟩
  obtain ⟨W2, hW2⟩ : ∃ W, W = W1.alloc (.cells #[.func (.func 38) #[] #[.pointer (some ⟨bb, 0, none⟩), .pointer (some ⟨ab, 0, none⟩)]] 64) := ⟨_, rfl⟩
  obtain ⟨W3, hW3⟩ : ∃ W, W = W2.alloc (.cells #[.int .i64 0, .int .i64 0, .int .u16 0, .int .u16 0, .int .u32 0, .int .u32 0, .int .u32 0, .int .u32 0, .int .u32 0, .int .u16 0, .int .u16 0, .int .u32 0, .int .u32 0] 39) := ⟨_, rfl⟩
  have z1 : W1.heap.size = w.heap.size + 1 := by rw [hW1]; simp
  have z2 : W2.heap.size = w.heap.size + 1 + 1 := by rw [hW2]; simp; omega
  have z3 : W3.heap.size = w.heap.size + 1 + 1 + 1 := by rw [hW3]; simp; omega
  have b1 : Below w.heap.size w W1 := by rw [hW1]; exact (Below.refl _ _).alloc (Nat.le_refl _) _
  have b2 : Below W1.heap.size W1 W2 := by rw [hW2]; exact (Below.refl _ _).alloc (Nat.le_refl _) _
  have b3 : Below W2.heap.size W2 W3 := by rw [hW3]; exact (Below.refl _ _).alloc (Nat.le_refl _) _
  have sP := ((Stc.new w [.int .i64 0, .int .i64 0, .int .u16 0, .int .u16 0, .int .u32 0, .int .u32 0, .int .u32 0, .int .u32 0, .int .u32 0, .int .u16 0, .int .u16 0, .int .u32 0, .int .u32 0] 39 W1 hW1).below b2).below b3
  have sV := (Stc.new W1 [.func (.func 38) #[] #[.pointer (some ⟨bb, 0, none⟩), .pointer (some ⟨ab, 0, none⟩)]] 64 W2 hW2).below b3
  have sR := Stc.new W2 [.int .i64 0, .int .i64 0, .int .u16 0, .int .u16 0, .int .u32 0, .int .u32 0, .int .u32 0, .int .u32 0, .int .u32 0, .int .u16 0, .int .u16 0, .int .u32 0, .int .u32 0] 39 W3 hW3
  rw [z1] at sV
  rw [z2] at sR
  have b03 : Below w.heap.size w W3 := b1.trans ((b2.trans (b3.mono b2.size)).mono b1.size)
  have hax := hsa.lt
  have hz0 := hbel.size
  have g0 : EvR w0 w.heap.size (w.heap.size + 1) bb ab (w.heap.size + 1 + 1) [.int .i64 0, .int .i64 0, .int .u16 0, .int .u16 0, .int .u32 0, .int .u32 0, .int .u32 0, .int .u32 0, .int .u32 0, .int .u16 0, .int .u16 0, .int .u32 0, .int .u32 0] a 52 c [.int .i64 0, .int .i64 0, .int .u16 0, .int .u16 0, .int .u32 0, .int .u32 0, .int .u32 0, .int .u32 0, .int .u32 0, .int .u16 0, .int .u16 0, .int .u32 0, .int .u32 0] 0 W3 :=
    ⟨sP, hsa.below b03, sV.cell 0 _ rfl, (b03.cell (p := ⟨bb, 0, none⟩) hbl).trans hbc, by omega, by omega, ⟨by omega, by omega, by omega, by omega, hne⟩, hz0, hal, hbel.trans (b03.mono hz0), sR, ⟨by omega, by omega⟩⟩
  have hm := hmf
  have HZ : Hid (w.heap.size ≤ W3.heap.size) := by show _ ≤ _; omega
  clear b1 b2 b3 sP sV sR z1 z2 hbc hsa b03 z3 hbl hal hne hax
  go_enter Tryd.func19, Tryd.ntmps19
  go_wp2_with fail
  rw [← hW1, ← hW2, ← hW3]
  clear hW1 hW2 hW3
  refine (g0.whole hs 0 8 rfl (by omega) (by omega) (by omega) (by omega)).mono ?_
  rintro e w1 ⟨⟨r1, rfl⟩, h1⟩
  rw [show numV zs ((0 : Nat) : Int) ((8 : Nat) : Int) = V0 from H0.out, show IntKind.i64.wrap (V0 : Int) = U0 from HU0.out] at h1
  have g1 : EvR w0 w.heap.size (w.heap.size + 1) bb ab (w.heap.size + 1 + 1) [.int .i64 0, .int .i64 0, .int .u16 0, .int .u16 0, .int .u32 0, .int .u32 0, .int .u32 0, .int .u32 0, .int .u32 0, .int .u16 0, .int .u16 0, .int .u32 0, .int .u32 0] a 52 c [.int .i64 U0, .int .i64 0, .int .u16 0, .int .u16 0, .int .u32 0, .int .u32 0, .int .u32 0, .int .u32 0, .int .u32 0, .int .u16 0, .int .u16 0, .int .u32 0, .int .u32 0] 8 w1 := h1
  clear g0 h1
  go_wp2_with fail
  refine (g1.whole hs 1 4 rfl (by omega) (by omega) (by omega) (by omega)).mono ?_
  rintro e w2 ⟨⟨r2, rfl⟩, h2⟩
  rw [show numV zs ((8 : Nat) : Int) ((4 : Nat) : Int) = V1 from H1.out, show IntKind.i64.wrap (V1 : Int) = U1 from HU1.out] at h2
  have g2 : EvR w0 w.heap.size (w.heap.size + 1) bb ab (w.heap.size + 1 + 1) [.int .i64 0, .int .i64 0, .int .u16 0, .int .u16 0, .int .u32 0, .int .u32 0, .int .u32 0, .int .u32 0, .int .u32 0, .int .u16 0, .int .u16 0, .int .u32 0, .int .u32 0] a 52 c [.int .i64 U0, .int .i64 U1, .int .u16 0, .int .u16 0, .int .u32 0, .int .u32 0, .int .u32 0, .int .u32 0, .int .u32 0, .int .u16 0, .int .u16 0, .int .u32 0, .int .u32 0] 12 w2 := h2
  clear g1 h2
  go_wp2_with fail
  refine (g2.half hs 2 rfl (by omega) (by omega)).mono ?_
  rintro e w3 ⟨⟨r3, rfl⟩, h3⟩
  rw [show numV zs ((12 : Nat) : Int) ((2 : Nat) : Int) = V2 from H2.out] at h3
  have g3 : EvR w0 w.heap.size (w.heap.size + 1) bb ab (w.heap.size + 1 + 1) [.int .i64 0, .int .i64 0, .int .u16 0, .int .u16 0, .int .u32 0, .int .u32 0, .int .u32 0, .int .u32 0, .int .u32 0, .int .u16 0, .int .u16 0, .int .u32 0, .int .u32 0] a 52 c [.int .i64 U0, .int .i64 U1, .int .u16 (V2 : Nat), .int .u16 0, .int .u32 0, .int .u32 0, .int .u32 0, .int .u32 0, .int .u32 0, .int .u16 0, .int .u16 0, .int .u32 0, .int .u32 0] 14 w3 := h3
  clear g2 h3
  go_wp2_with fail
  refine (g3.half hs 3 rfl (by omega) (by omega)).mono ?_
  rintro e w4 ⟨⟨r4, rfl⟩, h4⟩
  rw [show numV zs ((14 : Nat) : Int) ((2 : Nat) : Int) = V3 from H3.out] at h4
  have g4 : EvR w0 w.heap.size (w.heap.size + 1) bb ab (w.heap.size + 1 + 1) [.int .i64 0, .int .i64 0, .int .u16 0, .int .u16 0, .int .u32 0, .int .u32 0, .int .u32 0, .int .u32 0, .int .u32 0, .int .u16 0, .int .u16 0, .int .u32 0, .int .u32 0] a 52 c [.int .i64 U0, .int .i64 U1, .int .u16 (V2 : Nat), .int .u16 (V3 : Nat), .int .u32 0, .int .u32 0, .int .u32 0, .int .u32 0, .int .u32 0, .int .u16 0, .int .u16 0, .int .u32 0, .int .u32 0] 16 w4 := h4
  clear g3 h4
  go_wp2_with fail
  refine (g4.word hs 4 rfl (by omega) (by omega)).mono ?_
  rintro e w5 ⟨⟨r5, rfl⟩, h5⟩
  rw [show numV zs ((16 : Nat) : Int) ((4 : Nat) : Int) = V4 from H4.out] at h5
  have g5 : EvR w0 w.heap.size (w.heap.size + 1) bb ab (w.heap.size + 1 + 1) [.int .i64 0, .int .i64 0, .int .u16 0, .int .u16 0, .int .u32 0, .int .u32 0, .int .u32 0, .int .u32 0, .int .u32 0, .int .u16 0, .int .u16 0, .int .u32 0, .int .u32 0] a 52 c [.int .i64 U0, .int .i64 U1, .int .u16 (V2 : Nat), .int .u16 (V3 : Nat), .int .u32 (V4 : Nat), .int .u32 0, .int .u32 0, .int .u32 0, .int .u32 0, .int .u16 0, .int .u16 0, .int .u32 0, .int .u32 0] 20 w5 := h5
  clear g4 h5
  go_wp2_with fail
  refine (g5.word hs 5 rfl (by omega) (by omega)).mono ?_
  rintro e w6 ⟨⟨r6, rfl⟩, h6⟩
  rw [show numV zs ((20 : Nat) : Int) ((4 : Nat) : Int) = V5 from H5.out] at h6
  have g6 : EvR w0 w.heap.size (w.heap.size + 1) bb ab (w.heap.size + 1 + 1) [.int .i64 0, .int .i64 0, .int .u16 0, .int .u16 0, .int .u32 0, .int .u32 0, .int .u32 0, .int .u32 0, .int .u32 0, .int .u16 0, .int .u16 0, .int .u32 0, .int .u32 0] a 52 c [.int .i64 U0, .int .i64 U1, .int .u16 (V2 : Nat), .int .u16 (V3 : Nat), .int .u32 (V4 : Nat), .int .u32 (V5 : Nat), .int .u32 0, .int .u32 0, .int .u32 0, .int .u16 0, .int .u16 0, .int .u32 0, .int .u32 0] 24 w6 := h6
  clear g5 h6
  go_wp2_with fail
  refine (g6.word hs 6 rfl (by omega) (by omega)).mono ?_
  rintro e w7 ⟨⟨r7, rfl⟩, h7⟩
  rw [show numV zs ((24 : Nat) : Int) ((4 : Nat) : Int) = V6 from H6.out] at h7
  have g7 : EvR w0 w.heap.size (w.heap.size + 1) bb ab (w.heap.size + 1 + 1) [.int .i64 0, .int .i64 0, .int .u16 0, .int .u16 0, .int .u32 0, .int .u32 0, .int .u32 0, .int .u32 0, .int .u32 0, .int .u16 0, .int .u16 0, .int .u32 0, .int .u32 0] a 52 c [.int .i64 U0, .int .i64 U1, .int .u16 (V2 : Nat), .int .u16 (V3 : Nat), .int .u32 (V4 : Nat), .int .u32 (V5 : Nat), .int .u32 (V6 : Nat), .int .u32 0, .int .u32 0, .int .u16 0, .int .u16 0, .int .u32 0, .int .u32 0] 28 w7 := h7
  clear g6 h7
  go_wp2_with fail
  refine (g7.word hs 7 rfl (by omega) (by omega)).mono ?_
  rintro e w8 ⟨⟨r8, rfl⟩, h8⟩
  rw [show numV zs ((28 : Nat) : Int) ((4 : Nat) : Int) = V7 from H7.out] at h8
  have g8 : EvR w0 w.heap.size (w.heap.size + 1) bb ab (w.heap.size + 1 + 1) [.int .i64 0, .int .i64 0, .int .u16 0, .int .u16 0, .int .u32 0, .int .u32 0, .int .u32 0, .int .u32 0, .int .u32 0, .int .u16 0, .int .u16 0, .int .u32 0, .int .u32 0] a 52 c [.int .i64 U0, .int .i64 U1, .int .u16 (V2 : Nat), .int .u16 (V3 : Nat), .int .u32 (V4 : Nat), .int .u32 (V5 : Nat), .int .u32 (V6 : Nat), .int .u32 (V7 : Nat), .int .u32 0, .int .u16 0, .int .u16 0, .int .u32 0, .int .u32 0] 32 w8 := h8
  clear g7 h8
  go_wp2_with fail
  refine (g8.word hs 8 rfl (by omega) (by omega)).mono ?_
  rintro e w9 ⟨⟨r9, rfl⟩, h9⟩
  rw [show numV zs ((32 : Nat) : Int) ((4 : Nat) : Int) = V8 from H8.out] at h9
  have g9 : EvR w0 w.heap.size (w.heap.size + 1) bb ab (w.heap.size + 1 + 1) [.int .i64 0, .int .i64 0, .int .u16 0, .int .u16 0, .int .u32 0, .int .u32 0, .int .u32 0, .int .u32 0, .int .u32 0, .int .u16 0, .int .u16 0, .int .u32 0, .int .u32 0] a 52 c [.int .i64 U0, .int .i64 U1, .int .u16 (V2 : Nat), .int .u16 (V3 : Nat), .int .u32 (V4 : Nat), .int .u32 (V5 : Nat), .int .u32 (V6 : Nat), .int .u32 (V7 : Nat), .int .u32 (V8 : Nat), .int .u16 0, .int .u16 0, .int .u32 0, .int .u32 0] 36 w9 := h9
  clear g8 h9
  go_wp2_with fail
  refine (g9.half hs 9 rfl (by omega) (by omega)).mono ?_
  rintro e w10 ⟨⟨r10, rfl⟩, h10⟩
  rw [show numV zs ((36 : Nat) : Int) ((2 : Nat) : Int) = V9 from H9.out] at h10
  have g10 : EvR w0 w.heap.size (w.heap.size + 1) bb ab (w.heap.size + 1 + 1) [.int .i64 0, .int .i64 0, .int .u16 0, .int .u16 0, .int .u32 0, .int .u32 0, .int .u32 0, .int .u32 0, .int .u32 0, .int .u16 0, .int .u16 0, .int .u32 0, .int .u32 0] a 52 c [.int .i64 U0, .int .i64 U1, .int .u16 (V2 : Nat), .int .u16 (V3 : Nat), .int .u32 (V4 : Nat), .int .u32 (V5 : Nat), .int .u32 (V6 : Nat), .int .u32 (V7 : Nat), .int .u32 (V8 : Nat), .int .u16 (V9 : Nat), .int .u16 0, .int .u32 0, .int .u32 0] 38 w10 := h10
  clear g9 h10
  go_wp2_with fail
  refine (g10.half hs 10 rfl (by omega) (by omega)).mono ?_
  rintro e w11 ⟨⟨r11, rfl⟩, h11⟩
  rw [show numV zs ((38 : Nat) : Int) ((2 : Nat) : Int) = V10 from H10.out] at h11
  have g11 : EvR w0 w.heap.size (w.heap.size + 1) bb ab (w.heap.size + 1 + 1) [.int .i64 0, .int .i64 0, .int .u16 0, .int .u16 0, .int .u32 0, .int .u32 0, .int .u32 0, .int .u32 0, .int .u32 0, .int .u16 0, .int .u16 0, .int .u32 0, .int .u32 0] a 52 c [.int .i64 U0, .int .i64 U1, .int .u16 (V2 : Nat), .int .u16 (V3 : Nat), .int .u32 (V4 : Nat), .int .u32 (V5 : Nat), .int .u32 (V6 : Nat), .int .u32 (V7 : Nat), .int .u32 (V8 : Nat), .int .u16 (V9 : Nat), .int .u16 (V10 : Nat), .int .u32 0, .int .u32 0] 40 w11 := h11
  clear g10 h11
  go_wp2_with fail
  refine (g11.word hs 11 rfl (by omega) (by omega)).mono ?_
  rintro e w12 ⟨⟨r12, rfl⟩, h12⟩
  rw [show numV zs ((40 : Nat) : Int) ((4 : Nat) : Int) = V11 from H11.out] at h12
  have g12 : EvR w0 w.heap.size (w.heap.size + 1) bb ab (w.heap.size + 1 + 1) [.int .i64 0, .int .i64 0, .int .u16 0, .int .u16 0, .int .u32 0, .int .u32 0, .int .u32 0, .int .u32 0, .int .u32 0, .int .u16 0, .int .u16 0, .int .u32 0, .int .u32 0] a 52 c [.int .i64 U0, .int .i64 U1, .int .u16 (V2 : Nat), .int .u16 (V3 : Nat), .int .u32 (V4 : Nat), .int .u32 (V5 : Nat), .int .u32 (V6 : Nat), .int .u32 (V7 : Nat), .int .u32 (V8 : Nat), .int .u16 (V9 : Nat), .int .u16 (V10 : Nat), .int .u32 (V11 : Nat), .int .u32 0] 44 w12 := h12
  clear g11 h12
  go_wp2_with fail
  refine (g12.word hs 12 rfl (by omega) (by omega)).mono ?_
  rintro e w13 ⟨⟨r13, rfl⟩, h13⟩
  rw [show numV zs ((44 : Nat) : Int) ((4 : Nat) : Int) = V12 from H12.out] at h13
  have g13 : EvR w0 w.heap.size (w.heap.size + 1) bb ab (w.heap.size + 1 + 1) [.int .i64 0, .int .i64 0, .int .u16 0, .int .u16 0, .int .u32 0, .int .u32 0, .int .u32 0, .int .u32 0, .int .u32 0, .int .u16 0, .int .u16 0, .int .u32 0, .int .u32 0] a 52 c [.int .i64 U0, .int .i64 U1, .int .u16 (V2 : Nat), .int .u16 (V3 : Nat), .int .u32 (V4 : Nat), .int .u32 (V5 : Nat), .int .u32 (V6 : Nat), .int .u32 (V7 : Nat), .int .u32 (V8 : Nat), .int .u16 (V9 : Nat), .int .u16 (V10 : Nat), .int .u32 (V11 : Nat), .int .u32 (V12 : Nat)] 48 w13 := h13
  clear g12 h13
  have cv := g13.vc
  have hv := visitR_any w0 _ _ bb ab _ _ a 52 c zs _ 48 4 0 w13 hs g13 (by omega) (by omega) (by omega) (by omega)
  rw [show numV zs ((48 : Nat) : Int) ((4 : Nat) : Int) = V13 from H13.out] at hv
  go_wp2_with fail
  refine hv.mono ?_
  rintro e w14 ⟨rfl, hr⟩
  have hE := hr.ev
  have sx14 := hE.sx
  have sr14 := hE.sr
  have x0 := sx14.cell 0 _ rfl
  have x1 := sx14.cell 1 _ rfl
  have x2 := sx14.cell 2 _ rfl
  have x3 := sx14.cell 3 _ rfl
  have x4 := sx14.cell 4 _ rfl
  have x5 := sx14.cell 5 _ rfl
  have x6 := sx14.cell 6 _ rfl
  have x7 := sx14.cell 7 _ rfl
  have x8 := sx14.cell 8 _ rfl
  have x9 := sx14.cell 9 _ rfl
  have x10 := sx14.cell 10 _ rfl
  have x11 := sx14.cell 11 _ rfl
  have x12 := sx14.cell 12 _ rfl
  have y0 := sr14.cell 0 _ rfl
  have y1 := sr14.cell 1 _ rfl
  have y2 := sr14.cell 2 _ rfl
  have y3 := sr14.cell 3 _ rfl
  have y4 := sr14.cell 4 _ rfl
  have y5 := sr14.cell 5 _ rfl
  have y6 := sr14.cell 6 _ rfl
  have y7 := sr14.cell 7 _ rfl
  have y8 := sr14.cell 8 _ rfl
  have y9 := sr14.cell 9 _ rfl
  have y10 := sr14.cell 10 _ rfl
  have y11 := sr14.cell 11 _ rfl
  have y12 := sr14.cell 12 _ rfl
  have y0f := sr14.free 0
  have y1f := sr14.free 1
  have y2f := sr14.free 2
  have y3f := sr14.free 3
  have y4f := sr14.free 4
  have y5f := sr14.free 5
  have y6f := sr14.free 6
  have y7f := sr14.free 7
  have y8f := sr14.free 8
  have y9f := sr14.free 9
  have y10f := sr14.free 10
  have y11f := sr14.free 11
  have y12f := sr14.free 12
  have hR9 := (((((((((((((sr14.set 0 (.int .i64 U0)).set 1 (.int .i64 U1)).set 2 (.int .u16 (V2 : Nat))).set 3 (.int .u16 (V3 : Nat))).set 4 (.int .u32 (V4 : Nat))).set 5 (.int .u32 (V5 : Nat))).set 6 (.int .u32 (V6 : Nat))).set 7 (.int .u32 (V7 : Nat))).set 8 (.int .u32 (V8 : Nat))).set 9 (.int .u16 (V9 : Nat))).set 10 (.int .u16 (V10 : Nat))).set 11 (.int .u32 (V11 : Nat))).set 12 (.int .u32 (V12 : Nat)))
  have HRG := (show Hid _ from hR9.range)
  have HBB := (show Hid _ from (((((((((((((hE.bel.setCell (p := ⟨w.heap.size + 1 + 1, 0, none⟩) (by show w0.heap.size ≤ w.heap.size + 1 + 1; omega) (.int .i64 U0)).setCell (p := ⟨w.heap.size + 1 + 1, 1, none⟩) (by show w0.heap.size ≤ w.heap.size + 1 + 1; omega) (.int .i64 U1)).setCell (p := ⟨w.heap.size + 1 + 1, 2, none⟩) (by show w0.heap.size ≤ w.heap.size + 1 + 1; omega) (.int .u16 (V2 : Nat))).setCell (p := ⟨w.heap.size + 1 + 1, 3, none⟩) (by show w0.heap.size ≤ w.heap.size + 1 + 1; omega) (.int .u16 (V3 : Nat))).setCell (p := ⟨w.heap.size + 1 + 1, 4, none⟩) (by show w0.heap.size ≤ w.heap.size + 1 + 1; omega) (.int .u32 (V4 : Nat))).setCell (p := ⟨w.heap.size + 1 + 1, 5, none⟩) (by show w0.heap.size ≤ w.heap.size + 1 + 1; omega) (.int .u32 (V5 : Nat))).setCell (p := ⟨w.heap.size + 1 + 1, 6, none⟩) (by show w0.heap.size ≤ w.heap.size + 1 + 1; omega) (.int .u32 (V6 : Nat))).setCell (p := ⟨w.heap.size + 1 + 1, 7, none⟩) (by show w0.heap.size ≤ w.heap.size + 1 + 1; omega) (.int .u32 (V7 : Nat))).setCell (p := ⟨w.heap.size + 1 + 1, 8, none⟩) (by show w0.heap.size ≤ w.heap.size + 1 + 1; omega) (.int .u32 (V8 : Nat))).setCell (p := ⟨w.heap.size + 1 + 1, 9, none⟩) (by show w0.heap.size ≤ w.heap.size + 1 + 1; omega) (.int .u16 (V9 : Nat))).setCell (p := ⟨w.heap.size + 1 + 1, 10, none⟩) (by show w0.heap.size ≤ w.heap.size + 1 + 1; omega) (.int .u16 (V10 : Nat))).setCell (p := ⟨w.heap.size + 1 + 1, 11, none⟩) (by show w0.heap.size ≤ w.heap.size + 1 + 1; omega) (.int .u32 (V11 : Nat))).setCell (p := ⟨w.heap.size + 1 + 1, 12, none⟩) (by show w0.heap.size ≤ w.heap.size + 1 + 1; omega) (.int .u32 (V12 : Nat))))
  have hlq : w.heap.size < w14.heap.size := sx14.lt
  have hlr : w.heap.size + 1 + 1 < w14.heap.size := sr14.lt
  clear hR9 sx14 sr14 hE hr g13 cv hv hm hs hbel hz0 HZ
  go_wp2
  try simp only [Exit.inBlock, Exit.then]
  refine bodyPost_ret (results_cellE2 rfl _ _ (w.heap.size + 1 + 1) 0 [.int .i64 U0, .int .i64 U1, .int .u16 (V2 : Nat), .int .u16 (V3 : Nat), .int .u32 (V4 : Nat), .int .u32 (V5 : Nat), .int .u32 (V6 : Nat), .int .u32 (V7 : Nat), .int .u32 (V8 : Nat), .int .u16 (V9 : Nat), .int .u16 (V10 : Nat), .int .u32 (V11 : Nat), .int .u32 (V12 : Nat)] _ rfl HRG.out Tryd.underlying39 rfl (by kernel_rfl)) rfl ?_
  exact ⟨rfl, HBB.out, by simp [World.setCell]; omega⟩
end Go.Proofs.YtmikhnaffhheoaaDoor
