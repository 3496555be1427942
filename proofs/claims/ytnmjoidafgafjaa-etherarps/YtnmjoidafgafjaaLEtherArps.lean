/- Whatever question and bytes: the walk of law08.EtherArps ends with true. -/
import Derived.Test.YtnmjoidafgafjaaEtRArp
import Derived.Test.YtnmjoidafgafjaaEtRTArp
import Derived.Test.YtnmjoidafgafjaaEtLive
namespace Go.Proofs.Ytnmjoidafgafjaa
open Go.RowKit
theorem paV_le (op : Int) (fm fi tm ti : Nat) : (paV op fm fi tm ti).length ≤ 28 := by
  unfold paV
  split
  · rw [arpB_len]; exact Nat.le_refl _
  · simp
set_option maxRecDepth 100000 in
set_option maxHeartbeats 1000000 in
theorem walk_EtherArps (op : Int) (fm fi tm ti : Nat) (a : Option Addr) (n c : Nat) (ys : List Nat) (w : World) (_hop : (Lit.int .i64 op).wf = true) (hfm : fm < 18446744073709551616) (hfi : fi < 4294967296) (htm : tm < 18446744073709551616) (hti : ti < 4294967296) (h1 : Sl w a n c ys ∧ c * 1 ≤ 140737488351232) :
    Calls Try.prog 5 #[.agg #[.int .i64 op, .int .u64 (fm : Nat), .int .u32 (fi : Nat), .int .u64 (tm : Nat), .int .u32 (ti : Nat)], .slice a n c] w fun e w' => e = .returned (.bool true) ∧ Below w.heap.size w w' := by
  obtain ⟨h1, hcb⟩ := h1
  clear hcb
  obtain ⟨W, hW⟩ : ∃ W, W = w.alloc (.cells #[.int .i64 op, .int .u64 (fm : Nat), .int .u32 (fi : Nat), .int .u64 (tm : Nat), .int .u32 (ti : Nat)] 38) := ⟨_, rfl⟩
  have hX := Stc.new w [.int .i64 op, .int .u64 (fm : Nat), .int .u32 (fi : Nat), .int .u64 (tm : Nat), .int .u32 (ti : Nat)] 38 W hW
  have hbW : Below w.heap.size w W := by rw [hW]; exact (Below.refl _ _).alloc (Nat.le_refl _) _
  have hyW := h1.below hbW
  have x0 := hX.cell 0 _ rfl
  have x1 := hX.cell 1 _ rfl
  have x2 := hX.cell 2 _ rfl
  have x3 := hX.cell 3 _ rfl
  have x4 := hX.cell 4 _ rfl
  obtain ⟨E, hE⟩ : ∃ E, E = paE op fm tm := ⟨_, rfl⟩
  obtain ⟨L, hL⟩ : ∃ L, L = paV op fm fi tm ti := ⟨_, rfl⟩
  obtain ⟨l, hl⟩ : ∃ l, l = L.length := ⟨_, rfl⟩
  have hle : l ≤ 28 := by rw [hl, hL]; exact paV_le _ _ _ _ _
  obtain ⟨O, hO⟩ : ∃ O, O = taN ys 6 2 := ⟨_, rfl⟩
  obtain ⟨FM, hFM⟩ : ∃ FM, FM = taN ys 8 6 := ⟨_, rfl⟩
  obtain ⟨FI, hFI⟩ : ∃ FI, FI = taN ys 14 4 := ⟨_, rfl⟩
  obtain ⟨TM, hTM⟩ : ∃ TM, TM = taN ys 18 6 := ⟨_, rfl⟩
  obtain ⟨TI, hTI⟩ : ∃ TI, TI = taN ys 24 4 := ⟨_, rfl⟩
  obtain ⟨G, hG⟩ : ∃ G, G = taE ys := ⟨_, rfl⟩
  have HE := (show Hid _ from hE)
  have HL := (show Hid _ from hL)
  have Hl := (show Hid _ from hl)
  have HO := (show Hid _ from hO)
  have HFM := (show Hid _ from hFM)
  have HFI := (show Hid _ from hFI)
  have HTM := (show Hid _ from hTM)
  have HTI := (show Hid _ from hTI)
  have HG := (show Hid _ from hG)
  clear hE hL hl hO hFM hFI hTM hTI hG
  go_enter Try.func5, Try.ntmps5
  go_wp2_with fail
  rw [← hW]
  clear hW
  refine (putArp_any op fm fi tm ti W hfm hfi htm hti).mono ?_
  rintro e w1 ⟨⟨a1, c1, rfl, o1⟩, b1⟩
  rw [← HE.out, ← HL.out, ← Hl.out]
  rw [← HL.out, ← Hl.out] at o1
  have hX1 := hX.below b1
  have hy1 := hyW.below b1
  have bb1 : Below w.heap.size w w1 := hbW.trans (b1.mono hbW.size)
  clear x0 x1 x2 x3 x4 hX hyW b1 hbW
  have x0 := hX1.cell 0 _ rfl
  have x1 := hX1.cell 1 _ rfl
  have x2 := hX1.cell 2 _ rfl
  have x3 := hX1.cell 3 _ rfl
  have x4 := hX1.cell 4 _ rfl
  go_wp2_with fail
  refine (rputArp_any op fm fi tm ti w1 hfm hfi htm hti).mono ?_
  rintro e w2 ⟨⟨a2, c2, rfl, o2⟩, b2⟩
  rw [← HE.out, ← HL.out, ← Hl.out]
  rw [← HL.out, ← Hl.out] at o2
  have o12 := o1.below b2
  have hy2 := hy1.below b2
  have bb2 : Below w.heap.size w w2 := bb1.trans (b2.mono bb1.size)
  clear x0 x1 x2 x3 x4 hX1 hy1 b2 bb1 o1
  go_wp2_with fail
  refine (takeArp_any a n c ys w2 hy2).mono ?_
  rintro e w3 ⟨rfl, b3⟩
  rw [← HO.out, ← HFM.out, ← HFI.out, ← HTM.out, ← HTI.out, ← HG.out]
  have o13 := o12.below b3
  have o23 := o2.below b3
  have hy3 := hy2.below b3
  have bb3 : Below w.heap.size w w3 := bb2.trans (b3.mono bb2.size)
  clear o12 o2 hy2 bb2 b3
  obtain ⟨w4, hw4⟩ : ∃ w4, w4 = w3.alloc (.cells #[.int .i64 (O : Nat), .int .u64 (FM : Nat), .int .u32 (FI : Nat), .int .u64 (TM : Nat), .int .u32 (TI : Nat)] 38) := ⟨_, rfl⟩
  have b34 : Below w3.heap.size w3 w4 := by rw [hw4]; exact (Below.refl _ _).alloc (Nat.le_refl _) _
  have hX4 := Stc.new w3 [.int .i64 (O : Nat), .int .u64 (FM : Nat), .int .u32 (FI : Nat), .int .u64 (TM : Nat), .int .u32 (TI : Nat)] 38 w4 hw4
  have o14 := o13.below b34
  have o24 := o23.below b34
  have hy4 := hy3.below b34
  have bb4 : Below w.heap.size w w4 := bb3.trans (b34.mono bb3.size)
  clear o13 o23 hy3 bb3 b34
  go_wp2_with fail
  rw [← hw4]
  clear hw4
  refine (rtakeArp_any a n c ys w4 hy4).mono ?_
  rintro e w5 ⟨rfl, b5⟩
  rw [← HO.out, ← HFM.out, ← HFI.out, ← HTM.out, ← HTI.out, ← HG.out]
  have o15 := o14.below b5
  have o25 := o24.below b5
  have hX5 := hX4.below b5
  have bb5 : Below w.heap.size w w5 := bb4.trans (b5.mono bb4.size)
  clear o14 o24 hy4 bb4 b5 hX4
  obtain ⟨w6, hw6⟩ : ∃ w6, w6 = w5.alloc (.cells #[.int .i64 (O : Nat), .int .u64 (FM : Nat), .int .u32 (FI : Nat), .int .u64 (TM : Nat), .int .u32 (TI : Nat)] 38) := ⟨_, rfl⟩
  have b56 : Below w5.heap.size w5 w6 := by rw [hw6]; exact (Below.refl _ _).alloc (Nat.le_refl _) _
  have hY6 := Stc.new w5 [.int .i64 (O : Nat), .int .u64 (FM : Nat), .int .u32 (FI : Nat), .int .u64 (TM : Nat), .int .u32 (TI : Nat)] 38 w6 hw6
  have hX6 := hX5.below b56
  have o16 := o15.below b56
  have o26 := o25.below b56
  have bb6 : Below w.heap.size w w6 := bb5.trans (b56.mono bb5.size)
  clear o15 o25 bb5 b56 hX5
  go_wp2_with fail
  rw [← hw6]
  clear hw6
  refine (live8_any w6).mono ?_
  rintro e w7 ⟨rfl, b7⟩
  have hX7 := hX6.below b7
  have hY7 := hY6.below b7
  have k1 := conv_str ((o16.below b7).sl (by omega))
  have k2 := conv_str ((o26.below b7).sl (by omega))
  have bb7 : Below w.heap.size w w7 := bb6.trans (b7.mono bb6.size)
  have x0 := hX7.cell 0 _ rfl
  have x1 := hX7.cell 1 _ rfl
  have x2 := hX7.cell 2 _ rfl
  have x3 := hX7.cell 3 _ rfl
  have x4 := hX7.cell 4 _ rfl
  have y0 := hY7.cell 0 _ rfl
  have y1 := hY7.cell 1 _ rfl
  have y2 := hY7.cell 2 _ rfl
  have y3 := hY7.cell 3 _ rfl
  have y4 := hY7.cell 4 _ rfl
  clear hX6 hX7 hY6 hY7 bb6 b7 o16 o26
  go_wp2
  go_ret
  exact ⟨rfl, bb7⟩
end Go.Proofs.Ytnmjoidafgafjaa
