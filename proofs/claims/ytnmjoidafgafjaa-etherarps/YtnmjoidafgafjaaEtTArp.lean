/- How a question of ARP is cut out of bytes; what ether.TakeArp answers. -/
import Derived.Test.YtnmjoidafgafjaaEtCut
import Derived.Test.YtnmjoidafgafjaaEtArp2
namespace Go.Proofs.Ytnmjoidafgafjaa
open Go.RowKit
theorem isOp_any (op : Int) (w : World) :
    Calls Try.prog 27 #[.int .i64 op] w fun e w' => e = .returned (.bool (decide (op = 1 ∨ op = 2))) ∧ w' = w := by
  by_cases h1 : op = 1
  · subst h1
    go_enter Try.func27, Try.ntmps27
    go_wp2
    go_ret
    exact ⟨rfl, rfl⟩
  · have h1b : (op == 1) = false := by simpa using h1
    have HD : Hid (decide (op = 1 ∨ op = 2) = (op == 2)) := by
      show _ = _
      rw [Bool.eq_iff_iff]
      simp only [decide_eq_true_eq, beq_iff_eq]
      omega
    go_enter Try.func27, Try.ntmps27
    go_wp2
    go_ret
    exact ⟨by rw [HD.out]; rfl, rfl⟩
set_option maxRecDepth 100000 in
set_option maxHeartbeats 4000000 in
theorem eachArp_cut (wT : World) (pb pt : Nat) (a : Option Addr) (n c : Nat) (zs : List Nat) (w : World) (hs : Sl wT a n c zs) (sb : Stc w pb [.slice a n c]) (st : Stc w pt [.int .i64 0]) (n1 : pt ≠ pb) (g1 : wT.heap.size ≤ pt) (bel : Below wT.heap.size wT w) :
    Calls Try.prog 28 #[.agg #[.int .i64 0, .int .u64 0, .int .u32 0, .int .u64 0, .int .u32 0], .func (.func 36) #[] #[.pointer (some ⟨pb, 0, none⟩), .pointer (some ⟨pt, 0, none⟩)]] w fun e w' => e = .returned (.tuple #[.agg #[.int .i64 (numV zs 6 2 : Nat), .int .u64 (numV zs 8 6 : Nat), .int .u32 (numV zs 14 4 : Nat), .int .u64 (numV zs 18 6 : Nat), .int .u32 (numV zs 24 4 : Nat)], .int .u64 (numV zs 0 6 : Nat)]) ∧ Below wT.heap.size wT w' := by
  have h0 := HcS.start (t := 0) sb st n1 g1 bel [.int .i64 0, .int .u64 0, .int .u32 0, .int .u64 0, .int .u32 0] [.int .i64 0, .int .u64 0, .int .u32 0, .int .u64 0, .int .u32 0] 38 38
  obtain ⟨W, hW⟩ : ∃ W, W = (w.alloc (.cells #[.int .i64 0, .int .u64 0, .int .u32 0, .int .u64 0, .int .u32 0] 38)).alloc (.cells #[.int .i64 0, .int .u64 0, .int .u32 0, .int .u64 0, .int .u32 0] 38) := ⟨_, rfl⟩
  change HcS wT pb pt _ w.heap.size (w.heap.size + 1) 0 _ _ ((w.alloc (.cells #[.int .i64 0, .int .u64 0, .int .u32 0, .int .u64 0, .int .u32 0] 38)).alloc (.cells #[.int .i64 0, .int .u64 0, .int .u32 0, .int .u64 0, .int .u32 0] 38)) at h0
  rw [← hW] at h0
  have hk6 := numV_lt zs 6 2 hs.bnd
  have hk14 := numV_lt zs 14 4 hs.bnd
  have hk24 := numV_lt zs 24 4 hs.bnd
  go_enter Try.func28, Try.ntmps28
  go_wp2_with fail
  rw [← hW]
  clear hW
  refine (h0.cut zs hs 4429186564 6 (by omega)).mono ?_
  rintro e w0 ⟨rfl, d0⟩
  have e0 : numV zs ((0 : Nat) : Int) ((6 : Nat) : Int) = numV zs 0 6 := rfl
  rw [e0]
  obtain ⟨V0, hV0⟩ : ∃ V0, V0 = numV zs 0 6 := ⟨_, rfl⟩
  rw [← hV0]
  have HV0 := (show Hid _ from hV0)
  clear h0 e0 hV0
  have x0 := d0.sx.cell 0 _ rfl
  go_wp2_with fail
  refine (d0.cut zs hs 0 2 (by omega)).mono ?_
  rintro e w1 ⟨rfl, f0⟩
  have e0 : numV zs ((0 + 6 : Nat) : Int) ((2 : Nat) : Int) = numV zs 6 2 := rfl
  rw [e0]
  obtain ⟨V1, hV1⟩ : ∃ V, V = numV zs 6 2 := ⟨_, rfl⟩
  have hb0 : V1 < 65536 := by rw [hV1]; exact hk6
  have hm0 : IntKind.i64.wrap (V1 : Int) = (V1 : Int) := by rw [IntKind.wrap_i64]; omega
  rw [← hV1]
  have HV1 := (show Hid _ from hV1)
  have c0 := f0.sx.cell 0 _ rfl
  have c0f := f0.sx.free 0
  have d1 := f0.set 0 (.int .i64 (V1 : Nat))
  have x1 := f0.sx.cell 1 _ rfl
  clear d0 x0 hV1 e0
  go_wp2_with fail
  refine (d1.cut zs hs 0 6 (by omega)).mono ?_
  rintro e w2 ⟨rfl, f1⟩
  have e0 : numV zs ((0 + 6 + 2 : Nat) : Int) ((6 : Nat) : Int) = numV zs 8 6 := rfl
  rw [e0]
  obtain ⟨V2, hV2⟩ : ∃ V, V = numV zs 8 6 := ⟨_, rfl⟩
  rw [← hV2]
  have HV2 := (show Hid _ from hV2)
  have c1 := f1.sx.cell 1 _ rfl
  have c1f := f1.sx.free 1
  have d2 := f1.set 1 (.int .u64 (V2 : Nat))
  have x2 := f1.sx.cell 2 _ rfl
  clear d1 x1 hV2 e0
  go_wp2_with fail
  refine (d2.cut zs hs 0 4 (by omega)).mono ?_
  rintro e w3 ⟨rfl, f2⟩
  have e0 : numV zs ((0 + 6 + 2 + 6 : Nat) : Int) ((4 : Nat) : Int) = numV zs 14 4 := rfl
  rw [e0]
  obtain ⟨V3, hV3⟩ : ∃ V, V = numV zs 14 4 := ⟨_, rfl⟩
  have hb2 : V3 < 4294967296 := by rw [hV3]; exact hk14
  have hm2 : (V3 : Int) % 4294967296 = (V3 : Int) := by omega
  rw [← hV3]
  have HV3 := (show Hid _ from hV3)
  have c2 := f2.sx.cell 2 _ rfl
  have c2f := f2.sx.free 2
  have d3 := f2.set 2 (.int .u32 (V3 : Nat))
  have x3 := f2.sx.cell 3 _ rfl
  clear d2 x2 hV3 e0
  go_wp2_with fail
  refine (d3.cut zs hs 0 6 (by omega)).mono ?_
  rintro e w4 ⟨rfl, f3⟩
  have e0 : numV zs ((0 + 6 + 2 + 6 + 4 : Nat) : Int) ((6 : Nat) : Int) = numV zs 18 6 := rfl
  rw [e0]
  obtain ⟨V4, hV4⟩ : ∃ V, V = numV zs 18 6 := ⟨_, rfl⟩
  rw [← hV4]
  have HV4 := (show Hid _ from hV4)
  have c3 := f3.sx.cell 3 _ rfl
  have c3f := f3.sx.free 3
  have d4 := f3.set 3 (.int .u64 (V4 : Nat))
  have x4 := f3.sx.cell 4 _ rfl
  clear d3 x3 hV4 e0
  go_wp2_with fail
  refine (d4.cut zs hs 0 4 (by omega)).mono ?_
  rintro e w5 ⟨rfl, f4⟩
  have e0 : numV zs ((0 + 6 + 2 + 6 + 4 + 6 : Nat) : Int) ((4 : Nat) : Int) = numV zs 24 4 := rfl
  rw [e0]
  obtain ⟨V5, hV5⟩ : ∃ V, V = numV zs 24 4 := ⟨_, rfl⟩
  have hb4 : V5 < 4294967296 := by rw [hV5]; exact hk24
  have hm4 : (V5 : Int) % 4294967296 = (V5 : Int) := by omega
  rw [← hV5]
  have HV5 := (show Hid _ from hV5)
  have c4 := f4.sx.cell 4 _ rfl
  have c4f := f4.sx.free 4
  have d5 := f4.set 4 (.int .u32 (V5 : Nat))
  clear e0 hV5
  have z0 := f4.sx.cell 0 _ rfl
  have z1 := f4.sx.cell 1 _ rfl
  have z2 := f4.sx.cell 2 _ rfl
  have z3 := f4.sx.cell 3 _ rfl
  have r0 := f4.sr.cell 0 _ rfl
  have r0f := f4.sr.free 0
  have r1 := f4.sr.cell 1 _ rfl
  have r1f := f4.sr.free 1
  have r2 := f4.sr.cell 2 _ rfl
  have r2f := f4.sr.free 2
  have r3 := f4.sr.cell 3 _ rfl
  have r3f := f4.sr.free 3
  have r4 := f4.sr.cell 4 _ rfl
  have r4f := f4.sr.free 4
  have h9 := (((((d5.setR 0 (.int .i64 (V1 : Nat))).setR 1 (.int .u64 (V2 : Nat))).setR 2 (.int .u32 (V3 : Nat))).setR 3 (.int .u64 (V4 : Nat))).setR 4 (.int .u32 (V5 : Nat)))
  have HBF := (show Hid _ from h9.bel)
  have HRG := (show Hid _ from h9.sr.range)
  clear h9 d5 d4 f4 f3 f2 f1 f0 hk6 hk14 hk24
  go_wp2
  try simp only [Exit.inBlock, Exit.then]
  refine bodyPost_ret (results_cellE2 rfl _ _ (w.heap.size + 1) 0 [.int .i64 (V1 : Nat), .int .u64 (V2 : Nat), .int .u32 (V3 : Nat), .int .u64 (V4 : Nat), .int .u32 (V5 : Nat)] _ rfl HRG.out Try.underlying38 rfl (by kernel_rfl)) rfl ?_
  exact ⟨by rw [HV0.out, HV1.out, HV2.out, HV3.out, HV4.out, HV5.out]; rfl, HBF.out⟩
end Go.Proofs.Ytnmjoidafgafjaa
