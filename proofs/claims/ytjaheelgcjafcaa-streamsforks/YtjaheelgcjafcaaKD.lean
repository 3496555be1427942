/- streams: may a piece be held? -/
import Derived.Test.YtjaheelgcjafcaaKB
import Derived.Test.YtjaheelgcjafcaaRgX
import Derived.Test.YtjaheelgcjafcaaKC
namespace Go.Proofs.Ytjaheelgcjafcaa
open Go.RowKit
set_option linter.unusedVariables false in
set_option maxRecDepth 100000 in
set_option maxHeartbeats 2000000 in
theorem fit_any (x y : Pc) (w : World) (hx : PcOk x) (hy : PcOk y) (v u : Value) (hv : v = x.val) (hu : u = y.val) :
    Calls Try.prog 58 #[v, u] w fun e w' => e = .returned (.bool (fitB x y)) ∧ Below w.heap.size w w' := by
  subst hv hu
  obtain ⟨fl1, st1, ss1, pp1, a1, n1, c1, z1⟩ := x
  obtain ⟨fl2, st2, ss2, pp2, a2, n2, c2, z2⟩ := y
  have hf1 := hx.fl
  have hf2 := hy.fl
  unfold Pc.val
  dsimp only at hf1 hf2 ⊢
  have HR : Hid (∀ r, r = fitB ⟨fl1, st1, ss1, pp1, a1, n1, c1, z1⟩ ⟨fl2, st2, ss2, pp2, a2, n2, c2, z2⟩ → r = (decide (st1 = st2) && (decide (fl1 / 4 % 2 = 1) == decide (fl2 / 4 % 2 = 1)) && (decide (fl1 / 4 % 2 = 1) || decide (ss1 = ss2)))) := by
    intro r hr
    rw [hr]
    unfold fitB Pc.free
    dsimp only
    rw [show ∀ a b : Nat, (a == b) = decide (a = b) from fun a b => by by_cases h : a = b <;> simp [h], show ∀ a b : Nat, (a == b) = decide (a = b) from fun a b => by by_cases h : a = b <;> simp [h]]
  have HF1 : Hid (∀ W, Calls Try.prog 43 #[.agg #[.int .u8 (fl1 : Nat), .int .u16 (st1 : Nat), .int .u16 (ss1 : Nat), .int .u32 (pp1 : Nat), .slice a1 n1 c1]] W fun e w' => e = .returned (.bool (decide (fl1 / 4 % 2 = 1))) ∧ Below W.heap.size W w') := fun W => free_any fl1 _ _ _ _ W hf1 _ rfl
  have HF2 : Hid (∀ W, Calls Try.prog 43 #[.agg #[.int .u8 (fl2 : Nat), .int .u16 (st2 : Nat), .int .u16 (ss2 : Nat), .int .u32 (pp2 : Nat), .slice a2 n2 c2]] W fun e w' => e = .returned (.bool (decide (fl2 / 4 % 2 = 1))) ∧ Below W.heap.size W w') := fun W => free_any fl2 _ _ _ _ W hf2 _ rfl
  clear hx hy hf1 hf2
  rw [show fitB ⟨fl1, st1, ss1, pp1, a1, n1, c1, z1⟩ ⟨fl2, st2, ss2, pp2, a2, n2, c2, z2⟩ = (decide (st1 = st2) && (decide (fl1 / 4 % 2 = 1) == decide (fl2 / 4 % 2 = 1)) && (decide (fl1 / 4 % 2 = 1) || decide (ss1 = ss2))) from HR.out _ rfl]
  clear HR
  generalize decide (fl1 / 4 % 2 = 1) = r1 at *
  generalize decide (fl2 / 4 % 2 = 1) = r2 at *
  by_cases hst : st1 = st2
  · subst hst
    cases r1 with
    | true =>
      cases r2 with
      | true =>
        obtain ⟨W0, hW0⟩ : ∃ W0, W0 = (w.alloc (.cells #[.int .u8 (fl1 : Nat), .int .u16 (st1 : Nat), .int .u16 (ss1 : Nat), .int .u32 (pp1 : Nat), .slice a1 n1 c1] 79)).alloc (.cells #[.int .u8 (fl2 : Nat), .int .u16 (st1 : Nat), .int .u16 (ss2 : Nat), .int .u32 (pp2 : Nat), .slice a2 n2 c2] 79) := ⟨_, rfl⟩
        have HB : Hid (Below w.heap.size w W0.drew) := by
          show Below _ _ _
          rw [hW0]
          exact (((Below.refl _ _).alloc (Nat.le_refl _) _).alloc (by simp) _).drew
        have HKC : Hid (∀ V, Below W0.drew.heap.size W0.drew V → V.cell? ⟨w.heap.size, 0, none⟩ = some (.int .u8 (fl1 : Nat)) ∧ V.cell? ⟨w.heap.size, 1, none⟩ = some (.int .u16 (st1 : Nat)) ∧ V.cell? ⟨w.heap.size, 2, none⟩ = some (.int .u16 (ss1 : Nat)) ∧ V.cell? ⟨w.heap.size, 3, none⟩ = some (.int .u32 (pp1 : Nat)) ∧ V.cell? ⟨w.heap.size, 4, none⟩ = some (.slice a1 n1 c1) ∧ V.cell? ⟨w.heap.size + 1, 0, none⟩ = some (.int .u8 (fl2 : Nat)) ∧ V.cell? ⟨w.heap.size + 1, 1, none⟩ = some (.int .u16 (st1 : Nat)) ∧ V.cell? ⟨w.heap.size + 1, 2, none⟩ = some (.int .u16 (ss2 : Nat)) ∧ V.cell? ⟨w.heap.size + 1, 3, none⟩ = some (.int .u32 (pp2 : Nat)) ∧ V.cell? ⟨w.heap.size + 1, 4, none⟩ = some (.slice a2 n2 c2)) := by
          intro V hV
          have s1 := ((Stc.new w [.int .u8 (fl1 : Nat), .int .u16 (st1 : Nat), .int .u16 (ss1 : Nat), .int .u32 (pp1 : Nat), .slice a1 n1 c1] 79 _ rfl).below (w' := W0) (by rw [hW0]; exact (Below.refl _ _).alloc (Nat.le_refl _) _)).below ((Below.refl _ _).drew.trans (hV.mono (Below.refl 0 W0).drew.size))
          have s2 := (Stc.new (w.alloc (.cells #[.int .u8 (fl1 : Nat), .int .u16 (st1 : Nat), .int .u16 (ss1 : Nat), .int .u32 (pp1 : Nat), .slice a1 n1 c1] 79)) [.int .u8 (fl2 : Nat), .int .u16 (st1 : Nat), .int .u16 (ss2 : Nat), .int .u32 (pp2 : Nat), .slice a2 n2 c2] 79 W0 hW0).below ((Below.refl _ _).drew.trans (hV.mono (Below.refl 0 W0).drew.size))
          rw [show (w.alloc (.cells #[.int .u8 (fl1 : Nat), .int .u16 (st1 : Nat), .int .u16 (ss1 : Nat), .int .u32 (pp1 : Nat), .slice a1 n1 c1] 79)).heap.size = w.heap.size + 1 by simp] at s2
          exact ⟨s1.cell 0 _ rfl, s1.cell 1 _ rfl, s1.cell 2 _ rfl, s1.cell 3 _ rfl, s1.cell 4 _ rfl, s2.cell 0 _ rfl, s2.cell 1 _ rfl, s2.cell 2 _ rfl, s2.cell 3 _ rfl, s2.cell 4 _ rfl⟩
        go_enter Try.func58, Try.ntmps58
        go_wp2_with fail
        rw [← hW0]
        clear hW0
        refine wp_region_fixW mixedX (fun V => Below W0.drew.heap.size W0.drew V) [(5, .pointer (some ⟨w.heap.size, 1, none⟩)), (6, .int .u16 (st1 : Nat)), (7, .pointer (some ⟨w.heap.size + 1, 1, none⟩)), (8, .int .u16 (st1 : Nat)), (9, .bool true), (10, .bool true), (11, .agg #[.int .u8 (fl1 : Nat), .int .u16 (st1 : Nat), .int .u16 (ss1 : Nat), .int .u32 (pp1 : Nat), .slice a1 n1 c1]), (12, .bool true), (13, .agg #[.int .u8 (fl2 : Nat), .int .u16 (st1 : Nat), .int .u16 (ss2 : Nat), .int .u32 (pp2 : Nat), .slice a2 n2 c2]), (14, .bool true), (15, .bool true), (16, .bool true), (17, .bool true), (18, .agg #[.int .u8 (fl1 : Nat), .int .u16 (st1 : Nat), .int .u16 (ss1 : Nat), .int .u32 (pp1 : Nat), .slice a1 n1 c1]), (19, .bool true), (20, .bool true), (21, undef), (22, undef), (23, undef), (24, undef), (25, undef), (26, .bool true), (27, .bool true), (4, .bool true)] ?Z1 ?hZ1 (by kernel_rfl) (by kernel_rfl) (by kernel_rfl) (by kernel_rfl) ?h01 ?hops1 ?he1
        case hZ1 => simp only [List.foldl_cons, List.foldl_nil, List.setIfInBounds_toArray, List.set_cons_zero, List.set_cons_succ]; rfl
        case h01 => exact Below.refl _ _
        case hops1 =>
          refine ⟨?_, ?_, ?_, ?_, ?_, ?_, ?_, ?_, ?_, ?_, ?_, ?_, ?_, ?_, ?_, ?_, ?_, ?_, ?_, ?_, ?_, ?_, ?_, ?_, trivial⟩
          · exact fix_val (by rfl) (fun W hW => by obtain ⟨d0, d1, d2, d3, d4, e0, e1, e2, e3, e4⟩ := HKC.out W hW; go_simp; (try with_reducible rfl); (try omega))
          · exact fix_val (by rfl) (fun W hW => by obtain ⟨d0, d1, d2, d3, d4, e0, e1, e2, e3, e4⟩ := HKC.out W hW; go_simp; (try with_reducible rfl); (try omega))
          · exact fix_val (by rfl) (fun W hW => by obtain ⟨d0, d1, d2, d3, d4, e0, e1, e2, e3, e4⟩ := HKC.out W hW; go_simp; (try with_reducible rfl); (try omega))
          · exact fix_val (by rfl) (fun W hW => by obtain ⟨d0, d1, d2, d3, d4, e0, e1, e2, e3, e4⟩ := HKC.out W hW; go_simp; (try with_reducible rfl); (try omega))
          · exact fix_val (by rfl) (fun W hW => by obtain ⟨d0, d1, d2, d3, d4, e0, e1, e2, e3, e4⟩ := HKC.out W hW; go_simp; (try with_reducible rfl); (try omega))
          · exact fix_val (by rfl) (fun W hW => by obtain ⟨d0, d1, d2, d3, d4, e0, e1, e2, e3, e4⟩ := HKC.out W hW; go_simp; (try with_reducible rfl); (try omega))
          · exact fix_val (by rfl) (fun W hW => by obtain ⟨d0, d1, d2, d3, d4, e0, e1, e2, e3, e4⟩ := HKC.out W hW; go_simp; (try with_reducible rfl); (try omega))
          · exact fix_call (vs := [.agg #[.int .u8 (fl1 : Nat), .int .u16 (st1 : Nat), .int .u16 (ss1 : Nat), .int .u32 (pp1 : Nat), .slice a1 n1 c1]]) (by rfl) rfl (by rfl) Try.func43 (by rfl) (by rfl) (fun W hW => by exact (HF1.out W).mono (fun e V h => ⟨h.1, hW.trans (h.2.mono hW.size)⟩))
          · exact fix_val (by rfl) (fun W hW => by obtain ⟨d0, d1, d2, d3, d4, e0, e1, e2, e3, e4⟩ := HKC.out W hW; go_simp; (try with_reducible rfl); (try omega))
          · exact fix_call (vs := [.agg #[.int .u8 (fl2 : Nat), .int .u16 (st1 : Nat), .int .u16 (ss2 : Nat), .int .u32 (pp2 : Nat), .slice a2 n2 c2]]) (by rfl) rfl (by rfl) Try.func43 (by rfl) (by rfl) (fun W hW => by exact (HF2.out W).mono (fun e V h => ⟨h.1, hW.trans (h.2.mono hW.size)⟩))
          · exact fix_val (by rfl) (fun W hW => by obtain ⟨d0, d1, d2, d3, d4, e0, e1, e2, e3, e4⟩ := HKC.out W hW; go_simp; (try with_reducible rfl); (try omega))
          · exact fix_val (by rfl) (fun W hW => by obtain ⟨d0, d1, d2, d3, d4, e0, e1, e2, e3, e4⟩ := HKC.out W hW; go_simp; (try with_reducible rfl); (try omega))
          · exact fix_val (by rfl) (fun W hW => by obtain ⟨d0, d1, d2, d3, d4, e0, e1, e2, e3, e4⟩ := HKC.out W hW; go_simp; (try with_reducible rfl); (try omega))
          · exact fix_val (by rfl) (fun W hW => by obtain ⟨d0, d1, d2, d3, d4, e0, e1, e2, e3, e4⟩ := HKC.out W hW; go_simp; (try with_reducible rfl); (try omega))
          · exact fix_call (vs := [.agg #[.int .u8 (fl1 : Nat), .int .u16 (st1 : Nat), .int .u16 (ss1 : Nat), .int .u32 (pp1 : Nat), .slice a1 n1 c1]]) (by rfl) rfl (by rfl) Try.func43 (by rfl) (by rfl) (fun W hW => by exact (HF1.out W).mono (fun e V h => ⟨h.1, hW.trans (h.2.mono hW.size)⟩))
          · exact fix_val (by rfl) (fun W hW => by obtain ⟨d0, d1, d2, d3, d4, e0, e1, e2, e3, e4⟩ := HKC.out W hW; go_simp; (try with_reducible rfl); (try omega))
          · exact fix_off (by rfl) (fun d hd => by cases hd; rfl)
          · exact fix_off (by rfl) (fun d hd => by cases hd; rfl)
          · exact fix_off (by rfl) (fun d hd => by cases hd; rfl)
          · exact fix_off (by rfl) (fun d hd => by cases hd; rfl)
          · exact fix_off (by rfl) (fun d hd => by cases hd; rfl)
          · exact fix_val (by rfl) (fun W hW => by obtain ⟨d0, d1, d2, d3, d4, e0, e1, e2, e3, e4⟩ := HKC.out W hW; go_simp; (try with_reducible rfl); (try omega))
          · exact fix_val (by rfl) (fun W hW => by obtain ⟨d0, d1, d2, d3, d4, e0, e1, e2, e3, e4⟩ := HKC.out W hW; go_simp; (try with_reducible rfl); (try omega))
          · exact fix_val (by rfl) (fun W hW => by obtain ⟨d0, d1, d2, d3, d4, e0, e1, e2, e3, e4⟩ := HKC.out W hW; go_simp; (try with_reducible rfl); (try omega))
        case he1 =>
        intro V hV
        have HV := (show Hid _ from hV)
        clear hV
        go_wp2
        go_ret
        exact ⟨by simp, HB.out.trans (HV.out.mono HB.out.size)⟩
      | false =>
        obtain ⟨W0, hW0⟩ : ∃ W0, W0 = (w.alloc (.cells #[.int .u8 (fl1 : Nat), .int .u16 (st1 : Nat), .int .u16 (ss1 : Nat), .int .u32 (pp1 : Nat), .slice a1 n1 c1] 79)).alloc (.cells #[.int .u8 (fl2 : Nat), .int .u16 (st1 : Nat), .int .u16 (ss2 : Nat), .int .u32 (pp2 : Nat), .slice a2 n2 c2] 79) := ⟨_, rfl⟩
        have HB : Hid (Below w.heap.size w W0.drew) := by
          show Below _ _ _
          rw [hW0]
          exact (((Below.refl _ _).alloc (Nat.le_refl _) _).alloc (by simp) _).drew
        have HKC : Hid (∀ V, Below W0.drew.heap.size W0.drew V → V.cell? ⟨w.heap.size, 0, none⟩ = some (.int .u8 (fl1 : Nat)) ∧ V.cell? ⟨w.heap.size, 1, none⟩ = some (.int .u16 (st1 : Nat)) ∧ V.cell? ⟨w.heap.size, 2, none⟩ = some (.int .u16 (ss1 : Nat)) ∧ V.cell? ⟨w.heap.size, 3, none⟩ = some (.int .u32 (pp1 : Nat)) ∧ V.cell? ⟨w.heap.size, 4, none⟩ = some (.slice a1 n1 c1) ∧ V.cell? ⟨w.heap.size + 1, 0, none⟩ = some (.int .u8 (fl2 : Nat)) ∧ V.cell? ⟨w.heap.size + 1, 1, none⟩ = some (.int .u16 (st1 : Nat)) ∧ V.cell? ⟨w.heap.size + 1, 2, none⟩ = some (.int .u16 (ss2 : Nat)) ∧ V.cell? ⟨w.heap.size + 1, 3, none⟩ = some (.int .u32 (pp2 : Nat)) ∧ V.cell? ⟨w.heap.size + 1, 4, none⟩ = some (.slice a2 n2 c2)) := by
          intro V hV
          have s1 := ((Stc.new w [.int .u8 (fl1 : Nat), .int .u16 (st1 : Nat), .int .u16 (ss1 : Nat), .int .u32 (pp1 : Nat), .slice a1 n1 c1] 79 _ rfl).below (w' := W0) (by rw [hW0]; exact (Below.refl _ _).alloc (Nat.le_refl _) _)).below ((Below.refl _ _).drew.trans (hV.mono (Below.refl 0 W0).drew.size))
          have s2 := (Stc.new (w.alloc (.cells #[.int .u8 (fl1 : Nat), .int .u16 (st1 : Nat), .int .u16 (ss1 : Nat), .int .u32 (pp1 : Nat), .slice a1 n1 c1] 79)) [.int .u8 (fl2 : Nat), .int .u16 (st1 : Nat), .int .u16 (ss2 : Nat), .int .u32 (pp2 : Nat), .slice a2 n2 c2] 79 W0 hW0).below ((Below.refl _ _).drew.trans (hV.mono (Below.refl 0 W0).drew.size))
          rw [show (w.alloc (.cells #[.int .u8 (fl1 : Nat), .int .u16 (st1 : Nat), .int .u16 (ss1 : Nat), .int .u32 (pp1 : Nat), .slice a1 n1 c1] 79)).heap.size = w.heap.size + 1 by simp] at s2
          exact ⟨s1.cell 0 _ rfl, s1.cell 1 _ rfl, s1.cell 2 _ rfl, s1.cell 3 _ rfl, s1.cell 4 _ rfl, s2.cell 0 _ rfl, s2.cell 1 _ rfl, s2.cell 2 _ rfl, s2.cell 3 _ rfl, s2.cell 4 _ rfl⟩
        go_enter Try.func58, Try.ntmps58
        go_wp2_with fail
        rw [← hW0]
        clear hW0
        refine wp_region_fixW mixedX (fun V => Below W0.drew.heap.size W0.drew V) [(5, .pointer (some ⟨w.heap.size, 1, none⟩)), (6, .int .u16 (st1 : Nat)), (7, .pointer (some ⟨w.heap.size + 1, 1, none⟩)), (8, .int .u16 (st1 : Nat)), (9, .bool true), (10, .bool true), (11, .agg #[.int .u8 (fl1 : Nat), .int .u16 (st1 : Nat), .int .u16 (ss1 : Nat), .int .u32 (pp1 : Nat), .slice a1 n1 c1]), (12, .bool true), (13, .agg #[.int .u8 (fl2 : Nat), .int .u16 (st1 : Nat), .int .u16 (ss2 : Nat), .int .u32 (pp2 : Nat), .slice a2 n2 c2]), (14, .bool false), (15, .bool false), (16, .bool false), (17, .bool false), (18, undef), (19, undef), (20, undef), (21, undef), (22, undef), (23, undef), (24, undef), (25, undef), (26, undef), (27, .bool false), (4, .bool false)] ?Z2 ?hZ2 (by kernel_rfl) (by kernel_rfl) (by kernel_rfl) (by kernel_rfl) ?h02 ?hops2 ?he2
        case hZ2 => simp only [List.foldl_cons, List.foldl_nil, List.setIfInBounds_toArray, List.set_cons_zero, List.set_cons_succ]; rfl
        case h02 => exact Below.refl _ _
        case hops2 =>
          refine ⟨?_, ?_, ?_, ?_, ?_, ?_, ?_, ?_, ?_, ?_, ?_, ?_, ?_, ?_, ?_, ?_, ?_, ?_, ?_, ?_, ?_, ?_, ?_, ?_, trivial⟩
          · exact fix_val (by rfl) (fun W hW => by obtain ⟨d0, d1, d2, d3, d4, e0, e1, e2, e3, e4⟩ := HKC.out W hW; go_simp; (try with_reducible rfl); (try omega))
          · exact fix_val (by rfl) (fun W hW => by obtain ⟨d0, d1, d2, d3, d4, e0, e1, e2, e3, e4⟩ := HKC.out W hW; go_simp; (try with_reducible rfl); (try omega))
          · exact fix_val (by rfl) (fun W hW => by obtain ⟨d0, d1, d2, d3, d4, e0, e1, e2, e3, e4⟩ := HKC.out W hW; go_simp; (try with_reducible rfl); (try omega))
          · exact fix_val (by rfl) (fun W hW => by obtain ⟨d0, d1, d2, d3, d4, e0, e1, e2, e3, e4⟩ := HKC.out W hW; go_simp; (try with_reducible rfl); (try omega))
          · exact fix_val (by rfl) (fun W hW => by obtain ⟨d0, d1, d2, d3, d4, e0, e1, e2, e3, e4⟩ := HKC.out W hW; go_simp; (try with_reducible rfl); (try omega))
          · exact fix_val (by rfl) (fun W hW => by obtain ⟨d0, d1, d2, d3, d4, e0, e1, e2, e3, e4⟩ := HKC.out W hW; go_simp; (try with_reducible rfl); (try omega))
          · exact fix_val (by rfl) (fun W hW => by obtain ⟨d0, d1, d2, d3, d4, e0, e1, e2, e3, e4⟩ := HKC.out W hW; go_simp; (try with_reducible rfl); (try omega))
          · exact fix_call (vs := [.agg #[.int .u8 (fl1 : Nat), .int .u16 (st1 : Nat), .int .u16 (ss1 : Nat), .int .u32 (pp1 : Nat), .slice a1 n1 c1]]) (by rfl) rfl (by rfl) Try.func43 (by rfl) (by rfl) (fun W hW => by exact (HF1.out W).mono (fun e V h => ⟨h.1, hW.trans (h.2.mono hW.size)⟩))
          · exact fix_val (by rfl) (fun W hW => by obtain ⟨d0, d1, d2, d3, d4, e0, e1, e2, e3, e4⟩ := HKC.out W hW; go_simp; (try with_reducible rfl); (try omega))
          · exact fix_call (vs := [.agg #[.int .u8 (fl2 : Nat), .int .u16 (st1 : Nat), .int .u16 (ss2 : Nat), .int .u32 (pp2 : Nat), .slice a2 n2 c2]]) (by rfl) rfl (by rfl) Try.func43 (by rfl) (by rfl) (fun W hW => by exact (HF2.out W).mono (fun e V h => ⟨h.1, hW.trans (h.2.mono hW.size)⟩))
          · exact fix_val (by rfl) (fun W hW => by obtain ⟨d0, d1, d2, d3, d4, e0, e1, e2, e3, e4⟩ := HKC.out W hW; go_simp; (try with_reducible rfl); (try omega))
          · exact fix_val (by rfl) (fun W hW => by obtain ⟨d0, d1, d2, d3, d4, e0, e1, e2, e3, e4⟩ := HKC.out W hW; go_simp; (try with_reducible rfl); (try omega))
          · exact fix_val (by rfl) (fun W hW => by obtain ⟨d0, d1, d2, d3, d4, e0, e1, e2, e3, e4⟩ := HKC.out W hW; go_simp; (try with_reducible rfl); (try omega))
          · exact fix_off (by rfl) (fun d hd => by cases hd; rfl)
          · exact fix_off (by rfl) (fun d hd => by cases hd; rfl)
          · exact fix_off (by rfl) (fun d hd => by cases hd; rfl)
          · exact fix_off (by rfl) (fun d hd => by cases hd; rfl)
          · exact fix_off (by rfl) (fun d hd => by cases hd; rfl)
          · exact fix_off (by rfl) (fun d hd => by cases hd; rfl)
          · exact fix_off (by rfl) (fun d hd => by cases hd; rfl)
          · exact fix_off (by rfl) (fun d hd => by cases hd; rfl)
          · exact fix_off (by rfl) (fun d hd => by cases hd; rfl)
          · exact fix_val (by rfl) (fun W hW => by obtain ⟨d0, d1, d2, d3, d4, e0, e1, e2, e3, e4⟩ := HKC.out W hW; go_simp; (try with_reducible rfl); (try omega))
          · exact fix_val (by rfl) (fun W hW => by obtain ⟨d0, d1, d2, d3, d4, e0, e1, e2, e3, e4⟩ := HKC.out W hW; go_simp; (try with_reducible rfl); (try omega))
        case he2 =>
        intro V hV
        have HV := (show Hid _ from hV)
        clear hV
        go_wp2
        go_ret
        exact ⟨by simp, HB.out.trans (HV.out.mono HB.out.size)⟩
    | false =>
      cases r2 with
      | true =>
        obtain ⟨W0, hW0⟩ : ∃ W0, W0 = (w.alloc (.cells #[.int .u8 (fl1 : Nat), .int .u16 (st1 : Nat), .int .u16 (ss1 : Nat), .int .u32 (pp1 : Nat), .slice a1 n1 c1] 79)).alloc (.cells #[.int .u8 (fl2 : Nat), .int .u16 (st1 : Nat), .int .u16 (ss2 : Nat), .int .u32 (pp2 : Nat), .slice a2 n2 c2] 79) := ⟨_, rfl⟩
        have HB : Hid (Below w.heap.size w W0.drew) := by
          show Below _ _ _
          rw [hW0]
          exact (((Below.refl _ _).alloc (Nat.le_refl _) _).alloc (by simp) _).drew
        have HKC : Hid (∀ V, Below W0.drew.heap.size W0.drew V → V.cell? ⟨w.heap.size, 0, none⟩ = some (.int .u8 (fl1 : Nat)) ∧ V.cell? ⟨w.heap.size, 1, none⟩ = some (.int .u16 (st1 : Nat)) ∧ V.cell? ⟨w.heap.size, 2, none⟩ = some (.int .u16 (ss1 : Nat)) ∧ V.cell? ⟨w.heap.size, 3, none⟩ = some (.int .u32 (pp1 : Nat)) ∧ V.cell? ⟨w.heap.size, 4, none⟩ = some (.slice a1 n1 c1) ∧ V.cell? ⟨w.heap.size + 1, 0, none⟩ = some (.int .u8 (fl2 : Nat)) ∧ V.cell? ⟨w.heap.size + 1, 1, none⟩ = some (.int .u16 (st1 : Nat)) ∧ V.cell? ⟨w.heap.size + 1, 2, none⟩ = some (.int .u16 (ss2 : Nat)) ∧ V.cell? ⟨w.heap.size + 1, 3, none⟩ = some (.int .u32 (pp2 : Nat)) ∧ V.cell? ⟨w.heap.size + 1, 4, none⟩ = some (.slice a2 n2 c2)) := by
          intro V hV
          have s1 := ((Stc.new w [.int .u8 (fl1 : Nat), .int .u16 (st1 : Nat), .int .u16 (ss1 : Nat), .int .u32 (pp1 : Nat), .slice a1 n1 c1] 79 _ rfl).below (w' := W0) (by rw [hW0]; exact (Below.refl _ _).alloc (Nat.le_refl _) _)).below ((Below.refl _ _).drew.trans (hV.mono (Below.refl 0 W0).drew.size))
          have s2 := (Stc.new (w.alloc (.cells #[.int .u8 (fl1 : Nat), .int .u16 (st1 : Nat), .int .u16 (ss1 : Nat), .int .u32 (pp1 : Nat), .slice a1 n1 c1] 79)) [.int .u8 (fl2 : Nat), .int .u16 (st1 : Nat), .int .u16 (ss2 : Nat), .int .u32 (pp2 : Nat), .slice a2 n2 c2] 79 W0 hW0).below ((Below.refl _ _).drew.trans (hV.mono (Below.refl 0 W0).drew.size))
          rw [show (w.alloc (.cells #[.int .u8 (fl1 : Nat), .int .u16 (st1 : Nat), .int .u16 (ss1 : Nat), .int .u32 (pp1 : Nat), .slice a1 n1 c1] 79)).heap.size = w.heap.size + 1 by simp] at s2
          exact ⟨s1.cell 0 _ rfl, s1.cell 1 _ rfl, s1.cell 2 _ rfl, s1.cell 3 _ rfl, s1.cell 4 _ rfl, s2.cell 0 _ rfl, s2.cell 1 _ rfl, s2.cell 2 _ rfl, s2.cell 3 _ rfl, s2.cell 4 _ rfl⟩
        go_enter Try.func58, Try.ntmps58
        go_wp2_with fail
        rw [← hW0]
        clear hW0
        refine wp_region_fixW mixedX (fun V => Below W0.drew.heap.size W0.drew V) [(5, .pointer (some ⟨w.heap.size, 1, none⟩)), (6, .int .u16 (st1 : Nat)), (7, .pointer (some ⟨w.heap.size + 1, 1, none⟩)), (8, .int .u16 (st1 : Nat)), (9, .bool true), (10, .bool true), (11, .agg #[.int .u8 (fl1 : Nat), .int .u16 (st1 : Nat), .int .u16 (ss1 : Nat), .int .u32 (pp1 : Nat), .slice a1 n1 c1]), (12, .bool false), (13, .agg #[.int .u8 (fl2 : Nat), .int .u16 (st1 : Nat), .int .u16 (ss2 : Nat), .int .u32 (pp2 : Nat), .slice a2 n2 c2]), (14, .bool true), (15, .bool false), (16, .bool false), (17, .bool false), (18, undef), (19, undef), (20, undef), (21, undef), (22, undef), (23, undef), (24, undef), (25, undef), (26, undef), (27, .bool false), (4, .bool false)] ?Z3 ?hZ3 (by kernel_rfl) (by kernel_rfl) (by kernel_rfl) (by kernel_rfl) ?h03 ?hops3 ?he3
        case hZ3 => simp only [List.foldl_cons, List.foldl_nil, List.setIfInBounds_toArray, List.set_cons_zero, List.set_cons_succ]; rfl
        case h03 => exact Below.refl _ _
        case hops3 =>
          refine ⟨?_, ?_, ?_, ?_, ?_, ?_, ?_, ?_, ?_, ?_, ?_, ?_, ?_, ?_, ?_, ?_, ?_, ?_, ?_, ?_, ?_, ?_, ?_, ?_, trivial⟩
          · exact fix_val (by rfl) (fun W hW => by obtain ⟨d0, d1, d2, d3, d4, e0, e1, e2, e3, e4⟩ := HKC.out W hW; go_simp; (try with_reducible rfl); (try omega))
          · exact fix_val (by rfl) (fun W hW => by obtain ⟨d0, d1, d2, d3, d4, e0, e1, e2, e3, e4⟩ := HKC.out W hW; go_simp; (try with_reducible rfl); (try omega))
          · exact fix_val (by rfl) (fun W hW => by obtain ⟨d0, d1, d2, d3, d4, e0, e1, e2, e3, e4⟩ := HKC.out W hW; go_simp; (try with_reducible rfl); (try omega))
          · exact fix_val (by rfl) (fun W hW => by obtain ⟨d0, d1, d2, d3, d4, e0, e1, e2, e3, e4⟩ := HKC.out W hW; go_simp; (try with_reducible rfl); (try omega))
          · exact fix_val (by rfl) (fun W hW => by obtain ⟨d0, d1, d2, d3, d4, e0, e1, e2, e3, e4⟩ := HKC.out W hW; go_simp; (try with_reducible rfl); (try omega))
          · exact fix_val (by rfl) (fun W hW => by obtain ⟨d0, d1, d2, d3, d4, e0, e1, e2, e3, e4⟩ := HKC.out W hW; go_simp; (try with_reducible rfl); (try omega))
          · exact fix_val (by rfl) (fun W hW => by obtain ⟨d0, d1, d2, d3, d4, e0, e1, e2, e3, e4⟩ := HKC.out W hW; go_simp; (try with_reducible rfl); (try omega))
          · exact fix_call (vs := [.agg #[.int .u8 (fl1 : Nat), .int .u16 (st1 : Nat), .int .u16 (ss1 : Nat), .int .u32 (pp1 : Nat), .slice a1 n1 c1]]) (by rfl) rfl (by rfl) Try.func43 (by rfl) (by rfl) (fun W hW => by exact (HF1.out W).mono (fun e V h => ⟨h.1, hW.trans (h.2.mono hW.size)⟩))
          · exact fix_val (by rfl) (fun W hW => by obtain ⟨d0, d1, d2, d3, d4, e0, e1, e2, e3, e4⟩ := HKC.out W hW; go_simp; (try with_reducible rfl); (try omega))
          · exact fix_call (vs := [.agg #[.int .u8 (fl2 : Nat), .int .u16 (st1 : Nat), .int .u16 (ss2 : Nat), .int .u32 (pp2 : Nat), .slice a2 n2 c2]]) (by rfl) rfl (by rfl) Try.func43 (by rfl) (by rfl) (fun W hW => by exact (HF2.out W).mono (fun e V h => ⟨h.1, hW.trans (h.2.mono hW.size)⟩))
          · exact fix_val (by rfl) (fun W hW => by obtain ⟨d0, d1, d2, d3, d4, e0, e1, e2, e3, e4⟩ := HKC.out W hW; go_simp; (try with_reducible rfl); (try omega))
          · exact fix_val (by rfl) (fun W hW => by obtain ⟨d0, d1, d2, d3, d4, e0, e1, e2, e3, e4⟩ := HKC.out W hW; go_simp; (try with_reducible rfl); (try omega))
          · exact fix_val (by rfl) (fun W hW => by obtain ⟨d0, d1, d2, d3, d4, e0, e1, e2, e3, e4⟩ := HKC.out W hW; go_simp; (try with_reducible rfl); (try omega))
          · exact fix_off (by rfl) (fun d hd => by cases hd; rfl)
          · exact fix_off (by rfl) (fun d hd => by cases hd; rfl)
          · exact fix_off (by rfl) (fun d hd => by cases hd; rfl)
          · exact fix_off (by rfl) (fun d hd => by cases hd; rfl)
          · exact fix_off (by rfl) (fun d hd => by cases hd; rfl)
          · exact fix_off (by rfl) (fun d hd => by cases hd; rfl)
          · exact fix_off (by rfl) (fun d hd => by cases hd; rfl)
          · exact fix_off (by rfl) (fun d hd => by cases hd; rfl)
          · exact fix_off (by rfl) (fun d hd => by cases hd; rfl)
          · exact fix_val (by rfl) (fun W hW => by obtain ⟨d0, d1, d2, d3, d4, e0, e1, e2, e3, e4⟩ := HKC.out W hW; go_simp; (try with_reducible rfl); (try omega))
          · exact fix_val (by rfl) (fun W hW => by obtain ⟨d0, d1, d2, d3, d4, e0, e1, e2, e3, e4⟩ := HKC.out W hW; go_simp; (try with_reducible rfl); (try omega))
        case he3 =>
        intro V hV
        have HV := (show Hid _ from hV)
        clear hV
        go_wp2
        go_ret
        exact ⟨by simp, HB.out.trans (HV.out.mono HB.out.size)⟩
      | false =>
        by_cases hss : ss1 = ss2
        · subst hss
          obtain ⟨W0, hW0⟩ : ∃ W0, W0 = (w.alloc (.cells #[.int .u8 (fl1 : Nat), .int .u16 (st1 : Nat), .int .u16 (ss1 : Nat), .int .u32 (pp1 : Nat), .slice a1 n1 c1] 79)).alloc (.cells #[.int .u8 (fl2 : Nat), .int .u16 (st1 : Nat), .int .u16 (ss1 : Nat), .int .u32 (pp2 : Nat), .slice a2 n2 c2] 79) := ⟨_, rfl⟩
          have HB : Hid (Below w.heap.size w W0.drew) := by
            show Below _ _ _
            rw [hW0]
            exact (((Below.refl _ _).alloc (Nat.le_refl _) _).alloc (by simp) _).drew
          have HKC : Hid (∀ V, Below W0.drew.heap.size W0.drew V → V.cell? ⟨w.heap.size, 0, none⟩ = some (.int .u8 (fl1 : Nat)) ∧ V.cell? ⟨w.heap.size, 1, none⟩ = some (.int .u16 (st1 : Nat)) ∧ V.cell? ⟨w.heap.size, 2, none⟩ = some (.int .u16 (ss1 : Nat)) ∧ V.cell? ⟨w.heap.size, 3, none⟩ = some (.int .u32 (pp1 : Nat)) ∧ V.cell? ⟨w.heap.size, 4, none⟩ = some (.slice a1 n1 c1) ∧ V.cell? ⟨w.heap.size + 1, 0, none⟩ = some (.int .u8 (fl2 : Nat)) ∧ V.cell? ⟨w.heap.size + 1, 1, none⟩ = some (.int .u16 (st1 : Nat)) ∧ V.cell? ⟨w.heap.size + 1, 2, none⟩ = some (.int .u16 (ss1 : Nat)) ∧ V.cell? ⟨w.heap.size + 1, 3, none⟩ = some (.int .u32 (pp2 : Nat)) ∧ V.cell? ⟨w.heap.size + 1, 4, none⟩ = some (.slice a2 n2 c2)) := by
            intro V hV
            have s1 := ((Stc.new w [.int .u8 (fl1 : Nat), .int .u16 (st1 : Nat), .int .u16 (ss1 : Nat), .int .u32 (pp1 : Nat), .slice a1 n1 c1] 79 _ rfl).below (w' := W0) (by rw [hW0]; exact (Below.refl _ _).alloc (Nat.le_refl _) _)).below ((Below.refl _ _).drew.trans (hV.mono (Below.refl 0 W0).drew.size))
            have s2 := (Stc.new (w.alloc (.cells #[.int .u8 (fl1 : Nat), .int .u16 (st1 : Nat), .int .u16 (ss1 : Nat), .int .u32 (pp1 : Nat), .slice a1 n1 c1] 79)) [.int .u8 (fl2 : Nat), .int .u16 (st1 : Nat), .int .u16 (ss1 : Nat), .int .u32 (pp2 : Nat), .slice a2 n2 c2] 79 W0 hW0).below ((Below.refl _ _).drew.trans (hV.mono (Below.refl 0 W0).drew.size))
            rw [show (w.alloc (.cells #[.int .u8 (fl1 : Nat), .int .u16 (st1 : Nat), .int .u16 (ss1 : Nat), .int .u32 (pp1 : Nat), .slice a1 n1 c1] 79)).heap.size = w.heap.size + 1 by simp] at s2
            exact ⟨s1.cell 0 _ rfl, s1.cell 1 _ rfl, s1.cell 2 _ rfl, s1.cell 3 _ rfl, s1.cell 4 _ rfl, s2.cell 0 _ rfl, s2.cell 1 _ rfl, s2.cell 2 _ rfl, s2.cell 3 _ rfl, s2.cell 4 _ rfl⟩
          go_enter Try.func58, Try.ntmps58
          go_wp2_with fail
          rw [← hW0]
          clear hW0
          refine wp_region_fixW mixedX (fun V => Below W0.drew.heap.size W0.drew V) [(5, .pointer (some ⟨w.heap.size, 1, none⟩)), (6, .int .u16 (st1 : Nat)), (7, .pointer (some ⟨w.heap.size + 1, 1, none⟩)), (8, .int .u16 (st1 : Nat)), (9, .bool true), (10, .bool true), (11, .agg #[.int .u8 (fl1 : Nat), .int .u16 (st1 : Nat), .int .u16 (ss1 : Nat), .int .u32 (pp1 : Nat), .slice a1 n1 c1]), (12, .bool false), (13, .agg #[.int .u8 (fl2 : Nat), .int .u16 (st1 : Nat), .int .u16 (ss1 : Nat), .int .u32 (pp2 : Nat), .slice a2 n2 c2]), (14, .bool false), (15, .bool true), (16, .bool true), (17, .bool true), (18, .agg #[.int .u8 (fl1 : Nat), .int .u16 (st1 : Nat), .int .u16 (ss1 : Nat), .int .u32 (pp1 : Nat), .slice a1 n1 c1]), (19, .bool false), (20, .bool false), (21, .pointer (some ⟨w.heap.size, 2, none⟩)), (22, .int .u16 (ss1 : Nat)), (23, .pointer (some ⟨w.heap.size + 1, 2, none⟩)), (24, .int .u16 (ss1 : Nat)), (25, .bool true), (26, .bool true), (27, .bool true), (4, .bool true)] ?Z4 ?hZ4 (by kernel_rfl) (by kernel_rfl) (by kernel_rfl) (by kernel_rfl) ?h04 ?hops4 ?he4
          case hZ4 => simp only [List.foldl_cons, List.foldl_nil, List.setIfInBounds_toArray, List.set_cons_zero, List.set_cons_succ]; rfl
          case h04 => exact Below.refl _ _
          case hops4 =>
            refine ⟨?_, ?_, ?_, ?_, ?_, ?_, ?_, ?_, ?_, ?_, ?_, ?_, ?_, ?_, ?_, ?_, ?_, ?_, ?_, ?_, ?_, ?_, ?_, ?_, trivial⟩
            · exact fix_val (by rfl) (fun W hW => by obtain ⟨d0, d1, d2, d3, d4, e0, e1, e2, e3, e4⟩ := HKC.out W hW; go_simp; (try with_reducible rfl); (try omega))
            · exact fix_val (by rfl) (fun W hW => by obtain ⟨d0, d1, d2, d3, d4, e0, e1, e2, e3, e4⟩ := HKC.out W hW; go_simp; (try with_reducible rfl); (try omega))
            · exact fix_val (by rfl) (fun W hW => by obtain ⟨d0, d1, d2, d3, d4, e0, e1, e2, e3, e4⟩ := HKC.out W hW; go_simp; (try with_reducible rfl); (try omega))
            · exact fix_val (by rfl) (fun W hW => by obtain ⟨d0, d1, d2, d3, d4, e0, e1, e2, e3, e4⟩ := HKC.out W hW; go_simp; (try with_reducible rfl); (try omega))
            · exact fix_val (by rfl) (fun W hW => by obtain ⟨d0, d1, d2, d3, d4, e0, e1, e2, e3, e4⟩ := HKC.out W hW; go_simp; (try with_reducible rfl); (try omega))
            · exact fix_val (by rfl) (fun W hW => by obtain ⟨d0, d1, d2, d3, d4, e0, e1, e2, e3, e4⟩ := HKC.out W hW; go_simp; (try with_reducible rfl); (try omega))
            · exact fix_val (by rfl) (fun W hW => by obtain ⟨d0, d1, d2, d3, d4, e0, e1, e2, e3, e4⟩ := HKC.out W hW; go_simp; (try with_reducible rfl); (try omega))
            · exact fix_call (vs := [.agg #[.int .u8 (fl1 : Nat), .int .u16 (st1 : Nat), .int .u16 (ss1 : Nat), .int .u32 (pp1 : Nat), .slice a1 n1 c1]]) (by rfl) rfl (by rfl) Try.func43 (by rfl) (by rfl) (fun W hW => by exact (HF1.out W).mono (fun e V h => ⟨h.1, hW.trans (h.2.mono hW.size)⟩))
            · exact fix_val (by rfl) (fun W hW => by obtain ⟨d0, d1, d2, d3, d4, e0, e1, e2, e3, e4⟩ := HKC.out W hW; go_simp; (try with_reducible rfl); (try omega))
            · exact fix_call (vs := [.agg #[.int .u8 (fl2 : Nat), .int .u16 (st1 : Nat), .int .u16 (ss1 : Nat), .int .u32 (pp2 : Nat), .slice a2 n2 c2]]) (by rfl) rfl (by rfl) Try.func43 (by rfl) (by rfl) (fun W hW => by exact (HF2.out W).mono (fun e V h => ⟨h.1, hW.trans (h.2.mono hW.size)⟩))
            · exact fix_val (by rfl) (fun W hW => by obtain ⟨d0, d1, d2, d3, d4, e0, e1, e2, e3, e4⟩ := HKC.out W hW; go_simp; (try with_reducible rfl); (try omega))
            · exact fix_val (by rfl) (fun W hW => by obtain ⟨d0, d1, d2, d3, d4, e0, e1, e2, e3, e4⟩ := HKC.out W hW; go_simp; (try with_reducible rfl); (try omega))
            · exact fix_val (by rfl) (fun W hW => by obtain ⟨d0, d1, d2, d3, d4, e0, e1, e2, e3, e4⟩ := HKC.out W hW; go_simp; (try with_reducible rfl); (try omega))
            · exact fix_val (by rfl) (fun W hW => by obtain ⟨d0, d1, d2, d3, d4, e0, e1, e2, e3, e4⟩ := HKC.out W hW; go_simp; (try with_reducible rfl); (try omega))
            · exact fix_call (vs := [.agg #[.int .u8 (fl1 : Nat), .int .u16 (st1 : Nat), .int .u16 (ss1 : Nat), .int .u32 (pp1 : Nat), .slice a1 n1 c1]]) (by rfl) rfl (by rfl) Try.func43 (by rfl) (by rfl) (fun W hW => by exact (HF1.out W).mono (fun e V h => ⟨h.1, hW.trans (h.2.mono hW.size)⟩))
            · exact fix_val (by rfl) (fun W hW => by obtain ⟨d0, d1, d2, d3, d4, e0, e1, e2, e3, e4⟩ := HKC.out W hW; go_simp; (try with_reducible rfl); (try omega))
            · exact fix_val (by rfl) (fun W hW => by obtain ⟨d0, d1, d2, d3, d4, e0, e1, e2, e3, e4⟩ := HKC.out W hW; go_simp; (try with_reducible rfl); (try omega))
            · exact fix_val (by rfl) (fun W hW => by obtain ⟨d0, d1, d2, d3, d4, e0, e1, e2, e3, e4⟩ := HKC.out W hW; go_simp; (try with_reducible rfl); (try omega))
            · exact fix_val (by rfl) (fun W hW => by obtain ⟨d0, d1, d2, d3, d4, e0, e1, e2, e3, e4⟩ := HKC.out W hW; go_simp; (try with_reducible rfl); (try omega))
            · exact fix_val (by rfl) (fun W hW => by obtain ⟨d0, d1, d2, d3, d4, e0, e1, e2, e3, e4⟩ := HKC.out W hW; go_simp; (try with_reducible rfl); (try omega))
            · exact fix_val (by rfl) (fun W hW => by obtain ⟨d0, d1, d2, d3, d4, e0, e1, e2, e3, e4⟩ := HKC.out W hW; go_simp; (try with_reducible rfl); (try omega))
            · exact fix_val (by rfl) (fun W hW => by obtain ⟨d0, d1, d2, d3, d4, e0, e1, e2, e3, e4⟩ := HKC.out W hW; go_simp; (try with_reducible rfl); (try omega))
            · exact fix_val (by rfl) (fun W hW => by obtain ⟨d0, d1, d2, d3, d4, e0, e1, e2, e3, e4⟩ := HKC.out W hW; go_simp; (try with_reducible rfl); (try omega))
            · exact fix_val (by rfl) (fun W hW => by obtain ⟨d0, d1, d2, d3, d4, e0, e1, e2, e3, e4⟩ := HKC.out W hW; go_simp; (try with_reducible rfl); (try omega))
          case he4 =>
          intro V hV
          have HV := (show Hid _ from hV)
          clear hV
          go_wp2
          go_ret
          exact ⟨by simp, HB.out.trans (HV.out.mono HB.out.size)⟩
        · have hne : ¬ ((ss1 : Nat) : Int) = (ss2 : Nat) := by omega
          have hnb : (((ss1 : Nat) : Int) == (ss2 : Nat)) = false := by simp; omega
          obtain ⟨W0, hW0⟩ : ∃ W0, W0 = (w.alloc (.cells #[.int .u8 (fl1 : Nat), .int .u16 (st1 : Nat), .int .u16 (ss1 : Nat), .int .u32 (pp1 : Nat), .slice a1 n1 c1] 79)).alloc (.cells #[.int .u8 (fl2 : Nat), .int .u16 (st1 : Nat), .int .u16 (ss2 : Nat), .int .u32 (pp2 : Nat), .slice a2 n2 c2] 79) := ⟨_, rfl⟩
          have HB : Hid (Below w.heap.size w W0.drew) := by
            show Below _ _ _
            rw [hW0]
            exact (((Below.refl _ _).alloc (Nat.le_refl _) _).alloc (by simp) _).drew
          have HKC : Hid (∀ V, Below W0.drew.heap.size W0.drew V → V.cell? ⟨w.heap.size, 0, none⟩ = some (.int .u8 (fl1 : Nat)) ∧ V.cell? ⟨w.heap.size, 1, none⟩ = some (.int .u16 (st1 : Nat)) ∧ V.cell? ⟨w.heap.size, 2, none⟩ = some (.int .u16 (ss1 : Nat)) ∧ V.cell? ⟨w.heap.size, 3, none⟩ = some (.int .u32 (pp1 : Nat)) ∧ V.cell? ⟨w.heap.size, 4, none⟩ = some (.slice a1 n1 c1) ∧ V.cell? ⟨w.heap.size + 1, 0, none⟩ = some (.int .u8 (fl2 : Nat)) ∧ V.cell? ⟨w.heap.size + 1, 1, none⟩ = some (.int .u16 (st1 : Nat)) ∧ V.cell? ⟨w.heap.size + 1, 2, none⟩ = some (.int .u16 (ss2 : Nat)) ∧ V.cell? ⟨w.heap.size + 1, 3, none⟩ = some (.int .u32 (pp2 : Nat)) ∧ V.cell? ⟨w.heap.size + 1, 4, none⟩ = some (.slice a2 n2 c2)) := by
            intro V hV
            have s1 := ((Stc.new w [.int .u8 (fl1 : Nat), .int .u16 (st1 : Nat), .int .u16 (ss1 : Nat), .int .u32 (pp1 : Nat), .slice a1 n1 c1] 79 _ rfl).below (w' := W0) (by rw [hW0]; exact (Below.refl _ _).alloc (Nat.le_refl _) _)).below ((Below.refl _ _).drew.trans (hV.mono (Below.refl 0 W0).drew.size))
            have s2 := (Stc.new (w.alloc (.cells #[.int .u8 (fl1 : Nat), .int .u16 (st1 : Nat), .int .u16 (ss1 : Nat), .int .u32 (pp1 : Nat), .slice a1 n1 c1] 79)) [.int .u8 (fl2 : Nat), .int .u16 (st1 : Nat), .int .u16 (ss2 : Nat), .int .u32 (pp2 : Nat), .slice a2 n2 c2] 79 W0 hW0).below ((Below.refl _ _).drew.trans (hV.mono (Below.refl 0 W0).drew.size))
            rw [show (w.alloc (.cells #[.int .u8 (fl1 : Nat), .int .u16 (st1 : Nat), .int .u16 (ss1 : Nat), .int .u32 (pp1 : Nat), .slice a1 n1 c1] 79)).heap.size = w.heap.size + 1 by simp] at s2
            exact ⟨s1.cell 0 _ rfl, s1.cell 1 _ rfl, s1.cell 2 _ rfl, s1.cell 3 _ rfl, s1.cell 4 _ rfl, s2.cell 0 _ rfl, s2.cell 1 _ rfl, s2.cell 2 _ rfl, s2.cell 3 _ rfl, s2.cell 4 _ rfl⟩
          go_enter Try.func58, Try.ntmps58
          go_wp2_with fail
          rw [← hW0]
          clear hW0
          refine wp_region_fixW mixedX (fun V => Below W0.drew.heap.size W0.drew V) [(5, .pointer (some ⟨w.heap.size, 1, none⟩)), (6, .int .u16 (st1 : Nat)), (7, .pointer (some ⟨w.heap.size + 1, 1, none⟩)), (8, .int .u16 (st1 : Nat)), (9, .bool true), (10, .bool true), (11, .agg #[.int .u8 (fl1 : Nat), .int .u16 (st1 : Nat), .int .u16 (ss1 : Nat), .int .u32 (pp1 : Nat), .slice a1 n1 c1]), (12, .bool false), (13, .agg #[.int .u8 (fl2 : Nat), .int .u16 (st1 : Nat), .int .u16 (ss2 : Nat), .int .u32 (pp2 : Nat), .slice a2 n2 c2]), (14, .bool false), (15, .bool true), (16, .bool true), (17, .bool true), (18, .agg #[.int .u8 (fl1 : Nat), .int .u16 (st1 : Nat), .int .u16 (ss1 : Nat), .int .u32 (pp1 : Nat), .slice a1 n1 c1]), (19, .bool false), (20, .bool false), (21, .pointer (some ⟨w.heap.size, 2, none⟩)), (22, .int .u16 (ss1 : Nat)), (23, .pointer (some ⟨w.heap.size + 1, 2, none⟩)), (24, .int .u16 (ss2 : Nat)), (25, .bool false), (26, .bool false), (27, .bool false), (4, .bool false)] ?Z5 ?hZ5 (by kernel_rfl) (by kernel_rfl) (by kernel_rfl) (by kernel_rfl) ?h05 ?hops5 ?he5
          case hZ5 => simp only [List.foldl_cons, List.foldl_nil, List.setIfInBounds_toArray, List.set_cons_zero, List.set_cons_succ]; rfl
          case h05 => exact Below.refl _ _
          case hops5 =>
            refine ⟨?_, ?_, ?_, ?_, ?_, ?_, ?_, ?_, ?_, ?_, ?_, ?_, ?_, ?_, ?_, ?_, ?_, ?_, ?_, ?_, ?_, ?_, ?_, ?_, trivial⟩
            · exact fix_val (by rfl) (fun W hW => by obtain ⟨d0, d1, d2, d3, d4, e0, e1, e2, e3, e4⟩ := HKC.out W hW; go_simp; (try with_reducible rfl); (try omega))
            · exact fix_val (by rfl) (fun W hW => by obtain ⟨d0, d1, d2, d3, d4, e0, e1, e2, e3, e4⟩ := HKC.out W hW; go_simp; (try with_reducible rfl); (try omega))
            · exact fix_val (by rfl) (fun W hW => by obtain ⟨d0, d1, d2, d3, d4, e0, e1, e2, e3, e4⟩ := HKC.out W hW; go_simp; (try with_reducible rfl); (try omega))
            · exact fix_val (by rfl) (fun W hW => by obtain ⟨d0, d1, d2, d3, d4, e0, e1, e2, e3, e4⟩ := HKC.out W hW; go_simp; (try with_reducible rfl); (try omega))
            · exact fix_val (by rfl) (fun W hW => by obtain ⟨d0, d1, d2, d3, d4, e0, e1, e2, e3, e4⟩ := HKC.out W hW; go_simp; (try with_reducible rfl); (try omega))
            · exact fix_val (by rfl) (fun W hW => by obtain ⟨d0, d1, d2, d3, d4, e0, e1, e2, e3, e4⟩ := HKC.out W hW; go_simp; (try with_reducible rfl); (try omega))
            · exact fix_val (by rfl) (fun W hW => by obtain ⟨d0, d1, d2, d3, d4, e0, e1, e2, e3, e4⟩ := HKC.out W hW; go_simp; (try with_reducible rfl); (try omega))
            · exact fix_call (vs := [.agg #[.int .u8 (fl1 : Nat), .int .u16 (st1 : Nat), .int .u16 (ss1 : Nat), .int .u32 (pp1 : Nat), .slice a1 n1 c1]]) (by rfl) rfl (by rfl) Try.func43 (by rfl) (by rfl) (fun W hW => by exact (HF1.out W).mono (fun e V h => ⟨h.1, hW.trans (h.2.mono hW.size)⟩))
            · exact fix_val (by rfl) (fun W hW => by obtain ⟨d0, d1, d2, d3, d4, e0, e1, e2, e3, e4⟩ := HKC.out W hW; go_simp; (try with_reducible rfl); (try omega))
            · exact fix_call (vs := [.agg #[.int .u8 (fl2 : Nat), .int .u16 (st1 : Nat), .int .u16 (ss2 : Nat), .int .u32 (pp2 : Nat), .slice a2 n2 c2]]) (by rfl) rfl (by rfl) Try.func43 (by rfl) (by rfl) (fun W hW => by exact (HF2.out W).mono (fun e V h => ⟨h.1, hW.trans (h.2.mono hW.size)⟩))
            · exact fix_val (by rfl) (fun W hW => by obtain ⟨d0, d1, d2, d3, d4, e0, e1, e2, e3, e4⟩ := HKC.out W hW; go_simp; (try with_reducible rfl); (try omega))
            · exact fix_val (by rfl) (fun W hW => by obtain ⟨d0, d1, d2, d3, d4, e0, e1, e2, e3, e4⟩ := HKC.out W hW; go_simp; (try with_reducible rfl); (try omega))
            · exact fix_val (by rfl) (fun W hW => by obtain ⟨d0, d1, d2, d3, d4, e0, e1, e2, e3, e4⟩ := HKC.out W hW; go_simp; (try with_reducible rfl); (try omega))
            · exact fix_val (by rfl) (fun W hW => by obtain ⟨d0, d1, d2, d3, d4, e0, e1, e2, e3, e4⟩ := HKC.out W hW; go_simp; (try with_reducible rfl); (try omega))
            · exact fix_call (vs := [.agg #[.int .u8 (fl1 : Nat), .int .u16 (st1 : Nat), .int .u16 (ss1 : Nat), .int .u32 (pp1 : Nat), .slice a1 n1 c1]]) (by rfl) rfl (by rfl) Try.func43 (by rfl) (by rfl) (fun W hW => by exact (HF1.out W).mono (fun e V h => ⟨h.1, hW.trans (h.2.mono hW.size)⟩))
            · exact fix_val (by rfl) (fun W hW => by obtain ⟨d0, d1, d2, d3, d4, e0, e1, e2, e3, e4⟩ := HKC.out W hW; go_simp; (try with_reducible rfl); (try omega))
            · exact fix_val (by rfl) (fun W hW => by obtain ⟨d0, d1, d2, d3, d4, e0, e1, e2, e3, e4⟩ := HKC.out W hW; go_simp; (try with_reducible rfl); (try omega))
            · exact fix_val (by rfl) (fun W hW => by obtain ⟨d0, d1, d2, d3, d4, e0, e1, e2, e3, e4⟩ := HKC.out W hW; go_simp; (try with_reducible rfl); (try omega))
            · exact fix_val (by rfl) (fun W hW => by obtain ⟨d0, d1, d2, d3, d4, e0, e1, e2, e3, e4⟩ := HKC.out W hW; go_simp; (try with_reducible rfl); (try omega))
            · exact fix_val (by rfl) (fun W hW => by obtain ⟨d0, d1, d2, d3, d4, e0, e1, e2, e3, e4⟩ := HKC.out W hW; go_simp; (try with_reducible rfl); (try omega))
            · exact fix_val (by rfl) (fun W hW => by obtain ⟨d0, d1, d2, d3, d4, e0, e1, e2, e3, e4⟩ := HKC.out W hW; go_simp; (try with_reducible rfl); (try omega))
            · exact fix_val (by rfl) (fun W hW => by obtain ⟨d0, d1, d2, d3, d4, e0, e1, e2, e3, e4⟩ := HKC.out W hW; go_simp; (try with_reducible rfl); (try omega))
            · exact fix_val (by rfl) (fun W hW => by obtain ⟨d0, d1, d2, d3, d4, e0, e1, e2, e3, e4⟩ := HKC.out W hW; go_simp; (try with_reducible rfl); (try omega))
            · exact fix_val (by rfl) (fun W hW => by obtain ⟨d0, d1, d2, d3, d4, e0, e1, e2, e3, e4⟩ := HKC.out W hW; go_simp; (try with_reducible rfl); (try omega))
          case he5 =>
          intro V hV
          have HV := (show Hid _ from hV)
          clear hV
          go_wp2
          go_ret
          exact ⟨by simp [hss], HB.out.trans (HV.out.mono HB.out.size)⟩
  · have hne : ¬ ((st1 : Nat) : Int) = (st2 : Nat) := by omega
    have hnb : (((st1 : Nat) : Int) == (st2 : Nat)) = false := by simp; omega
    obtain ⟨W0, hW0⟩ : ∃ W0, W0 = (w.alloc (.cells #[.int .u8 (fl1 : Nat), .int .u16 (st1 : Nat), .int .u16 (ss1 : Nat), .int .u32 (pp1 : Nat), .slice a1 n1 c1] 79)).alloc (.cells #[.int .u8 (fl2 : Nat), .int .u16 (st2 : Nat), .int .u16 (ss2 : Nat), .int .u32 (pp2 : Nat), .slice a2 n2 c2] 79) := ⟨_, rfl⟩
    have HB : Hid (Below w.heap.size w W0.drew) := by
      show Below _ _ _
      rw [hW0]
      exact (((Below.refl _ _).alloc (Nat.le_refl _) _).alloc (by simp) _).drew
    have HKC : Hid (∀ V, Below W0.drew.heap.size W0.drew V → V.cell? ⟨w.heap.size, 0, none⟩ = some (.int .u8 (fl1 : Nat)) ∧ V.cell? ⟨w.heap.size, 1, none⟩ = some (.int .u16 (st1 : Nat)) ∧ V.cell? ⟨w.heap.size, 2, none⟩ = some (.int .u16 (ss1 : Nat)) ∧ V.cell? ⟨w.heap.size, 3, none⟩ = some (.int .u32 (pp1 : Nat)) ∧ V.cell? ⟨w.heap.size, 4, none⟩ = some (.slice a1 n1 c1) ∧ V.cell? ⟨w.heap.size + 1, 0, none⟩ = some (.int .u8 (fl2 : Nat)) ∧ V.cell? ⟨w.heap.size + 1, 1, none⟩ = some (.int .u16 (st2 : Nat)) ∧ V.cell? ⟨w.heap.size + 1, 2, none⟩ = some (.int .u16 (ss2 : Nat)) ∧ V.cell? ⟨w.heap.size + 1, 3, none⟩ = some (.int .u32 (pp2 : Nat)) ∧ V.cell? ⟨w.heap.size + 1, 4, none⟩ = some (.slice a2 n2 c2)) := by
      intro V hV
      have s1 := ((Stc.new w [.int .u8 (fl1 : Nat), .int .u16 (st1 : Nat), .int .u16 (ss1 : Nat), .int .u32 (pp1 : Nat), .slice a1 n1 c1] 79 _ rfl).below (w' := W0) (by rw [hW0]; exact (Below.refl _ _).alloc (Nat.le_refl _) _)).below ((Below.refl _ _).drew.trans (hV.mono (Below.refl 0 W0).drew.size))
      have s2 := (Stc.new (w.alloc (.cells #[.int .u8 (fl1 : Nat), .int .u16 (st1 : Nat), .int .u16 (ss1 : Nat), .int .u32 (pp1 : Nat), .slice a1 n1 c1] 79)) [.int .u8 (fl2 : Nat), .int .u16 (st2 : Nat), .int .u16 (ss2 : Nat), .int .u32 (pp2 : Nat), .slice a2 n2 c2] 79 W0 hW0).below ((Below.refl _ _).drew.trans (hV.mono (Below.refl 0 W0).drew.size))
      rw [show (w.alloc (.cells #[.int .u8 (fl1 : Nat), .int .u16 (st1 : Nat), .int .u16 (ss1 : Nat), .int .u32 (pp1 : Nat), .slice a1 n1 c1] 79)).heap.size = w.heap.size + 1 by simp] at s2
      exact ⟨s1.cell 0 _ rfl, s1.cell 1 _ rfl, s1.cell 2 _ rfl, s1.cell 3 _ rfl, s1.cell 4 _ rfl, s2.cell 0 _ rfl, s2.cell 1 _ rfl, s2.cell 2 _ rfl, s2.cell 3 _ rfl, s2.cell 4 _ rfl⟩
    go_enter Try.func58, Try.ntmps58
    go_wp2_with fail
    rw [← hW0]
    clear hW0
    refine wp_region_fixW mixedX (fun V => Below W0.drew.heap.size W0.drew V) [(5, .pointer (some ⟨w.heap.size, 1, none⟩)), (6, .int .u16 (st1 : Nat)), (7, .pointer (some ⟨w.heap.size + 1, 1, none⟩)), (8, .int .u16 (st2 : Nat)), (9, .bool false), (10, .bool false), (11, undef), (12, undef), (13, undef), (14, undef), (15, undef), (16, .bool false), (17, .bool false), (18, undef), (19, undef), (20, undef), (21, undef), (22, undef), (23, undef), (24, undef), (25, undef), (26, undef), (27, .bool false), (4, .bool false)] ?Z6 ?hZ6 (by kernel_rfl) (by kernel_rfl) (by kernel_rfl) (by kernel_rfl) ?h06 ?hops6 ?he6
    case hZ6 => simp only [List.foldl_cons, List.foldl_nil, List.setIfInBounds_toArray, List.set_cons_zero, List.set_cons_succ]; rfl
    case h06 => exact Below.refl _ _
    case hops6 =>
      refine ⟨?_, ?_, ?_, ?_, ?_, ?_, ?_, ?_, ?_, ?_, ?_, ?_, ?_, ?_, ?_, ?_, ?_, ?_, ?_, ?_, ?_, ?_, ?_, ?_, trivial⟩
      · exact fix_val (by rfl) (fun W hW => by obtain ⟨d0, d1, d2, d3, d4, e0, e1, e2, e3, e4⟩ := HKC.out W hW; go_simp; (try with_reducible rfl); (try omega))
      · exact fix_val (by rfl) (fun W hW => by obtain ⟨d0, d1, d2, d3, d4, e0, e1, e2, e3, e4⟩ := HKC.out W hW; go_simp; (try with_reducible rfl); (try omega))
      · exact fix_val (by rfl) (fun W hW => by obtain ⟨d0, d1, d2, d3, d4, e0, e1, e2, e3, e4⟩ := HKC.out W hW; go_simp; (try with_reducible rfl); (try omega))
      · exact fix_val (by rfl) (fun W hW => by obtain ⟨d0, d1, d2, d3, d4, e0, e1, e2, e3, e4⟩ := HKC.out W hW; go_simp; (try with_reducible rfl); (try omega))
      · exact fix_val (by rfl) (fun W hW => by obtain ⟨d0, d1, d2, d3, d4, e0, e1, e2, e3, e4⟩ := HKC.out W hW; go_simp; (try with_reducible rfl); (try omega))
      · exact fix_val (by rfl) (fun W hW => by obtain ⟨d0, d1, d2, d3, d4, e0, e1, e2, e3, e4⟩ := HKC.out W hW; go_simp; (try with_reducible rfl); (try omega))
      · exact fix_off (by rfl) (fun d hd => by cases hd; rfl)
      · exact fix_off (by rfl) (fun d hd => by cases hd; rfl)
      · exact fix_off (by rfl) (fun d hd => by cases hd; rfl)
      · exact fix_off (by rfl) (fun d hd => by cases hd; rfl)
      · exact fix_off (by rfl) (fun d hd => by cases hd; rfl)
      · exact fix_val (by rfl) (fun W hW => by obtain ⟨d0, d1, d2, d3, d4, e0, e1, e2, e3, e4⟩ := HKC.out W hW; go_simp; (try with_reducible rfl); (try omega))
      · exact fix_val (by rfl) (fun W hW => by obtain ⟨d0, d1, d2, d3, d4, e0, e1, e2, e3, e4⟩ := HKC.out W hW; go_simp; (try with_reducible rfl); (try omega))
      · exact fix_off (by rfl) (fun d hd => by cases hd; rfl)
      · exact fix_off (by rfl) (fun d hd => by cases hd; rfl)
      · exact fix_off (by rfl) (fun d hd => by cases hd; rfl)
      · exact fix_off (by rfl) (fun d hd => by cases hd; rfl)
      · exact fix_off (by rfl) (fun d hd => by cases hd; rfl)
      · exact fix_off (by rfl) (fun d hd => by cases hd; rfl)
      · exact fix_off (by rfl) (fun d hd => by cases hd; rfl)
      · exact fix_off (by rfl) (fun d hd => by cases hd; rfl)
      · exact fix_off (by rfl) (fun d hd => by cases hd; rfl)
      · exact fix_val (by rfl) (fun W hW => by obtain ⟨d0, d1, d2, d3, d4, e0, e1, e2, e3, e4⟩ := HKC.out W hW; go_simp; (try with_reducible rfl); (try omega))
      · exact fix_val (by rfl) (fun W hW => by obtain ⟨d0, d1, d2, d3, d4, e0, e1, e2, e3, e4⟩ := HKC.out W hW; go_simp; (try with_reducible rfl); (try omega))
    case he6 =>
    intro V hV
    have HV := (show Hid _ from hV)
    clear hV
    go_wp2
    go_ret
    exact ⟨by simp [hst], HB.out.trans (HV.out.mono HB.out.size)⟩
end Go.Proofs.Ytjaheelgcjafcaa
namespace Go.Proofs.Ytjaheelgcjafcaa
open Go.RowKit
theorem addV_on (t : Nat) : addV 4294967296 t 1 = on1 t := by unfold addV on1; omega
theorem addV_bk (t : Nat) : addV 4294967296 t (-1) = bk1 t := by unfold addV bk1; omega
set_option linter.unusedVariables false in
set_option maxRecDepth 100000 in
set_option maxHeartbeats 2000000 in
theorem joins_any {w : World} {p nb mb wb : Nat} {wr : Nat → Option Addr × Nat} {Y : Nat → Prop} {s : SmS} (h : SmW w p nb mb wb wr Y s) (t : Nat) (ht : t < 4294967296) :
    Calls Try.prog 40 #[.pointer (some ⟨p, 0, none⟩), .int .u32 (t : Nat)] w fun e w' => e = .returned (.bool (joinsB s.D t)) ∧ Below w.heap.size w w' := by
  have hc1 := h.st.cell 1 _ rfl
  have hpl := h.st.lt
  have hr1 := h.look (Below.refl _ _) t ht true
  have hr2 : ∀ V, Below w.heap.size w V → _ := fun V hV => h.look hV (on1 t) (on1_lt t) true
  simp only [if_true] at hr1 hr2
  have HON : Hid (∀ V, Calls Try.prog 41 #[.int .u32 (t : Nat), .int .i64 1] V fun e w' => e = .returned (.int .u32 (on1 t : Nat)) ∧ Below V.heap.size V w') := fun V => by
    rw [← addV_on]
    exact onward_any t 1 V ht _ _ rfl rfl
  have HJ : Hid (joinsB s.D t = ((lookD s.D t).isSome && (lookD s.D (on1 t)).isSome && fitB (pcAt s.D t) (pcAt s.D (on1 t)) && !(pcAt s.D t).fin && !(pcAt s.D (on1 t)).beg)) := rfl
  have hx := h.pcOk t
  have hy := h.pcOk (on1 t)
  have HS := (show Hid _ from h.st)
  clear h
  generalize on1 t = u at *
  generalize pcAt s.D t = x at *
  generalize pcAt s.D u = y at *
  generalize (lookD s.D t).isSome = b1 at *
  generalize (lookD s.D u).isSome = b2 at *
  have HFT := (show Hid _ from fun W v z hv hz => fit_any x y W hx hy v z hv hz)
  have HEN := (show Hid _ from fun W v hv => ends_any x.fl (.int .u16 (x.st : Nat)) (.int .u16 (x.ss : Nat)) (.int .u32 (x.pp : Nat)) (.slice x.a x.n x.c) W hx.fl v hv)
  have HBG := (show Hid _ from fun W v hv => begins_any y.fl (.int .u16 (y.st : Nat)) (.int .u16 (y.ss : Nat)) (.int .u32 (y.pp : Nat)) (.slice y.a y.n y.c) W hy.fl v hv)
  rw [show joinsB s.D t = (b1 && b2 && fitB x y && !x.fin && !y.beg) from HJ.out]
  have HXY : Hid (x.fin = decide (x.fl % 2 = 1) ∧ y.beg = decide (y.fl / 2 % 2 = 1)) := ⟨rfl, rfl⟩
  rw [HXY.out.1, HXY.out.2]
  generalize fitB x y = r at *
  generalize decide (x.fl % 2 = 1) = r1 at *
  generalize decide (y.fl / 2 % 2 = 1) = r2 at *
  clear HXY HJ hx hy
  obtain ⟨fl1, st1, ss1, pp1, a1, n1, c1, z1⟩ := x
  obtain ⟨fl2, st2, ss2, pp2, a2, n2, c2, z2⟩ := y
  unfold Pc.val at hr1 hr2 HFT
  dsimp only at hr1 hr2 HFT HEN HBG
  obtain ⟨W1, hW1⟩ : ∃ W1, W1 = w.alloc (.cells #[.int .u8 (fl1 : Nat), .int .u16 (st1 : Nat), .int .u16 (ss1 : Nat), .int .u32 (pp1 : Nat), .slice a1 n1 c1] 79) := ⟨_, rfl⟩
  have HB1 : Hid (Below w.heap.size w W1) := by show Below _ _ _; rw [hW1]; exact (Below.refl _ _).alloc (Nat.le_refl _) _
  have HX : Hid (∀ V, Below W1.heap.size W1 V → Stc V w.heap.size [.int .u8 (fl1 : Nat), .int .u16 (st1 : Nat), .int .u16 (ss1 : Nat), .int .u32 (pp1 : Nat), .slice a1 n1 c1]) := fun V hV => (Stc.new w [.int .u8 (fl1 : Nat), .int .u16 (st1 : Nat), .int .u16 (ss1 : Nat), .int .u32 (pp1 : Nat), .slice a1 n1 c1] 79 W1 hW1).below hV
  have HKC : Hid (∀ V, Below W1.heap.size W1 V → V.cell? ⟨p, 1, none⟩ = some (.map (some mb)) ∧ (Instr.lookup 73 (.map (some mb)) (.int .u32 (u : Nat)) true).run Try.prog V = .ok (.tuple #[.agg #[.int .u8 (fl2 : Nat), .int .u16 (st2 : Nat), .int .u16 (ss2 : Nat), .int .u32 (pp2 : Nat), .slice a2 n2 c2], .bool b2]) V) := fun V hV => by
    have hw := HB1.out.trans (hV.mono HB1.out.size)
    exact ⟨(HS.out.below hw).cell 1 _ rfl, hr2 V hw⟩
  clear hr2
  go_enter Try.func40, Try.ntmps40
  go_wp2_with fail
  rw [← hW1]
  clear hW1
  refine wp_region_parW mixedX (fun θ : Nat => [(19, .pointer (some ⟨p, 0, none⟩)), (20, .pointer (some ⟨p, 0, none⟩)), (21, .pointer (some ⟨p, 1, none⟩)), (22, .map (some mb)), (23, .int .u32 (t : Nat)), (24, .int .u32 (u : Nat)), (25, .tuple #[.agg #[.int .u8 (fl2 : Nat), .int .u16 (st2 : Nat), .int .u16 (ss2 : Nat), .int .u32 (pp2 : Nat), .slice a2 n2 c2], .bool b2]), (18, .tuple #[.agg #[.int .u8 (fl2 : Nat), .int .u16 (st2 : Nat), .int .u16 (ss2 : Nat), .int .u32 (pp2 : Nat), .slice a2 n2 c2], .bool b2]), (26, .agg #[.int .u8 (fl2 : Nat), .int .u16 (st2 : Nat), .int .u16 (ss2 : Nat), .int .u32 (pp2 : Nat), .slice a2 n2 c2]), (27, .bool b2), (7, .pointer (some ⟨θ, 0, none⟩)), (8, .bool b2)]) (fun θ l V => RgC 10 11 W1 [.int .u8 0, .int .u16 0, .int .u16 0, .int .u32 0, .slice none 0 0] [.int .u8 (fl2 : Nat), .int .u16 (st2 : Nat), .int .u16 (ss2 : Nat), .int .u32 (pp2 : Nat), .slice a2 n2 c2] θ l V) 0 ?Z1 ?hZ1 (by kernel_rfl) (by kernel_rfl) (fun θ => by kernel_rfl) (by kernel_rfl) ?h01 ?hops1 ?he1
  case hZ1 => intro θ; simp only [List.foldl_cons, List.foldl_nil, List.setIfInBounds_toArray, List.set_cons_zero, List.set_cons_succ]; rfl
  case h01 => exact RgC.start (Below.refl _ _).drew
  case hops1 =>
    refine ⟨?_, ?_, ?_, ?_, ?_, ?_, ?_, ?_, ?_, ?_, ?_, ?_, ?_, trivial⟩
    · exact par_val (fun θ => by rfl) (fun θ l V hg => hg.other 0 (by decide) (by decide)) (fun θ l V hl hc hd hg => by have hB := hg.a4; obtain ⟨d0, d1⟩ := HKC.out V hB; go_simp; (try with_reducible rfl); (try omega))
    · exact par_val (fun θ => by rfl) (fun θ l V hg => hg.other 1 (by decide) (by decide)) (fun θ l V hl hc hd hg => by have hB := hg.a4; obtain ⟨d0, d1⟩ := HKC.out V hB; go_simp; (try with_reducible rfl); (try omega))
    · exact par_val (fun θ => by rfl) (fun θ l V hg => hg.other 2 (by decide) (by decide)) (fun θ l V hl hc hd hg => by have hB := hg.a4; obtain ⟨d0, d1⟩ := HKC.out V hB; go_simp; (try with_reducible rfl); (try omega))
    · exact par_val (fun θ => by rfl) (fun θ l V hg => hg.other 3 (by decide) (by decide)) (fun θ l V hl hc hd hg => by have hB := hg.a4; obtain ⟨d0, d1⟩ := HKC.out V hB; go_simp; (try with_reducible rfl); (try omega))
    · exact par_val (fun θ => by rfl) (fun θ l V hg => hg.other 4 (by decide) (by decide)) (fun θ l V hl hc hd hg => by have hB := hg.a4; obtain ⟨d0, d1⟩ := HKC.out V hB; go_simp; (try with_reducible rfl); (try omega))
    · exact par_call (fun θ => by rfl) rfl (vs := fun _ => [.int .u32 (t : Nat), .int .i64 1]) (fun θ => by rfl) Try.func41 (by rfl) (by rfl) (fun θ l V hl hc hd hg => by
        have hB := hg.a4
        refine Calls.mono (HON.out V) ?_
        rintro e V2 ⟨rfl, hb⟩
        exact ⟨_, rfl, θ, fun _ _ _ _ _ _ => rfl, fun d hd => (by cases hd; rfl), hg.call hb 5 (by decide) (by decide)⟩)
    · exact par_val (fun θ => by rfl) (fun θ l V hg => hg.other 6 (by decide) (by decide)) (fun θ l V hl hc hd hg => by have hB := hg.a4; obtain ⟨d0, d1⟩ := HKC.out V hB; go_simp; (try with_reducible rfl); (try omega))
    · exact par_val (fun θ => by rfl) (fun θ l V hg => hg.other 7 (by decide) (by decide)) (fun θ l V hl hc hd hg => by have hB := hg.a4; obtain ⟨d0, d1⟩ := HKC.out V hB; go_simp; (try with_reducible rfl); (try omega))
    · exact par_val (fun θ => by rfl) (fun θ l V hg => hg.other 8 (by decide) (by decide)) (fun θ l V hl hc hd hg => by have hB := hg.a4; obtain ⟨d0, d1⟩ := HKC.out V hB; go_simp; (try with_reducible rfl); (try omega))
    · exact par_val (fun θ => by rfl) (fun θ l V hg => hg.other 9 (by decide) (by decide)) (fun θ l V hl hc hd hg => by have hB := hg.a4; obtain ⟨d0, d1⟩ := HKC.out V hB; go_simp; (try with_reducible rfl); (try omega))
    · exact par_run (fun θ => by rfl) (fun θ l V hl hc hd hg => by
        have hs : l 11 = false := (by cases h : l 11 with | false => rfl | true => exact absurd (hc 11 10 (by kernel_rfl) h) (by rw [hl]; decide))
        exact ⟨_, _, run_allocX rfl zero_pc, next_set (by kernel_rfl) V.heap.size [(7, .pointer (some ⟨V.heap.size, 0, none⟩), 10)] (by simp only [List.foldl_cons, List.foldl_nil, List.setIfInBounds_toArray, List.set_cons_zero, List.set_cons_succ]) (by kernel_rfl) (fun y hy => by simp at hy; subst hy; exact hl) (fun d hd => by cases hd; rfl) (hg.alloc hs (by decide) _ _ rfl)⟩)
    · exact par_skip (fun θ => by rfl) (fun θ l V hl hc hd hg => by
        have ha : l 10 = true := hd 10 (by kernel_rfl)
        obtain ⟨hth, hst⟩ := hg.store ha hl rfl
        exact ⟨_, run_storeX rfl (b := θ) (k := 0) (by rfl) (cs := [.int .u8 (fl2 : Nat), .int .u16 (st2 : Nat), .int .u16 (ss2 : Nat), .int .u32 (pp2 : Nat), .slice a2 n2 c2]) (by rfl) hth (by kernel_rfl) (by intro v hv; simp at hv; rcases hv with rfl | rfl | rfl | rfl | rfl <;> rfl), ⟨θ, fun _ _ _ _ _ _ => rfl, fun d hd => (by cases hd), hst⟩⟩)
    · exact par_val (fun θ => by rfl) (fun θ l V hg => hg.other 12 (by decide) (by decide)) (fun θ l V hl hc hd hg => by have hB := hg.a4; obtain ⟨d0, d1⟩ := HKC.out V hB; go_simp; (try with_reducible rfl); (try omega))
  case he1 =>
  intro θ l V hall hg
  have hSt := hg.a1 (hall 11 (by decide))
  have hTh := hg.a3 (hall 10 (by decide))
  have hBl := hg.a4
  clear hall hg
  have hXs := HX.out V hBl
  have hv1 := hXs.cell 0 _ rfl
  have hv2 := hXs.cell 1 _ rfl
  have hv3 := hXs.cell 2 _ rfl
  have hv4 := hXs.cell 3 _ rfl
  have hv5 := hXs.cell 4 _ rfl
  have hu1 := hSt.cell 0 _ rfl
  have hu2 := hSt.cell 1 _ rfl
  have hu3 := hSt.cell 2 _ rfl
  have hu4 := hSt.cell 3 _ rfl
  have hu5 := hSt.cell 4 _ rfl
  have HV : Hid (Below w.heap.size w V ∧ ∀ V', Below V.heap.size V V' → Stc V' w.heap.size [.int .u8 (fl1 : Nat), .int .u16 (st1 : Nat), .int .u16 (ss1 : Nat), .int .u32 (pp1 : Nat), .slice a1 n1 c1] ∧ Stc V' θ [.int .u8 (fl2 : Nat), .int .u16 (st2 : Nat), .int .u16 (ss2 : Nat), .int .u32 (pp2 : Nat), .slice a2 n2 c2]) := ⟨HB1.out.trans (hBl.mono HB1.out.size), fun V' hV' => ⟨hXs.below hV', hSt.below hV'⟩⟩
  clear HX HB1 HKC HON HS hTh hBl hXs hSt hr1 hc1
  cases b1 with
  | false =>
    go_wp2
    go_ret
    exact ⟨rfl, HV.out.1⟩
  | true =>
  cases b2 with
  | false =>
    go_wp2
    go_ret
    exact ⟨rfl, HV.out.1⟩
  | true =>
  go_wp2_with fail
  refine (HFT.out _ _ _ (by rfl) (by rfl)).mono ?_
  rintro e V2 ⟨rfl, hb2⟩
  obtain ⟨sx, sy⟩ := HV.out.2 V2 hb2
  have HV2 : Hid (Below w.heap.size w V2) := HV.out.1.trans (hb2.mono HV.out.1.size)
  clear hv1 hv2 hv3 hv4 hv5 hu1 hu2 hu3 hu4 hu5 HFT HV hb2
  have hv1 := sx.cell 0 _ rfl
  have hv2 := sx.cell 1 _ rfl
  have hv3 := sx.cell 2 _ rfl
  have hv4 := sx.cell 3 _ rfl
  have hv5 := sx.cell 4 _ rfl
  cases r with
  | false =>
    go_wp2
    go_ret
    exact ⟨rfl, HV2.out⟩
  | true =>
  go_wp2_with fail
  refine (HEN.out _ _ (by rfl)).mono ?_
  rintro e V3 ⟨rfl, hb3⟩
  have sy3 := sy.below hb3
  have HV3 : Hid (Below w.heap.size w V3) := HV2.out.trans (hb3.mono HV2.out.size)
  clear hv1 hv2 hv3 hv4 hv5 HEN HV2 hb3 sx sy
  have hu1 := sy3.cell 0 _ rfl
  have hu2 := sy3.cell 1 _ rfl
  have hu3 := sy3.cell 2 _ rfl
  have hu4 := sy3.cell 3 _ rfl
  have hu5 := sy3.cell 4 _ rfl
  cases r1 with
  | true =>
    go_wp2
    go_ret
    exact ⟨rfl, HV3.out⟩
  | false =>
  go_wp2_with fail
  refine (HBG.out _ _ (by rfl)).mono ?_
  rintro e V4 ⟨rfl, hb4⟩
  have HV4 : Hid (Below w.heap.size w V4) := HV3.out.trans (hb4.mono HV3.out.size)
  clear hu1 hu2 hu3 hu4 hu5 HBG HV3 hb4 sy3
  cases r2 with
  | true =>
    go_wp2
    go_ret
    exact ⟨rfl, HV4.out⟩
  | false =>
    go_wp2
    go_ret
    exact ⟨rfl, HV4.out⟩
end Go.Proofs.Ytjaheelgcjafcaa
namespace Go.Proofs.Ytjaheelgcjafcaa
open Go.RowKit
/-- The error of a piece; E: what Check says. -/
def holdN (s : SmS) (k t st : Nat) (E : Int) : Int := if E ≠ 0 then E else if k ≠ 0 then 11 else if s.nx.length ≤ st then 14 else if (lookD s.D t).isSome then 17 else if 128 ≤ s.heldN then 10 else 0
set_option linter.unusedVariables false in
set_option maxRecDepth 100000 in
set_option maxHeartbeats 4000000 in
theorem hold_any {w : World} {p nb mb wb : Nat} {wr0 : Nat → Option Addr × Nat} {Y : Nat → Prop} {s : SmS} (h : SmW w p nb mb wb wr0 Y s) (k f t st ss pp : Nat) (c6 c7 c8 c9 c10 c11 c12 : Value) (xa : Option Addr) (n xc : Nat) (E : Int) (hkb : k < 256) (ht : t < 4294967296) (hstb : st < 65536)
    (hck : ∀ W v, Below w.heap.size w W → v = .agg #[.int .u8 (k : Nat), .int .u8 (f : Nat), .int .u32 (t : Nat), .int .u16 (st : Nat), .int .u16 (ss : Nat), .int .u32 (pp : Nat), c6, c7, c8, c9, c10, c11, c12, .slice xa n xc] → Calls Try.prog 37 #[v] W fun e w' => e = .returned (.int .i64 E) ∧ Below W.heap.size W w') (v : Value) (hv : v = .agg #[.int .u8 (k : Nat), .int .u8 (f : Nat), .int .u32 (t : Nat), .int .u16 (st : Nat), .int .u16 (ss : Nat), .int .u32 (pp : Nat), c6, c7, c8, c9, c10, c11, c12, .slice xa n xc]) :
    Calls Try.prog 24 #[.pointer (some ⟨p, 0, none⟩), v] w fun e w' => e = .returned (.int .i64 (holdN s k t st E)) ∧ Below w.heap.size w w' := by
  subst hv
  have HCK := (show Hid _ from hck)
  have HH := (show Hid _ from h)
  have hpl := h.st.lt
  have hn8 := h.n8
  obtain ⟨W1, hW1⟩ : ∃ W1, W1 = w.alloc (.cells #[.int .u8 (k : Nat), .int .u8 (f : Nat), .int .u32 (t : Nat), .int .u16 (st : Nat), .int .u16 (ss : Nat), .int .u32 (pp : Nat), c6, c7, c8, c9, c10, c11, c12, .slice xa n xc] 47) := ⟨_, rfl⟩
  have b1 : Below w.heap.size w W1 := by rw [hW1]; exact (Below.refl _ _).alloc (Nat.le_refl _) _
  have HC : Hid (Below w.heap.size w W1 ∧ ∀ V, Below W1.heap.size W1 V → Stc V w.heap.size [.int .u8 (k : Nat), .int .u8 (f : Nat), .int .u32 (t : Nat), .int .u16 (st : Nat), .int .u16 (ss : Nat), .int .u32 (pp : Nat), c6, c7, c8, c9, c10, c11, c12, .slice xa n xc]) := ⟨b1, fun V hV => (Stc.new w [.int .u8 (k : Nat), .int .u8 (f : Nat), .int .u32 (t : Nat), .int .u16 (st : Nat), .int .u16 (ss : Nat), .int .u32 (pp : Nat), c6, c7, c8, c9, c10, c11, c12, .slice xa n xc] 47 W1 hW1).below hV⟩
  obtain ⟨sn, hsn⟩ : ∃ sn, sn = s.nx.length := ⟨_, rfl⟩
  have HN : Hid (holdN s k t st E = if E ≠ 0 then E else if k ≠ 0 then 11 else if sn ≤ st then 14 else if (lookD s.D t).isSome then 17 else if 128 ≤ s.heldN then 10 else 0) := by show _ = _; rw [hsn]; rfl
  have HSN := (show Hid _ from hsn)
  rw [← hsn] at hn8
  clear hck h b1 hsn
  go_enter Try.func24, Try.ntmps24
  go_wp2_with fail
  rw [← hW1]
  clear hW1
  refine (HCK.out W1 _ HC.out.1 (by rfl)).mono ?_
  clear HCK
  rintro e V1 ⟨rfl, hb1⟩
  have HV1 : Hid (Below w.heap.size w V1 ∧ Below W1.heap.size W1 V1) := ⟨HC.out.1.trans (hb1.mono HC.out.1.size), hb1⟩
  clear hb1
  by_cases hE : E = 0
  · subst hE
    have hc := HC.out.2 V1 HV1.out.2
    have k0 := hc.cell 0 _ rfl
    by_cases hk : k = 0
    · subst hk
      have HK8 : Hid (V1.drew.cell? ⟨w.heap.size, 3, none⟩ = some (.int .u16 (st : Nat)) ∧ V1.drew.cell? ⟨p, 0, none⟩ = some (.slice (some ⟨nb, 0, none⟩) sn (capN V1.drew p nb sn mb wb))) := by
        have := (HH.out.below (HV1.out.1.drew)).st.cell 0 _ rfl
        rw [← HSN.out] at this
        exact ⟨(hc.below (Below.refl _ _).drew).cell 3 _ rfl, this⟩
      clear hc
      have hwst : IntKind.i64.wrap (st : Int) = st := by rw [IntKind.wrap_i64]; omega
      by_cases hsl : sn ≤ st
      · have hsi : (sn : Int) ≤ (st : Int) := by omega
        go_wp2_with fail
        refine wp_region_fixW mixedX (fun V => V = V1.drew) [(20, .pointer (some ⟨w.heap.size, 3, none⟩)), (21, .int .u16 (st : Nat)), (22, .int .i64 (st : Nat)), (23, .pointer (some ⟨p, 0, none⟩)), (24, .pointer (some ⟨p, 0, none⟩)), (25, .pointer (some ⟨p, 0, none⟩)), (26, .slice (some ⟨nb, 0, none⟩) sn (capN V1.drew p nb sn mb wb)), (27, .int .i64 (sn : Nat)), (28, .bool true)] ?Z2 ?hZ2 (by kernel_rfl) (by kernel_rfl) (by kernel_rfl) (by kernel_rfl) ?h02 ?hops2 ?he2
        case hZ2 => simp only [List.foldl_cons, List.foldl_nil, List.setIfInBounds_toArray, List.set_cons_zero, List.set_cons_succ]; rfl
        case h02 => rfl
        case hops2 =>
          refine ⟨?_, ?_, ?_, ?_, ?_, ?_, ?_, ?_, ?_, trivial⟩
          · exact fix_val (by rfl) (fun W hW => by subst hW; obtain ⟨d0, d1⟩ := HK8.out; go_simp; (try with_reducible rfl); (try omega))
          · exact fix_val (by rfl) (fun W hW => by subst hW; obtain ⟨d0, d1⟩ := HK8.out; go_simp; (try with_reducible rfl); (try omega))
          · exact fix_val (by rfl) (fun W hW => by subst hW; obtain ⟨d0, d1⟩ := HK8.out; go_simp; (try with_reducible rfl); (try omega))
          · exact fix_val (by rfl) (fun W hW => by subst hW; obtain ⟨d0, d1⟩ := HK8.out; go_simp; (try with_reducible rfl); (try omega))
          · exact fix_val (by rfl) (fun W hW => by subst hW; obtain ⟨d0, d1⟩ := HK8.out; go_simp; (try with_reducible rfl); (try omega))
          · exact fix_val (by rfl) (fun W hW => by subst hW; obtain ⟨d0, d1⟩ := HK8.out; go_simp; (try with_reducible rfl); (try omega))
          · exact fix_val (by rfl) (fun W hW => by subst hW; obtain ⟨d0, d1⟩ := HK8.out; go_simp; (try with_reducible rfl); (try omega))
          · exact fix_val (by rfl) (fun W hW => by subst hW; obtain ⟨d0, d1⟩ := HK8.out; go_simp; (try with_reducible rfl); (try omega))
          · exact fix_val (by rfl) (fun W hW => by subst hW; obtain ⟨d0, d1⟩ := HK8.out; go_simp; (try with_reducible rfl); (try omega))
        case he2 =>
        rintro V rfl
        go_wp2
        go_ret
        exact ⟨by rw [HN.out, if_neg (by simp), if_neg (by simp), if_pos hsl]; rfl, HV1.out.1.drew⟩
      · have hsi : ¬ (sn : Int) ≤ (st : Int) := by omega
        go_wp2_with fail
        refine wp_region_fixW mixedX (fun V => V = V1.drew) [(20, .pointer (some ⟨w.heap.size, 3, none⟩)), (21, .int .u16 (st : Nat)), (22, .int .i64 (st : Nat)), (23, .pointer (some ⟨p, 0, none⟩)), (24, .pointer (some ⟨p, 0, none⟩)), (25, .pointer (some ⟨p, 0, none⟩)), (26, .slice (some ⟨nb, 0, none⟩) sn (capN V1.drew p nb sn mb wb)), (27, .int .i64 (sn : Nat)), (28, .bool false)] ?Z3 ?hZ3 (by kernel_rfl) (by kernel_rfl) (by kernel_rfl) (by kernel_rfl) ?h03 ?hops3 ?he3
        case hZ3 => simp only [List.foldl_cons, List.foldl_nil, List.setIfInBounds_toArray, List.set_cons_zero, List.set_cons_succ]; rfl
        case h03 => rfl
        case hops3 =>
          refine ⟨?_, ?_, ?_, ?_, ?_, ?_, ?_, ?_, ?_, trivial⟩
          · exact fix_val (by rfl) (fun W hW => by subst hW; obtain ⟨d0, d1⟩ := HK8.out; go_simp; (try with_reducible rfl); (try omega))
          · exact fix_val (by rfl) (fun W hW => by subst hW; obtain ⟨d0, d1⟩ := HK8.out; go_simp; (try with_reducible rfl); (try omega))
          · exact fix_val (by rfl) (fun W hW => by subst hW; obtain ⟨d0, d1⟩ := HK8.out; go_simp; (try with_reducible rfl); (try omega))
          · exact fix_val (by rfl) (fun W hW => by subst hW; obtain ⟨d0, d1⟩ := HK8.out; go_simp; (try with_reducible rfl); (try omega))
          · exact fix_val (by rfl) (fun W hW => by subst hW; obtain ⟨d0, d1⟩ := HK8.out; go_simp; (try with_reducible rfl); (try omega))
          · exact fix_val (by rfl) (fun W hW => by subst hW; obtain ⟨d0, d1⟩ := HK8.out; go_simp; (try with_reducible rfl); (try omega))
          · exact fix_val (by rfl) (fun W hW => by subst hW; obtain ⟨d0, d1⟩ := HK8.out; go_simp; (try with_reducible rfl); (try omega))
          · exact fix_val (by rfl) (fun W hW => by subst hW; obtain ⟨d0, d1⟩ := HK8.out; go_simp; (try with_reducible rfl); (try omega))
          · exact fix_val (by rfl) (fun W hW => by subst hW; obtain ⟨d0, d1⟩ := HK8.out; go_simp; (try with_reducible rfl); (try omega))
        case he3 =>
        rintro V2 hV2
        have HV2 : Hid (Below w.heap.size w V2 ∧ Below W1.heap.size W1 V2) := by rw [show V2 = V1.drew from hV2]; exact ⟨HV1.out.1.drew, HV1.out.2.drew⟩
        clear hV2 HK8 k0
        have hlk : ∀ V, Below w.heap.size w V → _ := fun V hV => HH.out.look hV t ht true
        simp only [if_true] at hlk
        have HN2 : Hid (holdN s 0 t st 0 = if (lookD s.D t).isSome then 17 else if 128 ≤ s.heldN then 10 else 0) := by show _ = _; rw [HN.out, if_neg (by simp), if_neg (by simp), if_neg hsl]
        clear HN
        generalize (lookD s.D t).isSome = b1 at *
        generalize pcAt s.D t = x at *
        obtain ⟨fl1, st1, ss1, pp1, a1, n1, c1, z1⟩ := x
        unfold Pc.val at hlk
        dsimp only at hlk
        have HK10 : Hid (∀ V, Below V2.heap.size V2 V → V.cell? ⟨p, 1, none⟩ = some (.map (some mb)) ∧ V.cell? ⟨w.heap.size, 2, none⟩ = some (.int .u32 (t : Nat)) ∧ (Instr.lookup 73 (.map (some mb)) (.int .u32 (t : Nat)) true).run Try.prog V = .ok (.tuple #[.agg #[.int .u8 (fl1 : Nat), .int .u16 (st1 : Nat), .int .u16 (ss1 : Nat), .int .u32 (pp1 : Nat), .slice a1 n1 c1], .bool b1]) V) := fun V hV => by
          have hw := HV2.out.1.trans (hV.mono HV2.out.1.size)
          exact ⟨(HH.out.below hw).st.cell 1 _ rfl, (HC.out.2 V (HV2.out.2.trans (hV.mono HV2.out.2.size))).cell 2 _ rfl, hlk V hw⟩
        clear hlk
        go_wp2_with fail
        refine wp_region_parW mixedX (fun θ : Nat => [(30, .pointer (some ⟨p, 0, none⟩)), (31, .pointer (some ⟨p, 0, none⟩)), (32, .pointer (some ⟨p, 1, none⟩)), (33, .map (some mb)), (34, .pointer (some ⟨w.heap.size, 2, none⟩)), (35, .int .u32 (t : Nat)), (36, .tuple #[.agg #[.int .u8 (fl1 : Nat), .int .u16 (st1 : Nat), .int .u16 (ss1 : Nat), .int .u32 (pp1 : Nat), .slice a1 n1 c1], .bool b1]), (29, .tuple #[.agg #[.int .u8 (fl1 : Nat), .int .u16 (st1 : Nat), .int .u16 (ss1 : Nat), .int .u32 (pp1 : Nat), .slice a1 n1 c1], .bool b1]), (37, .agg #[.int .u8 (fl1 : Nat), .int .u16 (st1 : Nat), .int .u16 (ss1 : Nat), .int .u32 (pp1 : Nat), .slice a1 n1 c1]), (38, .bool b1), (6, .pointer (some ⟨θ, 0, none⟩)), (7, .bool b1)]) (fun θ l V => RgC 10 11 V2 [.int .u8 0, .int .u16 0, .int .u16 0, .int .u32 0, .slice none 0 0] [.int .u8 (fl1 : Nat), .int .u16 (st1 : Nat), .int .u16 (ss1 : Nat), .int .u32 (pp1 : Nat), .slice a1 n1 c1] θ l V) 0 ?Z1 ?hZ1 (by kernel_rfl) (by kernel_rfl) (fun θ => by kernel_rfl) (by kernel_rfl) ?h01 ?hops1 ?he1
        case hZ1 => intro θ; simp only [List.foldl_cons, List.foldl_nil, List.setIfInBounds_toArray, List.set_cons_zero, List.set_cons_succ]; rfl
        case h01 => exact RgC.start (Below.refl _ _).drew
        case hops1 =>
          refine ⟨?_, ?_, ?_, ?_, ?_, ?_, ?_, ?_, ?_, ?_, ?_, ?_, ?_, trivial⟩
          · exact par_val (fun θ => by rfl) (fun θ l V hg => hg.other 0 (by decide) (by decide)) (fun θ l V hl hc hd hg => by have hB := hg.a4; obtain ⟨d0, d1, d2⟩ := HK10.out V hB; go_simp; (try with_reducible rfl); (try omega))
          · exact par_val (fun θ => by rfl) (fun θ l V hg => hg.other 1 (by decide) (by decide)) (fun θ l V hl hc hd hg => by have hB := hg.a4; obtain ⟨d0, d1, d2⟩ := HK10.out V hB; go_simp; (try with_reducible rfl); (try omega))
          · exact par_val (fun θ => by rfl) (fun θ l V hg => hg.other 2 (by decide) (by decide)) (fun θ l V hl hc hd hg => by have hB := hg.a4; obtain ⟨d0, d1, d2⟩ := HK10.out V hB; go_simp; (try with_reducible rfl); (try omega))
          · exact par_val (fun θ => by rfl) (fun θ l V hg => hg.other 3 (by decide) (by decide)) (fun θ l V hl hc hd hg => by have hB := hg.a4; obtain ⟨d0, d1, d2⟩ := HK10.out V hB; go_simp; (try with_reducible rfl); (try omega))
          · exact par_val (fun θ => by rfl) (fun θ l V hg => hg.other 4 (by decide) (by decide)) (fun θ l V hl hc hd hg => by have hB := hg.a4; obtain ⟨d0, d1, d2⟩ := HK10.out V hB; go_simp; (try with_reducible rfl); (try omega))
          · exact par_val (fun θ => by rfl) (fun θ l V hg => hg.other 5 (by decide) (by decide)) (fun θ l V hl hc hd hg => by have hB := hg.a4; obtain ⟨d0, d1, d2⟩ := HK10.out V hB; go_simp; (try with_reducible rfl); (try omega))
          · exact par_val (fun θ => by rfl) (fun θ l V hg => hg.other 6 (by decide) (by decide)) (fun θ l V hl hc hd hg => by have hB := hg.a4; obtain ⟨d0, d1, d2⟩ := HK10.out V hB; go_simp; (try with_reducible rfl); (try omega))
          · exact par_val (fun θ => by rfl) (fun θ l V hg => hg.other 7 (by decide) (by decide)) (fun θ l V hl hc hd hg => by have hB := hg.a4; obtain ⟨d0, d1, d2⟩ := HK10.out V hB; go_simp; (try with_reducible rfl); (try omega))
          · exact par_val (fun θ => by rfl) (fun θ l V hg => hg.other 8 (by decide) (by decide)) (fun θ l V hl hc hd hg => by have hB := hg.a4; obtain ⟨d0, d1, d2⟩ := HK10.out V hB; go_simp; (try with_reducible rfl); (try omega))
          · exact par_val (fun θ => by rfl) (fun θ l V hg => hg.other 9 (by decide) (by decide)) (fun θ l V hl hc hd hg => by have hB := hg.a4; obtain ⟨d0, d1, d2⟩ := HK10.out V hB; go_simp; (try with_reducible rfl); (try omega))
          · exact par_run (fun θ => by rfl) (fun θ l V hl hc hd hg => by
              have hs : l 11 = false := (by cases h : l 11 with | false => rfl | true => exact absurd (hc 11 10 (by kernel_rfl) h) (by rw [hl]; decide))
              exact ⟨_, _, run_allocX rfl zero_pc, next_set (by kernel_rfl) V.heap.size [(6, .pointer (some ⟨V.heap.size, 0, none⟩), 10)] (by simp only [List.foldl_cons, List.foldl_nil, List.setIfInBounds_toArray, List.set_cons_zero, List.set_cons_succ]) (by kernel_rfl) (fun y hy => by simp at hy; subst hy; exact hl) (fun d hd => by cases hd; rfl) (hg.alloc hs (by decide) _ _ rfl)⟩)
          · exact par_skip (fun θ => by rfl) (fun θ l V hl hc hd hg => by
              have ha : l 10 = true := hd 10 (by kernel_rfl)
              obtain ⟨hth, hst⟩ := hg.store ha hl rfl
              exact ⟨_, run_storeX rfl (b := θ) (k := 0) (by rfl) (cs := [.int .u8 (fl1 : Nat), .int .u16 (st1 : Nat), .int .u16 (ss1 : Nat), .int .u32 (pp1 : Nat), .slice a1 n1 c1]) (by rfl) hth (by kernel_rfl) (by intro v hv; simp at hv; rcases hv with rfl | rfl | rfl | rfl | rfl <;> rfl), ⟨θ, fun _ _ _ _ _ _ => rfl, fun d hd => (by cases hd), hst⟩⟩)
          · exact par_val (fun θ => by rfl) (fun θ l V hg => hg.other 12 (by decide) (by decide)) (fun θ l V hl hc hd hg => by have hB := hg.a4; obtain ⟨d0, d1, d2⟩ := HK10.out V hB; go_simp; (try with_reducible rfl); (try omega))
        case he1 =>
        intro θ l V hall hg
        have hSt := hg.a1 (hall 11 (by decide))
        have hTh := hg.a3 (hall 10 (by decide))
        have hBl := hg.a4
        clear hall hg
        have HV3 : Hid (Below w.heap.size w V) := HV2.out.1.trans (hBl.mono HV2.out.1.size)
        clear hBl hTh hSt HK10 HV2 HV1 HC
        cases b1 with
        | true =>
          go_wp2
          go_ret
          exact ⟨by rw [HN2.out]; rfl, HV3.out⟩
        | false =>
          have HHD := (show Hid _ from held_any (HH.out.below HV3.out))
          have hhb := HH.out.held
          go_wp2_with fail
          refine Calls.mono HHD.out ?_
          rintro e V4 ⟨rfl, hb4⟩
          have HV4 : Hid (Below w.heap.size w V4) := HV3.out.trans (hb4.mono HV3.out.size)
          clear hb4 HHD HV3
          generalize s.heldN = hn at *
          generalize s.heldB = hbb at *
          by_cases hfull : 128 ≤ hn
          · have hfi : (128 : Int) ≤ (hn : Int) := by omega
            go_wp2
            go_ret
            exact ⟨by rw [HN2.out, if_neg (by simp), if_pos hfull]; rfl, HV4.out⟩
          · have hfi : ¬ (128 : Int) ≤ (hn : Int) := by omega
            go_wp2
            go_ret
            exact ⟨by rw [HN2.out, if_neg (by simp), if_neg hfull]; rfl, HV4.out⟩
    · have hki : ¬ (k : Int) = 0 := by omega
      clear hc
      go_wp2
      go_ret
      exact ⟨by rw [HN.out, if_neg (by simp), if_pos hk]; rfl, HV1.out.1⟩
  · go_wp2
    go_ret
    exact ⟨by rw [HN.out, if_pos hE]; rfl, HV1.out.1⟩
end Go.Proofs.Ytjaheelgcjafcaa
