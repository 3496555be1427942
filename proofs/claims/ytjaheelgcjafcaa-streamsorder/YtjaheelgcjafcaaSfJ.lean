/- streams: may two pieces be of one message? -/
import Derived.Test.YtjaheelgcjafcaaSmW
import Derived.Test.YtjaheelgcjafcaaRgX
namespace Go.Proofs.Ytjaheelgcjafcaa
open Go.RowKit
set_option linter.unusedVariables false in
set_option maxRecDepth 100000 in
set_option maxHeartbeats 2000000 in
theorem fit_any (x y : Pc) (w : World) (hx : PcOk x) (hy : PcOk y) (v u : Value) (hv : v = x.val) (hu : u = y.val) :
    Calls Try.prog 58 #[v, u] w fun e w' => e = .returned (.bool (fitB x y)) ∧ Below w.heap.size w w' := by
  subst hv hu
  obtain ⟨fl1, st1, ss1, pp1, a1, n1, c1, z1⟩ := x
  obtain ⟨fl2, st2, ss2, pp2, a2, n2, c2, z2⟩ := y
  have hf1 := hx.fl
  have hf2 := hy.fl
  unfold Pc.val
  dsimp only at hf1 hf2 ⊢
  have HR : Hid (∀ r, r = fitB ⟨fl1, st1, ss1, pp1, a1, n1, c1, z1⟩ ⟨fl2, st2, ss2, pp2, a2, n2, c2, z2⟩ → r = (decide (st1 = st2) && (decide (fl1 / 4 % 2 = 1) == decide (fl2 / 4 % 2 = 1)) && (decide (fl1 / 4 % 2 = 1) || decide (ss1 = ss2)))) := by
    intro r hr
    rw [hr]
    unfold fitB Pc.free
    dsimp only
    rw [show ∀ a b : Nat, (a == b) = decide (a = b) from fun a b => by by_cases h : a = b <;> simp [h], show ∀ a b : Nat, (a == b) = decide (a = b) from fun a b => by by_cases h : a = b <;> simp [h]]
  have HF1 : Hid (∀ W, Calls Try.prog 43 #[.agg #[.int .u8 (fl1 : Nat), .int .u16 (st1 : Nat), .int .u16 (ss1 : Nat), .int .u32 (pp1 : Nat), .slice a1 n1 c1]] W fun e w' => e = .returned (.bool (decide (fl1 / 4 % 2 = 1))) ∧ Below W.heap.size W w') := fun W => free_any fl1 _ _ _ _ W hf1 _ rfl
  have HF2 : Hid (∀ W, Calls Try.prog 43 #[.agg #[.int .u8 (fl2 : Nat), .int .u16 (st2 : Nat), .int .u16 (ss2 : Nat), .int .u32 (pp2 : Nat), .slice a2 n2 c2]] W fun e w' => e = .returned (.bool (decide (fl2 / 4 % 2 = 1))) ∧ Below W.heap.size W w') := fun W => free_any fl2 _ _ _ _ W hf2 _ rfl
  clear hx hy hf1 hf2
  rw [show fitB ⟨fl1, st1, ss1, pp1, a1, n1, c1, z1⟩ ⟨fl2, st2, ss2, pp2, a2, n2, c2, z2⟩ = (decide (st1 = st2) && (decide (fl1 / 4 % 2 = 1) == decide (fl2 / 4 % 2 = 1)) && (decide (fl1 / 4 % 2 = 1) || decide (ss1 = ss2))) from HR.out _ rfl]
  clear HR
  generalize decide (fl1 / 4 % 2 = 1) = r1 at *
  generalize decide (fl2 / 4 % 2 = 1) = r2 at *
  by_cases hst : st1 = st2
  · subst hst
    cases r1 with
    | true =>
      cases r2 with
      | true =>
        obtain ⟨W0, hW0⟩ : ∃ W0, W0 = (w.alloc (.cells #[.int .u8 (fl1 : Nat), .int .u16 (st1 : Nat), .int .u16 (ss1 : Nat), .int .u32 (pp1 : Nat), .slice a1 n1 c1] 79)).alloc (.cells #[.int .u8 (fl2 : Nat), .int .u16 (st1 : Nat), .int .u16 (ss2 : Nat), .int .u32 (pp2 : Nat), .slice a2 n2 c2] 79) := ⟨_, rfl⟩
        have HB : Hid (Below w.heap.size w W0.drew) := by
          show Below _ _ _
          rw [hW0]
          exact (((Below.refl _ _).alloc (Nat.le_refl _) _).alloc (by simp) _).drew
        have HKC : Hid (∀ V, Below W0.drew.heap.size W0.drew V → V.cell? ⟨w.heap.size, 0, none⟩ = some (.int .u8 (fl1 : Nat)) ∧ V.cell? ⟨w.heap.size, 1, none⟩ = some (.int .u16 (st1 : Nat)) ∧ V.cell? ⟨w.heap.size, 2, none⟩ = some (.int .u16 (ss1 : Nat)) ∧ V.cell? ⟨w.heap.size, 3, none⟩ = some (.int .u32 (pp1 : Nat)) ∧ V.cell? ⟨w.heap.size, 4, none⟩ = some (.slice a1 n1 c1) ∧ V.cell? ⟨w.heap.size + 1, 0, none⟩ = some (.int .u8 (fl2 : Nat)) ∧ V.cell? ⟨w.heap.size + 1, 1, none⟩ = some (.int .u16 (st1 : Nat)) ∧ V.cell? ⟨w.heap.size + 1, 2, none⟩ = some (.int .u16 (ss2 : Nat)) ∧ V.cell? ⟨w.heap.size + 1, 3, none⟩ = some (.int .u32 (pp2 : Nat)) ∧ V.cell? ⟨w.heap.size + 1, 4, none⟩ = some (.slice a2 n2 c2)) := by
          intro V hV
          have s1 := ((Stc.new w [.int .u8 (fl1 : Nat), .int .u16 (st1 : Nat), .int .u16 (ss1 : Nat), .int .u32 (pp1 : Nat), .slice a1 n1 c1] 79 _ rfl).below (w' := W0) (by rw [hW0]; exact (Below.refl _ _).alloc (Nat.le_refl _) _)).below ((Below.refl _ _).drew.trans (hV.mono (Below.refl 0 W0).drew.size))
          have s2 := (Stc.new (w.alloc (.cells #[.int .u8 (fl1 : Nat), .int .u16 (st1 : Nat), .int .u16 (ss1 : Nat), .int .u32 (pp1 : Nat), .slice a1 n1 c1] 79)) [.int .u8 (fl2 : Nat), .int .u16 (st1 : Nat), .int .u16 (ss2 : Nat), .int .u32 (pp2 : Nat), .slice a2 n2 c2] 79 W0 hW0).below ((Below.refl _ _).drew.trans (hV.mono (Below.refl 0 W0).drew.size))
          rw [show (w.alloc (.cells #[.int .u8 (fl1 : Nat), .int .u16 (st1 : Nat), .int .u16 (ss1 : Nat), .int .u32 (pp1 : Nat), .slice a1 n1 c1] 79)).heap.size = w.heap.size + 1 by simp] at s2
          exact ⟨s1.cell 0 _ rfl, s1.cell 1 _ rfl, s1.cell 2 _ rfl, s1.cell 3 _ rfl, s1.cell 4 _ rfl, s2.cell 0 _ rfl, s2.cell 1 _ rfl, s2.cell 2 _ rfl, s2.cell 3 _ rfl, s2.cell 4 _ rfl⟩
        go_enter Try.func58, Try.ntmps58
        go_wp2_with fail
        rw [← hW0]
        clear hW0
        refine wp_region_fixW mixedX (fun V => Below W0.drew.heap.size W0.drew V) [(5, .pointer (some ⟨w.heap.size, 1, none⟩)), (6, .int .u16 (st1 : Nat)), (7, .pointer (some ⟨w.heap.size + 1, 1, none⟩)), (8, .int .u16 (st1 : Nat)), (9, .bool true), (10, .bool true), (11, .agg #[.int .u8 (fl1 : Nat), .int .u16 (st1 : Nat), .int .u16 (ss1 : Nat), .int .u32 (pp1 : Nat), .slice a1 n1 c1]), (12, .bool true), (13, .agg #[.int .u8 (fl2 : Nat), .int .u16 (st1 : Nat), .int .u16 (ss2 : Nat), .int .u32 (pp2 : Nat), .slice a2 n2 c2]), (14, .bool true), (15, .bool true), (16, .bool true), (17, .bool true), (18, .agg #[.int .u8 (fl1 : Nat), .int .u16 (st1 : Nat), .int .u16 (ss1 : Nat), .int .u32 (pp1 : Nat), .slice a1 n1 c1]), (19, .bool true), (20, .bool true), (21, undef), (22, undef), (23, undef), (24, undef), (25, undef), (26, .bool true), (27, .bool true), (4, .bool true)] ?Z1 ?hZ1 (by kernel_rfl) (by kernel_rfl) (by kernel_rfl) (by kernel_rfl) ?h01 ?hops1 ?he1
        case hZ1 => simp only [List.foldl_cons, List.foldl_nil, List.setIfInBounds_toArray, List.set_cons_zero, List.set_cons_succ]; rfl
        case h01 => exact Below.refl _ _
        case hops1 =>
          refine ⟨?_, ?_, ?_, ?_, ?_, ?_, ?_, ?_, ?_, ?_, ?_, ?_, ?_, ?_, ?_, ?_, ?_, ?_, ?_, ?_, ?_, ?_, ?_, ?_, trivial⟩
          · exact fix_val (by rfl) (fun W hW => by obtain ⟨d0, d1, d2, d3, d4, e0, e1, e2, e3, e4⟩ := HKC.out W hW; go_simp; (try with_reducible rfl); (try omega))
          · exact fix_val (by rfl) (fun W hW => by obtain ⟨d0, d1, d2, d3, d4, e0, e1, e2, e3, e4⟩ := HKC.out W hW; go_simp; (try with_reducible rfl); (try omega))
          · exact fix_val (by rfl) (fun W hW => by obtain ⟨d0, d1, d2, d3, d4, e0, e1, e2, e3, e4⟩ := HKC.out W hW; go_simp; (try with_reducible rfl); (try omega))
          · exact fix_val (by rfl) (fun W hW => by obtain ⟨d0, d1, d2, d3, d4, e0, e1, e2, e3, e4⟩ := HKC.out W hW; go_simp; (try with_reducible rfl); (try omega))
          · exact fix_val (by rfl) (fun W hW => by obtain ⟨d0, d1, d2, d3, d4, e0, e1, e2, e3, e4⟩ := HKC.out W hW; go_simp; (try with_reducible rfl); (try omega))
          · exact fix_val (by rfl) (fun W hW => by obtain ⟨d0, d1, d2, d3, d4, e0, e1, e2, e3, e4⟩ := HKC.out W hW; go_simp; (try with_reducible rfl); (try omega))
          · exact fix_val (by rfl) (fun W hW => by obtain ⟨d0, d1, d2, d3, d4, e0, e1, e2, e3, e4⟩ := HKC.out W hW; go_simp; (try with_reducible rfl); (try omega))
          · exact fix_call (vs := [.agg #[.int .u8 (fl1 : Nat), .int .u16 (st1 : Nat), .int .u16 (ss1 : Nat), .int .u32 (pp1 : Nat), .slice a1 n1 c1]]) (by rfl) rfl (by rfl) Try.func43 (by rfl) (by rfl) (fun W hW => by exact (HF1.out W).mono (fun e V h => ⟨h.1, hW.trans (h.2.mono hW.size)⟩))
          · exact fix_val (by rfl) (fun W hW => by obtain ⟨d0, d1, d2, d3, d4, e0, e1, e2, e3, e4⟩ := HKC.out W hW; go_simp; (try with_reducible rfl); (try omega))
          · exact fix_call (vs := [.agg #[.int .u8 (fl2 : Nat), .int .u16 (st1 : Nat), .int .u16 (ss2 : Nat), .int .u32 (pp2 : Nat), .slice a2 n2 c2]]) (by rfl) rfl (by rfl) Try.func43 (by rfl) (by rfl) (fun W hW => by exact (HF2.out W).mono (fun e V h => ⟨h.1, hW.trans (h.2.mono hW.size)⟩))
          · exact fix_val (by rfl) (fun W hW => by obtain ⟨d0, d1, d2, d3, d4, e0, e1, e2, e3, e4⟩ := HKC.out W hW; go_simp; (try with_reducible rfl); (try omega))
          · exact fix_val (by rfl) (fun W hW => by obtain ⟨d0, d1, d2, d3, d4, e0, e1, e2, e3, e4⟩ := HKC.out W hW; go_simp; (try with_reducible rfl); (try omega))
          · exact fix_val (by rfl) (fun W hW => by obtain ⟨d0, d1, d2, d3, d4, e0, e1, e2, e3, e4⟩ := HKC.out W hW; go_simp; (try with_reducible rfl); (try omega))
          · exact fix_val (by rfl) (fun W hW => by obtain ⟨d0, d1, d2, d3, d4, e0, e1, e2, e3, e4⟩ := HKC.out W hW; go_simp; (try with_reducible rfl); (try omega))
          · exact fix_call (vs := [.agg #[.int .u8 (fl1 : Nat), .int .u16 (st1 : Nat), .int .u16 (ss1 : Nat), .int .u32 (pp1 : Nat), .slice a1 n1 c1]]) (by rfl) rfl (by rfl) Try.func43 (by rfl) (by rfl) (fun W hW => by exact (HF1.out W).mono (fun e V h => ⟨h.1, hW.trans (h.2.mono hW.size)⟩))
          · exact fix_val (by rfl) (fun W hW => by obtain ⟨d0, d1, d2, d3, d4, e0, e1, e2, e3, e4⟩ := HKC.out W hW; go_simp; (try with_reducible rfl); (try omega))
          · exact fix_off (by rfl) (fun d hd => by cases hd; rfl)
          · exact fix_off (by rfl) (fun d hd => by cases hd; rfl)
          · exact fix_off (by rfl) (fun d hd => by cases hd; rfl)
          · exact fix_off (by rfl) (fun d hd => by cases hd; rfl)
          · exact fix_off (by rfl) (fun d hd => by cases hd; rfl)
          · exact fix_val (by rfl) (fun W hW => by obtain ⟨d0, d1, d2, d3, d4, e0, e1, e2, e3, e4⟩ := HKC.out W hW; go_simp; (try with_reducible rfl); (try omega))
          · exact fix_val (by rfl) (fun W hW => by obtain ⟨d0, d1, d2, d3, d4, e0, e1, e2, e3, e4⟩ := HKC.out W hW; go_simp; (try with_reducible rfl); (try omega))
          · exact fix_val (by rfl) (fun W hW => by obtain ⟨d0, d1, d2, d3, d4, e0, e1, e2, e3, e4⟩ := HKC.out W hW; go_simp; (try with_reducible rfl); (try omega))
        case he1 =>
        intro V hV
        have HV := (show Hid _ from hV)
        clear hV
        go_wp2
        go_ret
        exact ⟨by simp, HB.out.trans (HV.out.mono HB.out.size)⟩
      | false =>
        obtain ⟨W0, hW0⟩ : ∃ W0, W0 = (w.alloc (.cells #[.int .u8 (fl1 : Nat), .int .u16 (st1 : Nat), .int .u16 (ss1 : Nat), .int .u32 (pp1 : Nat), .slice a1 n1 c1] 79)).alloc (.cells #[.int .u8 (fl2 : Nat), .int .u16 (st1 : Nat), .int .u16 (ss2 : Nat), .int .u32 (pp2 : Nat), .slice a2 n2 c2] 79) := ⟨_, rfl⟩
        have HB : Hid (Below w.heap.size w W0.drew) := by
          show Below _ _ _
          rw [hW0]
          exact (((Below.refl _ _).alloc (Nat.le_refl _) _).alloc (by simp) _).drew
        have HKC : Hid (∀ V, Below W0.drew.heap.size W0.drew V → V.cell? ⟨w.heap.size, 0, none⟩ = some (.int .u8 (fl1 : Nat)) ∧ V.cell? ⟨w.heap.size, 1, none⟩ = some (.int .u16 (st1 : Nat)) ∧ V.cell? ⟨w.heap.size, 2, none⟩ = some (.int .u16 (ss1 : Nat)) ∧ V.cell? ⟨w.heap.size, 3, none⟩ = some (.int .u32 (pp1 : Nat)) ∧ V.cell? ⟨w.heap.size, 4, none⟩ = some (.slice a1 n1 c1) ∧ V.cell? ⟨w.heap.size + 1, 0, none⟩ = some (.int .u8 (fl2 : Nat)) ∧ V.cell? ⟨w.heap.size + 1, 1, none⟩ = some (.int .u16 (st1 : Nat)) ∧ V.cell? ⟨w.heap.size + 1, 2, none⟩ = some (.int .u16 (ss2 : Nat)) ∧ V.cell? ⟨w.heap.size + 1, 3, none⟩ = some (.int .u32 (pp2 : Nat)) ∧ V.cell? ⟨w.heap.size + 1, 4, none⟩ = some (.slice a2 n2 c2)) := by
          intro V hV
          have s1 := ((Stc.new w [.int .u8 (fl1 : Nat), .int .u16 (st1 : Nat), .int .u16 (ss1 : Nat), .int .u32 (pp1 : Nat), .slice a1 n1 c1] 79 _ rfl).below (w' := W0) (by rw [hW0]; exact (Below.refl _ _).alloc (Nat.le_refl _) _)).below ((Below.refl _ _).drew.trans (hV.mono (Below.refl 0 W0).drew.size))
          have s2 := (Stc.new (w.alloc (.cells #[.int .u8 (fl1 : Nat), .int .u16 (st1 : Nat), .int .u16 (ss1 : Nat), .int .u32 (pp1 : Nat), .slice a1 n1 c1] 79)) [.int .u8 (fl2 : Nat), .int .u16 (st1 : Nat), .int .u16 (ss2 : Nat), .int .u32 (pp2 : Nat), .slice a2 n2 c2] 79 W0 hW0).below ((Below.refl _ _).drew.trans (hV.mono (Below.refl 0 W0).drew.size))
          rw [show (w.alloc (.cells #[.int .u8 (fl1 : Nat), .int .u16 (st1 : Nat), .int .u16 (ss1 : Nat), .int .u32 (pp1 : Nat), .slice a1 n1 c1] 79)).heap.size = w.heap.size + 1 by simp] at s2
          exact ⟨s1.cell 0 _ rfl, s1.cell 1 _ rfl, s1.cell 2 _ rfl, s1.cell 3 _ rfl, s1.cell 4 _ rfl, s2.cell 0 _ rfl, s2.cell 1 _ rfl, s2.cell 2 _ rfl, s2.cell 3 _ rfl, s2.cell 4 _ rfl⟩
        go_enter Try.func58, Try.ntmps58
        go_wp2_with fail
        rw [← hW0]
        clear hW0
        refine wp_region_fixW mixedX (fun V => Below W0.drew.heap.size W0.drew V) [(5, .pointer (some ⟨w.heap.size, 1, none⟩)), (6, .int .u16 (st1 : Nat)), (7, .pointer (some ⟨w.heap.size + 1, 1, none⟩)), (8, .int .u16 (st1 : Nat)), (9, .bool true), (10, .bool true), (11, .agg #[.int .u8 (fl1 : Nat), .int .u16 (st1 : Nat), .int .u16 (ss1 : Nat), .int .u32 (pp1 : Nat), .slice a1 n1 c1]), (12, .bool true), (13, .agg #[.int .u8 (fl2 : Nat), .int .u16 (st1 : Nat), .int .u16 (ss2 : Nat), .int .u32 (pp2 : Nat), .slice a2 n2 c2]), (14, .bool false), (15, .bool false), (16, .bool false), (17, .bool false), (18, undef), (19, undef), (20, undef), (21, undef), (22, undef), (23, undef), (24, undef), (25, undef), (26, undef), (27, .bool false), (4, .bool false)] ?Z2 ?hZ2 (by kernel_rfl) (by kernel_rfl) (by kernel_rfl) (by kernel_rfl) ?h02 ?hops2 ?he2
        case hZ2 => simp only [List.foldl_cons, List.foldl_nil, List.setIfInBounds_toArray, List.set_cons_zero, List.set_cons_succ]; rfl
        case h02 => exact Below.refl _ _
        case hops2 =>
          refine ⟨?_, ?_, ?_, ?_, ?_, ?_, ?_, ?_, ?_, ?_, ?_, ?_, ?_, ?_, ?_, ?_, ?_, ?_, ?_, ?_, ?_, ?_, ?_, ?_, trivial⟩
          · exact fix_val (by rfl) (fun W hW => by obtain ⟨d0, d1, d2, d3, d4, e0, e1, e2, e3, e4⟩ := HKC.out W hW; go_simp; (try with_reducible rfl); (try omega))
          · exact fix_val (by rfl) (fun W hW => by obtain ⟨d0, d1, d2, d3, d4, e0, e1, e2, e3, e4⟩ := HKC.out W hW; go_simp; (try with_reducible rfl); (try omega))
          · exact fix_val (by rfl) (fun W hW => by obtain ⟨d0, d1, d2, d3, d4, e0, e1, e2, e3, e4⟩ := HKC.out W hW; go_simp; (try with_reducible rfl); (try omega))
          · exact fix_val (by rfl) (fun W hW => by obtain ⟨d0, d1, d2, d3, d4, e0, e1, e2, e3, e4⟩ := HKC.out W hW; go_simp; (try with_reducible rfl); (try omega))
          · exact fix_val (by rfl) (fun W hW => by obtain ⟨d0, d1, d2, d3, d4, e0, e1, e2, e3, e4⟩ := HKC.out W hW; go_simp; (try with_reducible rfl); (try omega))
          · exact fix_val (by rfl) (fun W hW => by obtain ⟨d0, d1, d2, d3, d4, e0, e1, e2, e3, e4⟩ := HKC.out W hW; go_simp; (try with_reducible rfl); (try omega))
          · exact fix_val (by rfl) (fun W hW => by obtain ⟨d0, d1, d2, d3, d4, e0, e1, e2, e3, e4⟩ := HKC.out W hW; go_simp; (try with_reducible rfl); (try omega))
          · exact fix_call (vs := [.agg #[.int .u8 (fl1 : Nat), .int .u16 (st1 : Nat), .int .u16 (ss1 : Nat), .int .u32 (pp1 : Nat), .slice a1 n1 c1]]) (by rfl) rfl (by rfl) Try.func43 (by rfl) (by rfl) (fun W hW => by exact (HF1.out W).mono (fun e V h => ⟨h.1, hW.trans (h.2.mono hW.size)⟩))
          · exact fix_val (by rfl) (fun W hW => by obtain ⟨d0, d1, d2, d3, d4, e0, e1, e2, e3, e4⟩ := HKC.out W hW; go_simp; (try with_reducible rfl); (try omega))
          · exact fix_call (vs := [.agg #[.int .u8 (fl2 : Nat), .int .u16 (st1 : Nat), .int .u16 (ss2 : Nat), .int .u32 (pp2 : Nat), .slice a2 n2 c2]]) (by rfl) rfl (by rfl) Try.func43 (by rfl) (by rfl) (fun W hW => by exact (HF2.out W).mono (fun e V h => ⟨h.1, hW.trans (h.2.mono hW.size)⟩))
          · exact fix_val (by rfl) (fun W hW => by obtain ⟨d0, d1, d2, d3, d4, e0, e1, e2, e3, e4⟩ := HKC.out W hW; go_simp; (try with_reducible rfl); (try omega))
          · exact fix_val (by rfl) (fun W hW => by obtain ⟨d0, d1, d2, d3, d4, e0, e1, e2, e3, e4⟩ := HKC.out W hW; go_simp; (try with_reducible rfl); (try omega))
          · exact fix_val (by rfl) (fun W hW => by obtain ⟨d0, d1, d2, d3, d4, e0, e1, e2, e3, e4⟩ := HKC.out W hW; go_simp; (try with_reducible rfl); (try omega))
          · exact fix_off (by rfl) (fun d hd => by cases hd; rfl)
          · exact fix_off (by rfl) (fun d hd => by cases hd; rfl)
          · exact fix_off (by rfl) (fun d hd => by cases hd; rfl)
          · exact fix_off (by rfl) (fun d hd => by cases hd; rfl)
          · exact fix_off (by rfl) (fun d hd => by cases hd; rfl)
          · exact fix_off (by rfl) (fun d hd => by cases hd; rfl)
          · exact fix_off (by rfl) (fun d hd => by cases hd; rfl)
          · exact fix_off (by rfl) (fun d hd => by cases hd; rfl)
          · exact fix_off (by rfl) (fun d hd => by cases hd; rfl)
          · exact fix_val (by rfl) (fun W hW => by obtain ⟨d0, d1, d2, d3, d4, e0, e1, e2, e3, e4⟩ := HKC.out W hW; go_simp; (try with_reducible rfl); (try omega))
          · exact fix_val (by rfl) (fun W hW => by obtain ⟨d0, d1, d2, d3, d4, e0, e1, e2, e3, e4⟩ := HKC.out W hW; go_simp; (try with_reducible rfl); (try omega))
        case he2 =>
        intro V hV
        have HV := (show Hid _ from hV)
        clear hV
        go_wp2
        go_ret
        exact ⟨by simp, HB.out.trans (HV.out.mono HB.out.size)⟩
    | false =>
      cases r2 with
      | true =>
        obtain ⟨W0, hW0⟩ : ∃ W0, W0 = (w.alloc (.cells #[.int .u8 (fl1 : Nat), .int .u16 (st1 : Nat), .int .u16 (ss1 : Nat), .int .u32 (pp1 : Nat), .slice a1 n1 c1] 79)).alloc (.cells #[.int .u8 (fl2 : Nat), .int .u16 (st1 : Nat), .int .u16 (ss2 : Nat), .int .u32 (pp2 : Nat), .slice a2 n2 c2] 79) := ⟨_, rfl⟩
        have HB : Hid (Below w.heap.size w W0.drew) := by
          show Below _ _ _
          rw [hW0]
          exact (((Below.refl _ _).alloc (Nat.le_refl _) _).alloc (by simp) _).drew
        have HKC : Hid (∀ V, Below W0.drew.heap.size W0.drew V → V.cell? ⟨w.heap.size, 0, none⟩ = some (.int .u8 (fl1 : Nat)) ∧ V.cell? ⟨w.heap.size, 1, none⟩ = some (.int .u16 (st1 : Nat)) ∧ V.cell? ⟨w.heap.size, 2, none⟩ = some (.int .u16 (ss1 : Nat)) ∧ V.cell? ⟨w.heap.size, 3, none⟩ = some (.int .u32 (pp1 : Nat)) ∧ V.cell? ⟨w.heap.size, 4, none⟩ = some (.slice a1 n1 c1) ∧ V.cell? ⟨w.heap.size + 1, 0, none⟩ = some (.int .u8 (fl2 : Nat)) ∧ V.cell? ⟨w.heap.size + 1, 1, none⟩ = some (.int .u16 (st1 : Nat)) ∧ V.cell? ⟨w.heap.size + 1, 2, none⟩ = some (.int .u16 (ss2 : Nat)) ∧ V.cell? ⟨w.heap.size + 1, 3, none⟩ = some (.int .u32 (pp2 : Nat)) ∧ V.cell? ⟨w.heap.size + 1, 4, none⟩ = some (.slice a2 n2 c2)) := by
          intro V hV
          have s1 := ((Stc.new w [.int .u8 (fl1 : Nat), .int .u16 (st1 : Nat), .int .u16 (ss1 : Nat), .int .u32 (pp1 : Nat), .slice a1 n1 c1] 79 _ rfl).below (w' := W0) (by rw [hW0]; exact (Below.refl _ _).alloc (Nat.le_refl _) _)).below ((Below.refl _ _).drew.trans (hV.mono (Below.refl 0 W0).drew.size))
          have s2 := (Stc.new (w.alloc (.cells #[.int .u8 (fl1 : Nat), .int .u16 (st1 : Nat), .int .u16 (ss1 : Nat), .int .u32 (pp1 : Nat), .slice a1 n1 c1] 79)) [.int .u8 (fl2 : Nat), .int .u16 (st1 : Nat), .int .u16 (ss2 : Nat), .int .u32 (pp2 : Nat), .slice a2 n2 c2] 79 W0 hW0).below ((Below.refl _ _).drew.trans (hV.mono (Below.refl 0 W0).drew.size))
          rw [show (w.alloc (.cells #[.int .u8 (fl1 : Nat), .int .u16 (st1 : Nat), .int .u16 (ss1 : Nat), .int .u32 (pp1 : Nat), .slice a1 n1 c1] 79)).heap.size = w.heap.size + 1 by simp] at s2
          exact ⟨s1.cell 0 _ rfl, s1.cell 1 _ rfl, s1.cell 2 _ rfl, s1.cell 3 _ rfl, s1.cell 4 _ rfl, s2.cell 0 _ rfl, s2.cell 1 _ rfl, s2.cell 2 _ rfl, s2.cell 3 _ rfl, s2.cell 4 _ rfl⟩
        go_enter Try.func58, Try.ntmps58
        go_wp2_with fail
        rw [← hW0]
        clear hW0
        refine wp_region_fixW mixedX (fun V => Below W0.drew.heap.size W0.drew V) [(5, .pointer (some ⟨w.heap.size, 1, none⟩)), (6, .int .u16 (st1 : Nat)), (7, .pointer (some ⟨w.heap.size + 1, 1, none⟩)), (8, .int .u16 (st1 : Nat)), (9, .bool true), (10, .bool true), (11, .agg #[.int .u8 (fl1 : Nat), .int .u16 (st1 : Nat), .int .u16 (ss1 : Nat), .int .u32 (pp1 : Nat), .slice a1 n1 c1]), (12, .bool false), (13, .agg #[.int .u8 (fl2 : Nat), .int .u16 (st1 : Nat), .int .u16 (ss2 : Nat), .int .u32 (pp2 : Nat), .slice a2 n2 c2]), (14, .bool true), (15, .bool false), (16, .bool false), (17, .bool false), (18, undef), (19, undef), (20, undef), (21, undef), (22, undef), (23, undef), (24, undef), (25, undef), (26, undef), (27, .bool false), (4, .bool false)] ?Z3 ?hZ3 (by kernel_rfl) (by kernel_rfl) (by kernel_rfl) (by kernel_rfl) ?h03 ?hops3 ?he3
        case hZ3 => simp only [List.foldl_cons, List.foldl_nil, List.setIfInBounds_toArray, List.set_cons_zero, List.set_cons_succ]; rfl
        case h03 => exact Below.refl _ _
        case hops3 =>
          refine ⟨?_, ?_, ?_, ?_, ?_, ?_, ?_, ?_, ?_, ?_, ?_, ?_, ?_, ?_, ?_, ?_, ?_, ?_, ?_, ?_, ?_, ?_, ?_, ?_, trivial⟩
          · exact fix_val (by rfl) (fun W hW => by obtain ⟨d0, d1, d2, d3, d4, e0, e1, e2, e3, e4⟩ := HKC.out W hW; go_simp; (try with_reducible rfl); (try omega))
          · exact fix_val (by rfl) (fun W hW => by obtain ⟨d0, d1, d2, d3, d4, e0, e1, e2, e3, e4⟩ := HKC.out W hW; go_simp; (try with_reducible rfl); (try omega))
          · exact fix_val (by rfl) (fun W hW => by obtain ⟨d0, d1, d2, d3, d4, e0, e1, e2, e3, e4⟩ := HKC.out W hW; go_simp; (try with_reducible rfl); (try omega))
          · exact fix_val (by rfl) (fun W hW => by obtain ⟨d0, d1, d2, d3, d4, e0, e1, e2, e3, e4⟩ := HKC.out W hW; go_simp; (try with_reducible rfl); (try omega))
          · exact fix_val (by rfl) (fun W hW => by obtain ⟨d0, d1, d2, d3, d4, e0, e1, e2, e3, e4⟩ := HKC.out W hW; go_simp; (try with_reducible rfl); (try omega))
          · exact fix_val (by rfl) (fun W hW => by obtain ⟨d0, d1, d2, d3, d4, e0, e1, e2, e3, e4⟩ := HKC.out W hW; go_simp; (try with_reducible rfl); (try omega))
          · exact fix_val (by rfl) (fun W hW => by obtain ⟨d0, d1, d2, d3, d4, e0, e1, e2, e3, e4⟩ := HKC.out W hW; go_simp; (try with_reducible rfl); (try omega))
          · exact fix_call (vs := [.agg #[.int .u8 (fl1 : Nat), .int .u16 (st1 : Nat), .int .u16 (ss1 : Nat), .int .u32 (pp1 : Nat), .slice a1 n1 c1]]) (by rfl) rfl (by rfl) Try.func43 (by rfl) (by rfl) (fun W hW => by exact (HF1.out W).mono (fun e V h => ⟨h.1, hW.trans (h.2.mono hW.size)⟩))
          · exact fix_val (by rfl) (fun W hW => by obtain ⟨d0, d1, d2, d3, d4, e0, e1, e2, e3, e4⟩ := HKC.out W hW; go_simp; (try with_reducible rfl); (try omega))
          · exact fix_call (vs := [.agg #[.int .u8 (fl2 : Nat), .int .u16 (st1 : Nat), .int .u16 (ss2 : Nat), .int .u32 (pp2 : Nat), .slice a2 n2 c2]]) (by rfl) rfl (by rfl) Try.func43 (by rfl) (by rfl) (fun W hW => by exact (HF2.out W).mono (fun e V h => ⟨h.1, hW.trans (h.2.mono hW.size)⟩))
          · exact fix_val (by rfl) (fun W hW => by obtain ⟨d0, d1, d2, d3, d4, e0, e1, e2, e3, e4⟩ := HKC.out W hW; go_simp; (try with_reducible rfl); (try omega))
          · exact fix_val (by rfl) (fun W hW => by obtain ⟨d0, d1, d2, d3, d4, e0, e1, e2, e3, e4⟩ := HKC.out W hW; go_simp; (try with_reducible rfl); (try omega))
          · exact fix_val (by rfl) (fun W hW => by obtain ⟨d0, d1, d2, d3, d4, e0, e1, e2, e3, e4⟩ := HKC.out W hW; go_simp; (try with_reducible rfl); (try omega))
          · exact fix_off (by rfl) (fun d hd => by cases hd; rfl)
          · exact fix_off (by rfl) (fun d hd => by cases hd; rfl)
          · exact fix_off (by rfl) (fun d hd => by cases hd; rfl)
          · exact fix_off (by rfl) (fun d hd => by cases hd; rfl)
          · exact fix_off (by rfl) (fun d hd => by cases hd; rfl)
          · exact fix_off (by rfl) (fun d hd => by cases hd; rfl)
          · exact fix_off (by rfl) (fun d hd => by cases hd; rfl)
          · exact fix_off (by rfl) (fun d hd => by cases hd; rfl)
          · exact fix_off (by rfl) (fun d hd => by cases hd; rfl)
          · exact fix_val (by rfl) (fun W hW => by obtain ⟨d0, d1, d2, d3, d4, e0, e1, e2, e3, e4⟩ := HKC.out W hW; go_simp; (try with_reducible rfl); (try omega))
          · exact fix_val (by rfl) (fun W hW => by obtain ⟨d0, d1, d2, d3, d4, e0, e1, e2, e3, e4⟩ := HKC.out W hW; go_simp; (try with_reducible rfl); (try omega))
        case he3 =>
        intro V hV
        have HV := (show Hid _ from hV)
        clear hV
        go_wp2
        go_ret
        exact ⟨by simp, HB.out.trans (HV.out.mono HB.out.size)⟩
      | false =>
        by_cases hss : ss1 = ss2
        · subst hss
          obtain ⟨W0, hW0⟩ : ∃ W0, W0 = (w.alloc (.cells #[.int .u8 (fl1 : Nat), .int .u16 (st1 : Nat), .int .u16 (ss1 : Nat), .int .u32 (pp1 : Nat), .slice a1 n1 c1] 79)).alloc (.cells #[.int .u8 (fl2 : Nat), .int .u16 (st1 : Nat), .int .u16 (ss1 : Nat), .int .u32 (pp2 : Nat), .slice a2 n2 c2] 79) := ⟨_, rfl⟩
          have HB : Hid (Below w.heap.size w W0.drew) := by
            show Below _ _ _
            rw [hW0]
            exact (((Below.refl _ _).alloc (Nat.le_refl _) _).alloc (by simp) _).drew
          have HKC : Hid (∀ V, Below W0.drew.heap.size W0.drew V → V.cell? ⟨w.heap.size, 0, none⟩ = some (.int .u8 (fl1 : Nat)) ∧ V.cell? ⟨w.heap.size, 1, none⟩ = some (.int .u16 (st1 : Nat)) ∧ V.cell? ⟨w.heap.size, 2, none⟩ = some (.int .u16 (ss1 : Nat)) ∧ V.cell? ⟨w.heap.size, 3, none⟩ = some (.int .u32 (pp1 : Nat)) ∧ V.cell? ⟨w.heap.size, 4, none⟩ = some (.slice a1 n1 c1) ∧ V.cell? ⟨w.heap.size + 1, 0, none⟩ = some (.int .u8 (fl2 : Nat)) ∧ V.cell? ⟨w.heap.size + 1, 1, none⟩ = some (.int .u16 (st1 : Nat)) ∧ V.cell? ⟨w.heap.size + 1, 2, none⟩ = some (.int .u16 (ss1 : Nat)) ∧ V.cell? ⟨w.heap.size + 1, 3, none⟩ = some (.int .u32 (pp2 : Nat)) ∧ V.cell? ⟨w.heap.size + 1, 4, none⟩ = some (.slice a2 n2 c2)) := by
            intro V hV
            have s1 := ((Stc.new w [.int .u8 (fl1 : Nat), .int .u16 (st1 : Nat), .int .u16 (ss1 : Nat), .int .u32 (pp1 : Nat), .slice a1 n1 c1] 79 _ rfl).below (w' := W0) (by rw [hW0]; exact (Below.refl _ _).alloc (Nat.le_refl _) _)).below ((Below.refl _ _).drew.trans (hV.mono (Below.refl 0 W0).drew.size))
            have s2 := (Stc.new (w.alloc (.cells #[.int .u8 (fl1 : Nat), .int .u16 (st1 : Nat), .int .u16 (ss1 : Nat), .int .u32 (pp1 : Nat), .slice a1 n1 c1] 79)) [.int .u8 (fl2 : Nat), .int .u16 (st1 : Nat), .int .u16 (ss1 : Nat), .int .u32 (pp2 : Nat), .slice a2 n2 c2] 79 W0 hW0).below ((Below.refl _ _).drew.trans (hV.mono (Below.refl 0 W0).drew.size))
            rw [show (w.alloc (.cells #[.int .u8 (fl1 : Nat), .int .u16 (st1 : Nat), .int .u16 (ss1 : Nat), .int .u32 (pp1 : Nat), .slice a1 n1 c1] 79)).heap.size = w.heap.size + 1 by simp] at s2
            exact ⟨s1.cell 0 _ rfl, s1.cell 1 _ rfl, s1.cell 2 _ rfl, s1.cell 3 _ rfl, s1.cell 4 _ rfl, s2.cell 0 _ rfl, s2.cell 1 _ rfl, s2.cell 2 _ rfl, s2.cell 3 _ rfl, s2.cell 4 _ rfl⟩
          go_enter Try.func58, Try.ntmps58
          go_wp2_with fail
          rw [← hW0]
          clear hW0
          refine wp_region_fixW mixedX (fun V => Below W0.drew.heap.size W0.drew V) [(5, .pointer (some ⟨w.heap.size, 1, none⟩)), (6, .int .u16 (st1 : Nat)), (7, .pointer (some ⟨w.heap.size + 1, 1, none⟩)), (8, .int .u16 (st1 : Nat)), (9, .bool true), (10, .bool true), (11, .agg #[.int .u8 (fl1 : Nat), .int .u16 (st1 : Nat), .int .u16 (ss1 : Nat), .int .u32 (pp1 : Nat), .slice a1 n1 c1]), (12, .bool false), (13, .agg #[.int .u8 (fl2 : Nat), .int .u16 (st1 : Nat), .int .u16 (ss1 : Nat), .int .u32 (pp2 : Nat), .slice a2 n2 c2]), (14, .bool false), (15, .bool true), (16, .bool true), (17, .bool true), (18, .agg #[.int .u8 (fl1 : Nat), .int .u16 (st1 : Nat), .int .u16 (ss1 : Nat), .int .u32 (pp1 : Nat), .slice a1 n1 c1]), (19, .bool false), (20, .bool false), (21, .pointer (some ⟨w.heap.size, 2, none⟩)), (22, .int .u16 (ss1 : Nat)), (23, .pointer (some ⟨w.heap.size + 1, 2, none⟩)), (24, .int .u16 (ss1 : Nat)), (25, .bool true), (26, .bool true), (27, .bool true), (4, .bool true)] ?Z4 ?hZ4 (by kernel_rfl) (by kernel_rfl) (by kernel_rfl) (by kernel_rfl) ?h04 ?hops4 ?he4
          case hZ4 => simp only [List.foldl_cons, List.foldl_nil, List.setIfInBounds_toArray, List.set_cons_zero, List.set_cons_succ]; rfl
          case h04 => exact Below.refl _ _
          case hops4 =>
            refine ⟨?_, ?_, ?_, ?_, ?_, ?_, ?_, ?_, ?_, ?_, ?_, ?_, ?_, ?_, ?_, ?_, ?_, ?_, ?_, ?_, ?_, ?_, ?_, ?_, trivial⟩
            · exact fix_val (by rfl) (fun W hW => by obtain ⟨d0, d1, d2, d3, d4, e0, e1, e2, e3, e4⟩ := HKC.out W hW; go_simp; (try with_reducible rfl); (try omega))
            · exact fix_val (by rfl) (fun W hW => by obtain ⟨d0, d1, d2, d3, d4, e0, e1, e2, e3, e4⟩ := HKC.out W hW; go_simp; (try with_reducible rfl); (try omega))
            · exact fix_val (by rfl) (fun W hW => by obtain ⟨d0, d1, d2, d3, d4, e0, e1, e2, e3, e4⟩ := HKC.out W hW; go_simp; (try with_reducible rfl); (try omega))
            · exact fix_val (by rfl) (fun W hW => by obtain ⟨d0, d1, d2, d3, d4, e0, e1, e2, e3, e4⟩ := HKC.out W hW; go_simp; (try with_reducible rfl); (try omega))
            · exact fix_val (by rfl) (fun W hW => by obtain ⟨d0, d1, d2, d3, d4, e0, e1, e2, e3, e4⟩ := HKC.out W hW; go_simp; (try with_reducible rfl); (try omega))
            · exact fix_val (by rfl) (fun W hW => by obtain ⟨d0, d1, d2, d3, d4, e0, e1, e2, e3, e4⟩ := HKC.out W hW; go_simp; (try with_reducible rfl); (try omega))
            · exact fix_val (by rfl) (fun W hW => by obtain ⟨d0, d1, d2, d3, d4, e0, e1, e2, e3, e4⟩ := HKC.out W hW; go_simp; (try with_reducible rfl); (try omega))
            · exact fix_call (vs := [.agg #[.int .u8 (fl1 : Nat), .int .u16 (st1 : Nat), .int .u16 (ss1 : Nat), .int .u32 (pp1 : Nat), .slice a1 n1 c1]]) (by rfl) rfl (by rfl) Try.func43 (by rfl) (by rfl) (fun W hW => by exact (HF1.out W).mono (fun e V h => ⟨h.1, hW.trans (h.2.mono hW.size)⟩))
            · exact fix_val (by rfl) (fun W hW => by obtain ⟨d0, d1, d2, d3, d4, e0, e1, e2, e3, e4⟩ := HKC.out W hW; go_simp; (try with_reducible rfl); (try omega))
            · exact fix_call (vs := [.agg #[.int .u8 (fl2 : Nat), .int .u16 (st1 : Nat), .int .u16 (ss1 : Nat), .int .u32 (pp2 : Nat), .slice a2 n2 c2]]) (by rfl) rfl (by rfl) Try.func43 (by rfl) (by rfl) (fun W hW => by exact (HF2.out W).mono (fun e V h => ⟨h.1, hW.trans (h.2.mono hW.size)⟩))
            · exact fix_val (by rfl) (fun W hW => by obtain ⟨d0, d1, d2, d3, d4, e0, e1, e2, e3, e4⟩ := HKC.out W hW; go_simp; (try with_reducible rfl); (try omega))
            · exact fix_val (by rfl) (fun W hW => by obtain ⟨d0, d1, d2, d3, d4, e0, e1, e2, e3, e4⟩ := HKC.out W hW; go_simp; (try with_reducible rfl); (try omega))
            · exact fix_val (by rfl) (fun W hW => by obtain ⟨d0, d1, d2, d3, d4, e0, e1, e2, e3, e4⟩ := HKC.out W hW; go_simp; (try with_reducible rfl); (try omega))
            · exact fix_val (by rfl) (fun W hW => by obtain ⟨d0, d1, d2, d3, d4, e0, e1, e2, e3, e4⟩ := HKC.out W hW; go_simp; (try with_reducible rfl); (try omega))
            · exact fix_call (vs := [.agg #[.int .u8 (fl1 : Nat), .int .u16 (st1 : Nat), .int .u16 (ss1 : Nat), .int .u32 (pp1 : Nat), .slice a1 n1 c1]]) (by rfl) rfl (by rfl) Try.func43 (by rfl) (by rfl) (fun W hW => by exact (HF1.out W).mono (fun e V h => ⟨h.1, hW.trans (h.2.mono hW.size)⟩))
            · exact fix_val (by rfl) (fun W hW => by obtain ⟨d0, d1, d2, d3, d4, e0, e1, e2, e3, e4⟩ := HKC.out W hW; go_simp; (try with_reducible rfl); (try omega))
            · exact fix_val (by rfl) (fun W hW => by obtain ⟨d0, d1, d2, d3, d4, e0, e1, e2, e3, e4⟩ := HKC.out W hW; go_simp; (try with_reducible rfl); (try omega))
            · exact fix_val (by rfl) (fun W hW => by obtain ⟨d0, d1, d2, d3, d4, e0, e1, e2, e3, e4⟩ := HKC.out W hW; go_simp; (try with_reducible rfl); (try omega))
            · exact fix_val (by rfl) (fun W hW => by obtain ⟨d0, d1, d2, d3, d4, e0, e1, e2, e3, e4⟩ := HKC.out W hW; go_simp; (try with_reducible rfl); (try omega))
            · exact fix_val (by rfl) (fun W hW => by obtain ⟨d0, d1, d2, d3, d4, e0, e1, e2, e3, e4⟩ := HKC.out W hW; go_simp; (try with_reducible rfl); (try omega))
            · exact fix_val (by rfl) (fun W hW => by obtain ⟨d0, d1, d2, d3, d4, e0, e1, e2, e3, e4⟩ := HKC.out W hW; go_simp; (try with_reducible rfl); (try omega))
            · exact fix_val (by rfl) (fun W hW => by obtain ⟨d0, d1, d2, d3, d4, e0, e1, e2, e3, e4⟩ := HKC.out W hW; go_simp; (try with_reducible rfl); (try omega))
            · exact fix_val (by rfl) (fun W hW => by obtain ⟨d0, d1, d2, d3, d4, e0, e1, e2, e3, e4⟩ := HKC.out W hW; go_simp; (try with_reducible rfl); (try omega))
            · exact fix_val (by rfl) (fun W hW => by obtain ⟨d0, d1, d2, d3, d4, e0, e1, e2, e3, e4⟩ := HKC.out W hW; go_simp; (try with_reducible rfl); (try omega))
          case he4 =>
          intro V hV
          have HV := (show Hid _ from hV)
          clear hV
          go_wp2
          go_ret
          exact ⟨by simp, HB.out.trans (HV.out.mono HB.out.size)⟩
        · have hne : ¬ ((ss1 : Nat) : Int) = (ss2 : Nat) := by omega
          have hnb : (((ss1 : Nat) : Int) == (ss2 : Nat)) = false := by simp; omega
          obtain ⟨W0, hW0⟩ : ∃ W0, W0 = (w.alloc (.cells #[.int .u8 (fl1 : Nat), .int .u16 (st1 : Nat), .int .u16 (ss1 : Nat), .int .u32 (pp1 : Nat), .slice a1 n1 c1] 79)).alloc (.cells #[.int .u8 (fl2 : Nat), .int .u16 (st1 : Nat), .int .u16 (ss2 : Nat), .int .u32 (pp2 : Nat), .slice a2 n2 c2] 79) := ⟨_, rfl⟩
          have HB : Hid (Below w.heap.size w W0.drew) := by
            show Below _ _ _
            rw [hW0]
            exact (((Below.refl _ _).alloc (Nat.le_refl _) _).alloc (by simp) _).drew
          have HKC : Hid (∀ V, Below W0.drew.heap.size W0.drew V → V.cell? ⟨w.heap.size, 0, none⟩ = some (.int .u8 (fl1 : Nat)) ∧ V.cell? ⟨w.heap.size, 1, none⟩ = some (.int .u16 (st1 : Nat)) ∧ V.cell? ⟨w.heap.size, 2, none⟩ = some (.int .u16 (ss1 : Nat)) ∧ V.cell? ⟨w.heap.size, 3, none⟩ = some (.int .u32 (pp1 : Nat)) ∧ V.cell? ⟨w.heap.size, 4, none⟩ = some (.slice a1 n1 c1) ∧ V.cell? ⟨w.heap.size + 1, 0, none⟩ = some (.int .u8 (fl2 : Nat)) ∧ V.cell? ⟨w.heap.size + 1, 1, none⟩ = some (.int .u16 (st1 : Nat)) ∧ V.cell? ⟨w.heap.size + 1, 2, none⟩ = some (.int .u16 (ss2 : Nat)) ∧ V.cell? ⟨w.heap.size + 1, 3, none⟩ = some (.int .u32 (pp2 : Nat)) ∧ V.cell? ⟨w.heap.size + 1, 4, none⟩ = some (.slice a2 n2 c2)) := by
            intro V hV
            have s1 := ((Stc.new w [.int .u8 (fl1 : Nat), .int .u16 (st1 : Nat), .int .u16 (ss1 : Nat), .int .u32 (pp1 : Nat), .slice a1 n1 c1] 79 _ rfl).below (w' := W0) (by rw [hW0]; exact (Below.refl _ _).alloc (Nat.le_refl _) _)).below ((Below.refl _ _).drew.trans (hV.mono (Below.refl 0 W0).drew.size))
            have s2 := (Stc.new (w.alloc (.cells #[.int .u8 (fl1 : Nat), .int .u16 (st1 : Nat), .int .u16 (ss1 : Nat), .int .u32 (pp1 : Nat), .slice a1 n1 c1] 79)) [.int .u8 (fl2 : Nat), .int .u16 (st1 : Nat), .int .u16 (ss2 : Nat), .int .u32 (pp2 : Nat), .slice a2 n2 c2] 79 W0 hW0).below ((Below.refl _ _).drew.trans (hV.mono (Below.refl 0 W0).drew.size))
            rw [show (w.alloc (.cells #[.int .u8 (fl1 : Nat), .int .u16 (st1 : Nat), .int .u16 (ss1 : Nat), .int .u32 (pp1 : Nat), .slice a1 n1 c1] 79)).heap.size = w.heap.size + 1 by simp] at s2
            exact ⟨s1.cell 0 _ rfl, s1.cell 1 _ rfl, s1.cell 2 _ rfl, s1.cell 3 _ rfl, s1.cell 4 _ rfl, s2.cell 0 _ rfl, s2.cell 1 _ rfl, s2.cell 2 _ rfl, s2.cell 3 _ rfl, s2.cell 4 _ rfl⟩
          go_enter Try.func58, Try.ntmps58
          go_wp2_with fail
          rw [← hW0]
          clear hW0
          refine wp_region_fixW mixedX (fun V => Below W0.drew.heap.size W0.drew V) [(5, .pointer (some ⟨w.heap.size, 1, none⟩)), (6, .int .u16 (st1 : Nat)), (7, .pointer (some ⟨w.heap.size + 1, 1, none⟩)), (8, .int .u16 (st1 : Nat)), (9, .bool true), (10, .bool true), (11, .agg #[.int .u8 (fl1 : Nat), .int .u16 (st1 : Nat), .int .u16 (ss1 : Nat), .int .u32 (pp1 : Nat), .slice a1 n1 c1]), (12, .bool false), (13, .agg #[.int .u8 (fl2 : Nat), .int .u16 (st1 : Nat), .int .u16 (ss2 : Nat), .int .u32 (pp2 : Nat), .slice a2 n2 c2]), (14, .bool false), (15, .bool true), (16, .bool true), (17, .bool true), (18, .agg #[.int .u8 (fl1 : Nat), .int .u16 (st1 : Nat), .int .u16 (ss1 : Nat), .int .u32 (pp1 : Nat), .slice a1 n1 c1]), (19, .bool false), (20, .bool false), (21, .pointer (some ⟨w.heap.size, 2, none⟩)), (22, .int .u16 (ss1 : Nat)), (23, .pointer (some ⟨w.heap.size + 1, 2, none⟩)), (24, .int .u16 (ss2 : Nat)), (25, .bool false), (26, .bool false), (27, .bool false), (4, .bool false)] ?Z5 ?hZ5 (by kernel_rfl) (by kernel_rfl) (by kernel_rfl) (by kernel_rfl) ?h05 ?hops5 ?he5
          case hZ5 => simp only [List.foldl_cons, List.foldl_nil, List.setIfInBounds_toArray, List.set_cons_zero, List.set_cons_succ]; rfl
          case h05 => exact Below.refl _ _
          case hops5 =>
            refine ⟨?_, ?_, ?_, ?_, ?_, ?_, ?_, ?_, ?_, ?_, ?_, ?_, ?_, ?_, ?_, ?_, ?_, ?_, ?_, ?_, ?_, ?_, ?_, ?_, trivial⟩
            · exact fix_val (by rfl) (fun W hW => by obtain ⟨d0, d1, d2, d3, d4, e0, e1, e2, e3, e4⟩ := HKC.out W hW; go_simp; (try with_reducible rfl); (try omega))
            · exact fix_val (by rfl) (fun W hW => by obtain ⟨d0, d1, d2, d3, d4, e0, e1, e2, e3, e4⟩ := HKC.out W hW; go_simp; (try with_reducible rfl); (try omega))
            · exact fix_val (by rfl) (fun W hW => by obtain ⟨d0, d1, d2, d3, d4, e0, e1, e2, e3, e4⟩ := HKC.out W hW; go_simp; (try with_reducible rfl); (try omega))
            · exact fix_val (by rfl) (fun W hW => by obtain ⟨d0, d1, d2, d3, d4, e0, e1, e2, e3, e4⟩ := HKC.out W hW; go_simp; (try with_reducible rfl); (try omega))
            · exact fix_val (by rfl) (fun W hW => by obtain ⟨d0, d1, d2, d3, d4, e0, e1, e2, e3, e4⟩ := HKC.out W hW; go_simp; (try with_reducible rfl); (try omega))
            · exact fix_val (by rfl) (fun W hW => by obtain ⟨d0, d1, d2, d3, d4, e0, e1, e2, e3, e4⟩ := HKC.out W hW; go_simp; (try with_reducible rfl); (try omega))
            · exact fix_val (by rfl) (fun W hW => by obtain ⟨d0, d1, d2, d3, d4, e0, e1, e2, e3, e4⟩ := HKC.out W hW; go_simp; (try with_reducible rfl); (try omega))
            · exact fix_call (vs := [.agg #[.int .u8 (fl1 : Nat), .int .u16 (st1 : Nat), .int .u16 (ss1 : Nat), .int .u32 (pp1 : Nat), .slice a1 n1 c1]]) (by rfl) rfl (by rfl) Try.func43 (by rfl) (by rfl) (fun W hW => by exact (HF1.out W).mono (fun e V h => ⟨h.1, hW.trans (h.2.mono hW.size)⟩))
            · exact fix_val (by rfl) (fun W hW => by obtain ⟨d0, d1, d2, d3, d4, e0, e1, e2, e3, e4⟩ := HKC.out W hW; go_simp; (try with_reducible rfl); (try omega))
            · exact fix_call (vs := [.agg #[.int .u8 (fl2 : Nat), .int .u16 (st1 : Nat), .int .u16 (ss2 : Nat), .int .u32 (pp2 : Nat), .slice a2 n2 c2]]) (by rfl) rfl (by rfl) Try.func43 (by rfl) (by rfl) (fun W hW => by exact (HF2.out W).mono (fun e V h => ⟨h.1, hW.trans (h.2.mono hW.size)⟩))
            · exact fix_val (by rfl) (fun W hW => by obtain ⟨d0, d1, d2, d3, d4, e0, e1, e2, e3, e4⟩ := HKC.out W hW; go_simp; (try with_reducible rfl); (try omega))
            · exact fix_val (by rfl) (fun W hW => by obtain ⟨d0, d1, d2, d3, d4, e0, e1, e2, e3, e4⟩ := HKC.out W hW; go_simp; (try with_reducible rfl); (try omega))
            · exact fix_val (by rfl) (fun W hW => by obtain ⟨d0, d1, d2, d3, d4, e0, e1, e2, e3, e4⟩ := HKC.out W hW; go_simp; (try with_reducible rfl); (try omega))
            · exact fix_val (by rfl) (fun W hW => by obtain ⟨d0, d1, d2, d3, d4, e0, e1, e2, e3, e4⟩ := HKC.out W hW; go_simp; (try with_reducible rfl); (try omega))
            · exact fix_call (vs := [.agg #[.int .u8 (fl1 : Nat), .int .u16 (st1 : Nat), .int .u16 (ss1 : Nat), .int .u32 (pp1 : Nat), .slice a1 n1 c1]]) (by rfl) rfl (by rfl) Try.func43 (by rfl) (by rfl) (fun W hW => by exact (HF1.out W).mono (fun e V h => ⟨h.1, hW.trans (h.2.mono hW.size)⟩))
            · exact fix_val (by rfl) (fun W hW => by obtain ⟨d0, d1, d2, d3, d4, e0, e1, e2, e3, e4⟩ := HKC.out W hW; go_simp; (try with_reducible rfl); (try omega))
            · exact fix_val (by rfl) (fun W hW => by obtain ⟨d0, d1, d2, d3, d4, e0, e1, e2, e3, e4⟩ := HKC.out W hW; go_simp; (try with_reducible rfl); (try omega))
            · exact fix_val (by rfl) (fun W hW => by obtain ⟨d0, d1, d2, d3, d4, e0, e1, e2, e3, e4⟩ := HKC.out W hW; go_simp; (try with_reducible rfl); (try omega))
            · exact fix_val (by rfl) (fun W hW => by obtain ⟨d0, d1, d2, d3, d4, e0, e1, e2, e3, e4⟩ := HKC.out W hW; go_simp; (try with_reducible rfl); (try omega))
            · exact fix_val (by rfl) (fun W hW => by obtain ⟨d0, d1, d2, d3, d4, e0, e1, e2, e3, e4⟩ := HKC.out W hW; go_simp; (try with_reducible rfl); (try omega))
            · exact fix_val (by rfl) (fun W hW => by obtain ⟨d0, d1, d2, d3, d4, e0, e1, e2, e3, e4⟩ := HKC.out W hW; go_simp; (try with_reducible rfl); (try omega))
            · exact fix_val (by rfl) (fun W hW => by obtain ⟨d0, d1, d2, d3, d4, e0, e1, e2, e3, e4⟩ := HKC.out W hW; go_simp; (try with_reducible rfl); (try omega))
            · exact fix_val (by rfl) (fun W hW => by obtain ⟨d0, d1, d2, d3, d4, e0, e1, e2, e3, e4⟩ := HKC.out W hW; go_simp; (try with_reducible rfl); (try omega))
            · exact fix_val (by rfl) (fun W hW => by obtain ⟨d0, d1, d2, d3, d4, e0, e1, e2, e3, e4⟩ := HKC.out W hW; go_simp; (try with_reducible rfl); (try omega))
          case he5 =>
          intro V hV
          have HV := (show Hid _ from hV)
          clear hV
          go_wp2
          go_ret
          exact ⟨by simp [hss], HB.out.trans (HV.out.mono HB.out.size)⟩
  · have hne : ¬ ((st1 : Nat) : Int) = (st2 : Nat) := by omega
    have hnb : (((st1 : Nat) : Int) == (st2 : Nat)) = false := by simp; omega
    obtain ⟨W0, hW0⟩ : ∃ W0, W0 = (w.alloc (.cells #[.int .u8 (fl1 : Nat), .int .u16 (st1 : Nat), .int .u16 (ss1 : Nat), .int .u32 (pp1 : Nat), .slice a1 n1 c1] 79)).alloc (.cells #[.int .u8 (fl2 : Nat), .int .u16 (st2 : Nat), .int .u16 (ss2 : Nat), .int .u32 (pp2 : Nat), .slice a2 n2 c2] 79) := ⟨_, rfl⟩
    have HB : Hid (Below w.heap.size w W0.drew) := by
      show Below _ _ _
      rw [hW0]
      exact (((Below.refl _ _).alloc (Nat.le_refl _) _).alloc (by simp) _).drew
    have HKC : Hid (∀ V, Below W0.drew.heap.size W0.drew V → V.cell? ⟨w.heap.size, 0, none⟩ = some (.int .u8 (fl1 : Nat)) ∧ V.cell? ⟨w.heap.size, 1, none⟩ = some (.int .u16 (st1 : Nat)) ∧ V.cell? ⟨w.heap.size, 2, none⟩ = some (.int .u16 (ss1 : Nat)) ∧ V.cell? ⟨w.heap.size, 3, none⟩ = some (.int .u32 (pp1 : Nat)) ∧ V.cell? ⟨w.heap.size, 4, none⟩ = some (.slice a1 n1 c1) ∧ V.cell? ⟨w.heap.size + 1, 0, none⟩ = some (.int .u8 (fl2 : Nat)) ∧ V.cell? ⟨w.heap.size + 1, 1, none⟩ = some (.int .u16 (st2 : Nat)) ∧ V.cell? ⟨w.heap.size + 1, 2, none⟩ = some (.int .u16 (ss2 : Nat)) ∧ V.cell? ⟨w.heap.size + 1, 3, none⟩ = some (.int .u32 (pp2 : Nat)) ∧ V.cell? ⟨w.heap.size + 1, 4, none⟩ = some (.slice a2 n2 c2)) := by
      intro V hV
      have s1 := ((Stc.new w [.int .u8 (fl1 : Nat), .int .u16 (st1 : Nat), .int .u16 (ss1 : Nat), .int .u32 (pp1 : Nat), .slice a1 n1 c1] 79 _ rfl).below (w' := W0) (by rw [hW0]; exact (Below.refl _ _).alloc (Nat.le_refl _) _)).below ((Below.refl _ _).drew.trans (hV.mono (Below.refl 0 W0).drew.size))
      have s2 := (Stc.new (w.alloc (.cells #[.int .u8 (fl1 : Nat), .int .u16 (st1 : Nat), .int .u16 (ss1 : Nat), .int .u32 (pp1 : Nat), .slice a1 n1 c1] 79)) [.int .u8 (fl2 : Nat), .int .u16 (st2 : Nat), .int .u16 (ss2 : Nat), .int .u32 (pp2 : Nat), .slice a2 n2 c2] 79 W0 hW0).below ((Below.refl _ _).drew.trans (hV.mono (Below.refl 0 W0).drew.size))
      rw [show (w.alloc (.cells #[.int .u8 (fl1 : Nat), .int .u16 (st1 : Nat), .int .u16 (ss1 : Nat), .int .u32 (pp1 : Nat), .slice a1 n1 c1] 79)).heap.size = w.heap.size + 1 by simp] at s2
      exact ⟨s1.cell 0 _ rfl, s1.cell 1 _ rfl, s1.cell 2 _ rfl, s1.cell 3 _ rfl, s1.cell 4 _ rfl, s2.cell 0 _ rfl, s2.cell 1 _ rfl, s2.cell 2 _ rfl, s2.cell 3 _ rfl, s2.cell 4 _ rfl⟩
    go_enter Try.func58, Try.ntmps58
    go_wp2_with fail
    rw [← hW0]
    clear hW0
    refine wp_region_fixW mixedX (fun V => Below W0.drew.heap.size W0.drew V) [(5, .pointer (some ⟨w.heap.size, 1, none⟩)), (6, .int .u16 (st1 : Nat)), (7, .pointer (some ⟨w.heap.size + 1, 1, none⟩)), (8, .int .u16 (st2 : Nat)), (9, .bool false), (10, .bool false), (11, undef), (12, undef), (13, undef), (14, undef), (15, undef), (16, .bool false), (17, .bool false), (18, undef), (19, undef), (20, undef), (21, undef), (22, undef), (23, undef), (24, undef), (25, undef), (26, undef), (27, .bool false), (4, .bool false)] ?Z6 ?hZ6 (by kernel_rfl) (by kernel_rfl) (by kernel_rfl) (by kernel_rfl) ?h06 ?hops6 ?he6
    case hZ6 => simp only [List.foldl_cons, List.foldl_nil, List.setIfInBounds_toArray, List.set_cons_zero, List.set_cons_succ]; rfl
    case h06 => exact Below.refl _ _
    case hops6 =>
      refine ⟨?_, ?_, ?_, ?_, ?_, ?_, ?_, ?_, ?_, ?_, ?_, ?_, ?_, ?_, ?_, ?_, ?_, ?_, ?_, ?_, ?_, ?_, ?_, ?_, trivial⟩
      · exact fix_val (by rfl) (fun W hW => by obtain ⟨d0, d1, d2, d3, d4, e0, e1, e2, e3, e4⟩ := HKC.out W hW; go_simp; (try with_reducible rfl); (try omega))
      · exact fix_val (by rfl) (fun W hW => by obtain ⟨d0, d1, d2, d3, d4, e0, e1, e2, e3, e4⟩ := HKC.out W hW; go_simp; (try with_reducible rfl); (try omega))
      · exact fix_val (by rfl) (fun W hW => by obtain ⟨d0, d1, d2, d3, d4, e0, e1, e2, e3, e4⟩ := HKC.out W hW; go_simp; (try with_reducible rfl); (try omega))
      · exact fix_val (by rfl) (fun W hW => by obtain ⟨d0, d1, d2, d3, d4, e0, e1, e2, e3, e4⟩ := HKC.out W hW; go_simp; (try with_reducible rfl); (try omega))
      · exact fix_val (by rfl) (fun W hW => by obtain ⟨d0, d1, d2, d3, d4, e0, e1, e2, e3, e4⟩ := HKC.out W hW; go_simp; (try with_reducible rfl); (try omega))
      · exact fix_val (by rfl) (fun W hW => by obtain ⟨d0, d1, d2, d3, d4, e0, e1, e2, e3, e4⟩ := HKC.out W hW; go_simp; (try with_reducible rfl); (try omega))
      · exact fix_off (by rfl) (fun d hd => by cases hd; rfl)
      · exact fix_off (by rfl) (fun d hd => by cases hd; rfl)
      · exact fix_off (by rfl) (fun d hd => by cases hd; rfl)
      · exact fix_off (by rfl) (fun d hd => by cases hd; rfl)
      · exact fix_off (by rfl) (fun d hd => by cases hd; rfl)
      · exact fix_val (by rfl) (fun W hW => by obtain ⟨d0, d1, d2, d3, d4, e0, e1, e2, e3, e4⟩ := HKC.out W hW; go_simp; (try with_reducible rfl); (try omega))
      · exact fix_val (by rfl) (fun W hW => by obtain ⟨d0, d1, d2, d3, d4, e0, e1, e2, e3, e4⟩ := HKC.out W hW; go_simp; (try with_reducible rfl); (try omega))
      · exact fix_off (by rfl) (fun d hd => by cases hd; rfl)
      · exact fix_off (by rfl) (fun d hd => by cases hd; rfl)
      · exact fix_off (by rfl) (fun d hd => by cases hd; rfl)
      · exact fix_off (by rfl) (fun d hd => by cases hd; rfl)
      · exact fix_off (by rfl) (fun d hd => by cases hd; rfl)
      · exact fix_off (by rfl) (fun d hd => by cases hd; rfl)
      · exact fix_off (by rfl) (fun d hd => by cases hd; rfl)
      · exact fix_off (by rfl) (fun d hd => by cases hd; rfl)
      · exact fix_off (by rfl) (fun d hd => by cases hd; rfl)
      · exact fix_val (by rfl) (fun W hW => by obtain ⟨d0, d1, d2, d3, d4, e0, e1, e2, e3, e4⟩ := HKC.out W hW; go_simp; (try with_reducible rfl); (try omega))
      · exact fix_val (by rfl) (fun W hW => by obtain ⟨d0, d1, d2, d3, d4, e0, e1, e2, e3, e4⟩ := HKC.out W hW; go_simp; (try with_reducible rfl); (try omega))
    case he6 =>
    intro V hV
    have HV := (show Hid _ from hV)
    clear hV
    go_wp2
    go_ret
    exact ⟨by simp [hst], HB.out.trans (HV.out.mono HB.out.size)⟩
end Go.Proofs.Ytjaheelgcjafcaa
