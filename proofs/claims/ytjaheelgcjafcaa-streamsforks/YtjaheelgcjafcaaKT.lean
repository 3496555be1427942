/- trunklineref13: run: a piece that is not of the message. -/
import Derived.Test.YtjaheelgcjafcaaKS
namespace Go.Proofs.Ytjaheelgcjafcaa
open Go.RowKit
set_option maxRecDepth 100000 in
set_option maxHeartbeats 8000000 in
set_option tactic.hygienic false in
/-- Two ways are left. -/
noncomputable def runD : PSigma fun G5 : Prop => PSigma fun G3 : Prop => Hid G5 → Hid G3 → runK.1 := by
  apply PSigma.mk
  case snd =>
  apply PSigma.mk
  case snd =>
    intro h5 h3
    unfold runK
    dsimp only
    intros
    by_cases hst : (x.st : Int) = (y.st : Int)
    · cases fa <;> cases fb
      · by_cases hss : (x.ss : Int) = (y.ss : Int)
        · clear h3; (repeat revert ‹_›); intro h5; exact h5.out
        · have HNO : Hid (fitB x.pc y.pc = false) := by
            show fitB x.pc y.pc = false
            unfold fitB
            rw [← HFA.out, ← HFB.out]
            show ((x.st == y.st) && true && (false || x.ss == y.ss)) = false
            rw [show (x.ss == y.ss) = false by rw [beq_eq_false_iff_ne]; omega]
            simp
          clear h5 h3
          refine wp_region_fixW mixedX (fun V => Below V2.drew.heap.size V2.drew V) [(25, .slice (some ⟨g, 0, none⟩) k oc), (26, .int .i64 (k : Nat)), (27, .bool true), (28, .bool true), (29, .pointer (some ⟨V1.heap.size, 3, none⟩)), (30, .int .u16 (x.st : Nat)), (31, .slice (some ⟨g, 0, none⟩) k oc), (32, .pointer (some ⟨g, 0, none⟩)), (33, .pointer (some ⟨g, 3, none⟩)), (34, .int .u16 (y.st : Nat)), (35, .bool false), (36, .bool false), (37, .agg #[.int .u8 (x.k : Nat), .int .u8 (x.f : Nat), .int .u32 (x.t : Nat), .int .u16 (x.st : Nat), .int .u16 (x.ss : Nat), .int .u32 (x.pp : Nat), .int .u32 (x.tg : Nat), .int .u32 (x.rm : Nat), .int .u16 (x.os : Nat), .int .u16 (x.is : Nat), .slice x.bA x.bN x.bC, .slice x.dA x.dN x.dC, .slice x.pA x.pN x.pC, .slice x.xA x.xN x.xC]), (38, .bool false), (39, .slice (some ⟨g, 0, none⟩) k oc), (40, .pointer (some ⟨g, 0, none⟩)), (41, .agg #[.int .u8 (y.k : Nat), .int .u8 (y.f : Nat), .int .u32 (y.t : Nat), .int .u16 (y.st : Nat), .int .u16 (y.ss : Nat), .int .u32 (y.pp : Nat), .int .u32 (y.tg : Nat), .int .u32 (y.rm : Nat), .int .u16 (y.os : Nat), .int .u16 (y.is : Nat), .slice y.bA y.bN y.bC, .slice y.dA y.dN y.dC, .slice y.pA y.pN y.pC, .slice y.xA y.xN y.xC]), (42, .bool false), (43, .bool false), (44, .bool false), (45, .bool false), (46, .agg #[.int .u8 (x.k : Nat), .int .u8 (x.f : Nat), .int .u32 (x.t : Nat), .int .u16 (x.st : Nat), .int .u16 (x.ss : Nat), .int .u32 (x.pp : Nat), .int .u32 (x.tg : Nat), .int .u32 (x.rm : Nat), .int .u16 (x.os : Nat), .int .u16 (x.is : Nat), .slice x.bA x.bN x.bC, .slice x.dA x.dN x.dC, .slice x.pA x.pN x.pC, .slice x.xA x.xN x.xC]), (47, .bool false), (48, .bool true), (49, .bool true), (50, .pointer (some ⟨V1.heap.size, 4, none⟩)), (51, .int .u16 (x.ss : Nat)), (52, .slice (some ⟨g, 0, none⟩) k oc), (53, .pointer (some ⟨g, 0, none⟩)), (54, .pointer (some ⟨g, 4, none⟩)), (55, .int .u16 (y.ss : Nat)), (56, .bool true), (57, .bool true), (58, .bool true), (59, .bool true)] ?Z2 ?hZ2 (by kernel_rfl) (by kernel_rfl) (by kernel_rfl) (by kernel_rfl) ?h02 ?hops2 ?he2
          case hZ2 => simp only [List.foldl_cons, List.foldl_nil, List.setIfInBounds_toArray, List.set_cons_zero, List.set_cons_succ]; rfl
          case h02 => exact Below.refl _ _
          case hops2 =>
            refine ⟨?_, ?_, ?_, ?_, ?_, ?_, ?_, ?_, ?_, ?_, ?_, ?_, ?_, ?_, ?_, ?_, ?_, ?_, ?_, ?_, ?_, ?_, ?_, ?_, ?_, ?_, ?_, ?_, ?_, ?_, ?_, ?_, ?_, ?_, ?_, trivial⟩
            · exact fix_val (by rfl) (fun W hW => by obtain ⟨d0, d1, d2, d3, d4, d5, d6, d7, d8, d9, d10, d11, d12, d13, d14, d15, d16, d17, d18, d19, d20, d21, d22, d23, d24, d25, d26, d27⟩ := HKC.out W hW; go_simp; (try with_reducible rfl); (try omega))
            · exact fix_val (by rfl) (fun W hW => by obtain ⟨d0, d1, d2, d3, d4, d5, d6, d7, d8, d9, d10, d11, d12, d13, d14, d15, d16, d17, d18, d19, d20, d21, d22, d23, d24, d25, d26, d27⟩ := HKC.out W hW; go_simp; (try with_reducible rfl); (try omega))
            · exact fix_val (by rfl) (fun W hW => by obtain ⟨d0, d1, d2, d3, d4, d5, d6, d7, d8, d9, d10, d11, d12, d13, d14, d15, d16, d17, d18, d19, d20, d21, d22, d23, d24, d25, d26, d27⟩ := HKC.out W hW; go_simp; (try with_reducible rfl); (try omega))
            · exact fix_val (by rfl) (fun W hW => by obtain ⟨d0, d1, d2, d3, d4, d5, d6, d7, d8, d9, d10, d11, d12, d13, d14, d15, d16, d17, d18, d19, d20, d21, d22, d23, d24, d25, d26, d27⟩ := HKC.out W hW; go_simp; (try with_reducible rfl); (try omega))
            · exact fix_val (by rfl) (fun W hW => by obtain ⟨d0, d1, d2, d3, d4, d5, d6, d7, d8, d9, d10, d11, d12, d13, d14, d15, d16, d17, d18, d19, d20, d21, d22, d23, d24, d25, d26, d27⟩ := HKC.out W hW; go_simp; (try with_reducible rfl); (try omega))
            · exact fix_val (by rfl) (fun W hW => by obtain ⟨d0, d1, d2, d3, d4, d5, d6, d7, d8, d9, d10, d11, d12, d13, d14, d15, d16, d17, d18, d19, d20, d21, d22, d23, d24, d25, d26, d27⟩ := HKC.out W hW; go_simp; (try with_reducible rfl); (try omega))
            · exact fix_val (by rfl) (fun W hW => by obtain ⟨d0, d1, d2, d3, d4, d5, d6, d7, d8, d9, d10, d11, d12, d13, d14, d15, d16, d17, d18, d19, d20, d21, d22, d23, d24, d25, d26, d27⟩ := HKC.out W hW; go_simp; (try with_reducible rfl); (try omega))
            · exact fix_val (by rfl) (fun W hW => by obtain ⟨d0, d1, d2, d3, d4, d5, d6, d7, d8, d9, d10, d11, d12, d13, d14, d15, d16, d17, d18, d19, d20, d21, d22, d23, d24, d25, d26, d27⟩ := HKC.out W hW; go_simp; (try with_reducible rfl); (try omega))
            · exact fix_val (by rfl) (fun W hW => by obtain ⟨d0, d1, d2, d3, d4, d5, d6, d7, d8, d9, d10, d11, d12, d13, d14, d15, d16, d17, d18, d19, d20, d21, d22, d23, d24, d25, d26, d27⟩ := HKC.out W hW; go_simp; (try with_reducible rfl); (try omega))
            · exact fix_val (by rfl) (fun W hW => by obtain ⟨d0, d1, d2, d3, d4, d5, d6, d7, d8, d9, d10, d11, d12, d13, d14, d15, d16, d17, d18, d19, d20, d21, d22, d23, d24, d25, d26, d27⟩ := HKC.out W hW; go_simp; (try with_reducible rfl); (try omega))
            · exact fix_val (by rfl) (fun W hW => by obtain ⟨d0, d1, d2, d3, d4, d5, d6, d7, d8, d9, d10, d11, d12, d13, d14, d15, d16, d17, d18, d19, d20, d21, d22, d23, d24, d25, d26, d27⟩ := HKC.out W hW; go_simp; (try with_reducible rfl); (try omega))
            · exact fix_val (by rfl) (fun W hW => by obtain ⟨d0, d1, d2, d3, d4, d5, d6, d7, d8, d9, d10, d11, d12, d13, d14, d15, d16, d17, d18, d19, d20, d21, d22, d23, d24, d25, d26, d27⟩ := HKC.out W hW; go_simp; (try with_reducible rfl); (try omega))
            · exact fix_val (by rfl) (fun W hW => by obtain ⟨d0, d1, d2, d3, d4, d5, d6, d7, d8, d9, d10, d11, d12, d13, d14, d15, d16, d17, d18, d19, d20, d21, d22, d23, d24, d25, d26, d27⟩ := HKC.out W hW; go_simp; (try with_reducible rfl); (try omega))
            · exact fix_call (vs := [.agg #[.int .u8 (x.k : Nat), .int .u8 (x.f : Nat), .int .u32 (x.t : Nat), .int .u16 (x.st : Nat), .int .u16 (x.ss : Nat), .int .u32 (x.pp : Nat), .int .u32 (x.tg : Nat), .int .u32 (x.rm : Nat), .int .u16 (x.os : Nat), .int .u16 (x.is : Nat), .slice x.bA x.bN x.bC, .slice x.dA x.dN x.dC, .slice x.pA x.pN x.pC, .slice x.xA x.xN x.xC]]) (by rfl) rfl (by rfl) Try.func64 (by rfl) (by rfl) (fun W hW => by (exact (rfree_any x W hxf _ rfl).mono (fun e V h => ⟨by rw [h.1, ← HFA.out]; rfl, hW.trans (h.2.mono hW.size)⟩)))
            · exact fix_val (by rfl) (fun W hW => by obtain ⟨d0, d1, d2, d3, d4, d5, d6, d7, d8, d9, d10, d11, d12, d13, d14, d15, d16, d17, d18, d19, d20, d21, d22, d23, d24, d25, d26, d27⟩ := HKC.out W hW; go_simp; (try with_reducible rfl); (try omega))
            · exact fix_val (by rfl) (fun W hW => by obtain ⟨d0, d1, d2, d3, d4, d5, d6, d7, d8, d9, d10, d11, d12, d13, d14, d15, d16, d17, d18, d19, d20, d21, d22, d23, d24, d25, d26, d27⟩ := HKC.out W hW; go_simp; (try with_reducible rfl); (try omega))
            · exact fix_val (by rfl) (fun W hW => by obtain ⟨d0, d1, d2, d3, d4, d5, d6, d7, d8, d9, d10, d11, d12, d13, d14, d15, d16, d17, d18, d19, d20, d21, d22, d23, d24, d25, d26, d27⟩ := HKC.out W hW; go_simp; (try with_reducible rfl); (try omega))
            · exact fix_call (vs := [.agg #[.int .u8 (y.k : Nat), .int .u8 (y.f : Nat), .int .u32 (y.t : Nat), .int .u16 (y.st : Nat), .int .u16 (y.ss : Nat), .int .u32 (y.pp : Nat), .int .u32 (y.tg : Nat), .int .u32 (y.rm : Nat), .int .u16 (y.os : Nat), .int .u16 (y.is : Nat), .slice y.bA y.bN y.bC, .slice y.dA y.dN y.dC, .slice y.pA y.pN y.pC, .slice y.xA y.xN y.xC]]) (by rfl) rfl (by rfl) Try.func64 (by rfl) (by rfl) (fun W hW => by (exact (rfree_any y W hyf _ rfl).mono (fun e V h => ⟨by rw [h.1, ← HFB.out]; rfl, hW.trans (h.2.mono hW.size)⟩)))
            · exact fix_val (by rfl) (fun W hW => by obtain ⟨d0, d1, d2, d3, d4, d5, d6, d7, d8, d9, d10, d11, d12, d13, d14, d15, d16, d17, d18, d19, d20, d21, d22, d23, d24, d25, d26, d27⟩ := HKC.out W hW; go_simp; (try with_reducible rfl); (try omega))
            · exact fix_val (by rfl) (fun W hW => by obtain ⟨d0, d1, d2, d3, d4, d5, d6, d7, d8, d9, d10, d11, d12, d13, d14, d15, d16, d17, d18, d19, d20, d21, d22, d23, d24, d25, d26, d27⟩ := HKC.out W hW; go_simp; (try with_reducible rfl); (try omega))
            · exact fix_val (by rfl) (fun W hW => by obtain ⟨d0, d1, d2, d3, d4, d5, d6, d7, d8, d9, d10, d11, d12, d13, d14, d15, d16, d17, d18, d19, d20, d21, d22, d23, d24, d25, d26, d27⟩ := HKC.out W hW; go_simp; (try with_reducible rfl); (try omega))
            · exact fix_val (by rfl) (fun W hW => by obtain ⟨d0, d1, d2, d3, d4, d5, d6, d7, d8, d9, d10, d11, d12, d13, d14, d15, d16, d17, d18, d19, d20, d21, d22, d23, d24, d25, d26, d27⟩ := HKC.out W hW; go_simp; (try with_reducible rfl); (try omega))
            · exact fix_call (vs := [.agg #[.int .u8 (x.k : Nat), .int .u8 (x.f : Nat), .int .u32 (x.t : Nat), .int .u16 (x.st : Nat), .int .u16 (x.ss : Nat), .int .u32 (x.pp : Nat), .int .u32 (x.tg : Nat), .int .u32 (x.rm : Nat), .int .u16 (x.os : Nat), .int .u16 (x.is : Nat), .slice x.bA x.bN x.bC, .slice x.dA x.dN x.dC, .slice x.pA x.pN x.pC, .slice x.xA x.xN x.xC]]) (by rfl) rfl (by rfl) Try.func64 (by rfl) (by rfl) (fun W hW => by (exact (rfree_any x W hxf _ rfl).mono (fun e V h => ⟨by rw [h.1, ← HFA.out]; rfl, hW.trans (h.2.mono hW.size)⟩)))
            · exact fix_val (by rfl) (fun W hW => by obtain ⟨d0, d1, d2, d3, d4, d5, d6, d7, d8, d9, d10, d11, d12, d13, d14, d15, d16, d17, d18, d19, d20, d21, d22, d23, d24, d25, d26, d27⟩ := HKC.out W hW; go_simp; (try with_reducible rfl); (try omega))
            · exact fix_val (by rfl) (fun W hW => by obtain ⟨d0, d1, d2, d3, d4, d5, d6, d7, d8, d9, d10, d11, d12, d13, d14, d15, d16, d17, d18, d19, d20, d21, d22, d23, d24, d25, d26, d27⟩ := HKC.out W hW; go_simp; (try with_reducible rfl); (try omega))
            · exact fix_val (by rfl) (fun W hW => by obtain ⟨d0, d1, d2, d3, d4, d5, d6, d7, d8, d9, d10, d11, d12, d13, d14, d15, d16, d17, d18, d19, d20, d21, d22, d23, d24, d25, d26, d27⟩ := HKC.out W hW; go_simp; (try with_reducible rfl); (try omega))
            · exact fix_val (by rfl) (fun W hW => by obtain ⟨d0, d1, d2, d3, d4, d5, d6, d7, d8, d9, d10, d11, d12, d13, d14, d15, d16, d17, d18, d19, d20, d21, d22, d23, d24, d25, d26, d27⟩ := HKC.out W hW; go_simp; (try with_reducible rfl); (try omega))
            · exact fix_val (by rfl) (fun W hW => by obtain ⟨d0, d1, d2, d3, d4, d5, d6, d7, d8, d9, d10, d11, d12, d13, d14, d15, d16, d17, d18, d19, d20, d21, d22, d23, d24, d25, d26, d27⟩ := HKC.out W hW; go_simp; (try with_reducible rfl); (try omega))
            · exact fix_val (by rfl) (fun W hW => by obtain ⟨d0, d1, d2, d3, d4, d5, d6, d7, d8, d9, d10, d11, d12, d13, d14, d15, d16, d17, d18, d19, d20, d21, d22, d23, d24, d25, d26, d27⟩ := HKC.out W hW; go_simp; (try with_reducible rfl); (try omega))
            · exact fix_val (by rfl) (fun W hW => by obtain ⟨d0, d1, d2, d3, d4, d5, d6, d7, d8, d9, d10, d11, d12, d13, d14, d15, d16, d17, d18, d19, d20, d21, d22, d23, d24, d25, d26, d27⟩ := HKC.out W hW; go_simp; (try with_reducible rfl); (try omega))
            · exact fix_val (by rfl) (fun W hW => by obtain ⟨d0, d1, d2, d3, d4, d5, d6, d7, d8, d9, d10, d11, d12, d13, d14, d15, d16, d17, d18, d19, d20, d21, d22, d23, d24, d25, d26, d27⟩ := HKC.out W hW; go_simp; (try with_reducible rfl); (try omega))
            · exact fix_val (by rfl) (fun W hW => by obtain ⟨d0, d1, d2, d3, d4, d5, d6, d7, d8, d9, d10, d11, d12, d13, d14, d15, d16, d17, d18, d19, d20, d21, d22, d23, d24, d25, d26, d27⟩ := HKC.out W hW; go_simp; (try with_reducible rfl); (try omega))
            · exact fix_val (by rfl) (fun W hW => by obtain ⟨d0, d1, d2, d3, d4, d5, d6, d7, d8, d9, d10, d11, d12, d13, d14, d15, d16, d17, d18, d19, d20, d21, d22, d23, d24, d25, d26, d27⟩ := HKC.out W hW; go_simp; (try with_reducible rfl); (try omega))
            · exact fix_val (by rfl) (fun W hW => by obtain ⟨d0, d1, d2, d3, d4, d5, d6, d7, d8, d9, d10, d11, d12, d13, d14, d15, d16, d17, d18, d19, d20, d21, d22, d23, d24, d25, d26, d27⟩ := HKC.out W hW; go_simp; (try with_reducible rfl); (try omega))
            · exact fix_val (by rfl) (fun W hW => by obtain ⟨d0, d1, d2, d3, d4, d5, d6, d7, d8, d9, d10, d11, d12, d13, d14, d15, d16, d17, d18, d19, d20, d21, d22, d23, d24, d25, d26, d27⟩ := HKC.out W hW; go_simp; (try with_reducible rfl); (try omega))
          case he2 =>
          rintro V3 hV3
          have HV3 := (show Hid _ from hV3)
          clear hV3
          go_wp2
          go_ret
          obtain ⟨hI, hq⟩ := HI.out
          exact .no rfl (hI.rn.no (nextB_fit (x := x) hk0 (by rw [← hq]; exact HB1.out.2) H0.out HNO.out)) (HC2.out.2.2.2.1.trans (((Below.refl _ _).drew.trans HV3.out).mono HC2.out.2.2.2.1.size))
      · have HNO : Hid (fitB x.pc y.pc = false) := by
          show fitB x.pc y.pc = false
          unfold fitB
          rw [← HFA.out, ← HFB.out]
          simp
        clear h5 h3
        refine wp_region_fixW mixedX (fun V => Below V2.drew.heap.size V2.drew V) [(25, .slice (some ⟨g, 0, none⟩) k oc), (26, .int .i64 (k : Nat)), (27, .bool true), (28, .bool true), (29, .pointer (some ⟨V1.heap.size, 3, none⟩)), (30, .int .u16 (x.st : Nat)), (31, .slice (some ⟨g, 0, none⟩) k oc), (32, .pointer (some ⟨g, 0, none⟩)), (33, .pointer (some ⟨g, 3, none⟩)), (34, .int .u16 (y.st : Nat)), (35, .bool false), (36, .bool false), (37, .agg #[.int .u8 (x.k : Nat), .int .u8 (x.f : Nat), .int .u32 (x.t : Nat), .int .u16 (x.st : Nat), .int .u16 (x.ss : Nat), .int .u32 (x.pp : Nat), .int .u32 (x.tg : Nat), .int .u32 (x.rm : Nat), .int .u16 (x.os : Nat), .int .u16 (x.is : Nat), .slice x.bA x.bN x.bC, .slice x.dA x.dN x.dC, .slice x.pA x.pN x.pC, .slice x.xA x.xN x.xC]), (38, .bool false), (39, .slice (some ⟨g, 0, none⟩) k oc), (40, .pointer (some ⟨g, 0, none⟩)), (41, .agg #[.int .u8 (y.k : Nat), .int .u8 (y.f : Nat), .int .u32 (y.t : Nat), .int .u16 (y.st : Nat), .int .u16 (y.ss : Nat), .int .u32 (y.pp : Nat), .int .u32 (y.tg : Nat), .int .u32 (y.rm : Nat), .int .u16 (y.os : Nat), .int .u16 (y.is : Nat), .slice y.bA y.bN y.bC, .slice y.dA y.dN y.dC, .slice y.pA y.pN y.pC, .slice y.xA y.xN y.xC]), (42, .bool true), (43, .bool true), (44, .bool true), (45, .bool true), (46, undef), (47, undef), (48, undef), (49, undef), (50, undef), (51, undef), (52, undef), (53, undef), (54, undef), (55, undef), (56, undef), (57, undef), (58, .bool true), (59, .bool true)] ?Z3 ?hZ3 (by kernel_rfl) (by kernel_rfl) (by kernel_rfl) (by kernel_rfl) ?h03 ?hops3 ?he3
        case hZ3 => simp only [List.foldl_cons, List.foldl_nil, List.setIfInBounds_toArray, List.set_cons_zero, List.set_cons_succ]; rfl
        case h03 => exact Below.refl _ _
        case hops3 =>
          refine ⟨?_, ?_, ?_, ?_, ?_, ?_, ?_, ?_, ?_, ?_, ?_, ?_, ?_, ?_, ?_, ?_, ?_, ?_, ?_, ?_, ?_, ?_, ?_, ?_, ?_, ?_, ?_, ?_, ?_, ?_, ?_, ?_, ?_, ?_, ?_, trivial⟩
          · exact fix_val (by rfl) (fun W hW => by obtain ⟨d0, d1, d2, d3, d4, d5, d6, d7, d8, d9, d10, d11, d12, d13, d14, d15, d16, d17, d18, d19, d20, d21, d22, d23, d24, d25, d26, d27⟩ := HKC.out W hW; go_simp; (try with_reducible rfl); (try omega))
          · exact fix_val (by rfl) (fun W hW => by obtain ⟨d0, d1, d2, d3, d4, d5, d6, d7, d8, d9, d10, d11, d12, d13, d14, d15, d16, d17, d18, d19, d20, d21, d22, d23, d24, d25, d26, d27⟩ := HKC.out W hW; go_simp; (try with_reducible rfl); (try omega))
          · exact fix_val (by rfl) (fun W hW => by obtain ⟨d0, d1, d2, d3, d4, d5, d6, d7, d8, d9, d10, d11, d12, d13, d14, d15, d16, d17, d18, d19, d20, d21, d22, d23, d24, d25, d26, d27⟩ := HKC.out W hW; go_simp; (try with_reducible rfl); (try omega))
          · exact fix_val (by rfl) (fun W hW => by obtain ⟨d0, d1, d2, d3, d4, d5, d6, d7, d8, d9, d10, d11, d12, d13, d14, d15, d16, d17, d18, d19, d20, d21, d22, d23, d24, d25, d26, d27⟩ := HKC.out W hW; go_simp; (try with_reducible rfl); (try omega))
          · exact fix_val (by rfl) (fun W hW => by obtain ⟨d0, d1, d2, d3, d4, d5, d6, d7, d8, d9, d10, d11, d12, d13, d14, d15, d16, d17, d18, d19, d20, d21, d22, d23, d24, d25, d26, d27⟩ := HKC.out W hW; go_simp; (try with_reducible rfl); (try omega))
          · exact fix_val (by rfl) (fun W hW => by obtain ⟨d0, d1, d2, d3, d4, d5, d6, d7, d8, d9, d10, d11, d12, d13, d14, d15, d16, d17, d18, d19, d20, d21, d22, d23, d24, d25, d26, d27⟩ := HKC.out W hW; go_simp; (try with_reducible rfl); (try omega))
          · exact fix_val (by rfl) (fun W hW => by obtain ⟨d0, d1, d2, d3, d4, d5, d6, d7, d8, d9, d10, d11, d12, d13, d14, d15, d16, d17, d18, d19, d20, d21, d22, d23, d24, d25, d26, d27⟩ := HKC.out W hW; go_simp; (try with_reducible rfl); (try omega))
          · exact fix_val (by rfl) (fun W hW => by obtain ⟨d0, d1, d2, d3, d4, d5, d6, d7, d8, d9, d10, d11, d12, d13, d14, d15, d16, d17, d18, d19, d20, d21, d22, d23, d24, d25, d26, d27⟩ := HKC.out W hW; go_simp; (try with_reducible rfl); (try omega))
          · exact fix_val (by rfl) (fun W hW => by obtain ⟨d0, d1, d2, d3, d4, d5, d6, d7, d8, d9, d10, d11, d12, d13, d14, d15, d16, d17, d18, d19, d20, d21, d22, d23, d24, d25, d26, d27⟩ := HKC.out W hW; go_simp; (try with_reducible rfl); (try omega))
          · exact fix_val (by rfl) (fun W hW => by obtain ⟨d0, d1, d2, d3, d4, d5, d6, d7, d8, d9, d10, d11, d12, d13, d14, d15, d16, d17, d18, d19, d20, d21, d22, d23, d24, d25, d26, d27⟩ := HKC.out W hW; go_simp; (try with_reducible rfl); (try omega))
          · exact fix_val (by rfl) (fun W hW => by obtain ⟨d0, d1, d2, d3, d4, d5, d6, d7, d8, d9, d10, d11, d12, d13, d14, d15, d16, d17, d18, d19, d20, d21, d22, d23, d24, d25, d26, d27⟩ := HKC.out W hW; go_simp; (try with_reducible rfl); (try omega))
          · exact fix_val (by rfl) (fun W hW => by obtain ⟨d0, d1, d2, d3, d4, d5, d6, d7, d8, d9, d10, d11, d12, d13, d14, d15, d16, d17, d18, d19, d20, d21, d22, d23, d24, d25, d26, d27⟩ := HKC.out W hW; go_simp; (try with_reducible rfl); (try omega))
          · exact fix_val (by rfl) (fun W hW => by obtain ⟨d0, d1, d2, d3, d4, d5, d6, d7, d8, d9, d10, d11, d12, d13, d14, d15, d16, d17, d18, d19, d20, d21, d22, d23, d24, d25, d26, d27⟩ := HKC.out W hW; go_simp; (try with_reducible rfl); (try omega))
          · exact fix_call (vs := [.agg #[.int .u8 (x.k : Nat), .int .u8 (x.f : Nat), .int .u32 (x.t : Nat), .int .u16 (x.st : Nat), .int .u16 (x.ss : Nat), .int .u32 (x.pp : Nat), .int .u32 (x.tg : Nat), .int .u32 (x.rm : Nat), .int .u16 (x.os : Nat), .int .u16 (x.is : Nat), .slice x.bA x.bN x.bC, .slice x.dA x.dN x.dC, .slice x.pA x.pN x.pC, .slice x.xA x.xN x.xC]]) (by rfl) rfl (by rfl) Try.func64 (by rfl) (by rfl) (fun W hW => by (exact (rfree_any x W hxf _ rfl).mono (fun e V h => ⟨by rw [h.1, ← HFA.out]; rfl, hW.trans (h.2.mono hW.size)⟩)))
          · exact fix_val (by rfl) (fun W hW => by obtain ⟨d0, d1, d2, d3, d4, d5, d6, d7, d8, d9, d10, d11, d12, d13, d14, d15, d16, d17, d18, d19, d20, d21, d22, d23, d24, d25, d26, d27⟩ := HKC.out W hW; go_simp; (try with_reducible rfl); (try omega))
          · exact fix_val (by rfl) (fun W hW => by obtain ⟨d0, d1, d2, d3, d4, d5, d6, d7, d8, d9, d10, d11, d12, d13, d14, d15, d16, d17, d18, d19, d20, d21, d22, d23, d24, d25, d26, d27⟩ := HKC.out W hW; go_simp; (try with_reducible rfl); (try omega))
          · exact fix_val (by rfl) (fun W hW => by obtain ⟨d0, d1, d2, d3, d4, d5, d6, d7, d8, d9, d10, d11, d12, d13, d14, d15, d16, d17, d18, d19, d20, d21, d22, d23, d24, d25, d26, d27⟩ := HKC.out W hW; go_simp; (try with_reducible rfl); (try omega))
          · exact fix_call (vs := [.agg #[.int .u8 (y.k : Nat), .int .u8 (y.f : Nat), .int .u32 (y.t : Nat), .int .u16 (y.st : Nat), .int .u16 (y.ss : Nat), .int .u32 (y.pp : Nat), .int .u32 (y.tg : Nat), .int .u32 (y.rm : Nat), .int .u16 (y.os : Nat), .int .u16 (y.is : Nat), .slice y.bA y.bN y.bC, .slice y.dA y.dN y.dC, .slice y.pA y.pN y.pC, .slice y.xA y.xN y.xC]]) (by rfl) rfl (by rfl) Try.func64 (by rfl) (by rfl) (fun W hW => by (exact (rfree_any y W hyf _ rfl).mono (fun e V h => ⟨by rw [h.1, ← HFB.out]; rfl, hW.trans (h.2.mono hW.size)⟩)))
          · exact fix_val (by rfl) (fun W hW => by obtain ⟨d0, d1, d2, d3, d4, d5, d6, d7, d8, d9, d10, d11, d12, d13, d14, d15, d16, d17, d18, d19, d20, d21, d22, d23, d24, d25, d26, d27⟩ := HKC.out W hW; go_simp; (try with_reducible rfl); (try omega))
          · exact fix_val (by rfl) (fun W hW => by obtain ⟨d0, d1, d2, d3, d4, d5, d6, d7, d8, d9, d10, d11, d12, d13, d14, d15, d16, d17, d18, d19, d20, d21, d22, d23, d24, d25, d26, d27⟩ := HKC.out W hW; go_simp; (try with_reducible rfl); (try omega))
          · exact fix_val (by rfl) (fun W hW => by obtain ⟨d0, d1, d2, d3, d4, d5, d6, d7, d8, d9, d10, d11, d12, d13, d14, d15, d16, d17, d18, d19, d20, d21, d22, d23, d24, d25, d26, d27⟩ := HKC.out W hW; go_simp; (try with_reducible rfl); (try omega))
          · exact fix_off (by rfl) (fun d hd => by cases hd; rfl)
          · exact fix_off (by rfl) (fun d hd => by cases hd; rfl)
          · exact fix_off (by rfl) (fun d hd => by cases hd; rfl)
          · exact fix_off (by rfl) (fun d hd => by cases hd; rfl)
          · exact fix_off (by rfl) (fun d hd => by cases hd; rfl)
          · exact fix_off (by rfl) (fun d hd => by cases hd; rfl)
          · exact fix_off (by rfl) (fun d hd => by cases hd; rfl)
          · exact fix_off (by rfl) (fun d hd => by cases hd; rfl)
          · exact fix_off (by rfl) (fun d hd => by cases hd; rfl)
          · exact fix_off (by rfl) (fun d hd => by cases hd; rfl)
          · exact fix_off (by rfl) (fun d hd => by cases hd; rfl)
          · exact fix_off (by rfl) (fun d hd => by cases hd; rfl)
          · exact fix_val (by rfl) (fun W hW => by obtain ⟨d0, d1, d2, d3, d4, d5, d6, d7, d8, d9, d10, d11, d12, d13, d14, d15, d16, d17, d18, d19, d20, d21, d22, d23, d24, d25, d26, d27⟩ := HKC.out W hW; go_simp; (try with_reducible rfl); (try omega))
          · exact fix_val (by rfl) (fun W hW => by obtain ⟨d0, d1, d2, d3, d4, d5, d6, d7, d8, d9, d10, d11, d12, d13, d14, d15, d16, d17, d18, d19, d20, d21, d22, d23, d24, d25, d26, d27⟩ := HKC.out W hW; go_simp; (try with_reducible rfl); (try omega))
        case he3 =>
        rintro V3 hV3
        have HV3 := (show Hid _ from hV3)
        clear hV3
        go_wp2
        go_ret
        obtain ⟨hI, hq⟩ := HI.out
        exact .no rfl (hI.rn.no (nextB_fit (x := x) hk0 (by rw [← hq]; exact HB1.out.2) H0.out HNO.out)) (HC2.out.2.2.2.1.trans (((Below.refl _ _).drew.trans HV3.out).mono HC2.out.2.2.2.1.size))
      · have HNO : Hid (fitB x.pc y.pc = false) := by
          show fitB x.pc y.pc = false
          unfold fitB
          rw [← HFA.out, ← HFB.out]
          simp
        clear h5 h3
        refine wp_region_fixW mixedX (fun V => Below V2.drew.heap.size V2.drew V) [(25, .slice (some ⟨g, 0, none⟩) k oc), (26, .int .i64 (k : Nat)), (27, .bool true), (28, .bool true), (29, .pointer (some ⟨V1.heap.size, 3, none⟩)), (30, .int .u16 (x.st : Nat)), (31, .slice (some ⟨g, 0, none⟩) k oc), (32, .pointer (some ⟨g, 0, none⟩)), (33, .pointer (some ⟨g, 3, none⟩)), (34, .int .u16 (y.st : Nat)), (35, .bool false), (36, .bool false), (37, .agg #[.int .u8 (x.k : Nat), .int .u8 (x.f : Nat), .int .u32 (x.t : Nat), .int .u16 (x.st : Nat), .int .u16 (x.ss : Nat), .int .u32 (x.pp : Nat), .int .u32 (x.tg : Nat), .int .u32 (x.rm : Nat), .int .u16 (x.os : Nat), .int .u16 (x.is : Nat), .slice x.bA x.bN x.bC, .slice x.dA x.dN x.dC, .slice x.pA x.pN x.pC, .slice x.xA x.xN x.xC]), (38, .bool true), (39, .slice (some ⟨g, 0, none⟩) k oc), (40, .pointer (some ⟨g, 0, none⟩)), (41, .agg #[.int .u8 (y.k : Nat), .int .u8 (y.f : Nat), .int .u32 (y.t : Nat), .int .u16 (y.st : Nat), .int .u16 (y.ss : Nat), .int .u32 (y.pp : Nat), .int .u32 (y.tg : Nat), .int .u32 (y.rm : Nat), .int .u16 (y.os : Nat), .int .u16 (y.is : Nat), .slice y.bA y.bN y.bC, .slice y.dA y.dN y.dC, .slice y.pA y.pN y.pC, .slice y.xA y.xN y.xC]), (42, .bool false), (43, .bool true), (44, .bool true), (45, .bool true), (46, undef), (47, undef), (48, undef), (49, undef), (50, undef), (51, undef), (52, undef), (53, undef), (54, undef), (55, undef), (56, undef), (57, undef), (58, .bool true), (59, .bool true)] ?Z4 ?hZ4 (by kernel_rfl) (by kernel_rfl) (by kernel_rfl) (by kernel_rfl) ?h04 ?hops4 ?he4
        case hZ4 => simp only [List.foldl_cons, List.foldl_nil, List.setIfInBounds_toArray, List.set_cons_zero, List.set_cons_succ]; rfl
        case h04 => exact Below.refl _ _
        case hops4 =>
          refine ⟨?_, ?_, ?_, ?_, ?_, ?_, ?_, ?_, ?_, ?_, ?_, ?_, ?_, ?_, ?_, ?_, ?_, ?_, ?_, ?_, ?_, ?_, ?_, ?_, ?_, ?_, ?_, ?_, ?_, ?_, ?_, ?_, ?_, ?_, ?_, trivial⟩
          · exact fix_val (by rfl) (fun W hW => by obtain ⟨d0, d1, d2, d3, d4, d5, d6, d7, d8, d9, d10, d11, d12, d13, d14, d15, d16, d17, d18, d19, d20, d21, d22, d23, d24, d25, d26, d27⟩ := HKC.out W hW; go_simp; (try with_reducible rfl); (try omega))
          · exact fix_val (by rfl) (fun W hW => by obtain ⟨d0, d1, d2, d3, d4, d5, d6, d7, d8, d9, d10, d11, d12, d13, d14, d15, d16, d17, d18, d19, d20, d21, d22, d23, d24, d25, d26, d27⟩ := HKC.out W hW; go_simp; (try with_reducible rfl); (try omega))
          · exact fix_val (by rfl) (fun W hW => by obtain ⟨d0, d1, d2, d3, d4, d5, d6, d7, d8, d9, d10, d11, d12, d13, d14, d15, d16, d17, d18, d19, d20, d21, d22, d23, d24, d25, d26, d27⟩ := HKC.out W hW; go_simp; (try with_reducible rfl); (try omega))
          · exact fix_val (by rfl) (fun W hW => by obtain ⟨d0, d1, d2, d3, d4, d5, d6, d7, d8, d9, d10, d11, d12, d13, d14, d15, d16, d17, d18, d19, d20, d21, d22, d23, d24, d25, d26, d27⟩ := HKC.out W hW; go_simp; (try with_reducible rfl); (try omega))
          · exact fix_val (by rfl) (fun W hW => by obtain ⟨d0, d1, d2, d3, d4, d5, d6, d7, d8, d9, d10, d11, d12, d13, d14, d15, d16, d17, d18, d19, d20, d21, d22, d23, d24, d25, d26, d27⟩ := HKC.out W hW; go_simp; (try with_reducible rfl); (try omega))
          · exact fix_val (by rfl) (fun W hW => by obtain ⟨d0, d1, d2, d3, d4, d5, d6, d7, d8, d9, d10, d11, d12, d13, d14, d15, d16, d17, d18, d19, d20, d21, d22, d23, d24, d25, d26, d27⟩ := HKC.out W hW; go_simp; (try with_reducible rfl); (try omega))
          · exact fix_val (by rfl) (fun W hW => by obtain ⟨d0, d1, d2, d3, d4, d5, d6, d7, d8, d9, d10, d11, d12, d13, d14, d15, d16, d17, d18, d19, d20, d21, d22, d23, d24, d25, d26, d27⟩ := HKC.out W hW; go_simp; (try with_reducible rfl); (try omega))
          · exact fix_val (by rfl) (fun W hW => by obtain ⟨d0, d1, d2, d3, d4, d5, d6, d7, d8, d9, d10, d11, d12, d13, d14, d15, d16, d17, d18, d19, d20, d21, d22, d23, d24, d25, d26, d27⟩ := HKC.out W hW; go_simp; (try with_reducible rfl); (try omega))
          · exact fix_val (by rfl) (fun W hW => by obtain ⟨d0, d1, d2, d3, d4, d5, d6, d7, d8, d9, d10, d11, d12, d13, d14, d15, d16, d17, d18, d19, d20, d21, d22, d23, d24, d25, d26, d27⟩ := HKC.out W hW; go_simp; (try with_reducible rfl); (try omega))
          · exact fix_val (by rfl) (fun W hW => by obtain ⟨d0, d1, d2, d3, d4, d5, d6, d7, d8, d9, d10, d11, d12, d13, d14, d15, d16, d17, d18, d19, d20, d21, d22, d23, d24, d25, d26, d27⟩ := HKC.out W hW; go_simp; (try with_reducible rfl); (try omega))
          · exact fix_val (by rfl) (fun W hW => by obtain ⟨d0, d1, d2, d3, d4, d5, d6, d7, d8, d9, d10, d11, d12, d13, d14, d15, d16, d17, d18, d19, d20, d21, d22, d23, d24, d25, d26, d27⟩ := HKC.out W hW; go_simp; (try with_reducible rfl); (try omega))
          · exact fix_val (by rfl) (fun W hW => by obtain ⟨d0, d1, d2, d3, d4, d5, d6, d7, d8, d9, d10, d11, d12, d13, d14, d15, d16, d17, d18, d19, d20, d21, d22, d23, d24, d25, d26, d27⟩ := HKC.out W hW; go_simp; (try with_reducible rfl); (try omega))
          · exact fix_val (by rfl) (fun W hW => by obtain ⟨d0, d1, d2, d3, d4, d5, d6, d7, d8, d9, d10, d11, d12, d13, d14, d15, d16, d17, d18, d19, d20, d21, d22, d23, d24, d25, d26, d27⟩ := HKC.out W hW; go_simp; (try with_reducible rfl); (try omega))
          · exact fix_call (vs := [.agg #[.int .u8 (x.k : Nat), .int .u8 (x.f : Nat), .int .u32 (x.t : Nat), .int .u16 (x.st : Nat), .int .u16 (x.ss : Nat), .int .u32 (x.pp : Nat), .int .u32 (x.tg : Nat), .int .u32 (x.rm : Nat), .int .u16 (x.os : Nat), .int .u16 (x.is : Nat), .slice x.bA x.bN x.bC, .slice x.dA x.dN x.dC, .slice x.pA x.pN x.pC, .slice x.xA x.xN x.xC]]) (by rfl) rfl (by rfl) Try.func64 (by rfl) (by rfl) (fun W hW => by (exact (rfree_any x W hxf _ rfl).mono (fun e V h => ⟨by rw [h.1, ← HFA.out]; rfl, hW.trans (h.2.mono hW.size)⟩)))
          · exact fix_val (by rfl) (fun W hW => by obtain ⟨d0, d1, d2, d3, d4, d5, d6, d7, d8, d9, d10, d11, d12, d13, d14, d15, d16, d17, d18, d19, d20, d21, d22, d23, d24, d25, d26, d27⟩ := HKC.out W hW; go_simp; (try with_reducible rfl); (try omega))
          · exact fix_val (by rfl) (fun W hW => by obtain ⟨d0, d1, d2, d3, d4, d5, d6, d7, d8, d9, d10, d11, d12, d13, d14, d15, d16, d17, d18, d19, d20, d21, d22, d23, d24, d25, d26, d27⟩ := HKC.out W hW; go_simp; (try with_reducible rfl); (try omega))
          · exact fix_val (by rfl) (fun W hW => by obtain ⟨d0, d1, d2, d3, d4, d5, d6, d7, d8, d9, d10, d11, d12, d13, d14, d15, d16, d17, d18, d19, d20, d21, d22, d23, d24, d25, d26, d27⟩ := HKC.out W hW; go_simp; (try with_reducible rfl); (try omega))
          · exact fix_call (vs := [.agg #[.int .u8 (y.k : Nat), .int .u8 (y.f : Nat), .int .u32 (y.t : Nat), .int .u16 (y.st : Nat), .int .u16 (y.ss : Nat), .int .u32 (y.pp : Nat), .int .u32 (y.tg : Nat), .int .u32 (y.rm : Nat), .int .u16 (y.os : Nat), .int .u16 (y.is : Nat), .slice y.bA y.bN y.bC, .slice y.dA y.dN y.dC, .slice y.pA y.pN y.pC, .slice y.xA y.xN y.xC]]) (by rfl) rfl (by rfl) Try.func64 (by rfl) (by rfl) (fun W hW => by (exact (rfree_any y W hyf _ rfl).mono (fun e V h => ⟨by rw [h.1, ← HFB.out]; rfl, hW.trans (h.2.mono hW.size)⟩)))
          · exact fix_val (by rfl) (fun W hW => by obtain ⟨d0, d1, d2, d3, d4, d5, d6, d7, d8, d9, d10, d11, d12, d13, d14, d15, d16, d17, d18, d19, d20, d21, d22, d23, d24, d25, d26, d27⟩ := HKC.out W hW; go_simp; (try with_reducible rfl); (try omega))
          · exact fix_val (by rfl) (fun W hW => by obtain ⟨d0, d1, d2, d3, d4, d5, d6, d7, d8, d9, d10, d11, d12, d13, d14, d15, d16, d17, d18, d19, d20, d21, d22, d23, d24, d25, d26, d27⟩ := HKC.out W hW; go_simp; (try with_reducible rfl); (try omega))
          · exact fix_val (by rfl) (fun W hW => by obtain ⟨d0, d1, d2, d3, d4, d5, d6, d7, d8, d9, d10, d11, d12, d13, d14, d15, d16, d17, d18, d19, d20, d21, d22, d23, d24, d25, d26, d27⟩ := HKC.out W hW; go_simp; (try with_reducible rfl); (try omega))
          · exact fix_off (by rfl) (fun d hd => by cases hd; rfl)
          · exact fix_off (by rfl) (fun d hd => by cases hd; rfl)
          · exact fix_off (by rfl) (fun d hd => by cases hd; rfl)
          · exact fix_off (by rfl) (fun d hd => by cases hd; rfl)
          · exact fix_off (by rfl) (fun d hd => by cases hd; rfl)
          · exact fix_off (by rfl) (fun d hd => by cases hd; rfl)
          · exact fix_off (by rfl) (fun d hd => by cases hd; rfl)
          · exact fix_off (by rfl) (fun d hd => by cases hd; rfl)
          · exact fix_off (by rfl) (fun d hd => by cases hd; rfl)
          · exact fix_off (by rfl) (fun d hd => by cases hd; rfl)
          · exact fix_off (by rfl) (fun d hd => by cases hd; rfl)
          · exact fix_off (by rfl) (fun d hd => by cases hd; rfl)
          · exact fix_val (by rfl) (fun W hW => by obtain ⟨d0, d1, d2, d3, d4, d5, d6, d7, d8, d9, d10, d11, d12, d13, d14, d15, d16, d17, d18, d19, d20, d21, d22, d23, d24, d25, d26, d27⟩ := HKC.out W hW; go_simp; (try with_reducible rfl); (try omega))
          · exact fix_val (by rfl) (fun W hW => by obtain ⟨d0, d1, d2, d3, d4, d5, d6, d7, d8, d9, d10, d11, d12, d13, d14, d15, d16, d17, d18, d19, d20, d21, d22, d23, d24, d25, d26, d27⟩ := HKC.out W hW; go_simp; (try with_reducible rfl); (try omega))
        case he4 =>
        rintro V3 hV3
        have HV3 := (show Hid _ from hV3)
        clear hV3
        go_wp2
        go_ret
        obtain ⟨hI, hq⟩ := HI.out
        exact .no rfl (hI.rn.no (nextB_fit (x := x) hk0 (by rw [← hq]; exact HB1.out.2) H0.out HNO.out)) (HC2.out.2.2.2.1.trans (((Below.refl _ _).drew.trans HV3.out).mono HC2.out.2.2.2.1.size))
      · clear h5; (repeat revert ‹_›); intro h3; exact h3.out
    · have HNO : Hid (fitB x.pc y.pc = false) := by
        show fitB x.pc y.pc = false
        unfold fitB
        show ((x.st == y.st) && _ && _) = false
        rw [show (x.st == y.st) = false by rw [beq_eq_false_iff_ne]; omega]
        simp
      clear h5 h3
      refine wp_region_fixW mixedX (fun V => Below V2.drew.heap.size V2.drew V) [(25, .slice (some ⟨g, 0, none⟩) k oc), (26, .int .i64 (k : Nat)), (27, .bool true), (28, .bool true), (29, .pointer (some ⟨V1.heap.size, 3, none⟩)), (30, .int .u16 (x.st : Nat)), (31, .slice (some ⟨g, 0, none⟩) k oc), (32, .pointer (some ⟨g, 0, none⟩)), (33, .pointer (some ⟨g, 3, none⟩)), (34, .int .u16 (y.st : Nat)), (35, .bool true), (36, .bool true), (37, undef), (38, undef), (39, undef), (40, undef), (41, undef), (42, undef), (43, undef), (44, .bool true), (45, .bool true), (46, undef), (47, undef), (48, undef), (49, undef), (50, undef), (51, undef), (52, undef), (53, undef), (54, undef), (55, undef), (56, undef), (57, undef), (58, .bool true), (59, .bool true)] ?Z5 ?hZ5 (by kernel_rfl) (by kernel_rfl) (by kernel_rfl) (by kernel_rfl) ?h05 ?hops5 ?he5
      case hZ5 => simp only [List.foldl_cons, List.foldl_nil, List.setIfInBounds_toArray, List.set_cons_zero, List.set_cons_succ]; rfl
      case h05 => exact Below.refl _ _
      case hops5 =>
        refine ⟨?_, ?_, ?_, ?_, ?_, ?_, ?_, ?_, ?_, ?_, ?_, ?_, ?_, ?_, ?_, ?_, ?_, ?_, ?_, ?_, ?_, ?_, ?_, ?_, ?_, ?_, ?_, ?_, ?_, ?_, ?_, ?_, ?_, ?_, ?_, trivial⟩
        · exact fix_val (by rfl) (fun W hW => by obtain ⟨d0, d1, d2, d3, d4, d5, d6, d7, d8, d9, d10, d11, d12, d13, d14, d15, d16, d17, d18, d19, d20, d21, d22, d23, d24, d25, d26, d27⟩ := HKC.out W hW; go_simp; (try with_reducible rfl); (try omega))
        · exact fix_val (by rfl) (fun W hW => by obtain ⟨d0, d1, d2, d3, d4, d5, d6, d7, d8, d9, d10, d11, d12, d13, d14, d15, d16, d17, d18, d19, d20, d21, d22, d23, d24, d25, d26, d27⟩ := HKC.out W hW; go_simp; (try with_reducible rfl); (try omega))
        · exact fix_val (by rfl) (fun W hW => by obtain ⟨d0, d1, d2, d3, d4, d5, d6, d7, d8, d9, d10, d11, d12, d13, d14, d15, d16, d17, d18, d19, d20, d21, d22, d23, d24, d25, d26, d27⟩ := HKC.out W hW; go_simp; (try with_reducible rfl); (try omega))
        · exact fix_val (by rfl) (fun W hW => by obtain ⟨d0, d1, d2, d3, d4, d5, d6, d7, d8, d9, d10, d11, d12, d13, d14, d15, d16, d17, d18, d19, d20, d21, d22, d23, d24, d25, d26, d27⟩ := HKC.out W hW; go_simp; (try with_reducible rfl); (try omega))
        · exact fix_val (by rfl) (fun W hW => by obtain ⟨d0, d1, d2, d3, d4, d5, d6, d7, d8, d9, d10, d11, d12, d13, d14, d15, d16, d17, d18, d19, d20, d21, d22, d23, d24, d25, d26, d27⟩ := HKC.out W hW; go_simp; (try with_reducible rfl); (try omega))
        · exact fix_val (by rfl) (fun W hW => by obtain ⟨d0, d1, d2, d3, d4, d5, d6, d7, d8, d9, d10, d11, d12, d13, d14, d15, d16, d17, d18, d19, d20, d21, d22, d23, d24, d25, d26, d27⟩ := HKC.out W hW; go_simp; (try with_reducible rfl); (try omega))
        · exact fix_val (by rfl) (fun W hW => by obtain ⟨d0, d1, d2, d3, d4, d5, d6, d7, d8, d9, d10, d11, d12, d13, d14, d15, d16, d17, d18, d19, d20, d21, d22, d23, d24, d25, d26, d27⟩ := HKC.out W hW; go_simp; (try with_reducible rfl); (try omega))
        · exact fix_val (by rfl) (fun W hW => by obtain ⟨d0, d1, d2, d3, d4, d5, d6, d7, d8, d9, d10, d11, d12, d13, d14, d15, d16, d17, d18, d19, d20, d21, d22, d23, d24, d25, d26, d27⟩ := HKC.out W hW; go_simp; (try with_reducible rfl); (try omega))
        · exact fix_val (by rfl) (fun W hW => by obtain ⟨d0, d1, d2, d3, d4, d5, d6, d7, d8, d9, d10, d11, d12, d13, d14, d15, d16, d17, d18, d19, d20, d21, d22, d23, d24, d25, d26, d27⟩ := HKC.out W hW; go_simp; (try with_reducible rfl); (try omega))
        · exact fix_val (by rfl) (fun W hW => by obtain ⟨d0, d1, d2, d3, d4, d5, d6, d7, d8, d9, d10, d11, d12, d13, d14, d15, d16, d17, d18, d19, d20, d21, d22, d23, d24, d25, d26, d27⟩ := HKC.out W hW; go_simp; (try with_reducible rfl); (try omega))
        · exact fix_val (by rfl) (fun W hW => by obtain ⟨d0, d1, d2, d3, d4, d5, d6, d7, d8, d9, d10, d11, d12, d13, d14, d15, d16, d17, d18, d19, d20, d21, d22, d23, d24, d25, d26, d27⟩ := HKC.out W hW; go_simp; (try with_reducible rfl); (try omega))
        · exact fix_val (by rfl) (fun W hW => by obtain ⟨d0, d1, d2, d3, d4, d5, d6, d7, d8, d9, d10, d11, d12, d13, d14, d15, d16, d17, d18, d19, d20, d21, d22, d23, d24, d25, d26, d27⟩ := HKC.out W hW; go_simp; (try with_reducible rfl); (try omega))
        · exact fix_off (by rfl) (fun d hd => by cases hd; rfl)
        · exact fix_off (by rfl) (fun d hd => by cases hd; rfl)
        · exact fix_off (by rfl) (fun d hd => by cases hd; rfl)
        · exact fix_off (by rfl) (fun d hd => by cases hd; rfl)
        · exact fix_off (by rfl) (fun d hd => by cases hd; rfl)
        · exact fix_off (by rfl) (fun d hd => by cases hd; rfl)
        · exact fix_off (by rfl) (fun d hd => by cases hd; rfl)
        · exact fix_val (by rfl) (fun W hW => by obtain ⟨d0, d1, d2, d3, d4, d5, d6, d7, d8, d9, d10, d11, d12, d13, d14, d15, d16, d17, d18, d19, d20, d21, d22, d23, d24, d25, d26, d27⟩ := HKC.out W hW; go_simp; (try with_reducible rfl); (try omega))
        · exact fix_val (by rfl) (fun W hW => by obtain ⟨d0, d1, d2, d3, d4, d5, d6, d7, d8, d9, d10, d11, d12, d13, d14, d15, d16, d17, d18, d19, d20, d21, d22, d23, d24, d25, d26, d27⟩ := HKC.out W hW; go_simp; (try with_reducible rfl); (try omega))
        · exact fix_off (by rfl) (fun d hd => by cases hd; rfl)
        · exact fix_off (by rfl) (fun d hd => by cases hd; rfl)
        · exact fix_off (by rfl) (fun d hd => by cases hd; rfl)
        · exact fix_off (by rfl) (fun d hd => by cases hd; rfl)
        · exact fix_off (by rfl) (fun d hd => by cases hd; rfl)
        · exact fix_off (by rfl) (fun d hd => by cases hd; rfl)
        · exact fix_off (by rfl) (fun d hd => by cases hd; rfl)
        · exact fix_off (by rfl) (fun d hd => by cases hd; rfl)
        · exact fix_off (by rfl) (fun d hd => by cases hd; rfl)
        · exact fix_off (by rfl) (fun d hd => by cases hd; rfl)
        · exact fix_off (by rfl) (fun d hd => by cases hd; rfl)
        · exact fix_off (by rfl) (fun d hd => by cases hd; rfl)
        · exact fix_val (by rfl) (fun W hW => by obtain ⟨d0, d1, d2, d3, d4, d5, d6, d7, d8, d9, d10, d11, d12, d13, d14, d15, d16, d17, d18, d19, d20, d21, d22, d23, d24, d25, d26, d27⟩ := HKC.out W hW; go_simp; (try with_reducible rfl); (try omega))
        · exact fix_val (by rfl) (fun W hW => by obtain ⟨d0, d1, d2, d3, d4, d5, d6, d7, d8, d9, d10, d11, d12, d13, d14, d15, d16, d17, d18, d19, d20, d21, d22, d23, d24, d25, d26, d27⟩ := HKC.out W hW; go_simp; (try with_reducible rfl); (try omega))
      case he5 =>
      rintro V3 hV3
      have HV3 := (show Hid _ from hV3)
      clear hV3
      go_wp2
      go_ret
      obtain ⟨hI, hq⟩ := HI.out
      exact .no rfl (hI.rn.no (nextB_fit (x := x) hk0 (by rw [← hq]; exact HB1.out.2) H0.out HNO.out)) (HC2.out.2.2.2.1.trans (((Below.refl _ _).drew.trans HV3.out).mono HC2.out.2.2.2.1.size))
end Go.Proofs.Ytjaheelgcjafcaa
