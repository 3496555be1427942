/- trunklineref13: run: whole. -/
import Derived.Test.YtjaheelgcjafcaaKT
import Derived.Test.YtjaheelgcjafcaaKU
namespace Go.Proofs.Ytjaheelgcjafcaa
open Go.RowKit
set_option maxRecDepth 100000 in
set_option maxHeartbeats 8000000 in
set_option tactic.hygienic false in
theorem run_3 : runD.2.1 := by
  unfold runD
  dsimp only
  intros
  have HN : Hid (nextB (E.map ChQ.kv) t k = true) := nextB_more (x := x) hk0 (by rw [← HI.out.2]; exact HB1.out.2) H0.out HBB.out.symm (by
    unfold fitB
    rw [← HFA.out, ← HFB.out]
    rw [show x.pc.st = x.st from rfl, show y.pc.st = y.st from rfl, show x.pc.ss = x.ss from rfl, show y.pc.ss = y.ss from rfl, show x.st = y.st by omega]
    simp)
  refine wp_region_fixW mixedX (fun V => Below V2.drew.heap.size V2.drew V) [(25, .slice (some ⟨g, 0, none⟩) k oc), (26, .int .i64 (k : Nat)), (27, .bool true), (28, .bool true), (29, .pointer (some ⟨V1.heap.size, 3, none⟩)), (30, .int .u16 (x.st : Nat)), (31, .slice (some ⟨g, 0, none⟩) k oc), (32, .pointer (some ⟨g, 0, none⟩)), (33, .pointer (some ⟨g, 3, none⟩)), (34, .int .u16 (y.st : Nat)), (35, .bool false), (36, .bool false), (37, .agg #[.int .u8 (x.k : Nat), .int .u8 (x.f : Nat), .int .u32 (x.t : Nat), .int .u16 (x.st : Nat), .int .u16 (x.ss : Nat), .int .u32 (x.pp : Nat), .int .u32 (x.tg : Nat), .int .u32 (x.rm : Nat), .int .u16 (x.os : Nat), .int .u16 (x.is : Nat), .slice x.bA x.bN x.bC, .slice x.dA x.dN x.dC, .slice x.pA x.pN x.pC, .slice x.xA x.xN x.xC]), (38, .bool true), (39, .slice (some ⟨g, 0, none⟩) k oc), (40, .pointer (some ⟨g, 0, none⟩)), (41, .agg #[.int .u8 (y.k : Nat), .int .u8 (y.f : Nat), .int .u32 (y.t : Nat), .int .u16 (y.st : Nat), .int .u16 (y.ss : Nat), .int .u32 (y.pp : Nat), .int .u32 (y.tg : Nat), .int .u32 (y.rm : Nat), .int .u16 (y.os : Nat), .int .u16 (y.is : Nat), .slice y.bA y.bN y.bC, .slice y.dA y.dN y.dC, .slice y.pA y.pN y.pC, .slice y.xA y.xN y.xC]), (42, .bool true), (43, .bool false), (44, .bool false), (45, .bool false), (46, .agg #[.int .u8 (x.k : Nat), .int .u8 (x.f : Nat), .int .u32 (x.t : Nat), .int .u16 (x.st : Nat), .int .u16 (x.ss : Nat), .int .u32 (x.pp : Nat), .int .u32 (x.tg : Nat), .int .u32 (x.rm : Nat), .int .u16 (x.os : Nat), .int .u16 (x.is : Nat), .slice x.bA x.bN x.bC, .slice x.dA x.dN x.dC, .slice x.pA x.pN x.pC, .slice x.xA x.xN x.xC]), (47, .bool true), (48, .bool false), (49, .bool false), (50, undef), (51, undef), (52, undef), (53, undef), (54, undef), (55, undef), (56, undef), (57, .bool false), (58, .bool false), (59, .bool false)] ?Z7 ?hZ7 (by kernel_rfl) (by kernel_rfl) (by kernel_rfl) (by kernel_rfl) ?h07 ?hops7 ?he7
  case hZ7 => simp only [List.foldl_cons, List.foldl_nil, List.setIfInBounds_toArray, List.set_cons_zero, List.set_cons_succ]; rfl
  case h07 => exact Below.refl _ _
  case hops7 =>
    refine ⟨?_, ?_, ?_, ?_, ?_, ?_, ?_, ?_, ?_, ?_, ?_, ?_, ?_, ?_, ?_, ?_, ?_, ?_, ?_, ?_, ?_, ?_, ?_, ?_, ?_, ?_, ?_, ?_, ?_, ?_, ?_, ?_, ?_, ?_, ?_, trivial⟩
    · exact fix_val (by rfl) (fun W hW => by obtain ⟨d0, d1, d2, d3, d4, d5, d6, d7, d8, d9, d10, d11, d12, d13, d14, d15, d16, d17, d18, d19, d20, d21, d22, d23, d24, d25, d26, d27⟩ := HKC.out W hW; go_simp; (try with_reducible rfl); (try omega))
    · exact fix_val (by rfl) (fun W hW => by obtain ⟨d0, d1, d2, d3, d4, d5, d6, d7, d8, d9, d10, d11, d12, d13, d14, d15, d16, d17, d18, d19, d20, d21, d22, d23, d24, d25, d26, d27⟩ := HKC.out W hW; go_simp; (try with_reducible rfl); (try omega))
    · exact fix_val (by rfl) (fun W hW => by obtain ⟨d0, d1, d2, d3, d4, d5, d6, d7, d8, d9, d10, d11, d12, d13, d14, d15, d16, d17, d18, d19, d20, d21, d22, d23, d24, d25, d26, d27⟩ := HKC.out W hW; go_simp; (try with_reducible rfl); (try omega))
    · exact fix_val (by rfl) (fun W hW => by obtain ⟨d0, d1, d2, d3, d4, d5, d6, d7, d8, d9, d10, d11, d12, d13, d14, d15, d16, d17, d18, d19, d20, d21, d22, d23, d24, d25, d26, d27⟩ := HKC.out W hW; go_simp; (try with_reducible rfl); (try omega))
    · exact fix_val (by rfl) (fun W hW => by obtain ⟨d0, d1, d2, d3, d4, d5, d6, d7, d8, d9, d10, d11, d12, d13, d14, d15, d16, d17, d18, d19, d20, d21, d22, d23, d24, d25, d26, d27⟩ := HKC.out W hW; go_simp; (try with_reducible rfl); (try omega))
    · exact fix_val (by rfl) (fun W hW => by obtain ⟨d0, d1, d2, d3, d4, d5, d6, d7, d8, d9, d10, d11, d12, d13, d14, d15, d16, d17, d18, d19, d20, d21, d22, d23, d24, d25, d26, d27⟩ := HKC.out W hW; go_simp; (try with_reducible rfl); (try omega))
    · exact fix_val (by rfl) (fun W hW => by obtain ⟨d0, d1, d2, d3, d4, d5, d6, d7, d8, d9, d10, d11, d12, d13, d14, d15, d16, d17, d18, d19, d20, d21, d22, d23, d24, d25, d26, d27⟩ := HKC.out W hW; go_simp; (try with_reducible rfl); (try omega))
    · exact fix_val (by rfl) (fun W hW => by obtain ⟨d0, d1, d2, d3, d4, d5, d6, d7, d8, d9, d10, d11, d12, d13, d14, d15, d16, d17, d18, d19, d20, d21, d22, d23, d24, d25, d26, d27⟩ := HKC.out W hW; go_simp; (try with_reducible rfl); (try omega))
    · exact fix_val (by rfl) (fun W hW => by obtain ⟨d0, d1, d2, d3, d4, d5, d6, d7, d8, d9, d10, d11, d12, d13, d14, d15, d16, d17, d18, d19, d20, d21, d22, d23, d24, d25, d26, d27⟩ := HKC.out W hW; go_simp; (try with_reducible rfl); (try omega))
    · exact fix_val (by rfl) (fun W hW => by obtain ⟨d0, d1, d2, d3, d4, d5, d6, d7, d8, d9, d10, d11, d12, d13, d14, d15, d16, d17, d18, d19, d20, d21, d22, d23, d24, d25, d26, d27⟩ := HKC.out W hW; go_simp; (try with_reducible rfl); (try omega))
    · exact fix_val (by rfl) (fun W hW => by obtain ⟨d0, d1, d2, d3, d4, d5, d6, d7, d8, d9, d10, d11, d12, d13, d14, d15, d16, d17, d18, d19, d20, d21, d22, d23, d24, d25, d26, d27⟩ := HKC.out W hW; go_simp; (try with_reducible rfl); (try omega))
    · exact fix_val (by rfl) (fun W hW => by obtain ⟨d0, d1, d2, d3, d4, d5, d6, d7, d8, d9, d10, d11, d12, d13, d14, d15, d16, d17, d18, d19, d20, d21, d22, d23, d24, d25, d26, d27⟩ := HKC.out W hW; go_simp; (try with_reducible rfl); (try omega))
    · exact fix_val (by rfl) (fun W hW => by obtain ⟨d0, d1, d2, d3, d4, d5, d6, d7, d8, d9, d10, d11, d12, d13, d14, d15, d16, d17, d18, d19, d20, d21, d22, d23, d24, d25, d26, d27⟩ := HKC.out W hW; go_simp; (try with_reducible rfl); (try omega))
    · exact fix_call (vs := [.agg #[.int .u8 (x.k : Nat), .int .u8 (x.f : Nat), .int .u32 (x.t : Nat), .int .u16 (x.st : Nat), .int .u16 (x.ss : Nat), .int .u32 (x.pp : Nat), .int .u32 (x.tg : Nat), .int .u32 (x.rm : Nat), .int .u16 (x.os : Nat), .int .u16 (x.is : Nat), .slice x.bA x.bN x.bC, .slice x.dA x.dN x.dC, .slice x.pA x.pN x.pC, .slice x.xA x.xN x.xC]]) (by rfl) rfl (by rfl) Try.func64 (by rfl) (by rfl) (fun W hW => by (exact (rfree_any x W hxf _ rfl).mono (fun e V h => ⟨by rw [h.1, ← HFA.out]; rfl, hW.trans (h.2.mono hW.size)⟩)))
    · exact fix_val (by rfl) (fun W hW => by obtain ⟨d0, d1, d2, d3, d4, d5, d6, d7, d8, d9, d10, d11, d12, d13, d14, d15, d16, d17, d18, d19, d20, d21, d22, d23, d24, d25, d26, d27⟩ := HKC.out W hW; go_simp; (try with_reducible rfl); (try omega))
    · exact fix_val (by rfl) (fun W hW => by obtain ⟨d0, d1, d2, d3, d4, d5, d6, d7, d8, d9, d10, d11, d12, d13, d14, d15, d16, d17, d18, d19, d20, d21, d22, d23, d24, d25, d26, d27⟩ := HKC.out W hW; go_simp; (try with_reducible rfl); (try omega))
    · exact fix_val (by rfl) (fun W hW => by obtain ⟨d0, d1, d2, d3, d4, d5, d6, d7, d8, d9, d10, d11, d12, d13, d14, d15, d16, d17, d18, d19, d20, d21, d22, d23, d24, d25, d26, d27⟩ := HKC.out W hW; go_simp; (try with_reducible rfl); (try omega))
    · exact fix_call (vs := [.agg #[.int .u8 (y.k : Nat), .int .u8 (y.f : Nat), .int .u32 (y.t : Nat), .int .u16 (y.st : Nat), .int .u16 (y.ss : Nat), .int .u32 (y.pp : Nat), .int .u32 (y.tg : Nat), .int .u32 (y.rm : Nat), .int .u16 (y.os : Nat), .int .u16 (y.is : Nat), .slice y.bA y.bN y.bC, .slice y.dA y.dN y.dC, .slice y.pA y.pN y.pC, .slice y.xA y.xN y.xC]]) (by rfl) rfl (by rfl) Try.func64 (by rfl) (by rfl) (fun W hW => by (exact (rfree_any y W hyf _ rfl).mono (fun e V h => ⟨by rw [h.1, ← HFB.out]; rfl, hW.trans (h.2.mono hW.size)⟩)))
    · exact fix_val (by rfl) (fun W hW => by obtain ⟨d0, d1, d2, d3, d4, d5, d6, d7, d8, d9, d10, d11, d12, d13, d14, d15, d16, d17, d18, d19, d20, d21, d22, d23, d24, d25, d26, d27⟩ := HKC.out W hW; go_simp; (try with_reducible rfl); (try omega))
    · exact fix_val (by rfl) (fun W hW => by obtain ⟨d0, d1, d2, d3, d4, d5, d6, d7, d8, d9, d10, d11, d12, d13, d14, d15, d16, d17, d18, d19, d20, d21, d22, d23, d24, d25, d26, d27⟩ := HKC.out W hW; go_simp; (try with_reducible rfl); (try omega))
    · exact fix_val (by rfl) (fun W hW => by obtain ⟨d0, d1, d2, d3, d4, d5, d6, d7, d8, d9, d10, d11, d12, d13, d14, d15, d16, d17, d18, d19, d20, d21, d22, d23, d24, d25, d26, d27⟩ := HKC.out W hW; go_simp; (try with_reducible rfl); (try omega))
    · exact fix_val (by rfl) (fun W hW => by obtain ⟨d0, d1, d2, d3, d4, d5, d6, d7, d8, d9, d10, d11, d12, d13, d14, d15, d16, d17, d18, d19, d20, d21, d22, d23, d24, d25, d26, d27⟩ := HKC.out W hW; go_simp; (try with_reducible rfl); (try omega))
    · exact fix_call (vs := [.agg #[.int .u8 (x.k : Nat), .int .u8 (x.f : Nat), .int .u32 (x.t : Nat), .int .u16 (x.st : Nat), .int .u16 (x.ss : Nat), .int .u32 (x.pp : Nat), .int .u32 (x.tg : Nat), .int .u32 (x.rm : Nat), .int .u16 (x.os : Nat), .int .u16 (x.is : Nat), .slice x.bA x.bN x.bC, .slice x.dA x.dN x.dC, .slice x.pA x.pN x.pC, .slice x.xA x.xN x.xC]]) (by rfl) rfl (by rfl) Try.func64 (by rfl) (by rfl) (fun W hW => by (exact (rfree_any x W hxf _ rfl).mono (fun e V h => ⟨by rw [h.1, ← HFA.out]; rfl, hW.trans (h.2.mono hW.size)⟩)))
    · exact fix_val (by rfl) (fun W hW => by obtain ⟨d0, d1, d2, d3, d4, d5, d6, d7, d8, d9, d10, d11, d12, d13, d14, d15, d16, d17, d18, d19, d20, d21, d22, d23, d24, d25, d26, d27⟩ := HKC.out W hW; go_simp; (try with_reducible rfl); (try omega))
    · exact fix_val (by rfl) (fun W hW => by obtain ⟨d0, d1, d2, d3, d4, d5, d6, d7, d8, d9, d10, d11, d12, d13, d14, d15, d16, d17, d18, d19, d20, d21, d22, d23, d24, d25, d26, d27⟩ := HKC.out W hW; go_simp; (try with_reducible rfl); (try omega))
    · exact fix_off (by rfl) (fun d hd => by cases hd; rfl)
    · exact fix_off (by rfl) (fun d hd => by cases hd; rfl)
    · exact fix_off (by rfl) (fun d hd => by cases hd; rfl)
    · exact fix_off (by rfl) (fun d hd => by cases hd; rfl)
    · exact fix_off (by rfl) (fun d hd => by cases hd; rfl)
    · exact fix_off (by rfl) (fun d hd => by cases hd; rfl)
    · exact fix_off (by rfl) (fun d hd => by cases hd; rfl)
    · exact fix_val (by rfl) (fun W hW => by obtain ⟨d0, d1, d2, d3, d4, d5, d6, d7, d8, d9, d10, d11, d12, d13, d14, d15, d16, d17, d18, d19, d20, d21, d22, d23, d24, d25, d26, d27⟩ := HKC.out W hW; go_simp; (try with_reducible rfl); (try omega))
    · exact fix_val (by rfl) (fun W hW => by obtain ⟨d0, d1, d2, d3, d4, d5, d6, d7, d8, d9, d10, d11, d12, d13, d14, d15, d16, d17, d18, d19, d20, d21, d22, d23, d24, d25, d26, d27⟩ := HKC.out W hW; go_simp; (try with_reducible rfl); (try omega))
    · exact fix_val (by rfl) (fun W hW => by obtain ⟨d0, d1, d2, d3, d4, d5, d6, d7, d8, d9, d10, d11, d12, d13, d14, d15, d16, d17, d18, d19, d20, d21, d22, d23, d24, d25, d26, d27⟩ := HKC.out W hW; go_simp; (try with_reducible rfl); (try omega))
  case he7 =>
  rintro V3 hV3
  have hb3 : Below V2.heap.size V2 V3 := (Below.refl _ _).drew.trans hV3
  have hcv := HC2.out.1.below hb3
  have qc0 := hcv.cell 0 _ rfl
  have qf0 := hcv.free 0
  have qc1 := hcv.cell 1 _ rfl
  have qf1 := hcv.free 1
  have qc2 := hcv.cell 2 _ rfl
  have qf2 := hcv.free 2
  have qc3 := hcv.cell 3 _ rfl
  have qf3 := hcv.free 3
  have qc4 := hcv.cell 4 _ rfl
  have qf4 := hcv.free 4
  have qc5 := hcv.cell 5 _ rfl
  have qf5 := hcv.free 5
  have qc6 := hcv.cell 6 _ rfl
  have qf6 := hcv.free 6
  have qc7 := hcv.cell 7 _ rfl
  have qf7 := hcv.free 7
  have qc8 := hcv.cell 8 _ rfl
  have qf8 := hcv.free 8
  have qc9 := hcv.cell 9 _ rfl
  have qf9 := hcv.free 9
  have qc10 := hcv.cell 10 _ rfl
  have qf10 := hcv.free 10
  have qc11 := hcv.cell 11 _ rfl
  have qf11 := hcv.free 11
  have qc12 := hcv.cell 12 _ rfl
  have qf12 := hcv.free 12
  have qc13 := hcv.cell 13 _ rfl
  have qf13 := hcv.free 13
  have HO : Hid (OwnG 47 14 ChQ.vals V3 w.heap.size (some ⟨g, 0, none⟩) k oc xs) := HC2.out.2.1.below hb3
  have HBV : Hid (Below w.heap.size w V3) := HC2.out.2.2.2.1.trans (hb3.mono HC2.out.2.2.2.1.size)
  have HCB := (show Hid _ from hcv)
  have HNE : Hid (¬ (Value.slice (some ⟨g, 0, none⟩) k oc).ownBlock = some V1.heap.size) := fun e => HC2.out.2.2.1 _ e rfl
  have hl3 : V1.heap.size < V3.heap.size := hcv.lt
  have hw3 : w.heap.size ≤ V3.heap.size := HBV.out.size
  clear hV3 hb3 hcv hst
  obtain ⟨f, hf⟩ : ∃ f, f = x.pc.fin := ⟨_, rfl⟩
  have HF := (show Hid _ from hf)
  clear hf
  have HX : Hid (∀ j, j < k + 1 → findQ E ((t + j) % 4294967296) = (xs ++ [x])[j]?) := by
    obtain ⟨hI, hq⟩ := HI.out
    intro j hj
    have hl := hI.own.len
    by_cases e : j = k
    · rw [e, List.getElem?_append_right (by omega), hl, Nat.sub_self, ← hq]
      exact HB1.out.2
    · rw [List.getElem?_append_left (by omega)]
      exact hI.at_ j (by omega)
  have HPC : Hid (pcAt (E.map ChQ.kv) ((t + k) % 4294967296) = x.pc) := pcAt_q (by rw [← HI.out.2]; exact HB1.out.2)
  cases f with
  | false =>
    go_wp2_with (first
              | (at_builtin; refine OwnG.wpl layCq rfl _ _ rfl rfl (HO.out.below ((Below.refl _ _).alloc (Nat.le_refl _) (.cells #[.int .u8 (x.k : Nat), .int .u8 (x.f : Nat), .int .u32 (x.t : Nat), .int .u16 (x.st : Nat), .int .u16 (x.ss : Nat), .int .u32 (x.pp : Nat), .int .u32 (x.tg : Nat), .int .u32 (x.rm : Nat), .int .u16 (x.os : Nat), .int .u16 (x.is : Nat), .slice x.bA x.bN x.bC, .slice x.dA x.dN x.dC, .slice x.pA x.pN x.pC, .slice x.xA x.xN x.xC] 47))) x ⟨V3.heap.size, 0, none⟩ rfl (st_add (Stc.new V3 x.vals 47 _ rfl)) (by unfold maxLen; omega) (by omega) (Nat.le_trans HBV.out.size (by simp)) ?_; intro g9 c9 w9 ho9 hg9 hl9 hlt9; have hb9 := HBV.out.trans ((((Below.refl _ _).alloc (Nat.le_refl _) _).mono HBV.out.size).trans ((HO.out.below ((Below.refl _ _).alloc (Nat.le_refl _) (.cells #[.int .u8 (x.k : Nat), .int .u8 (x.f : Nat), .int .u32 (x.t : Nat), .int .u16 (x.st : Nat), .int .u16 (x.ss : Nat), .int .u32 (x.pp : Nat), .int .u32 (x.tg : Nat), .int .u32 (x.rm : Nat), .int .u16 (x.os : Nat), .int .u16 (x.is : Nat), .slice x.bA x.bN x.bC, .slice x.dA x.dN x.dC, .slice x.pA x.pN x.pC, .slice x.xA x.xN x.xC] 47))).up hg9 (Nat.le_trans HBV.out.size (by simp)))); have hx9 := ((HCB.out.below ((Below.refl _ _).alloc (Nat.le_refl _) (.cells #[.int .u8 (x.k : Nat), .int .u8 (x.f : Nat), .int .u32 (x.t : Nat), .int .u16 (x.st : Nat), .int .u16 (x.ss : Nat), .int .u32 (x.pp : Nat), .int .u32 (x.tg : Nat), .int .u32 (x.rm : Nat), .int .u16 (x.os : Nat), .int .u16 (x.is : Nat), .slice x.bA x.bN x.bC, .slice x.dA x.dN x.dC, .slice x.pA x.pN x.pC, .slice x.xA x.xN x.xC] 47))).fr (Fr.grown (P := fun k => (Value.slice (some ⟨g, 0, none⟩) k oc).ownBlock = some k) hg9 (fun k hk => hk)) (HNE.out)); have H9 := (show Hid _ from And.intro ho9 (And.intro hb9 (And.intro hx9 hlt9))); have z0 := hx9.cell 0 _ rfl; have z1 := hx9.cell 1 _ rfl; have z2 := hx9.cell 2 _ rfl; have z3 := hx9.cell 3 _ rfl; have z4 := hx9.cell 4 _ rfl; have z5 := hx9.cell 5 _ rfl; have z6 := hx9.cell 6 _ rfl; have z7 := hx9.cell 7 _ rfl; have z8 := hx9.cell 8 _ rfl; have z9 := hx9.cell 9 _ rfl; have z10 := hx9.cell 10 _ rfl; have z11 := hx9.cell 11 _ rfl; have z12 := hx9.cell 12 _ rfl; have z13 := hx9.cell 13 _ rfl; clear ho9 hg9 hl9 hlt9 hb9 hx9)
              | (go_at_call 65; refine (rends_any x _ hxf _ rfl).mono ?_; rintro e w10 ⟨he, hb10⟩; obtain rfl : e = .returned (.bool false) := (by rw [he, HF.out]); clear he; have HB10 := (show Hid _ from hb10); clear hb10)
              | fail)
    go_roundw
    case rel => exact ⟨k + 1, _, c9, xs ++ [x], by
      rw [show (t + (k + 1)) % 4294967296 = (q + 1) % 4294967296 by have hq := HI.out.2; omega]
      go_num, by go_num, (H9.out.1).below HB10.out, H9.out.2.1.trans (HB10.out.mono H9.out.2.1.size), HI.out.1.rn.step (by omega) HN.out (by rw [HPC.out, HF.out]), HX.out⟩
    case measure => first | (simp [slN]; done) | (simp [slN]; omega)
  | true =>
    go_wp2_with (first
              | (at_builtin; refine OwnG.wpl layCq rfl _ _ rfl rfl (HO.out.below ((Below.refl _ _).alloc (Nat.le_refl _) (.cells #[.int .u8 (x.k : Nat), .int .u8 (x.f : Nat), .int .u32 (x.t : Nat), .int .u16 (x.st : Nat), .int .u16 (x.ss : Nat), .int .u32 (x.pp : Nat), .int .u32 (x.tg : Nat), .int .u32 (x.rm : Nat), .int .u16 (x.os : Nat), .int .u16 (x.is : Nat), .slice x.bA x.bN x.bC, .slice x.dA x.dN x.dC, .slice x.pA x.pN x.pC, .slice x.xA x.xN x.xC] 47))) x ⟨V3.heap.size, 0, none⟩ rfl (st_add (Stc.new V3 x.vals 47 _ rfl)) (by unfold maxLen; omega) (by omega) (Nat.le_trans HBV.out.size (by simp)) ?_; intro g9 c9 w9 ho9 hg9 hl9 hlt9; have hb9 := HBV.out.trans ((((Below.refl _ _).alloc (Nat.le_refl _) _).mono HBV.out.size).trans ((HO.out.below ((Below.refl _ _).alloc (Nat.le_refl _) (.cells #[.int .u8 (x.k : Nat), .int .u8 (x.f : Nat), .int .u32 (x.t : Nat), .int .u16 (x.st : Nat), .int .u16 (x.ss : Nat), .int .u32 (x.pp : Nat), .int .u32 (x.tg : Nat), .int .u32 (x.rm : Nat), .int .u16 (x.os : Nat), .int .u16 (x.is : Nat), .slice x.bA x.bN x.bC, .slice x.dA x.dN x.dC, .slice x.pA x.pN x.pC, .slice x.xA x.xN x.xC] 47))).up hg9 (Nat.le_trans HBV.out.size (by simp)))); have hx9 := ((HCB.out.below ((Below.refl _ _).alloc (Nat.le_refl _) (.cells #[.int .u8 (x.k : Nat), .int .u8 (x.f : Nat), .int .u32 (x.t : Nat), .int .u16 (x.st : Nat), .int .u16 (x.ss : Nat), .int .u32 (x.pp : Nat), .int .u32 (x.tg : Nat), .int .u32 (x.rm : Nat), .int .u16 (x.os : Nat), .int .u16 (x.is : Nat), .slice x.bA x.bN x.bC, .slice x.dA x.dN x.dC, .slice x.pA x.pN x.pC, .slice x.xA x.xN x.xC] 47))).fr (Fr.grown (P := fun k => (Value.slice (some ⟨g, 0, none⟩) k oc).ownBlock = some k) hg9 (fun k hk => hk)) (HNE.out)); have H9 := (show Hid _ from And.intro ho9 (And.intro hb9 (And.intro hx9 hlt9))); have z0 := hx9.cell 0 _ rfl; have z1 := hx9.cell 1 _ rfl; have z2 := hx9.cell 2 _ rfl; have z3 := hx9.cell 3 _ rfl; have z4 := hx9.cell 4 _ rfl; have z5 := hx9.cell 5 _ rfl; have z6 := hx9.cell 6 _ rfl; have z7 := hx9.cell 7 _ rfl; have z8 := hx9.cell 8 _ rfl; have z9 := hx9.cell 9 _ rfl; have z10 := hx9.cell 10 _ rfl; have z11 := hx9.cell 11 _ rfl; have z12 := hx9.cell 12 _ rfl; have z13 := hx9.cell 13 _ rfl; clear ho9 hg9 hl9 hlt9 hb9 hx9)
              | (go_at_call 65; refine (rends_any x _ hxf _ rfl).mono ?_; rintro e w10 ⟨he, hb10⟩; obtain rfl : e = .returned (.bool true) := (by rw [he, HF.out]); clear he; have HB10 := (show Hid _ from hb10); clear hb10)
              | fail)
    go_ret
    exact .yes k _ c9 (xs ++ [x]) rfl (HI.out.1.rn.whole HN.out (by rw [HPC.out, HF.out])) ((H9.out.1).below HB10.out) HX.out (H9.out.2.1.trans (HB10.out.mono H9.out.2.1.size))
end Go.Proofs.Ytjaheelgcjafcaa
namespace Go.Proofs.Ytjaheelgcjafcaa
open Go.RowKit
theorem rrun_any {W0 w : World} {p : Nat} {r : Rw} {nx : List Nat} {E : List ChQ} {V : List RyD} {Z : Nat → Prop} {D : List (Nat × Pc)} (t : Nat) (h : RfS W0 w p r nx E V Z) (hA : Alk D (E.map ChQ.kv)) (ht : t < 4294967296) :
    Calls Try.prog 50 #[.pointer (some ⟨p, 0, none⟩), .int .u32 (t : Nat)] w (RunR w E t) := runK.2 (runD.2.2 run_5 run_3) W0 w p r nx E V Z D t h hA ht
end Go.Proofs.Ytjaheelgcjafcaa
