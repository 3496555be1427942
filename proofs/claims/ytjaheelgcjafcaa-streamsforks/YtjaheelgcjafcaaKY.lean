/- ref12.Bytes, Check and Size, the chunk's cells as letters. -/
import Derived.Test.YtjaheelgcjafcaaKB
import Derived.Test.YtjaheelgcjafcaaRgP
import Derived.Deep.Cut
import Derived.Test.YtjaheelgcjafcaaKW
import Derived.Test.YtjaheelgcjafcaaME
import Derived.Test.YtjaheelgcjafcaaKX
namespace Go.Proofs.Ytjaheelgcjafcaa
open Go.RowKit
set_option linter.unusedVariables false in
set_option maxRecDepth 100000 in
set_option maxHeartbeats 8000000 in
theorem odd_letters (k f t st ss pp tg rm os is : Nat) (b1 : Option Addr) (b2 b3 : Nat) (d1 : Option Addr) (d2 d3 : Nat) (p1 : Option Addr) (p2 p3 : Nat) (x1 : Option Addr) (x2 x3 : Nat) (w : World)
    (k0 n3 n4 n5 k1 k2 k3 k7 n2 n6 n8 n9 n7 n10 n11 hp n12 hd n13 : Bool) (HBk0 : Hid (((k : Int) != 0) = k0)) (HBn3 : Hid (((st : Int) != 0) = n3)) (HBn4 : Hid (((ss : Int) != 0) = n4)) (HBn5 : Hid (((pp : Int) != 0) = n5)) (HBk1 : Hid (((k : Int) != 1) = k1)) (HBk2 : Hid (((k : Int) != 2) = k2)) (HBk3 : Hid (((k : Int) != 3) = k3)) (HBk7 : Hid (((k : Int) != 7) = k7)) (HBn2 : Hid (((t : Int) != 0) = n2)) (HBn6 : Hid (((tg : Int) != 0) = n6)) (HBn8 : Hid (((os : Int) != 0) = n8)) (HBn9 : Hid (((is : Int) != 0) = n9)) (HBn7 : Hid (((rm : Int) != 0) = n7)) (HBn10 : Hid (decide (0 < b2) = n10)) (HBn11 : Hid (decide (0 < d2) = n11)) (HBn12 : Hid (decide (0 < p2) = n12)) (HBn13 : Hid (decide (0 < x2) = n13))
    (HHP : Hid (∀ W, Calls Try.prog 71 #[.int .u8 (k : Nat)] W fun e w' => e = .returned (.bool hp) ∧ Below W.heap.size W w')) (HHD : Hid (∀ W, Calls Try.prog 72 #[.int .u8 (k : Nat)] W fun e w' => e = .returned (.bool hd) ∧ Below W.heap.size W w'))
    (g1 p16 g2 p21 p22 g3 g4 p29 g5 p33 g6 p37 g7 p41 g8 p46 p47 g9 g10 p54 g11 g12 p63 g13 p68 p69 p70 g14 g15 p77 g16 p81 g17 p86 p87 g18 g19 g20 p101 p102 p103 g21 uhp g22 p113 p114 g23 g24 uhd p122 g25 p128 p129 : Bool) (Hg1 : Hid (g1 = (k0 && !n3))) (Hp16 : Hid (p16 = (n3 || n4))) (Hg2 : Hid (g2 = (k0 && !p16))) (Hp21 : Hid (p21 = (p16 || n5))) (Hp22 : Hid (p22 = (k0 && p21))) (Hg3 : Hid (g3 = !p22)) (Hg4 : Hid (g4 = (g3 && k0))) (Hp29 : Hid (p29 = (k0 && k1))) (Hg5 : Hid (g5 = (g3 && p29))) (Hp33 : Hid (p33 = (p29 && k2))) (Hg6 : Hid (g6 = (g3 && p33))) (Hp37 : Hid (p37 = (p33 && k3))) (Hg7 : Hid (g7 = (g3 && p37))) (Hp41 : Hid (p41 = (p37 && k7))) (Hg8 : Hid (g8 = (g3 && p41))) (Hp46 : Hid (p46 = (p41 && n2))) (Hp47 : Hid (p47 = (p22 || p46))) (Hg9 : Hid (g9 = !p47)) (Hg10 : Hid (g10 = (g9 && k1))) (Hp54 : Hid (p54 = (k1 && k2))) (Hg11 : Hid (g11 = (g9 && p54))) (Hg12 : Hid (g12 = (g11 && !n6))) (Hp63 : Hid (p63 = (n6 || n8))) (Hg13 : Hid (g13 = (g11 && !p63))) (Hp68 : Hid (p68 = (p63 || n9))) (Hp69 : Hid (p69 = (p54 && p68))) (Hp70 : Hid (p70 = (p47 || p69))) (Hg14 : Hid (g14 = !p70)) (Hg15 : Hid (g15 = (g14 && k1))) (Hp77 : Hid (p77 = (k1 && k2))) (Hg16 : Hid (g16 = (g14 && p77))) (Hp81 : Hid (p81 = (p77 && k3))) (Hg17 : Hid (g17 = (g14 && p81))) (Hp86 : Hid (p86 = (p81 && n7))) (Hp87 : Hid (p87 = (p70 || p86))) (Hg18 : Hid (g18 = !p87)) (Hg19 : Hid (g19 = (g18 && k3))) (Hg20 : Hid (g20 = (g19 && !n10))) (Hp101 : Hid (p101 = (n10 || n11))) (Hp102 : Hid (p102 = (k3 && p101))) (Hp103 : Hid (p103 = (p87 || p102))) (Hg21 : Hid (g21 = !p103)) (Huhp : Hid (uhp = !hp)) (Hg22 : Hid (g22 = (g21 && uhp))) (Hp113 : Hid (p113 = (uhp && n12))) (Hp114 : Hid (p114 = (p103 || p113))) (Hg23 : Hid (g23 = !p114)) (Hg24 : Hid (g24 = (g23 && k0))) (Huhd : Hid (uhd = !hd)) (Hp122 : Hid (p122 = (k0 && uhd))) (Hg25 : Hid (g25 = (g23 && p122))) (Hp128 : Hid (p128 = (p122 && n13))) (Hp129 : Hid (p129 = (p114 || p128))) :
    Calls Try.prog 61 #[.agg #[.int .u8 (k : Nat), .int .u8 (f : Nat), .int .u32 (t : Nat), .int .u16 (st : Nat), .int .u16 (ss : Nat), .int .u32 (pp : Nat), .int .u32 (tg : Nat), .int .u32 (rm : Nat), .int .u16 (os : Nat), .int .u16 (is : Nat), .slice b1 b2 b3, .slice d1 d2 d3, .slice p1 p2 p3, .slice x1 x2 x3]] w fun e w' => e = .returned (.bool p129) ∧ Below w.heap.size w w' := by
  obtain ⟨W1, hW1⟩ : ∃ W1, W1 = w.alloc (.cells #[.int .u8 (k : Nat), .int .u8 (f : Nat), .int .u32 (t : Nat), .int .u16 (st : Nat), .int .u16 (ss : Nat), .int .u32 (pp : Nat), .int .u32 (tg : Nat), .int .u32 (rm : Nat), .int .u16 (os : Nat), .int .u16 (is : Nat), .slice b1 b2 b3, .slice d1 d2 d3, .slice p1 p2 p3, .slice x1 x2 x3] 47) := ⟨_, rfl⟩
  have bb1 : Below w.heap.size w W1 := by rw [hW1]; exact (Below.refl _ _).alloc (Nat.le_refl _) _
  have s1 := Stc.new w [.int .u8 (k : Nat), .int .u8 (f : Nat), .int .u32 (t : Nat), .int .u16 (st : Nat), .int .u16 (ss : Nat), .int .u32 (pp : Nat), .int .u32 (tg : Nat), .int .u32 (rm : Nat), .int .u16 (os : Nat), .int .u16 (is : Nat), .slice b1 b2 b3, .slice d1 d2 d3, .slice p1 p2 p3, .slice x1 x2 x3] 47 W1 hW1
  have HC : Hid (∀ V, Below W1.heap.size W1 V → V.cell? ⟨w.heap.size, 0, none⟩ = some (.int .u8 (k : Nat)) ∧ V.cell? ⟨w.heap.size, 2, none⟩ = some (.int .u32 (t : Nat)) ∧ V.cell? ⟨w.heap.size, 3, none⟩ = some (.int .u16 (st : Nat)) ∧ V.cell? ⟨w.heap.size, 4, none⟩ = some (.int .u16 (ss : Nat)) ∧ V.cell? ⟨w.heap.size, 5, none⟩ = some (.int .u32 (pp : Nat)) ∧ V.cell? ⟨w.heap.size, 6, none⟩ = some (.int .u32 (tg : Nat)) ∧ V.cell? ⟨w.heap.size, 7, none⟩ = some (.int .u32 (rm : Nat)) ∧ V.cell? ⟨w.heap.size, 8, none⟩ = some (.int .u16 (os : Nat)) ∧ V.cell? ⟨w.heap.size, 9, none⟩ = some (.int .u16 (is : Nat)) ∧ V.cell? ⟨w.heap.size, 10, none⟩ = some (.slice b1 b2 b3) ∧ V.cell? ⟨w.heap.size, 11, none⟩ = some (.slice d1 d2 d3) ∧ V.cell? ⟨w.heap.size, 12, none⟩ = some (.slice p1 p2 p3) ∧ V.cell? ⟨w.heap.size, 13, none⟩ = some (.slice x1 x2 x3)) := by
    show ∀ _, _
    intro V hV
    have s := s1.below hV
    exact ⟨s.cell 0 _ rfl, s.cell 2 _ rfl, s.cell 3 _ rfl, s.cell 4 _ rfl, s.cell 5 _ rfl, s.cell 6 _ rfl, s.cell 7 _ rfl, s.cell 8 _ rfl, s.cell 9 _ rfl, s.cell 10 _ rfl, s.cell 11 _ rfl, s.cell 12 _ rfl, s.cell 13 _ rfl⟩
  have HB1 := (show Hid _ from bb1)
  clear s1 bb1
  go_enter Try.func61, Try.ntmps61
  go_upto_region 2 with fail
  rw [← hW1]
  clear hW1
  refine wp_region_fixP (fun V => Below W1.heap.size W1 V) [(6, .int .u8 (k : Nat)), (7, .bool k0), (8, .bool k0), (9, bif k0 then .pointer (some ⟨w.heap.size, 3, none⟩) else undef), (10, bif k0 then .int .u16 (st : Nat) else undef), (11, bif k0 then .bool n3 else undef), (12, bif k0 then .bool n3 else undef), (13, bif g1 then .pointer (some ⟨w.heap.size, 4, none⟩) else undef), (14, bif g1 then .int .u16 (ss : Nat) else undef), (15, bif g1 then .bool n4 else undef), (16, bif k0 then .bool p16 else undef), (17, bif k0 then .bool p16 else undef), (18, bif g2 then .pointer (some ⟨w.heap.size, 5, none⟩) else undef), (19, bif g2 then .int .u32 (pp : Nat) else undef), (20, bif g2 then .bool n5 else undef), (21, bif k0 then .bool p21 else undef), (22, .bool p22), (23, .bool p22), (24, bif g3 then .int .u8 (k : Nat) else undef), (25, bif g3 then .bool k0 else undef), (26, bif g3 then .bool k0 else undef), (27, bif g4 then .int .u8 (k : Nat) else undef), (28, bif g4 then .bool k1 else undef), (29, bif g3 then .bool p29 else undef), (30, bif g3 then .bool p29 else undef), (31, bif g5 then .int .u8 (k : Nat) else undef), (32, bif g5 then .bool k2 else undef), (33, bif g3 then .bool p33 else undef), (34, bif g3 then .bool p33 else undef), (35, bif g6 then .int .u8 (k : Nat) else undef), (36, bif g6 then .bool k3 else undef), (37, bif g3 then .bool p37 else undef), (38, bif g3 then .bool p37 else undef), (39, bif g7 then .int .u8 (k : Nat) else undef), (40, bif g7 then .bool k7 else undef), (41, bif g3 then .bool p41 else undef), (42, bif g3 then .bool p41 else undef), (43, bif g8 then .pointer (some ⟨w.heap.size, 2, none⟩) else undef), (44, bif g8 then .int .u32 (t : Nat) else undef), (45, bif g8 then .bool n2 else undef), (46, bif g3 then .bool p46 else undef), (47, .bool p47), (48, .bool p47), (49, bif g9 then .int .u8 (k : Nat) else undef), (50, bif g9 then .bool k1 else undef), (51, bif g9 then .bool k1 else undef), (52, bif g10 then .int .u8 (k : Nat) else undef), (53, bif g10 then .bool k2 else undef), (54, bif g9 then .bool p54 else undef), (55, bif g9 then .bool p54 else undef), (56, bif g11 then .pointer (some ⟨w.heap.size, 6, none⟩) else undef), (57, bif g11 then .int .u32 (tg : Nat) else undef), (58, bif g11 then .bool n6 else undef), (59, bif g11 then .bool n6 else undef), (60, bif g12 then .pointer (some ⟨w.heap.size, 8, none⟩) else undef), (61, bif g12 then .int .u16 (os : Nat) else undef), (62, bif g12 then .bool n8 else undef), (63, bif g11 then .bool p63 else undef), (64, bif g11 then .bool p63 else undef), (65, bif g13 then .pointer (some ⟨w.heap.size, 9, none⟩) else undef), (66, bif g13 then .int .u16 (is : Nat) else undef), (67, bif g13 then .bool n9 else undef), (68, bif g11 then .bool p68 else undef), (69, bif g9 then .bool p69 else undef), (70, .bool p70), (71, .bool p70), (72, bif g14 then .int .u8 (k : Nat) else undef), (73, bif g14 then .bool k1 else undef), (74, bif g14 then .bool k1 else undef), (75, bif g15 then .int .u8 (k : Nat) else undef), (76, bif g15 then .bool k2 else undef), (77, bif g14 then .bool p77 else undef), (78, bif g14 then .bool p77 else undef), (79, bif g16 then .int .u8 (k : Nat) else undef), (80, bif g16 then .bool k3 else undef), (81, bif g14 then .bool p81 else undef), (82, bif g14 then .bool p81 else undef), (83, bif g17 then .pointer (some ⟨w.heap.size, 7, none⟩) else undef), (84, bif g17 then .int .u32 (rm : Nat) else undef), (85, bif g17 then .bool n7 else undef), (86, bif g14 then .bool p86 else undef), (87, .bool p87), (88, .bool p87), (89, bif g18 then .int .u8 (k : Nat) else undef), (90, bif g18 then .bool k3 else undef), (91, bif g18 then .bool k3 else undef), (92, bif g19 then .pointer (some ⟨w.heap.size, 10, none⟩) else undef), (93, bif g19 then .slice b1 b2 b3 else undef), (94, bif g19 then .int .i64 (b2 : Nat) else undef), (95, bif g19 then .bool n10 else undef), (96, bif g19 then .bool n10 else undef), (97, bif g20 then .pointer (some ⟨w.heap.size, 11, none⟩) else undef), (98, bif g20 then .slice d1 d2 d3 else undef), (99, bif g20 then .int .i64 (d2 : Nat) else undef), (100, bif g20 then .bool n11 else undef), (101, bif g19 then .bool p101 else undef), (102, bif g18 then .bool p102 else undef), (103, .bool p103), (104, .bool p103), (105, bif g21 then .int .u8 (k : Nat) else undef), (106, bif g21 then .bool hp else undef), (107, bif g21 then .bool uhp else undef), (108, bif g21 then .bool uhp else undef), (109, bif g22 then .pointer (some ⟨w.heap.size, 12, none⟩) else undef), (110, bif g22 then .slice p1 p2 p3 else undef), (111, bif g22 then .int .i64 (p2 : Nat) else undef), (112, bif g22 then .bool n12 else undef), (113, bif g21 then .bool p113 else undef), (114, .bool p114), (115, .bool p114), (116, bif g23 then .int .u8 (k : Nat) else undef), (117, bif g23 then .bool k0 else undef), (118, bif g23 then .bool k0 else undef), (119, bif g24 then .int .u8 (k : Nat) else undef), (120, bif g24 then .bool hd else undef), (121, bif g24 then .bool uhd else undef), (122, bif g23 then .bool p122 else undef), (123, bif g23 then .bool p122 else undef), (124, bif g25 then .pointer (some ⟨w.heap.size, 13, none⟩) else undef), (125, bif g25 then .slice x1 x2 x3 else undef), (126, bif g25 then .int .i64 (x2 : Nat) else undef), (127, bif g25 then .bool n13 else undef), (128, bif g23 then .bool p128 else undef), (129, .bool p129), (2, .bool p129)] ?Z ?hZ (by kernel_rfl) (by kernel_rfl) (by kernel_rfl) (Below.refl _ _) ?hops ?he
  case hZ => simp only [List.foldl_cons, List.foldl_nil, List.setIfInBounds_toArray, List.set_cons_zero, List.set_cons_succ]; rfl
  case hops =>
    refine ⟨?_, ?_, ?_, ?_, ?_, ?_, ?_, ?_, ?_, ?_, ?_, ?_, ?_, ?_, ?_, ?_, ?_, ?_, ?_, ?_, ?_, ?_, ?_, ?_, ?_, ?_, ?_, ?_, ?_, ?_, ?_, ?_, ?_, ?_, ?_, ?_, ?_, ?_, ?_, ?_, ?_, ?_, ?_, ?_, ?_, ?_, ?_, ?_, ?_, ?_, ?_, ?_, ?_, ?_, ?_, ?_, ?_, ?_, ?_, ?_, ?_, ?_, ?_, ?_, ?_, ?_, ?_, ?_, ?_, ?_, ?_, ?_, ?_, ?_, ?_, ?_, ?_, ?_, ?_, ?_, ?_, ?_, ?_, ?_, ?_, ?_, ?_, ?_, ?_, ?_, ?_, ?_, ?_, ?_, ?_, ?_, ?_, ?_, ?_, ?_, ?_, ?_, ?_, ?_, ?_, ?_, ?_, ?_, ?_, ?_, ?_, ?_, ?_, ?_, ?_, ?_, ?_, ?_, ?_, ?_, ?_, ?_, ?_, ?_, ?_, trivial⟩
    · first | exact fix_off (by rfl) (fun d hd => by cases hd; rfl) | exact fix_val (by rfl) (fun W hW => by obtain ⟨c0, c2, c3, c4, c5, c6, c7, c8, c9, c10, c11, c12, c13⟩ := HC.out W hW; go_simp; (try with_reducible rfl))
    · first | exact fix_off (by rfl) (fun d hd => by cases hd; rfl) | exact fix_val (by rfl) (fun W hW => by have hb := HBk0.out; go_simp; (try simp [hb]))
    · first | exact fix_off (by rfl) (fun d hd => by cases hd; rfl) | exact fix_val (by rfl) (fun W hW => by obtain ⟨c0, c2, c3, c4, c5, c6, c7, c8, c9, c10, c11, c12, c13⟩ := HC.out W hW; go_simp; (try with_reducible rfl))
    · cases k0 <;> (first | exact fix_off (by rfl) (fun d hd => by cases hd; rfl) | exact fix_val (by rfl) (fun W hW => by obtain ⟨c0, c2, c3, c4, c5, c6, c7, c8, c9, c10, c11, c12, c13⟩ := HC.out W hW; go_simp; (try with_reducible rfl)))
    · cases k0 <;> (first | exact fix_off (by rfl) (fun d hd => by cases hd; rfl) | exact fix_val (by rfl) (fun W hW => by obtain ⟨c0, c2, c3, c4, c5, c6, c7, c8, c9, c10, c11, c12, c13⟩ := HC.out W hW; go_simp; (try with_reducible rfl)))
    · cases k0 <;> (first | exact fix_off (by rfl) (fun d hd => by cases hd; rfl) | exact fix_val (by rfl) (fun W hW => by have hb := HBn3.out; go_simp; (try simp [hb])))
    · cases k0 <;> (first | exact fix_off (by rfl) (fun d hd => by cases hd; rfl) | exact fix_val (by rfl) (fun W hW => by obtain ⟨c0, c2, c3, c4, c5, c6, c7, c8, c9, c10, c11, c12, c13⟩ := HC.out W hW; go_simp; (try with_reducible rfl)))
    · have eg1 := Hg1.out; clear Hg1; subst eg1; cases n3 <;> cases k0 <;> (first | exact fix_off (by rfl) (fun d hd => by cases hd; rfl) | exact fix_val (by rfl) (fun W hW => by obtain ⟨c0, c2, c3, c4, c5, c6, c7, c8, c9, c10, c11, c12, c13⟩ := HC.out W hW; go_simp; (try with_reducible rfl)))
    · have eg1 := Hg1.out; clear Hg1; subst eg1; cases n3 <;> cases k0 <;> (first | exact fix_off (by rfl) (fun d hd => by cases hd; rfl) | exact fix_val (by rfl) (fun W hW => by obtain ⟨c0, c2, c3, c4, c5, c6, c7, c8, c9, c10, c11, c12, c13⟩ := HC.out W hW; go_simp; (try with_reducible rfl)))
    · have eg1 := Hg1.out; clear Hg1; subst eg1; cases n3 <;> cases k0 <;> (first | exact fix_off (by rfl) (fun d hd => by cases hd; rfl) | exact fix_val (by rfl) (fun W hW => by have hb := HBn4.out; go_simp; (try simp [hb])))
    · have ep16 := Hp16.out; clear Hp16; subst ep16; have eg1 := Hg1.out; clear Hg1; subst eg1; cases k0 <;> cases n3 <;> cases n4 <;> (first | exact fix_off (by rfl) (fun d hd => by cases hd; rfl) | exact fix_val (by rfl) (fun W hW => by obtain ⟨c0, c2, c3, c4, c5, c6, c7, c8, c9, c10, c11, c12, c13⟩ := HC.out W hW; go_simp; (try with_reducible rfl)))
    · cases k0 <;> (first | exact fix_off (by rfl) (fun d hd => by cases hd; rfl) | exact fix_val (by rfl) (fun W hW => by obtain ⟨c0, c2, c3, c4, c5, c6, c7, c8, c9, c10, c11, c12, c13⟩ := HC.out W hW; go_simp; (try with_reducible rfl)))
    · have eg2 := Hg2.out; clear Hg2; subst eg2; cases p16 <;> cases k0 <;> (first | exact fix_off (by rfl) (fun d hd => by cases hd; rfl) | exact fix_val (by rfl) (fun W hW => by obtain ⟨c0, c2, c3, c4, c5, c6, c7, c8, c9, c10, c11, c12, c13⟩ := HC.out W hW; go_simp; (try with_reducible rfl)))
    · have eg2 := Hg2.out; clear Hg2; subst eg2; cases p16 <;> cases k0 <;> (first | exact fix_off (by rfl) (fun d hd => by cases hd; rfl) | exact fix_val (by rfl) (fun W hW => by obtain ⟨c0, c2, c3, c4, c5, c6, c7, c8, c9, c10, c11, c12, c13⟩ := HC.out W hW; go_simp; (try with_reducible rfl)))
    · have eg2 := Hg2.out; clear Hg2; subst eg2; cases p16 <;> cases k0 <;> (first | exact fix_off (by rfl) (fun d hd => by cases hd; rfl) | exact fix_val (by rfl) (fun W hW => by have hb := HBn5.out; go_simp; (try simp [hb])))
    · have ep21 := Hp21.out; clear Hp21; subst ep21; have eg2 := Hg2.out; clear Hg2; subst eg2; cases k0 <;> cases p16 <;> cases n5 <;> (first | exact fix_off (by rfl) (fun d hd => by cases hd; rfl) | exact fix_val (by rfl) (fun W hW => by obtain ⟨c0, c2, c3, c4, c5, c6, c7, c8, c9, c10, c11, c12, c13⟩ := HC.out W hW; go_simp; (try with_reducible rfl)))
    · have ep22 := Hp22.out; clear Hp22; subst ep22; cases k0 <;> cases p21 <;> (first | exact fix_off (by rfl) (fun d hd => by cases hd; rfl) | exact fix_val (by rfl) (fun W hW => by obtain ⟨c0, c2, c3, c4, c5, c6, c7, c8, c9, c10, c11, c12, c13⟩ := HC.out W hW; go_simp; (try with_reducible rfl)))
    · first | exact fix_off (by rfl) (fun d hd => by cases hd; rfl) | exact fix_val (by rfl) (fun W hW => by obtain ⟨c0, c2, c3, c4, c5, c6, c7, c8, c9, c10, c11, c12, c13⟩ := HC.out W hW; go_simp; (try with_reducible rfl))
    · have eg3 := Hg3.out; clear Hg3; subst eg3; cases p22 <;> (first | exact fix_off (by rfl) (fun d hd => by cases hd; rfl) | exact fix_val (by rfl) (fun W hW => by obtain ⟨c0, c2, c3, c4, c5, c6, c7, c8, c9, c10, c11, c12, c13⟩ := HC.out W hW; go_simp; (try with_reducible rfl)))
    · have eg3 := Hg3.out; clear Hg3; subst eg3; cases p22 <;> (first | exact fix_off (by rfl) (fun d hd => by cases hd; rfl) | exact fix_val (by rfl) (fun W hW => by have hb := HBk0.out; go_simp; (try simp [hb])))
    · have eg3 := Hg3.out; clear Hg3; subst eg3; cases p22 <;> (first | exact fix_off (by rfl) (fun d hd => by cases hd; rfl) | exact fix_val (by rfl) (fun W hW => by obtain ⟨c0, c2, c3, c4, c5, c6, c7, c8, c9, c10, c11, c12, c13⟩ := HC.out W hW; go_simp; (try with_reducible rfl)))
    · have eg4 := Hg4.out; clear Hg4; subst eg4; have eg3 := Hg3.out; clear Hg3; subst eg3; cases k0 <;> cases p22 <;> (first | exact fix_off (by rfl) (fun d hd => by cases hd; rfl) | exact fix_val (by rfl) (fun W hW => by obtain ⟨c0, c2, c3, c4, c5, c6, c7, c8, c9, c10, c11, c12, c13⟩ := HC.out W hW; go_simp; (try with_reducible rfl)))
    · have eg4 := Hg4.out; clear Hg4; subst eg4; have eg3 := Hg3.out; clear Hg3; subst eg3; cases k0 <;> cases p22 <;> (first | exact fix_off (by rfl) (fun d hd => by cases hd; rfl) | exact fix_val (by rfl) (fun W hW => by have hb := HBk1.out; go_simp; (try simp [hb])))
    · have ep29 := Hp29.out; clear Hp29; subst ep29; have eg4 := Hg4.out; clear Hg4; subst eg4; have eg3 := Hg3.out; clear Hg3; subst eg3; cases p22 <;> cases k0 <;> cases k1 <;> (first | exact fix_off (by rfl) (fun d hd => by cases hd; rfl) | exact fix_val (by rfl) (fun W hW => by obtain ⟨c0, c2, c3, c4, c5, c6, c7, c8, c9, c10, c11, c12, c13⟩ := HC.out W hW; go_simp; (try with_reducible rfl)))
    · have eg3 := Hg3.out; clear Hg3; subst eg3; cases p22 <;> (first | exact fix_off (by rfl) (fun d hd => by cases hd; rfl) | exact fix_val (by rfl) (fun W hW => by obtain ⟨c0, c2, c3, c4, c5, c6, c7, c8, c9, c10, c11, c12, c13⟩ := HC.out W hW; go_simp; (try with_reducible rfl)))
    · have eg5 := Hg5.out; clear Hg5; subst eg5; have eg3 := Hg3.out; clear Hg3; subst eg3; cases p29 <;> cases p22 <;> (first | exact fix_off (by rfl) (fun d hd => by cases hd; rfl) | exact fix_val (by rfl) (fun W hW => by obtain ⟨c0, c2, c3, c4, c5, c6, c7, c8, c9, c10, c11, c12, c13⟩ := HC.out W hW; go_simp; (try with_reducible rfl)))
    · have eg5 := Hg5.out; clear Hg5; subst eg5; have eg3 := Hg3.out; clear Hg3; subst eg3; cases p29 <;> cases p22 <;> (first | exact fix_off (by rfl) (fun d hd => by cases hd; rfl) | exact fix_val (by rfl) (fun W hW => by have hb := HBk2.out; go_simp; (try simp [hb])))
    · have ep33 := Hp33.out; clear Hp33; subst ep33; have eg5 := Hg5.out; clear Hg5; subst eg5; have eg3 := Hg3.out; clear Hg3; subst eg3; cases p22 <;> cases p29 <;> cases k2 <;> (first | exact fix_off (by rfl) (fun d hd => by cases hd; rfl) | exact fix_val (by rfl) (fun W hW => by obtain ⟨c0, c2, c3, c4, c5, c6, c7, c8, c9, c10, c11, c12, c13⟩ := HC.out W hW; go_simp; (try with_reducible rfl)))
    · have eg3 := Hg3.out; clear Hg3; subst eg3; cases p22 <;> (first | exact fix_off (by rfl) (fun d hd => by cases hd; rfl) | exact fix_val (by rfl) (fun W hW => by obtain ⟨c0, c2, c3, c4, c5, c6, c7, c8, c9, c10, c11, c12, c13⟩ := HC.out W hW; go_simp; (try with_reducible rfl)))
    · have eg6 := Hg6.out; clear Hg6; subst eg6; have eg3 := Hg3.out; clear Hg3; subst eg3; cases p33 <;> cases p22 <;> (first | exact fix_off (by rfl) (fun d hd => by cases hd; rfl) | exact fix_val (by rfl) (fun W hW => by obtain ⟨c0, c2, c3, c4, c5, c6, c7, c8, c9, c10, c11, c12, c13⟩ := HC.out W hW; go_simp; (try with_reducible rfl)))
    · have eg6 := Hg6.out; clear Hg6; subst eg6; have eg3 := Hg3.out; clear Hg3; subst eg3; cases p33 <;> cases p22 <;> (first | exact fix_off (by rfl) (fun d hd => by cases hd; rfl) | exact fix_val (by rfl) (fun W hW => by have hb := HBk3.out; go_simp; (try simp [hb])))
    · have ep37 := Hp37.out; clear Hp37; subst ep37; have eg6 := Hg6.out; clear Hg6; subst eg6; have eg3 := Hg3.out; clear Hg3; subst eg3; cases p22 <;> cases p33 <;> cases k3 <;> (first | exact fix_off (by rfl) (fun d hd => by cases hd; rfl) | exact fix_val (by rfl) (fun W hW => by obtain ⟨c0, c2, c3, c4, c5, c6, c7, c8, c9, c10, c11, c12, c13⟩ := HC.out W hW; go_simp; (try with_reducible rfl)))
    · have eg3 := Hg3.out; clear Hg3; subst eg3; cases p22 <;> (first | exact fix_off (by rfl) (fun d hd => by cases hd; rfl) | exact fix_val (by rfl) (fun W hW => by obtain ⟨c0, c2, c3, c4, c5, c6, c7, c8, c9, c10, c11, c12, c13⟩ := HC.out W hW; go_simp; (try with_reducible rfl)))
    · have eg7 := Hg7.out; clear Hg7; subst eg7; have eg3 := Hg3.out; clear Hg3; subst eg3; cases p37 <;> cases p22 <;> (first | exact fix_off (by rfl) (fun d hd => by cases hd; rfl) | exact fix_val (by rfl) (fun W hW => by obtain ⟨c0, c2, c3, c4, c5, c6, c7, c8, c9, c10, c11, c12, c13⟩ := HC.out W hW; go_simp; (try with_reducible rfl)))
    · have eg7 := Hg7.out; clear Hg7; subst eg7; have eg3 := Hg3.out; clear Hg3; subst eg3; cases p37 <;> cases p22 <;> (first | exact fix_off (by rfl) (fun d hd => by cases hd; rfl) | exact fix_val (by rfl) (fun W hW => by have hb := HBk7.out; go_simp; (try simp [hb])))
    · have ep41 := Hp41.out; clear Hp41; subst ep41; have eg7 := Hg7.out; clear Hg7; subst eg7; have eg3 := Hg3.out; clear Hg3; subst eg3; cases p22 <;> cases p37 <;> cases k7 <;> (first | exact fix_off (by rfl) (fun d hd => by cases hd; rfl) | exact fix_val (by rfl) (fun W hW => by obtain ⟨c0, c2, c3, c4, c5, c6, c7, c8, c9, c10, c11, c12, c13⟩ := HC.out W hW; go_simp; (try with_reducible rfl)))
    · have eg3 := Hg3.out; clear Hg3; subst eg3; cases p22 <;> (first | exact fix_off (by rfl) (fun d hd => by cases hd; rfl) | exact fix_val (by rfl) (fun W hW => by obtain ⟨c0, c2, c3, c4, c5, c6, c7, c8, c9, c10, c11, c12, c13⟩ := HC.out W hW; go_simp; (try with_reducible rfl)))
    · have eg8 := Hg8.out; clear Hg8; subst eg8; have eg3 := Hg3.out; clear Hg3; subst eg3; cases p41 <;> cases p22 <;> (first | exact fix_off (by rfl) (fun d hd => by cases hd; rfl) | exact fix_val (by rfl) (fun W hW => by obtain ⟨c0, c2, c3, c4, c5, c6, c7, c8, c9, c10, c11, c12, c13⟩ := HC.out W hW; go_simp; (try with_reducible rfl)))
    · have eg8 := Hg8.out; clear Hg8; subst eg8; have eg3 := Hg3.out; clear Hg3; subst eg3; cases p41 <;> cases p22 <;> (first | exact fix_off (by rfl) (fun d hd => by cases hd; rfl) | exact fix_val (by rfl) (fun W hW => by obtain ⟨c0, c2, c3, c4, c5, c6, c7, c8, c9, c10, c11, c12, c13⟩ := HC.out W hW; go_simp; (try with_reducible rfl)))
    · have eg8 := Hg8.out; clear Hg8; subst eg8; have eg3 := Hg3.out; clear Hg3; subst eg3; cases p41 <;> cases p22 <;> (first | exact fix_off (by rfl) (fun d hd => by cases hd; rfl) | exact fix_val (by rfl) (fun W hW => by have hb := HBn2.out; go_simp; (try simp [hb])))
    · have ep46 := Hp46.out; clear Hp46; subst ep46; have eg8 := Hg8.out; clear Hg8; subst eg8; have eg3 := Hg3.out; clear Hg3; subst eg3; cases p22 <;> cases p41 <;> cases n2 <;> (first | exact fix_off (by rfl) (fun d hd => by cases hd; rfl) | exact fix_val (by rfl) (fun W hW => by obtain ⟨c0, c2, c3, c4, c5, c6, c7, c8, c9, c10, c11, c12, c13⟩ := HC.out W hW; go_simp; (try with_reducible rfl)))
    · have ep47 := Hp47.out; clear Hp47; subst ep47; have eg3 := Hg3.out; clear Hg3; subst eg3; cases p22 <;> cases p46 <;> (first | exact fix_off (by rfl) (fun d hd => by cases hd; rfl) | exact fix_val (by rfl) (fun W hW => by obtain ⟨c0, c2, c3, c4, c5, c6, c7, c8, c9, c10, c11, c12, c13⟩ := HC.out W hW; go_simp; (try with_reducible rfl)))
    · first | exact fix_off (by rfl) (fun d hd => by cases hd; rfl) | exact fix_val (by rfl) (fun W hW => by obtain ⟨c0, c2, c3, c4, c5, c6, c7, c8, c9, c10, c11, c12, c13⟩ := HC.out W hW; go_simp; (try with_reducible rfl))
    · have eg9 := Hg9.out; clear Hg9; subst eg9; cases p47 <;> (first | exact fix_off (by rfl) (fun d hd => by cases hd; rfl) | exact fix_val (by rfl) (fun W hW => by obtain ⟨c0, c2, c3, c4, c5, c6, c7, c8, c9, c10, c11, c12, c13⟩ := HC.out W hW; go_simp; (try with_reducible rfl)))
    · have eg9 := Hg9.out; clear Hg9; subst eg9; cases p47 <;> (first | exact fix_off (by rfl) (fun d hd => by cases hd; rfl) | exact fix_val (by rfl) (fun W hW => by have hb := HBk1.out; go_simp; (try simp [hb])))
    · have eg9 := Hg9.out; clear Hg9; subst eg9; cases p47 <;> (first | exact fix_off (by rfl) (fun d hd => by cases hd; rfl) | exact fix_val (by rfl) (fun W hW => by obtain ⟨c0, c2, c3, c4, c5, c6, c7, c8, c9, c10, c11, c12, c13⟩ := HC.out W hW; go_simp; (try with_reducible rfl)))
    · have eg10 := Hg10.out; clear Hg10; subst eg10; have eg9 := Hg9.out; clear Hg9; subst eg9; cases k1 <;> cases p47 <;> (first | exact fix_off (by rfl) (fun d hd => by cases hd; rfl) | exact fix_val (by rfl) (fun W hW => by obtain ⟨c0, c2, c3, c4, c5, c6, c7, c8, c9, c10, c11, c12, c13⟩ := HC.out W hW; go_simp; (try with_reducible rfl)))
    · have eg10 := Hg10.out; clear Hg10; subst eg10; have eg9 := Hg9.out; clear Hg9; subst eg9; cases k1 <;> cases p47 <;> (first | exact fix_off (by rfl) (fun d hd => by cases hd; rfl) | exact fix_val (by rfl) (fun W hW => by have hb := HBk2.out; go_simp; (try simp [hb])))
    · have ep54 := Hp54.out; clear Hp54; subst ep54; have eg10 := Hg10.out; clear Hg10; subst eg10; have eg9 := Hg9.out; clear Hg9; subst eg9; cases p47 <;> cases k1 <;> cases k2 <;> (first | exact fix_off (by rfl) (fun d hd => by cases hd; rfl) | exact fix_val (by rfl) (fun W hW => by obtain ⟨c0, c2, c3, c4, c5, c6, c7, c8, c9, c10, c11, c12, c13⟩ := HC.out W hW; go_simp; (try with_reducible rfl)))
    · have eg9 := Hg9.out; clear Hg9; subst eg9; cases p47 <;> (first | exact fix_off (by rfl) (fun d hd => by cases hd; rfl) | exact fix_val (by rfl) (fun W hW => by obtain ⟨c0, c2, c3, c4, c5, c6, c7, c8, c9, c10, c11, c12, c13⟩ := HC.out W hW; go_simp; (try with_reducible rfl)))
    · have eg11 := Hg11.out; clear Hg11; subst eg11; have eg9 := Hg9.out; clear Hg9; subst eg9; cases p54 <;> cases p47 <;> (first | exact fix_off (by rfl) (fun d hd => by cases hd; rfl) | exact fix_val (by rfl) (fun W hW => by obtain ⟨c0, c2, c3, c4, c5, c6, c7, c8, c9, c10, c11, c12, c13⟩ := HC.out W hW; go_simp; (try with_reducible rfl)))
    · have eg11 := Hg11.out; clear Hg11; subst eg11; have eg9 := Hg9.out; clear Hg9; subst eg9; cases p54 <;> cases p47 <;> (first | exact fix_off (by rfl) (fun d hd => by cases hd; rfl) | exact fix_val (by rfl) (fun W hW => by obtain ⟨c0, c2, c3, c4, c5, c6, c7, c8, c9, c10, c11, c12, c13⟩ := HC.out W hW; go_simp; (try with_reducible rfl)))
    · have eg11 := Hg11.out; clear Hg11; subst eg11; have eg9 := Hg9.out; clear Hg9; subst eg9; cases p54 <;> cases p47 <;> (first | exact fix_off (by rfl) (fun d hd => by cases hd; rfl) | exact fix_val (by rfl) (fun W hW => by have hb := HBn6.out; go_simp; (try simp [hb])))
    · have eg11 := Hg11.out; clear Hg11; subst eg11; have eg9 := Hg9.out; clear Hg9; subst eg9; cases p54 <;> cases p47 <;> (first | exact fix_off (by rfl) (fun d hd => by cases hd; rfl) | exact fix_val (by rfl) (fun W hW => by obtain ⟨c0, c2, c3, c4, c5, c6, c7, c8, c9, c10, c11, c12, c13⟩ := HC.out W hW; go_simp; (try with_reducible rfl)))
    · have eg12 := Hg12.out; clear Hg12; subst eg12; have eg11 := Hg11.out; clear Hg11; subst eg11; have eg9 := Hg9.out; clear Hg9; subst eg9; cases n6 <;> cases p54 <;> cases p47 <;> (first | exact fix_off (by rfl) (fun d hd => by cases hd; rfl) | exact fix_val (by rfl) (fun W hW => by obtain ⟨c0, c2, c3, c4, c5, c6, c7, c8, c9, c10, c11, c12, c13⟩ := HC.out W hW; go_simp; (try with_reducible rfl)))
    · have eg12 := Hg12.out; clear Hg12; subst eg12; have eg11 := Hg11.out; clear Hg11; subst eg11; have eg9 := Hg9.out; clear Hg9; subst eg9; cases n6 <;> cases p54 <;> cases p47 <;> (first | exact fix_off (by rfl) (fun d hd => by cases hd; rfl) | exact fix_val (by rfl) (fun W hW => by obtain ⟨c0, c2, c3, c4, c5, c6, c7, c8, c9, c10, c11, c12, c13⟩ := HC.out W hW; go_simp; (try with_reducible rfl)))
    · have eg12 := Hg12.out; clear Hg12; subst eg12; have eg11 := Hg11.out; clear Hg11; subst eg11; have eg9 := Hg9.out; clear Hg9; subst eg9; cases n6 <;> cases p54 <;> cases p47 <;> (first | exact fix_off (by rfl) (fun d hd => by cases hd; rfl) | exact fix_val (by rfl) (fun W hW => by have hb := HBn8.out; go_simp; (try simp [hb])))
    · have ep63 := Hp63.out; clear Hp63; subst ep63; have eg12 := Hg12.out; clear Hg12; subst eg12; have eg11 := Hg11.out; clear Hg11; subst eg11; have eg9 := Hg9.out; clear Hg9; subst eg9; cases p54 <;> cases n6 <;> cases n8 <;> cases p47 <;> (first | exact fix_off (by rfl) (fun d hd => by cases hd; rfl) | exact fix_val (by rfl) (fun W hW => by obtain ⟨c0, c2, c3, c4, c5, c6, c7, c8, c9, c10, c11, c12, c13⟩ := HC.out W hW; go_simp; (try with_reducible rfl)))
    · have eg11 := Hg11.out; clear Hg11; subst eg11; have eg9 := Hg9.out; clear Hg9; subst eg9; cases p54 <;> cases p47 <;> (first | exact fix_off (by rfl) (fun d hd => by cases hd; rfl) | exact fix_val (by rfl) (fun W hW => by obtain ⟨c0, c2, c3, c4, c5, c6, c7, c8, c9, c10, c11, c12, c13⟩ := HC.out W hW; go_simp; (try with_reducible rfl)))
    · have eg13 := Hg13.out; clear Hg13; subst eg13; have eg11 := Hg11.out; clear Hg11; subst eg11; have eg9 := Hg9.out; clear Hg9; subst eg9; cases p63 <;> cases p54 <;> cases p47 <;> (first | exact fix_off (by rfl) (fun d hd => by cases hd; rfl) | exact fix_val (by rfl) (fun W hW => by obtain ⟨c0, c2, c3, c4, c5, c6, c7, c8, c9, c10, c11, c12, c13⟩ := HC.out W hW; go_simp; (try with_reducible rfl)))
    · have eg13 := Hg13.out; clear Hg13; subst eg13; have eg11 := Hg11.out; clear Hg11; subst eg11; have eg9 := Hg9.out; clear Hg9; subst eg9; cases p63 <;> cases p54 <;> cases p47 <;> (first | exact fix_off (by rfl) (fun d hd => by cases hd; rfl) | exact fix_val (by rfl) (fun W hW => by obtain ⟨c0, c2, c3, c4, c5, c6, c7, c8, c9, c10, c11, c12, c13⟩ := HC.out W hW; go_simp; (try with_reducible rfl)))
    · have eg13 := Hg13.out; clear Hg13; subst eg13; have eg11 := Hg11.out; clear Hg11; subst eg11; have eg9 := Hg9.out; clear Hg9; subst eg9; cases p63 <;> cases p54 <;> cases p47 <;> (first | exact fix_off (by rfl) (fun d hd => by cases hd; rfl) | exact fix_val (by rfl) (fun W hW => by have hb := HBn9.out; go_simp; (try simp [hb])))
    · have ep68 := Hp68.out; clear Hp68; subst ep68; have eg13 := Hg13.out; clear Hg13; subst eg13; have eg11 := Hg11.out; clear Hg11; subst eg11; have eg9 := Hg9.out; clear Hg9; subst eg9; cases p54 <;> cases p63 <;> cases n9 <;> cases p47 <;> (first | exact fix_off (by rfl) (fun d hd => by cases hd; rfl) | exact fix_val (by rfl) (fun W hW => by obtain ⟨c0, c2, c3, c4, c5, c6, c7, c8, c9, c10, c11, c12, c13⟩ := HC.out W hW; go_simp; (try with_reducible rfl)))
    · have ep69 := Hp69.out; clear Hp69; subst ep69; have eg11 := Hg11.out; clear Hg11; subst eg11; have eg9 := Hg9.out; clear Hg9; subst eg9; cases p47 <;> cases p54 <;> cases p68 <;> (first | exact fix_off (by rfl) (fun d hd => by cases hd; rfl) | exact fix_val (by rfl) (fun W hW => by obtain ⟨c0, c2, c3, c4, c5, c6, c7, c8, c9, c10, c11, c12, c13⟩ := HC.out W hW; go_simp; (try with_reducible rfl)))
    · have ep70 := Hp70.out; clear Hp70; subst ep70; have eg9 := Hg9.out; clear Hg9; subst eg9; cases p47 <;> cases p69 <;> (first | exact fix_off (by rfl) (fun d hd => by cases hd; rfl) | exact fix_val (by rfl) (fun W hW => by obtain ⟨c0, c2, c3, c4, c5, c6, c7, c8, c9, c10, c11, c12, c13⟩ := HC.out W hW; go_simp; (try with_reducible rfl)))
    · first | exact fix_off (by rfl) (fun d hd => by cases hd; rfl) | exact fix_val (by rfl) (fun W hW => by obtain ⟨c0, c2, c3, c4, c5, c6, c7, c8, c9, c10, c11, c12, c13⟩ := HC.out W hW; go_simp; (try with_reducible rfl))
    · have eg14 := Hg14.out; clear Hg14; subst eg14; cases p70 <;> (first | exact fix_off (by rfl) (fun d hd => by cases hd; rfl) | exact fix_val (by rfl) (fun W hW => by obtain ⟨c0, c2, c3, c4, c5, c6, c7, c8, c9, c10, c11, c12, c13⟩ := HC.out W hW; go_simp; (try with_reducible rfl)))
    · have eg14 := Hg14.out; clear Hg14; subst eg14; cases p70 <;> (first | exact fix_off (by rfl) (fun d hd => by cases hd; rfl) | exact fix_val (by rfl) (fun W hW => by have hb := HBk1.out; go_simp; (try simp [hb])))
    · have eg14 := Hg14.out; clear Hg14; subst eg14; cases p70 <;> (first | exact fix_off (by rfl) (fun d hd => by cases hd; rfl) | exact fix_val (by rfl) (fun W hW => by obtain ⟨c0, c2, c3, c4, c5, c6, c7, c8, c9, c10, c11, c12, c13⟩ := HC.out W hW; go_simp; (try with_reducible rfl)))
    · have eg15 := Hg15.out; clear Hg15; subst eg15; have eg14 := Hg14.out; clear Hg14; subst eg14; cases k1 <;> cases p70 <;> (first | exact fix_off (by rfl) (fun d hd => by cases hd; rfl) | exact fix_val (by rfl) (fun W hW => by obtain ⟨c0, c2, c3, c4, c5, c6, c7, c8, c9, c10, c11, c12, c13⟩ := HC.out W hW; go_simp; (try with_reducible rfl)))
    · have eg15 := Hg15.out; clear Hg15; subst eg15; have eg14 := Hg14.out; clear Hg14; subst eg14; cases k1 <;> cases p70 <;> (first | exact fix_off (by rfl) (fun d hd => by cases hd; rfl) | exact fix_val (by rfl) (fun W hW => by have hb := HBk2.out; go_simp; (try simp [hb])))
    · have ep77 := Hp77.out; clear Hp77; subst ep77; have eg15 := Hg15.out; clear Hg15; subst eg15; have eg14 := Hg14.out; clear Hg14; subst eg14; cases p70 <;> cases k1 <;> cases k2 <;> (first | exact fix_off (by rfl) (fun d hd => by cases hd; rfl) | exact fix_val (by rfl) (fun W hW => by obtain ⟨c0, c2, c3, c4, c5, c6, c7, c8, c9, c10, c11, c12, c13⟩ := HC.out W hW; go_simp; (try with_reducible rfl)))
    · have eg14 := Hg14.out; clear Hg14; subst eg14; cases p70 <;> (first | exact fix_off (by rfl) (fun d hd => by cases hd; rfl) | exact fix_val (by rfl) (fun W hW => by obtain ⟨c0, c2, c3, c4, c5, c6, c7, c8, c9, c10, c11, c12, c13⟩ := HC.out W hW; go_simp; (try with_reducible rfl)))
    · have eg16 := Hg16.out; clear Hg16; subst eg16; have eg14 := Hg14.out; clear Hg14; subst eg14; cases p77 <;> cases p70 <;> (first | exact fix_off (by rfl) (fun d hd => by cases hd; rfl) | exact fix_val (by rfl) (fun W hW => by obtain ⟨c0, c2, c3, c4, c5, c6, c7, c8, c9, c10, c11, c12, c13⟩ := HC.out W hW; go_simp; (try with_reducible rfl)))
    · have eg16 := Hg16.out; clear Hg16; subst eg16; have eg14 := Hg14.out; clear Hg14; subst eg14; cases p77 <;> cases p70 <;> (first | exact fix_off (by rfl) (fun d hd => by cases hd; rfl) | exact fix_val (by rfl) (fun W hW => by have hb := HBk3.out; go_simp; (try simp [hb])))
    · have ep81 := Hp81.out; clear Hp81; subst ep81; have eg16 := Hg16.out; clear Hg16; subst eg16; have eg14 := Hg14.out; clear Hg14; subst eg14; cases p70 <;> cases p77 <;> cases k3 <;> (first | exact fix_off (by rfl) (fun d hd => by cases hd; rfl) | exact fix_val (by rfl) (fun W hW => by obtain ⟨c0, c2, c3, c4, c5, c6, c7, c8, c9, c10, c11, c12, c13⟩ := HC.out W hW; go_simp; (try with_reducible rfl)))
    · have eg14 := Hg14.out; clear Hg14; subst eg14; cases p70 <;> (first | exact fix_off (by rfl) (fun d hd => by cases hd; rfl) | exact fix_val (by rfl) (fun W hW => by obtain ⟨c0, c2, c3, c4, c5, c6, c7, c8, c9, c10, c11, c12, c13⟩ := HC.out W hW; go_simp; (try with_reducible rfl)))
    · have eg17 := Hg17.out; clear Hg17; subst eg17; have eg14 := Hg14.out; clear Hg14; subst eg14; cases p81 <;> cases p70 <;> (first | exact fix_off (by rfl) (fun d hd => by cases hd; rfl) | exact fix_val (by rfl) (fun W hW => by obtain ⟨c0, c2, c3, c4, c5, c6, c7, c8, c9, c10, c11, c12, c13⟩ := HC.out W hW; go_simp; (try with_reducible rfl)))
    · have eg17 := Hg17.out; clear Hg17; subst eg17; have eg14 := Hg14.out; clear Hg14; subst eg14; cases p81 <;> cases p70 <;> (first | exact fix_off (by rfl) (fun d hd => by cases hd; rfl) | exact fix_val (by rfl) (fun W hW => by obtain ⟨c0, c2, c3, c4, c5, c6, c7, c8, c9, c10, c11, c12, c13⟩ := HC.out W hW; go_simp; (try with_reducible rfl)))
    · have eg17 := Hg17.out; clear Hg17; subst eg17; have eg14 := Hg14.out; clear Hg14; subst eg14; cases p81 <;> cases p70 <;> (first | exact fix_off (by rfl) (fun d hd => by cases hd; rfl) | exact fix_val (by rfl) (fun W hW => by have hb := HBn7.out; go_simp; (try simp [hb])))
    · have ep86 := Hp86.out; clear Hp86; subst ep86; have eg17 := Hg17.out; clear Hg17; subst eg17; have eg14 := Hg14.out; clear Hg14; subst eg14; cases p70 <;> cases p81 <;> cases n7 <;> (first | exact fix_off (by rfl) (fun d hd => by cases hd; rfl) | exact fix_val (by rfl) (fun W hW => by obtain ⟨c0, c2, c3, c4, c5, c6, c7, c8, c9, c10, c11, c12, c13⟩ := HC.out W hW; go_simp; (try with_reducible rfl)))
    · have ep87 := Hp87.out; clear Hp87; subst ep87; have eg14 := Hg14.out; clear Hg14; subst eg14; cases p70 <;> cases p86 <;> (first | exact fix_off (by rfl) (fun d hd => by cases hd; rfl) | exact fix_val (by rfl) (fun W hW => by obtain ⟨c0, c2, c3, c4, c5, c6, c7, c8, c9, c10, c11, c12, c13⟩ := HC.out W hW; go_simp; (try with_reducible rfl)))
    · first | exact fix_off (by rfl) (fun d hd => by cases hd; rfl) | exact fix_val (by rfl) (fun W hW => by obtain ⟨c0, c2, c3, c4, c5, c6, c7, c8, c9, c10, c11, c12, c13⟩ := HC.out W hW; go_simp; (try with_reducible rfl))
    · have eg18 := Hg18.out; clear Hg18; subst eg18; cases p87 <;> (first | exact fix_off (by rfl) (fun d hd => by cases hd; rfl) | exact fix_val (by rfl) (fun W hW => by obtain ⟨c0, c2, c3, c4, c5, c6, c7, c8, c9, c10, c11, c12, c13⟩ := HC.out W hW; go_simp; (try with_reducible rfl)))
    · have eg18 := Hg18.out; clear Hg18; subst eg18; cases p87 <;> (first | exact fix_off (by rfl) (fun d hd => by cases hd; rfl) | exact fix_val (by rfl) (fun W hW => by have hb := HBk3.out; go_simp; (try simp [hb])))
    · have eg18 := Hg18.out; clear Hg18; subst eg18; cases p87 <;> (first | exact fix_off (by rfl) (fun d hd => by cases hd; rfl) | exact fix_val (by rfl) (fun W hW => by obtain ⟨c0, c2, c3, c4, c5, c6, c7, c8, c9, c10, c11, c12, c13⟩ := HC.out W hW; go_simp; (try with_reducible rfl)))
    · have eg19 := Hg19.out; clear Hg19; subst eg19; have eg18 := Hg18.out; clear Hg18; subst eg18; cases k3 <;> cases p87 <;> (first | exact fix_off (by rfl) (fun d hd => by cases hd; rfl) | exact fix_val (by rfl) (fun W hW => by obtain ⟨c0, c2, c3, c4, c5, c6, c7, c8, c9, c10, c11, c12, c13⟩ := HC.out W hW; go_simp; (try with_reducible rfl)))
    · have eg19 := Hg19.out; clear Hg19; subst eg19; have eg18 := Hg18.out; clear Hg18; subst eg18; cases k3 <;> cases p87 <;> (first | exact fix_off (by rfl) (fun d hd => by cases hd; rfl) | exact fix_val (by rfl) (fun W hW => by obtain ⟨c0, c2, c3, c4, c5, c6, c7, c8, c9, c10, c11, c12, c13⟩ := HC.out W hW; go_simp; (try with_reducible rfl)))
    · have eg19 := Hg19.out; clear Hg19; subst eg19; have eg18 := Hg18.out; clear Hg18; subst eg18; cases k3 <;> cases p87 <;> (first | exact fix_off (by rfl) (fun d hd => by cases hd; rfl) | exact fix_val (by rfl) (fun W hW => by obtain ⟨c0, c2, c3, c4, c5, c6, c7, c8, c9, c10, c11, c12, c13⟩ := HC.out W hW; go_simp; (try with_reducible rfl)))
    · have eg19 := Hg19.out; clear Hg19; subst eg19; have eg18 := Hg18.out; clear Hg18; subst eg18; cases k3 <;> cases p87 <;> (first | exact fix_off (by rfl) (fun d hd => by cases hd; rfl) | exact fix_val (by rfl) (fun W hW => by have hb := HBn10.out; go_simp; (try simp [hb])))
    · have eg19 := Hg19.out; clear Hg19; subst eg19; have eg18 := Hg18.out; clear Hg18; subst eg18; cases k3 <;> cases p87 <;> (first | exact fix_off (by rfl) (fun d hd => by cases hd; rfl) | exact fix_val (by rfl) (fun W hW => by obtain ⟨c0, c2, c3, c4, c5, c6, c7, c8, c9, c10, c11, c12, c13⟩ := HC.out W hW; go_simp; (try with_reducible rfl)))
    · have eg20 := Hg20.out; clear Hg20; subst eg20; have eg19 := Hg19.out; clear Hg19; subst eg19; have eg18 := Hg18.out; clear Hg18; subst eg18; cases n10 <;> cases k3 <;> cases p87 <;> (first | exact fix_off (by rfl) (fun d hd => by cases hd; rfl) | exact fix_val (by rfl) (fun W hW => by obtain ⟨c0, c2, c3, c4, c5, c6, c7, c8, c9, c10, c11, c12, c13⟩ := HC.out W hW; go_simp; (try with_reducible rfl)))
    · have eg20 := Hg20.out; clear Hg20; subst eg20; have eg19 := Hg19.out; clear Hg19; subst eg19; have eg18 := Hg18.out; clear Hg18; subst eg18; cases n10 <;> cases k3 <;> cases p87 <;> (first | exact fix_off (by rfl) (fun d hd => by cases hd; rfl) | exact fix_val (by rfl) (fun W hW => by obtain ⟨c0, c2, c3, c4, c5, c6, c7, c8, c9, c10, c11, c12, c13⟩ := HC.out W hW; go_simp; (try with_reducible rfl)))
    · have eg20 := Hg20.out; clear Hg20; subst eg20; have eg19 := Hg19.out; clear Hg19; subst eg19; have eg18 := Hg18.out; clear Hg18; subst eg18; cases n10 <;> cases k3 <;> cases p87 <;> (first | exact fix_off (by rfl) (fun d hd => by cases hd; rfl) | exact fix_val (by rfl) (fun W hW => by obtain ⟨c0, c2, c3, c4, c5, c6, c7, c8, c9, c10, c11, c12, c13⟩ := HC.out W hW; go_simp; (try with_reducible rfl)))
    · have eg20 := Hg20.out; clear Hg20; subst eg20; have eg19 := Hg19.out; clear Hg19; subst eg19; have eg18 := Hg18.out; clear Hg18; subst eg18; cases n10 <;> cases k3 <;> cases p87 <;> (first | exact fix_off (by rfl) (fun d hd => by cases hd; rfl) | exact fix_val (by rfl) (fun W hW => by have hb := HBn11.out; go_simp; (try simp [hb])))
    · have ep101 := Hp101.out; clear Hp101; subst ep101; have eg20 := Hg20.out; clear Hg20; subst eg20; have eg19 := Hg19.out; clear Hg19; subst eg19; have eg18 := Hg18.out; clear Hg18; subst eg18; cases k3 <;> cases n10 <;> cases n11 <;> cases p87 <;> (first | exact fix_off (by rfl) (fun d hd => by cases hd; rfl) | exact fix_val (by rfl) (fun W hW => by obtain ⟨c0, c2, c3, c4, c5, c6, c7, c8, c9, c10, c11, c12, c13⟩ := HC.out W hW; go_simp; (try with_reducible rfl)))
    · have ep102 := Hp102.out; clear Hp102; subst ep102; have eg19 := Hg19.out; clear Hg19; subst eg19; have eg18 := Hg18.out; clear Hg18; subst eg18; cases p87 <;> cases k3 <;> cases p101 <;> (first | exact fix_off (by rfl) (fun d hd => by cases hd; rfl) | exact fix_val (by rfl) (fun W hW => by obtain ⟨c0, c2, c3, c4, c5, c6, c7, c8, c9, c10, c11, c12, c13⟩ := HC.out W hW; go_simp; (try with_reducible rfl)))
    · have ep103 := Hp103.out; clear Hp103; subst ep103; have eg18 := Hg18.out; clear Hg18; subst eg18; cases p87 <;> cases p102 <;> (first | exact fix_off (by rfl) (fun d hd => by cases hd; rfl) | exact fix_val (by rfl) (fun W hW => by obtain ⟨c0, c2, c3, c4, c5, c6, c7, c8, c9, c10, c11, c12, c13⟩ := HC.out W hW; go_simp; (try with_reducible rfl)))
    · first | exact fix_off (by rfl) (fun d hd => by cases hd; rfl) | exact fix_val (by rfl) (fun W hW => by obtain ⟨c0, c2, c3, c4, c5, c6, c7, c8, c9, c10, c11, c12, c13⟩ := HC.out W hW; go_simp; (try with_reducible rfl))
    · have eg21 := Hg21.out; clear Hg21; subst eg21; cases p103 <;> (first | exact fix_off (by rfl) (fun d hd => by cases hd; rfl) | exact fix_val (by rfl) (fun W hW => by obtain ⟨c0, c2, c3, c4, c5, c6, c7, c8, c9, c10, c11, c12, c13⟩ := HC.out W hW; go_simp; (try with_reducible rfl)))
    · have eg21 := Hg21.out; clear Hg21; subst eg21; cases p103 <;> (first | exact fix_off (by rfl) (fun d hd => by cases hd; rfl) | exact fix_call (vs := [.int .u8 (k : Nat)]) (by rfl) rfl (by rfl) Try.func71 (by rfl) (by rfl) (fun W hW => by exact (HHP.out W).mono (fun e V h => ⟨h.1, hW.trans (h.2.mono hW.size)⟩)))
    · have euhp := Huhp.out; clear Huhp; subst euhp; have eg21 := Hg21.out; clear Hg21; subst eg21; cases p103 <;> cases hp <;> (first | exact fix_off (by rfl) (fun d hd => by cases hd; rfl) | exact fix_val (by rfl) (fun W hW => by obtain ⟨c0, c2, c3, c4, c5, c6, c7, c8, c9, c10, c11, c12, c13⟩ := HC.out W hW; go_simp; (try with_reducible rfl)))
    · have eg21 := Hg21.out; clear Hg21; subst eg21; cases p103 <;> (first | exact fix_off (by rfl) (fun d hd => by cases hd; rfl) | exact fix_val (by rfl) (fun W hW => by obtain ⟨c0, c2, c3, c4, c5, c6, c7, c8, c9, c10, c11, c12, c13⟩ := HC.out W hW; go_simp; (try with_reducible rfl)))
    · have eg22 := Hg22.out; clear Hg22; subst eg22; have eg21 := Hg21.out; clear Hg21; subst eg21; cases uhp <;> cases p103 <;> (first | exact fix_off (by rfl) (fun d hd => by cases hd; rfl) | exact fix_val (by rfl) (fun W hW => by obtain ⟨c0, c2, c3, c4, c5, c6, c7, c8, c9, c10, c11, c12, c13⟩ := HC.out W hW; go_simp; (try with_reducible rfl)))
    · have eg22 := Hg22.out; clear Hg22; subst eg22; have eg21 := Hg21.out; clear Hg21; subst eg21; cases uhp <;> cases p103 <;> (first | exact fix_off (by rfl) (fun d hd => by cases hd; rfl) | exact fix_val (by rfl) (fun W hW => by obtain ⟨c0, c2, c3, c4, c5, c6, c7, c8, c9, c10, c11, c12, c13⟩ := HC.out W hW; go_simp; (try with_reducible rfl)))
    · have eg22 := Hg22.out; clear Hg22; subst eg22; have eg21 := Hg21.out; clear Hg21; subst eg21; cases uhp <;> cases p103 <;> (first | exact fix_off (by rfl) (fun d hd => by cases hd; rfl) | exact fix_val (by rfl) (fun W hW => by obtain ⟨c0, c2, c3, c4, c5, c6, c7, c8, c9, c10, c11, c12, c13⟩ := HC.out W hW; go_simp; (try with_reducible rfl)))
    · have eg22 := Hg22.out; clear Hg22; subst eg22; have eg21 := Hg21.out; clear Hg21; subst eg21; cases uhp <;> cases p103 <;> (first | exact fix_off (by rfl) (fun d hd => by cases hd; rfl) | exact fix_val (by rfl) (fun W hW => by have hb := HBn12.out; go_simp; (try simp [hb])))
    · have ep113 := Hp113.out; clear Hp113; subst ep113; have eg22 := Hg22.out; clear Hg22; subst eg22; have eg21 := Hg21.out; clear Hg21; subst eg21; cases p103 <;> cases uhp <;> cases n12 <;> (first | exact fix_off (by rfl) (fun d hd => by cases hd; rfl) | exact fix_val (by rfl) (fun W hW => by obtain ⟨c0, c2, c3, c4, c5, c6, c7, c8, c9, c10, c11, c12, c13⟩ := HC.out W hW; go_simp; (try with_reducible rfl)))
    · have ep114 := Hp114.out; clear Hp114; subst ep114; have eg21 := Hg21.out; clear Hg21; subst eg21; cases p103 <;> cases p113 <;> (first | exact fix_off (by rfl) (fun d hd => by cases hd; rfl) | exact fix_val (by rfl) (fun W hW => by obtain ⟨c0, c2, c3, c4, c5, c6, c7, c8, c9, c10, c11, c12, c13⟩ := HC.out W hW; go_simp; (try with_reducible rfl)))
    · first | exact fix_off (by rfl) (fun d hd => by cases hd; rfl) | exact fix_val (by rfl) (fun W hW => by obtain ⟨c0, c2, c3, c4, c5, c6, c7, c8, c9, c10, c11, c12, c13⟩ := HC.out W hW; go_simp; (try with_reducible rfl))
    · have eg23 := Hg23.out; clear Hg23; subst eg23; cases p114 <;> (first | exact fix_off (by rfl) (fun d hd => by cases hd; rfl) | exact fix_val (by rfl) (fun W hW => by obtain ⟨c0, c2, c3, c4, c5, c6, c7, c8, c9, c10, c11, c12, c13⟩ := HC.out W hW; go_simp; (try with_reducible rfl)))
    · have eg23 := Hg23.out; clear Hg23; subst eg23; cases p114 <;> (first | exact fix_off (by rfl) (fun d hd => by cases hd; rfl) | exact fix_val (by rfl) (fun W hW => by have hb := HBk0.out; go_simp; (try simp [hb])))
    · have eg23 := Hg23.out; clear Hg23; subst eg23; cases p114 <;> (first | exact fix_off (by rfl) (fun d hd => by cases hd; rfl) | exact fix_val (by rfl) (fun W hW => by obtain ⟨c0, c2, c3, c4, c5, c6, c7, c8, c9, c10, c11, c12, c13⟩ := HC.out W hW; go_simp; (try with_reducible rfl)))
    · have eg24 := Hg24.out; clear Hg24; subst eg24; have eg23 := Hg23.out; clear Hg23; subst eg23; cases k0 <;> cases p114 <;> (first | exact fix_off (by rfl) (fun d hd => by cases hd; rfl) | exact fix_val (by rfl) (fun W hW => by obtain ⟨c0, c2, c3, c4, c5, c6, c7, c8, c9, c10, c11, c12, c13⟩ := HC.out W hW; go_simp; (try with_reducible rfl)))
    · have eg24 := Hg24.out; clear Hg24; subst eg24; have eg23 := Hg23.out; clear Hg23; subst eg23; cases k0 <;> cases p114 <;> (first | exact fix_off (by rfl) (fun d hd => by cases hd; rfl) | exact fix_call (vs := [.int .u8 (k : Nat)]) (by rfl) rfl (by rfl) Try.func72 (by rfl) (by rfl) (fun W hW => by exact (HHD.out W).mono (fun e V h => ⟨h.1, hW.trans (h.2.mono hW.size)⟩)))
    · have euhd := Huhd.out; clear Huhd; subst euhd; have eg24 := Hg24.out; clear Hg24; subst eg24; have eg23 := Hg23.out; clear Hg23; subst eg23; cases k0 <;> cases hd <;> cases p114 <;> (first | exact fix_off (by rfl) (fun d hd => by cases hd; rfl) | exact fix_val (by rfl) (fun W hW => by obtain ⟨c0, c2, c3, c4, c5, c6, c7, c8, c9, c10, c11, c12, c13⟩ := HC.out W hW; go_simp; (try with_reducible rfl)))
    · have ep122 := Hp122.out; clear Hp122; subst ep122; have eg24 := Hg24.out; clear Hg24; subst eg24; have eg23 := Hg23.out; clear Hg23; subst eg23; cases p114 <;> cases k0 <;> cases uhd <;> (first | exact fix_off (by rfl) (fun d hd => by cases hd; rfl) | exact fix_val (by rfl) (fun W hW => by obtain ⟨c0, c2, c3, c4, c5, c6, c7, c8, c9, c10, c11, c12, c13⟩ := HC.out W hW; go_simp; (try with_reducible rfl)))
    · have eg23 := Hg23.out; clear Hg23; subst eg23; cases p114 <;> (first | exact fix_off (by rfl) (fun d hd => by cases hd; rfl) | exact fix_val (by rfl) (fun W hW => by obtain ⟨c0, c2, c3, c4, c5, c6, c7, c8, c9, c10, c11, c12, c13⟩ := HC.out W hW; go_simp; (try with_reducible rfl)))
    · have eg25 := Hg25.out; clear Hg25; subst eg25; have eg23 := Hg23.out; clear Hg23; subst eg23; cases p122 <;> cases p114 <;> (first | exact fix_off (by rfl) (fun d hd => by cases hd; rfl) | exact fix_val (by rfl) (fun W hW => by obtain ⟨c0, c2, c3, c4, c5, c6, c7, c8, c9, c10, c11, c12, c13⟩ := HC.out W hW; go_simp; (try with_reducible rfl)))
    · have eg25 := Hg25.out; clear Hg25; subst eg25; have eg23 := Hg23.out; clear Hg23; subst eg23; cases p122 <;> cases p114 <;> (first | exact fix_off (by rfl) (fun d hd => by cases hd; rfl) | exact fix_val (by rfl) (fun W hW => by obtain ⟨c0, c2, c3, c4, c5, c6, c7, c8, c9, c10, c11, c12, c13⟩ := HC.out W hW; go_simp; (try with_reducible rfl)))
    · have eg25 := Hg25.out; clear Hg25; subst eg25; have eg23 := Hg23.out; clear Hg23; subst eg23; cases p122 <;> cases p114 <;> (first | exact fix_off (by rfl) (fun d hd => by cases hd; rfl) | exact fix_val (by rfl) (fun W hW => by obtain ⟨c0, c2, c3, c4, c5, c6, c7, c8, c9, c10, c11, c12, c13⟩ := HC.out W hW; go_simp; (try with_reducible rfl)))
    · have eg25 := Hg25.out; clear Hg25; subst eg25; have eg23 := Hg23.out; clear Hg23; subst eg23; cases p122 <;> cases p114 <;> (first | exact fix_off (by rfl) (fun d hd => by cases hd; rfl) | exact fix_val (by rfl) (fun W hW => by have hb := HBn13.out; go_simp; (try simp [hb])))
    · have ep128 := Hp128.out; clear Hp128; subst ep128; have eg25 := Hg25.out; clear Hg25; subst eg25; have eg23 := Hg23.out; clear Hg23; subst eg23; cases p114 <;> cases p122 <;> cases n13 <;> (first | exact fix_off (by rfl) (fun d hd => by cases hd; rfl) | exact fix_val (by rfl) (fun W hW => by obtain ⟨c0, c2, c3, c4, c5, c6, c7, c8, c9, c10, c11, c12, c13⟩ := HC.out W hW; go_simp; (try with_reducible rfl)))
    · have ep129 := Hp129.out; clear Hp129; subst ep129; have eg23 := Hg23.out; clear Hg23; subst eg23; cases p114 <;> cases p128 <;> (first | exact fix_off (by rfl) (fun d hd => by cases hd; rfl) | exact fix_val (by rfl) (fun W hW => by obtain ⟨c0, c2, c3, c4, c5, c6, c7, c8, c9, c10, c11, c12, c13⟩ := HC.out W hW; go_simp; (try with_reducible rfl)))
    · first | exact fix_off (by rfl) (fun d hd => by cases hd; rfl) | exact fix_val (by rfl) (fun W hW => by obtain ⟨c0, c2, c3, c4, c5, c6, c7, c8, c9, c10, c11, c12, c13⟩ := HC.out W hW; go_simp; (try with_reducible rfl))
  case he =>
    intro V hV
    have HV := (show Hid _ from hV)
    clear hV
    go_wp2
    go_ret
    exact ⟨rfl, HB1.out.trans (HV.out.mono HB1.out.size)⟩
end Go.Proofs.Ytjaheelgcjafcaa
namespace Go.Proofs.Ytjaheelgcjafcaa
open Go.RowKit
/-- odd's answer, by its comparisons. -/
def oddL (k0 n3 n4 n5 k1 k2 k3 k7 n2 n6 n8 n9 n7 n10 n11 hp n12 hd n13 : Bool) : Bool := (((((((k0 && ((n3 || n4) || n5)) || (((((k0 && k1) && k2) && k3) && k7) && n2)) || ((k1 && k2) && ((n6 || n8) || n9))) || (((k1 && k2) && k3) && n7)) || (k3 && (n10 || n11))) || (!hp && n12)) || ((k0 && !hd) && n13))
def oddB (k t st ss pp tg rm os is b2 d2 p2 x2 : Nat) : Bool := oddL (((k : Int) != 0)) (((st : Int) != 0)) (((ss : Int) != 0)) (((pp : Int) != 0)) (((k : Int) != 1)) (((k : Int) != 2)) (((k : Int) != 3)) (((k : Int) != 7)) (((t : Int) != 0)) (((tg : Int) != 0)) (((os : Int) != 0)) (((is : Int) != 0)) (((rm : Int) != 0)) (decide (0 < b2)) (decide (0 < d2)) (hpB k) (decide (0 < p2)) (hdB12 k) (decide (0 < x2))
theorem odd_any (k f t st ss pp tg rm os is : Nat) (b1 : Option Addr) (b2 b3 : Nat) (d1 : Option Addr) (d2 d3 : Nat) (p1 : Option Addr) (p2 p3 : Nat) (x1 : Option Addr) (x2 x3 : Nat) (w : World) (hk : k < 256) : Calls Try.prog 61 #[.agg #[.int .u8 (k : Nat), .int .u8 (f : Nat), .int .u32 (t : Nat), .int .u16 (st : Nat), .int .u16 (ss : Nat), .int .u32 (pp : Nat), .int .u32 (tg : Nat), .int .u32 (rm : Nat), .int .u16 (os : Nat), .int .u16 (is : Nat), .slice b1 b2 b3, .slice d1 d2 d3, .slice p1 p2 p3, .slice x1 x2 x3]] w fun e w' => e = .returned (.bool (oddB k t st ss pp tg rm os is b2 d2 p2 x2)) ∧ Below w.heap.size w w' :=
  odd_letters k f t st ss pp tg rm os is b1 b2 b3 d1 d2 d3 p1 p2 p3 x1 x2 x3 w _ _ _ _ _ _ _ _ _ _ _ _ _ _ _ _ _ _ _ (show Hid _ from rfl) (show Hid _ from rfl) (show Hid _ from rfl) (show Hid _ from rfl) (show Hid _ from rfl) (show Hid _ from rfl) (show Hid _ from rfl) (show Hid _ from rfl) (show Hid _ from rfl) (show Hid _ from rfl) (show Hid _ from rfl) (show Hid _ from rfl) (show Hid _ from rfl) (show Hid _ from rfl) (show Hid _ from rfl) (show Hid _ from rfl) (show Hid _ from rfl) (fun W => hasParams_any k hk W) (fun W => hasData_any k hk W) _ _ _ _ _ _ _ _ _ _ _ _ _ _ _ _ _ _ _ _ _ _ _ _ _ _ _ _ _ _ _ _ _ _ _ _ _ _ _ _ _ _ _ _ _ _ _ _ _ _ _ _ _ (show Hid _ from rfl) (show Hid _ from rfl) (show Hid _ from rfl) (show Hid _ from rfl) (show Hid _ from rfl) (show Hid _ from rfl) (show Hid _ from rfl) (show Hid _ from rfl) (show Hid _ from rfl) (show Hid _ from rfl) (show Hid _ from rfl) (show Hid _ from rfl) (show Hid _ from rfl) (show Hid _ from rfl) (show Hid _ from rfl) (show Hid _ from rfl) (show Hid _ from rfl) (show Hid _ from rfl) (show Hid _ from rfl) (show Hid _ from rfl) (show Hid _ from rfl) (show Hid _ from rfl) (show Hid _ from rfl) (show Hid _ from rfl) (show Hid _ from rfl) (show Hid _ from rfl) (show Hid _ from rfl) (show Hid _ from rfl) (show Hid _ from rfl) (show Hid _ from rfl) (show Hid _ from rfl) (show Hid _ from rfl) (show Hid _ from rfl) (show Hid _ from rfl) (show Hid _ from rfl) (show Hid _ from rfl) (show Hid _ from rfl) (show Hid _ from rfl) (show Hid _ from rfl) (show Hid _ from rfl) (show Hid _ from rfl) (show Hid _ from rfl) (show Hid _ from rfl) (show Hid _ from rfl) (show Hid _ from rfl) (show Hid _ from rfl) (show Hid _ from rfl) (show Hid _ from rfl) (show Hid _ from rfl) (show Hid _ from rfl) (show Hid _ from rfl) (show Hid _ from rfl) (show Hid _ from rfl)
theorem nzI (x : Nat) : (((x : Nat) : Int) != 0) = !decide (x = 0) := by
  by_cases h : x = 0
  · subst h; rfl
  · rw [decide_eq_false h]
    simp
    omega
theorem nzL (x : Nat) : decide (0 < x) = !decide (x = 0) := by
  by_cases h : x = 0
  · subst h; rfl
  · rw [decide_eq_false h, decide_eq_true (by omega)]
    rfl
end Go.Proofs.Ytjaheelgcjafcaa
namespace Go.Proofs.Ytjaheelgcjafcaa
open Go.RowKit
/-- Are all fields that stand there told by the kind's value? -/
def qOf (c : Ck) : Bool :=
  if c.k = 0 then decide (c.tg = 0 ∧ c.rm = 0 ∧ c.os = 0 ∧ c.is_ = 0 ∧ c.b2 = 0 ∧ c.d2 = 0 ∧ c.p2 = 0)
  else if c.k = 1 ∨ c.k = 2 then decide (c.st = 0 ∧ c.ss = 0 ∧ c.pp = 0 ∧ c.b2 = 0 ∧ c.d2 = 0 ∧ c.x2 = 0)
  else if c.k = 3 then decide (c.st = 0 ∧ c.ss = 0 ∧ c.pp = 0 ∧ c.tg = 0 ∧ c.os = 0 ∧ c.is_ = 0 ∧ c.p2 = 0 ∧ c.x2 = 0)
  else if c.k = 4 ∨ c.k = 5 ∨ c.k = 6 ∨ c.k = 9 then decide (c.t = 0 ∧ c.st = 0 ∧ c.ss = 0 ∧ c.pp = 0 ∧ c.tg = 0 ∧ c.rm = 0 ∧ c.os = 0 ∧ c.is_ = 0 ∧ c.b2 = 0 ∧ c.d2 = 0 ∧ c.x2 = 0)
  else if c.k = 7 then decide (c.st = 0 ∧ c.ss = 0 ∧ c.pp = 0 ∧ c.tg = 0 ∧ c.rm = 0 ∧ c.os = 0 ∧ c.is_ = 0 ∧ c.b2 = 0 ∧ c.d2 = 0 ∧ c.p2 = 0 ∧ c.x2 = 0)
  else if c.k = 8 ∨ c.k = 11 ∨ c.k = 14 then decide (c.t = 0 ∧ c.st = 0 ∧ c.ss = 0 ∧ c.pp = 0 ∧ c.tg = 0 ∧ c.rm = 0 ∧ c.os = 0 ∧ c.is_ = 0 ∧ c.b2 = 0 ∧ c.d2 = 0 ∧ c.p2 = 0 ∧ c.x2 = 0)
  else decide (c.t = 0 ∧ c.st = 0 ∧ c.ss = 0 ∧ c.pp = 0 ∧ c.tg = 0 ∧ c.rm = 0 ∧ c.os = 0 ∧ c.is_ = 0 ∧ c.b2 = 0 ∧ c.d2 = 0 ∧ c.p2 = 0)
/-- Check's number in its parts. -/
theorem chk_parts {w : World} {x : ChQ} (h : x.Wf w) : ∃ m : Bool, chkOf x.ck = chkN (qOf x.ck) (decide (x.k = 0 ∧ x.xN = 0)) m (spcN x.cd) ∧ (m = true → 16 < x.pN ∨ 16 < x.bN ∨ 16 < x.dN) ∧
    (qOf x.ck = true → (16 < x.pN ∨ 16 < x.bN ∨ 16 < x.dN ∨ 1480 < x.xN → m = true ∨ 1468 < spcN x.cd) ∧ ((∃ p ∈ x.pD.map PqD.pm, 1480 < p.zs.length) → m = true ∨ 1468 < spcN x.cd)) := by
  unfold ChQ.Wf at h
  obtain ⟨g1, g2, g3, g4, g5, g6, g7, g8, g9, g10, g11, g12, g13, g14, _⟩ := h
  have gP := g13.pmR
  have lx := g14.len
  have lp := gP.len
  have lb := g11.len
  have ld := SlK.len g12
  have hps := fun p (hp : p ∈ x.pD.map PqD.pm) => pm_psz hp
  have hpl := pmsV_len (x.pD.map PqD.pm)
  have hnp : (∃ p ∈ x.pD.map PqD.pm, 1480 < p.zs.length) → 1480 < psz ((x.pD.map PqD.pm).map (fun p => p.zs.length)) := by
    rintro ⟨p, hp, hl⟩
    have := hps p hp
    omega
  have hn0 : x.pN = 0 → ¬ ∃ p ∈ x.pD.map PqD.pm, 1480 < p.zs.length := by
    rintro e ⟨p, hp, _⟩
    rw [List.eq_nil_of_length_eq_zero (lp.trans e)] at hp
    cases hp
  clear hps
  by_cases h0 : x.k = 0
  · have eL : (valB x.cd).length = 12 + x.xN := by unfold valB; rw [if_pos (show x.cd.kind = 0 from h0)]; simp [bytesB_len]; rw [show x.cd.xs.length = x.xN from lx]; omega
    have eS : spcN x.cd = 4 + (12 + x.xN) + padN (12 + x.xN) := by unfold spcN; rw [eL]
    have eq : qOf x.ck = decide (x.tg = 0 ∧ x.rm = 0 ∧ x.os = 0 ∧ x.is = 0 ∧ x.bN = 0 ∧ x.dN = 0 ∧ x.pN = 0) := by unfold qOf; rw [if_pos (show x.ck.k = 0 from h0)]; rfl
    have el : decide (x.k = 0 ∧ x.xN = 0) = decide (x.xN = 0) := by simp [h0]
    refine ⟨false, ?_, ?_, ?_⟩
    · rw [el, eS, eq]; unfold chkOf; rw [if_pos (show x.ck.k = 0 from h0)]; rfl
    · intro hm; cases hm
    · intro hq
      rw [eq] at hq
      have hq := of_decide_eq_true hq
      rw [eS]
      replace hq : x.tg = 0 ∧ x.rm = 0 ∧ x.os = 0 ∧ x.is = 0 ∧ x.bN = 0 ∧ x.dN = 0 ∧ x.pN = 0 := hq
      refine ⟨fun hb => ?_, fun hp => ?_⟩
      · omega
      · exact absurd hp (hn0 (by omega))
  by_cases h1 : x.k = 1 ∨ x.k = 2
  · have eL : (valB x.cd).length = 16 + psz ((x.pD.map PqD.pm).map (fun p => p.zs.length)) := by unfold valB; rw [if_neg (show ¬ (x.cd.kind = 0) from h0), if_pos (show x.cd.kind = 1 ∨ x.cd.kind = 2 from h1)]; simp only [List.length_append, bytesB_len]; rw [show (pmsV x.cd.ps).length = _ from hpl]; omega
    have eS : spcN x.cd = 4 + (16 + psz ((x.pD.map PqD.pm).map (fun p => p.zs.length))) + padN (16 + psz ((x.pD.map PqD.pm).map (fun p => p.zs.length))) := by unfold spcN; rw [eL]
    have eq : qOf x.ck = decide (x.st = 0 ∧ x.ss = 0 ∧ x.pp = 0 ∧ x.bN = 0 ∧ x.dN = 0 ∧ x.xN = 0) := by unfold qOf; rw [if_neg (show ¬ (x.ck.k = 0) from h0), if_pos (show x.ck.k = 1 ∨ x.ck.k = 2 from h1)]; rfl
    have el : decide (x.k = 0 ∧ x.xN = 0) = false := by exact decide_eq_false (by omega)
    refine ⟨decide (16 < x.pN), ?_, ?_, ?_⟩
    · rw [el, eS, eq]; unfold chkOf; rw [if_neg (show ¬ (x.ck.k = 0) from h0), if_pos (show x.ck.k = 1 ∨ x.ck.k = 2 from h1)]; rfl
    · intro hm; have := of_decide_eq_true hm; omega
    · intro hq
      rw [eq] at hq
      have hq := of_decide_eq_true hq
      rw [eS]
      replace hq : x.st = 0 ∧ x.ss = 0 ∧ x.pp = 0 ∧ x.bN = 0 ∧ x.dN = 0 ∧ x.xN = 0 := hq
      refine ⟨fun hb => ?_, fun hp => ?_⟩
      · rw [decide_eq_true_iff]; omega
      · have := hnp hp
        exact .inr (by omega)
  by_cases h3 : x.k = 3
  · have eL : (valB x.cd).length = 12 + 4 * x.bN + 4 * x.dN := by unfold valB; rw [if_neg (show ¬ (x.cd.kind = 0) from h0), if_neg (show ¬ (x.cd.kind = 1 ∨ x.cd.kind = 2) from h1), if_pos (show x.cd.kind = 3 from h3)]; unfold sackB; simp only [List.length_append, bytesB_len, bksB_len, dusB_len]; rw [show x.cd.bs.length = x.bN from lb, show x.cd.ds.length = x.dN from ld]; omega
    have eS : spcN x.cd = 4 + (12 + 4 * x.bN + 4 * x.dN) + padN (12 + 4 * x.bN + 4 * x.dN) := by unfold spcN; rw [eL]
    have eq : qOf x.ck = decide (x.st = 0 ∧ x.ss = 0 ∧ x.pp = 0 ∧ x.tg = 0 ∧ x.os = 0 ∧ x.is = 0 ∧ x.pN = 0 ∧ x.xN = 0) := by unfold qOf; rw [if_neg (show ¬ (x.ck.k = 0) from h0), if_neg (show ¬ (x.ck.k = 1 ∨ x.ck.k = 2) from h1), if_pos (show x.ck.k = 3 from h3)]; rfl
    have el : decide (x.k = 0 ∧ x.xN = 0) = false := by exact decide_eq_false (by omega)
    refine ⟨decide (16 < x.bN ∨ 16 < x.dN), ?_, ?_, ?_⟩
    · rw [el, eS, eq]; unfold chkOf; rw [if_neg (show ¬ (x.ck.k = 0) from h0), if_neg (show ¬ (x.ck.k = 1 ∨ x.ck.k = 2) from h1), if_pos (show x.ck.k = 3 from h3)]; rfl
    · intro hm; have := of_decide_eq_true hm; omega
    · intro hq
      rw [eq] at hq
      have hq := of_decide_eq_true hq
      rw [eS]
      replace hq : x.st = 0 ∧ x.ss = 0 ∧ x.pp = 0 ∧ x.tg = 0 ∧ x.os = 0 ∧ x.is = 0 ∧ x.pN = 0 ∧ x.xN = 0 := hq
      refine ⟨fun hb => ?_, fun hp => ?_⟩
      · rw [decide_eq_true_iff]; omega
      · exact absurd hp (hn0 (by omega))
  by_cases h4 : x.k = 4 ∨ x.k = 5 ∨ x.k = 6 ∨ x.k = 9
  · have eL : (valB x.cd).length = psz ((x.pD.map PqD.pm).map (fun p => p.zs.length)) := by unfold valB; rw [if_neg (show ¬ (x.cd.kind = 0) from h0), if_neg (show ¬ (x.cd.kind = 1 ∨ x.cd.kind = 2) from h1), if_neg (show ¬ (x.cd.kind = 3) from h3), if_pos (show x.cd.kind = 4 ∨ x.cd.kind = 5 ∨ x.cd.kind = 6 ∨ x.cd.kind = 9 from h4)]; exact hpl
    have eS : spcN x.cd = 4 + (psz ((x.pD.map PqD.pm).map (fun p => p.zs.length))) + padN (psz ((x.pD.map PqD.pm).map (fun p => p.zs.length))) := by unfold spcN; rw [eL]
    have eq : qOf x.ck = decide (x.t = 0 ∧ x.st = 0 ∧ x.ss = 0 ∧ x.pp = 0 ∧ x.tg = 0 ∧ x.rm = 0 ∧ x.os = 0 ∧ x.is = 0 ∧ x.bN = 0 ∧ x.dN = 0 ∧ x.xN = 0) := by unfold qOf; rw [if_neg (show ¬ (x.ck.k = 0) from h0), if_neg (show ¬ (x.ck.k = 1 ∨ x.ck.k = 2) from h1), if_neg (show ¬ (x.ck.k = 3) from h3), if_pos (show x.ck.k = 4 ∨ x.ck.k = 5 ∨ x.ck.k = 6 ∨ x.ck.k = 9 from h4)]; rfl
    have el : decide (x.k = 0 ∧ x.xN = 0) = false := by exact decide_eq_false (by omega)
    refine ⟨decide (16 < x.pN), ?_, ?_, ?_⟩
    · rw [el, eS, eq]; unfold chkOf; rw [if_neg (show ¬ (x.ck.k = 0) from h0), if_neg (show ¬ (x.ck.k = 1 ∨ x.ck.k = 2) from h1), if_neg (show ¬ (x.ck.k = 3) from h3), if_pos (show x.ck.k = 4 ∨ x.ck.k = 5 ∨ x.ck.k = 6 ∨ x.ck.k = 9 from h4)]; rfl
    · intro hm; have := of_decide_eq_true hm; omega
    · intro hq
      rw [eq] at hq
      have hq := of_decide_eq_true hq
      rw [eS]
      replace hq : x.t = 0 ∧ x.st = 0 ∧ x.ss = 0 ∧ x.pp = 0 ∧ x.tg = 0 ∧ x.rm = 0 ∧ x.os = 0 ∧ x.is = 0 ∧ x.bN = 0 ∧ x.dN = 0 ∧ x.xN = 0 := hq
      refine ⟨fun hb => ?_, fun hp => ?_⟩
      · rw [decide_eq_true_iff]; omega
      · have := hnp hp
        exact .inr (by omega)
  by_cases h7 : x.k = 7
  · have eL : (valB x.cd).length = 4 := by unfold valB; rw [if_neg (show ¬ (x.cd.kind = 0) from h0), if_neg (show ¬ (x.cd.kind = 1 ∨ x.cd.kind = 2) from h1), if_neg (show ¬ (x.cd.kind = 3) from h3), if_neg (show ¬ (x.cd.kind = 4 ∨ x.cd.kind = 5 ∨ x.cd.kind = 6 ∨ x.cd.kind = 9) from h4), if_pos (show x.cd.kind = 7 from h7)]; exact bytesB_len _ _
    have eS : spcN x.cd = 4 + (4) + padN (4) := by unfold spcN; rw [eL]
    have eq : qOf x.ck = decide (x.st = 0 ∧ x.ss = 0 ∧ x.pp = 0 ∧ x.tg = 0 ∧ x.rm = 0 ∧ x.os = 0 ∧ x.is = 0 ∧ x.bN = 0 ∧ x.dN = 0 ∧ x.pN = 0 ∧ x.xN = 0) := by unfold qOf; rw [if_neg (show ¬ (x.ck.k = 0) from h0), if_neg (show ¬ (x.ck.k = 1 ∨ x.ck.k = 2) from h1), if_neg (show ¬ (x.ck.k = 3) from h3), if_neg (show ¬ (x.ck.k = 4 ∨ x.ck.k = 5 ∨ x.ck.k = 6 ∨ x.ck.k = 9) from h4), if_pos (show x.ck.k = 7 from h7)]; rfl
    have el : decide (x.k = 0 ∧ x.xN = 0) = false := by exact decide_eq_false (by omega)
    refine ⟨false, ?_, ?_, ?_⟩
    · rw [el, eS, eq]; unfold chkOf; rw [if_neg (show ¬ (x.ck.k = 0) from h0), if_neg (show ¬ (x.ck.k = 1 ∨ x.ck.k = 2) from h1), if_neg (show ¬ (x.ck.k = 3) from h3), if_neg (show ¬ (x.ck.k = 4 ∨ x.ck.k = 5 ∨ x.ck.k = 6 ∨ x.ck.k = 9) from h4), if_pos (show x.ck.k = 7 from h7)]; rfl
    · intro hm; cases hm
    · intro hq
      rw [eq] at hq
      have hq := of_decide_eq_true hq
      rw [eS]
      replace hq : x.st = 0 ∧ x.ss = 0 ∧ x.pp = 0 ∧ x.tg = 0 ∧ x.rm = 0 ∧ x.os = 0 ∧ x.is = 0 ∧ x.bN = 0 ∧ x.dN = 0 ∧ x.pN = 0 ∧ x.xN = 0 := hq
      refine ⟨fun hb => ?_, fun hp => ?_⟩
      · omega
      · exact absurd hp (hn0 (by omega))
  by_cases h8 : x.k = 8 ∨ x.k = 11 ∨ x.k = 14
  · have eL : (valB x.cd).length = 0 := by unfold valB; rw [if_neg (show ¬ (x.cd.kind = 0) from h0), if_neg (show ¬ (x.cd.kind = 1 ∨ x.cd.kind = 2) from h1), if_neg (show ¬ (x.cd.kind = 3) from h3), if_neg (show ¬ (x.cd.kind = 4 ∨ x.cd.kind = 5 ∨ x.cd.kind = 6 ∨ x.cd.kind = 9) from h4), if_neg (show ¬ (x.cd.kind = 7) from h7), if_pos (show x.cd.kind = 8 ∨ x.cd.kind = 11 ∨ x.cd.kind = 14 from h8)]; rfl
    have eS : spcN x.cd = 4 + (0) + padN (0) := by unfold spcN; rw [eL]
    have eq : qOf x.ck = decide (x.t = 0 ∧ x.st = 0 ∧ x.ss = 0 ∧ x.pp = 0 ∧ x.tg = 0 ∧ x.rm = 0 ∧ x.os = 0 ∧ x.is = 0 ∧ x.bN = 0 ∧ x.dN = 0 ∧ x.pN = 0 ∧ x.xN = 0) := by unfold qOf; rw [if_neg (show ¬ (x.ck.k = 0) from h0), if_neg (show ¬ (x.ck.k = 1 ∨ x.ck.k = 2) from h1), if_neg (show ¬ (x.ck.k = 3) from h3), if_neg (show ¬ (x.ck.k = 4 ∨ x.ck.k = 5 ∨ x.ck.k = 6 ∨ x.ck.k = 9) from h4), if_neg (show ¬ (x.ck.k = 7) from h7), if_pos (show x.ck.k = 8 ∨ x.ck.k = 11 ∨ x.ck.k = 14 from h8)]; rfl
    have el : decide (x.k = 0 ∧ x.xN = 0) = false := by exact decide_eq_false (by omega)
    refine ⟨false, ?_, ?_, ?_⟩
    · rw [el, eS, eq]; unfold chkOf; rw [if_neg (show ¬ (x.ck.k = 0) from h0), if_neg (show ¬ (x.ck.k = 1 ∨ x.ck.k = 2) from h1), if_neg (show ¬ (x.ck.k = 3) from h3), if_neg (show ¬ (x.ck.k = 4 ∨ x.ck.k = 5 ∨ x.ck.k = 6 ∨ x.ck.k = 9) from h4), if_neg (show ¬ (x.ck.k = 7) from h7), if_pos (show x.ck.k = 8 ∨ x.ck.k = 11 ∨ x.ck.k = 14 from h8)]; rfl
    · intro hm; cases hm
    · intro hq
      rw [eq] at hq
      have hq := of_decide_eq_true hq
      rw [eS]
      replace hq : x.t = 0 ∧ x.st = 0 ∧ x.ss = 0 ∧ x.pp = 0 ∧ x.tg = 0 ∧ x.rm = 0 ∧ x.os = 0 ∧ x.is = 0 ∧ x.bN = 0 ∧ x.dN = 0 ∧ x.pN = 0 ∧ x.xN = 0 := hq
      refine ⟨fun hb => ?_, fun hp => ?_⟩
      · omega
      · exact absurd hp (hn0 (by omega))
  have eL : (valB x.cd).length = x.xN := by unfold valB; rw [if_neg (show ¬ (x.cd.kind = 0) from h0), if_neg (show ¬ (x.cd.kind = 1 ∨ x.cd.kind = 2) from h1), if_neg (show ¬ (x.cd.kind = 3) from h3), if_neg (show ¬ (x.cd.kind = 4 ∨ x.cd.kind = 5 ∨ x.cd.kind = 6 ∨ x.cd.kind = 9) from h4), if_neg (show ¬ (x.cd.kind = 7) from h7), if_neg (show ¬ (x.cd.kind = 8 ∨ x.cd.kind = 11 ∨ x.cd.kind = 14) from h8)]; exact lx
  have eS : spcN x.cd = 4 + (x.xN) + padN (x.xN) := by unfold spcN; rw [eL]
  have eq : qOf x.ck = decide (x.t = 0 ∧ x.st = 0 ∧ x.ss = 0 ∧ x.pp = 0 ∧ x.tg = 0 ∧ x.rm = 0 ∧ x.os = 0 ∧ x.is = 0 ∧ x.bN = 0 ∧ x.dN = 0 ∧ x.pN = 0) := by unfold qOf; rw [if_neg (show ¬ (x.ck.k = 0) from h0), if_neg (show ¬ (x.ck.k = 1 ∨ x.ck.k = 2) from h1), if_neg (show ¬ (x.ck.k = 3) from h3), if_neg (show ¬ (x.ck.k = 4 ∨ x.ck.k = 5 ∨ x.ck.k = 6 ∨ x.ck.k = 9) from h4), if_neg (show ¬ (x.ck.k = 7) from h7), if_neg (show ¬ (x.ck.k = 8 ∨ x.ck.k = 11 ∨ x.ck.k = 14) from h8)]; rfl
  have el : decide (x.k = 0 ∧ x.xN = 0) = false := by exact decide_eq_false (by omega)
  refine ⟨false, ?_, ?_, ?_⟩
  · rw [el, eS, eq]; unfold chkOf; rw [if_neg (show ¬ (x.ck.k = 0) from h0), if_neg (show ¬ (x.ck.k = 1 ∨ x.ck.k = 2) from h1), if_neg (show ¬ (x.ck.k = 3) from h3), if_neg (show ¬ (x.ck.k = 4 ∨ x.ck.k = 5 ∨ x.ck.k = 6 ∨ x.ck.k = 9) from h4), if_neg (show ¬ (x.ck.k = 7) from h7), if_neg (show ¬ (x.ck.k = 8 ∨ x.ck.k = 11 ∨ x.ck.k = 14) from h8)]; rfl
  · intro hm; cases hm
  · intro hq
    rw [eq] at hq
    have hq := of_decide_eq_true hq
    rw [eS]
    replace hq : x.t = 0 ∧ x.st = 0 ∧ x.ss = 0 ∧ x.pp = 0 ∧ x.tg = 0 ∧ x.rm = 0 ∧ x.os = 0 ∧ x.is = 0 ∧ x.bN = 0 ∧ x.dN = 0 ∧ x.pN = 0 := hq
    refine ⟨fun hb => ?_, fun hp => ?_⟩
    · omega
    · exact absurd hp (hn0 (by omega))
end Go.Proofs.Ytjaheelgcjafcaa
namespace Go.Proofs.Ytjaheelgcjafcaa
open Go.RowKit
theorem odd_qOf (c : Ck) : oddB c.k c.t c.st c.ss c.pp c.tg c.rm c.os c.is_ c.b2 c.d2 c.p2 c.x2 = !qOf c := by
  unfold qOf
  by_cases h0 : c.k = 0
  · rw [if_pos h0, Bool.eq_iff_iff]
    simp [oddB, oddL, hpB, hdB12, h0]
    omega
  rw [if_neg h0]
  by_cases h1 : c.k = 1 ∨ c.k = 2
  · rw [if_pos h1, Bool.eq_iff_iff]
    simp [oddB, oddL, hpB, hdB12]
    omega
  rw [if_neg h1]
  by_cases h3 : c.k = 3
  · rw [if_pos h3, Bool.eq_iff_iff]
    simp [oddB, oddL, hpB, hdB12]
    omega
  rw [if_neg h3]
  by_cases h4 : c.k = 4 ∨ c.k = 5 ∨ c.k = 6 ∨ c.k = 9
  · rw [if_pos h4, Bool.eq_iff_iff]
    simp [oddB, oddL, hpB, hdB12]
    omega
  rw [if_neg h4]
  by_cases h7 : c.k = 7
  · rw [if_pos h7, Bool.eq_iff_iff]
    simp [oddB, oddL, hpB, hdB12]
    omega
  rw [if_neg h7]
  by_cases h8 : c.k = 8 ∨ c.k = 11 ∨ c.k = 14
  · rw [if_pos h8, Bool.eq_iff_iff]
    simp [oddB, oddL, hpB, hdB12]
    omega
  rw [if_neg h8, Bool.eq_iff_iff]
  simp [oddB, oddL, hpB, hdB12]
  omega
end Go.Proofs.Ytjaheelgcjafcaa
namespace Go.Proofs.Ytjaheelgcjafcaa
open Go.RowKit
theorem ChQ.wf_below {w w' : World} {x : ChQ} (hh : x.Wf w) (hb : Below w.heap.size w w') : x.Wf w' := by
  unfold ChQ.Wf at hh ⊢
  obtain ⟨h0, h1, h2, h3, h4, h5, h6, h7, h8, h9, h10, h11, h12, h13⟩ := hh
  exact ⟨h0, h1, h2, h3, h4, h5, h6, h7, h8, h9, h10.below hb, h11.below hb, h12.below hb, ⟨h13.1.below hb, h13.2⟩⟩
/-- A chunk whose rows are not too long. -/
structure SmQ (x : ChQ) : Prop where
  hp : x.pN ≤ 16
  hb : x.bN ≤ 16
  hd : x.dN ≤ 16
  hx : x.xN ≤ 1480
  hps : ∀ p ∈ x.pD.map PqD.pm, p.zs.length ≤ 1480
set_option linter.unusedVariables false in
set_option maxRecDepth 100000 in
set_option maxHeartbeats 4000000 in
theorem value_any {w : World} {x : ChQ} (h : x.Wf w) (hs : SmQ x) : Calls Try.prog 73 #[.agg x.vals.toArray] w (RowV w (valB x.cd)) := by
  have hw := h
  unfold ChQ.Wf at hw
  obtain ⟨g1, g2, g3, g4, g5, g6, g7, g8, g9, g10, g11, g12, g13, g14, _⟩ := hw
  have gP := g13.pmR
  have s1 := hs.hp
  have s2 := hs.hb
  have s3 := hs.hd
  have s4 := hs.hx
  have s5 : ∀ p ∈ x.pD.map PqD.pm, p.zs.length ≤ 2000 := fun p hp => Nat.le_trans (hs.hps p hp) (by omega)
  have lb := g11.len
  have ld := SlK.len g12
  by_cases h0 : x.k = 0
  · unfold valB
    rw [if_pos (show x.cd.kind = 0 from h0)]
    rw [show x.vals = [.int .u8 0, .int .u8 (x.f : Nat), .int .u32 (x.t : Nat), .int .u16 (x.st : Nat), .int .u16 (x.ss : Nat), .int .u32 (x.pp : Nat), .int .u32 (x.tg : Nat), .int .u32 (x.rm : Nat), .int .u16 (x.os : Nat), .int .u16 (x.is : Nat), .slice x.bA x.bN x.bC, .slice x.dA x.dN x.dC, .slice x.pA x.pN x.pC, .slice x.xA x.xN x.xC] from by unfold ChQ.vals; rw [h0]; rfl]
    exact value_data x.f x.t x.st x.ss x.pp x.tg x.rm x.os x.is x.bA x.bN x.bC x.dA x.dN x.dC x.pA x.pN x.pC x.xA x.xN x.xC w g14 (by omega) g3 g4 g5 g6
  by_cases h1 : x.k = 1 ∨ x.k = 2
  · unfold valB
    rw [if_neg (show ¬ (x.cd.kind = 0) from h0), if_pos (show x.cd.kind = 1 ∨ x.cd.kind = 2 from h1)]
    rcases h1 with e | e
    · rw [show x.vals = [.int .u8 1, .int .u8 (x.f : Nat), .int .u32 (x.t : Nat), .int .u16 (x.st : Nat), .int .u16 (x.ss : Nat), .int .u32 (x.pp : Nat), .int .u32 (x.tg : Nat), .int .u32 (x.rm : Nat), .int .u16 (x.os : Nat), .int .u16 (x.is : Nat), .slice x.bA x.bN x.bC, .slice x.dA x.dN x.dC, .slice x.pA x.pN x.pC, .slice x.xA x.xN x.xC] from by unfold ChQ.vals; rw [e]; rfl]
      exact value_init1 x.f x.t x.st x.ss x.pp x.tg x.rm x.os x.is x.bA x.bN x.bC x.dA x.dN x.dC x.pA x.pN x.pC x.xA x.xN x.xC w g3 g7 g8 g9 g10 gP s1 s5
    · rw [show x.vals = [.int .u8 2, .int .u8 (x.f : Nat), .int .u32 (x.t : Nat), .int .u16 (x.st : Nat), .int .u16 (x.ss : Nat), .int .u32 (x.pp : Nat), .int .u32 (x.tg : Nat), .int .u32 (x.rm : Nat), .int .u16 (x.os : Nat), .int .u16 (x.is : Nat), .slice x.bA x.bN x.bC, .slice x.dA x.dN x.dC, .slice x.pA x.pN x.pC, .slice x.xA x.xN x.xC] from by unfold ChQ.vals; rw [e]; rfl]
      exact value_init2 x.f x.t x.st x.ss x.pp x.tg x.rm x.os x.is x.bA x.bN x.bC x.dA x.dN x.dC x.pA x.pN x.pC x.xA x.xN x.xC w g3 g7 g8 g9 g10 gP s1 s5
  by_cases h3 : x.k = 3
  · unfold valB
    rw [if_neg (show ¬ (x.cd.kind = 0) from h0), if_neg (show ¬ (x.cd.kind = 1 ∨ x.cd.kind = 2) from h1), if_pos (show x.cd.kind = 3 from h3)]
    rw [show x.vals = [.int .u8 3, .int .u8 (x.f : Nat), .int .u32 (x.t : Nat), .int .u16 (x.st : Nat), .int .u16 (x.ss : Nat), .int .u32 (x.pp : Nat), .int .u32 (x.tg : Nat), .int .u32 (x.rm : Nat), .int .u16 (x.os : Nat), .int .u16 (x.is : Nat), .slice x.bA x.bN x.bC, .slice x.dA x.dN x.dC, .slice x.pA x.pN x.pC, .slice x.xA x.xN x.xC] from by unfold ChQ.vals; rw [h3]; rfl]
    unfold sackB
    rw [show x.cd.bs.length = x.bN from lb, show x.cd.ds.length = x.dN from ld]
    exact value_sack x.f x.t x.st x.ss x.pp x.tg x.rm x.os x.is x.bA x.bN x.bC x.dA x.dN x.dC x.pA x.pN x.pC x.xA x.xN x.xC w g3 g8 g11 g12 s2 s3
  by_cases h4 : x.k = 4 ∨ x.k = 5 ∨ x.k = 6 ∨ x.k = 9
  · unfold valB
    rw [if_neg (show ¬ (x.cd.kind = 0) from h0), if_neg (show ¬ (x.cd.kind = 1 ∨ x.cd.kind = 2) from h1), if_neg (show ¬ (x.cd.kind = 3) from h3), if_pos (show x.cd.kind = 4 ∨ x.cd.kind = 5 ∨ x.cd.kind = 6 ∨ x.cd.kind = 9 from h4)]
    exact value_prms x.k x.f x.t x.st x.ss x.pp x.tg x.rm x.os x.is x.bA x.bN x.bC x.dA x.dN x.dC x.pA x.pN x.pC x.xA x.xN x.xC w h4 gP s1 s5
  by_cases h7 : x.k = 7
  · unfold valB
    rw [if_neg (show ¬ (x.cd.kind = 0) from h0), if_neg (show ¬ (x.cd.kind = 1 ∨ x.cd.kind = 2) from h1), if_neg (show ¬ (x.cd.kind = 3) from h3), if_neg (show ¬ (x.cd.kind = 4 ∨ x.cd.kind = 5 ∨ x.cd.kind = 6 ∨ x.cd.kind = 9) from h4), if_pos (show x.cd.kind = 7 from h7)]
    rw [show x.vals = [.int .u8 7, .int .u8 (x.f : Nat), .int .u32 (x.t : Nat), .int .u16 (x.st : Nat), .int .u16 (x.ss : Nat), .int .u32 (x.pp : Nat), .int .u32 (x.tg : Nat), .int .u32 (x.rm : Nat), .int .u16 (x.os : Nat), .int .u16 (x.is : Nat), .slice x.bA x.bN x.bC, .slice x.dA x.dN x.dC, .slice x.pA x.pN x.pC, .slice x.xA x.xN x.xC] from by unfold ChQ.vals; rw [h7]; rfl]
    exact value_tsnv x.f x.t x.st x.ss x.pp x.tg x.rm x.os x.is x.bA x.bN x.bC x.dA x.dN x.dC x.pA x.pN x.pC x.xA x.xN x.xC w g3
  by_cases h8 : x.k = 8 ∨ x.k = 11 ∨ x.k = 14
  · unfold valB
    rw [if_neg (show ¬ (x.cd.kind = 0) from h0), if_neg (show ¬ (x.cd.kind = 1 ∨ x.cd.kind = 2) from h1), if_neg (show ¬ (x.cd.kind = 3) from h3), if_neg (show ¬ (x.cd.kind = 4 ∨ x.cd.kind = 5 ∨ x.cd.kind = 6 ∨ x.cd.kind = 9) from h4), if_neg (show ¬ (x.cd.kind = 7) from h7), if_pos (show x.cd.kind = 8 ∨ x.cd.kind = 11 ∨ x.cd.kind = 14 from h8)]
    exact value_none x.k x.f x.t x.st x.ss x.pp x.tg x.rm x.os x.is x.bA x.bN x.bC x.dA x.dN x.dC x.pA x.pN x.pC x.xA x.xN x.xC w h8
  have hr : ¬ x.k = 0 ∧ ¬ x.k = 1 ∧ ¬ x.k = 2 ∧ ¬ x.k = 3 ∧ ¬ x.k = 4 ∧ ¬ x.k = 5 ∧ ¬ x.k = 6 ∧ ¬ x.k = 7 ∧ ¬ x.k = 8 ∧ ¬ x.k = 9 ∧ ¬ x.k = 11 ∧ ¬ x.k = 14 := by omega
  unfold valB
  rw [if_neg (show ¬ (x.cd.kind = 0) from h0), if_neg (show ¬ (x.cd.kind = 1 ∨ x.cd.kind = 2) from h1), if_neg (show ¬ (x.cd.kind = 3) from h3), if_neg (show ¬ (x.cd.kind = 4 ∨ x.cd.kind = 5 ∨ x.cd.kind = 6 ∨ x.cd.kind = 9) from h4), if_neg (show ¬ (x.cd.kind = 7) from h7), if_neg (show ¬ (x.cd.kind = 8 ∨ x.cd.kind = 11 ∨ x.cd.kind = 14) from h8)]
  exact value_raw x.k x.f x.t x.st x.ss x.pp x.tg x.rm x.os x.is x.bA x.bN x.bC x.dA x.dN x.dC x.pA x.pN x.pC x.xA x.xN x.xC w hr g1 g14 (by omega)
end Go.Proofs.Ytjaheelgcjafcaa
namespace Go.Proofs.Ytjaheelgcjafcaa
open Go.RowKit
theorem own_two (w : World) (k f : Nat) (hk : k < 256) (hf : f < 256) : OwnB (w.alloc (.cells #[.int .u8 (k : Nat), .int .u8 (f : Nat)] 5)) w.heap.size (some ⟨w.heap.size, 0, none⟩) 2 2 [k, f] := by
  refine ⟨rfl, ⟨by simp [vals], .inr ⟨w.heap.size, 2, #[.int .u8 (k : Nat), .int .u8 (f : Nat)], rfl, Nat.le_refl _, ?_, Nat.le_refl _, by unfold maxLen; omega, by simp, ?_⟩⟩, ?_⟩
  · show (w.heap.push _)[w.heap.size]? = _
    simp
  · simp [vals]
  · intro i
    match i with
    | 0 => exact hk
    | 1 => exact hf
    | i + 2 => simp
set_option linter.unusedVariables false in
set_option maxRecDepth 100000 in
set_option maxHeartbeats 4000000 in
theorem rbytes_L (k f : Nat) (c2 c3 c4 c5 c6 c7 c8 c9 c10 c11 c12 c13 : Value) (L : List Nat) (w : World) (hk : k < 256) (hf : f < 256) (hL : L.length ≤ 60000)
    (hv : ∀ W v, v = .agg #[.int .u8 (k : Nat), .int .u8 (f : Nat), c2, c3, c4, c5, c6, c7, c8, c9, c10, c11, c12, c13] → Below w.heap.size w W → Calls Try.prog 73 #[v] W (RowV W L)) :
    Calls Try.prog 62 #[.agg #[.int .u8 (k : Nat), .int .u8 (f : Nat), c2, c3, c4, c5, c6, c7, c8, c9, c10, c11, c12, c13]] w (RowV w (chB k f L)) := by
  obtain ⟨W0, hW0⟩ : ∃ W0, W0 = w.alloc (.cells #[.int .u8 (k : Nat), .int .u8 (f : Nat), c2, c3, c4, c5, c6, c7, c8, c9, c10, c11, c12, c13] 47) := ⟨_, rfl⟩
  have hb0 : Below w.heap.size w W0 := by rw [hW0]; exact (Below.refl _ _).alloc (Nat.le_refl _) _
  have hst := Stc.new w [.int .u8 (k : Nat), .int .u8 (f : Nat), c2, c3, c4, c5, c6, c7, c8, c9, c10, c11, c12, c13] 47 W0 hW0
  have HB := (show Hid _ from And.intro hb0 hst)
  have HV := (show Hid _ from hv W0 _ rfl hb0)
  clear hb0 hst hv
  go_enter Try.func62, Try.ntmps62
  go_wp2_with fail
  rw [← hW0]
  refine Calls.mono HV.out ?_
  clear HV
  rintro e w1 hR
  obtain ⟨a1, c1, rfl, ho1⟩ := hR.ex
  have b1 := hR.bel
  have hst1 := HB.out.2.below b1
  have hb1 : Below w.heap.size w w1 := HB.out.1.trans (b1.mono HB.out.1.size)
  have HO1 := (show Hid _ from And.intro ho1 (And.intro hb1 HB.out.1.size))
  have s0 := hst1.cell 0 _ rfl
  have s1 := hst1.cell 1 _ rfl
  obtain ⟨m, hm⟩ : ∃ m, m = L.length := ⟨_, rfl⟩
  have HM := (show Hid _ from hm)
  rw [← hm] at HO1 hL ⊢
  obtain ⟨W2, hW2⟩ : ∃ W2, W2 = w1.alloc (.cells #[.int .u8 (k : Nat), .int .u8 (f : Nat)] 5) := ⟨_, rfl⟩
  have b2 : Below w1.heap.size w1 W2 := by rw [hW2]; exact (Below.refl _ _).alloc (Nat.le_refl _) _
  have o2 := own_two w1 k f hk hf
  rw [← hW2] at o2
  have HN := (show Hid _ from rlay12_any w1.heap.size _ 2 2 [k, f] (4 + m) 2 W2 o2 b2.size (by omega) (by omega) (by omega) (by omega) (by omega))
  rw [show ((4 + m : Nat) : Int) = 4 + (m : Int) from by omega] at HN
  have hw4 : IntKind.u32.wrap (4 + (m : Int)) = 4 + (m : Int) := by rw [IntKind.wrap_u32]; omega
  have HO2 := (show Hid _ from And.intro o2 b2)
  clear hR ho1 b1 hb1 hst1 hm b2 o2 HB hW0
  go_wp2_with fail
  rw [← hW2]
  refine Calls.mono HN.out ?_
  clear HN hW2 s0 s1 hw4
  rintro e w3 hP
  obtain ⟨a3, c3', he, ho3, hg3⟩ := hP.row
  have hl3 : ([k, f] ++ bytesB (4 + m) 2).length = 4 := by simp [bytesB_len]
  rw [hl3] at he ho3
  subst he
  have hb3 : Below w1.heap.size w1 w3 := HO2.out.2.trans (hP.fr.below _ HO2.out.2.size (fun q hq => (HO2.out.1.own.lt q hq).1))
  have hsl := (HO1.out.1.sl (by omega)).below hb3
  have HO3 := (show Hid _ from And.intro ho3 hb3)
  have hz3 := hb3.size
  clear hP hg3 hl3 ho3 hb3
  go_wp2_with (at_builtin; go_must (refine app_list2 rfl _ _ rfl w1.heap.size _ _ _ _ rfl HO3.out.1 _ _ _ _ rfl hsl (by omega) hz3 ?_))
  intro a4 c4' w4 ho4 hg4 hp4
  obtain ⟨yy, hyy⟩ : ∃ yy, yy = [k, f] ++ bytesB (4 + m) 2 ++ L := ⟨_, rfl⟩
  have hb4 : Below w1.heap.size w1 w4 := HO3.out.2.trans (HO3.out.1.up hg4 HO3.out.2.size)
  have ho4' : OwnB w4 w1.heap.size a4 (4 + m) c4' yy := by rw [hyy]; first | exact ho4 | simpa only [List.append_assoc] using ho4
  have HYY := (show Hid _ from hyy)
  have HS0 : Hid (OwnB w4 w1.heap.size a4 (4 + m) c4' (yy ++ List.replicate 0 0) ∧ Below w1.heap.size w1 w4) := ⟨by show OwnB _ _ _ _ _ (yy ++ []); rw [List.append_nil]; exact ho4', hb4⟩
  have HN1 : Hid (yy.length = 4 + m) := ho4'.len
  clear ho4 hg4 hp4 ho4' hb4 hyy HO3 hsl hz3 HO2
  go_wp2_with fail
  go_loopw [4] (fun u3 wr => ∃ (j : Nat) (a : Option Addr) (n' c : Nat), j ≤ padN yy.length ∧ u3 = .slice a n' c ∧ OwnB wr w1.heap.size a n' c (yy ++ List.replicate j 0) ∧ Below w1.heap.size w1 wr) (fun u3 _ => match u3 with | .slice _ n' _ => m + 8 - n' | _ => 0)
  case atStart => exact ⟨0, _, _, _, Nat.zero_le _, rfl, HS0.out⟩
  case round =>
    obtain ⟨j, a2, n2, c2', hj, rfl, hS, hB⟩ := hrel
    have hn2 : n2 = 4 + m + j := by
      have := hS.len
      rw [List.length_append, List.length_replicate, HN1.out] at this
      omega
    have hj3 := padN_lt yy.length
    have hpd : padN yy.length = (4 - (4 + m) % 4) % 4 := by rw [HN1.out]; rfl
    have HS := (show Hid _ from And.intro hS hB)
    clear hS hB HS0
    by_cases hm : n2 % 4 = 0
    · have hm1 : (((n2 : Nat) : Int) % 4 != 0) = false := by simp; omega
      have ej : j = padN yy.length := by omega
      have e9 : yy ++ List.replicate j 0 = chB k f L := by
        rw [ej, HN1.out, HYY.out]
        unfold chB
        rw [← HM.out, show padN (4 + m) = padN m from by unfold padN; omega]
        rfl
      have hS := HS.out.1
      have hl := hS.len
      rw [e9] at hS hl
      have HF : Hid (RowV w (chB k f L) (.returned (.slice a2 n2 c2')) wr) := ⟨⟨a2, c2', by rw [hl], by rw [hl]; exact hS.base (HO1.out.2.1.size)⟩, HO1.out.2.1.trans (HS.out.2.mono HO1.out.2.1.size)⟩
      clear hS hl e9 ej hpd hj3 hn2 hm hj HS HO1 HYY HM
      go_wp2
      go_ret
      exact HF.out
    · have hm1 : (((n2 : Nat) : Int) % 4 != 0) = true := by simp; omega
      have hz1 : w1.heap.size ≤ wr.heap.size := HS.out.2.size
      have HJ : Hid (j < padN yy.length ∧ n2 ≤ 4 + m + 3) := ⟨by omega, by omega⟩
      have hb2 : n2 ≤ 60010 := by omega
      clear hpd hj3 hn2 hm hj
      go_wp2_with (at_builtin; go_must (refine app_list2 rfl _ _ rfl w1.heap.size _ _ _ _ rfl (HS.out.1.alloc _) _ 1 1 [0] rfl (sl_one wr 5 _ 0 rfl (by decide)) (by omega) (by simp; omega) ?_))
      intro a8 c8' w8 ho8 hg8 hp8
      have bA : Below w1.heap.size w1 (wr.alloc (.cells #[.int .u8 0] 5)) := HS.out.2.alloc HS.out.2.size _
      have h8 : Below w1.heap.size w1 w8 := bA.trans ((HS.out.1.alloc _).up hg8 bA.size)
      have e8 : yy ++ (List.replicate j 0 ++ [0]) = yy ++ List.replicate (j + 1) 0 := by rw [List.replicate_succ']
      try simp only [List.append_assoc] at ho8
      rw [e8] at ho8
      have HF := (show Hid _ from And.intro ho8 h8)
      clear h8 e8 ho8 hg8 hp8 HS hz1 hb2 hm1 bA
      go_wp2
      go_roundw
      case rel => exact ⟨j + 1, _, _, _, HJ.out.1, rfl, HF.out⟩
      case measure =>
        have := HJ.out.2
        show m + 8 - (n2 + 1) < m + 8 - n2
        omega
end Go.Proofs.Ytjaheelgcjafcaa
