/- reasm.clash, of pieces that do not clash. -/
import Derived.Test.YtnbagloifbllbaaRs3
namespace Go.Proofs.Ytnbagloifbllbaa
open Go.RowKit
/-- Do two pieces have a byte at one place, or one of them bytes beyond the other one's end? -/
def clashB (o1 n1 : Nat) (m1 : Bool) (o2 n2 : Nat) (m2 : Bool) : Bool := (decide (o1 < o2 + n2) && decide (o2 < o1 + n1)) || ((!m2 && decide (o2 + n2 < o1 + n1)) || (!m1 && decide (o1 + n1 < o2 + n2)))
set_option maxRecDepth 100000 in
set_option maxHeartbeats 1000000 in
theorem clash_no (sr1 ds1 pr1 tt1 id1 : Nat) (dn1 mo1 : Bool) (of1 : Nat) (a1 : Option Addr) (n1 c1 : Nat) (sr2 ds2 pr2 tt2 id2 : Nat) (dn2 mo2 : Bool) (of2 : Nat) (a2 : Option Addr) (n2 c2 : Nat) (w : World) (ho1 : of1 ≤ 100000) (hn1 : n1 ≤ 100000) (ho2 : of2 ≤ 100000) (hn2 : n2 ≤ 100000) (hcl : clashB of1 n1 mo1 of2 n2 mo2 = false) (v u : Value) (hv : v = .agg #[.int .u32 (sr1 : Nat), .int .u32 (ds1 : Nat), .int .u8 (pr1 : Nat), .int .u8 (tt1 : Nat), .int .u16 (id1 : Nat), .bool dn1, .bool mo1, .int .i64 (of1 : Nat), .slice a1 n1 c1]) (hu : u = .agg #[.int .u32 (sr2 : Nat), .int .u32 (ds2 : Nat), .int .u8 (pr2 : Nat), .int .u8 (tt2 : Nat), .int .u16 (id2 : Nat), .bool dn2, .bool mo2, .int .i64 (of2 : Nat), .slice a2 n2 c2]) :
    Calls Try.prog 35 #[v, u] w fun e w' => e = .returned (.bool false) ∧ Below w.heap.size w w' := by
  subst hv hu
  have HS : Hid (∀ W, Below ((w.alloc (.cells #[.int .u32 (sr1 : Nat), .int .u32 (ds1 : Nat), .int .u8 (pr1 : Nat), .int .u8 (tt1 : Nat), .int .u16 (id1 : Nat), .bool dn1, .bool mo1, .int .i64 (of1 : Nat), .slice a1 n1 c1] 26)).alloc (.cells #[.int .u32 (sr2 : Nat), .int .u32 (ds2 : Nat), .int .u8 (pr2 : Nat), .int .u8 (tt2 : Nat), .int .u16 (id2 : Nat), .bool dn2, .bool mo2, .int .i64 (of2 : Nat), .slice a2 n2 c2] 26)).heap.size ((w.alloc (.cells #[.int .u32 (sr1 : Nat), .int .u32 (ds1 : Nat), .int .u8 (pr1 : Nat), .int .u8 (tt1 : Nat), .int .u16 (id1 : Nat), .bool dn1, .bool mo1, .int .i64 (of1 : Nat), .slice a1 n1 c1] 26)).alloc (.cells #[.int .u32 (sr2 : Nat), .int .u32 (ds2 : Nat), .int .u8 (pr2 : Nat), .int .u8 (tt2 : Nat), .int .u16 (id2 : Nat), .bool dn2, .bool mo2, .int .i64 (of2 : Nat), .slice a2 n2 c2] 26)) W → W.cell? ⟨w.heap.size, 0, none⟩ = some (.int .u32 (sr1 : Nat)) ∧ W.cell? ⟨w.heap.size, 1, none⟩ = some (.int .u32 (ds1 : Nat)) ∧ W.cell? ⟨w.heap.size, 2, none⟩ = some (.int .u8 (pr1 : Nat)) ∧ W.cell? ⟨w.heap.size, 3, none⟩ = some (.int .u8 (tt1 : Nat)) ∧ W.cell? ⟨w.heap.size, 4, none⟩ = some (.int .u16 (id1 : Nat)) ∧ W.cell? ⟨w.heap.size, 5, none⟩ = some (.bool dn1) ∧ W.cell? ⟨w.heap.size, 6, none⟩ = some (.bool mo1) ∧ W.cell? ⟨w.heap.size, 7, none⟩ = some (.int .i64 (of1 : Nat)) ∧ W.cell? ⟨w.heap.size, 8, none⟩ = some (.slice a1 n1 c1) ∧ W.cell? ⟨w.heap.size + 1, 0, none⟩ = some (.int .u32 (sr2 : Nat)) ∧ W.cell? ⟨w.heap.size + 1, 1, none⟩ = some (.int .u32 (ds2 : Nat)) ∧ W.cell? ⟨w.heap.size + 1, 2, none⟩ = some (.int .u8 (pr2 : Nat)) ∧ W.cell? ⟨w.heap.size + 1, 3, none⟩ = some (.int .u8 (tt2 : Nat)) ∧ W.cell? ⟨w.heap.size + 1, 4, none⟩ = some (.int .u16 (id2 : Nat)) ∧ W.cell? ⟨w.heap.size + 1, 5, none⟩ = some (.bool dn2) ∧ W.cell? ⟨w.heap.size + 1, 6, none⟩ = some (.bool mo2) ∧ W.cell? ⟨w.heap.size + 1, 7, none⟩ = some (.int .i64 (of2 : Nat)) ∧ W.cell? ⟨w.heap.size + 1, 8, none⟩ = some (.slice a2 n2 c2)) := by
    show ∀ _, _
    intro W hW
    have hs1 := ((Stc.new w [.int .u32 (sr1 : Nat), .int .u32 (ds1 : Nat), .int .u8 (pr1 : Nat), .int .u8 (tt1 : Nat), .int .u16 (id1 : Nat), .bool dn1, .bool mo1, .int .i64 (of1 : Nat), .slice a1 n1 c1] 26 _ rfl).below ((Below.refl _ _).alloc (Nat.le_refl _) (.cells #[.int .u32 (sr2 : Nat), .int .u32 (ds2 : Nat), .int .u8 (pr2 : Nat), .int .u8 (tt2 : Nat), .int .u16 (id2 : Nat), .bool dn2, .bool mo2, .int .i64 (of2 : Nat), .slice a2 n2 c2] 26))).below hW
    have hs2 := (Stc.new (w.alloc (.cells #[.int .u32 (sr1 : Nat), .int .u32 (ds1 : Nat), .int .u8 (pr1 : Nat), .int .u8 (tt1 : Nat), .int .u16 (id1 : Nat), .bool dn1, .bool mo1, .int .i64 (of1 : Nat), .slice a1 n1 c1] 26)) [.int .u32 (sr2 : Nat), .int .u32 (ds2 : Nat), .int .u8 (pr2 : Nat), .int .u8 (tt2 : Nat), .int .u16 (id2 : Nat), .bool dn2, .bool mo2, .int .i64 (of2 : Nat), .slice a2 n2 c2] 26 _ rfl).below hW
    rw [show (w.alloc (.cells #[.int .u32 (sr1 : Nat), .int .u32 (ds1 : Nat), .int .u8 (pr1 : Nat), .int .u8 (tt1 : Nat), .int .u16 (id1 : Nat), .bool dn1, .bool mo1, .int .i64 (of1 : Nat), .slice a1 n1 c1] 26)).heap.size = w.heap.size + 1 by simp] at hs2
    exact ⟨hs1.cell 0 _ rfl, hs1.cell 1 _ rfl, hs1.cell 2 _ rfl, hs1.cell 3 _ rfl, hs1.cell 4 _ rfl, hs1.cell 5 _ rfl, hs1.cell 6 _ rfl, hs1.cell 7 _ rfl, hs1.cell 8 _ rfl, hs2.cell 0 _ rfl, hs2.cell 1 _ rfl, hs2.cell 2 _ rfl, hs2.cell 3 _ rfl, hs2.cell 4 _ rfl, hs2.cell 5 _ rfl, hs2.cell 6 _ rfl, hs2.cell 7 _ rfl, hs2.cell 8 _ rfl⟩
  have HB0 : Hid (∀ W, Below ((w.alloc (.cells #[.int .u32 (sr1 : Nat), .int .u32 (ds1 : Nat), .int .u8 (pr1 : Nat), .int .u8 (tt1 : Nat), .int .u16 (id1 : Nat), .bool dn1, .bool mo1, .int .i64 (of1 : Nat), .slice a1 n1 c1] 26)).alloc (.cells #[.int .u32 (sr2 : Nat), .int .u32 (ds2 : Nat), .int .u8 (pr2 : Nat), .int .u8 (tt2 : Nat), .int .u16 (id2 : Nat), .bool dn2, .bool mo2, .int .i64 (of2 : Nat), .slice a2 n2 c2] 26)).heap.size ((w.alloc (.cells #[.int .u32 (sr1 : Nat), .int .u32 (ds1 : Nat), .int .u8 (pr1 : Nat), .int .u8 (tt1 : Nat), .int .u16 (id1 : Nat), .bool dn1, .bool mo1, .int .i64 (of1 : Nat), .slice a1 n1 c1] 26)).alloc (.cells #[.int .u32 (sr2 : Nat), .int .u32 (ds2 : Nat), .int .u8 (pr2 : Nat), .int .u8 (tt2 : Nat), .int .u16 (id2 : Nat), .bool dn2, .bool mo2, .int .i64 (of2 : Nat), .slice a2 n2 c2] 26)) W → Below w.heap.size w W) := fun W hW => (((Below.refl _ _).alloc (Nat.le_refl _) _).alloc (by simp) _).trans (hW.mono (by simp; omega))
  have hE : ∀ W, Calls Try.prog 28 #[.agg #[.int .u32 (sr1 : Nat), .int .u32 (ds1 : Nat), .int .u8 (pr1 : Nat), .int .u8 (tt1 : Nat), .int .u16 (id1 : Nat), .bool dn1, .bool mo1, .int .i64 (of1 : Nat), .slice a1 n1 c1]] W fun e w' => e = .returned (.int .i64 ((of1 + n1 : Nat) : Int)) ∧ Below W.heap.size W w' := fun W => end_any sr1 ds1 pr1 tt1 id1 dn1 mo1 of1 a1 n1 c1 W ho1 (by omega)
  have hF : ∀ W, Calls Try.prog 28 #[.agg #[.int .u32 (sr2 : Nat), .int .u32 (ds2 : Nat), .int .u8 (pr2 : Nat), .int .u8 (tt2 : Nat), .int .u16 (id2 : Nat), .bool dn2, .bool mo2, .int .i64 (of2 : Nat), .slice a2 n2 c2]] W fun e w' => e = .returned (.int .i64 ((of2 + n2 : Nat) : Int)) ∧ Below W.heap.size W w' := fun W => end_any sr2 ds2 pr2 tt2 id2 dn2 mo2 of2 a2 n2 c2 W ho2 (by omega)
  unfold clashB at hcl
  simp only [Bool.or_eq_false_iff, Bool.and_eq_false_iff, decide_eq_false_iff_not, Bool.not_eq_false'] at hcl
  obtain ⟨hc1, hc2, hc3⟩ := hcl
  go_enter Try.func35, Try.ntmps35
  go_wp2_with fail
  generalize hw0 : (w.alloc (.cells #[.int .u32 (sr1 : Nat), .int .u32 (ds1 : Nat), .int .u8 (pr1 : Nat), .int .u8 (tt1 : Nat), .int .u16 (id1 : Nat), .bool dn1, .bool mo1, .int .i64 (of1 : Nat), .slice a1 n1 c1] 26)).alloc (.cells #[.int .u32 (sr2 : Nat), .int .u32 (ds2 : Nat), .int .u8 (pr2 : Nat), .int .u8 (tt2 : Nat), .int .u16 (id2 : Nat), .bool dn2, .bool mo2, .int .i64 (of2 : Nat), .slice a2 n2 c2] 26) = w0 at *
  clear hw0
  have mk : ∀ W, Below w0.heap.size w0 W → Below w0.heap.size w0 W.drew := fun W h => h.trans ((Below.refl _ _).drew.mono h.size)
  by_cases hm : of1 < of2 + n2
  · have hm1 : ((of1 : Nat) : Int) < ((of2 + n2 : Nat) : Int) := by omega
    have hm2 : ¬ ((of2 : Nat) : Int) < ((of1 + n1 : Nat) : Int) := by omega
    refine wp_region_fixW mixedX (fun W => Below w0.heap.size w0 W) [(7, .pointer (some ⟨w.heap.size, 7, none⟩)), (8, .int .i64 (of1 : Nat)), (9, .agg #[.int .u32 (sr2 : Nat), .int .u32 (ds2 : Nat), .int .u8 (pr2 : Nat), .int .u8 (tt2 : Nat), .int .u16 (id2 : Nat), .bool dn2, .bool mo2, .int .i64 (of2 : Nat), .slice a2 n2 c2]), (10, .int .i64 ((of2 + n2 : Nat) : Int)), (11, .bool true), (12, .bool true), (13, .pointer (some ⟨w.heap.size + 1, 7, none⟩)), (14, .int .i64 (of2 : Nat)), (15, .agg #[.int .u32 (sr1 : Nat), .int .u32 (ds1 : Nat), .int .u8 (pr1 : Nat), .int .u8 (tt1 : Nat), .int .u16 (id1 : Nat), .bool dn1, .bool mo1, .int .i64 (of1 : Nat), .slice a1 n1 c1]), (16, .int .i64 ((of1 + n1 : Nat) : Int)), (17, .bool false), (18, .bool false), (5, .bool false)] ?Z1 ?hZ1 (by kernel_rfl) (by kernel_rfl) (by kernel_rfl) (by kernel_rfl) ?h01 ?hops1 ?he1
    case hZ1 => simp only [List.foldl_cons, List.foldl_nil, List.setIfInBounds_toArray, List.set_cons_zero, List.set_cons_succ]; rfl
    case h01 => exact (Below.refl _ _).drew
    case hops1 =>
      refine ⟨?_, ?_, ?_, ?_, ?_, ?_, ?_, ?_, ?_, ?_, ?_, ?_, ?_, trivial⟩
      · exact fix_val (by rfl) (fun W hW => by obtain ⟨x0, x1, x2, x3, x4, x5, x6, x7, x8, y0, y1, y2, y3, y4, y5, y6, y7, y8⟩ := HS.out W hW; go_simp; (try with_reducible rfl); (try omega))
      · exact fix_val (by rfl) (fun W hW => by obtain ⟨x0, x1, x2, x3, x4, x5, x6, x7, x8, y0, y1, y2, y3, y4, y5, y6, y7, y8⟩ := HS.out W hW; go_simp; (try with_reducible rfl); (try omega))
      · exact fix_val (by rfl) (fun W hW => by obtain ⟨x0, x1, x2, x3, x4, x5, x6, x7, x8, y0, y1, y2, y3, y4, y5, y6, y7, y8⟩ := HS.out W hW; go_simp; (try with_reducible rfl); (try omega))
      · exact fix_call (vs := [.agg #[.int .u32 (sr2 : Nat), .int .u32 (ds2 : Nat), .int .u8 (pr2 : Nat), .int .u8 (tt2 : Nat), .int .u16 (id2 : Nat), .bool dn2, .bool mo2, .int .i64 (of2 : Nat), .slice a2 n2 c2]]) (by rfl) rfl (by rfl) Try.func28 (by rfl) (by rfl) (fun W hW => by refine (hF W).mono ?_; rintro e W2 ⟨rfl, b2⟩; exact ⟨rfl, hW.trans (b2.mono hW.size)⟩)
      · exact fix_val (by rfl) (fun W hW => by obtain ⟨x0, x1, x2, x3, x4, x5, x6, x7, x8, y0, y1, y2, y3, y4, y5, y6, y7, y8⟩ := HS.out W hW; go_simp; (try with_reducible rfl); (try omega))
      · exact fix_val (by rfl) (fun W hW => by obtain ⟨x0, x1, x2, x3, x4, x5, x6, x7, x8, y0, y1, y2, y3, y4, y5, y6, y7, y8⟩ := HS.out W hW; go_simp; (try with_reducible rfl); (try omega))
      · exact fix_val (by rfl) (fun W hW => by obtain ⟨x0, x1, x2, x3, x4, x5, x6, x7, x8, y0, y1, y2, y3, y4, y5, y6, y7, y8⟩ := HS.out W hW; go_simp; (try with_reducible rfl); (try omega))
      · exact fix_val (by rfl) (fun W hW => by obtain ⟨x0, x1, x2, x3, x4, x5, x6, x7, x8, y0, y1, y2, y3, y4, y5, y6, y7, y8⟩ := HS.out W hW; go_simp; (try with_reducible rfl); (try omega))
      · exact fix_val (by rfl) (fun W hW => by obtain ⟨x0, x1, x2, x3, x4, x5, x6, x7, x8, y0, y1, y2, y3, y4, y5, y6, y7, y8⟩ := HS.out W hW; go_simp; (try with_reducible rfl); (try omega))
      · exact fix_call (vs := [.agg #[.int .u32 (sr1 : Nat), .int .u32 (ds1 : Nat), .int .u8 (pr1 : Nat), .int .u8 (tt1 : Nat), .int .u16 (id1 : Nat), .bool dn1, .bool mo1, .int .i64 (of1 : Nat), .slice a1 n1 c1]]) (by rfl) rfl (by rfl) Try.func28 (by rfl) (by rfl) (fun W hW => by refine (hE W).mono ?_; rintro e W2 ⟨rfl, b2⟩; exact ⟨rfl, hW.trans (b2.mono hW.size)⟩)
      · exact fix_val (by rfl) (fun W hW => by obtain ⟨x0, x1, x2, x3, x4, x5, x6, x7, x8, y0, y1, y2, y3, y4, y5, y6, y7, y8⟩ := HS.out W hW; go_simp; (try with_reducible rfl); (try omega))
      · exact fix_val (by rfl) (fun W hW => by obtain ⟨x0, x1, x2, x3, x4, x5, x6, x7, x8, y0, y1, y2, y3, y4, y5, y6, y7, y8⟩ := HS.out W hW; go_simp; (try with_reducible rfl); (try omega))
      · exact fix_val (by rfl) (fun W hW => by obtain ⟨x0, x1, x2, x3, x4, x5, x6, x7, x8, y0, y1, y2, y3, y4, y5, y6, y7, y8⟩ := HS.out W hW; go_simp; (try with_reducible rfl); (try omega))
    case he1 =>
    intro W1 hW1
    clear hm1 hm2
    go_wp2_with fail
    cases mo1 with
    | true =>
      cases mo2 with
      | true =>
        refine wp_region_fixW mixedX (fun W => Below w0.heap.size w0 W) [(19, .pointer (some ⟨w.heap.size + 1, 6, none⟩)), (20, .bool true), (21, .bool false), (22, .bool false), (23, undef), (24, undef), (25, undef), (26, undef), (27, undef), (28, .bool false), (29, .bool false), (30, .pointer (some ⟨w.heap.size, 6, none⟩)), (31, .bool true), (32, .bool false), (33, .bool false), (34, undef), (35, undef), (36, undef), (37, undef), (38, undef), (39, .bool false), (40, .bool false), (6, .bool false)] ?Z2 ?hZ2 (by kernel_rfl) (by kernel_rfl) (by kernel_rfl) (by kernel_rfl) ?h02 ?hops2 ?he2
        case hZ2 => simp only [List.foldl_cons, List.foldl_nil, List.setIfInBounds_toArray, List.set_cons_zero, List.set_cons_succ]; rfl
        case h02 => exact mk _ hW1
        case hops2 =>
          refine ⟨?_, ?_, ?_, ?_, ?_, ?_, ?_, ?_, ?_, ?_, ?_, ?_, ?_, ?_, ?_, ?_, ?_, ?_, ?_, ?_, ?_, ?_, ?_, trivial⟩
          · exact fix_val (by rfl) (fun W hW => by obtain ⟨x0, x1, x2, x3, x4, x5, x6, x7, x8, y0, y1, y2, y3, y4, y5, y6, y7, y8⟩ := HS.out W hW; go_simp; (try with_reducible rfl); (try omega))
          · exact fix_val (by rfl) (fun W hW => by obtain ⟨x0, x1, x2, x3, x4, x5, x6, x7, x8, y0, y1, y2, y3, y4, y5, y6, y7, y8⟩ := HS.out W hW; go_simp; (try with_reducible rfl); (try omega))
          · exact fix_val (by rfl) (fun W hW => by obtain ⟨x0, x1, x2, x3, x4, x5, x6, x7, x8, y0, y1, y2, y3, y4, y5, y6, y7, y8⟩ := HS.out W hW; go_simp; (try with_reducible rfl); (try omega))
          · exact fix_val (by rfl) (fun W hW => by obtain ⟨x0, x1, x2, x3, x4, x5, x6, x7, x8, y0, y1, y2, y3, y4, y5, y6, y7, y8⟩ := HS.out W hW; go_simp; (try with_reducible rfl); (try omega))
          · exact fix_off (by rfl) (fun d hd => by cases hd; rfl)
          · exact fix_off (by rfl) (fun d hd => by cases hd; rfl)
          · exact fix_off (by rfl) (fun d hd => by cases hd; rfl)
          · exact fix_off (by rfl) (fun d hd => by cases hd; rfl)
          · exact fix_off (by rfl) (fun d hd => by cases hd; rfl)
          · exact fix_val (by rfl) (fun W hW => by obtain ⟨x0, x1, x2, x3, x4, x5, x6, x7, x8, y0, y1, y2, y3, y4, y5, y6, y7, y8⟩ := HS.out W hW; go_simp; (try with_reducible rfl); (try omega))
          · exact fix_val (by rfl) (fun W hW => by obtain ⟨x0, x1, x2, x3, x4, x5, x6, x7, x8, y0, y1, y2, y3, y4, y5, y6, y7, y8⟩ := HS.out W hW; go_simp; (try with_reducible rfl); (try omega))
          · exact fix_val (by rfl) (fun W hW => by obtain ⟨x0, x1, x2, x3, x4, x5, x6, x7, x8, y0, y1, y2, y3, y4, y5, y6, y7, y8⟩ := HS.out W hW; go_simp; (try with_reducible rfl); (try omega))
          · exact fix_val (by rfl) (fun W hW => by obtain ⟨x0, x1, x2, x3, x4, x5, x6, x7, x8, y0, y1, y2, y3, y4, y5, y6, y7, y8⟩ := HS.out W hW; go_simp; (try with_reducible rfl); (try omega))
          · exact fix_val (by rfl) (fun W hW => by obtain ⟨x0, x1, x2, x3, x4, x5, x6, x7, x8, y0, y1, y2, y3, y4, y5, y6, y7, y8⟩ := HS.out W hW; go_simp; (try with_reducible rfl); (try omega))
          · exact fix_val (by rfl) (fun W hW => by obtain ⟨x0, x1, x2, x3, x4, x5, x6, x7, x8, y0, y1, y2, y3, y4, y5, y6, y7, y8⟩ := HS.out W hW; go_simp; (try with_reducible rfl); (try omega))
          · exact fix_off (by rfl) (fun d hd => by cases hd; rfl)
          · exact fix_off (by rfl) (fun d hd => by cases hd; rfl)
          · exact fix_off (by rfl) (fun d hd => by cases hd; rfl)
          · exact fix_off (by rfl) (fun d hd => by cases hd; rfl)
          · exact fix_off (by rfl) (fun d hd => by cases hd; rfl)
          · exact fix_val (by rfl) (fun W hW => by obtain ⟨x0, x1, x2, x3, x4, x5, x6, x7, x8, y0, y1, y2, y3, y4, y5, y6, y7, y8⟩ := HS.out W hW; go_simp; (try with_reducible rfl); (try omega))
          · exact fix_val (by rfl) (fun W hW => by obtain ⟨x0, x1, x2, x3, x4, x5, x6, x7, x8, y0, y1, y2, y3, y4, y5, y6, y7, y8⟩ := HS.out W hW; go_simp; (try with_reducible rfl); (try omega))
          · exact fix_val (by rfl) (fun W hW => by obtain ⟨x0, x1, x2, x3, x4, x5, x6, x7, x8, y0, y1, y2, y3, y4, y5, y6, y7, y8⟩ := HS.out W hW; go_simp; (try with_reducible rfl); (try omega))
        case he2 =>
        intro W2 hW2
        have HBL := (show Hid _ from HB0.out _ hW2)
        go_wp2
        go_ret
        exact ⟨rfl, HBL.out⟩
      | false =>
        have hg2 : ¬ ((of2 + n2 : Nat) : Int) < ((of1 + n1 : Nat) : Int) := by simp at hc2; omega
        refine wp_region_fixW mixedX (fun W => Below w0.heap.size w0 W) [(19, .pointer (some ⟨w.heap.size + 1, 6, none⟩)), (20, .bool false), (21, .bool true), (22, .bool true), (23, .agg #[.int .u32 (sr1 : Nat), .int .u32 (ds1 : Nat), .int .u8 (pr1 : Nat), .int .u8 (tt1 : Nat), .int .u16 (id1 : Nat), .bool dn1, .bool true, .int .i64 (of1 : Nat), .slice a1 n1 c1]), (24, .int .i64 ((of1 + n1 : Nat) : Int)), (25, .agg #[.int .u32 (sr2 : Nat), .int .u32 (ds2 : Nat), .int .u8 (pr2 : Nat), .int .u8 (tt2 : Nat), .int .u16 (id2 : Nat), .bool dn2, .bool false, .int .i64 (of2 : Nat), .slice a2 n2 c2]), (26, .int .i64 ((of2 + n2 : Nat) : Int)), (27, .bool false), (28, .bool false), (29, .bool false), (30, .pointer (some ⟨w.heap.size, 6, none⟩)), (31, .bool true), (32, .bool false), (33, .bool false), (34, undef), (35, undef), (36, undef), (37, undef), (38, undef), (39, .bool false), (40, .bool false), (6, .bool false)] ?Z3 ?hZ3 (by kernel_rfl) (by kernel_rfl) (by kernel_rfl) (by kernel_rfl) ?h03 ?hops3 ?he3
        case hZ3 => simp only [List.foldl_cons, List.foldl_nil, List.setIfInBounds_toArray, List.set_cons_zero, List.set_cons_succ]; rfl
        case h03 => exact mk _ hW1
        case hops3 =>
          refine ⟨?_, ?_, ?_, ?_, ?_, ?_, ?_, ?_, ?_, ?_, ?_, ?_, ?_, ?_, ?_, ?_, ?_, ?_, ?_, ?_, ?_, ?_, ?_, trivial⟩
          · exact fix_val (by rfl) (fun W hW => by obtain ⟨x0, x1, x2, x3, x4, x5, x6, x7, x8, y0, y1, y2, y3, y4, y5, y6, y7, y8⟩ := HS.out W hW; go_simp; (try with_reducible rfl); (try omega))
          · exact fix_val (by rfl) (fun W hW => by obtain ⟨x0, x1, x2, x3, x4, x5, x6, x7, x8, y0, y1, y2, y3, y4, y5, y6, y7, y8⟩ := HS.out W hW; go_simp; (try with_reducible rfl); (try omega))
          · exact fix_val (by rfl) (fun W hW => by obtain ⟨x0, x1, x2, x3, x4, x5, x6, x7, x8, y0, y1, y2, y3, y4, y5, y6, y7, y8⟩ := HS.out W hW; go_simp; (try with_reducible rfl); (try omega))
          · exact fix_val (by rfl) (fun W hW => by obtain ⟨x0, x1, x2, x3, x4, x5, x6, x7, x8, y0, y1, y2, y3, y4, y5, y6, y7, y8⟩ := HS.out W hW; go_simp; (try with_reducible rfl); (try omega))
          · exact fix_val (by rfl) (fun W hW => by obtain ⟨x0, x1, x2, x3, x4, x5, x6, x7, x8, y0, y1, y2, y3, y4, y5, y6, y7, y8⟩ := HS.out W hW; go_simp; (try with_reducible rfl); (try omega))
          · exact fix_call (vs := [.agg #[.int .u32 (sr1 : Nat), .int .u32 (ds1 : Nat), .int .u8 (pr1 : Nat), .int .u8 (tt1 : Nat), .int .u16 (id1 : Nat), .bool dn1, .bool true, .int .i64 (of1 : Nat), .slice a1 n1 c1]]) (by rfl) rfl (by rfl) Try.func28 (by rfl) (by rfl) (fun W hW => by refine (hE W).mono ?_; rintro e W2 ⟨rfl, b2⟩; exact ⟨rfl, hW.trans (b2.mono hW.size)⟩)
          · exact fix_val (by rfl) (fun W hW => by obtain ⟨x0, x1, x2, x3, x4, x5, x6, x7, x8, y0, y1, y2, y3, y4, y5, y6, y7, y8⟩ := HS.out W hW; go_simp; (try with_reducible rfl); (try omega))
          · exact fix_call (vs := [.agg #[.int .u32 (sr2 : Nat), .int .u32 (ds2 : Nat), .int .u8 (pr2 : Nat), .int .u8 (tt2 : Nat), .int .u16 (id2 : Nat), .bool dn2, .bool false, .int .i64 (of2 : Nat), .slice a2 n2 c2]]) (by rfl) rfl (by rfl) Try.func28 (by rfl) (by rfl) (fun W hW => by refine (hF W).mono ?_; rintro e W2 ⟨rfl, b2⟩; exact ⟨rfl, hW.trans (b2.mono hW.size)⟩)
          · exact fix_val (by rfl) (fun W hW => by obtain ⟨x0, x1, x2, x3, x4, x5, x6, x7, x8, y0, y1, y2, y3, y4, y5, y6, y7, y8⟩ := HS.out W hW; go_simp; (try with_reducible rfl); (try omega))
          · exact fix_val (by rfl) (fun W hW => by obtain ⟨x0, x1, x2, x3, x4, x5, x6, x7, x8, y0, y1, y2, y3, y4, y5, y6, y7, y8⟩ := HS.out W hW; go_simp; (try with_reducible rfl); (try omega))
          · exact fix_val (by rfl) (fun W hW => by obtain ⟨x0, x1, x2, x3, x4, x5, x6, x7, x8, y0, y1, y2, y3, y4, y5, y6, y7, y8⟩ := HS.out W hW; go_simp; (try with_reducible rfl); (try omega))
          · exact fix_val (by rfl) (fun W hW => by obtain ⟨x0, x1, x2, x3, x4, x5, x6, x7, x8, y0, y1, y2, y3, y4, y5, y6, y7, y8⟩ := HS.out W hW; go_simp; (try with_reducible rfl); (try omega))
          · exact fix_val (by rfl) (fun W hW => by obtain ⟨x0, x1, x2, x3, x4, x5, x6, x7, x8, y0, y1, y2, y3, y4, y5, y6, y7, y8⟩ := HS.out W hW; go_simp; (try with_reducible rfl); (try omega))
          · exact fix_val (by rfl) (fun W hW => by obtain ⟨x0, x1, x2, x3, x4, x5, x6, x7, x8, y0, y1, y2, y3, y4, y5, y6, y7, y8⟩ := HS.out W hW; go_simp; (try with_reducible rfl); (try omega))
          · exact fix_val (by rfl) (fun W hW => by obtain ⟨x0, x1, x2, x3, x4, x5, x6, x7, x8, y0, y1, y2, y3, y4, y5, y6, y7, y8⟩ := HS.out W hW; go_simp; (try with_reducible rfl); (try omega))
          · exact fix_off (by rfl) (fun d hd => by cases hd; rfl)
          · exact fix_off (by rfl) (fun d hd => by cases hd; rfl)
          · exact fix_off (by rfl) (fun d hd => by cases hd; rfl)
          · exact fix_off (by rfl) (fun d hd => by cases hd; rfl)
          · exact fix_off (by rfl) (fun d hd => by cases hd; rfl)
          · exact fix_val (by rfl) (fun W hW => by obtain ⟨x0, x1, x2, x3, x4, x5, x6, x7, x8, y0, y1, y2, y3, y4, y5, y6, y7, y8⟩ := HS.out W hW; go_simp; (try with_reducible rfl); (try omega))
          · exact fix_val (by rfl) (fun W hW => by obtain ⟨x0, x1, x2, x3, x4, x5, x6, x7, x8, y0, y1, y2, y3, y4, y5, y6, y7, y8⟩ := HS.out W hW; go_simp; (try with_reducible rfl); (try omega))
          · exact fix_val (by rfl) (fun W hW => by obtain ⟨x0, x1, x2, x3, x4, x5, x6, x7, x8, y0, y1, y2, y3, y4, y5, y6, y7, y8⟩ := HS.out W hW; go_simp; (try with_reducible rfl); (try omega))
        case he3 =>
        intro W2 hW2
        have HBL := (show Hid _ from HB0.out _ hW2)
        go_wp2
        go_ret
        exact ⟨rfl, HBL.out⟩
    | false =>
      cases mo2 with
      | true =>
        have hg1 : ¬ ((of1 + n1 : Nat) : Int) < ((of2 + n2 : Nat) : Int) := by simp at hc3; omega
        refine wp_region_fixW mixedX (fun W => Below w0.heap.size w0 W) [(19, .pointer (some ⟨w.heap.size + 1, 6, none⟩)), (20, .bool true), (21, .bool false), (22, .bool false), (23, undef), (24, undef), (25, undef), (26, undef), (27, undef), (28, .bool false), (29, .bool false), (30, .pointer (some ⟨w.heap.size, 6, none⟩)), (31, .bool false), (32, .bool true), (33, .bool true), (34, .agg #[.int .u32 (sr2 : Nat), .int .u32 (ds2 : Nat), .int .u8 (pr2 : Nat), .int .u8 (tt2 : Nat), .int .u16 (id2 : Nat), .bool dn2, .bool true, .int .i64 (of2 : Nat), .slice a2 n2 c2]), (35, .int .i64 ((of2 + n2 : Nat) : Int)), (36, .agg #[.int .u32 (sr1 : Nat), .int .u32 (ds1 : Nat), .int .u8 (pr1 : Nat), .int .u8 (tt1 : Nat), .int .u16 (id1 : Nat), .bool dn1, .bool false, .int .i64 (of1 : Nat), .slice a1 n1 c1]), (37, .int .i64 ((of1 + n1 : Nat) : Int)), (38, .bool false), (39, .bool false), (40, .bool false), (6, .bool false)] ?Z4 ?hZ4 (by kernel_rfl) (by kernel_rfl) (by kernel_rfl) (by kernel_rfl) ?h04 ?hops4 ?he4
        case hZ4 => simp only [List.foldl_cons, List.foldl_nil, List.setIfInBounds_toArray, List.set_cons_zero, List.set_cons_succ]; rfl
        case h04 => exact mk _ hW1
        case hops4 =>
          refine ⟨?_, ?_, ?_, ?_, ?_, ?_, ?_, ?_, ?_, ?_, ?_, ?_, ?_, ?_, ?_, ?_, ?_, ?_, ?_, ?_, ?_, ?_, ?_, trivial⟩
          · exact fix_val (by rfl) (fun W hW => by obtain ⟨x0, x1, x2, x3, x4, x5, x6, x7, x8, y0, y1, y2, y3, y4, y5, y6, y7, y8⟩ := HS.out W hW; go_simp; (try with_reducible rfl); (try omega))
          · exact fix_val (by rfl) (fun W hW => by obtain ⟨x0, x1, x2, x3, x4, x5, x6, x7, x8, y0, y1, y2, y3, y4, y5, y6, y7, y8⟩ := HS.out W hW; go_simp; (try with_reducible rfl); (try omega))
          · exact fix_val (by rfl) (fun W hW => by obtain ⟨x0, x1, x2, x3, x4, x5, x6, x7, x8, y0, y1, y2, y3, y4, y5, y6, y7, y8⟩ := HS.out W hW; go_simp; (try with_reducible rfl); (try omega))
          · exact fix_val (by rfl) (fun W hW => by obtain ⟨x0, x1, x2, x3, x4, x5, x6, x7, x8, y0, y1, y2, y3, y4, y5, y6, y7, y8⟩ := HS.out W hW; go_simp; (try with_reducible rfl); (try omega))
          · exact fix_off (by rfl) (fun d hd => by cases hd; rfl)
          · exact fix_off (by rfl) (fun d hd => by cases hd; rfl)
          · exact fix_off (by rfl) (fun d hd => by cases hd; rfl)
          · exact fix_off (by rfl) (fun d hd => by cases hd; rfl)
          · exact fix_off (by rfl) (fun d hd => by cases hd; rfl)
          · exact fix_val (by rfl) (fun W hW => by obtain ⟨x0, x1, x2, x3, x4, x5, x6, x7, x8, y0, y1, y2, y3, y4, y5, y6, y7, y8⟩ := HS.out W hW; go_simp; (try with_reducible rfl); (try omega))
          · exact fix_val (by rfl) (fun W hW => by obtain ⟨x0, x1, x2, x3, x4, x5, x6, x7, x8, y0, y1, y2, y3, y4, y5, y6, y7, y8⟩ := HS.out W hW; go_simp; (try with_reducible rfl); (try omega))
          · exact fix_val (by rfl) (fun W hW => by obtain ⟨x0, x1, x2, x3, x4, x5, x6, x7, x8, y0, y1, y2, y3, y4, y5, y6, y7, y8⟩ := HS.out W hW; go_simp; (try with_reducible rfl); (try omega))
          · exact fix_val (by rfl) (fun W hW => by obtain ⟨x0, x1, x2, x3, x4, x5, x6, x7, x8, y0, y1, y2, y3, y4, y5, y6, y7, y8⟩ := HS.out W hW; go_simp; (try with_reducible rfl); (try omega))
          · exact fix_val (by rfl) (fun W hW => by obtain ⟨x0, x1, x2, x3, x4, x5, x6, x7, x8, y0, y1, y2, y3, y4, y5, y6, y7, y8⟩ := HS.out W hW; go_simp; (try with_reducible rfl); (try omega))
          · exact fix_val (by rfl) (fun W hW => by obtain ⟨x0, x1, x2, x3, x4, x5, x6, x7, x8, y0, y1, y2, y3, y4, y5, y6, y7, y8⟩ := HS.out W hW; go_simp; (try with_reducible rfl); (try omega))
          · exact fix_val (by rfl) (fun W hW => by obtain ⟨x0, x1, x2, x3, x4, x5, x6, x7, x8, y0, y1, y2, y3, y4, y5, y6, y7, y8⟩ := HS.out W hW; go_simp; (try with_reducible rfl); (try omega))
          · exact fix_call (vs := [.agg #[.int .u32 (sr2 : Nat), .int .u32 (ds2 : Nat), .int .u8 (pr2 : Nat), .int .u8 (tt2 : Nat), .int .u16 (id2 : Nat), .bool dn2, .bool true, .int .i64 (of2 : Nat), .slice a2 n2 c2]]) (by rfl) rfl (by rfl) Try.func28 (by rfl) (by rfl) (fun W hW => by refine (hF W).mono ?_; rintro e W2 ⟨rfl, b2⟩; exact ⟨rfl, hW.trans (b2.mono hW.size)⟩)
          · exact fix_val (by rfl) (fun W hW => by obtain ⟨x0, x1, x2, x3, x4, x5, x6, x7, x8, y0, y1, y2, y3, y4, y5, y6, y7, y8⟩ := HS.out W hW; go_simp; (try with_reducible rfl); (try omega))
          · exact fix_call (vs := [.agg #[.int .u32 (sr1 : Nat), .int .u32 (ds1 : Nat), .int .u8 (pr1 : Nat), .int .u8 (tt1 : Nat), .int .u16 (id1 : Nat), .bool dn1, .bool false, .int .i64 (of1 : Nat), .slice a1 n1 c1]]) (by rfl) rfl (by rfl) Try.func28 (by rfl) (by rfl) (fun W hW => by refine (hE W).mono ?_; rintro e W2 ⟨rfl, b2⟩; exact ⟨rfl, hW.trans (b2.mono hW.size)⟩)
          · exact fix_val (by rfl) (fun W hW => by obtain ⟨x0, x1, x2, x3, x4, x5, x6, x7, x8, y0, y1, y2, y3, y4, y5, y6, y7, y8⟩ := HS.out W hW; go_simp; (try with_reducible rfl); (try omega))
          · exact fix_val (by rfl) (fun W hW => by obtain ⟨x0, x1, x2, x3, x4, x5, x6, x7, x8, y0, y1, y2, y3, y4, y5, y6, y7, y8⟩ := HS.out W hW; go_simp; (try with_reducible rfl); (try omega))
          · exact fix_val (by rfl) (fun W hW => by obtain ⟨x0, x1, x2, x3, x4, x5, x6, x7, x8, y0, y1, y2, y3, y4, y5, y6, y7, y8⟩ := HS.out W hW; go_simp; (try with_reducible rfl); (try omega))
          · exact fix_val (by rfl) (fun W hW => by obtain ⟨x0, x1, x2, x3, x4, x5, x6, x7, x8, y0, y1, y2, y3, y4, y5, y6, y7, y8⟩ := HS.out W hW; go_simp; (try with_reducible rfl); (try omega))
        case he4 =>
        intro W2 hW2
        have HBL := (show Hid _ from HB0.out _ hW2)
        go_wp2
        go_ret
        exact ⟨rfl, HBL.out⟩
      | false =>
        have hg2 : ¬ ((of2 + n2 : Nat) : Int) < ((of1 + n1 : Nat) : Int) := by simp at hc2; omega
        have hg1 : ¬ ((of1 + n1 : Nat) : Int) < ((of2 + n2 : Nat) : Int) := by simp at hc3; omega
        refine wp_region_fixW mixedX (fun W => Below w0.heap.size w0 W) [(19, .pointer (some ⟨w.heap.size + 1, 6, none⟩)), (20, .bool false), (21, .bool true), (22, .bool true), (23, .agg #[.int .u32 (sr1 : Nat), .int .u32 (ds1 : Nat), .int .u8 (pr1 : Nat), .int .u8 (tt1 : Nat), .int .u16 (id1 : Nat), .bool dn1, .bool false, .int .i64 (of1 : Nat), .slice a1 n1 c1]), (24, .int .i64 ((of1 + n1 : Nat) : Int)), (25, .agg #[.int .u32 (sr2 : Nat), .int .u32 (ds2 : Nat), .int .u8 (pr2 : Nat), .int .u8 (tt2 : Nat), .int .u16 (id2 : Nat), .bool dn2, .bool false, .int .i64 (of2 : Nat), .slice a2 n2 c2]), (26, .int .i64 ((of2 + n2 : Nat) : Int)), (27, .bool false), (28, .bool false), (29, .bool false), (30, .pointer (some ⟨w.heap.size, 6, none⟩)), (31, .bool false), (32, .bool true), (33, .bool true), (34, .agg #[.int .u32 (sr2 : Nat), .int .u32 (ds2 : Nat), .int .u8 (pr2 : Nat), .int .u8 (tt2 : Nat), .int .u16 (id2 : Nat), .bool dn2, .bool false, .int .i64 (of2 : Nat), .slice a2 n2 c2]), (35, .int .i64 ((of2 + n2 : Nat) : Int)), (36, .agg #[.int .u32 (sr1 : Nat), .int .u32 (ds1 : Nat), .int .u8 (pr1 : Nat), .int .u8 (tt1 : Nat), .int .u16 (id1 : Nat), .bool dn1, .bool false, .int .i64 (of1 : Nat), .slice a1 n1 c1]), (37, .int .i64 ((of1 + n1 : Nat) : Int)), (38, .bool false), (39, .bool false), (40, .bool false), (6, .bool false)] ?Z5 ?hZ5 (by kernel_rfl) (by kernel_rfl) (by kernel_rfl) (by kernel_rfl) ?h05 ?hops5 ?he5
        case hZ5 => simp only [List.foldl_cons, List.foldl_nil, List.setIfInBounds_toArray, List.set_cons_zero, List.set_cons_succ]; rfl
        case h05 => exact mk _ hW1
        case hops5 =>
          refine ⟨?_, ?_, ?_, ?_, ?_, ?_, ?_, ?_, ?_, ?_, ?_, ?_, ?_, ?_, ?_, ?_, ?_, ?_, ?_, ?_, ?_, ?_, ?_, trivial⟩
          · exact fix_val (by rfl) (fun W hW => by obtain ⟨x0, x1, x2, x3, x4, x5, x6, x7, x8, y0, y1, y2, y3, y4, y5, y6, y7, y8⟩ := HS.out W hW; go_simp; (try with_reducible rfl); (try omega))
          · exact fix_val (by rfl) (fun W hW => by obtain ⟨x0, x1, x2, x3, x4, x5, x6, x7, x8, y0, y1, y2, y3, y4, y5, y6, y7, y8⟩ := HS.out W hW; go_simp; (try with_reducible rfl); (try omega))
          · exact fix_val (by rfl) (fun W hW => by obtain ⟨x0, x1, x2, x3, x4, x5, x6, x7, x8, y0, y1, y2, y3, y4, y5, y6, y7, y8⟩ := HS.out W hW; go_simp; (try with_reducible rfl); (try omega))
          · exact fix_val (by rfl) (fun W hW => by obtain ⟨x0, x1, x2, x3, x4, x5, x6, x7, x8, y0, y1, y2, y3, y4, y5, y6, y7, y8⟩ := HS.out W hW; go_simp; (try with_reducible rfl); (try omega))
          · exact fix_val (by rfl) (fun W hW => by obtain ⟨x0, x1, x2, x3, x4, x5, x6, x7, x8, y0, y1, y2, y3, y4, y5, y6, y7, y8⟩ := HS.out W hW; go_simp; (try with_reducible rfl); (try omega))
          · exact fix_call (vs := [.agg #[.int .u32 (sr1 : Nat), .int .u32 (ds1 : Nat), .int .u8 (pr1 : Nat), .int .u8 (tt1 : Nat), .int .u16 (id1 : Nat), .bool dn1, .bool false, .int .i64 (of1 : Nat), .slice a1 n1 c1]]) (by rfl) rfl (by rfl) Try.func28 (by rfl) (by rfl) (fun W hW => by refine (hE W).mono ?_; rintro e W2 ⟨rfl, b2⟩; exact ⟨rfl, hW.trans (b2.mono hW.size)⟩)
          · exact fix_val (by rfl) (fun W hW => by obtain ⟨x0, x1, x2, x3, x4, x5, x6, x7, x8, y0, y1, y2, y3, y4, y5, y6, y7, y8⟩ := HS.out W hW; go_simp; (try with_reducible rfl); (try omega))
          · exact fix_call (vs := [.agg #[.int .u32 (sr2 : Nat), .int .u32 (ds2 : Nat), .int .u8 (pr2 : Nat), .int .u8 (tt2 : Nat), .int .u16 (id2 : Nat), .bool dn2, .bool false, .int .i64 (of2 : Nat), .slice a2 n2 c2]]) (by rfl) rfl (by rfl) Try.func28 (by rfl) (by rfl) (fun W hW => by refine (hF W).mono ?_; rintro e W2 ⟨rfl, b2⟩; exact ⟨rfl, hW.trans (b2.mono hW.size)⟩)
          · exact fix_val (by rfl) (fun W hW => by obtain ⟨x0, x1, x2, x3, x4, x5, x6, x7, x8, y0, y1, y2, y3, y4, y5, y6, y7, y8⟩ := HS.out W hW; go_simp; (try with_reducible rfl); (try omega))
          · exact fix_val (by rfl) (fun W hW => by obtain ⟨x0, x1, x2, x3, x4, x5, x6, x7, x8, y0, y1, y2, y3, y4, y5, y6, y7, y8⟩ := HS.out W hW; go_simp; (try with_reducible rfl); (try omega))
          · exact fix_val (by rfl) (fun W hW => by obtain ⟨x0, x1, x2, x3, x4, x5, x6, x7, x8, y0, y1, y2, y3, y4, y5, y6, y7, y8⟩ := HS.out W hW; go_simp; (try with_reducible rfl); (try omega))
          · exact fix_val (by rfl) (fun W hW => by obtain ⟨x0, x1, x2, x3, x4, x5, x6, x7, x8, y0, y1, y2, y3, y4, y5, y6, y7, y8⟩ := HS.out W hW; go_simp; (try with_reducible rfl); (try omega))
          · exact fix_val (by rfl) (fun W hW => by obtain ⟨x0, x1, x2, x3, x4, x5, x6, x7, x8, y0, y1, y2, y3, y4, y5, y6, y7, y8⟩ := HS.out W hW; go_simp; (try with_reducible rfl); (try omega))
          · exact fix_val (by rfl) (fun W hW => by obtain ⟨x0, x1, x2, x3, x4, x5, x6, x7, x8, y0, y1, y2, y3, y4, y5, y6, y7, y8⟩ := HS.out W hW; go_simp; (try with_reducible rfl); (try omega))
          · exact fix_val (by rfl) (fun W hW => by obtain ⟨x0, x1, x2, x3, x4, x5, x6, x7, x8, y0, y1, y2, y3, y4, y5, y6, y7, y8⟩ := HS.out W hW; go_simp; (try with_reducible rfl); (try omega))
          · exact fix_val (by rfl) (fun W hW => by obtain ⟨x0, x1, x2, x3, x4, x5, x6, x7, x8, y0, y1, y2, y3, y4, y5, y6, y7, y8⟩ := HS.out W hW; go_simp; (try with_reducible rfl); (try omega))
          · exact fix_call (vs := [.agg #[.int .u32 (sr2 : Nat), .int .u32 (ds2 : Nat), .int .u8 (pr2 : Nat), .int .u8 (tt2 : Nat), .int .u16 (id2 : Nat), .bool dn2, .bool false, .int .i64 (of2 : Nat), .slice a2 n2 c2]]) (by rfl) rfl (by rfl) Try.func28 (by rfl) (by rfl) (fun W hW => by refine (hF W).mono ?_; rintro e W2 ⟨rfl, b2⟩; exact ⟨rfl, hW.trans (b2.mono hW.size)⟩)
          · exact fix_val (by rfl) (fun W hW => by obtain ⟨x0, x1, x2, x3, x4, x5, x6, x7, x8, y0, y1, y2, y3, y4, y5, y6, y7, y8⟩ := HS.out W hW; go_simp; (try with_reducible rfl); (try omega))
          · exact fix_call (vs := [.agg #[.int .u32 (sr1 : Nat), .int .u32 (ds1 : Nat), .int .u8 (pr1 : Nat), .int .u8 (tt1 : Nat), .int .u16 (id1 : Nat), .bool dn1, .bool false, .int .i64 (of1 : Nat), .slice a1 n1 c1]]) (by rfl) rfl (by rfl) Try.func28 (by rfl) (by rfl) (fun W hW => by refine (hE W).mono ?_; rintro e W2 ⟨rfl, b2⟩; exact ⟨rfl, hW.trans (b2.mono hW.size)⟩)
          · exact fix_val (by rfl) (fun W hW => by obtain ⟨x0, x1, x2, x3, x4, x5, x6, x7, x8, y0, y1, y2, y3, y4, y5, y6, y7, y8⟩ := HS.out W hW; go_simp; (try with_reducible rfl); (try omega))
          · exact fix_val (by rfl) (fun W hW => by obtain ⟨x0, x1, x2, x3, x4, x5, x6, x7, x8, y0, y1, y2, y3, y4, y5, y6, y7, y8⟩ := HS.out W hW; go_simp; (try with_reducible rfl); (try omega))
          · exact fix_val (by rfl) (fun W hW => by obtain ⟨x0, x1, x2, x3, x4, x5, x6, x7, x8, y0, y1, y2, y3, y4, y5, y6, y7, y8⟩ := HS.out W hW; go_simp; (try with_reducible rfl); (try omega))
          · exact fix_val (by rfl) (fun W hW => by obtain ⟨x0, x1, x2, x3, x4, x5, x6, x7, x8, y0, y1, y2, y3, y4, y5, y6, y7, y8⟩ := HS.out W hW; go_simp; (try with_reducible rfl); (try omega))
        case he5 =>
        intro W2 hW2
        have HBL := (show Hid _ from HB0.out _ hW2)
        go_wp2
        go_ret
        exact ⟨rfl, HBL.out⟩
  · have hm1 : ¬ ((of1 : Nat) : Int) < ((of2 + n2 : Nat) : Int) := by omega
    refine wp_region_fixW mixedX (fun W => Below w0.heap.size w0 W) [(7, .pointer (some ⟨w.heap.size, 7, none⟩)), (8, .int .i64 (of1 : Nat)), (9, .agg #[.int .u32 (sr2 : Nat), .int .u32 (ds2 : Nat), .int .u8 (pr2 : Nat), .int .u8 (tt2 : Nat), .int .u16 (id2 : Nat), .bool dn2, .bool mo2, .int .i64 (of2 : Nat), .slice a2 n2 c2]), (10, .int .i64 ((of2 + n2 : Nat) : Int)), (11, .bool false), (12, .bool false), (13, undef), (14, undef), (15, undef), (16, undef), (17, undef), (18, .bool false), (5, .bool false)] ?Z6 ?hZ6 (by kernel_rfl) (by kernel_rfl) (by kernel_rfl) (by kernel_rfl) ?h06 ?hops6 ?he6
    case hZ6 => simp only [List.foldl_cons, List.foldl_nil, List.setIfInBounds_toArray, List.set_cons_zero, List.set_cons_succ]; rfl
    case h06 => exact (Below.refl _ _).drew
    case hops6 =>
      refine ⟨?_, ?_, ?_, ?_, ?_, ?_, ?_, ?_, ?_, ?_, ?_, ?_, ?_, trivial⟩
      · exact fix_val (by rfl) (fun W hW => by obtain ⟨x0, x1, x2, x3, x4, x5, x6, x7, x8, y0, y1, y2, y3, y4, y5, y6, y7, y8⟩ := HS.out W hW; go_simp; (try with_reducible rfl); (try omega))
      · exact fix_val (by rfl) (fun W hW => by obtain ⟨x0, x1, x2, x3, x4, x5, x6, x7, x8, y0, y1, y2, y3, y4, y5, y6, y7, y8⟩ := HS.out W hW; go_simp; (try with_reducible rfl); (try omega))
      · exact fix_val (by rfl) (fun W hW => by obtain ⟨x0, x1, x2, x3, x4, x5, x6, x7, x8, y0, y1, y2, y3, y4, y5, y6, y7, y8⟩ := HS.out W hW; go_simp; (try with_reducible rfl); (try omega))
      · exact fix_call (vs := [.agg #[.int .u32 (sr2 : Nat), .int .u32 (ds2 : Nat), .int .u8 (pr2 : Nat), .int .u8 (tt2 : Nat), .int .u16 (id2 : Nat), .bool dn2, .bool mo2, .int .i64 (of2 : Nat), .slice a2 n2 c2]]) (by rfl) rfl (by rfl) Try.func28 (by rfl) (by rfl) (fun W hW => by refine (hF W).mono ?_; rintro e W2 ⟨rfl, b2⟩; exact ⟨rfl, hW.trans (b2.mono hW.size)⟩)
      · exact fix_val (by rfl) (fun W hW => by obtain ⟨x0, x1, x2, x3, x4, x5, x6, x7, x8, y0, y1, y2, y3, y4, y5, y6, y7, y8⟩ := HS.out W hW; go_simp; (try with_reducible rfl); (try omega))
      · exact fix_val (by rfl) (fun W hW => by obtain ⟨x0, x1, x2, x3, x4, x5, x6, x7, x8, y0, y1, y2, y3, y4, y5, y6, y7, y8⟩ := HS.out W hW; go_simp; (try with_reducible rfl); (try omega))
      · exact fix_off (by rfl) (fun d hd => by cases hd; rfl)
      · exact fix_off (by rfl) (fun d hd => by cases hd; rfl)
      · exact fix_off (by rfl) (fun d hd => by cases hd; rfl)
      · exact fix_off (by rfl) (fun d hd => by cases hd; rfl)
      · exact fix_off (by rfl) (fun d hd => by cases hd; rfl)
      · exact fix_val (by rfl) (fun W hW => by obtain ⟨x0, x1, x2, x3, x4, x5, x6, x7, x8, y0, y1, y2, y3, y4, y5, y6, y7, y8⟩ := HS.out W hW; go_simp; (try with_reducible rfl); (try omega))
      · exact fix_val (by rfl) (fun W hW => by obtain ⟨x0, x1, x2, x3, x4, x5, x6, x7, x8, y0, y1, y2, y3, y4, y5, y6, y7, y8⟩ := HS.out W hW; go_simp; (try with_reducible rfl); (try omega))
    case he6 =>
    intro W1 hW1
    clear hm1
    go_wp2_with fail
    cases mo1 with
    | true =>
      cases mo2 with
      | true =>
        refine wp_region_fixW mixedX (fun W => Below w0.heap.size w0 W) [(19, .pointer (some ⟨w.heap.size + 1, 6, none⟩)), (20, .bool true), (21, .bool false), (22, .bool false), (23, undef), (24, undef), (25, undef), (26, undef), (27, undef), (28, .bool false), (29, .bool false), (30, .pointer (some ⟨w.heap.size, 6, none⟩)), (31, .bool true), (32, .bool false), (33, .bool false), (34, undef), (35, undef), (36, undef), (37, undef), (38, undef), (39, .bool false), (40, .bool false), (6, .bool false)] ?Z7 ?hZ7 (by kernel_rfl) (by kernel_rfl) (by kernel_rfl) (by kernel_rfl) ?h07 ?hops7 ?he7
        case hZ7 => simp only [List.foldl_cons, List.foldl_nil, List.setIfInBounds_toArray, List.set_cons_zero, List.set_cons_succ]; rfl
        case h07 => exact mk _ hW1
        case hops7 =>
          refine ⟨?_, ?_, ?_, ?_, ?_, ?_, ?_, ?_, ?_, ?_, ?_, ?_, ?_, ?_, ?_, ?_, ?_, ?_, ?_, ?_, ?_, ?_, ?_, trivial⟩
          · exact fix_val (by rfl) (fun W hW => by obtain ⟨x0, x1, x2, x3, x4, x5, x6, x7, x8, y0, y1, y2, y3, y4, y5, y6, y7, y8⟩ := HS.out W hW; go_simp; (try with_reducible rfl); (try omega))
          · exact fix_val (by rfl) (fun W hW => by obtain ⟨x0, x1, x2, x3, x4, x5, x6, x7, x8, y0, y1, y2, y3, y4, y5, y6, y7, y8⟩ := HS.out W hW; go_simp; (try with_reducible rfl); (try omega))
          · exact fix_val (by rfl) (fun W hW => by obtain ⟨x0, x1, x2, x3, x4, x5, x6, x7, x8, y0, y1, y2, y3, y4, y5, y6, y7, y8⟩ := HS.out W hW; go_simp; (try with_reducible rfl); (try omega))
          · exact fix_val (by rfl) (fun W hW => by obtain ⟨x0, x1, x2, x3, x4, x5, x6, x7, x8, y0, y1, y2, y3, y4, y5, y6, y7, y8⟩ := HS.out W hW; go_simp; (try with_reducible rfl); (try omega))
          · exact fix_off (by rfl) (fun d hd => by cases hd; rfl)
          · exact fix_off (by rfl) (fun d hd => by cases hd; rfl)
          · exact fix_off (by rfl) (fun d hd => by cases hd; rfl)
          · exact fix_off (by rfl) (fun d hd => by cases hd; rfl)
          · exact fix_off (by rfl) (fun d hd => by cases hd; rfl)
          · exact fix_val (by rfl) (fun W hW => by obtain ⟨x0, x1, x2, x3, x4, x5, x6, x7, x8, y0, y1, y2, y3, y4, y5, y6, y7, y8⟩ := HS.out W hW; go_simp; (try with_reducible rfl); (try omega))
          · exact fix_val (by rfl) (fun W hW => by obtain ⟨x0, x1, x2, x3, x4, x5, x6, x7, x8, y0, y1, y2, y3, y4, y5, y6, y7, y8⟩ := HS.out W hW; go_simp; (try with_reducible rfl); (try omega))
          · exact fix_val (by rfl) (fun W hW => by obtain ⟨x0, x1, x2, x3, x4, x5, x6, x7, x8, y0, y1, y2, y3, y4, y5, y6, y7, y8⟩ := HS.out W hW; go_simp; (try with_reducible rfl); (try omega))
          · exact fix_val (by rfl) (fun W hW => by obtain ⟨x0, x1, x2, x3, x4, x5, x6, x7, x8, y0, y1, y2, y3, y4, y5, y6, y7, y8⟩ := HS.out W hW; go_simp; (try with_reducible rfl); (try omega))
          · exact fix_val (by rfl) (fun W hW => by obtain ⟨x0, x1, x2, x3, x4, x5, x6, x7, x8, y0, y1, y2, y3, y4, y5, y6, y7, y8⟩ := HS.out W hW; go_simp; (try with_reducible rfl); (try omega))
          · exact fix_val (by rfl) (fun W hW => by obtain ⟨x0, x1, x2, x3, x4, x5, x6, x7, x8, y0, y1, y2, y3, y4, y5, y6, y7, y8⟩ := HS.out W hW; go_simp; (try with_reducible rfl); (try omega))
          · exact fix_off (by rfl) (fun d hd => by cases hd; rfl)
          · exact fix_off (by rfl) (fun d hd => by cases hd; rfl)
          · exact fix_off (by rfl) (fun d hd => by cases hd; rfl)
          · exact fix_off (by rfl) (fun d hd => by cases hd; rfl)
          · exact fix_off (by rfl) (fun d hd => by cases hd; rfl)
          · exact fix_val (by rfl) (fun W hW => by obtain ⟨x0, x1, x2, x3, x4, x5, x6, x7, x8, y0, y1, y2, y3, y4, y5, y6, y7, y8⟩ := HS.out W hW; go_simp; (try with_reducible rfl); (try omega))
          · exact fix_val (by rfl) (fun W hW => by obtain ⟨x0, x1, x2, x3, x4, x5, x6, x7, x8, y0, y1, y2, y3, y4, y5, y6, y7, y8⟩ := HS.out W hW; go_simp; (try with_reducible rfl); (try omega))
          · exact fix_val (by rfl) (fun W hW => by obtain ⟨x0, x1, x2, x3, x4, x5, x6, x7, x8, y0, y1, y2, y3, y4, y5, y6, y7, y8⟩ := HS.out W hW; go_simp; (try with_reducible rfl); (try omega))
        case he7 =>
        intro W2 hW2
        have HBL := (show Hid _ from HB0.out _ hW2)
        go_wp2
        go_ret
        exact ⟨rfl, HBL.out⟩
      | false =>
        have hg2 : ¬ ((of2 + n2 : Nat) : Int) < ((of1 + n1 : Nat) : Int) := by simp at hc2; omega
        refine wp_region_fixW mixedX (fun W => Below w0.heap.size w0 W) [(19, .pointer (some ⟨w.heap.size + 1, 6, none⟩)), (20, .bool false), (21, .bool true), (22, .bool true), (23, .agg #[.int .u32 (sr1 : Nat), .int .u32 (ds1 : Nat), .int .u8 (pr1 : Nat), .int .u8 (tt1 : Nat), .int .u16 (id1 : Nat), .bool dn1, .bool true, .int .i64 (of1 : Nat), .slice a1 n1 c1]), (24, .int .i64 ((of1 + n1 : Nat) : Int)), (25, .agg #[.int .u32 (sr2 : Nat), .int .u32 (ds2 : Nat), .int .u8 (pr2 : Nat), .int .u8 (tt2 : Nat), .int .u16 (id2 : Nat), .bool dn2, .bool false, .int .i64 (of2 : Nat), .slice a2 n2 c2]), (26, .int .i64 ((of2 + n2 : Nat) : Int)), (27, .bool false), (28, .bool false), (29, .bool false), (30, .pointer (some ⟨w.heap.size, 6, none⟩)), (31, .bool true), (32, .bool false), (33, .bool false), (34, undef), (35, undef), (36, undef), (37, undef), (38, undef), (39, .bool false), (40, .bool false), (6, .bool false)] ?Z8 ?hZ8 (by kernel_rfl) (by kernel_rfl) (by kernel_rfl) (by kernel_rfl) ?h08 ?hops8 ?he8
        case hZ8 => simp only [List.foldl_cons, List.foldl_nil, List.setIfInBounds_toArray, List.set_cons_zero, List.set_cons_succ]; rfl
        case h08 => exact mk _ hW1
        case hops8 =>
          refine ⟨?_, ?_, ?_, ?_, ?_, ?_, ?_, ?_, ?_, ?_, ?_, ?_, ?_, ?_, ?_, ?_, ?_, ?_, ?_, ?_, ?_, ?_, ?_, trivial⟩
          · exact fix_val (by rfl) (fun W hW => by obtain ⟨x0, x1, x2, x3, x4, x5, x6, x7, x8, y0, y1, y2, y3, y4, y5, y6, y7, y8⟩ := HS.out W hW; go_simp; (try with_reducible rfl); (try omega))
          · exact fix_val (by rfl) (fun W hW => by obtain ⟨x0, x1, x2, x3, x4, x5, x6, x7, x8, y0, y1, y2, y3, y4, y5, y6, y7, y8⟩ := HS.out W hW; go_simp; (try with_reducible rfl); (try omega))
          · exact fix_val (by rfl) (fun W hW => by obtain ⟨x0, x1, x2, x3, x4, x5, x6, x7, x8, y0, y1, y2, y3, y4, y5, y6, y7, y8⟩ := HS.out W hW; go_simp; (try with_reducible rfl); (try omega))
          · exact fix_val (by rfl) (fun W hW => by obtain ⟨x0, x1, x2, x3, x4, x5, x6, x7, x8, y0, y1, y2, y3, y4, y5, y6, y7, y8⟩ := HS.out W hW; go_simp; (try with_reducible rfl); (try omega))
          · exact fix_val (by rfl) (fun W hW => by obtain ⟨x0, x1, x2, x3, x4, x5, x6, x7, x8, y0, y1, y2, y3, y4, y5, y6, y7, y8⟩ := HS.out W hW; go_simp; (try with_reducible rfl); (try omega))
          · exact fix_call (vs := [.agg #[.int .u32 (sr1 : Nat), .int .u32 (ds1 : Nat), .int .u8 (pr1 : Nat), .int .u8 (tt1 : Nat), .int .u16 (id1 : Nat), .bool dn1, .bool true, .int .i64 (of1 : Nat), .slice a1 n1 c1]]) (by rfl) rfl (by rfl) Try.func28 (by rfl) (by rfl) (fun W hW => by refine (hE W).mono ?_; rintro e W2 ⟨rfl, b2⟩; exact ⟨rfl, hW.trans (b2.mono hW.size)⟩)
          · exact fix_val (by rfl) (fun W hW => by obtain ⟨x0, x1, x2, x3, x4, x5, x6, x7, x8, y0, y1, y2, y3, y4, y5, y6, y7, y8⟩ := HS.out W hW; go_simp; (try with_reducible rfl); (try omega))
          · exact fix_call (vs := [.agg #[.int .u32 (sr2 : Nat), .int .u32 (ds2 : Nat), .int .u8 (pr2 : Nat), .int .u8 (tt2 : Nat), .int .u16 (id2 : Nat), .bool dn2, .bool false, .int .i64 (of2 : Nat), .slice a2 n2 c2]]) (by rfl) rfl (by rfl) Try.func28 (by rfl) (by rfl) (fun W hW => by refine (hF W).mono ?_; rintro e W2 ⟨rfl, b2⟩; exact ⟨rfl, hW.trans (b2.mono hW.size)⟩)
          · exact fix_val (by rfl) (fun W hW => by obtain ⟨x0, x1, x2, x3, x4, x5, x6, x7, x8, y0, y1, y2, y3, y4, y5, y6, y7, y8⟩ := HS.out W hW; go_simp; (try with_reducible rfl); (try omega))
          · exact fix_val (by rfl) (fun W hW => by obtain ⟨x0, x1, x2, x3, x4, x5, x6, x7, x8, y0, y1, y2, y3, y4, y5, y6, y7, y8⟩ := HS.out W hW; go_simp; (try with_reducible rfl); (try omega))
          · exact fix_val (by rfl) (fun W hW => by obtain ⟨x0, x1, x2, x3, x4, x5, x6, x7, x8, y0, y1, y2, y3, y4, y5, y6, y7, y8⟩ := HS.out W hW; go_simp; (try with_reducible rfl); (try omega))
          · exact fix_val (by rfl) (fun W hW => by obtain ⟨x0, x1, x2, x3, x4, x5, x6, x7, x8, y0, y1, y2, y3, y4, y5, y6, y7, y8⟩ := HS.out W hW; go_simp; (try with_reducible rfl); (try omega))
          · exact fix_val (by rfl) (fun W hW => by obtain ⟨x0, x1, x2, x3, x4, x5, x6, x7, x8, y0, y1, y2, y3, y4, y5, y6, y7, y8⟩ := HS.out W hW; go_simp; (try with_reducible rfl); (try omega))
          · exact fix_val (by rfl) (fun W hW => by obtain ⟨x0, x1, x2, x3, x4, x5, x6, x7, x8, y0, y1, y2, y3, y4, y5, y6, y7, y8⟩ := HS.out W hW; go_simp; (try with_reducible rfl); (try omega))
          · exact fix_val (by rfl) (fun W hW => by obtain ⟨x0, x1, x2, x3, x4, x5, x6, x7, x8, y0, y1, y2, y3, y4, y5, y6, y7, y8⟩ := HS.out W hW; go_simp; (try with_reducible rfl); (try omega))
          · exact fix_off (by rfl) (fun d hd => by cases hd; rfl)
          · exact fix_off (by rfl) (fun d hd => by cases hd; rfl)
          · exact fix_off (by rfl) (fun d hd => by cases hd; rfl)
          · exact fix_off (by rfl) (fun d hd => by cases hd; rfl)
          · exact fix_off (by rfl) (fun d hd => by cases hd; rfl)
          · exact fix_val (by rfl) (fun W hW => by obtain ⟨x0, x1, x2, x3, x4, x5, x6, x7, x8, y0, y1, y2, y3, y4, y5, y6, y7, y8⟩ := HS.out W hW; go_simp; (try with_reducible rfl); (try omega))
          · exact fix_val (by rfl) (fun W hW => by obtain ⟨x0, x1, x2, x3, x4, x5, x6, x7, x8, y0, y1, y2, y3, y4, y5, y6, y7, y8⟩ := HS.out W hW; go_simp; (try with_reducible rfl); (try omega))
          · exact fix_val (by rfl) (fun W hW => by obtain ⟨x0, x1, x2, x3, x4, x5, x6, x7, x8, y0, y1, y2, y3, y4, y5, y6, y7, y8⟩ := HS.out W hW; go_simp; (try with_reducible rfl); (try omega))
        case he8 =>
        intro W2 hW2
        have HBL := (show Hid _ from HB0.out _ hW2)
        go_wp2
        go_ret
        exact ⟨rfl, HBL.out⟩
    | false =>
      cases mo2 with
      | true =>
        have hg1 : ¬ ((of1 + n1 : Nat) : Int) < ((of2 + n2 : Nat) : Int) := by simp at hc3; omega
        refine wp_region_fixW mixedX (fun W => Below w0.heap.size w0 W) [(19, .pointer (some ⟨w.heap.size + 1, 6, none⟩)), (20, .bool true), (21, .bool false), (22, .bool false), (23, undef), (24, undef), (25, undef), (26, undef), (27, undef), (28, .bool false), (29, .bool false), (30, .pointer (some ⟨w.heap.size, 6, none⟩)), (31, .bool false), (32, .bool true), (33, .bool true), (34, .agg #[.int .u32 (sr2 : Nat), .int .u32 (ds2 : Nat), .int .u8 (pr2 : Nat), .int .u8 (tt2 : Nat), .int .u16 (id2 : Nat), .bool dn2, .bool true, .int .i64 (of2 : Nat), .slice a2 n2 c2]), (35, .int .i64 ((of2 + n2 : Nat) : Int)), (36, .agg #[.int .u32 (sr1 : Nat), .int .u32 (ds1 : Nat), .int .u8 (pr1 : Nat), .int .u8 (tt1 : Nat), .int .u16 (id1 : Nat), .bool dn1, .bool false, .int .i64 (of1 : Nat), .slice a1 n1 c1]), (37, .int .i64 ((of1 + n1 : Nat) : Int)), (38, .bool false), (39, .bool false), (40, .bool false), (6, .bool false)] ?Z9 ?hZ9 (by kernel_rfl) (by kernel_rfl) (by kernel_rfl) (by kernel_rfl) ?h09 ?hops9 ?he9
        case hZ9 => simp only [List.foldl_cons, List.foldl_nil, List.setIfInBounds_toArray, List.set_cons_zero, List.set_cons_succ]; rfl
        case h09 => exact mk _ hW1
        case hops9 =>
          refine ⟨?_, ?_, ?_, ?_, ?_, ?_, ?_, ?_, ?_, ?_, ?_, ?_, ?_, ?_, ?_, ?_, ?_, ?_, ?_, ?_, ?_, ?_, ?_, trivial⟩
          · exact fix_val (by rfl) (fun W hW => by obtain ⟨x0, x1, x2, x3, x4, x5, x6, x7, x8, y0, y1, y2, y3, y4, y5, y6, y7, y8⟩ := HS.out W hW; go_simp; (try with_reducible rfl); (try omega))
          · exact fix_val (by rfl) (fun W hW => by obtain ⟨x0, x1, x2, x3, x4, x5, x6, x7, x8, y0, y1, y2, y3, y4, y5, y6, y7, y8⟩ := HS.out W hW; go_simp; (try with_reducible rfl); (try omega))
          · exact fix_val (by rfl) (fun W hW => by obtain ⟨x0, x1, x2, x3, x4, x5, x6, x7, x8, y0, y1, y2, y3, y4, y5, y6, y7, y8⟩ := HS.out W hW; go_simp; (try with_reducible rfl); (try omega))
          · exact fix_val (by rfl) (fun W hW => by obtain ⟨x0, x1, x2, x3, x4, x5, x6, x7, x8, y0, y1, y2, y3, y4, y5, y6, y7, y8⟩ := HS.out W hW; go_simp; (try with_reducible rfl); (try omega))
          · exact fix_off (by rfl) (fun d hd => by cases hd; rfl)
          · exact fix_off (by rfl) (fun d hd => by cases hd; rfl)
          · exact fix_off (by rfl) (fun d hd => by cases hd; rfl)
          · exact fix_off (by rfl) (fun d hd => by cases hd; rfl)
          · exact fix_off (by rfl) (fun d hd => by cases hd; rfl)
          · exact fix_val (by rfl) (fun W hW => by obtain ⟨x0, x1, x2, x3, x4, x5, x6, x7, x8, y0, y1, y2, y3, y4, y5, y6, y7, y8⟩ := HS.out W hW; go_simp; (try with_reducible rfl); (try omega))
          · exact fix_val (by rfl) (fun W hW => by obtain ⟨x0, x1, x2, x3, x4, x5, x6, x7, x8, y0, y1, y2, y3, y4, y5, y6, y7, y8⟩ := HS.out W hW; go_simp; (try with_reducible rfl); (try omega))
          · exact fix_val (by rfl) (fun W hW => by obtain ⟨x0, x1, x2, x3, x4, x5, x6, x7, x8, y0, y1, y2, y3, y4, y5, y6, y7, y8⟩ := HS.out W hW; go_simp; (try with_reducible rfl); (try omega))
          · exact fix_val (by rfl) (fun W hW => by obtain ⟨x0, x1, x2, x3, x4, x5, x6, x7, x8, y0, y1, y2, y3, y4, y5, y6, y7, y8⟩ := HS.out W hW; go_simp; (try with_reducible rfl); (try omega))
          · exact fix_val (by rfl) (fun W hW => by obtain ⟨x0, x1, x2, x3, x4, x5, x6, x7, x8, y0, y1, y2, y3, y4, y5, y6, y7, y8⟩ := HS.out W hW; go_simp; (try with_reducible rfl); (try omega))
          · exact fix_val (by rfl) (fun W hW => by obtain ⟨x0, x1, x2, x3, x4, x5, x6, x7, x8, y0, y1, y2, y3, y4, y5, y6, y7, y8⟩ := HS.out W hW; go_simp; (try with_reducible rfl); (try omega))
          · exact fix_val (by rfl) (fun W hW => by obtain ⟨x0, x1, x2, x3, x4, x5, x6, x7, x8, y0, y1, y2, y3, y4, y5, y6, y7, y8⟩ := HS.out W hW; go_simp; (try with_reducible rfl); (try omega))
          · exact fix_call (vs := [.agg #[.int .u32 (sr2 : Nat), .int .u32 (ds2 : Nat), .int .u8 (pr2 : Nat), .int .u8 (tt2 : Nat), .int .u16 (id2 : Nat), .bool dn2, .bool true, .int .i64 (of2 : Nat), .slice a2 n2 c2]]) (by rfl) rfl (by rfl) Try.func28 (by rfl) (by rfl) (fun W hW => by refine (hF W).mono ?_; rintro e W2 ⟨rfl, b2⟩; exact ⟨rfl, hW.trans (b2.mono hW.size)⟩)
          · exact fix_val (by rfl) (fun W hW => by obtain ⟨x0, x1, x2, x3, x4, x5, x6, x7, x8, y0, y1, y2, y3, y4, y5, y6, y7, y8⟩ := HS.out W hW; go_simp; (try with_reducible rfl); (try omega))
          · exact fix_call (vs := [.agg #[.int .u32 (sr1 : Nat), .int .u32 (ds1 : Nat), .int .u8 (pr1 : Nat), .int .u8 (tt1 : Nat), .int .u16 (id1 : Nat), .bool dn1, .bool false, .int .i64 (of1 : Nat), .slice a1 n1 c1]]) (by rfl) rfl (by rfl) Try.func28 (by rfl) (by rfl) (fun W hW => by refine (hE W).mono ?_; rintro e W2 ⟨rfl, b2⟩; exact ⟨rfl, hW.trans (b2.mono hW.size)⟩)
          · exact fix_val (by rfl) (fun W hW => by obtain ⟨x0, x1, x2, x3, x4, x5, x6, x7, x8, y0, y1, y2, y3, y4, y5, y6, y7, y8⟩ := HS.out W hW; go_simp; (try with_reducible rfl); (try omega))
          · exact fix_val (by rfl) (fun W hW => by obtain ⟨x0, x1, x2, x3, x4, x5, x6, x7, x8, y0, y1, y2, y3, y4, y5, y6, y7, y8⟩ := HS.out W hW; go_simp; (try with_reducible rfl); (try omega))
          · exact fix_val (by rfl) (fun W hW => by obtain ⟨x0, x1, x2, x3, x4, x5, x6, x7, x8, y0, y1, y2, y3, y4, y5, y6, y7, y8⟩ := HS.out W hW; go_simp; (try with_reducible rfl); (try omega))
          · exact fix_val (by rfl) (fun W hW => by obtain ⟨x0, x1, x2, x3, x4, x5, x6, x7, x8, y0, y1, y2, y3, y4, y5, y6, y7, y8⟩ := HS.out W hW; go_simp; (try with_reducible rfl); (try omega))
        case he9 =>
        intro W2 hW2
        have HBL := (show Hid _ from HB0.out _ hW2)
        go_wp2
        go_ret
        exact ⟨rfl, HBL.out⟩
      | false =>
        have hg2 : ¬ ((of2 + n2 : Nat) : Int) < ((of1 + n1 : Nat) : Int) := by simp at hc2; omega
        have hg1 : ¬ ((of1 + n1 : Nat) : Int) < ((of2 + n2 : Nat) : Int) := by simp at hc3; omega
        refine wp_region_fixW mixedX (fun W => Below w0.heap.size w0 W) [(19, .pointer (some ⟨w.heap.size + 1, 6, none⟩)), (20, .bool false), (21, .bool true), (22, .bool true), (23, .agg #[.int .u32 (sr1 : Nat), .int .u32 (ds1 : Nat), .int .u8 (pr1 : Nat), .int .u8 (tt1 : Nat), .int .u16 (id1 : Nat), .bool dn1, .bool false, .int .i64 (of1 : Nat), .slice a1 n1 c1]), (24, .int .i64 ((of1 + n1 : Nat) : Int)), (25, .agg #[.int .u32 (sr2 : Nat), .int .u32 (ds2 : Nat), .int .u8 (pr2 : Nat), .int .u8 (tt2 : Nat), .int .u16 (id2 : Nat), .bool dn2, .bool false, .int .i64 (of2 : Nat), .slice a2 n2 c2]), (26, .int .i64 ((of2 + n2 : Nat) : Int)), (27, .bool false), (28, .bool false), (29, .bool false), (30, .pointer (some ⟨w.heap.size, 6, none⟩)), (31, .bool false), (32, .bool true), (33, .bool true), (34, .agg #[.int .u32 (sr2 : Nat), .int .u32 (ds2 : Nat), .int .u8 (pr2 : Nat), .int .u8 (tt2 : Nat), .int .u16 (id2 : Nat), .bool dn2, .bool false, .int .i64 (of2 : Nat), .slice a2 n2 c2]), (35, .int .i64 ((of2 + n2 : Nat) : Int)), (36, .agg #[.int .u32 (sr1 : Nat), .int .u32 (ds1 : Nat), .int .u8 (pr1 : Nat), .int .u8 (tt1 : Nat), .int .u16 (id1 : Nat), .bool dn1, .bool false, .int .i64 (of1 : Nat), .slice a1 n1 c1]), (37, .int .i64 ((of1 + n1 : Nat) : Int)), (38, .bool false), (39, .bool false), (40, .bool false), (6, .bool false)] ?Z10 ?hZ10 (by kernel_rfl) (by kernel_rfl) (by kernel_rfl) (by kernel_rfl) ?h010 ?hops10 ?he10
        case hZ10 => simp only [List.foldl_cons, List.foldl_nil, List.setIfInBounds_toArray, List.set_cons_zero, List.set_cons_succ]; rfl
        case h010 => exact mk _ hW1
        case hops10 =>
          refine ⟨?_, ?_, ?_, ?_, ?_, ?_, ?_, ?_, ?_, ?_, ?_, ?_, ?_, ?_, ?_, ?_, ?_, ?_, ?_, ?_, ?_, ?_, ?_, trivial⟩
          · exact fix_val (by rfl) (fun W hW => by obtain ⟨x0, x1, x2, x3, x4, x5, x6, x7, x8, y0, y1, y2, y3, y4, y5, y6, y7, y8⟩ := HS.out W hW; go_simp; (try with_reducible rfl); (try omega))
          · exact fix_val (by rfl) (fun W hW => by obtain ⟨x0, x1, x2, x3, x4, x5, x6, x7, x8, y0, y1, y2, y3, y4, y5, y6, y7, y8⟩ := HS.out W hW; go_simp; (try with_reducible rfl); (try omega))
          · exact fix_val (by rfl) (fun W hW => by obtain ⟨x0, x1, x2, x3, x4, x5, x6, x7, x8, y0, y1, y2, y3, y4, y5, y6, y7, y8⟩ := HS.out W hW; go_simp; (try with_reducible rfl); (try omega))
          · exact fix_val (by rfl) (fun W hW => by obtain ⟨x0, x1, x2, x3, x4, x5, x6, x7, x8, y0, y1, y2, y3, y4, y5, y6, y7, y8⟩ := HS.out W hW; go_simp; (try with_reducible rfl); (try omega))
          · exact fix_val (by rfl) (fun W hW => by obtain ⟨x0, x1, x2, x3, x4, x5, x6, x7, x8, y0, y1, y2, y3, y4, y5, y6, y7, y8⟩ := HS.out W hW; go_simp; (try with_reducible rfl); (try omega))
          · exact fix_call (vs := [.agg #[.int .u32 (sr1 : Nat), .int .u32 (ds1 : Nat), .int .u8 (pr1 : Nat), .int .u8 (tt1 : Nat), .int .u16 (id1 : Nat), .bool dn1, .bool false, .int .i64 (of1 : Nat), .slice a1 n1 c1]]) (by rfl) rfl (by rfl) Try.func28 (by rfl) (by rfl) (fun W hW => by refine (hE W).mono ?_; rintro e W2 ⟨rfl, b2⟩; exact ⟨rfl, hW.trans (b2.mono hW.size)⟩)
          · exact fix_val (by rfl) (fun W hW => by obtain ⟨x0, x1, x2, x3, x4, x5, x6, x7, x8, y0, y1, y2, y3, y4, y5, y6, y7, y8⟩ := HS.out W hW; go_simp; (try with_reducible rfl); (try omega))
          · exact fix_call (vs := [.agg #[.int .u32 (sr2 : Nat), .int .u32 (ds2 : Nat), .int .u8 (pr2 : Nat), .int .u8 (tt2 : Nat), .int .u16 (id2 : Nat), .bool dn2, .bool false, .int .i64 (of2 : Nat), .slice a2 n2 c2]]) (by rfl) rfl (by rfl) Try.func28 (by rfl) (by rfl) (fun W hW => by refine (hF W).mono ?_; rintro e W2 ⟨rfl, b2⟩; exact ⟨rfl, hW.trans (b2.mono hW.size)⟩)
          · exact fix_val (by rfl) (fun W hW => by obtain ⟨x0, x1, x2, x3, x4, x5, x6, x7, x8, y0, y1, y2, y3, y4, y5, y6, y7, y8⟩ := HS.out W hW; go_simp; (try with_reducible rfl); (try omega))
          · exact fix_val (by rfl) (fun W hW => by obtain ⟨x0, x1, x2, x3, x4, x5, x6, x7, x8, y0, y1, y2, y3, y4, y5, y6, y7, y8⟩ := HS.out W hW; go_simp; (try with_reducible rfl); (try omega))
          · exact fix_val (by rfl) (fun W hW => by obtain ⟨x0, x1, x2, x3, x4, x5, x6, x7, x8, y0, y1, y2, y3, y4, y5, y6, y7, y8⟩ := HS.out W hW; go_simp; (try with_reducible rfl); (try omega))
          · exact fix_val (by rfl) (fun W hW => by obtain ⟨x0, x1, x2, x3, x4, x5, x6, x7, x8, y0, y1, y2, y3, y4, y5, y6, y7, y8⟩ := HS.out W hW; go_simp; (try with_reducible rfl); (try omega))
          · exact fix_val (by rfl) (fun W hW => by obtain ⟨x0, x1, x2, x3, x4, x5, x6, x7, x8, y0, y1, y2, y3, y4, y5, y6, y7, y8⟩ := HS.out W hW; go_simp; (try with_reducible rfl); (try omega))
          · exact fix_val (by rfl) (fun W hW => by obtain ⟨x0, x1, x2, x3, x4, x5, x6, x7, x8, y0, y1, y2, y3, y4, y5, y6, y7, y8⟩ := HS.out W hW; go_simp; (try with_reducible rfl); (try omega))
          · exact fix_val (by rfl) (fun W hW => by obtain ⟨x0, x1, x2, x3, x4, x5, x6, x7, x8, y0, y1, y2, y3, y4, y5, y6, y7, y8⟩ := HS.out W hW; go_simp; (try with_reducible rfl); (try omega))
          · exact fix_val (by rfl) (fun W hW => by obtain ⟨x0, x1, x2, x3, x4, x5, x6, x7, x8, y0, y1, y2, y3, y4, y5, y6, y7, y8⟩ := HS.out W hW; go_simp; (try with_reducible rfl); (try omega))
          · exact fix_call (vs := [.agg #[.int .u32 (sr2 : Nat), .int .u32 (ds2 : Nat), .int .u8 (pr2 : Nat), .int .u8 (tt2 : Nat), .int .u16 (id2 : Nat), .bool dn2, .bool false, .int .i64 (of2 : Nat), .slice a2 n2 c2]]) (by rfl) rfl (by rfl) Try.func28 (by rfl) (by rfl) (fun W hW => by refine (hF W).mono ?_; rintro e W2 ⟨rfl, b2⟩; exact ⟨rfl, hW.trans (b2.mono hW.size)⟩)
          · exact fix_val (by rfl) (fun W hW => by obtain ⟨x0, x1, x2, x3, x4, x5, x6, x7, x8, y0, y1, y2, y3, y4, y5, y6, y7, y8⟩ := HS.out W hW; go_simp; (try with_reducible rfl); (try omega))
          · exact fix_call (vs := [.agg #[.int .u32 (sr1 : Nat), .int .u32 (ds1 : Nat), .int .u8 (pr1 : Nat), .int .u8 (tt1 : Nat), .int .u16 (id1 : Nat), .bool dn1, .bool false, .int .i64 (of1 : Nat), .slice a1 n1 c1]]) (by rfl) rfl (by rfl) Try.func28 (by rfl) (by rfl) (fun W hW => by refine (hE W).mono ?_; rintro e W2 ⟨rfl, b2⟩; exact ⟨rfl, hW.trans (b2.mono hW.size)⟩)
          · exact fix_val (by rfl) (fun W hW => by obtain ⟨x0, x1, x2, x3, x4, x5, x6, x7, x8, y0, y1, y2, y3, y4, y5, y6, y7, y8⟩ := HS.out W hW; go_simp; (try with_reducible rfl); (try omega))
          · exact fix_val (by rfl) (fun W hW => by obtain ⟨x0, x1, x2, x3, x4, x5, x6, x7, x8, y0, y1, y2, y3, y4, y5, y6, y7, y8⟩ := HS.out W hW; go_simp; (try with_reducible rfl); (try omega))
          · exact fix_val (by rfl) (fun W hW => by obtain ⟨x0, x1, x2, x3, x4, x5, x6, x7, x8, y0, y1, y2, y3, y4, y5, y6, y7, y8⟩ := HS.out W hW; go_simp; (try with_reducible rfl); (try omega))
          · exact fix_val (by rfl) (fun W hW => by obtain ⟨x0, x1, x2, x3, x4, x5, x6, x7, x8, y0, y1, y2, y3, y4, y5, y6, y7, y8⟩ := HS.out W hW; go_simp; (try with_reducible rfl); (try omega))
        case he10 =>
        intro W2 hW2
        have HBL := (show Hid _ from HB0.out _ hW2)
        go_wp2
        go_ret
        exact ⟨rfl, HBL.out⟩
end Go.Proofs.Ytnbagloifbllbaa
