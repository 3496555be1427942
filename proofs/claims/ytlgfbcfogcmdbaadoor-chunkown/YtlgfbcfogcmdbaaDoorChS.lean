/- What chunk.Size answers. -/
import Derived.Test.YtlgfbcfogcmdbaaDoorChK
namespace Go.Proofs.YtlgfbcfogcmdbaaDoor
open Go.RowKit
set_option linter.unusedVariables false in
set_option maxRecDepth 100000 in
set_option maxHeartbeats 1000000 in
theorem sizeC_bad (c0 c1 c2 c3 c4 c5 c6 c7 c8 c9 c10 c11 c12 c13 : Value) (E : Int) (w : World) (hE : ¬ E = 0)
    (hk : ∀ W v, v = .agg #[c0, c1, c2, c3, c4, c5, c6, c7, c8, c9, c10, c11, c12, c13] → Below w.heap.size w W → Calls Tryd.prog 24 #[v] W fun e w' => e = .returned (.int .i64 E) ∧ Below W.heap.size W w') :
    Calls Tryd.prog 16 #[.agg #[c0, c1, c2, c3, c4, c5, c6, c7, c8, c9, c10, c11, c12, c13]] w fun e w' => e = .returned (.int .i64 0) ∧ Below w.heap.size w w' := by
  have HS : Hid (∀ W, Below (w.alloc (.cells #[c0, c1, c2, c3, c4, c5, c6, c7, c8, c9, c10, c11, c12, c13] 32)).heap.size (w.alloc (.cells #[c0, c1, c2, c3, c4, c5, c6, c7, c8, c9, c10, c11, c12, c13] 32)) W → W.cell? ⟨w.heap.size, 0, none⟩ = some c0 ∧ W.cell? ⟨w.heap.size, 1, none⟩ = some c1 ∧ W.cell? ⟨w.heap.size, 2, none⟩ = some c2 ∧ W.cell? ⟨w.heap.size, 3, none⟩ = some c3 ∧ W.cell? ⟨w.heap.size, 4, none⟩ = some c4 ∧ W.cell? ⟨w.heap.size, 5, none⟩ = some c5 ∧ W.cell? ⟨w.heap.size, 6, none⟩ = some c6 ∧ W.cell? ⟨w.heap.size, 7, none⟩ = some c7 ∧ W.cell? ⟨w.heap.size, 8, none⟩ = some c8 ∧ W.cell? ⟨w.heap.size, 9, none⟩ = some c9 ∧ W.cell? ⟨w.heap.size, 10, none⟩ = some c10 ∧ W.cell? ⟨w.heap.size, 11, none⟩ = some c11 ∧ W.cell? ⟨w.heap.size, 12, none⟩ = some c12 ∧ W.cell? ⟨w.heap.size, 13, none⟩ = some c13) := by
    show ∀ _, _
    intro W hW
    have hst := (Stc.new w [c0, c1, c2, c3, c4, c5, c6, c7, c8, c9, c10, c11, c12, c13] 32 _ rfl).below hW
    exact ⟨hst.cell 0 _ rfl, hst.cell 1 _ rfl, hst.cell 2 _ rfl, hst.cell 3 _ rfl, hst.cell 4 _ rfl, hst.cell 5 _ rfl, hst.cell 6 _ rfl, hst.cell 7 _ rfl, hst.cell 8 _ rfl, hst.cell 9 _ rfl, hst.cell 10 _ rfl, hst.cell 11 _ rfl, hst.cell 12 _ rfl, hst.cell 13 _ rfl⟩
  go_enter Tryd.func16, Tryd.ntmps16
  go_wp2_with fail
  refine (hk _ _ rfl (by first | exact (Below.refl _ _).alloc (Nat.le_refl _) _ | exact ((Below.refl _ _).alloc (Nat.le_refl _) _).drew)).mono ?_
  rintro e w1 ⟨rfl, hb1⟩
  have HB0 : Hid (∀ W, Below (w.alloc (.cells #[c0, c1, c2, c3, c4, c5, c6, c7, c8, c9, c10, c11, c12, c13] 32)).heap.size (w.alloc (.cells #[c0, c1, c2, c3, c4, c5, c6, c7, c8, c9, c10, c11, c12, c13] 32)) W → Below w.heap.size w W) := fun W hW => ((Below.refl _ _).alloc (Nat.le_refl _) _).trans (hW.mono (by simp))
  generalize hw0 : w.alloc (.cells #[c0, c1, c2, c3, c4, c5, c6, c7, c8, c9, c10, c11, c12, c13] 32) = w0 at *
  clear hk hw0
  have HBL := (show Hid _ from HB0.out _ hb1)
  clear HB0 HS hb1
  go_wp2
  go_ret
  exact ⟨rfl, HBL.out⟩
set_option linter.unusedVariables false in
set_option maxRecDepth 100000 in
set_option maxHeartbeats 1000000 in
theorem sizeC_ok (c0 c1 c2 c3 c4 c5 c6 c7 c8 c9 c10 c11 c12 c13 V : Value) (n : Nat) (w : World)
    (hk : ∀ W v, v = .agg #[c0, c1, c2, c3, c4, c5, c6, c7, c8, c9, c10, c11, c12, c13] → Below w.heap.size w W → Calls Tryd.prog 24 #[v] W fun e w' => e = .returned (.int .i64 0) ∧ Below W.heap.size W w')
    (hv : ∀ W v, v = .agg #[c0, c1, c2, c3, c4, c5, c6, c7, c8, c9, c10, c11, c12, c13] → Calls Tryd.prog 26 #[v] W fun e w' => e = .returned V ∧ Below W.heap.size W w')
    (hp : ∀ W v, v = V → Below w.heap.size w W → Calls Tryd.prog 25 #[v] W fun e w' => e = .returned (.int .i64 (n : Nat)) ∧ Below W.heap.size W w') :
    Calls Tryd.prog 16 #[.agg #[c0, c1, c2, c3, c4, c5, c6, c7, c8, c9, c10, c11, c12, c13]] w fun e w' => e = .returned (.int .i64 (n : Nat)) ∧ Below w.heap.size w w' := by
  have HS : Hid (∀ W, Below (w.alloc (.cells #[c0, c1, c2, c3, c4, c5, c6, c7, c8, c9, c10, c11, c12, c13] 32)).heap.size (w.alloc (.cells #[c0, c1, c2, c3, c4, c5, c6, c7, c8, c9, c10, c11, c12, c13] 32)) W → W.cell? ⟨w.heap.size, 0, none⟩ = some c0 ∧ W.cell? ⟨w.heap.size, 1, none⟩ = some c1 ∧ W.cell? ⟨w.heap.size, 2, none⟩ = some c2 ∧ W.cell? ⟨w.heap.size, 3, none⟩ = some c3 ∧ W.cell? ⟨w.heap.size, 4, none⟩ = some c4 ∧ W.cell? ⟨w.heap.size, 5, none⟩ = some c5 ∧ W.cell? ⟨w.heap.size, 6, none⟩ = some c6 ∧ W.cell? ⟨w.heap.size, 7, none⟩ = some c7 ∧ W.cell? ⟨w.heap.size, 8, none⟩ = some c8 ∧ W.cell? ⟨w.heap.size, 9, none⟩ = some c9 ∧ W.cell? ⟨w.heap.size, 10, none⟩ = some c10 ∧ W.cell? ⟨w.heap.size, 11, none⟩ = some c11 ∧ W.cell? ⟨w.heap.size, 12, none⟩ = some c12 ∧ W.cell? ⟨w.heap.size, 13, none⟩ = some c13) := by
    show ∀ _, _
    intro W hW
    have hst := (Stc.new w [c0, c1, c2, c3, c4, c5, c6, c7, c8, c9, c10, c11, c12, c13] 32 _ rfl).below hW
    exact ⟨hst.cell 0 _ rfl, hst.cell 1 _ rfl, hst.cell 2 _ rfl, hst.cell 3 _ rfl, hst.cell 4 _ rfl, hst.cell 5 _ rfl, hst.cell 6 _ rfl, hst.cell 7 _ rfl, hst.cell 8 _ rfl, hst.cell 9 _ rfl, hst.cell 10 _ rfl, hst.cell 11 _ rfl, hst.cell 12 _ rfl, hst.cell 13 _ rfl⟩
  go_enter Tryd.func16, Tryd.ntmps16
  go_wp2_with fail
  refine (hk _ _ rfl (by first | exact (Below.refl _ _).alloc (Nat.le_refl _) _ | exact ((Below.refl _ _).alloc (Nat.le_refl _) _).drew)).mono ?_
  rintro e w1 ⟨rfl, hb1⟩
  have HB0 : Hid (∀ W, Below (w.alloc (.cells #[c0, c1, c2, c3, c4, c5, c6, c7, c8, c9, c10, c11, c12, c13] 32)).heap.size (w.alloc (.cells #[c0, c1, c2, c3, c4, c5, c6, c7, c8, c9, c10, c11, c12, c13] 32)) W → Below w.heap.size w W) := fun W hW => ((Below.refl _ _).alloc (Nat.le_refl _) _).trans (hW.mono (by simp))
  generalize hw0 : w.alloc (.cells #[c0, c1, c2, c3, c4, c5, c6, c7, c8, c9, c10, c11, c12, c13] 32) = w0 at *
  clear hk hw0
  obtain ⟨s0, s1, s2, s3, s4, s5, s6, s7, s8, s9, s10, s11, s12, s13⟩ := HS.out _ hb1
  go_wp2_with fail
  refine (hv _ _ rfl).mono ?_
  rintro e w2 ⟨rfl, hb2⟩
  have hB := HB0.out _ (blw_next (blw_next hb1 (by first | exact Below.refl _ _ | exact (Below.refl _ _).drew)) hb2)
  clear hv hb1 hb2 HS HB0 s0 s1 s2 s3 s4 s5 s6 s7 s8 s9 s10 s11 s12 s13
  go_wp2_with fail
  refine (hp _ _ rfl (by first | exact hB | exact blw_next hB (Below.refl _ _).drew)).mono ?_
  rintro e w3 ⟨rfl, hb3⟩
  have HBL := (show Hid _ from blw_next (blw_next hB (by first | exact Below.refl _ _ | exact (Below.refl _ _).drew)) hb3)
  clear hp hb3 hB
  go_wp2
  go_ret
  exact ⟨rfl, HBL.out⟩
/-- Size's number. -/
def sizN (q l m : Bool) (n : Nat) : Nat := if chkN q l m n = 0 then n else 0
theorem chkN_zero (q l m : Bool) (n : Nat) (h : chkN q l m n = 0) : m = false := by
  cases m with
  | false => rfl
  | true => exfalso; revert h; unfold chkN; cases q <;> cases l <;> simp
set_option linter.unusedVariables false in
set_option maxRecDepth 100000 in
set_option maxHeartbeats 1000000 in
theorem sizeC_data (kind flags tsn stream ssn ppid tag room outs ins : Nat) (b1 : Option Addr) (b2 b3 : Nat) (d1 : Option Addr) (d2 d3 : Nat) (p1 : Option Addr) (p2 p3 : Nat) (x1 : Option Addr) (x2 x3 : Nat) (w : World) (hk : kind = 0) (hx : x2 ≤ 281474976710656) :
    Calls Tryd.prog 16 #[.agg #[.int .u8 (kind : Nat), .int .u8 (flags : Nat), .int .u32 (tsn : Nat), .int .u16 (stream : Nat), .int .u16 (ssn : Nat), .int .u32 (ppid : Nat), .int .u32 (tag : Nat), .int .u32 (room : Nat), .int .u16 (outs : Nat), .int .u16 (ins : Nat), .slice b1 b2 b3, .slice d1 d2 d3, .slice p1 p2 p3, .slice x1 x2 x3]] w fun e w' => e = .returned (.int .i64 (sizN (decide (tag = 0 ∧ room = 0 ∧ outs = 0 ∧ ins = 0 ∧ b2 = 0 ∧ d2 = 0 ∧ p2 = 0)) (decide (x2 = 0)) false (4 + (12 + x2) + padN (12 + x2)) : Nat)) ∧ Below w.heap.size w w' := by
  have hck := fun (W : World) (v : Value) (h : v = .agg #[.int .u8 (kind : Nat), .int .u8 (flags : Nat), .int .u32 (tsn : Nat), .int .u16 (stream : Nat), .int .u16 (ssn : Nat), .int .u32 (ppid : Nat), .int .u32 (tag : Nat), .int .u32 (room : Nat), .int .u16 (outs : Nat), .int .u16 (ins : Nat), .slice b1 b2 b3, .slice d1 d2 d3, .slice p1 p2 p3, .slice x1 x2 x3]) (hb : Below w.heap.size w W) => (show Calls Tryd.prog 24 #[v] W fun e w' => e = .returned (.int .i64 (chkN (decide (tag = 0 ∧ room = 0 ∧ outs = 0 ∧ ins = 0 ∧ b2 = 0 ∧ d2 = 0 ∧ p2 = 0)) (decide (x2 = 0)) false (4 + (12 + x2) + padN (12 + x2)))) ∧ Below W.heap.size W w' from h ▸ check_data kind flags tsn stream ssn ppid tag room outs ins b1 b2 b3 d1 d2 d3 p1 p2 p3 x1 x2 x3 W hk hx)
  by_cases hz : chkN (decide (tag = 0 ∧ room = 0 ∧ outs = 0 ∧ ins = 0 ∧ b2 = 0 ∧ d2 = 0 ∧ p2 = 0)) (decide (x2 = 0)) false (4 + (12 + x2) + padN (12 + x2)) = 0
  · have hM := chkN_zero _ _ _ _ hz
    have hv := fun (W : World) (v : Value) (h : v = .agg #[.int .u8 (kind : Nat), .int .u8 (flags : Nat), .int .u32 (tsn : Nat), .int .u16 (stream : Nat), .int .u16 (ssn : Nat), .int .u32 (ppid : Nat), .int .u32 (tag : Nat), .int .u32 (room : Nat), .int .u16 (outs : Nat), .int .u16 (ins : Nat), .slice b1 b2 b3, .slice d1 d2 d3, .slice p1 p2 p3, .slice x1 x2 x3]) => (show Calls Tryd.prog 26 #[v] W fun e w' => e = .returned (.iface 92 (.agg #[.int .u32 (tsn : Nat), .int .u16 (stream : Nat), .int .u16 (ssn : Nat), .int .u32 (ppid : Nat), .slice x1 x2 x3])) ∧ Below W.heap.size W w' from h ▸ valueOf_data kind flags tsn stream ssn ppid tag room outs ins b1 b2 b3 d1 d2 d3 p1 p2 p3 x1 x2 x3 W hk)
    have hp := fun (W : World) (v : Value) (h : v = .iface 92 (.agg #[.int .u32 (tsn : Nat), .int .u16 (stream : Nat), .int .u16 (ssn : Nat), .int .u32 (ppid : Nat), .slice x1 x2 x3])) (hb : Below w.heap.size w W) => space_data _ _ _ _ x1 x2 x3 W hx v h
    rw [hz] at hck
    rw [show sizN (decide (tag = 0 ∧ room = 0 ∧ outs = 0 ∧ ins = 0 ∧ b2 = 0 ∧ d2 = 0 ∧ p2 = 0)) (decide (x2 = 0)) false (4 + (12 + x2) + padN (12 + x2)) = 4 + (12 + x2) + padN (12 + x2) from if_pos hz]
    exact sizeC_ok _ _ _ _ _ _ _ _ _ _ _ _ _ _  _ _ w hck hv hp
  · rw [show sizN (decide (tag = 0 ∧ room = 0 ∧ outs = 0 ∧ ins = 0 ∧ b2 = 0 ∧ d2 = 0 ∧ p2 = 0)) (decide (x2 = 0)) false (4 + (12 + x2) + padN (12 + x2)) = 0 from if_neg hz]
    exact sizeC_bad _ _ _ _ _ _ _ _ _ _ _ _ _ _  _ w hz hck
set_option linter.unusedVariables false in
set_option maxRecDepth 100000 in
set_option maxHeartbeats 1000000 in
theorem sizeC_init (kind flags tsn stream ssn ppid tag room outs ins : Nat) (b1 : Option Addr) (b2 b3 : Nat) (d1 : Option Addr) (d2 d3 : Nat) (p1 : Option Addr) (p2 p3 : Nat) (x1 : Option Addr) (x2 x3 : Nat) (w : World) (hk : kind = 1 ∨ kind = 2) (ls : List Nat) (hps : Prs w p1 p2 p3 ls) :
    Calls Tryd.prog 16 #[.agg #[.int .u8 (kind : Nat), .int .u8 (flags : Nat), .int .u32 (tsn : Nat), .int .u16 (stream : Nat), .int .u16 (ssn : Nat), .int .u32 (ppid : Nat), .int .u32 (tag : Nat), .int .u32 (room : Nat), .int .u16 (outs : Nat), .int .u16 (ins : Nat), .slice b1 b2 b3, .slice d1 d2 d3, .slice p1 p2 p3, .slice x1 x2 x3]] w fun e w' => e = .returned (.int .i64 (sizN (decide (stream = 0 ∧ ssn = 0 ∧ ppid = 0 ∧ b2 = 0 ∧ d2 = 0 ∧ x2 = 0)) false (decide (16 < p2)) (4 + (16 + psz ls) + padN (16 + psz ls)) : Nat)) ∧ Below w.heap.size w w' := by
  have hck := fun (W : World) (v : Value) (h : v = .agg #[.int .u8 (kind : Nat), .int .u8 (flags : Nat), .int .u32 (tsn : Nat), .int .u16 (stream : Nat), .int .u16 (ssn : Nat), .int .u32 (ppid : Nat), .int .u32 (tag : Nat), .int .u32 (room : Nat), .int .u16 (outs : Nat), .int .u16 (ins : Nat), .slice b1 b2 b3, .slice d1 d2 d3, .slice p1 p2 p3, .slice x1 x2 x3]) (hb : Below w.heap.size w W) => (show Calls Tryd.prog 24 #[v] W fun e w' => e = .returned (.int .i64 (chkN (decide (stream = 0 ∧ ssn = 0 ∧ ppid = 0 ∧ b2 = 0 ∧ d2 = 0 ∧ x2 = 0)) false (decide (16 < p2)) (4 + (16 + psz ls) + padN (16 + psz ls)))) ∧ Below W.heap.size W w' from h ▸ check_init kind flags tsn stream ssn ppid tag room outs ins b1 b2 b3 d1 d2 d3 p1 p2 p3 x1 x2 x3 W hk ls (hps.below hb))
  by_cases hz : chkN (decide (stream = 0 ∧ ssn = 0 ∧ ppid = 0 ∧ b2 = 0 ∧ d2 = 0 ∧ x2 = 0)) false (decide (16 < p2)) (4 + (16 + psz ls) + padN (16 + psz ls)) = 0
  · have hM := chkN_zero _ _ _ _ hz
    have hv := fun (W : World) (v : Value) (h : v = .agg #[.int .u8 (kind : Nat), .int .u8 (flags : Nat), .int .u32 (tsn : Nat), .int .u16 (stream : Nat), .int .u16 (ssn : Nat), .int .u32 (ppid : Nat), .int .u32 (tag : Nat), .int .u32 (room : Nat), .int .u16 (outs : Nat), .int .u16 (ins : Nat), .slice b1 b2 b3, .slice d1 d2 d3, .slice p1 p2 p3, .slice x1 x2 x3]) => (show Calls Tryd.prog 26 #[v] W fun e w' => e = .returned (.iface 95 (.agg #[.int .u32 (tag : Nat), .int .u32 (room : Nat), .int .u16 (outs : Nat), .int .u16 (ins : Nat), .int .u32 (tsn : Nat), .slice p1 p2 p3])) ∧ Below W.heap.size W w' from h ▸ valueOf_init kind flags tsn stream ssn ppid tag room outs ins b1 b2 b3 d1 d2 d3 p1 p2 p3 x1 x2 x3 W hk)
    have hp := fun (W : World) (v : Value) (h : v = .iface 95 (.agg #[.int .u32 (tag : Nat), .int .u32 (room : Nat), .int .u16 (outs : Nat), .int .u16 (ins : Nat), .int .u32 (tsn : Nat), .slice p1 p2 p3])) (hb : Below w.heap.size w W) => space_init _ _ _ _ _ p1 p2 p3 ls W (hps.below hb) (by simpa using hM) v h
    rw [hz] at hck
    rw [show sizN (decide (stream = 0 ∧ ssn = 0 ∧ ppid = 0 ∧ b2 = 0 ∧ d2 = 0 ∧ x2 = 0)) false (decide (16 < p2)) (4 + (16 + psz ls) + padN (16 + psz ls)) = 4 + (16 + psz ls) + padN (16 + psz ls) from if_pos hz]
    exact sizeC_ok _ _ _ _ _ _ _ _ _ _ _ _ _ _  _ _ w hck hv hp
  · rw [show sizN (decide (stream = 0 ∧ ssn = 0 ∧ ppid = 0 ∧ b2 = 0 ∧ d2 = 0 ∧ x2 = 0)) false (decide (16 < p2)) (4 + (16 + psz ls) + padN (16 + psz ls)) = 0 from if_neg hz]
    exact sizeC_bad _ _ _ _ _ _ _ _ _ _ _ _ _ _  _ w hz hck
set_option linter.unusedVariables false in
set_option maxRecDepth 100000 in
set_option maxHeartbeats 1000000 in
theorem sizeC_sack (kind flags tsn stream ssn ppid tag room outs ins : Nat) (b1 : Option Addr) (b2 b3 : Nat) (d1 : Option Addr) (d2 d3 : Nat) (p1 : Option Addr) (p2 p3 : Nat) (x1 : Option Addr) (x2 x3 : Nat) (w : World) (hk : kind = 3) (hbl : b2 ≤ 281474976710656) (hdl : d2 ≤ 281474976710656) :
    Calls Tryd.prog 16 #[.agg #[.int .u8 (kind : Nat), .int .u8 (flags : Nat), .int .u32 (tsn : Nat), .int .u16 (stream : Nat), .int .u16 (ssn : Nat), .int .u32 (ppid : Nat), .int .u32 (tag : Nat), .int .u32 (room : Nat), .int .u16 (outs : Nat), .int .u16 (ins : Nat), .slice b1 b2 b3, .slice d1 d2 d3, .slice p1 p2 p3, .slice x1 x2 x3]] w fun e w' => e = .returned (.int .i64 (sizN (decide (stream = 0 ∧ ssn = 0 ∧ ppid = 0 ∧ tag = 0 ∧ outs = 0 ∧ ins = 0 ∧ p2 = 0 ∧ x2 = 0)) false (decide (16 < b2 ∨ 16 < d2)) (4 + (12 + 4 * b2 + 4 * d2) + padN (12 + 4 * b2 + 4 * d2)) : Nat)) ∧ Below w.heap.size w w' := by
  have hck := fun (W : World) (v : Value) (h : v = .agg #[.int .u8 (kind : Nat), .int .u8 (flags : Nat), .int .u32 (tsn : Nat), .int .u16 (stream : Nat), .int .u16 (ssn : Nat), .int .u32 (ppid : Nat), .int .u32 (tag : Nat), .int .u32 (room : Nat), .int .u16 (outs : Nat), .int .u16 (ins : Nat), .slice b1 b2 b3, .slice d1 d2 d3, .slice p1 p2 p3, .slice x1 x2 x3]) (hb : Below w.heap.size w W) => (show Calls Tryd.prog 24 #[v] W fun e w' => e = .returned (.int .i64 (chkN (decide (stream = 0 ∧ ssn = 0 ∧ ppid = 0 ∧ tag = 0 ∧ outs = 0 ∧ ins = 0 ∧ p2 = 0 ∧ x2 = 0)) false (decide (16 < b2 ∨ 16 < d2)) (4 + (12 + 4 * b2 + 4 * d2) + padN (12 + 4 * b2 + 4 * d2)))) ∧ Below W.heap.size W w' from h ▸ check_sack kind flags tsn stream ssn ppid tag room outs ins b1 b2 b3 d1 d2 d3 p1 p2 p3 x1 x2 x3 W hk hbl hdl)
  by_cases hz : chkN (decide (stream = 0 ∧ ssn = 0 ∧ ppid = 0 ∧ tag = 0 ∧ outs = 0 ∧ ins = 0 ∧ p2 = 0 ∧ x2 = 0)) false (decide (16 < b2 ∨ 16 < d2)) (4 + (12 + 4 * b2 + 4 * d2) + padN (12 + 4 * b2 + 4 * d2)) = 0
  · have hM := chkN_zero _ _ _ _ hz
    have hv := fun (W : World) (v : Value) (h : v = .agg #[.int .u8 (kind : Nat), .int .u8 (flags : Nat), .int .u32 (tsn : Nat), .int .u16 (stream : Nat), .int .u16 (ssn : Nat), .int .u32 (ppid : Nat), .int .u32 (tag : Nat), .int .u32 (room : Nat), .int .u16 (outs : Nat), .int .u16 (ins : Nat), .slice b1 b2 b3, .slice d1 d2 d3, .slice p1 p2 p3, .slice x1 x2 x3]) => (show Calls Tryd.prog 26 #[v] W fun e w' => e = .returned (.iface 97 (.agg #[.int .u32 (tsn : Nat), .int .u32 (room : Nat), .slice b1 b2 b3, .slice d1 d2 d3])) ∧ Below W.heap.size W w' from h ▸ valueOf_sack kind flags tsn stream ssn ppid tag room outs ins b1 b2 b3 d1 d2 d3 p1 p2 p3 x1 x2 x3 W hk)
    have hp := fun (W : World) (v : Value) (h : v = .iface 97 (.agg #[.int .u32 (tsn : Nat), .int .u32 (room : Nat), .slice b1 b2 b3, .slice d1 d2 d3])) (hb : Below w.heap.size w W) => space_sack _ _ b1 b2 b3 d1 d2 d3 W hbl hdl v h
    rw [hz] at hck
    rw [show sizN (decide (stream = 0 ∧ ssn = 0 ∧ ppid = 0 ∧ tag = 0 ∧ outs = 0 ∧ ins = 0 ∧ p2 = 0 ∧ x2 = 0)) false (decide (16 < b2 ∨ 16 < d2)) (4 + (12 + 4 * b2 + 4 * d2) + padN (12 + 4 * b2 + 4 * d2)) = 4 + (12 + 4 * b2 + 4 * d2) + padN (12 + 4 * b2 + 4 * d2) from if_pos hz]
    exact sizeC_ok _ _ _ _ _ _ _ _ _ _ _ _ _ _  _ _ w hck hv hp
  · rw [show sizN (decide (stream = 0 ∧ ssn = 0 ∧ ppid = 0 ∧ tag = 0 ∧ outs = 0 ∧ ins = 0 ∧ p2 = 0 ∧ x2 = 0)) false (decide (16 < b2 ∨ 16 < d2)) (4 + (12 + 4 * b2 + 4 * d2) + padN (12 + 4 * b2 + 4 * d2)) = 0 from if_neg hz]
    exact sizeC_bad _ _ _ _ _ _ _ _ _ _ _ _ _ _  _ w hz hck
set_option linter.unusedVariables false in
set_option maxRecDepth 100000 in
set_option maxHeartbeats 1000000 in
theorem sizeC_prms (kind flags tsn stream ssn ppid tag room outs ins : Nat) (b1 : Option Addr) (b2 b3 : Nat) (d1 : Option Addr) (d2 d3 : Nat) (p1 : Option Addr) (p2 p3 : Nat) (x1 : Option Addr) (x2 x3 : Nat) (w : World) (hk : kind = 4 ∨ kind = 5 ∨ kind = 6 ∨ kind = 9) (ls : List Nat) (hps : Prs w p1 p2 p3 ls) :
    Calls Tryd.prog 16 #[.agg #[.int .u8 (kind : Nat), .int .u8 (flags : Nat), .int .u32 (tsn : Nat), .int .u16 (stream : Nat), .int .u16 (ssn : Nat), .int .u32 (ppid : Nat), .int .u32 (tag : Nat), .int .u32 (room : Nat), .int .u16 (outs : Nat), .int .u16 (ins : Nat), .slice b1 b2 b3, .slice d1 d2 d3, .slice p1 p2 p3, .slice x1 x2 x3]] w fun e w' => e = .returned (.int .i64 (sizN (decide (tsn = 0 ∧ stream = 0 ∧ ssn = 0 ∧ ppid = 0 ∧ tag = 0 ∧ room = 0 ∧ outs = 0 ∧ ins = 0 ∧ b2 = 0 ∧ d2 = 0 ∧ x2 = 0)) false (decide (16 < p2)) (4 + (psz ls) + padN (psz ls)) : Nat)) ∧ Below w.heap.size w w' := by
  have hck := fun (W : World) (v : Value) (h : v = .agg #[.int .u8 (kind : Nat), .int .u8 (flags : Nat), .int .u32 (tsn : Nat), .int .u16 (stream : Nat), .int .u16 (ssn : Nat), .int .u32 (ppid : Nat), .int .u32 (tag : Nat), .int .u32 (room : Nat), .int .u16 (outs : Nat), .int .u16 (ins : Nat), .slice b1 b2 b3, .slice d1 d2 d3, .slice p1 p2 p3, .slice x1 x2 x3]) (hb : Below w.heap.size w W) => (show Calls Tryd.prog 24 #[v] W fun e w' => e = .returned (.int .i64 (chkN (decide (tsn = 0 ∧ stream = 0 ∧ ssn = 0 ∧ ppid = 0 ∧ tag = 0 ∧ room = 0 ∧ outs = 0 ∧ ins = 0 ∧ b2 = 0 ∧ d2 = 0 ∧ x2 = 0)) false (decide (16 < p2)) (4 + (psz ls) + padN (psz ls)))) ∧ Below W.heap.size W w' from h ▸ check_prms kind flags tsn stream ssn ppid tag room outs ins b1 b2 b3 d1 d2 d3 p1 p2 p3 x1 x2 x3 W hk ls (hps.below hb))
  by_cases hz : chkN (decide (tsn = 0 ∧ stream = 0 ∧ ssn = 0 ∧ ppid = 0 ∧ tag = 0 ∧ room = 0 ∧ outs = 0 ∧ ins = 0 ∧ b2 = 0 ∧ d2 = 0 ∧ x2 = 0)) false (decide (16 < p2)) (4 + (psz ls) + padN (psz ls)) = 0
  · have hM := chkN_zero _ _ _ _ hz
    have hv := fun (W : World) (v : Value) (h : v = .agg #[.int .u8 (kind : Nat), .int .u8 (flags : Nat), .int .u32 (tsn : Nat), .int .u16 (stream : Nat), .int .u16 (ssn : Nat), .int .u32 (ppid : Nat), .int .u32 (tag : Nat), .int .u32 (room : Nat), .int .u16 (outs : Nat), .int .u16 (ins : Nat), .slice b1 b2 b3, .slice d1 d2 d3, .slice p1 p2 p3, .slice x1 x2 x3]) => (show Calls Tryd.prog 26 #[v] W fun e w' => e = .returned (.iface 93 (.slice p1 p2 p3)) ∧ Below W.heap.size W w' from h ▸ valueOf_prms kind flags tsn stream ssn ppid tag room outs ins b1 b2 b3 d1 d2 d3 p1 p2 p3 x1 x2 x3 W hk)
    have hp := fun (W : World) (v : Value) (h : v = .iface 93 (.slice p1 p2 p3)) (hb : Below w.heap.size w W) => space_prms p1 p2 p3 ls W (hps.below hb) (by simpa using hM) v h
    rw [hz] at hck
    rw [show sizN (decide (tsn = 0 ∧ stream = 0 ∧ ssn = 0 ∧ ppid = 0 ∧ tag = 0 ∧ room = 0 ∧ outs = 0 ∧ ins = 0 ∧ b2 = 0 ∧ d2 = 0 ∧ x2 = 0)) false (decide (16 < p2)) (4 + (psz ls) + padN (psz ls)) = 4 + (psz ls) + padN (psz ls) from if_pos hz]
    exact sizeC_ok _ _ _ _ _ _ _ _ _ _ _ _ _ _  _ _ w hck hv hp
  · rw [show sizN (decide (tsn = 0 ∧ stream = 0 ∧ ssn = 0 ∧ ppid = 0 ∧ tag = 0 ∧ room = 0 ∧ outs = 0 ∧ ins = 0 ∧ b2 = 0 ∧ d2 = 0 ∧ x2 = 0)) false (decide (16 < p2)) (4 + (psz ls) + padN (psz ls)) = 0 from if_neg hz]
    exact sizeC_bad _ _ _ _ _ _ _ _ _ _ _ _ _ _  _ w hz hck
set_option linter.unusedVariables false in
set_option maxRecDepth 100000 in
set_option maxHeartbeats 1000000 in
theorem sizeC_tsnv (kind flags tsn stream ssn ppid tag room outs ins : Nat) (b1 : Option Addr) (b2 b3 : Nat) (d1 : Option Addr) (d2 d3 : Nat) (p1 : Option Addr) (p2 p3 : Nat) (x1 : Option Addr) (x2 x3 : Nat) (w : World) (hk : kind = 7) :
    Calls Tryd.prog 16 #[.agg #[.int .u8 (kind : Nat), .int .u8 (flags : Nat), .int .u32 (tsn : Nat), .int .u16 (stream : Nat), .int .u16 (ssn : Nat), .int .u32 (ppid : Nat), .int .u32 (tag : Nat), .int .u32 (room : Nat), .int .u16 (outs : Nat), .int .u16 (ins : Nat), .slice b1 b2 b3, .slice d1 d2 d3, .slice p1 p2 p3, .slice x1 x2 x3]] w fun e w' => e = .returned (.int .i64 (sizN (decide (stream = 0 ∧ ssn = 0 ∧ ppid = 0 ∧ tag = 0 ∧ room = 0 ∧ outs = 0 ∧ ins = 0 ∧ b2 = 0 ∧ d2 = 0 ∧ p2 = 0 ∧ x2 = 0)) false false (8) : Nat)) ∧ Below w.heap.size w w' := by
  have hck := fun (W : World) (v : Value) (h : v = .agg #[.int .u8 (kind : Nat), .int .u8 (flags : Nat), .int .u32 (tsn : Nat), .int .u16 (stream : Nat), .int .u16 (ssn : Nat), .int .u32 (ppid : Nat), .int .u32 (tag : Nat), .int .u32 (room : Nat), .int .u16 (outs : Nat), .int .u16 (ins : Nat), .slice b1 b2 b3, .slice d1 d2 d3, .slice p1 p2 p3, .slice x1 x2 x3]) (hb : Below w.heap.size w W) => (show Calls Tryd.prog 24 #[v] W fun e w' => e = .returned (.int .i64 (chkN (decide (stream = 0 ∧ ssn = 0 ∧ ppid = 0 ∧ tag = 0 ∧ room = 0 ∧ outs = 0 ∧ ins = 0 ∧ b2 = 0 ∧ d2 = 0 ∧ p2 = 0 ∧ x2 = 0)) false false (8))) ∧ Below W.heap.size W w' from h ▸ check_tsnv kind flags tsn stream ssn ppid tag room outs ins b1 b2 b3 d1 d2 d3 p1 p2 p3 x1 x2 x3 W hk)
  by_cases hz : chkN (decide (stream = 0 ∧ ssn = 0 ∧ ppid = 0 ∧ tag = 0 ∧ room = 0 ∧ outs = 0 ∧ ins = 0 ∧ b2 = 0 ∧ d2 = 0 ∧ p2 = 0 ∧ x2 = 0)) false false (8) = 0
  · have hM := chkN_zero _ _ _ _ hz
    have hv := fun (W : World) (v : Value) (h : v = .agg #[.int .u8 (kind : Nat), .int .u8 (flags : Nat), .int .u32 (tsn : Nat), .int .u16 (stream : Nat), .int .u16 (ssn : Nat), .int .u32 (ppid : Nat), .int .u32 (tag : Nat), .int .u32 (room : Nat), .int .u16 (outs : Nat), .int .u16 (ins : Nat), .slice b1 b2 b3, .slice d1 d2 d3, .slice p1 p2 p3, .slice x1 x2 x3]) => (show Calls Tryd.prog 26 #[v] W fun e w' => e = .returned (.iface 98 (.int .u32 (tsn : Nat))) ∧ Below W.heap.size W w' from h ▸ valueOf_tsnv kind flags tsn stream ssn ppid tag room outs ins b1 b2 b3 d1 d2 d3 p1 p2 p3 x1 x2 x3 W hk)
    have hp := fun (W : World) (v : Value) (h : v = .iface 98 (.int .u32 (tsn : Nat))) (hb : Below w.heap.size w W) => space_tsnv tsn W v h
    rw [hz] at hck
    rw [show sizN (decide (stream = 0 ∧ ssn = 0 ∧ ppid = 0 ∧ tag = 0 ∧ room = 0 ∧ outs = 0 ∧ ins = 0 ∧ b2 = 0 ∧ d2 = 0 ∧ p2 = 0 ∧ x2 = 0)) false false (8) = 8 from if_pos hz]
    exact sizeC_ok _ _ _ _ _ _ _ _ _ _ _ _ _ _  _ _ w hck hv hp
  · rw [show sizN (decide (stream = 0 ∧ ssn = 0 ∧ ppid = 0 ∧ tag = 0 ∧ room = 0 ∧ outs = 0 ∧ ins = 0 ∧ b2 = 0 ∧ d2 = 0 ∧ p2 = 0 ∧ x2 = 0)) false false (8) = 0 from if_neg hz]
    exact sizeC_bad _ _ _ _ _ _ _ _ _ _ _ _ _ _  _ w hz hck
set_option linter.unusedVariables false in
set_option maxRecDepth 100000 in
set_option maxHeartbeats 1000000 in
theorem sizeC_none (kind flags tsn stream ssn ppid tag room outs ins : Nat) (b1 : Option Addr) (b2 b3 : Nat) (d1 : Option Addr) (d2 d3 : Nat) (p1 : Option Addr) (p2 p3 : Nat) (x1 : Option Addr) (x2 x3 : Nat) (w : World) (hk : kind = 8 ∨ kind = 11 ∨ kind = 14) :
    Calls Tryd.prog 16 #[.agg #[.int .u8 (kind : Nat), .int .u8 (flags : Nat), .int .u32 (tsn : Nat), .int .u16 (stream : Nat), .int .u16 (ssn : Nat), .int .u32 (ppid : Nat), .int .u32 (tag : Nat), .int .u32 (room : Nat), .int .u16 (outs : Nat), .int .u16 (ins : Nat), .slice b1 b2 b3, .slice d1 d2 d3, .slice p1 p2 p3, .slice x1 x2 x3]] w fun e w' => e = .returned (.int .i64 (sizN (decide (tsn = 0 ∧ stream = 0 ∧ ssn = 0 ∧ ppid = 0 ∧ tag = 0 ∧ room = 0 ∧ outs = 0 ∧ ins = 0 ∧ b2 = 0 ∧ d2 = 0 ∧ p2 = 0 ∧ x2 = 0)) false false (4) : Nat)) ∧ Below w.heap.size w w' := by
  have hck := fun (W : World) (v : Value) (h : v = .agg #[.int .u8 (kind : Nat), .int .u8 (flags : Nat), .int .u32 (tsn : Nat), .int .u16 (stream : Nat), .int .u16 (ssn : Nat), .int .u32 (ppid : Nat), .int .u32 (tag : Nat), .int .u32 (room : Nat), .int .u16 (outs : Nat), .int .u16 (ins : Nat), .slice b1 b2 b3, .slice d1 d2 d3, .slice p1 p2 p3, .slice x1 x2 x3]) (hb : Below w.heap.size w W) => (show Calls Tryd.prog 24 #[v] W fun e w' => e = .returned (.int .i64 (chkN (decide (tsn = 0 ∧ stream = 0 ∧ ssn = 0 ∧ ppid = 0 ∧ tag = 0 ∧ room = 0 ∧ outs = 0 ∧ ins = 0 ∧ b2 = 0 ∧ d2 = 0 ∧ p2 = 0 ∧ x2 = 0)) false false (4))) ∧ Below W.heap.size W w' from h ▸ check_none kind flags tsn stream ssn ppid tag room outs ins b1 b2 b3 d1 d2 d3 p1 p2 p3 x1 x2 x3 W hk)
  by_cases hz : chkN (decide (tsn = 0 ∧ stream = 0 ∧ ssn = 0 ∧ ppid = 0 ∧ tag = 0 ∧ room = 0 ∧ outs = 0 ∧ ins = 0 ∧ b2 = 0 ∧ d2 = 0 ∧ p2 = 0 ∧ x2 = 0)) false false (4) = 0
  · have hM := chkN_zero _ _ _ _ hz
    have hv := fun (W : World) (v : Value) (h : v = .agg #[.int .u8 (kind : Nat), .int .u8 (flags : Nat), .int .u32 (tsn : Nat), .int .u16 (stream : Nat), .int .u16 (ssn : Nat), .int .u32 (ppid : Nat), .int .u32 (tag : Nat), .int .u32 (room : Nat), .int .u16 (outs : Nat), .int .u16 (ins : Nat), .slice b1 b2 b3, .slice d1 d2 d3, .slice p1 p2 p3, .slice x1 x2 x3]) => (show Calls Tryd.prog 26 #[v] W fun e w' => e = .returned (.iface 100 (.agg #[])) ∧ Below W.heap.size W w' from h ▸ valueOf_none kind flags tsn stream ssn ppid tag room outs ins b1 b2 b3 d1 d2 d3 p1 p2 p3 x1 x2 x3 W hk)
    have hp := fun (W : World) (v : Value) (h : v = .iface 100 (.agg #[])) (hb : Below w.heap.size w W) => space_none W v h
    rw [hz] at hck
    rw [show sizN (decide (tsn = 0 ∧ stream = 0 ∧ ssn = 0 ∧ ppid = 0 ∧ tag = 0 ∧ room = 0 ∧ outs = 0 ∧ ins = 0 ∧ b2 = 0 ∧ d2 = 0 ∧ p2 = 0 ∧ x2 = 0)) false false (4) = 4 from if_pos hz]
    exact sizeC_ok _ _ _ _ _ _ _ _ _ _ _ _ _ _  _ _ w hck hv hp
  · rw [show sizN (decide (tsn = 0 ∧ stream = 0 ∧ ssn = 0 ∧ ppid = 0 ∧ tag = 0 ∧ room = 0 ∧ outs = 0 ∧ ins = 0 ∧ b2 = 0 ∧ d2 = 0 ∧ p2 = 0 ∧ x2 = 0)) false false (4) = 0 from if_neg hz]
    exact sizeC_bad _ _ _ _ _ _ _ _ _ _ _ _ _ _  _ w hz hck
set_option linter.unusedVariables false in
set_option maxRecDepth 100000 in
set_option maxHeartbeats 1000000 in
theorem sizeC_raw (kind flags tsn stream ssn ppid tag room outs ins : Nat) (b1 : Option Addr) (b2 b3 : Nat) (d1 : Option Addr) (d2 d3 : Nat) (p1 : Option Addr) (p2 p3 : Nat) (x1 : Option Addr) (x2 x3 : Nat) (w : World) (hk : ¬ kind = 0 ∧ ¬ kind = 1 ∧ ¬ kind = 2 ∧ ¬ kind = 3 ∧ ¬ kind = 4 ∧ ¬ kind = 5 ∧ ¬ kind = 6 ∧ ¬ kind = 7 ∧ ¬ kind = 8 ∧ ¬ kind = 9 ∧ ¬ kind = 11 ∧ ¬ kind = 14) (hx : x2 ≤ 281474976710656) :
    Calls Tryd.prog 16 #[.agg #[.int .u8 (kind : Nat), .int .u8 (flags : Nat), .int .u32 (tsn : Nat), .int .u16 (stream : Nat), .int .u16 (ssn : Nat), .int .u32 (ppid : Nat), .int .u32 (tag : Nat), .int .u32 (room : Nat), .int .u16 (outs : Nat), .int .u16 (ins : Nat), .slice b1 b2 b3, .slice d1 d2 d3, .slice p1 p2 p3, .slice x1 x2 x3]] w fun e w' => e = .returned (.int .i64 (sizN (decide (tsn = 0 ∧ stream = 0 ∧ ssn = 0 ∧ ppid = 0 ∧ tag = 0 ∧ room = 0 ∧ outs = 0 ∧ ins = 0 ∧ b2 = 0 ∧ d2 = 0 ∧ p2 = 0)) false false (4 + x2 + padN x2) : Nat)) ∧ Below w.heap.size w w' := by
  have hck := fun (W : World) (v : Value) (h : v = .agg #[.int .u8 (kind : Nat), .int .u8 (flags : Nat), .int .u32 (tsn : Nat), .int .u16 (stream : Nat), .int .u16 (ssn : Nat), .int .u32 (ppid : Nat), .int .u32 (tag : Nat), .int .u32 (room : Nat), .int .u16 (outs : Nat), .int .u16 (ins : Nat), .slice b1 b2 b3, .slice d1 d2 d3, .slice p1 p2 p3, .slice x1 x2 x3]) (hb : Below w.heap.size w W) => (show Calls Tryd.prog 24 #[v] W fun e w' => e = .returned (.int .i64 (chkN (decide (tsn = 0 ∧ stream = 0 ∧ ssn = 0 ∧ ppid = 0 ∧ tag = 0 ∧ room = 0 ∧ outs = 0 ∧ ins = 0 ∧ b2 = 0 ∧ d2 = 0 ∧ p2 = 0)) false false (4 + x2 + padN x2))) ∧ Below W.heap.size W w' from h ▸ check_raw kind flags tsn stream ssn ppid tag room outs ins b1 b2 b3 d1 d2 d3 p1 p2 p3 x1 x2 x3 W hk hx)
  by_cases hz : chkN (decide (tsn = 0 ∧ stream = 0 ∧ ssn = 0 ∧ ppid = 0 ∧ tag = 0 ∧ room = 0 ∧ outs = 0 ∧ ins = 0 ∧ b2 = 0 ∧ d2 = 0 ∧ p2 = 0)) false false (4 + x2 + padN x2) = 0
  · have hM := chkN_zero _ _ _ _ hz
    have hv := fun (W : World) (v : Value) (h : v = .agg #[.int .u8 (kind : Nat), .int .u8 (flags : Nat), .int .u32 (tsn : Nat), .int .u16 (stream : Nat), .int .u16 (ssn : Nat), .int .u32 (ppid : Nat), .int .u32 (tag : Nat), .int .u32 (room : Nat), .int .u16 (outs : Nat), .int .u16 (ins : Nat), .slice b1 b2 b3, .slice d1 d2 d3, .slice p1 p2 p3, .slice x1 x2 x3]) => (show Calls Tryd.prog 26 #[v] W fun e w' => e = .returned (.iface 101 (.slice x1 x2 x3)) ∧ Below W.heap.size W w' from h ▸ valueOf_raw kind flags tsn stream ssn ppid tag room outs ins b1 b2 b3 d1 d2 d3 p1 p2 p3 x1 x2 x3 W hk)
    have hp := fun (W : World) (v : Value) (h : v = .iface 101 (.slice x1 x2 x3)) (hb : Below w.heap.size w W) => space_raw x1 x2 x3 W hx v h
    rw [hz] at hck
    rw [show sizN (decide (tsn = 0 ∧ stream = 0 ∧ ssn = 0 ∧ ppid = 0 ∧ tag = 0 ∧ room = 0 ∧ outs = 0 ∧ ins = 0 ∧ b2 = 0 ∧ d2 = 0 ∧ p2 = 0)) false false (4 + x2 + padN x2) = 4 + x2 + padN x2 from if_pos hz]
    exact sizeC_ok _ _ _ _ _ _ _ _ _ _ _ _ _ _  _ _ w hck hv hp
  · rw [show sizN (decide (tsn = 0 ∧ stream = 0 ∧ ssn = 0 ∧ ppid = 0 ∧ tag = 0 ∧ room = 0 ∧ outs = 0 ∧ ins = 0 ∧ b2 = 0 ∧ d2 = 0 ∧ p2 = 0)) false false (4 + x2 + padN x2) = 0 from if_neg hz]
    exact sizeC_bad _ _ _ _ _ _ _ _ _ _ _ _ _ _  _ w hz hck
end Go.Proofs.YtlgfbcfogcmdbaaDoor
