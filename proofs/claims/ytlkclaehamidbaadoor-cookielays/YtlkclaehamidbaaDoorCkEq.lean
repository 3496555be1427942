/- Two cookies are told to be the same just if they are. -/
import Derived.Test.YtlkclaehamidbaaDoorCkEa
import Derived.DeepKeys
namespace Go.Proofs.YtlkclaehamidbaaDoor
open Go.RowKit
theorem ck_cells : Tryd.prog.cellsOf 33 = 13 := by kernel_rfl
theorem ci : Tryd.prog.cellsOf 3 = 1 := by kernel_rfl
theorem c16 : Tryd.prog.cellsOf 30 = 1 := by kernel_rfl
theorem c32 : Tryd.prog.cellsOf 31 = 1 := by kernel_rfl
theorem lit_i (x : Int) (h : (Lit.int .i64 x).wf = true) : Tryd.prog.keyLits 2 3 [.int .i64 x] = some [Lit.int .i64 x] := by
  unfold Program.keyLits
  rw [Tryd.underlying3]
  simp [h]
theorem lit_16 (x : Nat) (h : x < 65536) : Tryd.prog.keyLits 2 30 [.int .u16 (x : Nat)] = some [Lit.int .u16 (x : Nat)] := by
  unfold Program.keyLits
  rw [Tryd.underlying30]
  simp [Lit.wf, IntKind.min, IntKind.max, IntKind.signed, IntKind.bits]
  omega
theorem lit_32 (x : Nat) (h : x < 4294967296) : Tryd.prog.keyLits 2 31 [.int .u32 (x : Nat)] = some [Lit.int .u32 (x : Nat)] := by
  unfold Program.keyLits
  rw [Tryd.underlying31]
  simp [Lit.wf, IntKind.min, IntKind.max, IntKind.signed, IntKind.bits]
  omega
set_option maxRecDepth 100000 in
theorem ck_lits (made life : Int) (port pport tag ptag tsn ptsn room outs ins addr other : Nat) (w0 : (Lit.int .i64 made).wf = true) (w1 : (Lit.int .i64 life).wf = true) (w2 : port < 65536) (w3 : pport < 65536) (w4 : tag < 4294967296) (w5 : ptag < 4294967296) (w6 : tsn < 4294967296) (w7 : ptsn < 4294967296) (w8 : room < 4294967296) (w9 : outs < 65536) (w10 : ins < 65536) (w11 : addr < 4294967296) (w12 : other < 4294967296) : Tryd.prog.keyLits 3 33 [.int .i64 made, .int .i64 life, .int .u16 (port : Nat), .int .u16 (pport : Nat), .int .u32 (tag : Nat), .int .u32 (ptag : Nat), .int .u32 (tsn : Nat), .int .u32 (ptsn : Nat), .int .u32 (room : Nat), .int .u16 (outs : Nat), .int .u16 (ins : Nat), .int .u32 (addr : Nat), .int .u32 (other : Nat)] = some [Lit.int .i64 made, Lit.int .i64 life, Lit.int .u16 (port : Nat), Lit.int .u16 (pport : Nat), Lit.int .u32 (tag : Nat), Lit.int .u32 (ptag : Nat), Lit.int .u32 (tsn : Nat), Lit.int .u32 (ptsn : Nat), Lit.int .u32 (room : Nat), Lit.int .u16 (outs : Nat), Lit.int .u16 (ins : Nat), Lit.int .u32 (addr : Nat), Lit.int .u32 (other : Nat)] := by
  unfold Program.keyLits
  rw [Tryd.underlying33]
  simp [ck_cells, ci, c16, c32, lit_i _ w0, lit_i _ w1, lit_16 _ w2, lit_16 _ w3, lit_32 _ w4, lit_32 _ w5, lit_32 _ w6, lit_32 _ w7, lit_32 _ w8, lit_16 _ w9, lit_16 _ w10, lit_32 _ w11, lit_32 _ w12]
set_option maxRecDepth 100000 in
theorem ck_eq (made life : Int) (port pport tag ptag tsn ptsn room outs ins addr other : Nat) (qmade qlife : Int) (qport qpport qtag qptag qtsn qptsn qroom qouts qins qaddr qother : Nat) (w0 : (Lit.int .i64 made).wf = true) (w1 : (Lit.int .i64 life).wf = true) (w2 : port < 65536) (w3 : pport < 65536) (w4 : tag < 4294967296) (w5 : ptag < 4294967296) (w6 : tsn < 4294967296) (w7 : ptsn < 4294967296) (w8 : room < 4294967296) (w9 : outs < 65536) (w10 : ins < 65536) (w11 : addr < 4294967296) (w12 : other < 4294967296) (wq0 : (Lit.int .i64 qmade).wf = true) (wq1 : (Lit.int .i64 qlife).wf = true) (wq2 : qport < 65536) (wq3 : qpport < 65536) (wq4 : qtag < 4294967296) (wq5 : qptag < 4294967296) (wq6 : qtsn < 4294967296) (wq7 : qptsn < 4294967296) (wq8 : qroom < 4294967296) (wq9 : qouts < 65536) (wq10 : qins < 65536) (wq11 : qaddr < 4294967296) (wq12 : qother < 4294967296) : ∃ r : Bool, (∀ W, (Op.equalIn 10000 33 (.agg #[.int .i64 made, .int .i64 life, .int .u16 (port : Nat), .int .u16 (pport : Nat), .int .u32 (tag : Nat), .int .u32 (ptag : Nat), .int .u32 (tsn : Nat), .int .u32 (ptsn : Nat), .int .u32 (room : Nat), .int .u16 (outs : Nat), .int .u16 (ins : Nat), .int .u32 (addr : Nat), .int .u32 (other : Nat)]) (.agg #[.int .i64 qmade, .int .i64 qlife, .int .u16 (qport : Nat), .int .u16 (qpport : Nat), .int .u32 (qtag : Nat), .int .u32 (qptag : Nat), .int .u32 (qtsn : Nat), .int .u32 (qptsn : Nat), .int .u32 (qroom : Nat), .int .u16 (qouts : Nat), .int .u16 (qins : Nat), .int .u32 (qaddr : Nat), .int .u32 (qother : Nat)])).run Tryd.prog W = .ok r W) ∧ (r = true ↔ ([Lit.int .i64 made, Lit.int .i64 life, Lit.int .u16 (port : Nat), Lit.int .u16 (pport : Nat), Lit.int .u32 (tag : Nat), Lit.int .u32 (ptag : Nat), Lit.int .u32 (tsn : Nat), Lit.int .u32 (ptsn : Nat), Lit.int .u32 (room : Nat), Lit.int .u16 (outs : Nat), Lit.int .u16 (ins : Nat), Lit.int .u32 (addr : Nat), Lit.int .u32 (other : Nat)] : List Lit) = [Lit.int .i64 qmade, Lit.int .i64 qlife, Lit.int .u16 (qport : Nat), Lit.int .u16 (qpport : Nat), Lit.int .u32 (qtag : Nat), Lit.int .u32 (qptag : Nat), Lit.int .u32 (qtsn : Nat), Lit.int .u32 (qptsn : Nat), Lit.int .u32 (qroom : Nat), Lit.int .u16 (qouts : Nat), Lit.int .u16 (qins : Nat), Lit.int .u32 (qaddr : Nat), Lit.int .u32 (qother : Nat)]) := by
  have h1 := ck_lits made life port pport tag ptag tsn ptsn room outs ins addr other w0 w1 w2 w3 w4 w5 w6 w7 w8 w9 w10 w11 w12
  have h2 := ck_lits qmade qlife qport qpport qtag qptag qtsn qptsn qroom qouts qins qaddr qother wq0 wq1 wq2 wq3 wq4 wq5 wq6 wq7 wq8 wq9 wq10 wq11 wq12
  have hf : ∀ cs : Array Value, cs.size = 13 → (Value.agg cs).formed Tryd.prog 33 = true := by
    intro cs hc
    unfold Value.formed
    rw [Tryd.underlying33]
    simp [ck_cells, hc]
  have hrun := fun W => run_equalIn_deep (P := Tryd.prog) 9997 3 33 (by kernel_rfl) W 3 3 (.agg #[.int .i64 made, .int .i64 life, .int .u16 (port : Nat), .int .u16 (pport : Nat), .int .u32 (tag : Nat), .int .u32 (ptag : Nat), .int .u32 (tsn : Nat), .int .u32 (ptsn : Nat), .int .u32 (room : Nat), .int .u16 (outs : Nat), .int .u16 (ins : Nat), .int .u32 (addr : Nat), .int .u32 (other : Nat)]) (.agg #[.int .i64 qmade, .int .i64 qlife, .int .u16 (qport : Nat), .int .u16 (qpport : Nat), .int .u32 (qtag : Nat), .int .u32 (qptag : Nat), .int .u32 (qtsn : Nat), .int .u32 (qptsn : Nat), .int .u32 (qroom : Nat), .int .u16 (qouts : Nat), .int .u16 (qins : Nat), .int .u32 (qaddr : Nat), .int .u32 (qother : Nat)]) _ _ (hf _ rfl) (hf _ rfl) h1 h2
  by_cases h : ([Lit.int .i64 made, Lit.int .i64 life, Lit.int .u16 (port : Nat), Lit.int .u16 (pport : Nat), Lit.int .u32 (tag : Nat), Lit.int .u32 (ptag : Nat), Lit.int .u32 (tsn : Nat), Lit.int .u32 (ptsn : Nat), Lit.int .u32 (room : Nat), Lit.int .u16 (outs : Nat), Lit.int .u16 (ins : Nat), Lit.int .u32 (addr : Nat), Lit.int .u32 (other : Nat)] : List Lit) = [Lit.int .i64 qmade, Lit.int .i64 qlife, Lit.int .u16 (qport : Nat), Lit.int .u16 (qpport : Nat), Lit.int .u32 (qtag : Nat), Lit.int .u32 (qptag : Nat), Lit.int .u32 (qtsn : Nat), Lit.int .u32 (qptsn : Nat), Lit.int .u32 (qroom : Nat), Lit.int .u16 (qouts : Nat), Lit.int .u16 (qins : Nat), Lit.int .u32 (qaddr : Nat), Lit.int .u32 (qother : Nat)]
  · refine ⟨true, fun W => ?_, ⟨fun _ => h, fun _ => rfl⟩⟩
    obtain ⟨r, hr, hiff⟩ := hrun W
    rw [hr, hiff.2 h]
  · refine ⟨false, fun W => ?_, ⟨fun e => (by cases e), fun e => absurd e h⟩⟩
    obtain ⟨r, hr, hiff⟩ := hrun W
    rw [hr]
    cases r
    · rfl
    · exact absurd (hiff.1 rfl) h
end Go.Proofs.YtlkclaehamidbaaDoor
