/- What chunk.shapeOf and chunkOf answer. -/
import Derived.Test.YtlgfbcfogcmdbaaDoorChB
namespace Go.Proofs.YtlgfbcfogcmdbaaDoor
open Go.RowKit
set_option linter.unusedVariables false in
set_option maxRecDepth 100000 in
set_option maxHeartbeats 2000000 in
theorem shapeOf_any (kind flags tsn stream ssn ppid tag room outs ins : Nat) (b1 : Option Addr) (b2 b3 : Nat) (d1 : Option Addr) (d2 d3 : Nat) (p1 : Option Addr) (p2 p3 : Nat) (x1 : Option Addr) (x2 x3 : Nat) (w : World) (v : Value) (hv : v = .agg #[.int .u8 (kind : Nat), .int .u8 (flags : Nat), .int .u32 (tsn : Nat), .int .u16 (stream : Nat), .int .u16 (ssn : Nat), .int .u32 (ppid : Nat), .int .u32 (tag : Nat), .int .u32 (room : Nat), .int .u16 (outs : Nat), .int .u16 (ins : Nat), .slice b1 b2 b3, .slice d1 d2 d3, .slice p1 p2 p3, .slice x1 x2 x3]) :
    Calls Tryd.prog 41 #[v] w fun e w' => e = .returned (.agg #[.int .u32 (tsn : Nat), .int .u32 (ppid : Nat), .int .u32 (tag : Nat), .int .u32 (room : Nat), .int .u16 (stream : Nat), .int .u16 (ssn : Nat), .int .u16 (outs : Nat), .int .u16 (ins : Nat), .int .i64 (b2 : Nat), .int .i64 (d2 : Nat), .int .i64 (p2 : Nat), .int .i64 (x2 : Nat)]) ∧ Below w.heap.size w w' := by
  subst hv
  go_enter Tryd.func41, Tryd.ntmps41
  go_wp2
  have HRG : Hid (((w.alloc (.cells #[.int .u8 (kind : Nat), .int .u8 (flags : Nat), .int .u32 (tsn : Nat), .int .u16 (stream : Nat), .int .u16 (ssn : Nat), .int .u32 (ppid : Nat), .int .u32 (tag : Nat), .int .u32 (room : Nat), .int .u16 (outs : Nat), .int .u16 (ins : Nat), .slice b1 b2 b3, .slice d1 d2 d3, .slice p1 p2 p3, .slice x1 x2 x3] 32)).alloc (.cells #[.int .u32 (tsn : Nat), .int .u32 (ppid : Nat), .int .u32 (tag : Nat), .int .u32 (room : Nat), .int .u16 (stream : Nat), .int .u16 (ssn : Nat), .int .u16 (outs : Nat), .int .u16 (ins : Nat), .int .i64 (b2 : Nat), .int .i64 (d2 : Nat), .int .i64 (p2 : Nat), .int .i64 (x2 : Nat)] 86)).rangeAt (w.heap.size + 1) 0 [.int .u32 (tsn : Nat), .int .u32 (ppid : Nat), .int .u32 (tag : Nat), .int .u32 (room : Nat), .int .u16 (stream : Nat), .int .u16 (ssn : Nat), .int .u16 (outs : Nat), .int .u16 (ins : Nat), .int .i64 (b2 : Nat), .int .i64 (d2 : Nat), .int .i64 (p2 : Nat), .int .i64 (x2 : Nat)]) := by
    have := (Stc.new (w.alloc (.cells #[.int .u8 (kind : Nat), .int .u8 (flags : Nat), .int .u32 (tsn : Nat), .int .u16 (stream : Nat), .int .u16 (ssn : Nat), .int .u32 (ppid : Nat), .int .u32 (tag : Nat), .int .u32 (room : Nat), .int .u16 (outs : Nat), .int .u16 (ins : Nat), .slice b1 b2 b3, .slice d1 d2 d3, .slice p1 p2 p3, .slice x1 x2 x3] 32)) [.int .u32 (tsn : Nat), .int .u32 (ppid : Nat), .int .u32 (tag : Nat), .int .u32 (room : Nat), .int .u16 (stream : Nat), .int .u16 (ssn : Nat), .int .u16 (outs : Nat), .int .u16 (ins : Nat), .int .i64 (b2 : Nat), .int .i64 (d2 : Nat), .int .i64 (p2 : Nat), .int .i64 (x2 : Nat)] 86 _ rfl).range
    rw [show (w.alloc (.cells #[.int .u8 (kind : Nat), .int .u8 (flags : Nat), .int .u32 (tsn : Nat), .int .u16 (stream : Nat), .int .u16 (ssn : Nat), .int .u32 (ppid : Nat), .int .u32 (tag : Nat), .int .u32 (room : Nat), .int .u16 (outs : Nat), .int .u16 (ins : Nat), .slice b1 b2 b3, .slice d1 d2 d3, .slice p1 p2 p3, .slice x1 x2 x3] 32)).heap.size = w.heap.size + 1 by simp] at this
    exact this
  try simp only [Exit.inBlock, Exit.then]
  refine bodyPost_ret (results_cellE rfl _ _ (w.heap.size + 1) 0 [.int .u32 (tsn : Nat), .int .u32 (ppid : Nat), .int .u32 (tag : Nat), .int .u32 (room : Nat), .int .u16 (stream : Nat), .int .u16 (ssn : Nat), .int .u16 (outs : Nat), .int .u16 (ins : Nat), .int .i64 (b2 : Nat), .int .i64 (d2 : Nat), .int .i64 (p2 : Nat), .int .i64 (x2 : Nat)] _ rfl HRG.out Tryd.underlying86 rfl (by kernel_rfl)) rfl ?_
  exact ⟨rfl, ((Below.refl _ _).alloc (Nat.le_refl _) _).alloc (by simp) _⟩
end Go.Proofs.YtlgfbcfogcmdbaaDoor
