/- Type assertions on a chunk's value. -/
import Derived.Test.YtjaheelgcjafcaaKB
namespace Go.Proofs.Ytjaheelgcjafcaa
open Go.RowKit
set_option linter.unusedVariables false in
set_option maxRecDepth 100000 in
set_option maxHeartbeats 2000000 in
theorem valueOf_data (kind flags tsn stream ssn ppid tag room outs ins : Nat) (b1 : Option Addr) (b2 b3 : Nat) (d1 : Option Addr) (d2 d3 : Nat) (p1 : Option Addr) (p2 p3 : Nat) (x1 : Option Addr) (x2 x3 : Nat) (w : World) (hk : kind = 0) :
    Calls Try.prog 52 #[.agg #[.int .u8 (kind : Nat), .int .u8 (flags : Nat), .int .u32 (tsn : Nat), .int .u16 (stream : Nat), .int .u16 (ssn : Nat), .int .u32 (ppid : Nat), .int .u32 (tag : Nat), .int .u32 (room : Nat), .int .u16 (outs : Nat), .int .u16 (ins : Nat), .slice b1 b2 b3, .slice d1 d2 d3, .slice p1 p2 p3, .slice x1 x2 x3]] w fun e w' => e = .returned (.iface 134 (.agg #[.int .u32 (tsn : Nat), .int .u16 (stream : Nat), .int .u16 (ssn : Nat), .int .u32 (ppid : Nat), .slice x1 x2 x3])) ∧ Below w.heap.size w w' := by
  subst hk
  go_enter Try.func52, Try.ntmps52
  go_wp2
  go_ret
  exact ⟨rfl, (Below.refl _ _).alloc (Nat.le_refl _) _⟩
set_option linter.unusedVariables false in
set_option maxRecDepth 100000 in
set_option maxHeartbeats 2000000 in
theorem valueOf_init (kind flags tsn stream ssn ppid tag room outs ins : Nat) (b1 : Option Addr) (b2 b3 : Nat) (d1 : Option Addr) (d2 d3 : Nat) (p1 : Option Addr) (p2 p3 : Nat) (x1 : Option Addr) (x2 x3 : Nat) (w : World) (hk : kind = 1 ∨ kind = 2) :
    Calls Try.prog 52 #[.agg #[.int .u8 (kind : Nat), .int .u8 (flags : Nat), .int .u32 (tsn : Nat), .int .u16 (stream : Nat), .int .u16 (ssn : Nat), .int .u32 (ppid : Nat), .int .u32 (tag : Nat), .int .u32 (room : Nat), .int .u16 (outs : Nat), .int .u16 (ins : Nat), .slice b1 b2 b3, .slice d1 d2 d3, .slice p1 p2 p3, .slice x1 x2 x3]] w fun e w' => e = .returned (.iface 137 (.agg #[.int .u32 (tag : Nat), .int .u32 (room : Nat), .int .u16 (outs : Nat), .int .u16 (ins : Nat), .int .u32 (tsn : Nat), .slice p1 p2 p3])) ∧ Below w.heap.size w w' := by
  rcases hk with rfl | rfl
  · go_enter Try.func52, Try.ntmps52
    go_wp2
    go_ret
    exact ⟨rfl, (Below.refl _ _).alloc (Nat.le_refl _) _⟩
  · go_enter Try.func52, Try.ntmps52
    go_wp2
    go_ret
    exact ⟨rfl, (Below.refl _ _).alloc (Nat.le_refl _) _⟩
set_option linter.unusedVariables false in
set_option maxRecDepth 100000 in
set_option maxHeartbeats 2000000 in
theorem valueOf_sack (kind flags tsn stream ssn ppid tag room outs ins : Nat) (b1 : Option Addr) (b2 b3 : Nat) (d1 : Option Addr) (d2 d3 : Nat) (p1 : Option Addr) (p2 p3 : Nat) (x1 : Option Addr) (x2 x3 : Nat) (w : World) (hk : kind = 3) :
    Calls Try.prog 52 #[.agg #[.int .u8 (kind : Nat), .int .u8 (flags : Nat), .int .u32 (tsn : Nat), .int .u16 (stream : Nat), .int .u16 (ssn : Nat), .int .u32 (ppid : Nat), .int .u32 (tag : Nat), .int .u32 (room : Nat), .int .u16 (outs : Nat), .int .u16 (ins : Nat), .slice b1 b2 b3, .slice d1 d2 d3, .slice p1 p2 p3, .slice x1 x2 x3]] w fun e w' => e = .returned (.iface 139 (.agg #[.int .u32 (tsn : Nat), .int .u32 (room : Nat), .slice b1 b2 b3, .slice d1 d2 d3])) ∧ Below w.heap.size w w' := by
  subst hk
  go_enter Try.func52, Try.ntmps52
  go_wp2
  go_ret
  exact ⟨rfl, (Below.refl _ _).alloc (Nat.le_refl _) _⟩
set_option linter.unusedVariables false in
set_option maxRecDepth 100000 in
set_option maxHeartbeats 2000000 in
theorem valueOf_prms (kind flags tsn stream ssn ppid tag room outs ins : Nat) (b1 : Option Addr) (b2 b3 : Nat) (d1 : Option Addr) (d2 d3 : Nat) (p1 : Option Addr) (p2 p3 : Nat) (x1 : Option Addr) (x2 x3 : Nat) (w : World) (hk : kind = 4 ∨ kind = 5 ∨ kind = 6 ∨ kind = 9) :
    Calls Try.prog 52 #[.agg #[.int .u8 (kind : Nat), .int .u8 (flags : Nat), .int .u32 (tsn : Nat), .int .u16 (stream : Nat), .int .u16 (ssn : Nat), .int .u32 (ppid : Nat), .int .u32 (tag : Nat), .int .u32 (room : Nat), .int .u16 (outs : Nat), .int .u16 (ins : Nat), .slice b1 b2 b3, .slice d1 d2 d3, .slice p1 p2 p3, .slice x1 x2 x3]] w fun e w' => e = .returned (.iface 135 (.slice p1 p2 p3)) ∧ Below w.heap.size w w' := by
  rcases hk with rfl | rfl | rfl | rfl
  · go_enter Try.func52, Try.ntmps52
    go_wp2
    go_ret
    exact ⟨rfl, (Below.refl _ _).alloc (Nat.le_refl _) _⟩
  · go_enter Try.func52, Try.ntmps52
    go_wp2
    go_ret
    exact ⟨rfl, (Below.refl _ _).alloc (Nat.le_refl _) _⟩
  · go_enter Try.func52, Try.ntmps52
    go_wp2
    go_ret
    exact ⟨rfl, (Below.refl _ _).alloc (Nat.le_refl _) _⟩
  · go_enter Try.func52, Try.ntmps52
    go_wp2
    go_ret
    exact ⟨rfl, (Below.refl _ _).alloc (Nat.le_refl _) _⟩
set_option linter.unusedVariables false in
set_option maxRecDepth 100000 in
set_option maxHeartbeats 2000000 in
theorem valueOf_tsnv (kind flags tsn stream ssn ppid tag room outs ins : Nat) (b1 : Option Addr) (b2 b3 : Nat) (d1 : Option Addr) (d2 d3 : Nat) (p1 : Option Addr) (p2 p3 : Nat) (x1 : Option Addr) (x2 x3 : Nat) (w : World) (hk : kind = 7) :
    Calls Try.prog 52 #[.agg #[.int .u8 (kind : Nat), .int .u8 (flags : Nat), .int .u32 (tsn : Nat), .int .u16 (stream : Nat), .int .u16 (ssn : Nat), .int .u32 (ppid : Nat), .int .u32 (tag : Nat), .int .u32 (room : Nat), .int .u16 (outs : Nat), .int .u16 (ins : Nat), .slice b1 b2 b3, .slice d1 d2 d3, .slice p1 p2 p3, .slice x1 x2 x3]] w fun e w' => e = .returned (.iface 140 (.int .u32 (tsn : Nat))) ∧ Below w.heap.size w w' := by
  subst hk
  go_enter Try.func52, Try.ntmps52
  go_wp2
  go_ret
  exact ⟨rfl, (Below.refl _ _).alloc (Nat.le_refl _) _⟩
set_option linter.unusedVariables false in
set_option maxRecDepth 100000 in
set_option maxHeartbeats 2000000 in
theorem valueOf_none (kind flags tsn stream ssn ppid tag room outs ins : Nat) (b1 : Option Addr) (b2 b3 : Nat) (d1 : Option Addr) (d2 d3 : Nat) (p1 : Option Addr) (p2 p3 : Nat) (x1 : Option Addr) (x2 x3 : Nat) (w : World) (hk : kind = 8 ∨ kind = 11 ∨ kind = 14) :
    Calls Try.prog 52 #[.agg #[.int .u8 (kind : Nat), .int .u8 (flags : Nat), .int .u32 (tsn : Nat), .int .u16 (stream : Nat), .int .u16 (ssn : Nat), .int .u32 (ppid : Nat), .int .u32 (tag : Nat), .int .u32 (room : Nat), .int .u16 (outs : Nat), .int .u16 (ins : Nat), .slice b1 b2 b3, .slice d1 d2 d3, .slice p1 p2 p3, .slice x1 x2 x3]] w fun e w' => e = .returned (.iface 142 (.agg #[])) ∧ Below w.heap.size w w' := by
  rcases hk with rfl | rfl | rfl
  · go_enter Try.func52, Try.ntmps52
    go_wp2
    go_ret
    exact ⟨rfl, (Below.refl _ _).alloc (Nat.le_refl _) _⟩
  · go_enter Try.func52, Try.ntmps52
    go_wp2
    go_ret
    exact ⟨rfl, (Below.refl _ _).alloc (Nat.le_refl _) _⟩
  · go_enter Try.func52, Try.ntmps52
    go_wp2
    go_ret
    exact ⟨rfl, (Below.refl _ _).alloc (Nat.le_refl _) _⟩
set_option linter.unusedVariables false in
set_option maxRecDepth 100000 in
set_option maxHeartbeats 2000000 in
theorem valueOf_raw (kind flags tsn stream ssn ppid tag room outs ins : Nat) (b1 : Option Addr) (b2 b3 : Nat) (d1 : Option Addr) (d2 d3 : Nat) (p1 : Option Addr) (p2 p3 : Nat) (x1 : Option Addr) (x2 x3 : Nat) (w : World) (hk : ¬ kind = 0 ∧ ¬ kind = 1 ∧ ¬ kind = 2 ∧ ¬ kind = 3 ∧ ¬ kind = 4 ∧ ¬ kind = 5 ∧ ¬ kind = 6 ∧ ¬ kind = 7 ∧ ¬ kind = 8 ∧ ¬ kind = 9 ∧ ¬ kind = 11 ∧ ¬ kind = 14) :
    Calls Try.prog 52 #[.agg #[.int .u8 (kind : Nat), .int .u8 (flags : Nat), .int .u32 (tsn : Nat), .int .u16 (stream : Nat), .int .u16 (ssn : Nat), .int .u32 (ppid : Nat), .int .u32 (tag : Nat), .int .u32 (room : Nat), .int .u16 (outs : Nat), .int .u16 (ins : Nat), .slice b1 b2 b3, .slice d1 d2 d3, .slice p1 p2 p3, .slice x1 x2 x3]] w fun e w' => e = .returned (.iface 143 (.slice x1 x2 x3)) ∧ Below w.heap.size w w' := by
  obtain ⟨h0, h1, h2, h3, h4, h5, h6, h7, h8, h9, h11, h14⟩ := hk
  have g0 : ¬ (kind : Int) = 0 := by omega
  have g1 : ¬ (kind : Int) = 1 := by omega
  have g2 : ¬ (kind : Int) = 2 := by omega
  have g3 : ¬ (kind : Int) = 3 := by omega
  have g4 : ¬ (kind : Int) = 4 := by omega
  have g5 : ¬ (kind : Int) = 5 := by omega
  have g6 : ¬ (kind : Int) = 6 := by omega
  have g7 : ¬ (kind : Int) = 7 := by omega
  have g8 : ¬ (kind : Int) = 8 := by omega
  have g9 : ¬ (kind : Int) = 9 := by omega
  have g11 : ¬ (kind : Int) = 11 := by omega
  have g14 : ¬ (kind : Int) = 14 := by omega
  go_enter Try.func52, Try.ntmps52
  go_wp2
  go_ret
  exact ⟨rfl, (Below.refl _ _).alloc (Nat.le_refl _) _⟩
end Go.Proofs.Ytjaheelgcjafcaa
namespace Go.Proofs.Ytjaheelgcjafcaa
open Go.RowKit
set_option linter.unusedVariables false in
set_option maxRecDepth 100000 in
set_option maxHeartbeats 2000000 in
theorem shapeOf_any (kind flags tsn stream ssn ppid tag room outs ins : Nat) (b1 : Option Addr) (b2 b3 : Nat) (d1 : Option Addr) (d2 d3 : Nat) (p1 : Option Addr) (p2 p3 : Nat) (x1 : Option Addr) (x2 x3 : Nat) (w : World) (v : Value) (hv : v = .agg #[.int .u8 (kind : Nat), .int .u8 (flags : Nat), .int .u32 (tsn : Nat), .int .u16 (stream : Nat), .int .u16 (ssn : Nat), .int .u32 (ppid : Nat), .int .u32 (tag : Nat), .int .u32 (room : Nat), .int .u16 (outs : Nat), .int .u16 (ins : Nat), .slice b1 b2 b3, .slice d1 d2 d3, .slice p1 p2 p3, .slice x1 x2 x3]) :
    Calls Try.prog 53 #[v] w fun e w' => e = .returned (.agg #[.int .u32 (tsn : Nat), .int .u32 (ppid : Nat), .int .u32 (tag : Nat), .int .u32 (room : Nat), .int .u16 (stream : Nat), .int .u16 (ssn : Nat), .int .u16 (outs : Nat), .int .u16 (ins : Nat), .int .i64 (b2 : Nat), .int .i64 (d2 : Nat), .int .i64 (p2 : Nat), .int .i64 (x2 : Nat)]) ∧ Below w.heap.size w w' := by
  subst hv
  go_enter Try.func53, Try.ntmps53
  go_wp2
  have HRG : Hid (((w.alloc (.cells #[.int .u8 (kind : Nat), .int .u8 (flags : Nat), .int .u32 (tsn : Nat), .int .u16 (stream : Nat), .int .u16 (ssn : Nat), .int .u32 (ppid : Nat), .int .u32 (tag : Nat), .int .u32 (room : Nat), .int .u16 (outs : Nat), .int .u16 (ins : Nat), .slice b1 b2 b3, .slice d1 d2 d3, .slice p1 p2 p3, .slice x1 x2 x3] 47)).alloc (.cells #[.int .u32 (tsn : Nat), .int .u32 (ppid : Nat), .int .u32 (tag : Nat), .int .u32 (room : Nat), .int .u16 (stream : Nat), .int .u16 (ssn : Nat), .int .u16 (outs : Nat), .int .u16 (ins : Nat), .int .i64 (b2 : Nat), .int .i64 (d2 : Nat), .int .i64 (p2 : Nat), .int .i64 (x2 : Nat)] 116)).rangeAt (w.heap.size + 1) 0 [.int .u32 (tsn : Nat), .int .u32 (ppid : Nat), .int .u32 (tag : Nat), .int .u32 (room : Nat), .int .u16 (stream : Nat), .int .u16 (ssn : Nat), .int .u16 (outs : Nat), .int .u16 (ins : Nat), .int .i64 (b2 : Nat), .int .i64 (d2 : Nat), .int .i64 (p2 : Nat), .int .i64 (x2 : Nat)]) := by
    have := (Stc.new (w.alloc (.cells #[.int .u8 (kind : Nat), .int .u8 (flags : Nat), .int .u32 (tsn : Nat), .int .u16 (stream : Nat), .int .u16 (ssn : Nat), .int .u32 (ppid : Nat), .int .u32 (tag : Nat), .int .u32 (room : Nat), .int .u16 (outs : Nat), .int .u16 (ins : Nat), .slice b1 b2 b3, .slice d1 d2 d3, .slice p1 p2 p3, .slice x1 x2 x3] 47)) [.int .u32 (tsn : Nat), .int .u32 (ppid : Nat), .int .u32 (tag : Nat), .int .u32 (room : Nat), .int .u16 (stream : Nat), .int .u16 (ssn : Nat), .int .u16 (outs : Nat), .int .u16 (ins : Nat), .int .i64 (b2 : Nat), .int .i64 (d2 : Nat), .int .i64 (p2 : Nat), .int .i64 (x2 : Nat)] 116 _ rfl).range
    rw [show (w.alloc (.cells #[.int .u8 (kind : Nat), .int .u8 (flags : Nat), .int .u32 (tsn : Nat), .int .u16 (stream : Nat), .int .u16 (ssn : Nat), .int .u32 (ppid : Nat), .int .u32 (tag : Nat), .int .u32 (room : Nat), .int .u16 (outs : Nat), .int .u16 (ins : Nat), .slice b1 b2 b3, .slice d1 d2 d3, .slice p1 p2 p3, .slice x1 x2 x3] 47)).heap.size = w.heap.size + 1 by simp] at this
    exact this
  try simp only [Exit.inBlock, Exit.then]
  refine bodyPost_ret (results_cellE rfl _ _ (w.heap.size + 1) 0 [.int .u32 (tsn : Nat), .int .u32 (ppid : Nat), .int .u32 (tag : Nat), .int .u32 (room : Nat), .int .u16 (stream : Nat), .int .u16 (ssn : Nat), .int .u16 (outs : Nat), .int .u16 (ins : Nat), .int .i64 (b2 : Nat), .int .i64 (d2 : Nat), .int .i64 (p2 : Nat), .int .i64 (x2 : Nat)] _ rfl HRG.out Try.underlying116 rfl (by kernel_rfl)) rfl ?_
  exact ⟨rfl, ((Below.refl _ _).alloc (Nat.le_refl _) _).alloc (by simp) _⟩
end Go.Proofs.Ytjaheelgcjafcaa
namespace Go.Proofs.Ytjaheelgcjafcaa
open Go.RowKit
theorem zero_any (T : TypeId) (Z : Value) (h : (Try.prog.info? T).map (fun i => i.zero) = some (some Z)) (w : World) : (zeroValue T).run Try.prog w = .ok Z w := by
  cases hi : Try.prog.info? T with
  | none => rw [hi] at h; cases h
  | some i =>
    rw [hi] at h
    have hz : i.zero = some Z := by simpa using h
    simp [zeroValue, run_typeInfo w hi, hz]
theorem ta_no_st (T A : TypeId) (fs : Array Field) (Z v : Value) (hu : Try.prog.underlying A = some (.struct fs)) (hz : (Try.prog.info? A).map (fun i => i.zero) = some (some Z)) (hne : T ≠ A) (w : World) : (Instr.typeAssert (.iface T v) 110 A true).run Try.prog w = .ok (.tuple #[Z, .bool false]) w := by
  simp only [Instr.typeAssert, Sem.run_bind, Result.andThen_ok, run_underlying hu]
  rw [if_neg hne]
  simp [zero_any A Z hz]
theorem ta_no_sl (T A e : TypeId) (Z v : Value) (hu : Try.prog.underlying A = some (.slice e)) (hz : (Try.prog.info? A).map (fun i => i.zero) = some (some Z)) (hne : T ≠ A) (w : World) : (Instr.typeAssert (.iface T v) 110 A true).run Try.prog w = .ok (.tuple #[Z, .bool false]) w := by
  simp only [Instr.typeAssert, Sem.run_bind, Result.andThen_ok, run_underlying hu]
  rw [if_neg hne]
  simp [zero_any A Z hz]
theorem ta_no_in (T A : TypeId) (k : IntKind) (Z v : Value) (hu : Try.prog.underlying A = some (.int k)) (hz : (Try.prog.info? A).map (fun i => i.zero) = some (some Z)) (hne : T ≠ A) (w : World) : (Instr.typeAssert (.iface T v) 110 A true).run Try.prog w = .ok (.tuple #[Z, .bool false]) w := by
  simp only [Instr.typeAssert, Sem.run_bind, Result.andThen_ok, run_underlying hu]
  rw [if_neg hne]
  simp [zero_any A Z hz]
theorem ta_yes_st (A : TypeId) (fs : Array Field) (v : Value) (hu : Try.prog.underlying A = some (.struct fs)) (w : World) : (Instr.typeAssert (.iface A v) 110 A true).run Try.prog w = .ok (.tuple #[v, .bool true]) w := by
  simp only [Instr.typeAssert, Sem.run_bind, Result.andThen_ok, run_underlying hu]
  simp
theorem ta_yes_sl (A e : TypeId) (v : Value) (hu : Try.prog.underlying A = some (.slice e)) (w : World) : (Instr.typeAssert (.iface A v) 110 A true).run Try.prog w = .ok (.tuple #[v, .bool true]) w := by
  simp only [Instr.typeAssert, Sem.run_bind, Result.andThen_ok, run_underlying hu]
  simp
theorem ta_yes_in (A : TypeId) (k : IntKind) (v : Value) (hu : Try.prog.underlying A = some (.int k)) (w : World) : (Instr.typeAssert (.iface A v) 110 A true).run Try.prog w = .ok (.tuple #[v, .bool true]) w := by
  simp only [Instr.typeAssert, Sem.run_bind, Result.andThen_ok, run_underlying hu]
  simp
end Go.Proofs.Ytjaheelgcjafcaa
