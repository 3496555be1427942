/- What chunk.valueOf, shapeOf, chunkOf, lacksData, hasTooMany answer, kind by kind. -/
import Derived.Test.YtlgfbcfogcmdbaaDoorChB
namespace Go.Proofs.YtlgfbcfogcmdbaaDoor
open Go.RowKit
set_option linter.unusedVariables false in
set_option maxRecDepth 100000 in
set_option maxHeartbeats 2000000 in
theorem valueOf_data (kind flags tsn stream ssn ppid tag room outs ins : Nat) (b1 : Option Addr) (b2 b3 : Nat) (d1 : Option Addr) (d2 d3 : Nat) (p1 : Option Addr) (p2 p3 : Nat) (x1 : Option Addr) (x2 x3 : Nat) (w : World) (hk : kind = 0) :
    Calls Tryd.prog 26 #[.agg #[.int .u8 (kind : Nat), .int .u8 (flags : Nat), .int .u32 (tsn : Nat), .int .u16 (stream : Nat), .int .u16 (ssn : Nat), .int .u32 (ppid : Nat), .int .u32 (tag : Nat), .int .u32 (room : Nat), .int .u16 (outs : Nat), .int .u16 (ins : Nat), .slice b1 b2 b3, .slice d1 d2 d3, .slice p1 p2 p3, .slice x1 x2 x3]] w fun e w' => e = .returned (.iface 92 (.agg #[.int .u32 (tsn : Nat), .int .u16 (stream : Nat), .int .u16 (ssn : Nat), .int .u32 (ppid : Nat), .slice x1 x2 x3])) ∧ Below w.heap.size w w' := by
  subst hk
  go_enter Tryd.func26, Tryd.ntmps26
  go_wp2
  go_ret
  exact ⟨rfl, (Below.refl _ _).alloc (Nat.le_refl _) _⟩
set_option linter.unusedVariables false in
set_option maxRecDepth 100000 in
set_option maxHeartbeats 2000000 in
theorem valueOf_init (kind flags tsn stream ssn ppid tag room outs ins : Nat) (b1 : Option Addr) (b2 b3 : Nat) (d1 : Option Addr) (d2 d3 : Nat) (p1 : Option Addr) (p2 p3 : Nat) (x1 : Option Addr) (x2 x3 : Nat) (w : World) (hk : kind = 1 ∨ kind = 2) :
    Calls Tryd.prog 26 #[.agg #[.int .u8 (kind : Nat), .int .u8 (flags : Nat), .int .u32 (tsn : Nat), .int .u16 (stream : Nat), .int .u16 (ssn : Nat), .int .u32 (ppid : Nat), .int .u32 (tag : Nat), .int .u32 (room : Nat), .int .u16 (outs : Nat), .int .u16 (ins : Nat), .slice b1 b2 b3, .slice d1 d2 d3, .slice p1 p2 p3, .slice x1 x2 x3]] w fun e w' => e = .returned (.iface 95 (.agg #[.int .u32 (tag : Nat), .int .u32 (room : Nat), .int .u16 (outs : Nat), .int .u16 (ins : Nat), .int .u32 (tsn : Nat), .slice p1 p2 p3])) ∧ Below w.heap.size w w' := by
  rcases hk with rfl | rfl
  · go_enter Tryd.func26, Tryd.ntmps26
    go_wp2
    go_ret
    exact ⟨rfl, (Below.refl _ _).alloc (Nat.le_refl _) _⟩
  · go_enter Tryd.func26, Tryd.ntmps26
    go_wp2
    go_ret
    exact ⟨rfl, (Below.refl _ _).alloc (Nat.le_refl _) _⟩
set_option linter.unusedVariables false in
set_option maxRecDepth 100000 in
set_option maxHeartbeats 2000000 in
theorem valueOf_sack (kind flags tsn stream ssn ppid tag room outs ins : Nat) (b1 : Option Addr) (b2 b3 : Nat) (d1 : Option Addr) (d2 d3 : Nat) (p1 : Option Addr) (p2 p3 : Nat) (x1 : Option Addr) (x2 x3 : Nat) (w : World) (hk : kind = 3) :
    Calls Tryd.prog 26 #[.agg #[.int .u8 (kind : Nat), .int .u8 (flags : Nat), .int .u32 (tsn : Nat), .int .u16 (stream : Nat), .int .u16 (ssn : Nat), .int .u32 (ppid : Nat), .int .u32 (tag : Nat), .int .u32 (room : Nat), .int .u16 (outs : Nat), .int .u16 (ins : Nat), .slice b1 b2 b3, .slice d1 d2 d3, .slice p1 p2 p3, .slice x1 x2 x3]] w fun e w' => e = .returned (.iface 97 (.agg #[.int .u32 (tsn : Nat), .int .u32 (room : Nat), .slice b1 b2 b3, .slice d1 d2 d3])) ∧ Below w.heap.size w w' := by
  subst hk
  go_enter Tryd.func26, Tryd.ntmps26
  go_wp2
  go_ret
  exact ⟨rfl, (Below.refl _ _).alloc (Nat.le_refl _) _⟩
set_option linter.unusedVariables false in
set_option maxRecDepth 100000 in
set_option maxHeartbeats 2000000 in
theorem valueOf_prms (kind flags tsn stream ssn ppid tag room outs ins : Nat) (b1 : Option Addr) (b2 b3 : Nat) (d1 : Option Addr) (d2 d3 : Nat) (p1 : Option Addr) (p2 p3 : Nat) (x1 : Option Addr) (x2 x3 : Nat) (w : World) (hk : kind = 4 ∨ kind = 5 ∨ kind = 6 ∨ kind = 9) :
    Calls Tryd.prog 26 #[.agg #[.int .u8 (kind : Nat), .int .u8 (flags : Nat), .int .u32 (tsn : Nat), .int .u16 (stream : Nat), .int .u16 (ssn : Nat), .int .u32 (ppid : Nat), .int .u32 (tag : Nat), .int .u32 (room : Nat), .int .u16 (outs : Nat), .int .u16 (ins : Nat), .slice b1 b2 b3, .slice d1 d2 d3, .slice p1 p2 p3, .slice x1 x2 x3]] w fun e w' => e = .returned (.iface 93 (.slice p1 p2 p3)) ∧ Below w.heap.size w w' := by
  rcases hk with rfl | rfl | rfl | rfl
  · go_enter Tryd.func26, Tryd.ntmps26
    go_wp2
    go_ret
    exact ⟨rfl, (Below.refl _ _).alloc (Nat.le_refl _) _⟩
  · go_enter Tryd.func26, Tryd.ntmps26
    go_wp2
    go_ret
    exact ⟨rfl, (Below.refl _ _).alloc (Nat.le_refl _) _⟩
  · go_enter Tryd.func26, Tryd.ntmps26
    go_wp2
    go_ret
    exact ⟨rfl, (Below.refl _ _).alloc (Nat.le_refl _) _⟩
  · go_enter Tryd.func26, Tryd.ntmps26
    go_wp2
    go_ret
    exact ⟨rfl, (Below.refl _ _).alloc (Nat.le_refl _) _⟩
set_option linter.unusedVariables false in
set_option maxRecDepth 100000 in
set_option maxHeartbeats 2000000 in
theorem valueOf_tsnv (kind flags tsn stream ssn ppid tag room outs ins : Nat) (b1 : Option Addr) (b2 b3 : Nat) (d1 : Option Addr) (d2 d3 : Nat) (p1 : Option Addr) (p2 p3 : Nat) (x1 : Option Addr) (x2 x3 : Nat) (w : World) (hk : kind = 7) :
    Calls Tryd.prog 26 #[.agg #[.int .u8 (kind : Nat), .int .u8 (flags : Nat), .int .u32 (tsn : Nat), .int .u16 (stream : Nat), .int .u16 (ssn : Nat), .int .u32 (ppid : Nat), .int .u32 (tag : Nat), .int .u32 (room : Nat), .int .u16 (outs : Nat), .int .u16 (ins : Nat), .slice b1 b2 b3, .slice d1 d2 d3, .slice p1 p2 p3, .slice x1 x2 x3]] w fun e w' => e = .returned (.iface 98 (.int .u32 (tsn : Nat))) ∧ Below w.heap.size w w' := by
  subst hk
  go_enter Tryd.func26, Tryd.ntmps26
  go_wp2
  go_ret
  exact ⟨rfl, (Below.refl _ _).alloc (Nat.le_refl _) _⟩
set_option linter.unusedVariables false in
set_option maxRecDepth 100000 in
set_option maxHeartbeats 2000000 in
theorem valueOf_none (kind flags tsn stream ssn ppid tag room outs ins : Nat) (b1 : Option Addr) (b2 b3 : Nat) (d1 : Option Addr) (d2 d3 : Nat) (p1 : Option Addr) (p2 p3 : Nat) (x1 : Option Addr) (x2 x3 : Nat) (w : World) (hk : kind = 8 ∨ kind = 11 ∨ kind = 14) :
    Calls Tryd.prog 26 #[.agg #[.int .u8 (kind : Nat), .int .u8 (flags : Nat), .int .u32 (tsn : Nat), .int .u16 (stream : Nat), .int .u16 (ssn : Nat), .int .u32 (ppid : Nat), .int .u32 (tag : Nat), .int .u32 (room : Nat), .int .u16 (outs : Nat), .int .u16 (ins : Nat), .slice b1 b2 b3, .slice d1 d2 d3, .slice p1 p2 p3, .slice x1 x2 x3]] w fun e w' => e = .returned (.iface 100 (.agg #[])) ∧ Below w.heap.size w w' := by
  rcases hk with rfl | rfl | rfl
  · go_enter Tryd.func26, Tryd.ntmps26
    go_wp2
    go_ret
    exact ⟨rfl, (Below.refl _ _).alloc (Nat.le_refl _) _⟩
  · go_enter Tryd.func26, Tryd.ntmps26
    go_wp2
    go_ret
    exact ⟨rfl, (Below.refl _ _).alloc (Nat.le_refl _) _⟩
  · go_enter Tryd.func26, Tryd.ntmps26
    go_wp2
    go_ret
    exact ⟨rfl, (Below.refl _ _).alloc (Nat.le_refl _) _⟩
set_option linter.unusedVariables false in
set_option maxRecDepth 100000 in
set_option maxHeartbeats 2000000 in
theorem valueOf_raw (kind flags tsn stream ssn ppid tag room outs ins : Nat) (b1 : Option Addr) (b2 b3 : Nat) (d1 : Option Addr) (d2 d3 : Nat) (p1 : Option Addr) (p2 p3 : Nat) (x1 : Option Addr) (x2 x3 : Nat) (w : World) (hk : ¬ kind = 0 ∧ ¬ kind = 1 ∧ ¬ kind = 2 ∧ ¬ kind = 3 ∧ ¬ kind = 4 ∧ ¬ kind = 5 ∧ ¬ kind = 6 ∧ ¬ kind = 7 ∧ ¬ kind = 8 ∧ ¬ kind = 9 ∧ ¬ kind = 11 ∧ ¬ kind = 14) :
    Calls Tryd.prog 26 #[.agg #[.int .u8 (kind : Nat), .int .u8 (flags : Nat), .int .u32 (tsn : Nat), .int .u16 (stream : Nat), .int .u16 (ssn : Nat), .int .u32 (ppid : Nat), .int .u32 (tag : Nat), .int .u32 (room : Nat), .int .u16 (outs : Nat), .int .u16 (ins : Nat), .slice b1 b2 b3, .slice d1 d2 d3, .slice p1 p2 p3, .slice x1 x2 x3]] w fun e w' => e = .returned (.iface 101 (.slice x1 x2 x3)) ∧ Below w.heap.size w w' := by
  obtain ⟨h0, h1, h2, h3, h4, h5, h6, h7, h8, h9, h11, h14⟩ := hk
  have g0 : ¬ (kind : Int) = 0 := by omega
  have g1 : ¬ (kind : Int) = 1 := by omega
  have g2 : ¬ (kind : Int) = 2 := by omega
  have g3 : ¬ (kind : Int) = 3 := by omega
  have g4 : ¬ (kind : Int) = 4 := by omega
  have g5 : ¬ (kind : Int) = 5 := by omega
  have g6 : ¬ (kind : Int) = 6 := by omega
  have g7 : ¬ (kind : Int) = 7 := by omega
  have g8 : ¬ (kind : Int) = 8 := by omega
  have g9 : ¬ (kind : Int) = 9 := by omega
  have g11 : ¬ (kind : Int) = 11 := by omega
  have g14 : ¬ (kind : Int) = 14 := by omega
  go_enter Tryd.func26, Tryd.ntmps26
  go_wp2
  go_ret
  exact ⟨rfl, (Below.refl _ _).alloc (Nat.le_refl _) _⟩
end Go.Proofs.YtlgfbcfogcmdbaaDoor
