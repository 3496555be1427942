/- chunk.chunkOf, one kind. -/
import Derived.Test.YtjaheelgcjafcaaKG
namespace Go.Proofs.Ytjaheelgcjafcaa
open Go.RowKit
set_option linter.unusedVariables false in
set_option maxRecDepth 100000 in
set_option maxHeartbeats 4000000 in
theorem chunkOf_data (kind flags tsn stream ssn ppid tag room outs ins : Nat) (b1 : Option Addr) (b2 b3 : Nat) (d1 : Option Addr) (d2 d3 : Nat) (p1 : Option Addr) (p2 p3 : Nat) (x1 : Option Addr) (x2 x3 : Nat) (w : World) (v1 v2 v3 : Value) (h1 : v1 = .int .u8 (kind : Nat)) (h2 : v2 = .int .u8 (flags : Nat)) (h3 : v3 = .iface 134 (.agg #[.int .u32 (tsn : Nat), .int .u16 (stream : Nat), .int .u16 (ssn : Nat), .int .u32 (ppid : Nat), .slice x1 x2 x3])) :
    Calls Try.prog 54 #[v1, v2, v3] w fun e w' => e = .returned (.agg #[.int .u8 (kind : Nat), .int .u8 (flags : Nat), .int .u32 (tsn : Nat), .int .u16 (stream : Nat), .int .u16 (ssn : Nat), .int .u32 (ppid : Nat), .int .u32 0, .int .u32 0, .int .u16 0, .int .u16 0, .slice none 0 0, .slice none 0 0, .slice none 0 0, .slice x1 x2 x3]) ∧ Below w.heap.size w w' := by
  subst h1 h2 h3
  have tdata := fun (v : Value) (w : World) => ta_yes_st 134 _ v Try.underlying134 w
  go_enter Try.func54, Try.ntmps54
  have HRG : Hid (∀ W, Below (w.alloc (.cells #[.int .u8 (kind : Nat), .int .u8 (flags : Nat), .int .u32 (tsn : Nat), .int .u16 (stream : Nat), .int .u16 (ssn : Nat), .int .u32 (ppid : Nat), .int .u32 0, .int .u32 0, .int .u16 0, .int .u16 0, .slice none 0 0, .slice none 0 0, .slice none 0 0, .slice x1 x2 x3] 47)).heap.size (w.alloc (.cells #[.int .u8 (kind : Nat), .int .u8 (flags : Nat), .int .u32 (tsn : Nat), .int .u16 (stream : Nat), .int .u16 (ssn : Nat), .int .u32 (ppid : Nat), .int .u32 0, .int .u32 0, .int .u16 0, .int .u16 0, .slice none 0 0, .slice none 0 0, .slice none 0 0, .slice x1 x2 x3] 47)) W → W.rangeAt w.heap.size 0 [.int .u8 (kind : Nat), .int .u8 (flags : Nat), .int .u32 (tsn : Nat), .int .u16 (stream : Nat), .int .u16 (ssn : Nat), .int .u32 (ppid : Nat), .int .u32 0, .int .u32 0, .int .u16 0, .int .u16 0, .slice none 0 0, .slice none 0 0, .slice none 0 0, .slice x1 x2 x3]) := fun W hW => ((Stc.new w [.int .u8 (kind : Nat), .int .u8 (flags : Nat), .int .u32 (tsn : Nat), .int .u16 (stream : Nat), .int .u16 (ssn : Nat), .int .u32 (ppid : Nat), .int .u32 0, .int .u32 0, .int .u16 0, .int .u16 0, .slice none 0 0, .slice none 0 0, .slice none 0 0, .slice x1 x2 x3] 47 _ rfl).below hW).range
  go_wp2
  go_region
  all_goals
    go_wp2
    try simp only [Exit.inBlock, Exit.then]
    refine bodyPost_ret (results_cellE rfl _ _ w.heap.size 0 [.int .u8 (kind : Nat), .int .u8 (flags : Nat), .int .u32 (tsn : Nat), .int .u16 (stream : Nat), .int .u16 (ssn : Nat), .int .u32 (ppid : Nat), .int .u32 0, .int .u32 0, .int .u16 0, .int .u16 0, .slice none 0 0, .slice none 0 0, .slice none 0 0, .slice x1 x2 x3] _ rfl (HRG.out _ (by first | exact (((Below.refl _ _).alloc (Nat.le_refl _) _).alloc (by simp) _).drew | exact ((Below.refl _ _).alloc (Nat.le_refl _) _).alloc (by simp) _ | exact ((Below.refl _ _).alloc (Nat.le_refl _) _).drew | exact (Below.refl _ _).alloc (Nat.le_refl _) _)) Try.underlying47 rfl (by kernel_rfl)) rfl ?_
    exact ⟨rfl, by first | exact ((((Below.refl _ _).alloc (Nat.le_refl _) _).alloc (by simp) _).alloc (by simp; omega) _).drew | exact (((Below.refl _ _).alloc (Nat.le_refl _) _).alloc (by simp) _).alloc (by simp; omega) _ | exact (((Below.refl _ _).alloc (Nat.le_refl _) _).alloc (by simp) _).drew | exact ((Below.refl _ _).alloc (Nat.le_refl _) _).alloc (by simp) _⟩
end Go.Proofs.Ytjaheelgcjafcaa
namespace Go.Proofs.Ytjaheelgcjafcaa
open Go.RowKit
set_option linter.unusedVariables false in
set_option maxRecDepth 100000 in
set_option maxHeartbeats 4000000 in
theorem chunkOf_sack (kind flags tsn stream ssn ppid tag room outs ins : Nat) (b1 : Option Addr) (b2 b3 : Nat) (d1 : Option Addr) (d2 d3 : Nat) (p1 : Option Addr) (p2 p3 : Nat) (x1 : Option Addr) (x2 x3 : Nat) (w : World) (v1 v2 v3 : Value) (h1 : v1 = .int .u8 (kind : Nat)) (h2 : v2 = .int .u8 (flags : Nat)) (h3 : v3 = .iface 139 (.agg #[.int .u32 (tsn : Nat), .int .u32 (room : Nat), .slice b1 b2 b3, .slice d1 d2 d3])) :
    Calls Try.prog 54 #[v1, v2, v3] w fun e w' => e = .returned (.agg #[.int .u8 (kind : Nat), .int .u8 (flags : Nat), .int .u32 (tsn : Nat), .int .u16 0, .int .u16 0, .int .u32 0, .int .u32 0, .int .u32 (room : Nat), .int .u16 0, .int .u16 0, .slice b1 b2 b3, .slice d1 d2 d3, .slice none 0 0, .slice none 0 0]) ∧ Below w.heap.size w w' := by
  subst h1 h2 h3
  have tdata := fun (v : Value) (w : World) => ta_no_st 139 134 _ (.agg #[.int .u32 0, .int .u16 0, .int .u16 0, .int .u32 0, .slice none 0 0]) v Try.underlying134 (by kernel_rfl) (by decide) w
  have tinit := fun (v : Value) (w : World) => ta_no_st 139 137 _ (.agg #[.int .u32 0, .int .u32 0, .int .u16 0, .int .u16 0, .int .u32 0, .slice none 0 0]) v Try.underlying137 (by kernel_rfl) (by decide) w
  have tsack := fun (v : Value) (w : World) => ta_yes_st 139 _ v Try.underlying139 w
  go_enter Try.func54, Try.ntmps54
  have HRG : Hid (∀ W, Below (w.alloc (.cells #[.int .u8 (kind : Nat), .int .u8 (flags : Nat), .int .u32 (tsn : Nat), .int .u16 0, .int .u16 0, .int .u32 0, .int .u32 0, .int .u32 (room : Nat), .int .u16 0, .int .u16 0, .slice b1 b2 b3, .slice d1 d2 d3, .slice none 0 0, .slice none 0 0] 47)).heap.size (w.alloc (.cells #[.int .u8 (kind : Nat), .int .u8 (flags : Nat), .int .u32 (tsn : Nat), .int .u16 0, .int .u16 0, .int .u32 0, .int .u32 0, .int .u32 (room : Nat), .int .u16 0, .int .u16 0, .slice b1 b2 b3, .slice d1 d2 d3, .slice none 0 0, .slice none 0 0] 47)) W → W.rangeAt w.heap.size 0 [.int .u8 (kind : Nat), .int .u8 (flags : Nat), .int .u32 (tsn : Nat), .int .u16 0, .int .u16 0, .int .u32 0, .int .u32 0, .int .u32 (room : Nat), .int .u16 0, .int .u16 0, .slice b1 b2 b3, .slice d1 d2 d3, .slice none 0 0, .slice none 0 0]) := fun W hW => ((Stc.new w [.int .u8 (kind : Nat), .int .u8 (flags : Nat), .int .u32 (tsn : Nat), .int .u16 0, .int .u16 0, .int .u32 0, .int .u32 0, .int .u32 (room : Nat), .int .u16 0, .int .u16 0, .slice b1 b2 b3, .slice d1 d2 d3, .slice none 0 0, .slice none 0 0] 47 _ rfl).below hW).range
  go_wp2
  go_region
  all_goals
    go_wp2
    try simp only [Exit.inBlock, Exit.then]
    refine bodyPost_ret (results_cellE rfl _ _ w.heap.size 0 [.int .u8 (kind : Nat), .int .u8 (flags : Nat), .int .u32 (tsn : Nat), .int .u16 0, .int .u16 0, .int .u32 0, .int .u32 0, .int .u32 (room : Nat), .int .u16 0, .int .u16 0, .slice b1 b2 b3, .slice d1 d2 d3, .slice none 0 0, .slice none 0 0] _ rfl (HRG.out _ (by first | exact (((Below.refl _ _).alloc (Nat.le_refl _) _).alloc (by simp) _).drew | exact ((Below.refl _ _).alloc (Nat.le_refl _) _).alloc (by simp) _ | exact ((Below.refl _ _).alloc (Nat.le_refl _) _).drew | exact (Below.refl _ _).alloc (Nat.le_refl _) _)) Try.underlying47 rfl (by kernel_rfl)) rfl ?_
    exact ⟨rfl, by first | exact ((((Below.refl _ _).alloc (Nat.le_refl _) _).alloc (by simp) _).alloc (by simp; omega) _).drew | exact (((Below.refl _ _).alloc (Nat.le_refl _) _).alloc (by simp) _).alloc (by simp; omega) _ | exact (((Below.refl _ _).alloc (Nat.le_refl _) _).alloc (by simp) _).drew | exact ((Below.refl _ _).alloc (Nat.le_refl _) _).alloc (by simp) _⟩
end Go.Proofs.Ytjaheelgcjafcaa
namespace Go.Proofs.Ytjaheelgcjafcaa
open Go.RowKit
set_option linter.unusedVariables false in
set_option maxRecDepth 100000 in
set_option maxHeartbeats 4000000 in
theorem chunkOf_prms (kind flags tsn stream ssn ppid tag room outs ins : Nat) (b1 : Option Addr) (b2 b3 : Nat) (d1 : Option Addr) (d2 d3 : Nat) (p1 : Option Addr) (p2 p3 : Nat) (x1 : Option Addr) (x2 x3 : Nat) (w : World) (v1 v2 v3 : Value) (h1 : v1 = .int .u8 (kind : Nat)) (h2 : v2 = .int .u8 (flags : Nat)) (h3 : v3 = .iface 135 (.slice p1 p2 p3)) :
    Calls Try.prog 54 #[v1, v2, v3] w fun e w' => e = .returned (.agg #[.int .u8 (kind : Nat), .int .u8 (flags : Nat), .int .u32 0, .int .u16 0, .int .u16 0, .int .u32 0, .int .u32 0, .int .u32 0, .int .u16 0, .int .u16 0, .slice none 0 0, .slice none 0 0, .slice p1 p2 p3, .slice none 0 0]) ∧ Below w.heap.size w w' := by
  subst h1 h2 h3
  have tdata := fun (v : Value) (w : World) => ta_no_st 135 134 _ (.agg #[.int .u32 0, .int .u16 0, .int .u16 0, .int .u32 0, .slice none 0 0]) v Try.underlying134 (by kernel_rfl) (by decide) w
  have tinit := fun (v : Value) (w : World) => ta_no_st 135 137 _ (.agg #[.int .u32 0, .int .u32 0, .int .u16 0, .int .u16 0, .int .u32 0, .slice none 0 0]) v Try.underlying137 (by kernel_rfl) (by decide) w
  have tsack := fun (v : Value) (w : World) => ta_no_st 135 139 _ (.agg #[.int .u32 0, .int .u32 0, .slice none 0 0, .slice none 0 0]) v Try.underlying139 (by kernel_rfl) (by decide) w
  have tprms := fun (v : Value) (w : World) => ta_yes_sl 135 _ v Try.underlying135 w
  go_enter Try.func54, Try.ntmps54
  have HRG : Hid (∀ W, Below (w.alloc (.cells #[.int .u8 (kind : Nat), .int .u8 (flags : Nat), .int .u32 0, .int .u16 0, .int .u16 0, .int .u32 0, .int .u32 0, .int .u32 0, .int .u16 0, .int .u16 0, .slice none 0 0, .slice none 0 0, .slice p1 p2 p3, .slice none 0 0] 47)).heap.size (w.alloc (.cells #[.int .u8 (kind : Nat), .int .u8 (flags : Nat), .int .u32 0, .int .u16 0, .int .u16 0, .int .u32 0, .int .u32 0, .int .u32 0, .int .u16 0, .int .u16 0, .slice none 0 0, .slice none 0 0, .slice p1 p2 p3, .slice none 0 0] 47)) W → W.rangeAt w.heap.size 0 [.int .u8 (kind : Nat), .int .u8 (flags : Nat), .int .u32 0, .int .u16 0, .int .u16 0, .int .u32 0, .int .u32 0, .int .u32 0, .int .u16 0, .int .u16 0, .slice none 0 0, .slice none 0 0, .slice p1 p2 p3, .slice none 0 0]) := fun W hW => ((Stc.new w [.int .u8 (kind : Nat), .int .u8 (flags : Nat), .int .u32 0, .int .u16 0, .int .u16 0, .int .u32 0, .int .u32 0, .int .u32 0, .int .u16 0, .int .u16 0, .slice none 0 0, .slice none 0 0, .slice p1 p2 p3, .slice none 0 0] 47 _ rfl).below hW).range
  go_wp2
  all_goals
    try simp only [Exit.inBlock, Exit.then]
    refine bodyPost_ret (results_cellE rfl _ _ w.heap.size 0 [.int .u8 (kind : Nat), .int .u8 (flags : Nat), .int .u32 0, .int .u16 0, .int .u16 0, .int .u32 0, .int .u32 0, .int .u32 0, .int .u16 0, .int .u16 0, .slice none 0 0, .slice none 0 0, .slice p1 p2 p3, .slice none 0 0] _ rfl (HRG.out _ (by first | exact (((Below.refl _ _).alloc (Nat.le_refl _) _).alloc (by simp) _).drew | exact ((Below.refl _ _).alloc (Nat.le_refl _) _).alloc (by simp) _ | exact ((Below.refl _ _).alloc (Nat.le_refl _) _).drew | exact (Below.refl _ _).alloc (Nat.le_refl _) _)) Try.underlying47 rfl (by kernel_rfl)) rfl ?_
    exact ⟨rfl, by first | exact ((((Below.refl _ _).alloc (Nat.le_refl _) _).alloc (by simp) _).alloc (by simp; omega) _).drew | exact (((Below.refl _ _).alloc (Nat.le_refl _) _).alloc (by simp) _).alloc (by simp; omega) _ | exact (((Below.refl _ _).alloc (Nat.le_refl _) _).alloc (by simp) _).drew | exact ((Below.refl _ _).alloc (Nat.le_refl _) _).alloc (by simp) _⟩
end Go.Proofs.Ytjaheelgcjafcaa
