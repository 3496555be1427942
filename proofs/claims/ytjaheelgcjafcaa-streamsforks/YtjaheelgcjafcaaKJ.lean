/- What chunk.padding, the sizes and space answer. -/
import Derived.Test.YtjaheelgcjafcaaKG
import Derived.Test.YtjaheelgcjafcaaKH
import Derived.Test.YtjaheelgcjafcaaKI
namespace Go.Proofs.Ytjaheelgcjafcaa
open Go.RowKit
set_option linter.unusedVariables false in
set_option maxRecDepth 100000 in
set_option maxHeartbeats 4000000 in
theorem chunkOf_tsnv (kind flags tsn stream ssn ppid tag room outs ins : Nat) (b1 : Option Addr) (b2 b3 : Nat) (d1 : Option Addr) (d2 d3 : Nat) (p1 : Option Addr) (p2 p3 : Nat) (x1 : Option Addr) (x2 x3 : Nat) (w : World) (v1 v2 v3 : Value) (h1 : v1 = .int .u8 (kind : Nat)) (h2 : v2 = .int .u8 (flags : Nat)) (h3 : v3 = .iface 140 (.int .u32 (tsn : Nat))) :
    Calls Try.prog 54 #[v1, v2, v3] w fun e w' => e = .returned (.agg #[.int .u8 (kind : Nat), .int .u8 (flags : Nat), .int .u32 (tsn : Nat), .int .u16 0, .int .u16 0, .int .u32 0, .int .u32 0, .int .u32 0, .int .u16 0, .int .u16 0, .slice none 0 0, .slice none 0 0, .slice none 0 0, .slice none 0 0]) ∧ Below w.heap.size w w' := by
  subst h1 h2 h3
  have tdata := fun (v : Value) (w : World) => ta_no_st 140 134 _ (.agg #[.int .u32 0, .int .u16 0, .int .u16 0, .int .u32 0, .slice none 0 0]) v Try.underlying134 (by kernel_rfl) (by decide) w
  have tinit := fun (v : Value) (w : World) => ta_no_st 140 137 _ (.agg #[.int .u32 0, .int .u32 0, .int .u16 0, .int .u16 0, .int .u32 0, .slice none 0 0]) v Try.underlying137 (by kernel_rfl) (by decide) w
  have tsack := fun (v : Value) (w : World) => ta_no_st 140 139 _ (.agg #[.int .u32 0, .int .u32 0, .slice none 0 0, .slice none 0 0]) v Try.underlying139 (by kernel_rfl) (by decide) w
  have tprms := fun (v : Value) (w : World) => ta_no_sl 140 135 _ (.slice none 0 0) v Try.underlying135 (by kernel_rfl) (by decide) w
  have ttsnv := fun (v : Value) (w : World) => ta_yes_in 140 _ v Try.underlying140 w
  go_enter Try.func54, Try.ntmps54
  have HRG : Hid (∀ W, Below (w.alloc (.cells #[.int .u8 (kind : Nat), .int .u8 (flags : Nat), .int .u32 (tsn : Nat), .int .u16 0, .int .u16 0, .int .u32 0, .int .u32 0, .int .u32 0, .int .u16 0, .int .u16 0, .slice none 0 0, .slice none 0 0, .slice none 0 0, .slice none 0 0] 47)).heap.size (w.alloc (.cells #[.int .u8 (kind : Nat), .int .u8 (flags : Nat), .int .u32 (tsn : Nat), .int .u16 0, .int .u16 0, .int .u32 0, .int .u32 0, .int .u32 0, .int .u16 0, .int .u16 0, .slice none 0 0, .slice none 0 0, .slice none 0 0, .slice none 0 0] 47)) W → W.rangeAt w.heap.size 0 [.int .u8 (kind : Nat), .int .u8 (flags : Nat), .int .u32 (tsn : Nat), .int .u16 0, .int .u16 0, .int .u32 0, .int .u32 0, .int .u32 0, .int .u16 0, .int .u16 0, .slice none 0 0, .slice none 0 0, .slice none 0 0, .slice none 0 0]) := fun W hW => ((Stc.new w [.int .u8 (kind : Nat), .int .u8 (flags : Nat), .int .u32 (tsn : Nat), .int .u16 0, .int .u16 0, .int .u32 0, .int .u32 0, .int .u32 0, .int .u16 0, .int .u16 0, .slice none 0 0, .slice none 0 0, .slice none 0 0, .slice none 0 0] 47 _ rfl).below hW).range
  go_wp2
  all_goals
    try simp only [Exit.inBlock, Exit.then]
    refine bodyPost_ret (results_cellE rfl _ _ w.heap.size 0 [.int .u8 (kind : Nat), .int .u8 (flags : Nat), .int .u32 (tsn : Nat), .int .u16 0, .int .u16 0, .int .u32 0, .int .u32 0, .int .u32 0, .int .u16 0, .int .u16 0, .slice none 0 0, .slice none 0 0, .slice none 0 0, .slice none 0 0] _ rfl (HRG.out _ (by first | exact (((Below.refl _ _).alloc (Nat.le_refl _) _).alloc (by simp) _).drew | exact ((Below.refl _ _).alloc (Nat.le_refl _) _).alloc (by simp) _ | exact ((Below.refl _ _).alloc (Nat.le_refl _) _).drew | exact (Below.refl _ _).alloc (Nat.le_refl _) _)) Try.underlying47 rfl (by kernel_rfl)) rfl ?_
    exact ⟨rfl, by first | exact ((((Below.refl _ _).alloc (Nat.le_refl _) _).alloc (by simp) _).alloc (by simp; omega) _).drew | exact (((Below.refl _ _).alloc (Nat.le_refl _) _).alloc (by simp) _).alloc (by simp; omega) _ | exact (((Below.refl _ _).alloc (Nat.le_refl _) _).alloc (by simp) _).drew | exact ((Below.refl _ _).alloc (Nat.le_refl _) _).alloc (by simp) _⟩
end Go.Proofs.Ytjaheelgcjafcaa
namespace Go.Proofs.Ytjaheelgcjafcaa
open Go.RowKit
set_option linter.unusedVariables false in
set_option maxRecDepth 100000 in
set_option maxHeartbeats 4000000 in
theorem chunkOf_none (kind flags tsn stream ssn ppid tag room outs ins : Nat) (b1 : Option Addr) (b2 b3 : Nat) (d1 : Option Addr) (d2 d3 : Nat) (p1 : Option Addr) (p2 p3 : Nat) (x1 : Option Addr) (x2 x3 : Nat) (w : World) (v1 v2 v3 : Value) (h1 : v1 = .int .u8 (kind : Nat)) (h2 : v2 = .int .u8 (flags : Nat)) (h3 : v3 = .iface 142 (.agg #[])) :
    Calls Try.prog 54 #[v1, v2, v3] w fun e w' => e = .returned (.agg #[.int .u8 (kind : Nat), .int .u8 (flags : Nat), .int .u32 0, .int .u16 0, .int .u16 0, .int .u32 0, .int .u32 0, .int .u32 0, .int .u16 0, .int .u16 0, .slice none 0 0, .slice none 0 0, .slice none 0 0, .slice none 0 0]) ∧ Below w.heap.size w w' := by
  subst h1 h2 h3
  have tdata := fun (v : Value) (w : World) => ta_no_st 142 134 _ (.agg #[.int .u32 0, .int .u16 0, .int .u16 0, .int .u32 0, .slice none 0 0]) v Try.underlying134 (by kernel_rfl) (by decide) w
  have tinit := fun (v : Value) (w : World) => ta_no_st 142 137 _ (.agg #[.int .u32 0, .int .u32 0, .int .u16 0, .int .u16 0, .int .u32 0, .slice none 0 0]) v Try.underlying137 (by kernel_rfl) (by decide) w
  have tsack := fun (v : Value) (w : World) => ta_no_st 142 139 _ (.agg #[.int .u32 0, .int .u32 0, .slice none 0 0, .slice none 0 0]) v Try.underlying139 (by kernel_rfl) (by decide) w
  have tprms := fun (v : Value) (w : World) => ta_no_sl 142 135 _ (.slice none 0 0) v Try.underlying135 (by kernel_rfl) (by decide) w
  have ttsnv := fun (v : Value) (w : World) => ta_no_in 142 140 _ (.int .u32 0) v Try.underlying140 (by kernel_rfl) (by decide) w
  have traw := fun (v : Value) (w : World) => ta_no_sl 142 143 _ (.slice none 0 0) v Try.underlying143 (by kernel_rfl) (by decide) w
  go_enter Try.func54, Try.ntmps54
  have HRG : Hid (∀ W, Below (w.alloc (.cells #[.int .u8 (kind : Nat), .int .u8 (flags : Nat), .int .u32 0, .int .u16 0, .int .u16 0, .int .u32 0, .int .u32 0, .int .u32 0, .int .u16 0, .int .u16 0, .slice none 0 0, .slice none 0 0, .slice none 0 0, .slice none 0 0] 47)).heap.size (w.alloc (.cells #[.int .u8 (kind : Nat), .int .u8 (flags : Nat), .int .u32 0, .int .u16 0, .int .u16 0, .int .u32 0, .int .u32 0, .int .u32 0, .int .u16 0, .int .u16 0, .slice none 0 0, .slice none 0 0, .slice none 0 0, .slice none 0 0] 47)) W → W.rangeAt w.heap.size 0 [.int .u8 (kind : Nat), .int .u8 (flags : Nat), .int .u32 0, .int .u16 0, .int .u16 0, .int .u32 0, .int .u32 0, .int .u32 0, .int .u16 0, .int .u16 0, .slice none 0 0, .slice none 0 0, .slice none 0 0, .slice none 0 0]) := fun W hW => ((Stc.new w [.int .u8 (kind : Nat), .int .u8 (flags : Nat), .int .u32 0, .int .u16 0, .int .u16 0, .int .u32 0, .int .u32 0, .int .u32 0, .int .u16 0, .int .u16 0, .slice none 0 0, .slice none 0 0, .slice none 0 0, .slice none 0 0] 47 _ rfl).below hW).range
  go_wp2
  all_goals
    try simp only [Exit.inBlock, Exit.then]
    refine bodyPost_ret (results_cellE rfl _ _ w.heap.size 0 [.int .u8 (kind : Nat), .int .u8 (flags : Nat), .int .u32 0, .int .u16 0, .int .u16 0, .int .u32 0, .int .u32 0, .int .u32 0, .int .u16 0, .int .u16 0, .slice none 0 0, .slice none 0 0, .slice none 0 0, .slice none 0 0] _ rfl (HRG.out _ (by first | exact (((Below.refl _ _).alloc (Nat.le_refl _) _).alloc (by simp) _).drew | exact ((Below.refl _ _).alloc (Nat.le_refl _) _).alloc (by simp) _ | exact ((Below.refl _ _).alloc (Nat.le_refl _) _).drew | exact (Below.refl _ _).alloc (Nat.le_refl _) _)) Try.underlying47 rfl (by kernel_rfl)) rfl ?_
    exact ⟨rfl, by first | exact ((((Below.refl _ _).alloc (Nat.le_refl _) _).alloc (by simp) _).alloc (by simp; omega) _).drew | exact (((Below.refl _ _).alloc (Nat.le_refl _) _).alloc (by simp) _).alloc (by simp; omega) _ | exact (((Below.refl _ _).alloc (Nat.le_refl _) _).alloc (by simp) _).drew | exact ((Below.refl _ _).alloc (Nat.le_refl _) _).alloc (by simp) _⟩
end Go.Proofs.Ytjaheelgcjafcaa
namespace Go.Proofs.Ytjaheelgcjafcaa
open Go.RowKit
set_option linter.unusedVariables false in
set_option maxRecDepth 100000 in
set_option maxHeartbeats 4000000 in
theorem chunkOf_raw (kind flags tsn stream ssn ppid tag room outs ins : Nat) (b1 : Option Addr) (b2 b3 : Nat) (d1 : Option Addr) (d2 d3 : Nat) (p1 : Option Addr) (p2 p3 : Nat) (x1 : Option Addr) (x2 x3 : Nat) (w : World) (v1 v2 v3 : Value) (h1 : v1 = .int .u8 (kind : Nat)) (h2 : v2 = .int .u8 (flags : Nat)) (h3 : v3 = .iface 143 (.slice x1 x2 x3)) :
    Calls Try.prog 54 #[v1, v2, v3] w fun e w' => e = .returned (.agg #[.int .u8 (kind : Nat), .int .u8 (flags : Nat), .int .u32 0, .int .u16 0, .int .u16 0, .int .u32 0, .int .u32 0, .int .u32 0, .int .u16 0, .int .u16 0, .slice none 0 0, .slice none 0 0, .slice none 0 0, .slice x1 x2 x3]) ∧ Below w.heap.size w w' := by
  subst h1 h2 h3
  have tdata := fun (v : Value) (w : World) => ta_no_st 143 134 _ (.agg #[.int .u32 0, .int .u16 0, .int .u16 0, .int .u32 0, .slice none 0 0]) v Try.underlying134 (by kernel_rfl) (by decide) w
  have tinit := fun (v : Value) (w : World) => ta_no_st 143 137 _ (.agg #[.int .u32 0, .int .u32 0, .int .u16 0, .int .u16 0, .int .u32 0, .slice none 0 0]) v Try.underlying137 (by kernel_rfl) (by decide) w
  have tsack := fun (v : Value) (w : World) => ta_no_st 143 139 _ (.agg #[.int .u32 0, .int .u32 0, .slice none 0 0, .slice none 0 0]) v Try.underlying139 (by kernel_rfl) (by decide) w
  have tprms := fun (v : Value) (w : World) => ta_no_sl 143 135 _ (.slice none 0 0) v Try.underlying135 (by kernel_rfl) (by decide) w
  have ttsnv := fun (v : Value) (w : World) => ta_no_in 143 140 _ (.int .u32 0) v Try.underlying140 (by kernel_rfl) (by decide) w
  have traw := fun (v : Value) (w : World) => ta_yes_sl 143 _ v Try.underlying143 w
  go_enter Try.func54, Try.ntmps54
  have HRG : Hid (∀ W, Below (w.alloc (.cells #[.int .u8 (kind : Nat), .int .u8 (flags : Nat), .int .u32 0, .int .u16 0, .int .u16 0, .int .u32 0, .int .u32 0, .int .u32 0, .int .u16 0, .int .u16 0, .slice none 0 0, .slice none 0 0, .slice none 0 0, .slice x1 x2 x3] 47)).heap.size (w.alloc (.cells #[.int .u8 (kind : Nat), .int .u8 (flags : Nat), .int .u32 0, .int .u16 0, .int .u16 0, .int .u32 0, .int .u32 0, .int .u32 0, .int .u16 0, .int .u16 0, .slice none 0 0, .slice none 0 0, .slice none 0 0, .slice x1 x2 x3] 47)) W → W.rangeAt w.heap.size 0 [.int .u8 (kind : Nat), .int .u8 (flags : Nat), .int .u32 0, .int .u16 0, .int .u16 0, .int .u32 0, .int .u32 0, .int .u32 0, .int .u16 0, .int .u16 0, .slice none 0 0, .slice none 0 0, .slice none 0 0, .slice x1 x2 x3]) := fun W hW => ((Stc.new w [.int .u8 (kind : Nat), .int .u8 (flags : Nat), .int .u32 0, .int .u16 0, .int .u16 0, .int .u32 0, .int .u32 0, .int .u32 0, .int .u16 0, .int .u16 0, .slice none 0 0, .slice none 0 0, .slice none 0 0, .slice x1 x2 x3] 47 _ rfl).below hW).range
  go_wp2
  all_goals
    try simp only [Exit.inBlock, Exit.then]
    refine bodyPost_ret (results_cellE rfl _ _ w.heap.size 0 [.int .u8 (kind : Nat), .int .u8 (flags : Nat), .int .u32 0, .int .u16 0, .int .u16 0, .int .u32 0, .int .u32 0, .int .u32 0, .int .u16 0, .int .u16 0, .slice none 0 0, .slice none 0 0, .slice none 0 0, .slice x1 x2 x3] _ rfl (HRG.out _ (by first | exact (((Below.refl _ _).alloc (Nat.le_refl _) _).alloc (by simp) _).drew | exact ((Below.refl _ _).alloc (Nat.le_refl _) _).alloc (by simp) _ | exact ((Below.refl _ _).alloc (Nat.le_refl _) _).drew | exact (Below.refl _ _).alloc (Nat.le_refl _) _)) Try.underlying47 rfl (by kernel_rfl)) rfl ?_
    exact ⟨rfl, by first | exact ((((Below.refl _ _).alloc (Nat.le_refl _) _).alloc (by simp) _).alloc (by simp; omega) _).drew | exact (((Below.refl _ _).alloc (Nat.le_refl _) _).alloc (by simp) _).alloc (by simp; omega) _ | exact (((Below.refl _ _).alloc (Nat.le_refl _) _).alloc (by simp) _).drew | exact ((Below.refl _ _).alloc (Nat.le_refl _) _).alloc (by simp) _⟩
end Go.Proofs.Ytjaheelgcjafcaa

namespace Go.Proofs.Ytjaheelgcjafcaa
open Go.RowKit
set_option linter.unusedVariables false in
set_option maxRecDepth 100000 in
set_option maxHeartbeats 4000000 in
theorem lacks_data (kind flags tsn stream ssn ppid tag room outs ins : Nat) (b1 : Option Addr) (b2 b3 : Nat) (d1 : Option Addr) (d2 d3 : Nat) (p1 : Option Addr) (p2 p3 : Nat) (x1 : Option Addr) (x2 x3 : Nat) (w : World) (v : Value) (hv : v = .iface 134 (.agg #[.int .u32 (tsn : Nat), .int .u16 (stream : Nat), .int .u16 (ssn : Nat), .int .u32 (ppid : Nat), .slice x1 x2 x3])) :
    Calls Try.prog 55 #[v] w fun e w' => e = .returned (.bool (decide (x2 = 0))) ∧ Below w.heap.size w w' := by
  subst hv
  have tdata := fun (v : Value) (w : World) => ta_yes_st 134 _ v Try.underlying134 w
  by_cases h0 : x2 = 0
  · have HE : Hid (decide (x2 = 0) = true) := decide_eq_true h0
    subst h0
    go_enter Try.func55, Try.ntmps55
    go_wp2
    go_ret
    exact ⟨by first | rfl | simp, by first | exact Below.refl _ _ | exact (Below.refl _ _).alloc (Nat.le_refl _) _⟩
  · have HE : Hid (decide (x2 = 0) = false) := decide_eq_false h0
    have h1 : ¬ (x2 : Int) = 0 := by omega
    have h2 : ((x2 : Int) == 0) = false := by simp; omega
    go_enter Try.func55, Try.ntmps55
    go_wp2
    go_ret
    exact ⟨by first | rfl | (rw [HE.out]; rfl) | simp | (simp; omega), by first | exact Below.refl _ _ | exact (Below.refl _ _).alloc (Nat.le_refl _) _⟩
set_option linter.unusedVariables false in
set_option maxRecDepth 100000 in
set_option maxHeartbeats 4000000 in
theorem many_data (kind flags tsn stream ssn ppid tag room outs ins : Nat) (b1 : Option Addr) (b2 b3 : Nat) (d1 : Option Addr) (d2 d3 : Nat) (p1 : Option Addr) (p2 p3 : Nat) (x1 : Option Addr) (x2 x3 : Nat) (w : World) (v : Value) (hv : v = .iface 134 (.agg #[.int .u32 (tsn : Nat), .int .u16 (stream : Nat), .int .u16 (ssn : Nat), .int .u32 (ppid : Nat), .slice x1 x2 x3])) :
    Calls Try.prog 56 #[v] w fun e w' => e = .returned (.bool false) ∧ Below w.heap.size w w' := by
  subst hv
  have tinit := fun (v : Value) (w : World) => ta_no_st 134 137 _ (.agg #[.int .u32 0, .int .u32 0, .int .u16 0, .int .u16 0, .int .u32 0, .slice none 0 0]) v Try.underlying137 (by kernel_rfl) (by decide) w
  have tsack := fun (v : Value) (w : World) => ta_no_st 134 139 _ (.agg #[.int .u32 0, .int .u32 0, .slice none 0 0, .slice none 0 0]) v Try.underlying139 (by kernel_rfl) (by decide) w
  have tprms := fun (v : Value) (w : World) => ta_no_sl 134 135 _ (.slice none 0 0) v Try.underlying135 (by kernel_rfl) (by decide) w
  go_enter Try.func56, Try.ntmps56
  go_wp2
  go_ret
  exact ⟨rfl, by first | exact Below.refl _ _ | exact (Below.refl _ _).alloc (Nat.le_refl _) _⟩
set_option linter.unusedVariables false in
set_option maxRecDepth 100000 in
set_option maxHeartbeats 4000000 in
theorem lacks_init (kind flags tsn stream ssn ppid tag room outs ins : Nat) (b1 : Option Addr) (b2 b3 : Nat) (d1 : Option Addr) (d2 d3 : Nat) (p1 : Option Addr) (p2 p3 : Nat) (x1 : Option Addr) (x2 x3 : Nat) (w : World) (v : Value) (hv : v = .iface 137 (.agg #[.int .u32 (tag : Nat), .int .u32 (room : Nat), .int .u16 (outs : Nat), .int .u16 (ins : Nat), .int .u32 (tsn : Nat), .slice p1 p2 p3])) :
    Calls Try.prog 55 #[v] w fun e w' => e = .returned (.bool false) ∧ Below w.heap.size w w' := by
  subst hv
  have tdata := fun (v : Value) (w : World) => ta_no_st 137 134 _ (.agg #[.int .u32 0, .int .u16 0, .int .u16 0, .int .u32 0, .slice none 0 0]) v Try.underlying134 (by kernel_rfl) (by decide) w
  go_enter Try.func55, Try.ntmps55
  go_wp2
  go_ret
  exact ⟨rfl, by first | exact Below.refl _ _ | exact (Below.refl _ _).alloc (Nat.le_refl _) _⟩
set_option linter.unusedVariables false in
set_option maxRecDepth 100000 in
set_option maxHeartbeats 4000000 in
theorem many_init (kind flags tsn stream ssn ppid tag room outs ins : Nat) (b1 : Option Addr) (b2 b3 : Nat) (d1 : Option Addr) (d2 d3 : Nat) (p1 : Option Addr) (p2 p3 : Nat) (x1 : Option Addr) (x2 x3 : Nat) (w : World) (v : Value) (hv : v = .iface 137 (.agg #[.int .u32 (tag : Nat), .int .u32 (room : Nat), .int .u16 (outs : Nat), .int .u16 (ins : Nat), .int .u32 (tsn : Nat), .slice p1 p2 p3])) :
    Calls Try.prog 56 #[v] w fun e w' => e = .returned (.bool (decide (16 < p2))) ∧ Below w.heap.size w w' := by
  subst hv
  have tinit := fun (v : Value) (w : World) => ta_yes_st 137 _ v Try.underlying137 w
  by_cases h0 : 16 < p2
  · have HE : Hid (decide (16 < p2) = true) := decide_eq_true h0
    have h1 : (16 : Int) < (p2 : Int) := by omega
    go_enter Try.func56, Try.ntmps56
    go_wp2
    go_ret
    exact ⟨by first | rfl | (rw [HE.out]; rfl) | simp | (simp; omega), by first | exact Below.refl _ _ | exact (Below.refl _ _).alloc (Nat.le_refl _) _⟩
  · have HE : Hid (decide (16 < p2) = false) := decide_eq_false h0
    have h1 : ¬ (16 : Int) < (p2 : Int) := by omega
    go_enter Try.func56, Try.ntmps56
    go_wp2
    go_ret
    exact ⟨by first | rfl | (rw [HE.out]; rfl) | simp | (simp; omega), by first | exact Below.refl _ _ | exact (Below.refl _ _).alloc (Nat.le_refl _) _⟩
set_option linter.unusedVariables false in
set_option maxRecDepth 100000 in
set_option maxHeartbeats 4000000 in
theorem lacks_sack (kind flags tsn stream ssn ppid tag room outs ins : Nat) (b1 : Option Addr) (b2 b3 : Nat) (d1 : Option Addr) (d2 d3 : Nat) (p1 : Option Addr) (p2 p3 : Nat) (x1 : Option Addr) (x2 x3 : Nat) (w : World) (v : Value) (hv : v = .iface 139 (.agg #[.int .u32 (tsn : Nat), .int .u32 (room : Nat), .slice b1 b2 b3, .slice d1 d2 d3])) :
    Calls Try.prog 55 #[v] w fun e w' => e = .returned (.bool false) ∧ Below w.heap.size w w' := by
  subst hv
  have tdata := fun (v : Value) (w : World) => ta_no_st 139 134 _ (.agg #[.int .u32 0, .int .u16 0, .int .u16 0, .int .u32 0, .slice none 0 0]) v Try.underlying134 (by kernel_rfl) (by decide) w
  go_enter Try.func55, Try.ntmps55
  go_wp2
  go_ret
  exact ⟨rfl, by first | exact Below.refl _ _ | exact (Below.refl _ _).alloc (Nat.le_refl _) _⟩
set_option linter.unusedVariables false in
set_option maxRecDepth 100000 in
set_option maxHeartbeats 4000000 in
theorem many_sack (kind flags tsn stream ssn ppid tag room outs ins : Nat) (b1 : Option Addr) (b2 b3 : Nat) (d1 : Option Addr) (d2 d3 : Nat) (p1 : Option Addr) (p2 p3 : Nat) (x1 : Option Addr) (x2 x3 : Nat) (w : World) (v : Value) (hv : v = .iface 139 (.agg #[.int .u32 (tsn : Nat), .int .u32 (room : Nat), .slice b1 b2 b3, .slice d1 d2 d3])) :
    Calls Try.prog 56 #[v] w fun e w' => e = .returned (.bool (decide (16 < b2 ∨ 16 < d2))) ∧ Below w.heap.size w w' := by
  subst hv
  have tinit := fun (v : Value) (w : World) => ta_no_st 139 137 _ (.agg #[.int .u32 0, .int .u32 0, .int .u16 0, .int .u16 0, .int .u32 0, .slice none 0 0]) v Try.underlying137 (by kernel_rfl) (by decide) w
  have tsack := fun (v : Value) (w : World) => ta_yes_st 139 _ v Try.underlying139 w
  by_cases h0 : 16 < b2
  · have HE : Hid (decide (16 < b2 ∨ 16 < d2) = true) := decide_eq_true (.inl h0)
    have h1 : (16 : Int) < (b2 : Int) := by omega
    go_enter Try.func56, Try.ntmps56
    go_wp2
    go_ret
    exact ⟨by first | rfl | (rw [HE.out]; rfl) | simp | (simp; omega), by first | exact Below.refl _ _ | exact (Below.refl _ _).alloc (Nat.le_refl _) _⟩
  · have h1 : ¬ (16 : Int) < (b2 : Int) := by omega
    by_cases h2 : 16 < d2
    · have HE : Hid (decide (16 < b2 ∨ 16 < d2) = true) := decide_eq_true (.inr h2)
      have h3 : (16 : Int) < (d2 : Int) := by omega
      go_enter Try.func56, Try.ntmps56
      go_wp2
      go_ret
      exact ⟨by first | rfl | (rw [HE.out]; rfl) | simp | (simp; omega), by first | exact Below.refl _ _ | exact (Below.refl _ _).alloc (Nat.le_refl _) _⟩
    · have HE : Hid (decide (16 < b2 ∨ 16 < d2) = false) := decide_eq_false (fun h => h.elim h0 h2)
      have h3 : ¬ (16 : Int) < (d2 : Int) := by omega
      go_enter Try.func56, Try.ntmps56
      go_wp2
      go_ret
      exact ⟨by first | rfl | (rw [HE.out]; rfl) | simp | (simp; omega), by first | exact Below.refl _ _ | exact (Below.refl _ _).alloc (Nat.le_refl _) _⟩
set_option linter.unusedVariables false in
set_option maxRecDepth 100000 in
set_option maxHeartbeats 4000000 in
theorem lacks_prms (kind flags tsn stream ssn ppid tag room outs ins : Nat) (b1 : Option Addr) (b2 b3 : Nat) (d1 : Option Addr) (d2 d3 : Nat) (p1 : Option Addr) (p2 p3 : Nat) (x1 : Option Addr) (x2 x3 : Nat) (w : World) (v : Value) (hv : v = .iface 135 (.slice p1 p2 p3)) :
    Calls Try.prog 55 #[v] w fun e w' => e = .returned (.bool false) ∧ Below w.heap.size w w' := by
  subst hv
  have tdata := fun (v : Value) (w : World) => ta_no_st 135 134 _ (.agg #[.int .u32 0, .int .u16 0, .int .u16 0, .int .u32 0, .slice none 0 0]) v Try.underlying134 (by kernel_rfl) (by decide) w
  go_enter Try.func55, Try.ntmps55
  go_wp2
  go_ret
  exact ⟨rfl, by first | exact Below.refl _ _ | exact (Below.refl _ _).alloc (Nat.le_refl _) _⟩
set_option linter.unusedVariables false in
set_option maxRecDepth 100000 in
set_option maxHeartbeats 4000000 in
theorem many_prms (kind flags tsn stream ssn ppid tag room outs ins : Nat) (b1 : Option Addr) (b2 b3 : Nat) (d1 : Option Addr) (d2 d3 : Nat) (p1 : Option Addr) (p2 p3 : Nat) (x1 : Option Addr) (x2 x3 : Nat) (w : World) (v : Value) (hv : v = .iface 135 (.slice p1 p2 p3)) :
    Calls Try.prog 56 #[v] w fun e w' => e = .returned (.bool (decide (16 < p2))) ∧ Below w.heap.size w w' := by
  subst hv
  have tinit := fun (v : Value) (w : World) => ta_no_st 135 137 _ (.agg #[.int .u32 0, .int .u32 0, .int .u16 0, .int .u16 0, .int .u32 0, .slice none 0 0]) v Try.underlying137 (by kernel_rfl) (by decide) w
  have tsack := fun (v : Value) (w : World) => ta_no_st 135 139 _ (.agg #[.int .u32 0, .int .u32 0, .slice none 0 0, .slice none 0 0]) v Try.underlying139 (by kernel_rfl) (by decide) w
  have tprms := fun (v : Value) (w : World) => ta_yes_sl 135 _ v Try.underlying135 w
  by_cases h0 : 16 < p2
  · have HE : Hid (decide (16 < p2) = true) := decide_eq_true h0
    have h1 : (16 : Int) < (p2 : Int) := by omega
    go_enter Try.func56, Try.ntmps56
    go_wp2
    go_ret
    exact ⟨by first | rfl | (rw [HE.out]; rfl) | simp | (simp; omega), by first | exact Below.refl _ _ | exact (Below.refl _ _).alloc (Nat.le_refl _) _⟩
  · have HE : Hid (decide (16 < p2) = false) := decide_eq_false h0
    have h1 : ¬ (16 : Int) < (p2 : Int) := by omega
    go_enter Try.func56, Try.ntmps56
    go_wp2
    go_ret
    exact ⟨by first | rfl | (rw [HE.out]; rfl) | simp | (simp; omega), by first | exact Below.refl _ _ | exact (Below.refl _ _).alloc (Nat.le_refl _) _⟩
set_option linter.unusedVariables false in
set_option maxRecDepth 100000 in
set_option maxHeartbeats 4000000 in
theorem lacks_tsnv (kind flags tsn stream ssn ppid tag room outs ins : Nat) (b1 : Option Addr) (b2 b3 : Nat) (d1 : Option Addr) (d2 d3 : Nat) (p1 : Option Addr) (p2 p3 : Nat) (x1 : Option Addr) (x2 x3 : Nat) (w : World) (v : Value) (hv : v = .iface 140 (.int .u32 (tsn : Nat))) :
    Calls Try.prog 55 #[v] w fun e w' => e = .returned (.bool false) ∧ Below w.heap.size w w' := by
  subst hv
  have tdata := fun (v : Value) (w : World) => ta_no_st 140 134 _ (.agg #[.int .u32 0, .int .u16 0, .int .u16 0, .int .u32 0, .slice none 0 0]) v Try.underlying134 (by kernel_rfl) (by decide) w
  go_enter Try.func55, Try.ntmps55
  go_wp2
  go_ret
  exact ⟨rfl, by first | exact Below.refl _ _ | exact (Below.refl _ _).alloc (Nat.le_refl _) _⟩
set_option linter.unusedVariables false in
set_option maxRecDepth 100000 in
set_option maxHeartbeats 4000000 in
theorem many_tsnv (kind flags tsn stream ssn ppid tag room outs ins : Nat) (b1 : Option Addr) (b2 b3 : Nat) (d1 : Option Addr) (d2 d3 : Nat) (p1 : Option Addr) (p2 p3 : Nat) (x1 : Option Addr) (x2 x3 : Nat) (w : World) (v : Value) (hv : v = .iface 140 (.int .u32 (tsn : Nat))) :
    Calls Try.prog 56 #[v] w fun e w' => e = .returned (.bool false) ∧ Below w.heap.size w w' := by
  subst hv
  have tinit := fun (v : Value) (w : World) => ta_no_st 140 137 _ (.agg #[.int .u32 0, .int .u32 0, .int .u16 0, .int .u16 0, .int .u32 0, .slice none 0 0]) v Try.underlying137 (by kernel_rfl) (by decide) w
  have tsack := fun (v : Value) (w : World) => ta_no_st 140 139 _ (.agg #[.int .u32 0, .int .u32 0, .slice none 0 0, .slice none 0 0]) v Try.underlying139 (by kernel_rfl) (by decide) w
  have tprms := fun (v : Value) (w : World) => ta_no_sl 140 135 _ (.slice none 0 0) v Try.underlying135 (by kernel_rfl) (by decide) w
  go_enter Try.func56, Try.ntmps56
  go_wp2
  go_ret
  exact ⟨rfl, by first | exact Below.refl _ _ | exact (Below.refl _ _).alloc (Nat.le_refl _) _⟩
set_option linter.unusedVariables false in
set_option maxRecDepth 100000 in
set_option maxHeartbeats 4000000 in
theorem lacks_none (kind flags tsn stream ssn ppid tag room outs ins : Nat) (b1 : Option Addr) (b2 b3 : Nat) (d1 : Option Addr) (d2 d3 : Nat) (p1 : Option Addr) (p2 p3 : Nat) (x1 : Option Addr) (x2 x3 : Nat) (w : World) (v : Value) (hv : v = .iface 142 (.agg #[])) :
    Calls Try.prog 55 #[v] w fun e w' => e = .returned (.bool false) ∧ Below w.heap.size w w' := by
  subst hv
  have tdata := fun (v : Value) (w : World) => ta_no_st 142 134 _ (.agg #[.int .u32 0, .int .u16 0, .int .u16 0, .int .u32 0, .slice none 0 0]) v Try.underlying134 (by kernel_rfl) (by decide) w
  go_enter Try.func55, Try.ntmps55
  go_wp2
  go_ret
  exact ⟨rfl, by first | exact Below.refl _ _ | exact (Below.refl _ _).alloc (Nat.le_refl _) _⟩
set_option linter.unusedVariables false in
set_option maxRecDepth 100000 in
set_option maxHeartbeats 4000000 in
theorem many_none (kind flags tsn stream ssn ppid tag room outs ins : Nat) (b1 : Option Addr) (b2 b3 : Nat) (d1 : Option Addr) (d2 d3 : Nat) (p1 : Option Addr) (p2 p3 : Nat) (x1 : Option Addr) (x2 x3 : Nat) (w : World) (v : Value) (hv : v = .iface 142 (.agg #[])) :
    Calls Try.prog 56 #[v] w fun e w' => e = .returned (.bool false) ∧ Below w.heap.size w w' := by
  subst hv
  have tinit := fun (v : Value) (w : World) => ta_no_st 142 137 _ (.agg #[.int .u32 0, .int .u32 0, .int .u16 0, .int .u16 0, .int .u32 0, .slice none 0 0]) v Try.underlying137 (by kernel_rfl) (by decide) w
  have tsack := fun (v : Value) (w : World) => ta_no_st 142 139 _ (.agg #[.int .u32 0, .int .u32 0, .slice none 0 0, .slice none 0 0]) v Try.underlying139 (by kernel_rfl) (by decide) w
  have tprms := fun (v : Value) (w : World) => ta_no_sl 142 135 _ (.slice none 0 0) v Try.underlying135 (by kernel_rfl) (by decide) w
  go_enter Try.func56, Try.ntmps56
  go_wp2
  go_ret
  exact ⟨rfl, by first | exact Below.refl _ _ | exact (Below.refl _ _).alloc (Nat.le_refl _) _⟩
set_option linter.unusedVariables false in
set_option maxRecDepth 100000 in
set_option maxHeartbeats 4000000 in
theorem lacks_raw (kind flags tsn stream ssn ppid tag room outs ins : Nat) (b1 : Option Addr) (b2 b3 : Nat) (d1 : Option Addr) (d2 d3 : Nat) (p1 : Option Addr) (p2 p3 : Nat) (x1 : Option Addr) (x2 x3 : Nat) (w : World) (v : Value) (hv : v = .iface 143 (.slice x1 x2 x3)) :
    Calls Try.prog 55 #[v] w fun e w' => e = .returned (.bool false) ∧ Below w.heap.size w w' := by
  subst hv
  have tdata := fun (v : Value) (w : World) => ta_no_st 143 134 _ (.agg #[.int .u32 0, .int .u16 0, .int .u16 0, .int .u32 0, .slice none 0 0]) v Try.underlying134 (by kernel_rfl) (by decide) w
  go_enter Try.func55, Try.ntmps55
  go_wp2
  go_ret
  exact ⟨rfl, by first | exact Below.refl _ _ | exact (Below.refl _ _).alloc (Nat.le_refl _) _⟩
set_option linter.unusedVariables false in
set_option maxRecDepth 100000 in
set_option maxHeartbeats 4000000 in
theorem many_raw (kind flags tsn stream ssn ppid tag room outs ins : Nat) (b1 : Option Addr) (b2 b3 : Nat) (d1 : Option Addr) (d2 d3 : Nat) (p1 : Option Addr) (p2 p3 : Nat) (x1 : Option Addr) (x2 x3 : Nat) (w : World) (v : Value) (hv : v = .iface 143 (.slice x1 x2 x3)) :
    Calls Try.prog 56 #[v] w fun e w' => e = .returned (.bool false) ∧ Below w.heap.size w w' := by
  subst hv
  have tinit := fun (v : Value) (w : World) => ta_no_st 143 137 _ (.agg #[.int .u32 0, .int .u32 0, .int .u16 0, .int .u16 0, .int .u32 0, .slice none 0 0]) v Try.underlying137 (by kernel_rfl) (by decide) w
  have tsack := fun (v : Value) (w : World) => ta_no_st 143 139 _ (.agg #[.int .u32 0, .int .u32 0, .slice none 0 0, .slice none 0 0]) v Try.underlying139 (by kernel_rfl) (by decide) w
  have tprms := fun (v : Value) (w : World) => ta_no_sl 143 135 _ (.slice none 0 0) v Try.underlying135 (by kernel_rfl) (by decide) w
  go_enter Try.func56, Try.ntmps56
  go_wp2
  go_ret
  exact ⟨rfl, by first | exact Below.refl _ _ | exact (Below.refl _ _).alloc (Nat.le_refl _) _⟩
end Go.Proofs.Ytjaheelgcjafcaa
namespace Go.Proofs.Ytjaheelgcjafcaa
open Go.RowKit
def padN (n : Nat) : Nat := (4 - n % 4) % 4
theorem padding_any (n : Nat) (w : World) (hn : n ≤ 1152921504606846976) (v : Value) (hv : v = .int .i64 (n : Nat)) : Calls Try.prog 68 #[v] w fun e w' => e = .returned (.int .i64 (padN n : Nat)) ∧ w' = w := by
  subst hv
  have h1 : Int.tmod (n : Int) 4 = ((n % 4 : Nat) : Int) := by rw [Int.tmod_eq_emod_of_nonneg (by omega)]; rfl
  have h2 : n % 4 < 4 := Nat.mod_lt _ (by omega)
  have h3 : Int.tmod (4 - ((n % 4 : Nat) : Int)) 4 = (padN n : Nat) := by
    rw [Int.tmod_eq_emod_of_nonneg (by omega)]
    unfold padN
    omega
  generalize padN n = p at *
  generalize n % 4 = m at *
  go_enter Try.func68, Try.ntmps68
  go_wp2
  go_ret
  exact ⟨rfl, rfl⟩
set_option linter.unusedVariables false in
set_option maxRecDepth 100000 in
theorem size_data (t s q p : Value) (a : Option Addr) (n c : Nat) (w : World) (hn : n ≤ 281474976710656) : Calls Try.prog 99 #[.agg #[t, s, q, p, .slice a n c]] w fun e w' => e = .returned (.int .i64 (12 + n : Nat)) ∧ Below w.heap.size w w' := by
  go_enter Try.func99, Try.ntmps99
  go_wp2
  go_ret
  exact ⟨by first | rfl | simp, by first | exact Below.refl _ _ | exact (Below.refl _ _).alloc (Nat.le_refl _) _ | exact ((Below.refl _ _).alloc (Nat.le_refl _) _).drew⟩
set_option linter.unusedVariables false in
set_option maxRecDepth 100000 in
theorem size_sack (t r : Value) (a : Option Addr) (n c : Nat) (a2 : Option Addr) (n2 c2 : Nat) (w : World) (hn : n ≤ 281474976710656) (hn2 : n2 ≤ 281474976710656) : Calls Try.prog 105 #[.agg #[t, r, .slice a n c, .slice a2 n2 c2]] w fun e w' => e = .returned (.int .i64 (12 + 4 * n + 4 * n2 : Nat)) ∧ Below w.heap.size w w' := by
  go_enter Try.func105, Try.ntmps105
  go_wp2
  go_ret
  exact ⟨by first | rfl | simp, by first | exact Below.refl _ _ | exact (Below.refl _ _).alloc (Nat.le_refl _) _ | exact ((Below.refl _ _).alloc (Nat.le_refl _) _).drew⟩
set_option linter.unusedVariables false in
set_option maxRecDepth 100000 in
theorem size_tsnv (t : Nat) (w : World) : Calls Try.prog 107 #[.int .u32 (t : Nat)] w fun e w' => e = .returned (.int .i64 (4 : Nat)) ∧ Below w.heap.size w w' := by
  go_enter Try.func107, Try.ntmps107
  go_wp2
  go_ret
  exact ⟨by first | rfl | simp, by first | exact Below.refl _ _ | exact (Below.refl _ _).alloc (Nat.le_refl _) _ | exact ((Below.refl _ _).alloc (Nat.le_refl _) _).drew⟩
set_option linter.unusedVariables false in
set_option maxRecDepth 100000 in
theorem size_none  (w : World) : Calls Try.prog 109 #[.agg #[]] w fun e w' => e = .returned (.int .i64 (0 : Nat)) ∧ Below w.heap.size w w' := by
  go_enter Try.func109, Try.ntmps109
  go_wp2
  go_ret
  exact ⟨by first | rfl | simp, by first | exact Below.refl _ _ | exact (Below.refl _ _).alloc (Nat.le_refl _) _ | exact ((Below.refl _ _).alloc (Nat.le_refl _) _).drew⟩
set_option linter.unusedVariables false in
set_option maxRecDepth 100000 in
theorem size_raw (a : Option Addr) (n c : Nat) (w : World) (hn : n ≤ 281474976710656) : Calls Try.prog 111 #[.slice a n c] w fun e w' => e = .returned (.int .i64 (n : Nat)) ∧ Below w.heap.size w w' := by
  go_enter Try.func111, Try.ntmps111
  go_wp2
  go_ret
  exact ⟨by first | rfl | simp, by first | exact Below.refl _ _ | exact (Below.refl _ _).alloc (Nat.le_refl _) _ | exact ((Below.refl _ _).alloc (Nat.le_refl _) _).drew⟩
set_option linter.unusedVariables false in
set_option maxRecDepth 100000 in
set_option maxHeartbeats 1000000 in
theorem space_data (t s q p : Value) (a : Option Addr) (n c : Nat) (w : World) (hn : n ≤ 281474976710656) (v : Value) (hv : v = .iface 134 (.agg #[t, s, q, p, .slice a n c])) : Calls Try.prog 57 #[v] w fun e w' => e = .returned (.int .i64 (4 + (12 + n) + padN (12 + n) : Nat)) ∧ Below w.heap.size w w' := by
  subst hv
  have hm : ∀ (v : Value) (w : World), (method 280 134 v "trunkline/chunk.size").run Try.prog w = .ok (99, v) w := fun _ _ => by kernel_rfl
  have hpl : padN (12 + n) < 4 := Nat.mod_lt _ (by omega)
  have hpd := fun W => padding_any (12 + n) W (by omega) _ rfl
  have hsz := fun (W : World) (hb : Below w.heap.size w W) => size_data t s q p a n c W hn
  have HE : Hid (((4 + (12 + n) + padN (12 + n) : Nat) : Int) = 4 + (((12 + n) : Nat) : Int) + (padN (12 + n) : Nat)) := by show _ = _; omega
  have hrb : (12 + n) ≤ 1152921504606846900 := by omega
  generalize padN (12 + n) = pd at *
  generalize (12 + n) = N at *
  go_enter Try.func57, Try.ntmps57
  go_wp2_with fail
  refine (hsz w (Below.refl _ _)).mono ?_
  rintro e w1 ⟨rfl, b1⟩
  go_wp2_with fail
  refine (hsz w1 b1).mono ?_
  rintro e w2 ⟨rfl, b2⟩
  go_wp2_with fail
  refine (hpd w2).mono ?_
  rintro e w3 ⟨rfl, hw3⟩
  subst w3
  have HB := (show Hid _ from b1.trans (b2.mono b1.size))
  clear hsz hpd b1 b2
  go_wp2
  go_ret
  exact ⟨by rw [HE.out]; rfl, HB.out⟩
set_option linter.unusedVariables false in
set_option maxRecDepth 100000 in
set_option maxHeartbeats 1000000 in
theorem space_sack (t r : Value) (a : Option Addr) (n c : Nat) (a2 : Option Addr) (n2 c2 : Nat) (w : World) (hn : n ≤ 281474976710656) (hn2 : n2 ≤ 281474976710656) (v : Value) (hv : v = .iface 139 (.agg #[t, r, .slice a n c, .slice a2 n2 c2])) : Calls Try.prog 57 #[v] w fun e w' => e = .returned (.int .i64 (4 + (12 + 4 * n + 4 * n2) + padN (12 + 4 * n + 4 * n2) : Nat)) ∧ Below w.heap.size w w' := by
  subst hv
  have hm : ∀ (v : Value) (w : World), (method 280 139 v "trunkline/chunk.size").run Try.prog w = .ok (105, v) w := fun _ _ => by kernel_rfl
  have hpl : padN (12 + 4 * n + 4 * n2) < 4 := Nat.mod_lt _ (by omega)
  have hpd := fun W => padding_any (12 + 4 * n + 4 * n2) W (by omega) _ rfl
  have hsz := fun (W : World) (hb : Below w.heap.size w W) => size_sack t r a n c a2 n2 c2 W hn hn2
  have HE : Hid (((4 + (12 + 4 * n + 4 * n2) + padN (12 + 4 * n + 4 * n2) : Nat) : Int) = 4 + (((12 + 4 * n + 4 * n2) : Nat) : Int) + (padN (12 + 4 * n + 4 * n2) : Nat)) := by show _ = _; omega
  have hrb : (12 + 4 * n + 4 * n2) ≤ 1152921504606846900 := by omega
  generalize padN (12 + 4 * n + 4 * n2) = pd at *
  generalize (12 + 4 * n + 4 * n2) = N at *
  go_enter Try.func57, Try.ntmps57
  go_wp2_with fail
  refine (hsz w (Below.refl _ _)).mono ?_
  rintro e w1 ⟨rfl, b1⟩
  go_wp2_with fail
  refine (hsz w1 b1).mono ?_
  rintro e w2 ⟨rfl, b2⟩
  go_wp2_with fail
  refine (hpd w2).mono ?_
  rintro e w3 ⟨rfl, hw3⟩
  subst w3
  have HB := (show Hid _ from b1.trans (b2.mono b1.size))
  clear hsz hpd b1 b2
  go_wp2
  go_ret
  exact ⟨by rw [HE.out]; rfl, HB.out⟩
set_option linter.unusedVariables false in
set_option maxRecDepth 100000 in
set_option maxHeartbeats 1000000 in
theorem space_raw (a : Option Addr) (n c : Nat) (w : World) (hn : n ≤ 281474976710656) (v : Value) (hv : v = .iface 143 (.slice a n c)) : Calls Try.prog 57 #[v] w fun e w' => e = .returned (.int .i64 (4 + n + padN n : Nat)) ∧ Below w.heap.size w w' := by
  subst hv
  have hm : ∀ (v : Value) (w : World), (method 280 143 v "trunkline/chunk.size").run Try.prog w = .ok (111, v) w := fun _ _ => by kernel_rfl
  have hpl : padN n < 4 := Nat.mod_lt _ (by omega)
  have hpd := fun W => padding_any n W (by omega) _ rfl
  have hsz := fun (W : World) (hb : Below w.heap.size w W) => size_raw a n c W hn
  have HE : Hid (((4 + n + padN n : Nat) : Int) = 4 + ((n : Nat) : Int) + (padN n : Nat)) := by show _ = _; omega
  have hrb : n ≤ 1152921504606846900 := by omega
  generalize padN n = pd at *
  go_enter Try.func57, Try.ntmps57
  go_wp2_with fail
  refine (hsz w (Below.refl _ _)).mono ?_
  rintro e w1 ⟨rfl, b1⟩
  go_wp2_with fail
  refine (hsz w1 b1).mono ?_
  rintro e w2 ⟨rfl, b2⟩
  go_wp2_with fail
  refine (hpd w2).mono ?_
  rintro e w3 ⟨rfl, hw3⟩
  subst w3
  have HB := (show Hid _ from b1.trans (b2.mono b1.size))
  clear hsz hpd b1 b2
  go_wp2
  go_ret
  exact ⟨by rw [HE.out]; rfl, HB.out⟩
end Go.Proofs.Ytjaheelgcjafcaa
