/- What chunk.lacksData and hasTooMany answer. -/
import Derived.Test.YtifdfkkjmjabnabDoorChT
namespace Go.Proofs.YtifdfkkjmjabnabDoor
open Go.RowKit
set_option linter.unusedVariables false in
set_option maxRecDepth 100000 in
set_option maxHeartbeats 4000000 in
theorem lacks_data (kind flags tsn stream ssn ppid tag room outs ins : Nat) (b1 : Option Addr) (b2 b3 : Nat) (d1 : Option Addr) (d2 d3 : Nat) (p1 : Option Addr) (p2 p3 : Nat) (x1 : Option Addr) (x2 x3 : Nat) (w : World) (v : Value) (hv : v = .iface 94 (.agg #[.int .u32 (tsn : Nat), .int .u16 (stream : Nat), .int .u16 (ssn : Nat), .int .u32 (ppid : Nat), .slice x1 x2 x3])) :
    Calls Tryd.prog 47 #[v] w fun e w' => e = .returned (.bool (decide (x2 = 0))) ∧ Below w.heap.size w w' := by
  subst hv
  have tdata := fun (v : Value) (w : World) => ta_yes_st 94 _ v Tryd.underlying94 w
  by_cases h0 : x2 = 0
  · have HE : Hid (decide (x2 = 0) = true) := decide_eq_true h0
    subst h0
    go_enter Tryd.func47, Tryd.ntmps47
    go_wp2
    go_ret
    exact ⟨by first | rfl | simp, by first | exact Below.refl _ _ | exact (Below.refl _ _).alloc (Nat.le_refl _) _⟩
  · have HE : Hid (decide (x2 = 0) = false) := decide_eq_false h0
    have h1 : ¬ (x2 : Int) = 0 := by omega
    have h2 : ((x2 : Int) == 0) = false := by simp; omega
    go_enter Tryd.func47, Tryd.ntmps47
    go_wp2
    go_ret
    exact ⟨by first | rfl | (rw [HE.out]; rfl) | simp | (simp; omega), by first | exact Below.refl _ _ | exact (Below.refl _ _).alloc (Nat.le_refl _) _⟩
set_option linter.unusedVariables false in
set_option maxRecDepth 100000 in
set_option maxHeartbeats 4000000 in
theorem many_data (kind flags tsn stream ssn ppid tag room outs ins : Nat) (b1 : Option Addr) (b2 b3 : Nat) (d1 : Option Addr) (d2 d3 : Nat) (p1 : Option Addr) (p2 p3 : Nat) (x1 : Option Addr) (x2 x3 : Nat) (w : World) (v : Value) (hv : v = .iface 94 (.agg #[.int .u32 (tsn : Nat), .int .u16 (stream : Nat), .int .u16 (ssn : Nat), .int .u32 (ppid : Nat), .slice x1 x2 x3])) :
    Calls Tryd.prog 48 #[v] w fun e w' => e = .returned (.bool false) ∧ Below w.heap.size w w' := by
  subst hv
  have tinit := fun (v : Value) (w : World) => ta_no_st 94 97 _ (.agg #[.int .u32 0, .int .u32 0, .int .u16 0, .int .u16 0, .int .u32 0, .slice none 0 0]) v Tryd.underlying97 (by kernel_rfl) (by decide) w
  have tsack := fun (v : Value) (w : World) => ta_no_st 94 99 _ (.agg #[.int .u32 0, .int .u32 0, .slice none 0 0, .slice none 0 0]) v Tryd.underlying99 (by kernel_rfl) (by decide) w
  have tprms := fun (v : Value) (w : World) => ta_no_sl 94 95 _ (.slice none 0 0) v Tryd.underlying95 (by kernel_rfl) (by decide) w
  go_enter Tryd.func48, Tryd.ntmps48
  go_wp2
  go_ret
  exact ⟨rfl, by first | exact Below.refl _ _ | exact (Below.refl _ _).alloc (Nat.le_refl _) _⟩
set_option linter.unusedVariables false in
set_option maxRecDepth 100000 in
set_option maxHeartbeats 4000000 in
theorem lacks_init (kind flags tsn stream ssn ppid tag room outs ins : Nat) (b1 : Option Addr) (b2 b3 : Nat) (d1 : Option Addr) (d2 d3 : Nat) (p1 : Option Addr) (p2 p3 : Nat) (x1 : Option Addr) (x2 x3 : Nat) (w : World) (v : Value) (hv : v = .iface 97 (.agg #[.int .u32 (tag : Nat), .int .u32 (room : Nat), .int .u16 (outs : Nat), .int .u16 (ins : Nat), .int .u32 (tsn : Nat), .slice p1 p2 p3])) :
    Calls Tryd.prog 47 #[v] w fun e w' => e = .returned (.bool false) ∧ Below w.heap.size w w' := by
  subst hv
  have tdata := fun (v : Value) (w : World) => ta_no_st 97 94 _ (.agg #[.int .u32 0, .int .u16 0, .int .u16 0, .int .u32 0, .slice none 0 0]) v Tryd.underlying94 (by kernel_rfl) (by decide) w
  go_enter Tryd.func47, Tryd.ntmps47
  go_wp2
  go_ret
  exact ⟨rfl, by first | exact Below.refl _ _ | exact (Below.refl _ _).alloc (Nat.le_refl _) _⟩
set_option linter.unusedVariables false in
set_option maxRecDepth 100000 in
set_option maxHeartbeats 4000000 in
theorem many_init (kind flags tsn stream ssn ppid tag room outs ins : Nat) (b1 : Option Addr) (b2 b3 : Nat) (d1 : Option Addr) (d2 d3 : Nat) (p1 : Option Addr) (p2 p3 : Nat) (x1 : Option Addr) (x2 x3 : Nat) (w : World) (v : Value) (hv : v = .iface 97 (.agg #[.int .u32 (tag : Nat), .int .u32 (room : Nat), .int .u16 (outs : Nat), .int .u16 (ins : Nat), .int .u32 (tsn : Nat), .slice p1 p2 p3])) :
    Calls Tryd.prog 48 #[v] w fun e w' => e = .returned (.bool (decide (16 < p2))) ∧ Below w.heap.size w w' := by
  subst hv
  have tinit := fun (v : Value) (w : World) => ta_yes_st 97 _ v Tryd.underlying97 w
  by_cases h0 : 16 < p2
  · have HE : Hid (decide (16 < p2) = true) := decide_eq_true h0
    have h1 : (16 : Int) < (p2 : Int) := by omega
    go_enter Tryd.func48, Tryd.ntmps48
    go_wp2
    go_ret
    exact ⟨by first | rfl | (rw [HE.out]; rfl) | simp | (simp; omega), by first | exact Below.refl _ _ | exact (Below.refl _ _).alloc (Nat.le_refl _) _⟩
  · have HE : Hid (decide (16 < p2) = false) := decide_eq_false h0
    have h1 : ¬ (16 : Int) < (p2 : Int) := by omega
    go_enter Tryd.func48, Tryd.ntmps48
    go_wp2
    go_ret
    exact ⟨by first | rfl | (rw [HE.out]; rfl) | simp | (simp; omega), by first | exact Below.refl _ _ | exact (Below.refl _ _).alloc (Nat.le_refl _) _⟩
set_option linter.unusedVariables false in
set_option maxRecDepth 100000 in
set_option maxHeartbeats 4000000 in
theorem lacks_sack (kind flags tsn stream ssn ppid tag room outs ins : Nat) (b1 : Option Addr) (b2 b3 : Nat) (d1 : Option Addr) (d2 d3 : Nat) (p1 : Option Addr) (p2 p3 : Nat) (x1 : Option Addr) (x2 x3 : Nat) (w : World) (v : Value) (hv : v = .iface 99 (.agg #[.int .u32 (tsn : Nat), .int .u32 (room : Nat), .slice b1 b2 b3, .slice d1 d2 d3])) :
    Calls Tryd.prog 47 #[v] w fun e w' => e = .returned (.bool false) ∧ Below w.heap.size w w' := by
  subst hv
  have tdata := fun (v : Value) (w : World) => ta_no_st 99 94 _ (.agg #[.int .u32 0, .int .u16 0, .int .u16 0, .int .u32 0, .slice none 0 0]) v Tryd.underlying94 (by kernel_rfl) (by decide) w
  go_enter Tryd.func47, Tryd.ntmps47
  go_wp2
  go_ret
  exact ⟨rfl, by first | exact Below.refl _ _ | exact (Below.refl _ _).alloc (Nat.le_refl _) _⟩
set_option linter.unusedVariables false in
set_option maxRecDepth 100000 in
set_option maxHeartbeats 4000000 in
theorem many_sack (kind flags tsn stream ssn ppid tag room outs ins : Nat) (b1 : Option Addr) (b2 b3 : Nat) (d1 : Option Addr) (d2 d3 : Nat) (p1 : Option Addr) (p2 p3 : Nat) (x1 : Option Addr) (x2 x3 : Nat) (w : World) (v : Value) (hv : v = .iface 99 (.agg #[.int .u32 (tsn : Nat), .int .u32 (room : Nat), .slice b1 b2 b3, .slice d1 d2 d3])) :
    Calls Tryd.prog 48 #[v] w fun e w' => e = .returned (.bool (decide (16 < b2 ∨ 16 < d2))) ∧ Below w.heap.size w w' := by
  subst hv
  have tinit := fun (v : Value) (w : World) => ta_no_st 99 97 _ (.agg #[.int .u32 0, .int .u32 0, .int .u16 0, .int .u16 0, .int .u32 0, .slice none 0 0]) v Tryd.underlying97 (by kernel_rfl) (by decide) w
  have tsack := fun (v : Value) (w : World) => ta_yes_st 99 _ v Tryd.underlying99 w
  by_cases h0 : 16 < b2
  · have HE : Hid (decide (16 < b2 ∨ 16 < d2) = true) := decide_eq_true (.inl h0)
    have h1 : (16 : Int) < (b2 : Int) := by omega
    go_enter Tryd.func48, Tryd.ntmps48
    go_wp2
    go_ret
    exact ⟨by first | rfl | (rw [HE.out]; rfl) | simp | (simp; omega), by first | exact Below.refl _ _ | exact (Below.refl _ _).alloc (Nat.le_refl _) _⟩
  · have h1 : ¬ (16 : Int) < (b2 : Int) := by omega
    by_cases h2 : 16 < d2
    · have HE : Hid (decide (16 < b2 ∨ 16 < d2) = true) := decide_eq_true (.inr h2)
      have h3 : (16 : Int) < (d2 : Int) := by omega
      go_enter Tryd.func48, Tryd.ntmps48
      go_wp2
      go_ret
      exact ⟨by first | rfl | (rw [HE.out]; rfl) | simp | (simp; omega), by first | exact Below.refl _ _ | exact (Below.refl _ _).alloc (Nat.le_refl _) _⟩
    · have HE : Hid (decide (16 < b2 ∨ 16 < d2) = false) := decide_eq_false (fun h => h.elim h0 h2)
      have h3 : ¬ (16 : Int) < (d2 : Int) := by omega
      go_enter Tryd.func48, Tryd.ntmps48
      go_wp2
      go_ret
      exact ⟨by first | rfl | (rw [HE.out]; rfl) | simp | (simp; omega), by first | exact Below.refl _ _ | exact (Below.refl _ _).alloc (Nat.le_refl _) _⟩
set_option linter.unusedVariables false in
set_option maxRecDepth 100000 in
set_option maxHeartbeats 4000000 in
theorem lacks_prms (kind flags tsn stream ssn ppid tag room outs ins : Nat) (b1 : Option Addr) (b2 b3 : Nat) (d1 : Option Addr) (d2 d3 : Nat) (p1 : Option Addr) (p2 p3 : Nat) (x1 : Option Addr) (x2 x3 : Nat) (w : World) (v : Value) (hv : v = .iface 95 (.slice p1 p2 p3)) :
    Calls Tryd.prog 47 #[v] w fun e w' => e = .returned (.bool false) ∧ Below w.heap.size w w' := by
  subst hv
  have tdata := fun (v : Value) (w : World) => ta_no_st 95 94 _ (.agg #[.int .u32 0, .int .u16 0, .int .u16 0, .int .u32 0, .slice none 0 0]) v Tryd.underlying94 (by kernel_rfl) (by decide) w
  go_enter Tryd.func47, Tryd.ntmps47
  go_wp2
  go_ret
  exact ⟨rfl, by first | exact Below.refl _ _ | exact (Below.refl _ _).alloc (Nat.le_refl _) _⟩
set_option linter.unusedVariables false in
set_option maxRecDepth 100000 in
set_option maxHeartbeats 4000000 in
theorem many_prms (kind flags tsn stream ssn ppid tag room outs ins : Nat) (b1 : Option Addr) (b2 b3 : Nat) (d1 : Option Addr) (d2 d3 : Nat) (p1 : Option Addr) (p2 p3 : Nat) (x1 : Option Addr) (x2 x3 : Nat) (w : World) (v : Value) (hv : v = .iface 95 (.slice p1 p2 p3)) :
    Calls Tryd.prog 48 #[v] w fun e w' => e = .returned (.bool (decide (16 < p2))) ∧ Below w.heap.size w w' := by
  subst hv
  have tinit := fun (v : Value) (w : World) => ta_no_st 95 97 _ (.agg #[.int .u32 0, .int .u32 0, .int .u16 0, .int .u16 0, .int .u32 0, .slice none 0 0]) v Tryd.underlying97 (by kernel_rfl) (by decide) w
  have tsack := fun (v : Value) (w : World) => ta_no_st 95 99 _ (.agg #[.int .u32 0, .int .u32 0, .slice none 0 0, .slice none 0 0]) v Tryd.underlying99 (by kernel_rfl) (by decide) w
  have tprms := fun (v : Value) (w : World) => ta_yes_sl 95 _ v Tryd.underlying95 w
  by_cases h0 : 16 < p2
  · have HE : Hid (decide (16 < p2) = true) := decide_eq_true h0
    have h1 : (16 : Int) < (p2 : Int) := by omega
    go_enter Tryd.func48, Tryd.ntmps48
    go_wp2
    go_ret
    exact ⟨by first | rfl | (rw [HE.out]; rfl) | simp | (simp; omega), by first | exact Below.refl _ _ | exact (Below.refl _ _).alloc (Nat.le_refl _) _⟩
  · have HE : Hid (decide (16 < p2) = false) := decide_eq_false h0
    have h1 : ¬ (16 : Int) < (p2 : Int) := by omega
    go_enter Tryd.func48, Tryd.ntmps48
    go_wp2
    go_ret
    exact ⟨by first | rfl | (rw [HE.out]; rfl) | simp | (simp; omega), by first | exact Below.refl _ _ | exact (Below.refl _ _).alloc (Nat.le_refl _) _⟩
set_option linter.unusedVariables false in
set_option maxRecDepth 100000 in
set_option maxHeartbeats 4000000 in
theorem lacks_tsnv (kind flags tsn stream ssn ppid tag room outs ins : Nat) (b1 : Option Addr) (b2 b3 : Nat) (d1 : Option Addr) (d2 d3 : Nat) (p1 : Option Addr) (p2 p3 : Nat) (x1 : Option Addr) (x2 x3 : Nat) (w : World) (v : Value) (hv : v = .iface 100 (.int .u32 (tsn : Nat))) :
    Calls Tryd.prog 47 #[v] w fun e w' => e = .returned (.bool false) ∧ Below w.heap.size w w' := by
  subst hv
  have tdata := fun (v : Value) (w : World) => ta_no_st 100 94 _ (.agg #[.int .u32 0, .int .u16 0, .int .u16 0, .int .u32 0, .slice none 0 0]) v Tryd.underlying94 (by kernel_rfl) (by decide) w
  go_enter Tryd.func47, Tryd.ntmps47
  go_wp2
  go_ret
  exact ⟨rfl, by first | exact Below.refl _ _ | exact (Below.refl _ _).alloc (Nat.le_refl _) _⟩
set_option linter.unusedVariables false in
set_option maxRecDepth 100000 in
set_option maxHeartbeats 4000000 in
theorem many_tsnv (kind flags tsn stream ssn ppid tag room outs ins : Nat) (b1 : Option Addr) (b2 b3 : Nat) (d1 : Option Addr) (d2 d3 : Nat) (p1 : Option Addr) (p2 p3 : Nat) (x1 : Option Addr) (x2 x3 : Nat) (w : World) (v : Value) (hv : v = .iface 100 (.int .u32 (tsn : Nat))) :
    Calls Tryd.prog 48 #[v] w fun e w' => e = .returned (.bool false) ∧ Below w.heap.size w w' := by
  subst hv
  have tinit := fun (v : Value) (w : World) => ta_no_st 100 97 _ (.agg #[.int .u32 0, .int .u32 0, .int .u16 0, .int .u16 0, .int .u32 0, .slice none 0 0]) v Tryd.underlying97 (by kernel_rfl) (by decide) w
  have tsack := fun (v : Value) (w : World) => ta_no_st 100 99 _ (.agg #[.int .u32 0, .int .u32 0, .slice none 0 0, .slice none 0 0]) v Tryd.underlying99 (by kernel_rfl) (by decide) w
  have tprms := fun (v : Value) (w : World) => ta_no_sl 100 95 _ (.slice none 0 0) v Tryd.underlying95 (by kernel_rfl) (by decide) w
  go_enter Tryd.func48, Tryd.ntmps48
  go_wp2
  go_ret
  exact ⟨rfl, by first | exact Below.refl _ _ | exact (Below.refl _ _).alloc (Nat.le_refl _) _⟩
set_option linter.unusedVariables false in
set_option maxRecDepth 100000 in
set_option maxHeartbeats 4000000 in
theorem lacks_none (kind flags tsn stream ssn ppid tag room outs ins : Nat) (b1 : Option Addr) (b2 b3 : Nat) (d1 : Option Addr) (d2 d3 : Nat) (p1 : Option Addr) (p2 p3 : Nat) (x1 : Option Addr) (x2 x3 : Nat) (w : World) (v : Value) (hv : v = .iface 102 (.agg #[])) :
    Calls Tryd.prog 47 #[v] w fun e w' => e = .returned (.bool false) ∧ Below w.heap.size w w' := by
  subst hv
  have tdata := fun (v : Value) (w : World) => ta_no_st 102 94 _ (.agg #[.int .u32 0, .int .u16 0, .int .u16 0, .int .u32 0, .slice none 0 0]) v Tryd.underlying94 (by kernel_rfl) (by decide) w
  go_enter Tryd.func47, Tryd.ntmps47
  go_wp2
  go_ret
  exact ⟨rfl, by first | exact Below.refl _ _ | exact (Below.refl _ _).alloc (Nat.le_refl _) _⟩
set_option linter.unusedVariables false in
set_option maxRecDepth 100000 in
set_option maxHeartbeats 4000000 in
theorem many_none (kind flags tsn stream ssn ppid tag room outs ins : Nat) (b1 : Option Addr) (b2 b3 : Nat) (d1 : Option Addr) (d2 d3 : Nat) (p1 : Option Addr) (p2 p3 : Nat) (x1 : Option Addr) (x2 x3 : Nat) (w : World) (v : Value) (hv : v = .iface 102 (.agg #[])) :
    Calls Tryd.prog 48 #[v] w fun e w' => e = .returned (.bool false) ∧ Below w.heap.size w w' := by
  subst hv
  have tinit := fun (v : Value) (w : World) => ta_no_st 102 97 _ (.agg #[.int .u32 0, .int .u32 0, .int .u16 0, .int .u16 0, .int .u32 0, .slice none 0 0]) v Tryd.underlying97 (by kernel_rfl) (by decide) w
  have tsack := fun (v : Value) (w : World) => ta_no_st 102 99 _ (.agg #[.int .u32 0, .int .u32 0, .slice none 0 0, .slice none 0 0]) v Tryd.underlying99 (by kernel_rfl) (by decide) w
  have tprms := fun (v : Value) (w : World) => ta_no_sl 102 95 _ (.slice none 0 0) v Tryd.underlying95 (by kernel_rfl) (by decide) w
  go_enter Tryd.func48, Tryd.ntmps48
  go_wp2
  go_ret
  exact ⟨rfl, by first | exact Below.refl _ _ | exact (Below.refl _ _).alloc (Nat.le_refl _) _⟩
set_option linter.unusedVariables false in
set_option maxRecDepth 100000 in
set_option maxHeartbeats 4000000 in
theorem lacks_raw (kind flags tsn stream ssn ppid tag room outs ins : Nat) (b1 : Option Addr) (b2 b3 : Nat) (d1 : Option Addr) (d2 d3 : Nat) (p1 : Option Addr) (p2 p3 : Nat) (x1 : Option Addr) (x2 x3 : Nat) (w : World) (v : Value) (hv : v = .iface 103 (.slice x1 x2 x3)) :
    Calls Tryd.prog 47 #[v] w fun e w' => e = .returned (.bool false) ∧ Below w.heap.size w w' := by
  subst hv
  have tdata := fun (v : Value) (w : World) => ta_no_st 103 94 _ (.agg #[.int .u32 0, .int .u16 0, .int .u16 0, .int .u32 0, .slice none 0 0]) v Tryd.underlying94 (by kernel_rfl) (by decide) w
  go_enter Tryd.func47, Tryd.ntmps47
  go_wp2
  go_ret
  exact ⟨rfl, by first | exact Below.refl _ _ | exact (Below.refl _ _).alloc (Nat.le_refl _) _⟩
set_option linter.unusedVariables false in
set_option maxRecDepth 100000 in
set_option maxHeartbeats 4000000 in
theorem many_raw (kind flags tsn stream ssn ppid tag room outs ins : Nat) (b1 : Option Addr) (b2 b3 : Nat) (d1 : Option Addr) (d2 d3 : Nat) (p1 : Option Addr) (p2 p3 : Nat) (x1 : Option Addr) (x2 x3 : Nat) (w : World) (v : Value) (hv : v = .iface 103 (.slice x1 x2 x3)) :
    Calls Tryd.prog 48 #[v] w fun e w' => e = .returned (.bool false) ∧ Below w.heap.size w w' := by
  subst hv
  have tinit := fun (v : Value) (w : World) => ta_no_st 103 97 _ (.agg #[.int .u32 0, .int .u32 0, .int .u16 0, .int .u16 0, .int .u32 0, .slice none 0 0]) v Tryd.underlying97 (by kernel_rfl) (by decide) w
  have tsack := fun (v : Value) (w : World) => ta_no_st 103 99 _ (.agg #[.int .u32 0, .int .u32 0, .slice none 0 0, .slice none 0 0]) v Tryd.underlying99 (by kernel_rfl) (by decide) w
  have tprms := fun (v : Value) (w : World) => ta_no_sl 103 95 _ (.slice none 0 0) v Tryd.underlying95 (by kernel_rfl) (by decide) w
  go_enter Tryd.func48, Tryd.ntmps48
  go_wp2
  go_ret
  exact ⟨rfl, by first | exact Below.refl _ _ | exact (Below.refl _ _).alloc (Nat.le_refl _) _⟩
end Go.Proofs.YtifdfkkjmjabnabDoor
