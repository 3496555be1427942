/- arp: a cache that is made; the error of a call's tick; what is answered where there is no cache. -/
import Derived.Test.YtfjpckaphfdfnaaGreatDoorEtPut
namespace Go.Proofs.YtfjpckaphfdfnaaGreatDoor
open Go.RowKit
/-- A cache's five cells. -/
abbrev CaC (mac ip : Nat) (now : Int) (near : Value) (lost : Int) : List Value := [.int .u64 (mac : Nat), .int .u32 (ip : Nat), .int .i64 now, near, .int .i64 lost]
set_option maxRecDepth 100000 in
theorem oneCard_any (m : Nat) (w : World) :
    Calls Tryz.prog 170 #[.int .u64 (m : Nat)] w fun e w' => e = .returned (.bool (decide (m < 281474976710655))) ∧ w' = w := by
  by_cases h : m < 281474976710655
  · have h1 : (m : Int) < 281474976710655 := by omega
    go_enter Tryz.func170, Tryz.ntmps170
    go_wp2
    go_ret
    exact ⟨by first | rfl | (rw [decide_eq_true h]; rfl), rfl⟩
  · have h1 : ¬ (m : Int) < 281474976710655 := by omega
    go_enter Tryz.func170, Tryz.ntmps170
    go_wp2
    go_ret
    exact ⟨by first | rfl | (rw [decide_eq_false h]; rfl), rfl⟩
set_option maxRecDepth 100000 in
theorem anew_ok (m ip : Nat) (w : World) (hm : m < 281474976710655) :
    Calls Tryz.prog 130 #[.int .u64 (m : Nat), .int .u32 (ip : Nat)] w fun e w' => e = .returned (.tuple #[.pointer (some ⟨w.heap.size, 0, none⟩), .int .i64 0]) ∧ Stc w' w.heap.size (CaC m ip 0 (.map none) 0) ∧ Below w.heap.size w w' := by
  have hc := oneCard_any m w
  rw [decide_eq_true hm] at hc
  go_enter Tryz.func130, Tryz.ntmps130
  go_wp2_with fail
  refine hc.mono ?_
  rintro e w1 ⟨rfl, rfl⟩
  go_wp2
  go_ret2
  exact ⟨rfl, Stc.new w1 (CaC m ip 0 (.map none) 0) 169 _ rfl, (Below.refl _ _).alloc (Nat.le_refl _) _⟩
set_option maxRecDepth 100000 in
theorem amayBe_nil (now : Int) (w : World) :
    Calls Tryz.prog 89 #[.pointer none, .int .i64 now] w fun e w' => e = .returned (.int .i64 1) ∧ Below w.heap.size w w' := by
  go_enter Tryz.func89, Tryz.ntmps89
  go_wp2
  go_ret
  exact ⟨rfl, Below.refl _ _⟩
/-- The error of a call's tick. -/
def atkE (was now : Int) : Nat := if now < 0 ∨ 1099511627776 < now then 2 else if now < was then 18 else 0
set_option maxRecDepth 100000 in
theorem amayBe_any {w : World} {p : Nat} {mac ip : Nat} {was : Int} {near : Value} {lost : Int} (h : Stc w p (CaC mac ip was near lost)) (now : Int) :
    Calls Tryz.prog 89 #[.pointer (some ⟨p, 0, none⟩), .int .i64 now] w fun e w' => e = .returned (.int .i64 (atkE was now : Nat)) ∧ Below w.heap.size w w' := by
  have c2 := h.cell 2 _ rfl
  by_cases h1 : now < 0
  · have HT : Hid (atkE was now = 2) := by show _ = _; unfold atkE; rw [if_pos (.inl h1)]
    go_enter Tryz.func89, Tryz.ntmps89
    go_wp2
    go_ret
    exact ⟨by rw [HT.out]; rfl, Below.refl _ _⟩
  by_cases h2 : 1099511627776 < now
  · have HT : Hid (atkE was now = 2) := by show _ = _; unfold atkE; rw [if_pos (.inr h2)]
    go_enter Tryz.func89, Tryz.ntmps89
    go_wp2
    go_ret
    exact ⟨by rw [HT.out]; rfl, Below.refl _ _⟩
  by_cases h3 : now < was
  · have HT : Hid (atkE was now = 18) := by show _ = _; unfold atkE; rw [if_neg (by omega), if_pos h3]
    go_enter Tryz.func89, Tryz.ntmps89
    go_wp2
    go_ret
    exact ⟨by rw [HT.out]; rfl, Below.refl _ _⟩
  · have HT : Hid (atkE was now = 0) := by show _ = _; unfold atkE; rw [if_neg (by omega), if_neg h3]
    go_enter Tryz.func89, Tryz.ntmps89
    go_wp2
    go_ret
    exact ⟨by rw [HT.out]; rfl, Below.refl _ _⟩
set_option maxRecDepth 100000 in
theorem asend_nil (to : Nat) (v : Value) (now : Int) (w : World) :
    Calls Tryz.prog 195 #[.pointer none, .int .u32 (to : Nat), v, .int .i64 now] w fun e w' => e = .returned (.tuple #[.slice none 0 0, .int .i64 1]) ∧ Below w.heap.size w w' := by
  go_enter Tryz.func195, Tryz.ntmps195
  go_wp2_with fail
  refine (amayBe_nil now w).mono ?_
  rintro e w1 ⟨rfl, b1⟩
  go_wp2
  go_ret2
  exact ⟨rfl, b1⟩
set_option maxRecDepth 100000 in
theorem atake_nil (x0 x1 x2 x3 x4 : Value) (now : Int) (w : World) :
    Calls Tryz.prog 153 #[.pointer none, .agg #[x0, x1, x2, x3, x4], .int .i64 now] w fun e w' => e = .returned (.tuple #[.slice none 0 0, .int .i64 1]) ∧ Below w.heap.size w w' := by
  obtain ⟨W, hW⟩ : ∃ W, W = w.alloc (.cells #[x0, x1, x2, x3, x4] 251) := ⟨_, rfl⟩
  have b0 : Below w.heap.size w W := by rw [hW]; exact (Below.refl _ _).alloc (Nat.le_refl _) _
  go_enter Tryz.func153, Tryz.ntmps153
  go_wp2_with fail
  rw [← hW]
  clear hW
  refine (amayBe_nil now W).mono ?_
  rintro e w1 ⟨rfl, b1⟩
  have HB := (show Hid _ from b0.trans (b1.mono b0.size))
  clear b0 b1
  go_wp2
  go_ret2
  exact ⟨rfl, HB.out⟩
set_option maxRecDepth 100000 in
theorem atick_nil (now : Int) (w : World) :
    Calls Tryz.prog 52 #[.pointer none, .int .i64 now] w fun e w' => e = .returned (.tuple #[.slice none 0 0, .int .i64 1]) ∧ Below w.heap.size w w' := by
  go_enter Tryz.func52, Tryz.ntmps52
  go_wp2_with fail
  refine (amayBe_nil now w).mono ?_
  rintro e w1 ⟨rfl, b1⟩
  go_wp2
  go_ret2
  exact ⟨rfl, b1⟩
set_option maxRecDepth 100000 in
theorem atable_nil (w : World) :
    Calls Tryz.prog 39 #[.pointer none] w fun e w' => e = .returned (.slice none 0 0) ∧ Below w.heap.size w w' := by
  go_enter Tryz.func39, Tryz.ntmps39
  go_wp2
  go_ret
  exact ⟨rfl, Below.refl _ _⟩
end Go.Proofs.YtfjpckaphfdfnaaGreatDoor
