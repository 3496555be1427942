/- trunklineref13: Add: the region that lays the pieces and the new one. -/
import Derived.Test.YtjaheelgcjafcaaKY
import Derived.Test.YtjaheelgcjafcaaKR
import Derived.Test.YtjaheelgcjafcaaKV
namespace Go.Proofs.Ytjaheelgcjafcaa
open Go.RowKit
set_option linter.unusedVariables false in
set_option maxRecDepth 100000 in
set_option maxHeartbeats 4000000 in
theorem rcheck_odd (k : Nat) (c1 c2 c3 c4 c5 c6 c7 c8 c9 : Value) (b1 : Option Addr) (b2 b3 : Nat) (d1 : Option Addr) (d2 d3 : Nat) (p1 : Option Addr) (p2 p3 : Nat) (x1 : Option Addr) (x2 x3 : Nat) (w : World)  (ho : ∀ W v, v = .agg #[.int .u8 (k : Nat), c1, c2, c3, c4, c5, c6, c7, c8, c9, .slice b1 b2 b3, .slice d1 d2 d3, .slice p1 p2 p3, .slice x1 x2 x3] → Calls Try.prog 61 #[v] W fun e w' => e = .returned (.bool true) ∧ Below W.heap.size W w') :
    Calls Try.prog 48 #[.agg #[.int .u8 (k : Nat), c1, c2, c3, c4, c5, c6, c7, c8, c9, .slice b1 b2 b3, .slice d1 d2 d3, .slice p1 p2 p3, .slice x1 x2 x3]] w fun e w' => e = .returned (.int .i64 2) ∧ Below w.heap.size w w' := by
  obtain ⟨W0, hW0⟩ : ∃ W0, W0 = w.alloc (.cells #[.int .u8 (k : Nat), c1, c2, c3, c4, c5, c6, c7, c8, c9, .slice b1 b2 b3, .slice d1 d2 d3, .slice p1 p2 p3, .slice x1 x2 x3] 47) := ⟨_, rfl⟩
  have hb0 : Below w.heap.size w W0 := by rw [hW0]; exact (Below.refl _ _).alloc (Nat.le_refl _) _
  have hst := Stc.new w [.int .u8 (k : Nat), c1, c2, c3, c4, c5, c6, c7, c8, c9, .slice b1 b2 b3, .slice d1 d2 d3, .slice p1 p2 p3, .slice x1 x2 x3] 47 W0 hW0
  have HB := (show Hid _ from And.intro hb0 hst)
  have HV := (show Hid _ from ho W0 _ rfl)
  clear ho
  go_enter Try.func48, Try.ntmps48
  go_wp2_with fail
  rw [← hW0]
  refine Calls.mono HV.out ?_
  clear HV
  rintro e w1 ⟨rfl, hb1⟩
  have hst1 := hst.below hb1
  have HB1 : Hid (Below w.heap.size w w1) := hb0.trans (hb1.mono hb0.size)
  have HS1 := (show Hid _ from hst1)
  clear hb0 hst HB hW0 hb1
  clear hst1 HS1
  go_wp2
  go_ret
  exact ⟨rfl, HB1.out⟩
set_option linter.unusedVariables false in
set_option maxRecDepth 100000 in
set_option maxHeartbeats 4000000 in
theorem rcheck_bare (k : Nat) (c1 c2 c3 c4 c5 c6 c7 c8 c9 : Value) (b1 : Option Addr) (b2 b3 : Nat) (d1 : Option Addr) (d2 d3 : Nat) (p1 : Option Addr) (p2 p3 : Nat) (x1 : Option Addr) (x2 x3 : Nat) (w : World) (hk : k = 0) (hx : x2 = 0) (ho : ∀ W v, v = .agg #[.int .u8 (k : Nat), c1, c2, c3, c4, c5, c6, c7, c8, c9, .slice b1 b2 b3, .slice d1 d2 d3, .slice p1 p2 p3, .slice x1 x2 x3] → Calls Try.prog 61 #[v] W fun e w' => e = .returned (.bool false) ∧ Below W.heap.size W w') :
    Calls Try.prog 48 #[.agg #[.int .u8 (k : Nat), c1, c2, c3, c4, c5, c6, c7, c8, c9, .slice b1 b2 b3, .slice d1 d2 d3, .slice p1 p2 p3, .slice x1 x2 x3]] w fun e w' => e = .returned (.int .i64 2) ∧ Below w.heap.size w w' := by
  obtain ⟨W0, hW0⟩ : ∃ W0, W0 = w.alloc (.cells #[.int .u8 (k : Nat), c1, c2, c3, c4, c5, c6, c7, c8, c9, .slice b1 b2 b3, .slice d1 d2 d3, .slice p1 p2 p3, .slice x1 x2 x3] 47) := ⟨_, rfl⟩
  have hb0 : Below w.heap.size w W0 := by rw [hW0]; exact (Below.refl _ _).alloc (Nat.le_refl _) _
  have hst := Stc.new w [.int .u8 (k : Nat), c1, c2, c3, c4, c5, c6, c7, c8, c9, .slice b1 b2 b3, .slice d1 d2 d3, .slice p1 p2 p3, .slice x1 x2 x3] 47 W0 hW0
  have HB := (show Hid _ from And.intro hb0 hst)
  have HV := (show Hid _ from ho W0 _ rfl)
  clear ho
  have HKX := (show Hid _ from And.intro hk hx)
  clear hk hx
  go_enter Try.func48, Try.ntmps48
  go_wp2_with fail
  rw [← hW0]
  refine Calls.mono HV.out ?_
  clear HV
  rintro e w1 ⟨rfl, hb1⟩
  have hst1 := hst.below hb1
  have HB1 : Hid (Below w.heap.size w w1) := hb0.trans (hb1.mono hb0.size)
  have HS1 := (show Hid _ from hst1)
  clear hb0 hst HB hW0 hb1
  have s0 := hst1.cell 0 _ rfl
  have s13 := hst1.cell 13 _ rfl
  have hk9 : ((k : Int) == 0) = true := by have := HKX.out; simp; omega
  have hx9 : ((x2 : Int) == 0) = true := by have := HKX.out; simp; omega
  clear hst1 HS1
  go_wp2
  go_ret
  exact ⟨rfl, HB1.out⟩
set_option linter.unusedVariables false in
set_option maxRecDepth 100000 in
set_option maxHeartbeats 4000000 in
theorem rcheck_many_p (k : Nat) (c1 c2 c3 c4 c5 c6 c7 c8 c9 : Value) (b1 : Option Addr) (b2 b3 : Nat) (d1 : Option Addr) (d2 d3 : Nat) (p1 : Option Addr) (p2 p3 : Nat) (x1 : Option Addr) (x2 x3 : Nat) (w : World) (hg : k = 0 → ¬ x2 = 0) (hp : 16 < p2) (ho : ∀ W v, v = .agg #[.int .u8 (k : Nat), c1, c2, c3, c4, c5, c6, c7, c8, c9, .slice b1 b2 b3, .slice d1 d2 d3, .slice p1 p2 p3, .slice x1 x2 x3] → Calls Try.prog 61 #[v] W fun e w' => e = .returned (.bool false) ∧ Below W.heap.size W w') :
    Calls Try.prog 48 #[.agg #[.int .u8 (k : Nat), c1, c2, c3, c4, c5, c6, c7, c8, c9, .slice b1 b2 b3, .slice d1 d2 d3, .slice p1 p2 p3, .slice x1 x2 x3]] w fun e w' => e = .returned (.int .i64 6) ∧ Below w.heap.size w w' := by
  obtain ⟨W0, hW0⟩ : ∃ W0, W0 = w.alloc (.cells #[.int .u8 (k : Nat), c1, c2, c3, c4, c5, c6, c7, c8, c9, .slice b1 b2 b3, .slice d1 d2 d3, .slice p1 p2 p3, .slice x1 x2 x3] 47) := ⟨_, rfl⟩
  have hb0 : Below w.heap.size w W0 := by rw [hW0]; exact (Below.refl _ _).alloc (Nat.le_refl _) _
  have hst := Stc.new w [.int .u8 (k : Nat), c1, c2, c3, c4, c5, c6, c7, c8, c9, .slice b1 b2 b3, .slice d1 d2 d3, .slice p1 p2 p3, .slice x1 x2 x3] 47 W0 hW0
  have HB := (show Hid _ from And.intro hb0 hst)
  have HV := (show Hid _ from ho W0 _ rfl)
  clear ho
  go_enter Try.func48, Try.ntmps48
  go_wp2_with fail
  rw [← hW0]
  refine Calls.mono HV.out ?_
  clear HV
  rintro e w1 ⟨rfl, hb1⟩
  have hst1 := hst.below hb1
  have HB1 : Hid (Below w.heap.size w w1) := hb0.trans (hb1.mono hb0.size)
  have HS1 := (show Hid _ from hst1)
  clear hb0 hst HB hW0 hb1
  have s0 := hst1.cell 0 _ rfl
  have s10 := hst1.cell 10 _ rfl
  have s11 := hst1.cell 11 _ rfl
  have s12 := hst1.cell 12 _ rfl
  have s13 := hst1.cell 13 _ rfl
  clear hst1 HS1
  have fp : (16 : Int) < (p2 : Int) := by omega
  by_cases hk : k = 0
  · have hx : ((x2 : Int) == 0) = false := by have := hg hk; simp; omega
    subst hk
    clear hg
    go_wp2
    go_ret
    exact ⟨rfl, HB1.out⟩
  · have hx : ((k : Int) == 0) = false := by simp; omega
    clear hg hk
    go_wp2
    go_ret
    exact ⟨rfl, HB1.out⟩
set_option linter.unusedVariables false in
set_option maxRecDepth 100000 in
set_option maxHeartbeats 4000000 in
theorem rcheck_many_b (k : Nat) (c1 c2 c3 c4 c5 c6 c7 c8 c9 : Value) (b1 : Option Addr) (b2 b3 : Nat) (d1 : Option Addr) (d2 d3 : Nat) (p1 : Option Addr) (p2 p3 : Nat) (x1 : Option Addr) (x2 x3 : Nat) (w : World) (hg : k = 0 → ¬ x2 = 0) (hp : ¬ 16 < p2) (hb : 16 < b2) (ho : ∀ W v, v = .agg #[.int .u8 (k : Nat), c1, c2, c3, c4, c5, c6, c7, c8, c9, .slice b1 b2 b3, .slice d1 d2 d3, .slice p1 p2 p3, .slice x1 x2 x3] → Calls Try.prog 61 #[v] W fun e w' => e = .returned (.bool false) ∧ Below W.heap.size W w') :
    Calls Try.prog 48 #[.agg #[.int .u8 (k : Nat), c1, c2, c3, c4, c5, c6, c7, c8, c9, .slice b1 b2 b3, .slice d1 d2 d3, .slice p1 p2 p3, .slice x1 x2 x3]] w fun e w' => e = .returned (.int .i64 6) ∧ Below w.heap.size w w' := by
  obtain ⟨W0, hW0⟩ : ∃ W0, W0 = w.alloc (.cells #[.int .u8 (k : Nat), c1, c2, c3, c4, c5, c6, c7, c8, c9, .slice b1 b2 b3, .slice d1 d2 d3, .slice p1 p2 p3, .slice x1 x2 x3] 47) := ⟨_, rfl⟩
  have hb0 : Below w.heap.size w W0 := by rw [hW0]; exact (Below.refl _ _).alloc (Nat.le_refl _) _
  have hst := Stc.new w [.int .u8 (k : Nat), c1, c2, c3, c4, c5, c6, c7, c8, c9, .slice b1 b2 b3, .slice d1 d2 d3, .slice p1 p2 p3, .slice x1 x2 x3] 47 W0 hW0
  have HB := (show Hid _ from And.intro hb0 hst)
  have HV := (show Hid _ from ho W0 _ rfl)
  clear ho
  go_enter Try.func48, Try.ntmps48
  go_wp2_with fail
  rw [← hW0]
  refine Calls.mono HV.out ?_
  clear HV
  rintro e w1 ⟨rfl, hb1⟩
  have hst1 := hst.below hb1
  have HB1 : Hid (Below w.heap.size w w1) := hb0.trans (hb1.mono hb0.size)
  have HS1 := (show Hid _ from hst1)
  clear hb0 hst HB hW0 hb1
  have s0 := hst1.cell 0 _ rfl
  have s10 := hst1.cell 10 _ rfl
  have s11 := hst1.cell 11 _ rfl
  have s12 := hst1.cell 12 _ rfl
  have s13 := hst1.cell 13 _ rfl
  clear hst1 HS1
  have fp : ¬ (16 : Int) < (p2 : Int) := by omega
  have fb : (16 : Int) < (b2 : Int) := by omega
  by_cases hk : k = 0
  · have hx : ((x2 : Int) == 0) = false := by have := hg hk; simp; omega
    subst hk
    clear hg
    go_wp2
    go_ret
    exact ⟨rfl, HB1.out⟩
  · have hx : ((k : Int) == 0) = false := by simp; omega
    clear hg hk
    go_wp2
    go_ret
    exact ⟨rfl, HB1.out⟩
set_option linter.unusedVariables false in
set_option maxRecDepth 100000 in
set_option maxHeartbeats 4000000 in
theorem rcheck_many_d (k : Nat) (c1 c2 c3 c4 c5 c6 c7 c8 c9 : Value) (b1 : Option Addr) (b2 b3 : Nat) (d1 : Option Addr) (d2 d3 : Nat) (p1 : Option Addr) (p2 p3 : Nat) (x1 : Option Addr) (x2 x3 : Nat) (w : World) (hg : k = 0 → ¬ x2 = 0) (hp : ¬ 16 < p2) (hb : ¬ 16 < b2) (hd : 16 < d2) (ho : ∀ W v, v = .agg #[.int .u8 (k : Nat), c1, c2, c3, c4, c5, c6, c7, c8, c9, .slice b1 b2 b3, .slice d1 d2 d3, .slice p1 p2 p3, .slice x1 x2 x3] → Calls Try.prog 61 #[v] W fun e w' => e = .returned (.bool false) ∧ Below W.heap.size W w') :
    Calls Try.prog 48 #[.agg #[.int .u8 (k : Nat), c1, c2, c3, c4, c5, c6, c7, c8, c9, .slice b1 b2 b3, .slice d1 d2 d3, .slice p1 p2 p3, .slice x1 x2 x3]] w fun e w' => e = .returned (.int .i64 6) ∧ Below w.heap.size w w' := by
  obtain ⟨W0, hW0⟩ : ∃ W0, W0 = w.alloc (.cells #[.int .u8 (k : Nat), c1, c2, c3, c4, c5, c6, c7, c8, c9, .slice b1 b2 b3, .slice d1 d2 d3, .slice p1 p2 p3, .slice x1 x2 x3] 47) := ⟨_, rfl⟩
  have hb0 : Below w.heap.size w W0 := by rw [hW0]; exact (Below.refl _ _).alloc (Nat.le_refl _) _
  have hst := Stc.new w [.int .u8 (k : Nat), c1, c2, c3, c4, c5, c6, c7, c8, c9, .slice b1 b2 b3, .slice d1 d2 d3, .slice p1 p2 p3, .slice x1 x2 x3] 47 W0 hW0
  have HB := (show Hid _ from And.intro hb0 hst)
  have HV := (show Hid _ from ho W0 _ rfl)
  clear ho
  go_enter Try.func48, Try.ntmps48
  go_wp2_with fail
  rw [← hW0]
  refine Calls.mono HV.out ?_
  clear HV
  rintro e w1 ⟨rfl, hb1⟩
  have hst1 := hst.below hb1
  have HB1 : Hid (Below w.heap.size w w1) := hb0.trans (hb1.mono hb0.size)
  have HS1 := (show Hid _ from hst1)
  clear hb0 hst HB hW0 hb1
  have s0 := hst1.cell 0 _ rfl
  have s10 := hst1.cell 10 _ rfl
  have s11 := hst1.cell 11 _ rfl
  have s12 := hst1.cell 12 _ rfl
  have s13 := hst1.cell 13 _ rfl
  clear hst1 HS1
  have fp : ¬ (16 : Int) < (p2 : Int) := by omega
  have fb : ¬ (16 : Int) < (b2 : Int) := by omega
  have fd : (16 : Int) < (d2 : Int) := by omega
  by_cases hk : k = 0
  · have hx : ((x2 : Int) == 0) = false := by have := hg hk; simp; omega
    subst hk
    clear hg
    go_wp2
    go_ret
    exact ⟨rfl, HB1.out⟩
  · have hx : ((k : Int) == 0) = false := by simp; omega
    clear hg hk
    go_wp2
    go_ret
    exact ⟨rfl, HB1.out⟩
set_option linter.unusedVariables false in
set_option maxRecDepth 100000 in
set_option maxHeartbeats 4000000 in
theorem rcheck_many_x (k : Nat) (c1 c2 c3 c4 c5 c6 c7 c8 c9 : Value) (b1 : Option Addr) (b2 b3 : Nat) (d1 : Option Addr) (d2 d3 : Nat) (p1 : Option Addr) (p2 p3 : Nat) (x1 : Option Addr) (x2 x3 : Nat) (w : World) (hg : k = 0 → ¬ x2 = 0) (hp : ¬ 16 < p2) (hb : ¬ 16 < b2) (hd : ¬ 16 < d2) (hx : 1480 < x2) (ho : ∀ W v, v = .agg #[.int .u8 (k : Nat), c1, c2, c3, c4, c5, c6, c7, c8, c9, .slice b1 b2 b3, .slice d1 d2 d3, .slice p1 p2 p3, .slice x1 x2 x3] → Calls Try.prog 61 #[v] W fun e w' => e = .returned (.bool false) ∧ Below W.heap.size W w') :
    Calls Try.prog 48 #[.agg #[.int .u8 (k : Nat), c1, c2, c3, c4, c5, c6, c7, c8, c9, .slice b1 b2 b3, .slice d1 d2 d3, .slice p1 p2 p3, .slice x1 x2 x3]] w fun e w' => e = .returned (.int .i64 6) ∧ Below w.heap.size w w' := by
  obtain ⟨W0, hW0⟩ : ∃ W0, W0 = w.alloc (.cells #[.int .u8 (k : Nat), c1, c2, c3, c4, c5, c6, c7, c8, c9, .slice b1 b2 b3, .slice d1 d2 d3, .slice p1 p2 p3, .slice x1 x2 x3] 47) := ⟨_, rfl⟩
  have hb0 : Below w.heap.size w W0 := by rw [hW0]; exact (Below.refl _ _).alloc (Nat.le_refl _) _
  have hst := Stc.new w [.int .u8 (k : Nat), c1, c2, c3, c4, c5, c6, c7, c8, c9, .slice b1 b2 b3, .slice d1 d2 d3, .slice p1 p2 p3, .slice x1 x2 x3] 47 W0 hW0
  have HB := (show Hid _ from And.intro hb0 hst)
  have HV := (show Hid _ from ho W0 _ rfl)
  clear ho
  go_enter Try.func48, Try.ntmps48
  go_wp2_with fail
  rw [← hW0]
  refine Calls.mono HV.out ?_
  clear HV
  rintro e w1 ⟨rfl, hb1⟩
  have hst1 := hst.below hb1
  have HB1 : Hid (Below w.heap.size w w1) := hb0.trans (hb1.mono hb0.size)
  have HS1 := (show Hid _ from hst1)
  clear hb0 hst HB hW0 hb1
  have s0 := hst1.cell 0 _ rfl
  have s10 := hst1.cell 10 _ rfl
  have s11 := hst1.cell 11 _ rfl
  have s12 := hst1.cell 12 _ rfl
  have s13 := hst1.cell 13 _ rfl
  clear hst1 HS1
  have fp : ¬ (16 : Int) < (p2 : Int) := by omega
  have fb : ¬ (16 : Int) < (b2 : Int) := by omega
  have fd : ¬ (16 : Int) < (d2 : Int) := by omega
  have fx : (1480 : Int) < (x2 : Int) := by omega
  by_cases hk : k = 0
  · have hx : ((x2 : Int) == 0) = false := by have := hg hk; simp; omega
    subst hk
    clear hg
    go_wp2
    go_ret
    exact ⟨rfl, HB1.out⟩
  · have hx : ((k : Int) == 0) = false := by simp; omega
    clear hg hk
    go_wp2
    go_ret
    exact ⟨rfl, HB1.out⟩
set_option linter.unusedVariables false in
set_option maxRecDepth 100000 in
set_option maxHeartbeats 4000000 in
theorem rcheck_rest (k : Nat) (c1 c2 c3 c4 c5 c6 c7 c8 c9 : Value) (b1 : Option Addr) (b2 b3 : Nat) (d1 : Option Addr) (d2 d3 : Nat) (p1 : Option Addr) (p2 p3 : Nat) (x1 : Option Addr) (x2 x3 : Nat) (w : World) (hg : k = 0 → ¬ x2 = 0) (hp : ¬ 16 < p2) (hb : ¬ 16 < b2) (hd : ¬ 16 < d2) (hx : ¬ 1480 < x2) (ls : List Nat) (BL : List Nat) (hP : Prs w p1 p2 p3 ls) (ho : ∀ W v, v = .agg #[.int .u8 (k : Nat), c1, c2, c3, c4, c5, c6, c7, c8, c9, .slice b1 b2 b3, .slice d1 d2 d3, .slice p1 p2 p3, .slice x1 x2 x3] → Calls Try.prog 61 #[v] W fun e w' => e = .returned (.bool false) ∧ Below W.heap.size W w')
    (hBy : (∀ l ∈ ls, l ≤ 1480) → ∀ W v, v = .agg #[.int .u8 (k : Nat), c1, c2, c3, c4, c5, c6, c7, c8, c9, .slice b1 b2 b3, .slice d1 d2 d3, .slice p1 p2 p3, .slice x1 x2 x3] → Below w.heap.size w W → Calls Try.prog 62 #[v] W (RowV W BL)) :
    Calls Try.prog 48 #[.agg #[.int .u8 (k : Nat), c1, c2, c3, c4, c5, c6, c7, c8, c9, .slice b1 b2 b3, .slice d1 d2 d3, .slice p1 p2 p3, .slice x1 x2 x3]] w fun e w' => e = .returned (.int .i64 (if ∃ l ∈ ls, 1480 < l then 6 else if 1468 < BL.length then 6 else 0)) ∧ Below w.heap.size w w' := by
  have hlen := hP.len
  have HPB := (show Hid _ from And.intro hP hBy)
  clear hP hBy
  obtain ⟨W0, hW0⟩ : ∃ W0, W0 = w.alloc (.cells #[.int .u8 (k : Nat), c1, c2, c3, c4, c5, c6, c7, c8, c9, .slice b1 b2 b3, .slice d1 d2 d3, .slice p1 p2 p3, .slice x1 x2 x3] 47) := ⟨_, rfl⟩
  have hb0 : Below w.heap.size w W0 := by rw [hW0]; exact (Below.refl _ _).alloc (Nat.le_refl _) _
  have hst := Stc.new w [.int .u8 (k : Nat), c1, c2, c3, c4, c5, c6, c7, c8, c9, .slice b1 b2 b3, .slice d1 d2 d3, .slice p1 p2 p3, .slice x1 x2 x3] 47 W0 hW0
  have HB := (show Hid _ from And.intro hb0 hst)
  have HV := (show Hid _ from ho W0 _ rfl)
  clear ho
  obtain ⟨RR, hRR⟩ : ∃ RR : Int, RR = (if ∃ l ∈ ls, 1480 < l then (6 : Int) else if 1468 < BL.length then 6 else 0) := ⟨_, rfl⟩
  have HRR := (show Hid _ from hRR)
  rw [← hRR]
  clear hRR
  go_enter Try.func48, Try.ntmps48
  go_wp2_with fail
  rw [← hW0]
  refine Calls.mono HV.out ?_
  clear HV
  rintro e w1 ⟨rfl, hb1⟩
  have hst1 := hst.below hb1
  have HB1 : Hid (Below w.heap.size w w1) := hb0.trans (hb1.mono hb0.size)
  have HS1 := (show Hid _ from hst1)
  clear hb0 hst HB hW0 hb1
  have s0 := hst1.cell 0 _ rfl
  have s10 := hst1.cell 10 _ rfl
  have s11 := hst1.cell 11 _ rfl
  have s12 := hst1.cell 12 _ rfl
  have s13 := hst1.cell 13 _ rfl
  clear hst1
  have fp : ¬ (16 : Int) < (p2 : Int) := by omega
  have fb : ¬ (16 : Int) < (b2 : Int) := by omega
  have fd : ¬ (16 : Int) < (d2 : Int) := by omega
  have fx : ¬ (1480 : Int) < (x2 : Int) := by omega
  by_cases hk : k = 0
  · have hx9 : ((x2 : Int) == 0) = false := by have := hg hk; simp; omega
    have hk9 : ((k : Int) == 0) = true := by simp; omega
    clear hg hk
    go_wp2_with fail
    go_loopw [3] (fun u3 wr => ∃ i : Nat, i ≤ p2 ∧ u3 = .int .i64 (i : Nat) ∧ wr = w1 ∧ ∀ l ∈ ls.take i, l ≤ 1480) (fun u3 _ => p2 - (intOf u3).toNat)
    case atStart => exact ⟨0, by omega, rfl, (by first | rfl | trivial), fun l hl => by simp at hl⟩
    case round =>
      obtain ⟨i, hin, rfl, rfl, hall⟩ := hrel
      have HAL := (show Hid _ from hall)
      clear hall
      by_cases hlt : i < p2
      · have hlt1 : (i : Int) < (p2 : Int) := by omega
        obtain ⟨l, hli⟩ : ∃ l, ls[i]? = some l := ⟨_, List.getElem?_eq_getElem (by omega)⟩
        obtain ⟨b, off, hab, hbl, hrow⟩ : ∃ b off, p1 = some ⟨b, off, none⟩ ∧ b < w.heap.size ∧ ∀ i l, ls[i]? = some l → ∃ k va vc, w.cell? ⟨b, off + i * 2, none⟩ = some (.int .u16 (k : Nat)) ∧ w.cell? ⟨b, off + i * 2 + 1, none⟩ = some (.slice va l vc) := by
          rcases HPB.out.1.at_ with e | e
          · omega
          · exact e
        subst hab
        obtain ⟨kk, va, vc, _, c1x⟩ := hrow i l hli
        have c1y := (HB1.out.cell (p := ⟨b, off + i * 2 + 1, none⟩) hbl).trans c1x
        clear hrow c1x
        have HLI := (show Hid _ from hli)
        clear hli
        by_cases hl : 1480 < l
        · have hl1 : (1480 : Int) < (l : Int) := by omega
          have HE : Hid ((if ∃ l ∈ ls, 1480 < l then (6 : Int) else if 1468 < BL.length then 6 else 0) = 6) := if_pos ⟨l, List.mem_of_getElem? HLI.out, hl⟩
          rw [← HRR.out] at HE
          have hE := HE.out
          subst hE
          clear HE HRR
          go_wp2
          go_ret
          exact ⟨rfl, HB1.out⟩
        · have hl1 : ¬ (1480 : Int) < (l : Int) := by omega
          have HF : Hid (∀ l ∈ ls.take (i + 1), l ≤ 1480) := by
            show ∀ l ∈ _, _
            rw [List.take_add_one, HLI.out]
            intro q hq
            rcases List.mem_append.1 hq with hq | hq
            · exact HAL.out q hq
            · simp at hq; omega
          go_wp2
          go_roundw
          case rel => exact ⟨i + 1, by omega, by go_num, (by first | rfl | trivial), HF.out⟩
          case measure => simp [intOf]; omega
      · have hlt1 : ¬ (i : Int) < (p2 : Int) := by omega
        have hA := HAL.out
        rw [show ls.take i = ls from List.take_of_length_le (by omega)] at hA
        have HN := (show Hid _ from HPB.out.2 hA wr _ rfl HB1.out)
        have HE : Hid ((if ∃ l ∈ ls, 1480 < l then (6 : Int) else if 1468 < BL.length then 6 else 0) = if 1468 < BL.length then 6 else 0) := if_neg (by rintro ⟨l, hl, hl2⟩; have := hA l hl; omega)
        rw [← HRR.out] at HE
        clear hA HAL HPB HRR
        obtain ⟨t0, t1, t2, t3, t4, t5, t6, t7, t8, t9, t10, t11, t12, t13⟩ : (wr.cell? ⟨w.heap.size, 0, none⟩ = some (.int .u8 (k : Nat))) ∧ (wr.cell? ⟨w.heap.size, 1, none⟩ = some c1) ∧ (wr.cell? ⟨w.heap.size, 2, none⟩ = some c2) ∧ (wr.cell? ⟨w.heap.size, 3, none⟩ = some c3) ∧ (wr.cell? ⟨w.heap.size, 4, none⟩ = some c4) ∧ (wr.cell? ⟨w.heap.size, 5, none⟩ = some c5) ∧ (wr.cell? ⟨w.heap.size, 6, none⟩ = some c6) ∧ (wr.cell? ⟨w.heap.size, 7, none⟩ = some c7) ∧ (wr.cell? ⟨w.heap.size, 8, none⟩ = some c8) ∧ (wr.cell? ⟨w.heap.size, 9, none⟩ = some c9) ∧ (wr.cell? ⟨w.heap.size, 10, none⟩ = some (.slice b1 b2 b3)) ∧ (wr.cell? ⟨w.heap.size, 11, none⟩ = some (.slice d1 d2 d3)) ∧ (wr.cell? ⟨w.heap.size, 12, none⟩ = some (.slice p1 p2 p3)) ∧ (wr.cell? ⟨w.heap.size, 13, none⟩ = some (.slice x1 x2 x3)) := by
          have h := HS1.out
          exact ⟨h.cell 0 _ rfl, h.cell 1 _ rfl, h.cell 2 _ rfl, h.cell 3 _ rfl, h.cell 4 _ rfl, h.cell 5 _ rfl, h.cell 6 _ rfl, h.cell 7 _ rfl, h.cell 8 _ rfl, h.cell 9 _ rfl, h.cell 10 _ rfl, h.cell 11 _ rfl, h.cell 12 _ rfl, h.cell 13 _ rfl⟩
        go_wp2_with fail
        refine Calls.mono HN.out ?_
        clear HN t0 t1 t2 t3 t4 t5 t6 t7 t8 t9 t10 t11 t12 t13
        rintro e w2 hR
        obtain ⟨a2, c2x, rfl, _⟩ := hR.ex
        have HF : Hid (Below w.heap.size w w2) := HB1.out.trans (hR.bel.mono HB1.out.size)
        clear hR
        obtain ⟨m, hm⟩ : ∃ m, m = BL.length := ⟨_, rfl⟩
        rw [← hm] at HE ⊢
        clear hm
        by_cases hb : 1468 < m
        · have hb1 : (1468 : Int) < (m : Int) := by omega
          rw [if_pos hb] at HE
          have hE := HE.out
          subst hE
          clear HE
          go_wp2
          go_ret
          exact ⟨rfl, HF.out⟩
        · have hb1 : ¬ (1468 : Int) < (m : Int) := by omega
          rw [if_neg hb] at HE
          have hE := HE.out
          subst hE
          clear HE
          go_wp2
          go_ret
          exact ⟨rfl, HF.out⟩
  · have hx9 : ((k : Int) == 0) = false := by simp; omega
    clear hg hk
    go_wp2_with fail
    go_loopw [3] (fun u3 wr => ∃ i : Nat, i ≤ p2 ∧ u3 = .int .i64 (i : Nat) ∧ wr = w1 ∧ ∀ l ∈ ls.take i, l ≤ 1480) (fun u3 _ => p2 - (intOf u3).toNat)
    case atStart => exact ⟨0, by omega, rfl, (by first | rfl | trivial), fun l hl => by simp at hl⟩
    case round =>
      obtain ⟨i, hin, rfl, rfl, hall⟩ := hrel
      have HAL := (show Hid _ from hall)
      clear hall
      by_cases hlt : i < p2
      · have hlt1 : (i : Int) < (p2 : Int) := by omega
        obtain ⟨l, hli⟩ : ∃ l, ls[i]? = some l := ⟨_, List.getElem?_eq_getElem (by omega)⟩
        obtain ⟨b, off, hab, hbl, hrow⟩ : ∃ b off, p1 = some ⟨b, off, none⟩ ∧ b < w.heap.size ∧ ∀ i l, ls[i]? = some l → ∃ k va vc, w.cell? ⟨b, off + i * 2, none⟩ = some (.int .u16 (k : Nat)) ∧ w.cell? ⟨b, off + i * 2 + 1, none⟩ = some (.slice va l vc) := by
          rcases HPB.out.1.at_ with e | e
          · omega
          · exact e
        subst hab
        obtain ⟨kk, va, vc, _, c1x⟩ := hrow i l hli
        have c1y := (HB1.out.cell (p := ⟨b, off + i * 2 + 1, none⟩) hbl).trans c1x
        clear hrow c1x
        have HLI := (show Hid _ from hli)
        clear hli
        by_cases hl : 1480 < l
        · have hl1 : (1480 : Int) < (l : Int) := by omega
          have HE : Hid ((if ∃ l ∈ ls, 1480 < l then (6 : Int) else if 1468 < BL.length then 6 else 0) = 6) := if_pos ⟨l, List.mem_of_getElem? HLI.out, hl⟩
          rw [← HRR.out] at HE
          have hE := HE.out
          subst hE
          clear HE HRR
          go_wp2
          go_ret
          exact ⟨rfl, HB1.out⟩
        · have hl1 : ¬ (1480 : Int) < (l : Int) := by omega
          have HF : Hid (∀ l ∈ ls.take (i + 1), l ≤ 1480) := by
            show ∀ l ∈ _, _
            rw [List.take_add_one, HLI.out]
            intro q hq
            rcases List.mem_append.1 hq with hq | hq
            · exact HAL.out q hq
            · simp at hq; omega
          go_wp2
          go_roundw
          case rel => exact ⟨i + 1, by omega, by go_num, (by first | rfl | trivial), HF.out⟩
          case measure => simp [intOf]; omega
      · have hlt1 : ¬ (i : Int) < (p2 : Int) := by omega
        have hA := HAL.out
        rw [show ls.take i = ls from List.take_of_length_le (by omega)] at hA
        have HN := (show Hid _ from HPB.out.2 hA wr _ rfl HB1.out)
        have HE : Hid ((if ∃ l ∈ ls, 1480 < l then (6 : Int) else if 1468 < BL.length then 6 else 0) = if 1468 < BL.length then 6 else 0) := if_neg (by rintro ⟨l, hl, hl2⟩; have := hA l hl; omega)
        rw [← HRR.out] at HE
        clear hA HAL HPB HRR
        obtain ⟨t0, t1, t2, t3, t4, t5, t6, t7, t8, t9, t10, t11, t12, t13⟩ : (wr.cell? ⟨w.heap.size, 0, none⟩ = some (.int .u8 (k : Nat))) ∧ (wr.cell? ⟨w.heap.size, 1, none⟩ = some c1) ∧ (wr.cell? ⟨w.heap.size, 2, none⟩ = some c2) ∧ (wr.cell? ⟨w.heap.size, 3, none⟩ = some c3) ∧ (wr.cell? ⟨w.heap.size, 4, none⟩ = some c4) ∧ (wr.cell? ⟨w.heap.size, 5, none⟩ = some c5) ∧ (wr.cell? ⟨w.heap.size, 6, none⟩ = some c6) ∧ (wr.cell? ⟨w.heap.size, 7, none⟩ = some c7) ∧ (wr.cell? ⟨w.heap.size, 8, none⟩ = some c8) ∧ (wr.cell? ⟨w.heap.size, 9, none⟩ = some c9) ∧ (wr.cell? ⟨w.heap.size, 10, none⟩ = some (.slice b1 b2 b3)) ∧ (wr.cell? ⟨w.heap.size, 11, none⟩ = some (.slice d1 d2 d3)) ∧ (wr.cell? ⟨w.heap.size, 12, none⟩ = some (.slice p1 p2 p3)) ∧ (wr.cell? ⟨w.heap.size, 13, none⟩ = some (.slice x1 x2 x3)) := by
          have h := HS1.out
          exact ⟨h.cell 0 _ rfl, h.cell 1 _ rfl, h.cell 2 _ rfl, h.cell 3 _ rfl, h.cell 4 _ rfl, h.cell 5 _ rfl, h.cell 6 _ rfl, h.cell 7 _ rfl, h.cell 8 _ rfl, h.cell 9 _ rfl, h.cell 10 _ rfl, h.cell 11 _ rfl, h.cell 12 _ rfl, h.cell 13 _ rfl⟩
        go_wp2_with fail
        refine Calls.mono HN.out ?_
        clear HN t0 t1 t2 t3 t4 t5 t6 t7 t8 t9 t10 t11 t12 t13
        rintro e w2 hR
        obtain ⟨a2, c2x, rfl, _⟩ := hR.ex
        have HF : Hid (Below w.heap.size w w2) := HB1.out.trans (hR.bel.mono HB1.out.size)
        clear hR
        obtain ⟨m, hm⟩ : ∃ m, m = BL.length := ⟨_, rfl⟩
        rw [← hm] at HE ⊢
        clear hm
        by_cases hb : 1468 < m
        · have hb1 : (1468 : Int) < (m : Int) := by omega
          rw [if_pos hb] at HE
          have hE := HE.out
          subst hE
          clear HE
          go_wp2
          go_ret
          exact ⟨rfl, HF.out⟩
        · have hb1 : ¬ (1468 : Int) < (m : Int) := by omega
          rw [if_neg hb] at HE
          have hE := HE.out
          subst hE
          clear HE
          go_wp2
          go_ret
          exact ⟨rfl, HF.out⟩
end Go.Proofs.Ytjaheelgcjafcaa
namespace Go.Proofs.Ytjaheelgcjafcaa
open Go.RowKit
theorem rbytes_any {w : World} {x : ChQ} (h : x.Wf w) (hs : SmQ x) (v : Value) (hv : v = .agg x.vals.toArray) : Calls Try.prog 62 #[v] w (RowV w (chB x.k x.f (valB x.cd))) := by
  have hL : (valB x.cd).length ≤ 60000 := by
    have hw := h
    unfold ChQ.Wf at hw
    obtain ⟨g1, g2, g3, g4, g5, g6, g7, g8, g9, g10, g11, g12, g13, g14, _⟩ := hw
    have lx := g14.len
    have lp := g13.pmR.len
    have lb := g11.len
    have ld := SlK.len g12
    have s1 := hs.hp
    have s2 := hs.hb
    have s3 := hs.hd
    have s4 := hs.hx
    have hp := pmsV_le (x.pD.map PqD.pm) (M := 1480) hs.hps
    rw [lp] at hp
    have hp2 : (pmsV (x.pD.map PqD.pm)).length ≤ 16 * 1487 := Nat.le_trans hp (Nat.mul_le_mul_right _ s1)
    have e1 : x.cd.xs.length = x.xN := lx
    have e2 : (pmsV x.cd.ps).length ≤ 16 * 1487 := hp2
    have e3 : x.cd.bs.length = x.bN := lb
    have e4 : x.cd.ds.length = x.dN := ld
    unfold valB sackB
    repeat' split
    all_goals try simp only [List.length_append, bytesB_len, bksB_len, dusB_len, List.length_nil]
    all_goals omega
  subst hv
  have hb := h
  unfold ChQ.Wf at hb
  exact rbytes_L x.k x.f _ _ _ _ _ _ _ _ _ _ _ _ (valB x.cd) w hb.1 hb.2.1 hL (fun W v hv hW => by subst hv; exact value_any (ChQ.wf_below h hW) hs)
set_option maxRecDepth 100000 in
theorem r12check_any {w : World} {x : ChQ} (h : x.Wf w) (v : Value) (hv : v = .agg x.vals.toArray) : Calls Try.prog 48 #[v] w fun e w' => e = .returned (.int .i64 (chkOf x.ck)) ∧ Below w.heap.size w w' := by
  subst hv
  obtain ⟨m, e0, hm, hq⟩ := chk_parts h
  have hodd : ∀ W v, v = .agg x.vals.toArray → Calls Try.prog 61 #[v] W fun e w' => e = .returned (.bool (!qOf x.ck)) ∧ Below W.heap.size W w' := by
    intro W v hv
    subst hv
    rw [← odd_qOf x.ck]
    have hb := h
    unfold ChQ.Wf at hb
    exact odd_any x.k x.f x.t x.st x.ss x.pp x.tg x.rm x.os x.is x.bA x.bN x.bC x.dA x.dN x.dC x.pA x.pN x.pC x.xA x.xN x.xC W hb.1
  have hpr : Prs w x.pA x.pN x.pC ((x.pD.map PqD.pm).map fun p => p.zs.length) := by
    unfold ChQ.Wf at h
    exact h.2.2.2.2.2.2.2.2.2.2.2.2.1.pmR.prsB
  rw [e0]
  cases hQ : qOf x.ck with
  | false =>
    rw [hQ] at hodd
    exact rcheck_odd _ _ _ _ _ _ _ _ _ _ _ _ _ _ _ _ _ _ _ _ _ _ _ hodd
  | true =>
    rw [hQ] at hodd
    have hq2 := hq hQ
    by_cases hb : x.k = 0 ∧ x.xN = 0
    · rw [decide_eq_true hb]
      exact rcheck_bare _ _ _ _ _ _ _ _ _ _ _ _ _ _ _ _ _ _ _ _ _ _ _ hb.1 hb.2 hodd
    rw [decide_eq_false hb]
    have hg : x.k = 0 → ¬ x.xN = 0 := fun h1 h2 => hb ⟨h1, h2⟩
    have six : m = true ∨ 1468 < spcN x.cd → chkN true false m (spcN x.cd) = 6 := by
      intro h6
      unfold chkN
      rcases h6 with rfl | h6
      · rfl
      · rw [decide_eq_true h6]
        simp
    by_cases hp : 16 < x.pN
    · rw [six (hq2.1 (by omega))]
      exact rcheck_many_p _ _ _ _ _ _ _ _ _ _ _ _ _ _ _ _ _ _ _ _ _ _ _ hg hp hodd
    by_cases hbb : 16 < x.bN
    · rw [six (hq2.1 (by omega))]
      exact rcheck_many_b _ _ _ _ _ _ _ _ _ _ _ _ _ _ _ _ _ _ _ _ _ _ _ hg hp hbb hodd
    by_cases hdd : 16 < x.dN
    · rw [six (hq2.1 (by omega))]
      exact rcheck_many_d _ _ _ _ _ _ _ _ _ _ _ _ _ _ _ _ _ _ _ _ _ _ _ hg hp hbb hdd hodd
    by_cases hxx : 1480 < x.xN
    · rw [six (hq2.1 (by omega))]
      exact rcheck_many_x _ _ _ _ _ _ _ _ _ _ _ _ _ _ _ _ _ _ _ _ _ _ _ hg hp hbb hdd hxx hodd
    have key := rcheck_rest x.k (.int .u8 (x.f : Nat)) (.int .u32 (x.t : Nat)) (.int .u16 (x.st : Nat)) (.int .u16 (x.ss : Nat)) (.int .u32 (x.pp : Nat)) (.int .u32 (x.tg : Nat)) (.int .u32 (x.rm : Nat)) (.int .u16 (x.os : Nat)) (.int .u16 (x.is : Nat)) x.bA x.bN x.bC x.dA x.dN x.dC x.pA x.pN x.pC x.xA x.xN x.xC w hg hp hbb hdd hxx _ (chB x.k x.f (valB x.cd)) hpr hodd (fun hl W v hv hW => rbytes_any (ChQ.wf_below h hW) ⟨by omega, by omega, by omega, by omega, fun p hp => hl _ (List.mem_map.2 ⟨p, hp, rfl⟩)⟩ v hv)
    have hm0 : m = false := by
      cases m with
      | false => rfl
      | true => have := hm rfl; omega
    have eN : (if ∃ l ∈ (x.pD.map PqD.pm).map (fun p => p.zs.length), 1480 < l then (6 : Int) else if 1468 < (chB x.k x.f (valB x.cd)).length then 6 else 0) = chkN true false m (spcN x.cd) := by
      have e1 : (chB x.k x.f (valB x.cd)).length = spcN x.cd := chB_len _ _ _
      rw [e1]
      by_cases hl : ∃ l ∈ (x.pD.map PqD.pm).map (fun p => p.zs.length), 1480 < l
      · rw [if_pos hl]
        obtain ⟨l, hl1, hl2⟩ := hl
        obtain ⟨p, hp1, rfl⟩ := List.mem_map.1 hl1
        exact (six (hq2.2 ⟨p, hp1, hl2⟩)).symm
      · rw [if_neg hl, hm0]
        unfold chkN
        by_cases h8 : 1468 < spcN x.cd
        · rw [if_pos h8, decide_eq_true h8]; rfl
        · rw [if_neg h8, decide_eq_false h8]; rfl
    rw [eN] at key
    exact key
theorem smQ_of {w : World} {x : ChQ} (h : x.Wf w) (hc : chkOf x.ck = 0) : SmQ x := by
  obtain ⟨m, e0, hm, hq⟩ := chk_parts h
  rw [e0] at hc
  obtain ⟨c1, _, c3, c4⟩ := chkN_ok hc
  have hq2 := hq c1
  have n1 : ¬ (16 < x.pN ∨ 16 < x.bN ∨ 16 < x.dN ∨ 1480 < x.xN) := fun hh => by
    rcases hq2.1 hh with h1 | h1
    · rw [c3] at h1; cases h1
    · omega
  refine ⟨by omega, by omega, by omega, by omega, fun p hp => ?_⟩
  by_cases hl : 1480 < p.zs.length
  · rcases hq2.2 ⟨p, hp, hl⟩ with h1 | h1
    · rw [c3] at h1; cases h1
    · omega
  · omega
end Go.Proofs.Ytjaheelgcjafcaa
namespace Go.Proofs.Ytjaheelgcjafcaa
open Go.RowKit
theorem addr_add (g o j : Nat) : (⟨g, o, none⟩ : Addr).add j = ⟨g, o + j, none⟩ := by
  unfold Addr.add
  split
  · subst_vars; rfl
  · rfl
/-- A row of structs, flattened: where cell j stands. -/
theorem valsG_inv {α : Type} {cf : α → List Value} {k : Nat} (hk : ∀ x, (cf x).length = k) (hk0 : 0 < k) (ps : List α) {j : Nat} {u : Value} (h : (valsG cf ps)[j]? = some u) : ∃ x, ps[j / k]? = some x ∧ (cf x)[j % k]? = some u := by
  have hl := (List.getElem?_eq_some_iff.1 h).1
  rw [valsG_len hk] at hl
  have hj : j / k < ps.length := by rwa [Nat.div_lt_iff_lt_mul hk0]
  refine ⟨ps[j / k], List.getElem?_eq_getElem hj, ?_⟩
  have hm : j % k < (cf ps[j / k]).length := by rw [hk]; exact Nat.mod_lt _ hk0
  have := valsG_at hk ps (j / k) _ (List.getElem?_eq_getElem hj) (j % k) _ (List.getElem?_eq_getElem hm)
  rw [Nat.mul_comm, Nat.div_add_mod] at this
  rw [h] at this
  rw [List.getElem?_eq_getElem hm, ← this]
/-- append of a row that lies somewhere to an empty one of the call's own; its run. -/
theorem appN_run {α : Type} {S T : TypeId} {k bytes : Nat} {cf : α → List Value} (L : Lays Try.prog S T k bytes cf) {w : World} {B : Nat} {a : Option Addr} {c : Nat} (h : OwnG T k cf w B a 0 c []) (ty : TypeId) {sa : Option Addr} {m sc : Nat} {qs : List α} (hm : qs.length = m)
    (hat : (sa = none ∧ m = 0) ∨ (0 < m ∧ ∃ b off, sa = some ⟨b, off, none⟩ ∧ ∀ j x, qs[j]? = some x → ∀ i u, (cf x)[i]? = some u → w.cell? ⟨b, off + j * k + i, none⟩ = some u) ∨ (m = 0 ∧ ∃ p, sa = some p)) (hb : m * bytes ≤ 140737488355328) (h63 : m ≤ maxLen) (hB : B ≤ w.heap.size) :
    ∃ a' c' w', (Builtin.append_ #[S, S] ty #[.slice a 0 c, .slice sa m sc]).run Try.prog w = .ok (.slice a' m c') w' ∧ OwnG T k cf w' B a' m c' qs ∧ w.grownBy w' (Value.slice a 0 c).ownBlock := by
  obtain ⟨z, hinfo, hzs⟩ := L.info
  obtain ⟨i0, hi0, hz0, hz1, hz2⟩ := info_parts hinfo
  rcases hat with ⟨rfl, rfl⟩ | ⟨hm0, b, off, rfl, hc⟩ | ⟨rfl, p, rfl⟩
  · obtain rfl : qs = [] := List.eq_nil_of_length_eq_zero hm
    exact ⟨a, c, w, run_append_owned_none (P := Try.prog) (w := w) B S ty T i0 k L.under hi0 (.slice a 0 c) 0 (valsG cf []) h.own, h, World.grownBy.refl w _⟩
  · obtain ⟨g, c', w', hr, ho, hg, _⟩ := h.appN L ty qs ⟨b, off, none⟩ m sc hm (fun j u hu => by
      obtain ⟨x, hx, hu2⟩ := valsG_inv L.len L.pos qs hu
      have := hc _ x hx _ u hu2
      rw [Nat.add_assoc, Nat.mul_comm, Nat.div_add_mod] at this
      rw [addr_add]
      exact this) hm0 (by omega) (by rw [Nat.zero_add]; exact hb) hB
    rw [Nat.zero_add] at hr ho
    exact ⟨_, c', w', hr, by simpa using ho, hg⟩
  · obtain rfl : qs = [] := List.eq_nil_of_length_eq_zero hm
    obtain ⟨v', w', hr, hown, hg, _⟩ := run_append_own (P := Try.prog) w B S ty T i0 z k bytes L.under hi0 hz0 hz1 hz2 hzs L.pos (.slice a 0 c) 0 (valsG cf []) h.own p 0 sc [] (by simp) (fun j u hj => by simp at hj) (fun u hu => by simp at hu) (by unfold maxLen; omega) (by omega) hB
    have hex : ∃ a' c', v' = .slice a' 0 c' := by
      rcases hown.2 with ⟨rfl, e⟩ | ⟨g, cap, cur, rfl, _⟩
      · exact ⟨none, 0, rfl⟩
      · exact ⟨_, _, rfl⟩
    obtain ⟨a', c', rfl⟩ := hex
    exact ⟨a', c', w', hr, ⟨rfl, by simpa [valsG] using hown⟩, hg⟩
theorem app_zero (w : World) (b : Addr) (sa : Option Addr) (sc : Nat) (ty : TypeId) : (Builtin.append_ #[22, 22] ty #[.slice (some b) 0 0, .slice sa 0 sc]).run Try.prog w = .ok (.slice (some b) 0 0) w := by
  obtain ⟨z, hinfo, hzs⟩ := layCq.info
  obtain ⟨i, hi, hz0, hz1, hz2⟩ := info_parts hinfo
  cases sa <;> simp [Builtin.append_, run_underlying Try.underlying22, sizeOf, typeInfo, hi, Builtin.lenOf, Builtin.firstCells, storeCells, loadCells, loadCellsFrom]
/-- The pieces behind an empty row: their row is that one's block, or new. -/
theorem app_rowQ {w : World} {B e : Nat} (h : OwnG 47 14 ChQ.vals w B (some ⟨e, 0, none⟩) 0 0 []) (ty : TypeId) {sa : Option Addr} {n sc : Nat} {qs : List ChQ} (hm : qs.length = n) (hat : (sa = none ∧ n = 0) ∨ (0 < n ∧ ∃ b off, sa = some ⟨b, off, none⟩ ∧ ∀ j x, qs[j]? = some x → ∀ i u, x.vals[i]? = some u → w.cell? ⟨b, off + j * 14 + i, none⟩ = some u) ∨ (n = 0 ∧ ∃ p, sa = some p)) (hn : n ≤ 1000) (hB : B ≤ w.heap.size) :
    ∃ a' c' w', (Builtin.append_ #[22, 22] ty #[.slice (some ⟨e, 0, none⟩) 0 0, .slice sa n sc]).run Try.prog w = .ok (.slice a' n c') w' ∧ OwnG 47 14 ChQ.vals w' B a' n c' qs ∧ w.grownBy w' (Value.slice (some (⟨e, 0, none⟩ : Addr)) 0 0).ownBlock ∧ ∀ g, (Value.slice a' n c').ownBlock = some g → g = e ∨ w.heap.size ≤ g := by
  rcases Nat.eq_zero_or_pos n with h0 | h0
  · subst h0
    obtain rfl : qs = [] := List.eq_nil_of_length_eq_zero hm
    exact ⟨_, _, w, app_zero w _ sa sc ty, h, World.grownBy.refl w _, fun g hg => .inl (Option.some.inj hg).symm⟩
  · rcases hat with ⟨_, h1⟩ | ⟨_, b, off, rfl, hc⟩ | ⟨h1, _⟩
    · omega
    · obtain ⟨g, c', w', hr, ho, hg, hl, _⟩ := h.appN layCq ty qs ⟨b, off, none⟩ n sc hm (fun j u hu => by
        obtain ⟨x, hx, hu2⟩ := valsG_inv layCq.len layCq.pos qs hu
        have := hc _ x hx _ u hu2
        rw [Nat.add_assoc, Nat.mul_comm, Nat.div_add_mod] at this
        rw [addr_add]
        exact this) h0 (by unfold maxLen; omega) (by omega) hB
      rw [Nat.zero_add] at hr ho
      refine ⟨_, c', w', hr, by simpa using ho, hg, fun g' hg' => ?_⟩
      obtain rfl : g = g' := Option.some.inj hg'
      rcases hl with hl | hl
      · exact .inl (Option.some.inj hl).symm
      · exact .inr (by omega)
    · omega
theorem run_bslC {ρ : Operand → Value} {o : Oper} (V : World) (ho : o.op = .buildSlice 22 0 #[]) : (execOp ρ o).run Try.prog V = .ok (.value (.slice (some ⟨V.heap.size, 0, none⟩) 0 0)) (V.alloc (.cells #[] 47)) := by
  obtain ⟨dst, op, ty, pos, after, guard⟩ := o
  dsimp only at ho
  subst ho
  go_simp
theorem run_bslO {ρ : Operand → Value} {o : Oper} {s : Operand} (V : World) (x : ChQ) (ho : o.op = .buildSlice 22 1 #[(0, s)]) (hs : ρ s = .agg x.vals.toArray) : (execOp ρ o).run Try.prog V = .ok (.value (.slice (some ⟨V.heap.size, 0, none⟩) 1 1)) (V.alloc (.cells x.vals.toArray 47)) := by
  obtain ⟨dst, op, ty, pos, after, guard⟩ := o
  dsimp only at ho
  subst ho
  unfold ChQ.vals at hs ⊢
  go_simp
/-- The region: an empty row (1), the pieces behind it (6), the new one by itself (8), behind them (9), the row stored (12). -/
structure RgE (w : World) (p : Nat) (v0 v2 : Value) (n : Nat) (E : List ChQ) (x : ChQ) (θ : Nat × (Option Addr × Nat) × Nat × (Option Addr × Nat)) (l : Nat → Bool) (W : World) : Prop where
  bel : l 12 = false → Below w.heap.size w W
  a1 : l 1 = true → l 6 = false → OwnG 47 14 ChQ.vals W w.heap.size (some ⟨θ.1, 0, none⟩) 0 0 []
  a6 : l 6 = true → l 9 = false → OwnG 47 14 ChQ.vals W w.heap.size θ.2.1.1 n θ.2.1.2 E
  a8 : l 8 = true → l 9 = false → Stc W θ.2.2.1 x.vals ∧ w.heap.size ≤ θ.2.2.1
  n1 : l 1 = true → l 6 = false → l 8 = true → θ.1 ≠ θ.2.2.1
  n6 : l 6 = true → l 9 = false → l 8 = true → ∀ g, (Value.slice θ.2.1.1 n θ.2.1.2).ownBlock = some g → g ≠ θ.2.2.1
  a9 : l 9 = true → OwnG 47 14 ChQ.vals W w.heap.size θ.2.2.2.1 (n + 1) θ.2.2.2.2 (E ++ [x])
  st : l 12 = true → Stc W p [v0, .slice θ.2.2.2.1 (n + 1) θ.2.2.2.2, v2] ∧ Fr (fun g => g = p) w W
section
variable {w : World} {p : Nat} {v0 v2 : Value} {n : Nat} {E : List ChQ} {x : ChQ} {θ : Nat × (Option Addr × Nat) × Nat × (Option Addr × Nat)} {l : Nat → Bool} {W : World}
theorem RgE.start (h : Below w.heap.size w W) : RgE w p v0 v2 n E x θ (fun _ => false) W := ⟨fun _ => h, fun e => (by cases e), fun e => (by cases e), fun e => (by cases e), fun e => (by cases e), fun e => (by cases e), fun e => (by cases e), fun e => (by cases e)⟩
theorem RgE.other (h : RgE w p v0 v2 n E x θ l W) (i : Nat) (h1 : 1 ≠ i) (h6 : 6 ≠ i) (h8 : 8 ≠ i) (h9 : 9 ≠ i) (h12 : 12 ≠ i) : RgE w p v0 v2 n E x θ (updL l i) W := by
  have e1 : updL l i 1 = l 1 := updL_nD h1
  have e6 : updL l i 6 = l 6 := updL_nD h6
  have e8 : updL l i 8 = l 8 := updL_nD h8
  have e9 : updL l i 9 = l 9 := updL_nD h9
  have e12 : updL l i 12 = l 12 := updL_nD h12
  exact ⟨by rw [e12]; exact h.bel, by rw [e1, e6]; exact h.a1, by rw [e6, e9]; exact h.a6, by rw [e8, e9]; exact h.a8, by rw [e1, e6, e8]; exact h.n1, by rw [e6, e9, e8]; exact h.n6, by rw [e9]; exact h.a9, by rw [e12]; exact h.st⟩
theorem RgE.one (h : RgE w p v0 v2 n E x θ l W) (h6 : l 6 = false) (h9 : l 9 = false) (h12 : l 12 = false) : RgE w p v0 v2 n E x (W.heap.size, θ.2) (updL l 1) (W.alloc (.cells #[] 47)) := by
  have hb := h.bel h12
  have ba : Below W.heap.size W (W.alloc (.cells #[] 47)) := (Below.refl _ _).alloc (Nat.le_refl _) _
  have e1 : updL l 1 1 = true := updL_eD
  have e6 : updL l 1 6 = l 6 := updL_nD (by decide)
  have e8 : updL l 1 8 = l 8 := updL_nD (by decide)
  have e9 : updL l 1 9 = l 9 := updL_nD (by decide)
  have e12 : updL l 1 12 = l 12 := updL_nD (by decide)
  refine ⟨fun _ => hb.trans (ba.mono hb.size), fun _ _ => OwnG.base (OwnG.empty (T := 47) (k := 14) (cf := ChQ.vals) W) hb.size, by rw [e6, h6]; exact fun e => (by cases e), ?_, ?_, by rw [e6, h6]; exact fun e => (by cases e), by rw [e9, h9]; exact fun e => (by cases e), by rw [e12, h12]; exact fun e => (by cases e)⟩
  · rw [e8, e9]; exact fun a b => ⟨(h.a8 a b).1.below ba, (h.a8 a b).2⟩
  · rw [e8]; intro _ _ a e
    have := (h.a8 a h9).1.lt
    have e : W.heap.size = θ.2.2.1 := e
    omega
theorem RgE.eight (h : RgE w p v0 v2 n E x θ l W) (h9 : l 9 = false) (h12 : l 12 = false) : RgE w p v0 v2 n E x (θ.1, θ.2.1, W.heap.size, θ.2.2.2) (updL l 8) (W.alloc (.cells x.vals.toArray 47)) := by
  have hb := h.bel h12
  have ba : Below W.heap.size W (W.alloc (.cells x.vals.toArray 47)) := (Below.refl _ _).alloc (Nat.le_refl _) _
  have e1 : updL l 8 1 = l 1 := updL_nD (by decide)
  have e6 : updL l 8 6 = l 6 := updL_nD (by decide)
  have e9 : updL l 8 9 = l 9 := updL_nD (by decide)
  have e12 : updL l 8 12 = l 12 := updL_nD (by decide)
  refine ⟨fun _ => hb.trans (ba.mono hb.size), by rw [e1, e6]; exact fun a b => OwnG.below (h.a1 a b) ba, by rw [e6, e9]; exact fun a b => OwnG.below (h.a6 a b) ba, fun _ _ => ⟨Stc.new W x.vals 47 _ rfl, hb.size⟩, ?_, ?_, by rw [e9, h9]; exact fun e => (by cases e), by rw [e12, h12]; exact fun e => (by cases e)⟩
  · rw [e1, e6]; intro a b _ e
    have := ((h.a1 a b).own.lt θ.1 rfl).2
    have e : θ.1 = W.heap.size := e
    omega
  · rw [e6, e9]; intro a b _ g hg e
    have := ((h.a6 a b).own.lt g hg).2
    have e : g = W.heap.size := e
    omega
theorem RgE.six {a' : Option Addr} {c' : Nat} {W' : World} (h : RgE w p v0 v2 n E x θ l W) (h1 : l 1 = true) (h6 : l 6 = false) (h9 : l 9 = false) (h12 : l 12 = false) (ho : OwnG 47 14 ChQ.vals W' w.heap.size a' n c' E) (hg : W.grownBy W' (Value.slice (some (⟨θ.1, 0, none⟩ : Addr)) 0 0).ownBlock) (hn : ∀ g, (Value.slice a' n c').ownBlock = some g → g = θ.1 ∨ W.heap.size ≤ g) : RgE w p v0 v2 n E x (θ.1, (a', c'), θ.2.2) (updL l 6) W' := by
  have hb := h.bel h12
  have hf : Fr (fun g => g = θ.1) W W' := Fr.grown hg (fun k hk => (Option.some.inj hk).symm)
  have hw1 := ((h.a1 h1 h6).own.lt θ.1 rfl).1
  have e1 : updL l 6 1 = l 1 := updL_nD (by decide)
  have e6 : updL l 6 6 = true := updL_eD
  have e8 : updL l 6 8 = l 8 := updL_nD (by decide)
  have e9 : updL l 6 9 = l 9 := updL_nD (by decide)
  have e12 : updL l 6 12 = l 12 := updL_nD (by decide)
  refine ⟨fun _ => hb.trans (hf.below _ hb.size (fun k hk => by omega)), by rw [e6]; exact fun _ e => (by cases e), fun _ _ => ho, ?_, by rw [e6]; exact fun _ e => (by cases e), ?_, by rw [e9, h9]; exact fun e => (by cases e), by rw [e12, h12]; exact fun e => (by cases e)⟩
  · rw [e8, e9]; exact fun a b => ⟨(h.a8 a b).1.fr hf (fun e => h.n1 h1 h6 a e.symm), (h.a8 a b).2⟩
  · rw [e8]; intro _ _ a g hgo e
    rcases hn g hgo with h2 | h2
    · exact h.n1 h1 h6 a (by rw [← h2]; exact e)
    · have := (h.a8 a h9).1.lt
      have e : g = θ.2.2.1 := e
      omega
theorem RgE.nine {g9 c9 : Nat} {W' : World} (h : RgE w p v0 v2 n E x θ l W) (h6 : l 6 = true) (h9 : l 9 = false) (h12 : l 12 = false) (ho : OwnG 47 14 ChQ.vals W' w.heap.size (some ⟨g9, 0, none⟩) (n + 1) c9 (E ++ [x])) (hg : W.grownBy W' (Value.slice θ.2.1.1 n θ.2.1.2).ownBlock) : RgE w p v0 v2 n E x (θ.1, θ.2.1, θ.2.2.1, (some ⟨g9, 0, none⟩, c9)) (updL l 9) W' := by
  have hb := h.bel h12
  have hf : Fr (fun g => (Value.slice θ.2.1.1 n θ.2.1.2).ownBlock = some g) W W' := Fr.grown hg (fun k hk => hk)
  have e9 : updL l 9 9 = true := updL_eD
  have e1 : updL l 9 1 = l 1 := updL_nD (by decide)
  have e6 : updL l 9 6 = l 6 := updL_nD (by decide)
  have e12 : updL l 9 12 = l 12 := updL_nD (by decide)
  refine ⟨fun _ => hb.trans (hf.below _ hb.size (fun k hk => ((h.a6 h6 h9).own.lt k hk).1)), by rw [e6, h6]; exact fun _ e => (by cases e), by rw [e9]; exact fun _ e => (by cases e), by rw [e9]; exact fun _ e => (by cases e), by rw [e6, h6]; exact fun _ e => (by cases e), by rw [e9]; exact fun _ e => (by cases e), fun _ => ho, by rw [e12, h12]; exact fun e => (by cases e)⟩
theorem RgE.store {vA : Value} (h : RgE w p v0 v2 n E x θ l W) (h6 : l 6 = true) (h9 : l 9 = true) (h12 : l 12 = false) (hp : Stc w p [v0, vA, v2]) : RgE w p v0 v2 n E x θ (updL l 12) (W.setCell ⟨p, 1, none⟩ (.slice θ.2.2.2.1 (n + 1) θ.2.2.2.2)) := by
  have hb := h.bel h12
  have hf : Fr (fun g => g = p) W (W.setCell ⟨p, 1, none⟩ (.slice θ.2.2.2.1 (n + 1) θ.2.2.2.2)) := Fr.setCell _ _ _ _ rfl
  have hpl := hp.lt
  have e9 : updL l 12 9 = l 9 := updL_nD (by decide)
  have e1 : updL l 12 1 = l 1 := updL_nD (by decide)
  have e6 : updL l 12 6 = l 6 := updL_nD (by decide)
  have e12 : updL l 12 12 = true := updL_eD
  refine ⟨by rw [e12]; exact fun e => (by cases e), by rw [e6, h6]; exact fun _ e => (by cases e), by rw [e9, h9]; exact fun _ e => (by cases e), by rw [e9, h9]; exact fun _ e => (by cases e), by rw [e6, h6]; exact fun _ e => (by cases e), by rw [e9, h9]; exact fun _ e => (by cases e), fun _ => OwnG.fr (h.a9 h9) hf (fun g hg e => by have := ((h.a9 h9).own.lt g hg).1; omega), fun _ => ⟨(hp.below hb).set 1 _, (Fr.of_below hb).trans hf⟩⟩
end
theorem rtell_any {W0 w : World} {p : Nat} {r : Rw} {nx : List Nat} {E : List ChQ} {V : List RyD} {Z : Nat → Prop} {B : Nat} {la : Option Addr} {L lc : Nat} {xs : List ChQ} (h : TeC W0 w p r nx E V Z B la L lc xs) :
    Calls Try.prog 51 #[.pointer (some ⟨p, 0, none⟩), .slice la L lc] w (TelR W0 w p nx E V Z L xs) :=
  telA.2 (telB.2 (telC.2 tel_4)) W0 w p r nx E V Z B la L lc xs _ h (fun _ _ h => h)
end Go.Proofs.Ytjaheelgcjafcaa
