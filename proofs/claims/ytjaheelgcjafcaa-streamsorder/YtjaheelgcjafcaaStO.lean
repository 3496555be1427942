/- streams: the number n steps on, and which SSN is less. -/
import Derived.Test.YtjaheelgcjafcaaSerL
import Derived.Test.YtjaheelgcjafcaaStP
namespace Go.Proofs.Ytjaheelgcjafcaa
open Go.RowKit
theorem chk32 (a : Nat) (h : a < 4294967296) : chkE 32 [a] = 0 := by
  unfold chkE rnd
  simp [h]
theorem chk16 (a b : Nat) (h : a < 65536) (h2 : b < 65536) : chkE 16 [a, b] = 0 := by
  unfold chkE rnd
  simp [h, h2]
set_option linter.unusedVariables false in
set_option maxRecDepth 100000 in
theorem onward_any (a : Nat) (n : Int) (w : World) (ha : a < 4294967296) (v u : Value) (hv : v = .int .u32 (a : Nat)) (hu : u = .int .i64 n) :
    Calls Try.prog 41 #[v, u] w fun e w' => e = .returned (.int .u32 (addV 4294967296 a n : Nat)) ∧ Below w.heap.size w w' := by
  subst hv hu
  have HR : Hid (addR 32 a n = addV 4294967296 a n) := by
    show _ = _
    unfold addR
    rw [if_pos (chk32 a ha)]
    rfl
  have hadd := fun W => add_any 32 a n ha W
  generalize addR 32 a n = r at *
  generalize chkE 32 [a] = q at *
  go_enter Try.func41, Try.ntmps41
  go_wp2_with fail
  refine (hadd _).mono ?_
  rintro e w1 ⟨rfl, hb⟩
  have HB := (show Hid _ from hb)
  clear hb hadd
  go_wp2
  go_ret
  exact ⟨by rw [HR.out]; rfl, by first | exact HB.out | exact HB.out.drew⟩
set_option linter.unusedVariables false in
set_option maxRecDepth 100000 in
theorem isLess_any (a b : Nat) (w : World) (ha : a < 65536) (hb : b < 65536) (v u : Value) (hv : v = .int .u16 (a : Nat)) (hu : u = .int .u16 (b : Nat)) :
    Calls Try.prog 45 #[v, u] w fun e w' => e = .returned (.bool (decide (0 < aheadV 65536 a b))) ∧ Below w.heap.size w w' := by
  subst hv hu
  have HR : Hid (lessR 16 a b = decide (0 < aheadV 65536 a b)) := by
    show _ = _
    unfold lessR aheadR
    rw [if_pos (chk16 a b ha hb)]
    rfl
  have hless := fun W => less_any 16 a b (by omega) (by omega) W
  generalize lessR 16 a b = r at *
  generalize chkE 16 [a, b] = q at *
  go_enter Try.func45, Try.ntmps45
  go_wp2_with fail
  refine (hless _).mono ?_
  rintro e w1 ⟨rfl, hb⟩
  have HB := (show Hid _ from hb)
  clear hb hless
  go_wp2
  go_ret
  exact ⟨by rw [HR.out]; rfl, by first | exact HB.out | exact HB.out.drew⟩
end Go.Proofs.Ytjaheelgcjafcaa
