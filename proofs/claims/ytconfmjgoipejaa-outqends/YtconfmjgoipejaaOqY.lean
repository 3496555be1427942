/- outq: onward, ahead, Cum, New, due (the call). -/
import Derived.Test.YtconfmjgoipejaaOqT
import Derived.Test.YtconfmjgoipejaaSer1
namespace Go.Proofs.Ytconfmjgoipejaa
open Go.RowKit Go.Shelf
set_option linter.unusedVariables false in
set_option maxRecDepth 100000 in
theorem onward_any (a : Nat) (n : Int) (w : World) (ha : a < 4294967296) (v u : Value) (hv : v = .int .u32 (a : Nat)) (hu : u = .int .i64 n) :
    Calls Try.prog 20 #[v, u] w fun e w' => e = .returned (.int .u32 (addV 4294967296 a n : Nat)) ∧ Below w.heap.size w w' := by
  subst hv hu
  have HR : Hid (addR 32 a n = addV 4294967296 a n) := add_32 a n ha
  have hadd := fun W => add_any 32 a n ha W
  generalize addR 32 a n = r at *
  generalize chkE 32 [a] = q at *
  go_enter Try.func20, Try.ntmps20
  go_wp2_with fail
  refine (hadd _).mono ?_
  rintro e w1 ⟨rfl, hb⟩
  have HB := (show Hid _ from hb)
  clear hb hadd
  go_wp2
  go_ret
  exact ⟨by rw [HR.out]; rfl, by first | exact HB.out | exact HB.out.drew⟩
section
variable {w : World} {q nb : Nat} {pa : Option Addr} {cap : Nat} {L : List PcA} {cum size : Nat} {nx : List Nat}
set_option linter.unusedVariables false in
theorem qahead_any (h : QuW w q nb pa cap L cum size nx) (hc : cum < 4294967296) (t : Nat) (ht : t < 4294967296) :
    Calls Try.prog 46 #[.pointer (some ⟨q, 0, none⟩), .int .u32 (t : Nat)] w fun e w' => e = .returned (.int .i64 (aheadV 4294967296 cum t)) ∧ Below w.heap.size w w' := by
  have HR : Hid (aheadR 32 cum t = aheadV 4294967296 cum t) := ahead_32 cum t hc ht
  have hah := fun W => ahead_any 32 cum t hc ht W
  have c0 := h.c0
  generalize aheadR 32 cum t = r at *
  generalize chkE 32 [cum, t] = z at *
  go_enter Try.func46, Try.ntmps46
  go_wp2_with fail
  refine (hah _).mono ?_
  rintro e w1 ⟨rfl, hb⟩
  have HB := (show Hid _ from hb)
  clear hb hah
  go_wp2
  go_ret
  exact ⟨by rw [HR.out]; rfl, by first | exact HB.out | exact HB.out.drew⟩
theorem qcum_any (h : QuW w q nb pa cap L cum size nx) :
    Calls Try.prog 11 #[.pointer (some ⟨q, 0, none⟩)] w fun e w' => e = .returned (.int .u32 (cum : Nat)) ∧ Below w.heap.size w w' := by
  have c0 := h.c0
  go_enter Try.func11, Try.ntmps11
  go_wp2
  go_ret
  exact ⟨rfl, Below.refl _ _⟩
end
theorem due_call (p : Option Addr) (w : World) : Calls Try.prog 27 #[.pointer p] w fun e w' => e = .returned (.func (.func 40) #[] #[.pointer (some ⟨w.heap.size, 0, none⟩)]) ∧ w' = w.alloc (.cells #[.pointer p] 23) := by
  go_enter Try.func27, Try.ntmps27
  go_wp2
  go_ret
  exact ⟨rfl, rfl⟩
end Go.Proofs.Ytconfmjgoipejaa
