/- outq: flyers (the call), Flight. -/
import Derived.Test.YtconfmjgoipejaaOqL
namespace Go.Proofs.Ytconfmjgoipejaa
open Go.RowKit Go.Shelf
attribute [local go_sem] Oper.semAt_some
def sumG (f : PcA → Nat) (L : List PcA) (k : Nat) : Nat := ((L.take k).map f).sum
theorem sumG_succ {f : PcA → Nat} {L : List PcA} {k : Nat} {x : PcA} (h : L[k]? = some x) : sumG f L (k + 1) = sumG f L k + f x := by
  unfold sumG
  rw [List.take_add_one, h]
  simp
theorem sumG_all (f : PcA → Nat) (L : List PcA) : sumG f L L.length = (L.map f).sum := by
  unfold sumG
  rw [List.take_length]
theorem sumG_up (f : PcA → Nat) (L : List PcA) (k : Nat) : sumG f L k ≤ sumG f L L.length := by
  rw [sumG_all]
  unfold sumG
  have h : L.map f = (L.take k).map f ++ (L.drop k).map f := by rw [← List.map_append, List.take_append_drop]
  rw [h, List.sum_append]
  omega
theorem sumG_le {f g : PcA → Nat} (h : ∀ x, f x ≤ g x) (L : List PcA) (k : Nat) : sumG f L k ≤ sumG g L k := by
  unfold sumG
  induction L.take k with
  | nil => simp
  | cons x l ih => simp only [List.map_cons, List.sum_cons]; have := h x; omega
def lenP (x : PcA) : Nat := x.1.zs.length
def flyP (wy : Int) (x : PcA) : Nat := if x.1.is = 1 ∧ (x.1.wy : Int) = wy then x.1.zs.length else 0
theorem flyP_le (wy : Int) (x : PcA) : flyP wy x ≤ lenP x := by
  unfold flyP lenP
  split
  · exact Nat.le_refl _
  · exact Nat.zero_le _
theorem sumL_G (L : List PcA) (k : Nat) : sumL L k = sumG lenP L k := rfl
theorem flyers_call (p : Option Addr) (wy : Int) (w : World) : Calls Try.prog 31 #[.pointer p, .int .i64 wy] w fun e w' => e = .returned (.func (.func 45) #[] #[.pointer (some ⟨w.heap.size, 0, none⟩), .pointer (some ⟨w.heap.size + 1, 0, none⟩)]) ∧ w' = (w.alloc (.cells #[.pointer p] 23)).alloc (.cells #[.int .i64 wy] 3) := by
  go_enter Try.func31, Try.ntmps31
  go_wp2
  go_ret
  exact ⟨rfl, rfl⟩
end Go.Proofs.Ytconfmjgoipejaa
