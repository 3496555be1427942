/- A slice of int cut at its beginning: what 's[x:]' is, as an equation that a walk takes by itself. -/
import Derived.Test.YtlgpabdadnfbeaaOwnI
import Derived.Test.YtlgpabdadnfbeaaSlcU
import Derived.Test.YtlgpabdadnfbeaaSer1
namespace Go.Proofs.Ytlgpabdadnfbeaa
open Go.RowKit
theorem elI : Try.prog.elem 70 = 3 := by simp [Program.elem, Try.underlying70]
theorem cellsI : Try.prog.cellsOf 3 = 1 := by kernel_rfl
theorem undI : Try.prog.underlying 70 = some (.slice (Try.prog.elem 70)) := by rw [elI]; exact Try.underlying70
theorem sizeI (w : World) : (sizeOf (Try.prog.elem 70)).run Try.prog w = .ok 1 w := by
  obtain ⟨i, hi, hz0, hz1, hz2⟩ := info_parts own_infoI
  rw [elI, run_sizeOf w hi, cellsI]
theorem slice_dropI (a : Option Addr) (n c : Nat) (x : Nat) (h : x ≤ n) (hc : n ≤ c) (hnz : a = none → c = 0) : ∃ a', (∀ w, (Instr.slice 70 (.slice a n c) (some (.int .i64 (x : Int))) none none).run Try.prog w = .ok (.slice a' (n - x) (c - x)) w) ∧ ∀ W zs, SlI W a n c zs → SlI W a' (n - x) (c - x) (zs.drop x) := by
  cases a with
  | none =>
    obtain rfl := hnz rfl
    obtain rfl : n = 0 := by omega
    obtain rfl : x = 0 := by omega
    refine ⟨none, fun w => ?_, fun W zs hs => by simpa using hs⟩
    rw [run_slice_l w 70 _ 0 0 undI .i64 ((0 : Nat) : Int) (by omega) (by omega), sizeI]
    simp [Result.andThen, sliced]
  | some p =>
    refine ⟨some (if c = x then p else p.add x), fun w => ?_, fun W zs hs => ?_⟩
    · rw [run_slice_l w 70 _ n c undI .i64 x (by omega) (by omega), sizeI]
      simp only [Result.andThen, sliced, Int.toNat_natCast]
      split <;> simp
    · by_cases hxn : x < n
      · rcases hs.at_ with h0 | ⟨b, off, e, _, _⟩
        · omega
        · injection e with e
          subst e
          exact hs.drop x h _ (fun _ => by rw [if_neg (by omega)]; simp [Addr.add])
      · obtain rfl : x = n := by omega
        have hl := hs.len
        exact ⟨by simp; omega, by omega, Nat.le_trans (Nat.sub_le _ _) hs.room, by omega, fun e => (by cases e), fun i => by rw [List.drop_eq_nil_of_le (by omega)]; simp, .inl (by omega)⟩
theorem i64_oneB (w : World) (t : TypeId) (a : Nat) (ha : a < 9223372036854775808) (B : Nat) (hB : w.heap.size = B) : SlI (w.alloc (.cells #[.int .i64 a] t)) (some ⟨B, 0, none⟩) 1 1 [a] := by
  subst hB; exact slk_new .i64 9223372036854775808 w t [a] (fun i => by cases i <;> simp [ha]) (by simp)
theorem OwnI.block {w : World} {B : Nat} {a : Option Addr} {n c : Nat} {zs : List Nat} (h : OwnI w B a n c zs) : ∀ k, a.map (·.block) = some k → B ≤ k ∧ k < w.heap.size := by
  intro k hk
  rcases h.own.2 with ⟨hv, _⟩ | ⟨g, cap, cur, hv, hb, hh, _⟩
  · injection hv with e1
    subst e1
    cases hk
  · injection hv with e1
    subst e1
    simp at hk
    subst hk
    exact h.own.lt g rfl
theorem OwnU.block {w : World} {B : Nat} {a : Option Addr} {n c : Nat} {zs : List Nat} (h : OwnU w B a n c zs) : ∀ k, a.map (·.block) = some k → B ≤ k ∧ k < w.heap.size := by
  intro k hk
  rcases h.own.2 with ⟨hv, _⟩ | ⟨g, cap, cur, hv, hb, hh, _⟩
  · injection hv with e1
    subst e1
    cases hk
  · injection hv with e1
    subst e1
    simp at hk
    subst hk
    exact h.own.lt g rfl
end Go.Proofs.Ytlgpabdadnfbeaa
