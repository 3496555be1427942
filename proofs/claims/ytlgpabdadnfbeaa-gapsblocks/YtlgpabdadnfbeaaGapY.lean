/- Two trackers that take the same numbers in two orders: the mathematics, and the frame of two trackers. -/
import Derived.Test.YtlgpabdadnfbeaaGapLiv4
import Derived.Test.YtlgpabdadnfbeaaGapX
namespace Go.Proofs.Ytlgpabdadnfbeaa
open Go.RowKit
def setL (l : List Nat) : Nat → Bool := fun b => decide (b ∈ l)
theorem setL_snoc (l : List Nat) (z : Nat) : addA (setL l) z = setL (l ++ [z]) := by
  funext b
  unfold addA setL
  by_cases h1 : b ∈ l <;> by_cases h2 : b = z <;> simp [h1, h2]
theorem setL_nil : setL [] = fun _ => false := by funext b; simp [setL]
/-- The order in which the second one takes them. -/
def backL (zs : List Nat) (N turn : Nat) (i : Nat) : List Nat := (List.range i).map fun t => zs.getD ((N - 1 - t + turn) % N) 0
theorem backL_succ (zs : List Nat) (N turn i : Nat) : backL zs N turn (i + 1) = backL zs N turn i ++ [zs.getD ((N - 1 - i + turn) % N) 0] := by
  unfold backL; rw [List.range_succ, List.map_append]; rfl
theorem back_all (zs : List Nat) (N turn : Nat) (hN : 0 < N) (hl : N ≤ zs.length) : setL (zs.take N) = setL (backL zs N turn N) := by
  funext b
  unfold setL
  rw [decide_eq_decide]
  constructor
  · intro h
    obtain ⟨j, hj, rfl⟩ := List.getElem_of_mem h
    have hjN : j < N := by simp at hj; omega
    unfold backL
    rw [List.mem_map]
    have hlt : (N - 1 + turn + (N - j)) % N < N := Nat.mod_lt _ hN
    refine ⟨(N - 1 + turn + (N - j)) % N, List.mem_range.2 hlt, ?_⟩
    have e : (N - 1 - (N - 1 + turn + (N - j)) % N + turn) % N = j := by
      have h1 := Nat.div_add_mod (N - 1 + turn + (N - j)) N
      generalize (N - 1 + turn + (N - j)) % N = r at *
      generalize (N - 1 + turn + (N - j)) / N = q at *
      have h2 : N - 1 - r + turn + N = j + N * q := by
        have : N * q + r = N - 1 + turn + (N - j) := h1
        omega
      have h3 : (N - 1 - r + turn + N) % N = (N - 1 - r + turn) % N := Nat.add_mod_right _ _
      rw [← h3, h2, Nat.add_mul_mod_self_left, Nat.mod_eq_of_lt hjN]
    rw [e]
    simp [List.getD_eq_getElem?_getD, show j < zs.length from by omega]
  · intro h
    unfold backL at h
    rw [List.mem_map] at h
    obtain ⟨t, _, rfl⟩ := h
    have hlt : (N - 1 - t + turn) % N < N := Nat.mod_lt _ hN
    rw [List.getD_eq_getElem?_getD, List.getElem?_eq_getElem (by omega)]
    rw [List.mem_take_iff_getElem]
    exact ⟨_, by omega, rfl⟩
theorem Trk.rebase {w : World} {B B' p : Nat} {db : Option Nat} {cum : Nat} {S : Nat → Bool} {ds : List Nat} (h : Trk w B p db cum S ds) (hB : B' ≤ B) : Trk w B' p db cum S ds := by
  obtain ⟨a, n, c, h5, ho, hd, hn⟩ := h.dup
  exact ⟨Nat.le_trans hB h.base, h.lt, h.cumlt, h.c0, h.win, h.out, ⟨a, n, c, h5, ho.base hB, hd, hn⟩, h.apart⟩
/-- Two trackers lie apart. -/
def Two (p : Nat) (db : Option Nat) (p2 : Nat) (db2 : Option Nat) : Prop := ∀ k, ownT p db k → ¬ ownT p2 db2 k
theorem Two.symm {p : Nat} {db : Option Nat} {p2 : Nat} {db2 : Option Nat} (h : Two p db p2 db2) : Two p2 db2 p db := fun k h1 h2 => h k h2 h1
theorem Two.next {w : World} {p : Nat} {db db' : Option Nat} {p2 : Nat} {db2 : Option Nat} {B cum : Nat} {S : Nat → Bool} {ds : List Nat} (h : Two p db p2 db2) (h2 : Trk w B p2 db2 cum S ds) (hf : Fresh w db db') : Two p db' p2 db2 := by
  rintro k (rfl | hk) h3
  · exact h k (.inl rfl) h3
  · rcases hf k hk with h4 | h4
    · exact h k (.inr h4) h3
    · rcases h3 with rfl | h3
      · have := h2.lt; omega
      · have := (h2.dlt k h3).2; omega
end Go.Proofs.Ytlgpabdadnfbeaa
