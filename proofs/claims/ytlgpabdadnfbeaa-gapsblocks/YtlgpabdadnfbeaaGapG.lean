/- Plain mathematics of blocks: what was taken behind a gap. Nothing of the program. -/
import Derived.Test.YtlgpabdadnfbeaaGapR
namespace Go.Proofs.Ytlgpabdadnfbeaa
def GoodL (S : Nat → Bool) : Nat → List (Nat × Nat) → Prop
  | _, [] => True
  | a, p :: t => a + 2 ≤ p.1 ∧ p.1 ≤ p.2 ∧ p.2 ≤ 256 ∧ (∀ k, a < k → k < p.1 → S k = false) ∧ (∀ k, p.1 ≤ k → k ≤ p.2 → S k = true) ∧ GoodL S p.2 t
def endOf : Nat → List (Nat × Nat) → Nat
  | a, [] => a
  | _, p :: t => endOf p.2 t
theorem good_app (S : Nat → Bool) (Q : List (Nat × Nat)) : ∀ (P : List (Nat × Nat)) (a : Nat), GoodL S a (P ++ Q) ↔ (GoodL S a P ∧ GoodL S (endOf a P) Q) := by
  intro P
  induction P with
  | nil => intro a; simp [GoodL, endOf]
  | cons p t ih => intro a; simp only [List.cons_append, GoodL, endOf, ih, and_assoc]
theorem endOf_app (Q : List (Nat × Nat)) : ∀ (P : List (Nat × Nat)) (a : Nat), endOf a (P ++ Q) = endOf (endOf a P) Q := by
  intro P
  induction P with
  | nil => intro a; rfl
  | cons p t ih => intro a; exact ih p.2
theorem blk_good (S : Nat → Bool) (h1 : S 1 = false) : ∀ k, k ≤ 256 → GoodL S 0 (blkP (farTo S k)) ∧ endOf 0 (blkP (farTo S k)) = lastS (farTo S k) ∧ lastS (farTo S k) ≤ k ∧ ∀ j, lastS (farTo S k) < j → j ≤ k → S j = false := by
  intro k
  induction k with
  | zero => intro _; exact ⟨trivial, rfl, Nat.le_refl _, fun j h2 h3 => by omega⟩
  | succ k ih =>
    intro hk
    obtain ⟨hg, he, hle, hno⟩ := ih (by omega)
    cases hS : S (k + 1) with
    | false =>
      rw [farTo_off S k hS]
      refine ⟨hg, he, by omega, fun j h2 h3 => ?_⟩
      by_cases e : j = k + 1
      · rw [e]; exact hS
      · exact hno j h2 (by omega)
    | true =>
      rw [farTo_on S k hk hS, blkP_snoc, lastS_snoc]
      have hk0 : k ≠ 0 := fun e => by subst e; rw [h1] at hS; cases hS
      generalize blkP (farTo S k) = P at *
      generalize lastS (farTo S k) = la at *
      refine ⟨?_, ?_, by simp, fun j h2 h3 => by simp at h2; omega⟩
      · unfold blkStep
        split
        · rename_i hb
          rw [good_app]
          refine ⟨hg, ?_⟩
          rw [he]
          refine ⟨?_, Nat.le_refl _, hk, fun j h2 h3 => hno j h2 (by simp at h3; omega), fun j h2 h3 => ?_, trivial⟩
          · show la + 2 ≤ k + 1
            rcases hb with hb | hb
            · rw [List.length_eq_zero_iff] at hb
              subst hb
              have : la = 0 := he.symm
              omega
            · have hb' : k + 1 ≠ la + 1 := hb
              omega
          · have : j = k + 1 := by simp at h2 h3; omega
            rw [this]; exact hS
        · rename_i hb
          have hne : P ≠ [] := fun e => hb (.inl (by rw [e]; rfl))
          have hk1 : k + 1 = la + 1 := by
            by_cases e : k + 1 = la + 1
            · exact e
            · exact absurd (.inr e) hb
          obtain ⟨Q, p, rfl⟩ : ∃ Q p, P = Q ++ [p] := ⟨P.dropLast, P.getLast hne, (List.dropLast_concat_getLast hne).symm⟩
          obtain ⟨x, y⟩ := p
          rw [setLast_snoc, good_app]
          rw [good_app] at hg
          rw [endOf_app] at he
          have hy : y = la := he
          obtain ⟨hq, g1, g2, g3, g4, g5, _⟩ := hg
          refine ⟨hq, g1, ?_, hk, g4, fun j h2 h3 => ?_, trivial⟩
          · show x ≤ k + 1
            have g2' : x ≤ y := g2
            omega
          · by_cases e : j = k + 1
            · rw [e]; exact hS
            · exact g5 j h2 (by show j ≤ y; simp at h3; omega)
      · unfold blkStep
        split
        · rw [endOf_app]; rfl
        · rename_i hb
          have hne : P ≠ [] := fun e => hb (.inl (by rw [e]; rfl))
          obtain ⟨Q, p, rfl⟩ : ∃ Q p, P = Q ++ [p] := ⟨P.dropLast, P.getLast hne, (List.dropLast_concat_getLast hne).symm⟩
          obtain ⟨x, y⟩ := p
          rw [setLast_snoc, endOf_app]; rfl
theorem good_take (S : Nat → Bool) (a : Nat) (P : List (Nat × Nat)) (m : Nat) (h : GoodL S a P) : GoodL S a (P.take m) := by
  rw [← List.take_append_drop m P, good_app] at h
  exact h.1
/-- One block on. -/
theorem good_at (S : Nat → Bool) (R : List (Nat × Nat)) (h : GoodL S 0 R) (i : Nat) (hi : i < R.length) :
    endOf 0 (R.take i) + 2 ≤ (R.getD i (0, 0)).1 ∧ (R.getD i (0, 0)).1 ≤ (R.getD i (0, 0)).2 ∧ (R.getD i (0, 0)).2 ≤ 256 ∧ (∀ k, endOf 0 (R.take i) < k → k < (R.getD i (0, 0)).1 → S k = false) ∧ (∀ k, (R.getD i (0, 0)).1 ≤ k → k ≤ (R.getD i (0, 0)).2 → S k = true) ∧ endOf 0 (R.take (i + 1)) = (R.getD i (0, 0)).2 := by
  have hd : R.drop i = R.getD i (0, 0) :: R.drop (i + 1) := by
    rw [List.drop_eq_getElem_cons hi]
    simp [List.getD_eq_getElem?_getD, hi]
  have h2 := h
  rw [← List.take_append_drop i R, good_app, hd] at h2
  obtain ⟨_, g1, g2, g3, g4, g5, _⟩ := h2
  refine ⟨g1, g2, g3, g4, g5, ?_⟩
  have ht : R.take (i + 1) = R.take i ++ [R.getD i (0, 0)] := by
    rw [List.take_add_one, List.getElem?_eq_getElem hi]
    simp [List.getD_eq_getElem?_getD, hi]
  rw [ht, endOf_app]
  rfl
theorem hasV_near (cum : Nat) (S : Nat → Bool) (hc : cum < 4294967296) (k : Nat) (h1 : 1 ≤ k) (h2 : k ≤ 256) : hasV cum S ((cum + k) % 4294967296) = S k := by
  unfold hasV
  rw [ahead_of cum k hc (by omega), decide_eq_false (by omega), decide_eq_true (by omega)]
  simp
end Go.Proofs.Ytlgpabdadnfbeaa
