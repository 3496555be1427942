/- Rows of keys and data, sorted by their keys: look-up, put, delete; sums. -/
import Derived.Test.YtfjpckaphfdfnaaGreatDoorBase
namespace Go.Proofs.YtfjpckaphfdfnaaGreatDoor
open Go.RowKit
section
variable {α : Type}
def lookD : List (Nat × α) → Nat → Option α
  | [], _ => none
  | p :: D, q => if p.1 = q then some p.2 else lookD D q
def putD : List (Nat × α) → Nat → α → List (Nat × α)
  | [], q, x => [(q, x)]
  | p :: D, q, x => if p.1 = q then (q, x) :: D else if q < p.1 then (q, x) :: p :: D else p :: putD D q x
def delD : List (Nat × α) → Nat → List (Nat × α)
  | [], _ => []
  | p :: D, q => if p.1 = q then D else p :: delD D q
def Srt (D : List (Nat × α)) : Prop := D.Pairwise fun x y => x.1 < y.1
theorem lookD_mem {D : List (Nat × α)} {q : Nat} {x : α} (h : lookD D q = some x) : (q, x) ∈ D := by
  induction D with
  | nil => cases h
  | cons p D ih =>
    unfold lookD at h
    split at h
    · rename_i e
      cases h
      subst e
      exact List.mem_cons_self
    · exact List.mem_cons_of_mem _ (ih h)
theorem lookD_none {D : List (Nat × α)} {q : Nat} (h : ∀ p ∈ D, p.1 ≠ q) : lookD D q = none := by
  induction D with
  | nil => rfl
  | cons p D ih =>
    unfold lookD
    rw [if_neg (h p List.mem_cons_self)]
    exact ih (fun p hp => h p (List.mem_cons_of_mem _ hp))
theorem Srt.look {D : List (Nat × α)} (h : Srt D) {q : Nat} {x : α} (hm : (q, x) ∈ D) : lookD D q = some x := by
  induction D with
  | nil => cases hm
  | cons p D ih =>
    obtain ⟨h1, h2⟩ := List.pairwise_cons.1 h
    unfold lookD
    rcases List.mem_cons.1 hm with e | hm
    · subst e
      rw [if_pos rfl]
    · have := h1 _ hm
      rw [if_neg (by simp at this; omega)]
      exact ih h2 hm
theorem lookD_some_iff {D : List (Nat × α)} {q : Nat} : (lookD D q).isSome = true ↔ q ∈ D.map (·.1) := by
  induction D with
  | nil => simp [lookD]
  | cons p D ih =>
    unfold lookD
    by_cases e : p.1 = q
    · rw [if_pos e]; simp [e]
    · rw [if_neg e, ih]; simp; omega
theorem putD_mem {D : List (Nat × α)} {q : Nat} {x : α} {y : Nat × α} (h : y ∈ putD D q x) : y = (q, x) ∨ y ∈ D := by
  induction D with
  | nil => simp [putD] at h; exact .inl h
  | cons p D ih =>
    unfold putD at h
    split at h
    · rcases List.mem_cons.1 h with h | h
      · exact .inl h
      · exact .inr (List.mem_cons_of_mem _ h)
    · split at h
      · rcases List.mem_cons.1 h with h | h
        · exact .inl h
        · exact .inr h
      · rcases List.mem_cons.1 h with h | h
        · exact .inr (by rw [h]; exact List.mem_cons_self)
        · rcases ih h with h | h
          · exact .inl h
          · exact .inr (List.mem_cons_of_mem _ h)
theorem Srt.put {D : List (Nat × α)} (h : Srt D) (q : Nat) (x : α) : Srt (putD D q x) := by
  induction D with
  | nil => simp [putD, Srt]
  | cons p D ih =>
    obtain ⟨h1, h2⟩ := List.pairwise_cons.1 h
    unfold putD
    split
    · rename_i e
      exact List.pairwise_cons.2 ⟨fun y hy => by have := h1 y hy; dsimp only; omega, h2⟩
    · split
      · rename_i e1 e2
        refine List.pairwise_cons.2 ⟨fun y hy => ?_, h⟩
        rcases List.mem_cons.1 hy with hy | hy
        · subst hy; exact e2
        · have := h1 y hy; dsimp only; omega
      · rename_i e1 e2
        refine List.pairwise_cons.2 ⟨fun y hy => ?_, ih h2⟩
        rcases putD_mem hy with hy | hy
        · subst hy; dsimp only; omega
        · exact h1 y hy
theorem look_put (D : List (Nat × α)) (q : Nat) (x : α) (q' : Nat) (h : Srt D) : lookD (putD D q x) q' = if q' = q then some x else lookD D q' := by
  induction D with
  | nil => simp only [putD, lookD]; by_cases e : q = q' <;> simp [e, eq_comm]
  | cons p D ih =>
    obtain ⟨h1, h2⟩ := List.pairwise_cons.1 h
    unfold putD
    split
    · rename_i e
      simp only [lookD]
      by_cases e2 : q = q'
      · rw [if_pos e2, if_pos e2.symm]
      · rw [if_neg e2, if_neg (fun e => e2 e.symm), if_neg (by omega)]
    · split
      · rename_i e1 e2
        simp only [lookD]
        by_cases e3 : q = q'
        · rw [if_pos e3, if_pos e3.symm]
        · have e4 : ¬ q' = q := fun e => e3 e.symm
          simp only [if_neg e3, if_neg e4]
      · rename_i e1 e2
        simp only [lookD]
        by_cases e3 : p.1 = q'
        · rw [if_pos e3, if_neg (by omega), if_pos e3]
        · rw [if_neg e3, ih h2, if_neg e3]
theorem delD_mem {D : List (Nat × α)} {q : Nat} {y : Nat × α} (h : y ∈ delD D q) : y ∈ D := by
  induction D with
  | nil => cases h
  | cons p D ih =>
    unfold delD at h
    split at h
    · exact List.mem_cons_of_mem _ h
    · rcases List.mem_cons.1 h with h | h
      · rw [h]; exact List.mem_cons_self
      · exact List.mem_cons_of_mem _ (ih h)
theorem Srt.del {D : List (Nat × α)} (h : Srt D) (q : Nat) : Srt (delD D q) := by
  induction D with
  | nil => exact h
  | cons p D ih =>
    obtain ⟨h1, h2⟩ := List.pairwise_cons.1 h
    unfold delD
    split
    · exact h2
    · exact List.pairwise_cons.2 ⟨fun y hy => h1 y (delD_mem hy), ih h2⟩
theorem look_del (D : List (Nat × α)) (q q' : Nat) (h : Srt D) : lookD (delD D q) q' = if q' = q then none else lookD D q' := by
  induction D with
  | nil => simp [delD, lookD]
  | cons p D ih =>
    obtain ⟨h1, h2⟩ := List.pairwise_cons.1 h
    unfold delD
    split
    · rename_i e
      by_cases e2 : q' = q
      · rw [if_pos e2]
        exact lookD_none (fun y hy => by have := h1 y hy; omega)
      · rw [if_neg e2]
        simp only [lookD]
        rw [if_neg (by omega)]
    · rename_i e
      simp only [lookD]
      by_cases e2 : p.1 = q'
      · rw [if_pos e2, if_pos e2, if_neg (by omega)]
      · rw [if_neg e2, if_neg e2, ih h2]
def sumD (f : α → Nat) : List (Nat × α) → Nat
  | [] => 0
  | p :: D => f p.2 + sumD f D
theorem sum_put (f : α → Nat) (D : List (Nat × α)) (q : Nat) (x : α) (h : Srt D) : sumD f (putD D q x) + ((lookD D q).map f).getD 0 = sumD f D + f x := by
  induction D with
  | nil => simp [putD, sumD, lookD]
  | cons p D ih =>
    obtain ⟨h1, h2⟩ := List.pairwise_cons.1 h
    unfold putD
    split
    · rename_i e
      simp only [lookD, if_pos e, sumD, Option.map_some, Option.getD_some]
      omega
    · split
      · rename_i e1 e2
        rw [lookD_none (D := p :: D) (fun y hy => by
          rcases List.mem_cons.1 hy with hy | hy
          · subst hy; exact e1
          · have := h1 y hy; omega)]
        simp only [sumD, Option.map_none, Option.getD_none]
        omega
      · rename_i e1 e2
        have := ih h2
        simp only [lookD, if_neg e1, sumD]
        omega
theorem sum_del (f : α → Nat) (D : List (Nat × α)) (q : Nat) : sumD f (delD D q) + ((lookD D q).map f).getD 0 = sumD f D := by
  induction D with
  | nil => simp [delD, sumD, lookD]
  | cons p D ih =>
    unfold delD
    split
    · rename_i e
      simp only [lookD, if_pos e, sumD, Option.map_some, Option.getD_some]
      omega
    · rename_i e
      simp only [lookD, if_neg e, sumD]
      omega
theorem sum_one (D : List (Nat × α)) : sumD (fun _ => 1) D = D.length := by
  induction D with
  | nil => rfl
  | cons p D ih => simp only [sumD, ih, List.length_cons]; omega
theorem len_put (D : List (Nat × α)) (q : Nat) (x : α) (h : Srt D) : (putD D q x).length = D.length + (if (lookD D q).isSome then 0 else 1) := by
  have := sum_put (fun _ : α => 1) D q x h
  rw [sum_one, sum_one] at this
  cases hl : lookD D q with
  | none => rw [hl] at this; simp at this ⊢; omega
  | some y => rw [hl] at this; simp at this ⊢; omega
theorem len_del (D : List (Nat × α)) (q : Nat) : (delD D q).length + (if (lookD D q).isSome then 1 else 0) = D.length := by
  have := sum_del (fun _ : α => 1) D q
  rw [sum_one, sum_one] at this
  cases hl : lookD D q with
  | none => rw [hl] at this; simp at this ⊢; omega
  | some y => rw [hl] at this; simp at this ⊢; omega
/-- Two rising rows with the same members are one. -/
theorem rise_eq : ∀ (L M : List Nat), L.Pairwise (· < ·) → M.Pairwise (· < ·) → (∀ q, q ∈ L ↔ q ∈ M) → L = M := by
  intro L
  induction L with
  | nil =>
    intro M _ _ h
    cases M with
    | nil => rfl
    | cons y M => exact absurd ((h y).2 List.mem_cons_self) (by simp)
  | cons x L ih =>
    intro M h1 h2 h
    cases M with
    | nil => exact absurd ((h x).1 List.mem_cons_self) (by simp)
    | cons y M =>
      obtain ⟨a1, a2⟩ := List.pairwise_cons.1 h1
      obtain ⟨b1, b2⟩ := List.pairwise_cons.1 h2
      have e : x = y := by
        rcases List.mem_cons.1 ((h x).1 List.mem_cons_self) with e | hx
        · exact e
        · rcases List.mem_cons.1 ((h y).2 List.mem_cons_self) with e | hy
          · exact e.symm
          · have := a1 y hy; have := b1 x hx; omega
      subst e
      congr 1
      refine ih M a2 b2 (fun q => ⟨fun hq => ?_, fun hq => ?_⟩)
      · rcases List.mem_cons.1 ((h q).1 (List.mem_cons_of_mem _ hq)) with e | hq'
        · have := a1 q hq; omega
        · exact hq'
      · rcases List.mem_cons.1 ((h q).2 (List.mem_cons_of_mem _ hq)) with e | hq'
        · have := b1 q hq; omega
        · exact hq'
theorem Srt.rise {D : List (Nat × α)} (h : Srt D) : (D.map (·.1)).Pairwise (· < ·) := List.pairwise_map.2 h
end
end Go.Proofs.YtfjpckaphfdfnaaGreatDoor
