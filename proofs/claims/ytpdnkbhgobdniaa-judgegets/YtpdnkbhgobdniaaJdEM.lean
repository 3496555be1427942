/- judge: the books behind each mark of a trace that may be; a side that ended, or shuts down, stays so. -/
import Derived.Test.YtpdnkbhgobdniaaJdOf
namespace Go.Proofs.Ytpdnkbhgobdniaa
open Go.RowKit Go.MapKept Go.Maps
/-- The books behind j marks. -/
def cpAt (dd : List Mk) (j : Nat) : Cp := (dd.take j).foldl (fun c x => (takeJ c x).1) (fun _ => Bp.empty)
theorem cpAt_zero (dd : List Mk) : cpAt dd 0 = fun _ => Bp.empty := rfl
theorem cpAt_succ (dd : List Mk) (j : Nat) (x : Mk) (h : dd[j]? = some x) : cpAt dd (j + 1) = (takeJ (cpAt dd j) x).1 := by
  unfold cpAt
  have hj := (List.getElem?_eq_some_iff.1 h).1
  rw [List.take_succ_eq_append_getElem hj, (List.getElem?_eq_some_iff.1 h).2, List.foldl_append]
  rfl
theorem hear_ok (dd : List Mk) : ∀ (cp : Cp), (hearJ cp dd).2.1 = 0 → ∀ j x, dd[j]? = some x → (takeJ ((dd.take j).foldl (fun c x => (takeJ c x).1) cp) x).2 = 0 := by
  induction dd with
  | nil => intro cp _ j x h; simp at h
  | cons y dd ih =>
    intro cp h j x hx
    rw [hearJ] at h
    by_cases h0 : (takeJ cp y).2 = 0
    · rw [if_pos h0] at h
      cases j with
      | zero => simp at hx; subst hx; exact h0
      | succ j => exact ih (takeJ cp y).1 h j x (by simpa using hx)
    · rw [if_neg h0] at h
      exact absurd h h0
theorem jdg_ok {dd : List Mk} (h : (jdg dd).2.1 = 0) (j : Nat) (x : Mk) (hx : dd[j]? = some x) : (takeJ (cpAt dd j) x).2 = 0 := hear_ok dd _ h j x hx
/-- No mark takes back that a side ended or shuts down. -/
theorem take_keeps (cp : Cp) (x : Mk) (q : Sd) : ((cp q).shuts = true → ((takeJ cp x).1 q).shuts = true) ∧ ((cp q).ended = true → ((takeJ cp x).1 q).ended = true) := by
  have key : ∀ (p : Bp) (q1 : Sd), ((cp q1).shuts = true → p.shuts = true) → ((cp q1).ended = true → p.ended = true) → ∀ c : Cp, (∀ q, ((cp q).shuts = true → (c q).shuts = true) ∧ ((cp q).ended = true → (c q).ended = true)) → ((cp q).shuts = true → (c.set q1 p q).shuts = true) ∧ ((cp q).ended = true → (c.set q1 p q).ended = true) := by
    intro p q1 h1 h2 c hc
    unfold Cp.set
    by_cases e : q = q1
    · subst e
      rw [if_pos rfl]
      exact ⟨h1, h2⟩
    · rw [if_neg e]
      exact hc q
  have id : ∀ q, ((cp q).shuts = true → (cp q).shuts = true) ∧ ((cp q).ended = true → (cp q).ended = true) := fun _ => ⟨fun h => h, fun h => h⟩
  unfold takeJ
  split
  · exact id q
  · split
    · unfold sentJ
      split
      · exact id q
      · refine key _ _ ?_ ?_ cp id <;> (unfold Bp.push; split <;> exact fun h => h)
    · split
      · split
        · unfold gotFreeJ
          split
          · exact id q
          · (refine key _ _ ?_ ?_ cp id <;> exact fun h => h)
        · unfold gotNextJ
          split
          · exact id q
          · split
            · unfold Cp.set
              dsimp only
              by_cases e1 : q = oth x.sd
              · subst e1
                rw [if_pos rfl]
                exact ⟨fun h => h, fun h => h⟩
              · rw [if_neg e1]
                by_cases e2 : q = x.sd
                · subst e2
                  rw [if_pos rfl]
                  exact ⟨fun h => h, fun h => h⟩
                · rw [if_neg e2]
                  exact id q
            · exact id q
      · split
        · unfold noticeJ
          split
          · exact id q
          · split
            · exact id q
            · split
              · exact id q
              · split
                · (refine key _ _ ?_ ?_ cp id <;> exact fun h => h)
                · (refine key _ _ ?_ ?_ cp id; exact fun h => h; exact fun _ => rfl)
        · split
          · unfold shutJ
            split
            · exact id q
            · split
              · exact id q
              · (refine key _ _ ?_ ?_ cp id; exact fun _ => rfl; exact fun h => h)
          · exact id q
/-- Whether a mark is the last word of a side. -/
def overJ (x : Mk) : Bool := decide (x.is = 4 ∨ (x.is = 3 ∧ ¬ x.note = 1))
theorem over_sets {cp : Cp} {x : Mk} (h : (takeJ cp x).2 = 0) : (x.is = 4 → ((takeJ cp x).1 x.sd).shuts = true) ∧ (x.is = 3 → ¬ x.note = 1 → ((takeJ cp x).1 x.sd).ended = true) := by
  unfold takeJ at h ⊢
  by_cases h1 : x.host ≠ 0 ∧ x.host ≠ 1
  · rw [if_pos h1] at h; exact absurd h (by simp)
  · rw [if_neg h1] at h ⊢
    refine ⟨fun h4 => ?_, fun h3 hn => ?_⟩
    · rw [if_neg (by omega), if_neg (by omega), if_neg (by omega), if_pos h4] at h ⊢
      unfold shutJ at h ⊢
      split at h
      · exact absurd h (by simp)
      · rename_i hs
        rw [if_neg hs]
        split at h
        · exact absurd h (by simp)
        · rename_i he
          rw [if_neg he]
          simp [Cp.set]
    · rw [if_neg (by omega), if_neg (by omega), if_pos h3] at h ⊢
      unfold noticeJ at h ⊢
      split at h
      · exact absurd h (by simp)
      · rename_i a1
        rw [if_neg a1]
        split at h
        · exact absurd h (by simp)
        · rename_i a2
          rw [if_neg a2]
          split at h
          · exact absurd h (by simp)
          · rename_i a3
            rw [if_neg a3, if_neg hn]
            simp [Cp.set]
theorem over_bars {cp : Cp} {x : Mk} (h : (takeJ cp x).2 = 0) : ((cp x.sd).shuts = true ∨ (cp x.sd).ended = true → ¬ x.is = 1 ∧ ¬ x.is = 4) ∧ ((cp x.sd).ended = true → ¬ x.is = 3) := by
  unfold takeJ at h
  by_cases h1 : x.host ≠ 0 ∧ x.host ≠ 1
  · rw [if_pos h1] at h; exact absurd h (by simp)
  · rw [if_neg h1] at h
    refine ⟨fun hs => ⟨fun e => ?_, fun e => ?_⟩, fun hs e => ?_⟩
    · rw [if_pos e] at h
      unfold sentJ at h
      rw [if_pos hs] at h
      exact absurd h (by simp)
    · rw [if_neg (by omega), if_neg (by omega), if_neg (by omega), if_pos e] at h
      unfold shutJ at h
      split at h
      · exact absurd h (by simp)
      · rename_i a1
        rw [if_pos (by rcases hs with hs | hs; exact absurd hs a1; exact hs)] at h
        exact absurd h (by simp)
    · rw [if_neg (by omega), if_neg (by omega), if_pos e] at h
      unfold noticeJ at h
      split at h
      · exact absurd h (by simp)
      · rw [if_pos (.inl hs)] at h
        exact absurd h (by simp)
theorem at_keeps (dd : List Mk) (q : Sd) (i : Nat) : ∀ j, i ≤ j → j ≤ dd.length → (((cpAt dd i) q).shuts = true → ((cpAt dd j) q).shuts = true) ∧ (((cpAt dd i) q).ended = true → ((cpAt dd j) q).ended = true) := by
  intro j
  induction j with
  | zero =>
    intro h _
    have e : i = 0 := by omega
    subst e
    exact ⟨fun h => h, fun h => h⟩
  | succ j ih =>
    intro h hl
    by_cases e : i = j + 1
    · subst e; exact ⟨fun h => h, fun h => h⟩
    · obtain ⟨x, hx⟩ : ∃ x, dd[j]? = some x := ⟨_, List.getElem?_eq_getElem (by omega)⟩
      have hh := ih (by omega) (by omega)
      have hk := take_keeps (cpAt dd j) x q
      rw [cpAt_succ dd j x hx]
      exact ⟨fun h => hk.1 (hh.1 h), fun h => hk.2 (hh.2 h)⟩
/-- Behind its last word a side sends nothing, and does not shut down; nor is it told another end. -/
theorem ends_math {dd : List Mk} (h : (jdg dd).2.1 = 0) {i k : Nat} {x y : Mk} (hx : dd[i]? = some x) (hy : dd[k]? = some y) (hik : i < k) (ho : overJ x = true) (hs : ofJ y x.sd = true) : ¬ y.is = 1 ∧ ¬ y.is = 4 ∧ (x.is = 3 → ¬ y.is = 3) := by
  have hs : y.sd = x.sd := by simpa [ofJ] using hs
  have ho : x.is = 4 ∨ (x.is = 3 ∧ ¬ x.note = 1) := by simpa [overJ] using ho
  have h1 := over_sets (jdg_ok h i x hx)
  have h2 := over_bars (jdg_ok h k y hy)
  have h3 := at_keeps dd x.sd (i + 1) k (by omega) (Nat.le_of_lt (List.getElem?_eq_some_iff.1 hy).1)
  rw [cpAt_succ dd i x hx] at h3
  rw [hs] at h2
  rcases ho with ho | ⟨ho, hn⟩
  · have := h2.1 (.inl (h3.1 (h1.1 ho)))
    exact ⟨this.1, this.2, fun e => by omega⟩
  · have he := h3.2 (h1.2 ho hn)
    have := h2.1 (.inr he)
    exact ⟨this.1, this.2, fun _ => h2.2 he⟩
end Go.Proofs.Ytpdnkbhgobdniaa
