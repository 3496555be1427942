/- Plain mathematics of runs. Nothing of the program. -/
import Derived.Test.YtlgpabdadnfbeaaSerM
namespace Go.Proofs.Ytlgpabdadnfbeaa
def setLast (ps : List (Nat × Nat)) (y : Nat) : List (Nat × Nat) := ps.set (ps.length - 1) ((ps.getD (ps.length - 1) (0, 0)).1, y)
theorem setLast_snoc (ps : List (Nat × Nat)) (x z y : Nat) : setLast (ps ++ [(x, z)]) y = ps ++ [(x, y)] := by
  unfold setLast
  simp [List.getD_eq_getElem?_getD]
theorem setLast_len (ps : List (Nat × Nat)) (y : Nat) : (setLast ps y).length = ps.length := by simp [setLast]
/-- The runs of the first k numbers. -/
def spanTo (M : Nat) (zs : List Nat) : Nat → List (Nat × Nat)
  | 0 => []
  | k + 1 => if 0 < k ∧ upV M (zs.getD (k - 1) 0) (zs.getD k 0) = 1 then setLast (spanTo M zs k) (zs.getD k 0) else spanTo M zs k ++ [(zs.getD k 0, zs.getD k 0)]
theorem spanTo_on (M : Nat) (zs : List Nat) (k : Nat) (h : 0 < k ∧ upV M (zs.getD (k - 1) 0) (zs.getD k 0) = 1) : spanTo M zs (k + 1) = setLast (spanTo M zs k) (zs.getD k 0) := by
  show (if _ then _ else _) = _; rw [if_pos h]
theorem spanTo_new (M : Nat) (zs : List Nat) (k : Nat) (h : ¬ (0 < k ∧ upV M (zs.getD (k - 1) 0) (zs.getD k 0) = 1)) : spanTo M zs (k + 1) = spanTo M zs k ++ [(zs.getD k 0, zs.getD k 0)] := by
  show (if _ then _ else _) = _; rw [if_neg h]
theorem spanTo_len (M : Nat) (zs : List Nat) : ∀ k, (spanTo M zs k).length ≤ k ∧ (0 < k → 0 < (spanTo M zs k).length) := by
  intro k
  induction k with
  | zero => simp [spanTo]
  | succ k ih =>
    by_cases h : 0 < k ∧ upV M (zs.getD (k - 1) 0) (zs.getD k 0) = 1
    · rw [spanTo_on M zs k h, setLast_len]
      exact ⟨by omega, fun _ => ih.2 h.1⟩
    · rw [spanTo_new M zs k h]
      simp
      omega
theorem spanTo_run (M : Nat) (zs : List Nat) (i : Nat) (hi : ¬ (0 < i ∧ upV M (zs.getD (i - 1) 0) (zs.getD i 0) = 1)) : ∀ k, (∀ t, i ≤ t → t < i + k → upV M (zs.getD t 0) (zs.getD (t + 1) 0) = 1) →
    spanTo M zs (i + k + 1) = spanTo M zs i ++ [(zs.getD i 0, zs.getD (i + k) 0)] := by
  intro k
  induction k with
  | zero => intro _; exact spanTo_new M zs i hi
  | succ k ih =>
    intro h
    have e := ih (fun t h1 h2 => h t h1 (by omega))
    have hn := h (i + k) (by omega) (by omega)
    rw [show i + (k + 1) + 1 = (i + k + 1) + 1 from by omega, spanTo_on M zs (i + k + 1) ⟨by omega, by rw [Nat.add_sub_cancel]; exact hn⟩, e, setLast_snoc]
    rfl
/-- Runs that lie one behind the other, from i to n. -/
def Cut (M : Nat) (zs : List Nat) : Nat → List (Nat × Nat) → Nat → Prop
  | i, [], n => i = n
  | i, p :: R, n => ∃ j, i < j ∧ j ≤ n ∧ p.1 = zs.getD i 0 ∧ p.2 = zs.getD (j - 1) 0 ∧ (∀ t, i ≤ t → t + 1 < j → upV M (zs.getD t 0) (zs.getD (t + 1) 0) = 1) ∧ Cut M zs j R n
theorem Cut_le (M : Nat) (zs : List Nat) : ∀ (R : List (Nat × Nat)) (i n : Nat), Cut M zs i R n → i ≤ n := by
  intro R
  induction R with
  | nil => intro i n h; simp [Cut] at h; omega
  | cons p R ih => intro i n h; obtain ⟨j, h1, h2, _⟩ := h; omega
theorem Cut_snoc (M : Nat) (zs : List Nat) : ∀ (R : List (Nat × Nat)) (i n : Nat), Cut M zs i R n → Cut M zs i (R ++ [(zs.getD n 0, zs.getD n 0)]) (n + 1) := by
  intro R
  induction R with
  | nil =>
    intro i n h
    simp [Cut] at h
    subst h
    exact ⟨i + 1, by omega, by omega, rfl, by simp, fun t h1 h2 => by omega, rfl⟩
  | cons p R ih =>
    intro i n h
    obtain ⟨j, h1, h2, h3, h4, h5, h6⟩ := h
    exact ⟨j, h1, by omega, h3, h4, h5, ih j n h6⟩
theorem Cut_last (M : Nat) (zs : List Nat) (x y : Nat) : ∀ (S : List (Nat × Nat)) (i n : Nat), Cut M zs i (S ++ [(x, y)]) n → upV M (zs.getD (n - 1) 0) (zs.getD n 0) = 1 → Cut M zs i (S ++ [(x, zs.getD n 0)]) (n + 1) := by
  intro S
  induction S with
  | nil =>
    intro i n h hu
    obtain ⟨j, h1, h2, h3, h4, h5, h6⟩ := h
    simp [Cut] at h6
    subst h6
    refine ⟨j + 1, by omega, by omega, h3, by simp, fun t g1 g2 => ?_, rfl⟩
    by_cases ht : t + 1 = j
    · have : t = j - 1 := by omega
      subst this
      rw [show j - 1 + 1 = j from by omega]
      exact hu
    · exact h5 t g1 (by omega)
  | cons p R ih =>
    intro i n h hu
    obtain ⟨j, h1, h2, h3, h4, h5, h6⟩ := h
    exact ⟨j, h1, by omega, h3, h4, h5, ih j n h6 hu⟩
theorem span_cut (M : Nat) (zs : List Nat) : ∀ k, Cut M zs 0 (spanTo M zs k) k := by
  intro k
  induction k with
  | zero => rfl
  | succ k ih =>
    by_cases h : 0 < k ∧ upV M (zs.getD (k - 1) 0) (zs.getD k 0) = 1
    · rw [spanTo_on M zs k h]
      have hl := (spanTo_len M zs k).2 h.1
      obtain ⟨S, p, hS⟩ : ∃ S p, spanTo M zs k = S ++ [p] := ⟨(spanTo M zs k).dropLast, (spanTo M zs k).getLast (by intro e; rw [e] at hl; simp at hl), (List.dropLast_concat_getLast _).symm⟩
      obtain ⟨x, y⟩ := p
      rw [hS] at ih ⊢
      rw [setLast_snoc]
      exact Cut_last M zs x y S 0 k ih h.2
    · rw [spanTo_new M zs k h]
      exact Cut_snoc M zs _ 0 k ih
theorem up_one (M a b : Nat) (ha : a < M) (hb : b < M) (h : upV M a b = 1) : b = (a + 1) % M := by
  unfold upV at h
  by_cases h1 : a ≤ b
  · rw [show b + (M - a) = (b - a) + M from by omega, Nat.add_mod_right, Nat.mod_eq_of_lt (by omega)] at h
    rw [Nat.mod_eq_of_lt (by omega)]; omega
  · rw [Nat.mod_eq_of_lt (by omega)] at h
    have : a + 1 = M := by omega
    rw [this, Nat.mod_self]; omega
theorem one_up (M a b : Nat) (ha : a < M) (hM : 1 < M) (h : b = (a + 1) % M) : upV M a b = 1 := by
  unfold upV
  by_cases h1 : a + 1 = M
  · rw [h1, Nat.mod_self] at h
    subst h
    rw [show 0 + (M - a) = 1 from by omega, Nat.mod_eq_of_lt hM]
  · rw [Nat.mod_eq_of_lt (by omega)] at h
    subst h
    rw [show a + 1 + (M - a) = 1 + M from by omega, Nat.add_mod_right, Nat.mod_eq_of_lt hM]
theorem chain (M : Nat) (zs : List Nat) (hb : ∀ t, zs.getD t 0 < M) (i : Nat) : ∀ k, (∀ t, i ≤ t → t < i + k → upV M (zs.getD t 0) (zs.getD (t + 1) 0) = 1) → zs.getD (i + k) 0 = (zs.getD i 0 + k) % M := by
  intro k
  induction k with
  | zero => intro _; rw [Nat.add_zero, Nat.add_zero, Nat.mod_eq_of_lt (hb i)]
  | succ k ih =>
    intro h
    have e := ih (fun t h1 h2 => h t h1 (by omega))
    have e2 := up_one M _ _ (hb (i + k)) (hb (i + k + 1)) (h (i + k) (by omega) (by omega))
    rw [← Nat.add_assoc, e2, e, Nat.mod_add_mod]
    rfl
end Go.Proofs.Ytlgpabdadnfbeaa
