/- Who owns which: the mathematics of RingWhole. -/
import Derived.Test.YtmmbnikjlklflaaRgP
namespace Go.Proofs.Ytmmbnikjlklflaa
open Go.RowKit
theorem mod_once (N x : Nat) (h : x < 2 * N) : x % N = if x < N then x else x - N := by
  split
  · exact Nat.mod_eq_of_lt (by assumption)
  · rw [Nat.mod_eq_sub_mod (by omega), Nat.mod_eq_of_lt (by omega)]
def bhV (N gv i : Nat) : Nat := if gv ≤ i then i - gv else i + N - gv
theorem ownV_eq (N gv tk f i : Nat) (hg : gv < N) (hi : i < N) : ownV N gv tk f i = if bhV N gv i < tk then 2 else if bhV N gv i < tk + f then 1 else 0 := by
  have e : (i + N - gv) % N = bhV N gv i := by
    rw [mod_once N _ (by omega)]
    unfold bhV
    split <;> split <;> omega
  unfold ownV
  rw [e]
def cntV (N gv i t : Nat) : Nat := min (min i gv) (t + gv - N) + (min i (gv + t) - gv)
theorem cnt_step (N gv i t : Nat) (hg : gv < N) (hi : i < N) (ht : t ≤ N) : cntV N gv (i + 1) t = cntV N gv i t + if bhV N gv i < t then 1 else 0 := by
  unfold cntV bhV
  split <;> split <;> omega
theorem cnt_zero (N gv t : Nat) : cntV N gv 0 t = 0 := by unfold cntV; omega
theorem cnt_all (N gv t : Nat) (hg : gv < N) (ht : t ≤ N) : cntV N gv N t = t := by unfold cntV; omega
theorem own_le (N gv tk f i : Nat) : ownV N gv tk f i ≤ 2 := by unfold ownV; split <;> (try split) <;> omega
def prevI (N i : Nat) : Nat := if i = 0 then N - 1 else i - 1
def marks (N gv tk f i : Nat) : Nat := (if gv < i then 1 else 0) + (if (gv + tk) % N < i then 1 else 0) + (if (gv + (tk + f)) % N < i then 1 else 0)
theorem own_turn (N gv tk f i : Nat) (hg : gv < N) (hi : i < N) (hs : tk + f ≤ N) (hne : ownV N gv tk f i ≠ ownV N gv tk f (prevI N i)) :
    marks N gv tk f i + 1 ≤ marks N gv tk f (i + 1) ∧ ¬ (ownV N gv tk f i = 2 ∧ ownV N gv tk f (prevI N i) = 1 ∧ 0 < N - tk - f) ∧ ¬ (ownV N gv tk f i = 1 ∧ ownV N gv tk f (prevI N i) = 0 ∧ 0 < tk) ∧ ¬ (ownV N gv tk f i = 0 ∧ ownV N gv tk f (prevI N i) = 2 ∧ 0 < f) := by
  have hp : prevI N i < N := by unfold prevI; split <;> omega
  rw [ownV_eq N gv tk f i hg hi, ownV_eq N gv tk f _ hg hp] at hne ⊢
  have hb : bhV N gv i < N := by unfold bhV; split <;> omega
  have hbp : bhV N gv (prevI N i) = if bhV N gv i = 0 then N - 1 else bhV N gv i - 1 := by
    unfold bhV prevI
    repeat' split
    all_goals omega
  have h3 : bhV N gv i = 0 ∨ bhV N gv i = tk ∨ bhV N gv i = tk + f := by
    rw [hbp] at hne
    by_cases z : bhV N gv i = 0
    · exact .inl z
    · rw [if_neg z] at hne
      by_cases a1 : bhV N gv i < tk
      · rw [if_pos a1, if_pos (by omega)] at hne; omega
      · rw [if_neg a1] at hne
        by_cases a2 : bhV N gv i - 1 < tk
        · omega
        · rw [if_neg a2] at hne
          by_cases a3 : bhV N gv i < tk + f
          · rw [if_pos a3, if_pos (by omega)] at hne; omega
          · rw [if_neg a3] at hne
            by_cases a4 : bhV N gv i - 1 < tk + f
            · omega
            · rw [if_neg a4] at hne; omega
  have hi3 : i = gv ∨ i = (gv + tk) % N ∨ i = (gv + (tk + f)) % N := by
    rcases h3 with h | h | h
    · left; unfold bhV at h; split at h <;> omega
    · right; left
      rw [mod_once N _ (by omega)]
      unfold bhV at h; split at h <;> split <;> omega
    · right; right
      rw [mod_once N _ (by omega)]
      unfold bhV at h; split at h <;> split <;> omega
  refine ⟨?_, ?_, ?_, ?_⟩
  · unfold marks
    have m1 : (if gv < i then 1 else 0) ≤ (if gv < i + 1 then 1 else 0) := by split <;> split <;> omega
    have m2 : (if (gv + tk) % N < i then 1 else 0) ≤ (if (gv + tk) % N < i + 1 then 1 else 0) := by split <;> split <;> omega
    have m3 : (if (gv + (tk + f)) % N < i then 1 else 0) ≤ (if (gv + (tk + f)) % N < i + 1 then 1 else 0) := by split <;> split <;> omega
    rcases hi3 with h | h | h
    · have : (if gv < i then 1 else 0) + 1 = (if gv < i + 1 then 1 else 0) := by rw [if_neg (by omega), if_pos (by omega)]
      omega
    · have : (if (gv + tk) % N < i then 1 else 0) + 1 = (if (gv + tk) % N < i + 1 then 1 else 0) := by rw [if_neg (by omega), if_pos (by omega)]
      omega
    · have : (if (gv + (tk + f)) % N < i then 1 else 0) + 1 = (if (gv + (tk + f)) % N < i + 1 then 1 else 0) := by rw [if_neg (by omega), if_pos (by omega)]
      omega
  all_goals
    rw [hbp]
    generalize bhV N gv i = x at *
    clear hne hi3 hbp
    rintro ⟨q1, q2, q3⟩
    repeat' (split at q2)
    all_goals (repeat' (split at q1))
    all_goals omega
theorem own_same (N gv tk f i : Nat) : marks N gv tk f i ≤ marks N gv tk f (i + 1) := by
  unfold marks
  have m1 : (if gv < i then 1 else 0) ≤ (if gv < i + 1 then 1 else 0) := by split <;> split <;> omega
  have m2 : (if (gv + tk) % N < i then 1 else 0) ≤ (if (gv + tk) % N < i + 1 then 1 else 0) := by split <;> split <;> omega
  have m3 : (if (gv + (tk + f)) % N < i then 1 else 0) ≤ (if (gv + (tk + f)) % N < i + 1 then 1 else 0) := by split <;> split <;> omega
  omega
theorem marks_le (N gv tk f i : Nat) : marks N gv tk f i ≤ 3 := by unfold marks; split <;> split <;> split <;> omega
end Go.Proofs.Ytmmbnikjlklflaa
