/- Digits as bytes: octet.Unhex's answer over bytes, and over letters. -/
import Derived.Test.YtaakkibohkckaaaDoorLets
import Derived.Test.YtaakkibohkckaaaDoorDigit
namespace Go.Proofs.YtaakkibohkckaaaDoor
open Go.RowKit
theorem hexv_big (r : Nat) (h : 128 ≤ r) : hexv r = none := by
  unfold hexv
  rw [if_neg (by omega), if_neg (by omega), if_neg (by omega)]
def bu : List Nat → Nat → Nat → List Nat → List Nat × Nat × Nat
  | [], place, _, out => if place % 2 = 0 then (out, 0, 0) else ([], place, 3)
  | b :: t, place, high, out => match hexv b with
    | none => ([], place, 4)
    | some v => if place % 2 = 0 then bu t (place + 1) v out else bu t (place + 1) high (out ++ [high * 16 + v])
theorem uhRun_bu (s : ByteArray) : ∀ f pos place high out, s.size < pos + f → pos ≤ s.size → uhRun s f pos place high out = bu ((natsOf s).drop pos) place high out := by
  intro f
  induction f with
  | zero => intro pos place high out h1 h2; omega
  | succ f ih =>
    intro pos place high out h1 h2
    by_cases hp : pos < s.size
    · rw [natsOf_drop s pos hp]
      by_cases ha : (s[pos]'hp).toNat < 128
      · rw [uhRun, if_pos hp, decode_ascii s pos hp ha, bu]
        cases hexv (s[pos]'hp).toNat with
        | none => rfl
        | some v =>
          simp only
          rw [ih (pos + 1) (place + 1) v out (by omega) (by omega), ih (pos + 1) (place + 1) high (out ++ [high * 16 + v]) (by omega) (by omega)]
      · have hd := decode_high s pos hp (by omega)
        rw [uhRun, if_pos hp, bu, hexv_big _ hd.1, hexv_big _ (by omega)]
    · have hz : (natsOf s).drop pos = [] := List.drop_of_length_le (by simp only [natsOf, List.length_map, Array.length_toList]; show s.size ≤ pos; omega)
      rw [hz, uhRun, if_neg hp, bu]
def ou : List (Option Nat) → Nat → Nat → List Nat → List Nat × Nat × Nat
  | [], place, _, out => if place % 2 = 0 then (out, 0, 0) else ([], place, 3)
  | none :: _, place, _, _ => ([], place, 4)
  | some v :: t, place, high, out => if place % 2 = 0 then ou t (place + 1) v out else ou t (place + 1) high (out ++ [high * 16 + v])
theorem digS_one (b : Nat) (hb : b < 256) : digS (one b) = hexv b := by
  unfold digS
  rw [one_nats b hb]
  rfl
theorem digS_bad (x : ByteArray) (h : Bad x) : digS x = none := by
  obtain ⟨b, r, hx, hb, _⟩ := h
  unfold digS
  rw [hx]
  cases r with
  | nil => exact hexv_big b hb
  | cons c t => rfl
theorem bu_ou : ∀ (bs : List Nat) (L : List ByteArray), LR bs L → ∀ place high out, bu bs place high out = ou (L.map digS) place high out := by
  intro bs
  induction bs with
  | nil =>
    intro L h place high out
    obtain rfl : L = [] := h
    rfl
  | cons b t ih =>
    intro L h place high out
    obtain ⟨x, M, rfl, h⟩ := h
    rcases h with ⟨hb, rfl, hM⟩ | ⟨hb, hbad⟩
    · rw [List.map_cons, digS_one b (by omega), bu]
      cases hv : hexv b with
      | none => rfl
      | some v =>
        simp only [ou]
        rw [ih M hM, ih M hM]
    · rw [List.map_cons, digS_bad x hbad, bu, hexv_big b hb]
      rfl
theorem ou_bad : ∀ (i : Nat) (ds : List (Option Nat)) (place high : Nat) (out : List Nat), (∀ j, j < i → ∃ v, ds[j]? = some (some v)) → ds[i]? = some none → ou ds place high out = ([], place + i, 4) := by
  intro i
  induction i with
  | zero =>
    intro ds place high out _ h
    cases ds with
    | nil => simp at h
    | cons d t => simp at h; subst h; rfl
  | succ i ih =>
    intro ds place high out h1 h
    cases ds with
    | nil => simp at h
    | cons d t =>
      obtain ⟨v, hv⟩ := h1 0 (by omega)
      simp at hv
      subst hv
      have h2 : ∀ j, j < i → ∃ v, t[j]? = some (some v) := fun j hj => by
        obtain ⟨v, hv⟩ := h1 (j + 1) (by omega)
        exact ⟨v, by simpa using hv⟩
      have h3 : t[i]? = some none := by simpa using h
      rw [ou]
      split
      · rw [ih t _ _ _ h2 h3]; congr 2; omega
      · rw [ih t _ _ _ h2 h3]; congr 2; omega
theorem ou_odd : ∀ (ds : List (Option Nat)) (place high : Nat) (out : List Nat), (∀ j, j < ds.length → ∃ v, ds[j]? = some (some v)) → (place + ds.length) % 2 ≠ 0 → ou ds place high out = ([], place + ds.length, 3) := by
  intro ds
  induction ds with
  | nil =>
    intro place high out _ h
    rw [ou, if_neg (by simpa using h)]
    rfl
  | cons d t ih =>
    intro place high out h1 h
    obtain ⟨v, hv⟩ := h1 0 (by simp)
    simp at hv
    subst hv
    have h2 : ∀ j, j < t.length → ∃ v, t[j]? = some (some v) := fun j hj => by
      obtain ⟨v, hv⟩ := h1 (j + 1) (by simp; omega)
      exact ⟨v, by simpa using hv⟩
    simp only [List.length_cons] at h ⊢
    rw [ou]
    split
    · rw [ih _ _ _ h2 (by omega)]; congr 2; omega
    · rw [ih _ _ _ h2 (by omega)]; congr 2; omega
def prs : List Nat → List Nat
  | a :: b :: t => (a * 16 + b) :: prs t
  | _ => []
theorem ou_even : ∀ (m : Nat) (vs : List Nat) (place high : Nat) (out : List Nat), vs.length = 2 * m → place % 2 = 0 → ou (vs.map some) place high out = (out ++ prs vs, 0, 0) := by
  intro m
  induction m with
  | zero =>
    intro vs place high out h hp
    obtain rfl : vs = [] := List.eq_nil_of_length_eq_zero (by omega)
    simp [ou, prs, hp]
  | succ m ih =>
    intro vs place high out h hp
    match vs, h with
    | a :: b :: t, h =>
      simp only [List.map_cons, ou]
      rw [if_pos hp, if_neg (by omega), ih t _ _ _ (by simp at h; omega) (by omega), prs, List.append_assoc]
      rfl
theorem prs_snoc : ∀ (m : Nat) (vs : List Nat) (a b : Nat), vs.length = 2 * m → prs (vs ++ [a, b]) = prs vs ++ [a * 16 + b] := by
  intro m
  induction m with
  | zero =>
    intro vs a b h
    obtain rfl : vs = [] := List.eq_nil_of_length_eq_zero (by omega)
    rfl
  | succ m ih =>
    intro vs a b h
    match vs, h with
    | x :: y :: t, h =>
      simp only [List.cons_append, prs]
      rw [ih t a b (by simp at h; omega)]
def dv (x : ByteArray) : Nat := (digS x).getD 0
theorem digS_lt {x : ByteArray} {v : Nat} (h : digS x = some v) : v < 16 := by
  unfold digS digN at h
  split at h
  · exact hexv_lt h
  · cases h
theorem dv_lt (x : ByteArray) : dv x < 16 := by
  unfold dv
  cases h : digS x with
  | none => simp
  | some v => exact digS_lt h
theorem all_some (L : List ByteArray) (h : ∀ x ∈ L, digS x ≠ none) : L.map digS = (L.map dv).map some := by
  rw [List.map_map]
  apply List.map_congr_left
  intro x hx
  unfold dv
  cases hd : digS x with
  | none => exact absurd hd (h x hx)
  | some v => simp [hd]
theorem uhOf_bu (s : ByteArray) (h : ¬ 4096 < s.size) (L : List ByteArray) (hL : LR (natsOf s) L) : uhOf s = ou (L.map digS) 0 0 [] := by
  unfold uhOf
  rw [if_neg h, uhRun_bu s _ 0 0 0 [] (by omega) (by omega), List.drop_zero, bu_ou _ _ hL]
end Go.Proofs.YtaakkibohkckaaaDoor
