/- Rows of structs of the call's own: an element laid anew, a row cut at its end. -/
import Derived.Test.YtconfmjgoipejaaOwnG
import Derived.Laws.OwnMore
import Derived.Deep.MidRow
namespace Go.Proofs.Ytconfmjgoipejaa
open Go.RowKit
def setL (xs : List Value) : Nat → List Value → List Value
  | _, [] => xs
  | o, v :: vs => setL (xs.set o v) (o + 1) vs
theorem setL_app : ∀ (vs M A C : List Value), M.length = vs.length → setL (A ++ (M ++ C)) A.length vs = A ++ (vs ++ C) := by
  intro vs
  induction vs with
  | nil => intro M A C h; obtain rfl : M = [] := List.eq_nil_of_length_eq_zero h; rfl
  | cons v vs ih =>
    intro M A C h
    cases M with
    | nil => simp at h
    | cons m M =>
      have e1 : (A ++ ((m :: M) ++ C)).set A.length v = (A ++ [v]) ++ (M ++ C) := by
        rw [List.set_append_right _ _ (Nat.le_refl _), Nat.sub_self]
        simp
      show setL ((A ++ ((m :: M) ++ C)).set A.length v) (A.length + 1) vs = _
      rw [e1]
      have := ih M (A ++ [v]) C (by simpa using h)
      rw [List.length_append] at this
      rw [show A.length + 1 = A.length + [v].length from rfl, this]
      simp
section
variable {α : Type} {P : Program} {S T : TypeId} {k bytes : Nat} {cf : α → List Value} {w w' : World} {B g : Nat} {n c : Nat} {ps : List α}
theorem owns_setCells {X : Value} (hX : X = .slice (some ⟨g, 0, none⟩) n c) : ∀ (vs : List Value) (o : Nat) (w : World) (xs : List Value), w.ownsRow B T k X n xs → (w.setCells g o vs).ownsRow B T k X n (setL xs o vs) := by
  subst hX
  intro vs
  induction vs with
  | nil => intro o w xs h; exact h
  | cons v vs ih => intro o w xs h; exact ih (o + 1) _ _ (h.stored o v).1
theorem valsG_set (hk : ∀ x, (cf x).length = k) (ps : List α) (j : Nat) (y : α) (hj : j < ps.length) : setL (valsG cf ps) (j * k) (cf y) = valsG cf (ps.set j y) := by
  have e1 : ps = ps.take j ++ (ps[j] :: ps.drop (j + 1)) := by
    rw [← List.drop_eq_getElem_cons hj, List.take_append_drop]
  have e2 : valsG cf ps = valsG cf (ps.take j) ++ (cf ps[j] ++ valsG cf (ps.drop (j + 1))) := by
    conv => lhs; rw [e1]
    rw [valsG_app]
    rfl
  have e3 : ps.set j y = ps.take j ++ (y :: ps.drop (j + 1)) := List.set_eq_take_append_cons_drop .. |>.trans (by rw [if_pos hj])
  have hl : (valsG cf (ps.take j)).length = j * k := by rw [valsG_len hk, List.length_take, Nat.min_eq_left (by omega)]
  rw [e2, ← hl, setL_app _ _ _ _ (by rw [hk, hk]), e3, valsG_app]
  rfl
theorem OwnG.setAt (h : OwnG T k cf w B (some ⟨g, 0, none⟩) n c ps) (hk : ∀ x, (cf x).length = k) (j : Nat) (y : α) (hj : j < n) : OwnG T k cf (w.setCells g (j * k) (cf y)) B (some ⟨g, 0, none⟩) n c (ps.set j y) := by
  refine ⟨by rw [List.length_set]; exact h.len, ?_⟩
  rw [← valsG_set hk ps j y (by rw [h.len]; exact hj)]
  exact owns_setCells rfl _ _ _ _ h.own
theorem valsG_take (hk : ∀ x, (cf x).length = k) (ps : List α) (m : Nat) (hm : m ≤ ps.length) : valsG cf (ps.take m) = (valsG cf ps).take (m * k) := by
  have hl : (valsG cf (ps.take m)).length = m * k := by rw [valsG_len hk, List.length_take, Nat.min_eq_left hm]
  have e : valsG cf ps = valsG cf (ps.take m) ++ valsG cf (ps.drop m) := by rw [← valsG_app, List.take_append_drop]
  rw [e, ← hl, List.take_left']
  rfl
theorem OwnG.cutTo (h : OwnG T k cf w B (some ⟨g, 0, none⟩) n c ps) (hk : ∀ x, (cf x).length = k) (m : Nat) (hm : m ≤ n) : OwnG T k cf w B (some ⟨g, 0, none⟩) m c (ps.take m) := by
  have hl := h.len
  refine ⟨by rw [List.length_take]; omega, ?_⟩
  rw [valsG_take hk ps m (by omega)]
  obtain ⟨h1, h2⟩ := h.own
  refine ⟨?_, ?_⟩
  · rw [List.length_take, h1, Nat.min_eq_left (Nat.mul_le_mul_right k hm)]
  · rcases h2 with ⟨hv, _⟩ | ⟨g', cap, cur, hv, hb, hh, hnc, hcm, hcs, htake⟩
    · cases hv
    · injection hv with e1 e2 e3
      injection e1 with e1
      injection e1 with e1
      subst e1 e3
      refine .inr ⟨g, c, cur, rfl, hb, hh, by omega, hcm, hcs, ?_⟩
      rw [← htake, List.take_take, Nat.min_eq_left (Nat.mul_le_mul_right k hm)]
theorem OwnG.thereAt (h : OwnG T k cf w B (some ⟨g, 0, none⟩) n c ps) (hk : ∀ x, (cf x).length = k) (j : Nat) (hj : j < n) : w.there g (j * k) k := fun i hi => by
  have hl := h.len
  have hb : j * k + i < n * k := by
    have h1 : (j + 1) * k ≤ n * k := Nat.mul_le_mul_right k (by omega)
    have h2 : (j + 1) * k = j * k + k := by rw [Nat.add_mul]; omega
    omega
  refine ⟨?_, h.own.frozenAt _⟩
  rw [h.own.cellAt (j * k + i) hb]
  have : (valsG cf ps).length = n * k := by rw [valsG_len hk, hl]
  rw [List.getElem?_eq_getElem (by omega)]
  rfl
end
/-- clear of one struct in a row. -/
theorem clear_one {P : Program} (w : World) (t e ty : TypeId) (zs : List Value) (ht : P.underlying t = some (.slice e)) (hv : ∀ w, (zeroValue e).run P w = .ok (.agg zs.toArray) w) (h1 : ∀ v ∈ zs, v.oneCell' = true) (b o c : Nat) (hth : w.there b o zs.length) :
    (Builtin.clear_ #[t] ty #[.slice (some ⟨b, o, none⟩) 1 c]).run P w = .ok (.tuple #[]) (w.setCells b o zs) := by
  have hzc : (Builtin.zeroCells (Value.agg zs.toArray).cells 1).toList = zs := by
    simp [Builtin.zeroCells, Value.cells]
    apply List.ext_getElem
    · simp
    · intro i h1 h2
      simp at h1
      simp [Nat.mod_eq_of_lt h1, h1]
  have hst := run_storeCells_cells (P := P) b o zs 0 w (fun j hj => by simpa using (hth j hj).1) (fun j hj => by simpa using (hth j hj).2) h1
  simp only [Nat.add_zero] at hst
  simp [Builtin.clear_, run_underlying ht, hv, hzc, hst]
end Go.Proofs.Ytconfmjgoipejaa
