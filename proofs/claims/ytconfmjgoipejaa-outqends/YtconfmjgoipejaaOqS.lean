/- outq: a cell of a piece is stored; what keeps a queue. -/
import Derived.Test.YtconfmjgoipejaaOqH
namespace Go.Proofs.Ytconfmjgoipejaa
open Go.RowKit Go.Shelf
attribute [local go_sem] Oper.semAt_some
theorem valsG_setQ {α : Type} {cf : α → List Value} {k : Nat} (hk : ∀ x, (cf x).length = k) : ∀ (ps : List α) (i j : Nat) (x y : α) (v : Value), ps[i]? = some x → j < k → cf y = (cf x).set j v → valsG cf (ps.set i y) = (valsG cf ps).set (i * k + j) v
  | [], i, j, x, y, v, h, _, _ => by simp at h
  | p :: ps, 0, j, x, y, v, h, hj, e => by
    obtain rfl : p = x := by simpa using h
    show cf y ++ valsG cf ps = (cf p ++ valsG cf ps).set (0 * k + j) v
    rw [Nat.zero_mul, Nat.zero_add, List.set_append_left _ _ (by rw [hk]; exact hj), e]
  | p :: ps, i + 1, j, x, y, v, h, hj, e => by
    show cf p ++ valsG cf (ps.set i y) = (cf p ++ valsG cf ps).set ((i + 1) * k + j) v
    have e2 : (i + 1) * k + j = k + (i * k + j) := by rw [Nat.add_mul]; omega
    rw [valsG_setQ hk ps i j x y v (by simpa using h) hj e, e2, List.set_append_right _ _ (by rw [hk]; omega), hk, Nat.add_sub_cancel_left]
section
variable {w w' : World} {q nb : Nat} {pa : Option Addr} {cap : Nat} {L : List PcA} {cum size : Nat} {nx : List Nat}
theorem QuW.neq (h : QuW w q nb pa cap L cum size nx) (pb : Nat) (hp : BT w pb 82) : pb ≠ q ∧ pb ≠ nb ∧ ¬ BT w pb 5 :=
  ⟨hp.ne h.tq (by decide), hp.ne h.tn (by decide), fun e => hp.ne e (by decide) rfl⟩
/-- A cell of a piece is stored. -/
theorem QuW.put (h : QuW w q nb pa cap L cum size nx) {pb k j : Nat} {x y : PcA} {v : Value} (hpa : pa = some ⟨pb, 0, none⟩) (hx : L[k]? = some x) (hj : j < 17) (hy : pcV y = (pcV x).set j v) (hz : y.2 = x.2 ∧ y.1.zs = x.1.zs) :
    QuW (w.setCell ⟨pb, k * 17 + j, none⟩ v) q nb pa cap (L.set k y) cum size nx := by
  subst hpa
  have hkl := (List.getElem?_eq_some_iff.1 hx).1
  have hbt : BT w pb 82 := h.row.bt pb rfl
  obtain ⟨n1, n2, n3⟩ := h.neq pb hbt
  have hf : Fr (fun b => b = pb) w (w.setCell ⟨pb, k * 17 + j, none⟩ v) := Fr.setCell _ _ _ _ rfl
  have hr : OwnQ (w.setCell ⟨pb, k * 17 + j, none⟩ v) 0 (some ⟨pb, 0, none⟩) L.length cap (L.set k y) := by
    refine ⟨by simp, ?_⟩
    have := (h.row.own.stored (k * 17 + j) v).1
    rwa [valsG_setQ pcV_len L k j x y v hx hj hy]
  refine ⟨h.tq.setCell _ _, h.tn.setCell _ _, (hf.cell _ h.tq.lt (fun e => n1 e.symm)).trans h.c0, (hf.cell _ h.tq.lt (fun e => n1 e.symm)).trans h.c1, (hf.cell _ h.tq.lt (fun e => n1 e.symm)).trans h.c2, ?_, fun i => (hf.frozen ⟨q, i, none⟩ h.tq.lt (fun e => n1 e.symm)).trans (h.fq i),
    fun i hi => (hf.cell _ h.tn.lt (fun e => n2 e.symm)).trans (h.nc i hi), fun i => (hf.frozen ⟨nb, i, none⟩ h.tn.lt (fun e => n2 e.symm)).trans (h.fn i), ?_, fun z hz2 => ?_⟩
  · rw [List.length_set]
    exact (hf.cell _ h.tq.lt (fun e => n1 e.symm)).trans h.c3
  · rw [List.length_set]
    exact hr
  · have hfy : ∀ g, BT w g 5 → ¬ g = pb := fun g hg e => n3 (e ▸ hg)
    rcases List.mem_or_eq_of_mem_set hz2 with h1 | h1
    · exact (h.dat z h1).frY hf hfy
    · have h2 := (h.dat x (List.mem_of_getElem? hx)).frY hf hfy
      rw [h1, hz.1, hz.2]
      exact h2
/-- A queue through what the machine lays and turns of its own (no cells). -/
theorem QuW.grown {row : Option Nat} (h : QuW w q nb pa cap L cum size nx) (hg : w.grownBy w' row) (hr : ∀ r, row = some r → ∃ o : Obj, w.heap[r]? = some o ∧ o.isCells = false) : QuW w' q nb pa cap L cum size nx := by
  have hf : Fr (fun b => row = some b) w w' := Fr.grown hg (fun k e => e)
  have hn : ∀ {b : Nat} {T : TypeId}, BT w b T → ¬ row = some b := fun {b T} hb e => by
    obtain ⟨o, ho, hc⟩ := hr b e
    obtain ⟨cur, r, hh⟩ := hb
    rw [hh] at ho
    obtain rfl := Option.some.inj ho
    cases hc
  exact h.fr hf (hn h.tq) (hn h.tn) (fun g hg2 => hn (h.row.bt g hg2)) (fun g hg2 => hn hg2)
end
end Go.Proofs.Ytconfmjgoipejaa
