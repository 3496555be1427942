/- A map: how many entries it has; delete. -/
import Derived.Test.YtjaheelgcjafcaaMp
import Derived.Test.YtjaheelgcjafcaaSoD
import Derived.MapFrom
namespace Go.Proofs.Ytjaheelgcjafcaa
open Go.RowKit Go.MapKept Go.Maps
section
variable {κ : Type} {P : Program} {k e t : TypeId} {ek : κ → Value} {K : κ → Prop} {w w' : World} {b n : Nat} {g : κ → Option Value}
theorem keys_list : ∀ (es : List MapEntry), (∀ x ∈ es, ∃ q, K q ∧ x.key = ek q ∧ g q = some x.val) → ∃ ss : List κ, ss.map ek = es.map (·.key) ∧ (∀ q ∈ ss, K q ∧ (g q).isSome = true) := by
  intro es
  induction es with
  | nil => intro _; exact ⟨[], rfl, fun q hq => by cases hq⟩
  | cons x es ih =>
    intro h
    obtain ⟨ss, h1, h2⟩ := ih (fun x hx => h x (List.mem_cons_of_mem _ hx))
    obtain ⟨q, hq, hk, hv⟩ := h x List.mem_cons_self
    refine ⟨q :: ss, by simp [h1, hk], fun q' hq' => ?_⟩
    rcases List.mem_cons.1 hq' with rfl | hq'
    · exact ⟨hq, by rw [hv]; rfl⟩
    · exact h2 q' hq'
/-- A map has just as many entries as there are keys. -/
theorem Mp.card (h : Mp ek K w b n g) (hinj : ∀ q q', K q → K q' → ek q = ek q' → q = q') [DecidableEq κ] (L : List κ) (hn : L.Nodup) (hm : ∀ q, q ∈ L ↔ K q ∧ (g q).isSome = true) : ∃ es clock, w.heap[b]? = some (.map es clock) ∧ es.size = L.length ∧ Mp ek K w b L.length g := by
  obtain ⟨es, c, h1, h2, h3, h4, h5⟩ := h.ex
  obtain ⟨ss, hs1, hs2⟩ := keys_list es.toList h4
  have hl : ss.length = es.size := by
    have := congrArg List.length hs1
    simpa using this
  have hnd : ss.Nodup := by
    have hk := h3.2.2
    rw [← hs1] at hk
    exact (List.pairwise_map.1 hk).imp (fun h e1 => h (by rw [e1]))
  have hp : ss.Perm L := (List.perm_ext_iff_of_nodup hnd hn).2 (fun q => by
    rw [hm q]
    constructor
    · exact hs2 q
    · rintro ⟨hq, hg⟩
      cases hv : g q with
      | none => rw [hv] at hg; cases hg
      | some v =>
        obtain ⟨x, hx, hxk, _⟩ := h5 q v hq hv
        have : ek q ∈ ss.map ek := by rw [hs1, ← hxk]; exact List.mem_map_of_mem hx
        obtain ⟨q', hq', hk'⟩ := List.mem_map.1 this
        rw [← hinj q' q (hs2 q' hq').1 hq hk']
        exact hq')
  have he : es.size = L.length := by rw [← hl, hp.length_eq]
  exact ⟨es, c, h1, he, es, c, h1, by omega, h3, h4, h5⟩
def mdel [DecidableEq κ] (g : κ → Option Value) (q : κ) : κ → Option Value := fun q' => if q' = q then none else g q'
/-- 'delete(m, k)'. -/
theorem Mp.del [DecidableEq κ] (h : Mp ek K w b n g) (E : KE P k ek K) (ht : P.underlying t = some (.map k e)) {q : κ} (hq : K q) (ty : TypeId) :
    ∃ w', (Builtin.delete_ #[t, k] ty #[.map (some b), ek q]).run P w = .ok (.tuple #[]) w' ∧ Mp ek K w' b n (mdel g q) ∧ Fr (· = b) w w' ∧ w'.heap.size = w.heap.size := by
  obtain ⟨l, hl⟩ := E.ok q hq
  obtain ⟨es, cl, hb, hh⟩ := h.find E hq
  obtain ⟨es', cl', h1', h2', h3', h4', h5'⟩ := h.ex
  rw [hb] at h1'
  injection h1' with h1'
  injection h1' with e1 e2
  subst e1 e2
  rcases hh with ⟨h1, h2, hg⟩ | ⟨j, x, h1, h2, h3, hg⟩
  · refine ⟨_, by simp [Builtin.delete_, run_underlying ht, MapKept.run_getObj_map hb, E.keyed.check w _ hl, h1, MapKept.run_setObj_map _ hb, Result.andThen]; rfl, ?_, ?_, ?_⟩
    · refine (h.congr (g' := mdel g q) (fun q' hq' => ?_)).same (by first | rfl | exact (heap_set hb).1.trans hb.symm)
      unfold mdel
      by_cases e1 : q' = q
      · rw [if_pos e1, e1, hg]
      · rw [if_neg e1]
    · first | exact Fr.refl _ _ | exact fr_setBlock hb _
    · first | rfl | simp
  · have hjl : j < es.toList.length := (List.getElem?_eq_some_iff.1 h2).1
    have hjs : j < es.size := by simpa using hjl
    have hsub : (es.eraseIdxIfInBounds j).toList = es.toList.eraseIdx j := by
      unfold Array.eraseIdxIfInBounds
      rw [dif_pos hjs]
      simp
    refine ⟨{ w with heap := w.heap.setIfInBounds b (.map (es.eraseIdxIfInBounds j) cl) }, by simp [Builtin.delete_, run_underlying ht, MapKept.run_getObj_map hb, E.keyed.check w _ hl, h1, MapKept.run_setObj_map _ hb, Result.andThen], ⟨_, _, (heap_set hb).1, Nat.le_trans (MapFrom.size_erase es j) h2', stamped_erase h3' j, ?_, ?_⟩, fr_setBlock hb _, by simp⟩
    · intro y hy
      rw [hsub, List.mem_eraseIdx_iff_getElem?] at hy
      obtain ⟨i, hne, hi⟩ := hy
      obtain ⟨q', hq', hk', hv'⟩ := h4' y (List.mem_of_getElem? hi)
      refine ⟨q', hq', hk', ?_⟩
      unfold mdel
      rw [if_neg (fun e1 => ?_)]
      · exact hv'
      · have hnd := h3'.2.2
        have g1 : (es.toList.map (·.key))[i]? = some (ek q) := by rw [List.getElem?_map, hi]; simp [hk', e1]
        have g2 : (es.toList.map (·.key))[j]? = some (ek q) := by rw [List.getElem?_map, h2]; simp [h3]
        exact hne ((List.getElem?_inj (List.getElem?_eq_some_iff.1 g1).1 hnd).1 (by rw [g1, g2]))
    · intro q' v' hq' hv'
      unfold mdel at hv'
      split at hv'
      · cases hv'
      · rename_i e1
        obtain ⟨y, hy, hyk, hyv⟩ := h5' q' v' hq' hv'
        refine ⟨y, ?_, hyk, hyv⟩
        rw [hsub, List.mem_eraseIdx_iff_getElem?]
        obtain ⟨i, hi⟩ := List.getElem?_of_mem hy
        refine ⟨i, fun e3 => ?_, hi⟩
        subst e3
        rw [h2] at hi
        injection hi with hi
        subst hi
        exact e1 (E.inj q' q hq' hq (by rw [← hyk, h3]))
end
theorem Srt.nodup {α : Type} {D : List (Nat × α)} (hs : Srt D) : (D.map (·.1)).Nodup := by
  have := hs.rise
  unfold List.Nodup
  exact this.imp (fun h => Nat.ne_of_lt h)
theorem lookD_map {α : Type} (D : List (Nat × α)) (f : Nat → α → Value) (K : Nat → Prop) (hb : ∀ y ∈ D, K y.1) (q : Nat) : q ∈ D.map (·.1) ↔ K q ∧ ((lookD D q).map (f q)).isSome = true := by
  have e : ((lookD D q).map (f q)).isSome = (lookD D q).isSome := by cases lookD D q <;> rfl
  rw [e, lookD_some_iff]
  constructor
  · intro hq
    obtain ⟨y, hy, rfl⟩ := List.mem_map.1 hq
    exact ⟨hb y hy, hq⟩
  · exact fun h => h.2
/-- A map that holds sorted data, told to have just as many entries. -/
theorem Mp.tight {α : Type} {ek : Nat → Value} {K : Nat → Prop} {w : World} {mb n : Nat} {D : List (Nat × α)} {f : Nat → α → Value} (h : Mp ek K w mb n (fun q => (lookD D q).map (f q))) (hinj : ∀ q q', K q → K q' → ek q = ek q' → q = q') (hs : Srt D) (hb : ∀ y ∈ D, K y.1) : ∃ es clock, w.heap[mb]? = some (.map es clock) ∧ es.size = D.length ∧ Mp ek K w mb D.length (fun q => (lookD D q).map (f q)) := by
  obtain ⟨es, c, h1, h2, h3⟩ := h.card hinj (D.map (·.1)) hs.nodup (fun q => lookD_map D f K hb q)
  rw [List.length_map] at h2 h3
  exact ⟨es, c, h1, h2, h3⟩
theorem Mp.put {α : Type} {ek : Nat → Value} {K : Nat → Prop} {w : World} {mb n : Nat} {D : List (Nat × α)} {f f' : Nat → α → Value} {q : Nat} {x : α} {v : Value} (h : Mp ek K w mb n (mset (fun q' => (lookD D q').map (f q')) q v)) (hinj : ∀ q q', K q → K q' → ek q = ek q' → q = q') (hs : Srt D) (hb : ∀ y ∈ D, K y.1) (hq : K q) (hv : v = f' q x) (hff : ∀ q' y, q' ≠ q → f' q' y = f q' y) : Mp ek K w mb (putD D q x).length (fun q' => (lookD (putD D q x) q').map (f' q')) := by
  have h2 : Mp ek K w mb n (fun q' => (lookD (putD D q x) q').map (f' q')) := h.congr (fun q' _ => by
    unfold mset
    rw [look_put _ _ _ _ hs]
    by_cases e : q' = q
    · rw [if_pos e, if_pos e, e, hv]; rfl
    · rw [if_neg e, if_neg e]
      dsimp only
      cases lookD D q' with
      | none => rfl
      | some y => rw [Option.map_some, Option.map_some, hff q' y e])
  obtain ⟨_, _, _, _, h3⟩ := h2.tight hinj (hs.put q x) (fun y hy => by
    rcases putD_mem hy with e | e
    · rw [e]; exact hq
    · exact hb y e)
  exact h3
theorem Mp.cut {α : Type} {ek : Nat → Value} {K : Nat → Prop} {w : World} {mb n : Nat} {D : List (Nat × α)} {f : Nat → α → Value} {q : Nat} (h : Mp ek K w mb n (mdel (fun q' => (lookD D q').map (f q')) q)) (hinj : ∀ q q', K q → K q' → ek q = ek q' → q = q') (hs : Srt D) (hb : ∀ y ∈ D, K y.1) : Mp ek K w mb (delD D q).length (fun q' => (lookD (delD D q) q').map (f q')) := by
  have h2 : Mp ek K w mb n (fun q' => (lookD (delD D q) q').map (f q')) := h.congr (fun q' _ => by
    unfold mdel
    rw [look_del _ _ _ hs]
    by_cases e : q' = q
    · rw [if_pos e, if_pos e]; rfl
    · rw [if_neg e, if_neg e])
  obtain ⟨_, _, _, _, h3⟩ := h2.tight hinj (hs.del q) (fun y hy => hb y (delD_mem hy))
  exact h3
end Go.Proofs.Ytjaheelgcjafcaa
