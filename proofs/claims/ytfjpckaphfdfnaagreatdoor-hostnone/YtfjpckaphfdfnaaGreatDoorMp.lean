/- A map as it lies in a world: what it holds at each key; look-up, store, 'm[k] op= x', make. -/
import Derived.Test.YtfjpckaphfdfnaaGreatDoorProg
import Derived.Test.YtfjpckaphfdfnaaGreatDoorFrM
import Derived.Maps.Keyed
import Derived.Carry
import Derived.DeepKeys4
namespace Go.Proofs.YtfjpckaphfdfnaaGreatDoor
open Go.RowKit Go.MapKept Go.Maps
/-- The keys of a type, as plain data. -/
structure KE {κ : Type} (P : Program) (k : TypeId) (ek : κ → Value) (K : κ → Prop) : Prop where
  keyed : Keyed P k
  ok : ∀ q, K q → ∃ l, keyOf P k (ek q) = some l
  inj : ∀ q q', K q → K q' → ek q = ek q' → q = q'
/-- Block b is a map of at most n entries that holds g. -/
structure Mp {κ : Type} (ek : κ → Value) (K : κ → Prop) (w : World) (b n : Nat) (g : κ → Option Value) : Prop where
  ex : ∃ es clock, w.heap[b]? = some (.map es clock) ∧ es.size ≤ n ∧ Stamped es clock ∧ (∀ x ∈ es.toList, ∃ q, K q ∧ x.key = ek q ∧ g q = some x.val) ∧ (∀ q v, K q → g q = some v → ∃ x ∈ es.toList, x.key = ek q ∧ x.val = v)
section
variable {κ : Type} {P : Program} {k e t : TypeId} {ek : κ → Value} {K : κ → Prop} {w w' : World} {b n : Nat} {g : κ → Option Value}
theorem Mp.lt (h : Mp ek K w b n g) : b < w.heap.size := by
  obtain ⟨es, c, hb, _⟩ := h.ex
  exact (Array.getElem?_eq_some_iff.1 hb).1
theorem Mp.same (h : Mp ek K w b n g) (hb : w'.heap[b]? = w.heap[b]?) : Mp ek K w' b n g := by
  obtain ⟨es, c, h1, h2⟩ := h.ex
  exact ⟨es, c, hb.trans h1, h2⟩
theorem Mp.fr {Q : Nat → Prop} (h : Mp ek K w b n g) (hf : Fr Q w w') (hq : ¬ Q b) : Mp ek K w' b n g := h.same (hf.block b h.lt hq)
theorem Mp.below (h : Mp ek K w b n g) (hf : Below w.heap.size w w') : Mp ek K w' b n g := h.same (hf.block b h.lt)
theorem Mp.mono (h : Mp ek K w b n g) {m : Nat} (hm : n ≤ m) : Mp ek K w b m g := by
  obtain ⟨es, c, h1, h2, h3⟩ := h.ex
  exact ⟨es, c, h1, Nat.le_trans h2 hm, h3⟩
theorem Mp.congr {g' : κ → Option Value} (h : Mp ek K w b n g) (hg : ∀ q, K q → g q = g' q) : Mp ek K w b n g' := by
  obtain ⟨es, c, h1, h2, h3, h4, h5⟩ := h.ex
  refine ⟨es, c, h1, h2, h3, fun x hx => ?_, fun q v hq hv => h5 q v hq (by rw [hg q hq]; exact hv)⟩
  obtain ⟨q, hq, hk, hv⟩ := h4 x hx
  exact ⟨q, hq, hk, by rw [← hg q hq]; exact hv⟩
theorem Mp.made (w : World) (W : World) (hW : W = w.alloc (.map #[] 0)) : Mp ek K W w.heap.size 0 (fun _ => none) := by
  subst hW
  exact ⟨#[], 0, (heap_alloc w _).1, Nat.le_refl _, stamped_empty 0, by simp, fun q v _ h => by cases h⟩
theorem Mp.none_of (h : Mp ek K w b n g) {es : Array MapEntry} {c : Nat} (hb : w.heap[b]? = some (.map es c)) {q : κ} (hq : K q) (hn : ∀ x ∈ es.toList, x.key ≠ ek q) : g q = none := by
  obtain ⟨es', c', h1, _, _, _, h5⟩ := h.ex
  rw [hb] at h1
  injection h1 with h1
  injection h1 with h1 h1c
  subst h1
  cases hg : g q with
  | none => rfl
  | some v =>
    obtain ⟨x, hx, hk, _⟩ := h5 q v hq hg
    exact absurd hk (hn x hx)
/-- What is found. -/
theorem Mp.find (h : Mp ek K w b n g) (E : KE P k ek K) {q : κ} (hq : K q) :
    ∃ es c, w.heap[b]? = some (.map es c) ∧ ((Instr.findKey k (ek q) es.toList).run P w = .ok none w ∧ (∀ x ∈ es.toList, x.key ≠ ek q) ∧ g q = none ∨
      ∃ j x, (Instr.findKey k (ek q) es.toList).run P w = .ok (some (j, x.val)) w ∧ es.toList[j]? = some x ∧ x.key = ek q ∧ g q = some x.val) := by
  obtain ⟨es, c, h1, h2, h3, h4, h5⟩ := h.ex
  obtain ⟨l, hl⟩ := E.ok q hq
  refine ⟨es, c, h1, ?_⟩
  rcases E.keyed.find w hl es.toList (fun x hx => by obtain ⟨q', hq', hk, _⟩ := h4 x hx; obtain ⟨l', hl'⟩ := E.ok q' hq'; exact ⟨l', by rw [hk]; exact hl'⟩) with ⟨a1, a2⟩ | ⟨j, x, a1, a2, a3⟩
  · exact .inl ⟨a1, a2, h.none_of h1 hq a2⟩
  · refine .inr ⟨j, x, a1, a2, a3, ?_⟩
    obtain ⟨q', hq', hk, hv⟩ := h4 x (List.mem_of_getElem? a2)
    obtain rfl := E.inj q q' hq hq' (by rw [← a3, hk])
    exact hv
/-- 'm[k]' (c = false), 'v, ok := m[k]' (c = true). -/
theorem Mp.look (h : Mp ek K w b n g) (E : KE P k ek K) (c : Bool) (ht : P.underlying t = some (.map k e)) {z : Value} (hz : (zeroValue e).run P w = .ok z w) {q : κ} (hq : K q) :
    (Instr.lookup t (.map (some b)) (ek q) c).run P w = .ok (if c then .tuple #[(g q).getD z, .bool (g q).isSome] else (g q).getD z) w := by
  obtain ⟨l, hl⟩ := E.ok q hq
  obtain ⟨es, cl, hb, hh⟩ := h.find E hq
  rcases hh with ⟨h1, _, hg⟩ | ⟨j, x, h1, h2, h3, hg⟩
  · rw [hg]
    simp [Instr.lookup, run_underlying ht, MapKept.run_getObj_map hb, E.keyed.check w _ hl, h1, hz, Result.andThen]
  · rw [hg]
    simp [Instr.lookup, run_underlying ht, MapKept.run_getObj_map hb, E.keyed.check w _ hl, h1, Result.andThen]
/-- A key's value set. -/
def mset [DecidableEq κ] (g : κ → Option Value) (q : κ) (v : Value) : κ → Option Value := fun q' => if q' = q then some v else g q'
theorem fr_setBlock {es : Array MapEntry} {c : Nat} (hb : w.heap[b]? = some (.map es c)) (o : Obj) : Fr (· = b) w { w with heap := w.heap.setIfInBounds b o } :=
  ⟨rfl, rfl, rfl, by simp, fun i _ hi => (heap_set hb).2 i hi⟩
theorem mp_push [DecidableEq κ] (h : Mp ek K w b n g) {es : Array MapEntry} {c : Nat} (hb : w.heap[b]? = some (.map es c)) {q : κ} (hq : K q) (hn : ∀ x ∈ es.toList, x.key ≠ ek q) (v : Value)
    (W : World) (hW : W.heap[b]? = some (.map (es.push { key := ek q, val := v, born := c }) (c + 1))) : Mp ek K W b (n + 1) (mset g q v) := by
  obtain ⟨es', c', h1, h2, h3, h4, h5⟩ := h.ex
  rw [hb] at h1
  injection h1 with h1
  injection h1 with h1 h1c
  subst h1 h1c
  refine ⟨_, _, hW, by simp; omega, stamped_push h3 hn, fun x hx => ?_, fun q' v' hq' hv' => ?_⟩
  · simp only [Array.toList_push, List.mem_append, List.mem_singleton] at hx
    rcases hx with hx | rfl
    · obtain ⟨q', hq', hk, hv⟩ := h4 x hx
      refine ⟨q', hq', hk, ?_⟩
      unfold mset
      rw [if_neg (fun e => hn x hx (by rw [hk, e]))]
      exact hv
    · exact ⟨q, hq, rfl, by simp [mset]⟩
  · unfold mset at hv'
    split at hv'
    · rename_i e
      subst e
      injection hv' with hv'
      subst hv'
      exact ⟨⟨ek q', v, c⟩, by simp, rfl, rfl⟩
    · obtain ⟨x, hx, hk⟩ := h5 q' v' hq' hv'
      exact ⟨x, by simp [hx], hk⟩
theorem mp_mod [DecidableEq κ] (h : Mp ek K w b n g) (E : KE P k ek K) {es : Array MapEntry} {c : Nat} (hb : w.heap[b]? = some (.map es c)) {q : κ} (hq : K q) {j : Nat} {x : MapEntry} (hx : es.toList[j]? = some x) (hk : x.key = ek q) (v : Value)
    (W : World) (f : MapEntry → MapEntry) (hf1 : ∀ y, (f y).born = y.born) (hf2 : (f x).key = ek q) (hf3 : (f x).val = v) (hW : W.heap[b]? = some (.map (es.modify j f) c)) : Mp ek K W b n (mset g q v) := by
  obtain ⟨es', c', h1, h2, h3, h4, h5⟩ := h.ex
  rw [hb] at h1
  injection h1 with h1
  injection h1 with h1 h1c
  subst h1 h1c
  have hxa : es[j]? = some x := by rw [← Array.getElem?_toList]; exact hx
  have hjl : j < es.size := (Array.getElem?_eq_some_iff.1 hxa).1
  have huniq : ∀ i y, es.toList[i]? = some y → y.key = ek q → i = j := by
    intro i y hy hyk
    have hnd := h3.2.2
    have e1 : (es.toList.map (·.key))[i]? = some (ek q) := by rw [List.getElem?_map, hy]; simp [hyk]
    have e2 : (es.toList.map (·.key))[j]? = some (ek q) := by rw [List.getElem?_map, hx]; simp [hk]
    have hil := (List.getElem?_eq_some_iff.1 e1).1
    have hj2 := (List.getElem?_eq_some_iff.1 e2).1
    exact (List.getElem?_inj hil hnd).1 (by rw [e1, e2])
  refine ⟨_, _, hW, by simpa using h2, stamped_modify h3 j f (fun y _ => hf1 y) (fun y _ hy => by rw [hxa] at hy; injection hy with hy; subst hy; rw [hf2, hk]), fun y hy => ?_, fun q' v' hq' hv' => ?_⟩
  · rw [Array.mem_toList_iff, Array.mem_iff_getElem?] at hy
    obtain ⟨i, hi⟩ := hy
    rw [Array.getElem?_modify] at hi
    split at hi
    · rename_i hij
      subst hij
      rw [hxa] at hi
      simp at hi
      subst hi
      exact ⟨q, hq, hf2, by simp [mset, hf3]⟩
    · rename_i hij
      have hyl : es.toList[i]? = some y := by rw [Array.getElem?_toList]; exact hi
      obtain ⟨q', hq', hk', hv'⟩ := h4 y (List.mem_of_getElem? hyl)
      refine ⟨q', hq', hk', ?_⟩
      unfold mset
      rw [if_neg (fun e2 => hij (huniq i y hyl (by rw [hk', e2])).symm)]
      exact hv'
  · unfold mset at hv'
    split at hv'
    · rename_i e2
      subst e2
      injection hv' with hv'
      subst hv'
      refine ⟨f x, ?_, hf2, hf3⟩
      rw [Array.mem_toList_iff, Array.mem_iff_getElem?]
      exact ⟨j, by rw [Array.getElem?_modify, if_pos rfl, hxa]; rfl⟩
    · rename_i e2
      obtain ⟨y, hy, hyk, hyv⟩ := h5 q' v' hq' hv'
      obtain ⟨i, hi⟩ := List.getElem?_of_mem hy
      refine ⟨y, ?_, hyk, hyv⟩
      rw [Array.mem_toList_iff, Array.mem_iff_getElem?]
      refine ⟨i, ?_⟩
      have hij : ¬ j = i := fun e3 => by
        subst e3
        rw [hx] at hi
        injection hi with hi
        subst hi
        exact e2 (E.inj q' q hq' hq (by rw [← hyk, hk]))
      rw [Array.getElem?_modify, if_neg hij, ← Array.getElem?_toList]
      exact hi
/-- 'm[k] = v'. -/
theorem Mp.upd [DecidableEq κ] (h : Mp ek K w b n g) (E : KE P k ek K) (ht : P.underlying t = some (.map k e)) {q : κ} (hq : K q) (v : Value) :
    ∃ w', (Instr.mapUpdate t (.map (some b)) (ek q) v).run P w = .ok () w' ∧ Mp ek K w' b (n + 1) (mset g q v) ∧ Fr (· = b) w w' ∧ w'.heap.size = w.heap.size := by
  obtain ⟨l, hl⟩ := E.ok q hq
  obtain ⟨es, cl, hb, hh⟩ := h.find E hq
  rcases hh with ⟨h1, h2, hg⟩ | ⟨j, x, h1, h2, h3, hg⟩
  · refine ⟨_, by simp [Instr.mapUpdate, run_underlying ht, MapKept.run_getObj_map hb, E.keyed.check w false hl, h1, MapKept.run_setObj_map _ hb, Result.andThen]; rfl, ?_, fr_setBlock hb _, by simp⟩
    exact mp_push h hb hq h2 v _ (heap_set hb).1
  · have hxa : es[j]? = some x := by rw [← Array.getElem?_toList]; exact h2
    refine ⟨_, by simp [Instr.mapUpdate, run_underlying ht, MapKept.run_getObj_map hb, E.keyed.check w false hl, h1, hxa, h3, E.keyed.stays w hl, MapKept.run_setObj_map _ hb, Result.andThen]; rfl, ?_, fr_setBlock hb _, by simp⟩
    exact (mp_mod h E hb hq h2 h3 v _ (fun e => { e with key := ek q, val := v }) (fun _ => rfl) rfl rfl (heap_set hb).1).mono (Nat.le_add_right _ _)
/-- 'm[k] op= x': the entry is made ready. -/
theorem Mp.entry [DecidableEq κ] (h : Mp ek K w b n g) (E : KE P k ek K) (ht : P.underlying t = some (.map k e)) {z : Value} (hz : (zeroValue e).run P w = .ok z w) {q : κ} (hq : K q) :
    ∃ w' st, (Instr.mapEntry t (.map (some b)) (ek q)).run P w = .ok (.tuple #[(g q).getD z, st]) w' ∧ Mp ek K w' b (n + 1) (mset g q ((g q).getD z)) ∧ Fr (· = b) w w' ∧ w'.heap.size = w.heap.size ∧
      ∀ v W, W.heap[b]? = w'.heap[b]? → ∃ W', (Instr.entryStore t (.map (some b)) st v).run P W = .ok () W' ∧ Mp ek K W' b (n + 1) (mset g q v) ∧ Fr (· = b) W W' ∧ W'.heap.size = W.heap.size := by
  obtain ⟨l, hl⟩ := E.ok q hq
  obtain ⟨es, cl, hb, hh⟩ := h.find E hq
  have key : ∀ (w' : World) (es' : Array MapEntry) (c' : Nat) (m : Nat) (g' : κ → Option Value), Mp ek K w' b m g' → w'.heap[b]? = some (.map es' c') → ∀ (j : Nat) (y : MapEntry), es'.toList[j]? = some y → y.key = ek q → ∀ (v : Value) (W : World), W.heap[b]? = w'.heap[b]? →
      ∃ W', (Instr.entryStore t (.map (some b)) (goInt y.born) v).run P W = .ok () W' ∧ Mp ek K W' b m (mset g' q v) ∧ Fr (· = b) W W' ∧ W'.heap.size = W.heap.size := by
    intro w' es' c' m g' hm hb' j y hy hyk v W hW
    have hbW : W.heap[b]? = some (.map es' c') := hW.trans hb'
    have hmW : Mp ek K W b m g' := hm.same hW
    obtain ⟨es2, c2, h1, h2, h3, h4, h5⟩ := hmW.ex
    rw [hbW] at h1
    injection h1 with h1
    injection h1 with h1 h1c
    subst h1 h1c
    have hya : es'[j]? = some y := by rw [← Array.getElem?_toList]; exact hy
    have hfi : es'.findIdx? (fun e => (e.born : Int) == (y.born : Int)) = some j := by
      have hjl : j < es'.size := (Array.getElem?_eq_some_iff.1 hya).1
      have hyj : es'[j] = y := (Array.getElem?_eq_some_iff.1 hya).2
      rw [Array.findIdx?_eq_some_iff_getElem]
      refine ⟨hjl, by simp [hyj], fun i hi => ?_⟩
      have hnd := h3.2.1
      have hil : i < es'.size := by omega
      simp only [Bool.not_eq_true, beq_eq_false_iff_ne, ne_eq]
      intro e2
      have e3 : es'[i].born = y.born := by omega
      have g1 : (es'.toList.map (·.born))[i]? = some y.born := by rw [List.getElem?_map, Array.getElem?_toList, Array.getElem?_eq_getElem hil]; simp [e3]
      have g2 : (es'.toList.map (·.born))[j]? = some y.born := by rw [List.getElem?_map, Array.getElem?_toList, hya]; rfl
      have := (List.getElem?_inj (j := j) (List.getElem?_eq_some_iff.1 g1).1 hnd).1 (by rw [g1, g2])
      omega
    refine ⟨_, by simp [Instr.entryStore, MapKept.run_getObj_map hbW, asInt, asIntOf, goInt, hfi, MapKept.run_setObj_map _ hbW, Result.andThen]; rfl, ?_, fr_setBlock hbW _, by simp⟩
    exact mp_mod hmW E hbW hq hy hyk v _ (fun e => { e with val := v }) (fun _ => rfl) hyk rfl (heap_set hbW).1
  rcases hh with ⟨h1, h2, hg⟩ | ⟨j, x, h1, h2, h3, hg⟩
  · have hm := mp_push h hb hq h2 z { w with heap := w.heap.setIfInBounds b (.map (es.push { key := ek q, val := z, born := cl }) (cl + 1)) } (heap_set hb).1
    refine ⟨_, goInt cl, by rw [hg]; simp [Instr.mapEntry, run_underlying ht, MapKept.run_getObj_map hb, E.keyed.check w false hl, h1, hz, MapKept.run_setObj_map _ hb, Result.andThen]; rfl, by rw [hg]; exact hm, fr_setBlock hb _, by simp, fun v W hW => ?_⟩
    obtain ⟨W', e1, e2, e3⟩ := key _ _ _ _ _ hm (heap_set hb).1 es.size ⟨ek q, z, cl⟩ (by simp) rfl v W hW
    refine ⟨W', e1, e2.congr (fun q' _ => ?_), e3⟩
    unfold mset
    split <;> rfl
  · have hxa : es[j]? = some x := by rw [← Array.getElem?_toList]; exact h2
    have hm := (mp_mod h E hb hq h2 h3 x.val { w with heap := w.heap.setIfInBounds b (.map (es.modify j fun e => { e with key := ek q }) cl) } (fun e => { e with key := ek q }) (fun _ => rfl) rfl rfl (heap_set hb).1).mono (Nat.le_add_right n 1)
    refine ⟨_, goInt x.born, by rw [hg]; simp [Instr.mapEntry, run_underlying ht, MapKept.run_getObj_map hb, E.keyed.check w false hl, h1, hxa, h3, E.keyed.stays w hl, MapKept.run_setObj_map _ hb, Result.andThen]; rfl, by rw [hg]; exact hm, fr_setBlock hb _, by simp, fun v W hW => ?_⟩
    obtain ⟨W', e1, e2, e3⟩ := key _ _ _ _ _ hm (heap_set hb).1 j { x with key := ek q } (by
      rw [Array.getElem?_toList, Array.getElem?_modify, if_pos rfl, hxa]; rfl) rfl v W hW
    refine ⟨W', e1, e2.congr (fun q' _ => ?_), e3⟩
    unfold mset
    split <;> rfl
end
end Go.Proofs.YtfjpckaphfdfnaaGreatDoor
