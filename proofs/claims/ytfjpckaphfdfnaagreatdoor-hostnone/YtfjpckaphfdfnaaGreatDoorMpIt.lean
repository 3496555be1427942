/- 'for k, v := range m': a map that is gone through; the keys that came so far, each once. -/
import Derived.Test.YtfjpckaphfdfnaaGreatDoorMp
import Derived.Maps.Range
import Derived.RangeFuncSeq
namespace Go.Proofs.YtfjpckaphfdfnaaGreatDoor
open Go.RowKit Go.MapKept Go.Maps
open Go.ChangeMaps (setBlock)
/-- Block r goes through the map of block b; ss: the keys that came. -/
structure MIt {κ : Type} (ek : κ → Value) (K : κ → Prop) (w : World) (b r n : Nat) (g : κ → Option Value) (ss : List κ) (left : Nat) : Prop where
  ex : ∃ es clock since c0 seen, w.heap[b]? = some (.map es clock) ∧ es.size ≤ n ∧ Stamped es clock ∧ (∀ x ∈ es.toList, ∃ q, K q ∧ x.key = ek q ∧ g q = some x.val) ∧ (∀ q v, K q → g q = some v → ∃ x ∈ es.toList, x.key = ek q ∧ x.val = v) ∧
    w.heap[r]? = some (.mapIter (some b) since seen c0) ∧ (∀ x ∈ es.toList, x.born < since) ∧ since ≤ c0 ∧ since ≤ clock ∧ (leftOf es seen).size = left ∧ ss.length + left ≤ n ∧ (∀ x ∈ es.toList, seen.contains x.born = true ↔ ∃ q ∈ ss, x.key = ek q)
  nodup : ss.Nodup
  there : ∀ q ∈ ss, K q ∧ (g q).isSome = true
section
variable {κ : Type} {P : Program} {k e t : TypeId} {ek : κ → Value} {K : κ → Prop} {w w' : World} {b r n : Nat} {g : κ → Option Value} {ss : List κ} {left : Nat}
theorem MIt.mp (h : MIt ek K w b r n g ss left) : Mp ek K w b n g := by
  obtain ⟨es, c, s, c0, seen, h1, h2, h3, h4, h5, _⟩ := h.ex
  exact ⟨es, c, h1, h2, h3, h4, h5⟩
theorem MIt.iter (h : MIt ek K w b r n g ss left) : ∃ o, w.heap[r]? = some o ∧ o.isWalk = true := by
  obtain ⟨es, c, s, c0, seen, h1, h2, h3, h4, h5, h6, _⟩ := h.ex
  exact ⟨_, h6, rfl⟩
theorem MIt.lt (h : MIt ek K w b r n g ss left) : r < w.heap.size := by
  obtain ⟨o, ho, _⟩ := h.iter
  exact (Array.getElem?_eq_some_iff.1 ho).1
theorem MIt.same (h : MIt ek K w b r n g ss left) (hb : w'.heap[b]? = w.heap[b]?) (hr : w'.heap[r]? = w.heap[r]?) : MIt ek K w' b r n g ss left := by
  obtain ⟨es, c, s, c0, seen, h1, h2, h3, h4, h5, h6, h7⟩ := h.ex
  exact ⟨⟨es, c, s, c0, seen, hb.trans h1, h2, h3, h4, h5, hr.trans h6, h7⟩, h.nodup, h.there⟩
theorem MIt.walks (h : MIt ek K w b r n g ss left) (hk : KeepsWalks w w') : MIt ek K w' b r n g ss left := by
  obtain ⟨es, c, s, c0, seen, h1, h2, h3, h4, h5, h6, h7⟩ := h.ex
  exact h.same ((hk.same b _ h1 rfl).trans h1.symm) ((hk.same r _ h6 rfl).trans h6.symm)
theorem MIt.fr {Q : Nat → Prop} (h : MIt ek K w b r n g ss left) (hf : Fr Q w w') (hb : ¬ Q b) (hr : ¬ Q r) : MIt ek K w' b r n g ss left :=
  h.same (hf.block b h.mp.lt hb) (hf.block r h.lt hr)
theorem MIt.left_eq (h : MIt ek K w b r n g ss left) : w.rangeLeft b r = left := by
  obtain ⟨es, c, s, c0, seen, h1, h2, h3, h4, h5, h6, h7, h8, h9, h10, _⟩ := h.ex
  simp only [World.rangeLeft, h1, h6]
  exact h10
/-- 'range m'. -/
theorem Mp.range (h : Mp ek K w b n g) (ht : P.underlying t = some (.map k e)) :
    ∃ w', (Instr.range t (.map (some b))).run P w = .ok (.pointer (some ⟨w.heap.size, 0, none⟩)) w' ∧ (∃ left, MIt ek K w' b w.heap.size n g [] left) ∧ Below w.heap.size w w' ∧ w'.heap.size = w.heap.size + 1 := by
  have hlt := h.lt
  obtain ⟨es, c, h1, h2, h3, h4, h5⟩ := h.ex
  refine ⟨_, run_range_map w t k e b es c ht h1, ⟨_, ⟨es, c, c, c, #[], ?_, h2, h3, h4, h5, ?_, h3.1, Nat.le_refl _, Nat.le_refl _, rfl, ?_, ?_⟩, List.nodup_nil, fun q hq => by cases hq⟩, (Below.refl _ _).alloc (Nat.le_refl _) _, by simp⟩
  · exact ((heap_alloc w _).2 b hlt).trans h1
  · exact (heap_alloc w _).1
  · have h6 : (leftOf es #[]).size ≤ es.size := by unfold leftOf; exact Array.size_filter_le
    simp only [List.length_nil]
    omega
  · intro x _
    simp
theorem MIt.next (h : MIt ek K w b r n g ss left) (hinj : ∀ q q', K q → K q' → ek q = ek q' → q = q') (ty : TypeId) :
    (left = 0 ∧ (∀ q, K q → (g q).isSome = true → q ∈ ss) ∧ (Instr.next (.pointer (some ⟨r, 0, none⟩)) false ty).run P w = .ok (.tuple #[.bool false]) w) ∨
    ∃ q v w' left', K q ∧ g q = some v ∧ q ∉ ss ∧ ss.length < n ∧ (Instr.next (.pointer (some ⟨r, 0, none⟩)) false ty).run P w = .ok (.tuple #[.bool true, ek q, v]) w' ∧ MIt ek K w' b r n g (ss ++ [q]) left' ∧ left' < left ∧
      w.grownBy w' (some r) ∧ w'.heap.size = w.heap.size ∧ (Instr.entry (.pointer (some ⟨r, 0, none⟩))).run P w' = .ok (.tuple #[ek q, v]) w' := by
  obtain ⟨es, c, s, c0, seen, h1, h2, h3, h4, h5, h6, h7, h8, h9, h10, h11, h12⟩ := h.ex
  have hne : r ≠ b := fun e1 => by rw [e1, h1] at h6; cases h6
  have hst := (stamped_iff es c).1 h3
  rcases run_next_at (P := P) w ty r b s c0 seen es c h6 h1 h7 h8 with ⟨h0, hrun⟩ | ⟨x, hx, w1, hal, hrun⟩
  · refine .inl ⟨by omega, fun q hq hg => ?_, hrun⟩
    cases hv : g q with
    | none => rw [hv] at hg; cases hg
    | some v =>
      obtain ⟨y, hy, hyk, _⟩ := h5 q v hq hv
      obtain ⟨q', hq', hk'⟩ := (h12 y hy).1 (all_seen es seen h0 y hy)
      rw [hinj q q' hq (h.there q' hq').1 (by rw [← hyk, hk'])]
      exact hq'
  · obtain ⟨hem, hes⟩ := mem_left hx
    obtain ⟨q, hq, hk, hv⟩ := h4 x hem
    have hr1 : w1.heap[r]? = some (.mapIter (some b) s seen c0) := by rcases hal with rfl | rfl <;> exact h6
    have hb1 : w1.heap[b]? = some (.map es c) := by rcases hal with rfl | rfl <;> exact h1
    have hset := heap_set (o' := .mapIter (some b) s (seen.push x.born) c) hr1
    have hb' : (setBlock w1 r (.mapIter (some b) s (seen.push x.born) c)).heap[b]? = some (.map es c) := (hset.2 b (fun e1 => hne e1.symm)).trans hb1
    have hls := left_shrinks es seen x hx
    have hqn : q ∉ ss := fun hqs => by
      have := (h12 x hem).2 ⟨q, hqs, hk⟩
      rw [hes] at this
      cases this
    refine .inr ⟨q, x.val, _, _, hq, hv, hqn, by omega, by rw [← hk]; exact hrun, ⟨⟨es, c, s, c, seen.push x.born, hb', h2, h3, h4, h5, hset.1, h7, h9, h9, rfl, by simp; omega, fun y hy => ?_⟩, ?_, fun q' hq' => ?_⟩, by omega, ?_, ?_,
      by rw [← hk]; exact run_entry_at _ r b s seen es c x hset.1 hb' hem hst.2.1⟩
    · rw [contains_push]
      constructor
      · intro hc
        by_cases hsn : seen.contains y.born = true
        · obtain ⟨q', hq', hk'⟩ := (h12 y hy).1 hsn
          exact ⟨q', by simp [hq'], hk'⟩
        · have hyx : (y.born == x.born) = true := by
            cases h1' : seen.contains y.born with
            | true => exact absurd h1' hsn
            | false => rw [h1'] at hc; simpa using hc
          have : y = x := born_inj hst.2.1 hy hem (eq_of_beq hyx)
          subst this
          exact ⟨q, by simp, hk⟩
      · rintro ⟨q', hq', hk'⟩
        rcases List.mem_append.1 hq' with hq' | hq'
        · rw [(h12 y hy).2 ⟨q', hq', hk'⟩]; rfl
        · simp at hq'
          subst hq'
          have : y = x := entry_eq_of_key hst.2.2 hy hem (by rw [hk', hk])
          subst this
          simp
    · rw [List.nodup_append]
      exact ⟨h.nodup, by simp, fun a ha b hb => by simp at hb; subst hb; exact fun e1 => hqn (e1 ▸ ha)⟩
    · rcases List.mem_append.1 hq' with hq' | hq'
      · exact h.there q' hq'
      · simp at hq'
        subst hq'
        exact ⟨hq, by rw [hv]; rfl⟩
    · rcases hal with rfl | rfl <;> exact ⟨rfl, rfl, rfl, by simp [setBlock], fun i _ hi => hset.2 i (fun e1 => hi (by rw [e1]))⟩
    · rcases hal with rfl | rfl <;> simp [setBlock]
end
end Go.Proofs.YtfjpckaphfdfnaaGreatDoor
