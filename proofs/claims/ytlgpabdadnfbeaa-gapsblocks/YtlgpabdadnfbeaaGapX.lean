/- Plain mathematics: what a tracker holds is the set of what came, in whatever order. Nothing of the program. -/
import Derived.Test.YtlgpabdadnfbeaaGapS
namespace Go.Proofs.Ytlgpabdadnfbeaa
/-- The tracker that began at f holds just the numbers f + a with A a; k is the first one that is not there. -/
structure Rep (f : Nat) (A : Nat → Bool) (k cum : Nat) (S : Nat → Bool) : Prop where
  cum : cum = (addV 4294967296 f (-1) + k) % 4294967296
  low : ∀ i, i < k → A i = true
  gap : A k = false
  top : ∀ a, 256 ≤ a → A a = false
  bits : ∀ n, S n = if n = 0 then false else A (k + n - 1)
theorem Rep.k_le {f : Nat} {A : Nat → Bool} {k cum : Nat} {S : Nat → Bool} (h : Rep f A k cum S) : k ≤ 256 := by
  rcases Nat.lt_or_ge 256 k with hk | hk
  · have := h.low 256 hk
    rw [h.top 256 (Nat.le_refl _)] at this
    cases this
  · exact hk
theorem Rep.uniq {f : Nat} {A : Nat → Bool} {k k2 cum cum2 : Nat} {S S2 : Nat → Bool} (h : Rep f A k cum S) (h2 : Rep f A k2 cum2 S2) : cum = cum2 ∧ S = S2 := by
  have hk : k = k2 := by
    rcases Nat.lt_trichotomy k k2 with e | e | e
    · have := h2.low k e
      rw [h.gap] at this
      cases this
    · exact e
    · have := h.low k2 e
      rw [h2.gap] at this
      cases this
  subst hk
  exact ⟨by rw [h.cum, h2.cum], by funext n; rw [h.bits, h2.bits]⟩
theorem Rep.start (f : Nat) : Rep f (fun _ => false) 0 (addV 4294967296 f (-1)) (fun _ => false) :=
  ⟨by rw [Nat.add_zero, Nat.mod_eq_of_lt (addV_lt _ _ _ (by omega))], fun i hi => by omega, rfl, fun _ _ => rfl, fun n => by split <;> rfl⟩
theorem c0_mod (f : Nat) (hf : f < 4294967296) : (addV 4294967296 f (-1) + 1) % 4294967296 = f := by
  have := addV_int 4294967296 f (-1) (by omega)
  omega
/-- How far ahead of cum f + a is. -/
theorem Rep.far {f : Nat} {A : Nat → Bool} {k cum : Nat} {S : Nat → Bool} (h : Rep f A k cum S) (hf : f < 4294967296) (a : Nat) (ha : a < 256) : aheadV 4294967296 cum ((f + a) % 4294967296) = (a : Int) + 1 - k := by
  have hk := h.k_le
  have h0 := c0_mod f hf
  have hcl : cum < 4294967296 := by rw [h.cum]; exact Nat.mod_lt _ (by omega)
  have h1 := upV_int 4294967296 cum ((f + a) % 4294967296) hcl
  have hc := h.cum
  generalize addV 4294967296 f (-1) = c0 at *
  unfold aheadV
  generalize upV 4294967296 cum ((f + a) % 4294967296) = u at *
  split <;> omega
def addA (A : Nat → Bool) (a : Nat) : Nat → Bool := fun b => A b || decide (b = a)
theorem least (A : Nat → Bool) : ∀ d k, A (k + d) = false → ∃ j, j ≤ d ∧ A (k + j) = false ∧ ∀ i, i < j → A (k + i) = true := by
  intro d
  induction d with
  | zero => intro k h; exact ⟨0, Nat.le_refl _, h, fun i hi => by omega⟩
  | succ d ih =>
    intro k h
    cases hk : A k with
    | false => exact ⟨0, by omega, hk, fun i hi => by omega⟩
    | true =>
      obtain ⟨j, h1, h2, h3⟩ := ih (k + 1) (by rw [show k + 1 + d = k + (d + 1) from by omega]; exact h)
      refine ⟨j + 1, by omega, by rw [show k + (j + 1) = k + 1 + j from by omega]; exact h2, fun i hi => ?_⟩
      cases i with
      | zero => exact hk
      | succ i => rw [show k + (i + 1) = k + 1 + i from by omega]; exact h3 i (by omega)
/-- One number more: the set has it, and the tracker is the set's. -/
theorem Rep.add {f : Nat} {A : Nat → Bool} {k cum : Nat} {S : Nat → Bool} (h : Rep f A k cum S) (hf : f < 4294967296) (a : Nat) (ha : a < 256) :
    ∃ k', Rep f (addA A a) k' (addC cum S ((f + a) % 4294967296)) (addS cum S ((f + a) % 4294967296)) := by
  have hfar := h.far hf a ha
  have hk := h.k_le
  cases hA : A a with
  | true =>
    have hv : hasV cum S ((f + a) % 4294967296) = true := by
      unfold hasV
      rw [hfar]
      by_cases hak : a < k
      · rw [decide_eq_true (by omega)]; rfl
      · have e : ((a : Int) + 1 - k).toNat = a + 1 - k := by omega
        rw [e, h.bits, if_neg (by omega), show k + (a + 1 - k) - 1 = a from by omega, hA, decide_eq_true (show (a : Int) + 1 - k ≤ 256 by omega)]
        simp
    have hE : addE cum S ((f + a) % 4294967296) = 17 := by unfold addE; rw [if_pos hv]
    have hAA : addA A a = A := by
      funext b
      unfold addA
      by_cases e : b = a
      · subst e; simp [hA]
      · simp [e]
    refine ⟨k, ?_⟩
    unfold addC addS
    rw [hE, hAA, if_neg (by omega), if_neg (by omega)]
    exact h
  | false =>
    have hak : k ≤ a := by
      rcases Nat.lt_or_ge a k with e | e
      · have := h.low a e
        rw [hA] at this
        cases this
      · exact e
    have hn : ((a : Int) + 1 - k).toNat = a + 1 - k := by omega
    have hv : hasV cum S ((f + a) % 4294967296) = false := by
      unfold hasV
      rw [hfar, hn, h.bits, if_neg (by omega), show k + (a + 1 - k) - 1 = a from by omega, hA, decide_eq_false (by omega)]
      simp
    have hE : addE cum S ((f + a) % 4294967296) = 0 := by unfold addE; rw [hv, if_neg Bool.false_ne_true, hfar, if_neg (by omega)]
    have hput : ∀ n, putS S (a + 1 - k) n = if n = 0 then false else addA A a (k + n - 1) := by
      intro n
      unfold putS addA
      rw [h.bits]
      by_cases h0 : n = 0
      · subst h0
        rw [if_pos rfl, if_pos rfl, decide_eq_false (by omega)]; rfl
      · rw [if_neg h0, if_neg h0]
        congr 1
        rw [decide_eq_decide]
        omega
    have htop : ∀ b, 256 ≤ b → addA A a b = false := fun b hb => by unfold addA; rw [h.top b hb, decide_eq_false (by omega)]; rfl
    obtain ⟨j, hj, hj0, hj1⟩ := least (addA A a) (256 - k) k (by rw [show k + (256 - k) = 256 from by omega]; exact htop 256 (Nat.le_refl _))
    have hlead : lead (putS S (a + 1 - k)) = j := by
      refine lead_of _ j (by omega) (fun i h1 h2 => ?_) ?_
      · rw [hput, if_neg (by omega), show k + i - 1 = k + (i - 1) from by omega]
        exact hj1 (i - 1) (by omega)
      · rw [hput, if_neg (by omega), show k + (j + 1) - 1 = k + j from by omega]
        exact hj0
    refine ⟨k + j, ?_⟩
    unfold addC addS
    rw [hE, if_pos rfl, if_pos rfl, hfar, hn, hlead]
    refine ⟨?_, fun i hi => ?_, hj0, htop, fun n => ?_⟩
    · rw [h.cum]; omega
    · by_cases e : i < k
      · unfold addA; rw [h.low i e]; rfl
      · have := hj1 (i - k) (by omega)
        rwa [show k + (i - k) = i from by omega] at this
    · unfold onS
      split
      · rfl
      · rw [hput, if_neg (by omega)]
        congr 1
        omega
end Go.Proofs.Ytlgpabdadnfbeaa
