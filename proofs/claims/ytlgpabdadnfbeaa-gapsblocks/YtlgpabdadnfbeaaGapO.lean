/- Plain mathematics: a number is taken once at most, and cum never goes back. Nothing of the program. -/
import Derived.Test.YtlgpabdadnfbeaaGapX
namespace Go.Proofs.Ytlgpabdadnfbeaa
/-- The tracker that began at f holds just the numbers f + a with A a; k is the first one that is not there. -/
structure RepO (f : Nat) (A : Nat → Bool) (k cum : Nat) (S : Nat → Bool) : Prop where
  cum : cum = (addV 4294967296 f (-1) + k) % 4294967296
  low : ∀ i, i < k → A i = true
  gap : A k = false
  top : ∀ a, k + 256 ≤ a → A a = false
  fin : ∀ a, 32768 ≤ a → A a = false
  bits : ∀ n, S n = if n = 0 then false else A (k + n - 1)
theorem RepO.k_le {f : Nat} {A : Nat → Bool} {k cum : Nat} {S : Nat → Bool} (h : RepO f A k cum S) : k ≤ 32768 := by
  rcases Nat.lt_or_ge 32768 k with hk | hk
  · have := h.low 32768 hk
    rw [h.fin 32768 (Nat.le_refl _)] at this
    cases this
  · exact hk
theorem RepO.start (f : Nat) : RepO f (fun _ => false) 0 (addV 4294967296 f (-1)) (fun _ => false) :=
  ⟨by rw [Nat.add_zero, Nat.mod_eq_of_lt (addV_lt _ _ _ (by omega))], fun i hi => by omega, rfl, fun _ _ => rfl, fun _ _ => rfl, fun n => by split <;> rfl⟩
theorem RepO.far {f : Nat} {A : Nat → Bool} {k cum : Nat} {S : Nat → Bool} (h : RepO f A k cum S) (_hf : f < 4294967296) (b : Int) (h1 : -32768 ≤ b) (h2 : b < 32768) : aheadV 4294967296 cum (addV 4294967296 f b) = b + 1 - k := by
  have hk := h.k_le
  have h0 := addV_int 4294967296 f (-1) (by omega)
  have h9 := addV_int 4294967296 f b (by omega)
  have hcl : cum < 4294967296 := by rw [h.cum]; exact Nat.mod_lt _ (by omega)
  have h3 := upV_int 4294967296 cum (addV 4294967296 f b) hcl
  have hc := h.cum
  generalize addV 4294967296 f (-1) = c0 at *
  generalize addV 4294967296 f b = t at *
  unfold aheadV
  generalize upV 4294967296 cum t = u at *
  split <;> omega
theorem RepO.has0 {f : Nat} {A : Nat → Bool} {k cum : Nat} {S : Nat → Bool} (h : RepO f A k cum S) : hasV cum S cum = true := by
  have hcl : cum < 4294967296 := by rw [h.cum]; exact Nat.mod_lt _ (by omega)
  have := ahead_of cum 0 hcl (by omega)
  rw [Nat.add_zero, Nat.mod_eq_of_lt hcl] at this
  unfold hasV; rw [this]; rfl
theorem RepO.has1 {f : Nat} {A : Nat → Bool} {k cum : Nat} {S : Nat → Bool} (h : RepO f A k cum S) : hasV cum S ((cum + 1) % 4294967296) = false := by
  have hcl : cum < 4294967296 := by rw [h.cum]; exact Nat.mod_lt _ (by omega)
  have := ahead_of cum 1 hcl (by omega)
  unfold hasV; rw [this, h.bits]
  simp [h.gap]
theorem RepO.step {f : Nat} {A : Nat → Bool} {k cum : Nat} {S : Nat → Bool} (h : RepO f A k cum S) (hf : f < 4294967296) (b : Int) (h1 : -32768 ≤ b) (h2 : b < 32768) :
    (addE cum S (addV 4294967296 f b) = 0 ∧ 0 ≤ b ∧ A b.toNat = false ∧ ∃ k', RepO f (addA A b.toNat) k' (addC cum S (addV 4294967296 f b)) (addS cum S (addV 4294967296 f b)) ∧ 0 ≤ aheadV 4294967296 cum (addC cum S (addV 4294967296 f b))) ∨
    (addE cum S (addV 4294967296 f b) = 17 ∧ (b < 0 ∨ A b.toNat = true) ∧ addC cum S (addV 4294967296 f b) = cum ∧ addS cum S (addV 4294967296 f b) = S) ∨
    (addE cum S (addV 4294967296 f b) = 10 ∧ addC cum S (addV 4294967296 f b) = cum ∧ addS cum S (addV 4294967296 f b) = S) := by
  have hfar := h.far hf b h1 h2
  have hk := h.k_le
  generalize addV 4294967296 f b = t at *
  cases hv : hasV cum S t with
  | true =>
    have hE : addE cum S t = 17 := by unfold addE; rw [if_pos hv]
    refine .inr (.inl ⟨hE, ?_, by unfold addC; rw [hE, if_neg (by omega)], by unfold addS; rw [hE, if_neg (by omega)]⟩)
    by_cases hb : b < 0
    · exact .inl hb
    · right
      unfold hasV at hv
      rw [hfar] at hv
      by_cases hlk : b + 1 - k ≤ 0
      · exact h.low _ (by omega)
      · rw [decide_eq_false hlk, Bool.false_or, Bool.and_eq_true, h.bits, if_neg (by omega)] at hv
        rw [← hv.2]
        congr 1
        omega
  | false =>
    by_cases hfull : 256 < aheadV 4294967296 cum t
    · have hE : addE cum S t = 10 := by unfold addE; rw [hv, if_neg Bool.false_ne_true, if_pos hfull]
      exact .inr (.inr ⟨hE, by unfold addC; rw [hE, if_neg (by omega)], by unfold addS; rw [hE, if_neg (by omega)]⟩)
    · have hE : addE cum S t = 0 := by unfold addE; rw [hv, if_neg Bool.false_ne_true, if_neg hfull]
      rw [hfar] at hfull
      have hb1 : 0 < b + 1 - k := by
        rcases Int.lt_or_le 0 (b + 1 - k) with e | e
        · exact e
        · unfold hasV at hv
          rw [hfar, decide_eq_true e, Bool.true_or] at hv
          cases hv
      obtain ⟨a, rfl⟩ : ∃ a : Nat, b = (a : Int) := ⟨b.toNat, by omega⟩
      have hn : ((a : Int) + 1 - k).toNat = a + 1 - k := by omega
      have hA : A a = false := by
        unfold hasV at hv
        rw [hfar, hn, decide_eq_false (by omega), Bool.false_or, decide_eq_true (show (a : Int) + 1 - k ≤ 256 by omega), Bool.true_and, h.bits, if_neg (by omega)] at hv
        rw [← hv]
        congr 1
        omega
      have hput : ∀ n, putS S (a + 1 - k) n = if n = 0 then false else addA A a (k + n - 1) := by
        intro n
        unfold putS addA
        rw [h.bits]
        by_cases h0 : n = 0
        · subst h0
          rw [if_pos rfl, if_pos rfl, decide_eq_false (by omega)]; rfl
        · rw [if_neg h0, if_neg h0]
          congr 1
          rw [decide_eq_decide]
          omega
      have htop : ∀ c, k + 256 ≤ c → addA A a c = false := fun c hc => by unfold addA; rw [h.top c hc, decide_eq_false (by omega)]; rfl
      obtain ⟨j, hj, hj0, hj1⟩ := least (addA A a) 256 k (htop _ (by omega))
      have hlead : lead (putS S (a + 1 - k)) = j := by
        refine lead_of _ j hj (fun i h1 h2 => ?_) ?_
        · rw [hput, if_neg (by omega), show k + i - 1 = k + (i - 1) from by omega]
          exact hj1 (i - 1) (by omega)
        · rw [hput, if_neg (by omega), show k + (j + 1) - 1 = k + j from by omega]
          exact hj0
      have hC : addC cum S t = (cum + j) % 4294967296 := by unfold addC; rw [hE, if_pos rfl, hfar, hn, hlead]
      refine .inl ⟨hE, by omega, by rw [Int.toNat_natCast]; exact hA, k + j, ?_, ?_⟩
      · rw [Int.toNat_natCast, hC]
        unfold addS
        rw [hE, if_pos rfl, hfar, hn, hlead]
        refine ⟨?_, fun i hi => ?_, hj0, fun c hc => htop c (by omega), fun c hc => by unfold addA; rw [h.fin c hc, decide_eq_false (by omega)]; rfl, fun n => ?_⟩
        · rw [h.cum]; omega
        · by_cases e : i < k
          · unfold addA; rw [h.low i e]; rfl
          · have := hj1 (i - k) (by omega)
            rwa [show k + (i - k) = i from by omega] at this
        · unfold onS
          split
          · rfl
          · rw [hput, if_neg (by omega)]
            congr 1
            omega
      · have hcl : cum < 4294967296 := by rw [h.cum]; exact Nat.mod_lt _ (by omega)
        rw [hC, ahead_of cum j hcl (by omega)]
        omega
end Go.Proofs.Ytlgpabdadnfbeaa
