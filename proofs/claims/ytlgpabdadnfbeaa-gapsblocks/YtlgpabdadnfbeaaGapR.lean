/- Plain mathematics of the reference's tracker: the rising list of what was taken ahead. Nothing of the program. -/
import Derived.Test.YtlgpabdadnfbeaaGapBl
import Derived.Test.YtlgpabdadnfbeaaGapS
namespace Go.Proofs.Ytlgpabdadnfbeaa
def farN (S : Nat → Bool) : List Nat := (farTo S 256).map (·.1)
theorem farTo_mem (S : Nat → Bool) (n : Nat) : ∀ k, n ∈ (farTo S k).map (·.1) ↔ (1 ≤ n ∧ n ≤ k ∧ n ≤ 256 ∧ S n = true) := by
  intro k
  induction k with
  | zero => simp [farTo]; omega
  | succ k ih =>
    by_cases h : k + 1 ≤ 256 ∧ S (k + 1) = true
    · rw [farTo_on S k h.1 h.2, List.map_append, List.mem_append, ih]
      simp only [List.map_cons, List.map_nil, List.mem_singleton]
      constructor
      · rintro (h1 | rfl)
        · exact ⟨h1.1, by omega, h1.2.2.1, h1.2.2.2⟩
        · exact ⟨by omega, by omega, h.1, h.2⟩
      · rintro ⟨h1, h2, h3, h4⟩
        by_cases e : n = k + 1
        · exact .inr e
        · exact .inl ⟨h1, by omega, h3, h4⟩
    · have e : farTo S (k + 1) = farTo S k := by show (if h : _ then _ else _) = _; rw [dif_neg h]
      rw [e, ih]
      constructor
      · rintro ⟨h1, h2, h3, h4⟩; exact ⟨h1, by omega, h3, h4⟩
      · rintro ⟨h1, h2, h3, h4⟩
        refine ⟨h1, ?_, h3, h4⟩
        rcases Nat.lt_or_ge k n with e | e
        · obtain rfl : n = k + 1 := by omega
          exact absurd ⟨h3, h4⟩ h
        · exact e
theorem farN_mem (S : Nat → Bool) (n : Nat) : n ∈ farN S ↔ (1 ≤ n ∧ n ≤ 256 ∧ S n = true) := by
  unfold farN
  rw [farTo_mem]
  constructor
  · rintro ⟨h1, h2, _, h4⟩; exact ⟨h1, h2, h4⟩
  · rintro ⟨h1, h2, h4⟩; exact ⟨h1, h2, h2, h4⟩
theorem farTo_sorted (S : Nat → Bool) : ∀ k, ((farTo S k).map (·.1)).Pairwise (· < ·) := by
  intro k
  induction k with
  | zero => exact List.Pairwise.nil
  | succ k ih =>
    by_cases h : k + 1 ≤ 256 ∧ S (k + 1) = true
    · rw [farTo_on S k h.1 h.2, List.map_append, List.pairwise_append]
      refine ⟨ih, List.pairwise_singleton _ _, fun a ha b hb => ?_⟩
      have := (farTo_mem S a k).1 ha
      simp at hb
      omega
    · have e : farTo S (k + 1) = farTo S k := by show (if h : _ then _ else _) = _; rw [dif_neg h]
      rw [e]; exact ih
theorem farN_sorted (S : Nat → Bool) : (farN S).Pairwise (· < ·) := farTo_sorted S 256
theorem farN_len (S : Nat → Bool) : (farN S).length ≤ 256 := by unfold farN; rw [List.length_map]; exact farTo_len S 256
/-- Two rising lists of the same numbers are one. -/
theorem sorted_ext : ∀ (l1 l2 : List Nat), l1.Pairwise (· < ·) → l2.Pairwise (· < ·) → (∀ n, n ∈ l1 ↔ n ∈ l2) → l1 = l2 := by
  intro l1
  induction l1 with
  | nil =>
    intro l2 _ _ h
    cases l2 with
    | nil => rfl
    | cons b s => have := (h b).2 (by simp); simp at this
  | cons a t ih =>
    intro l2 h1 h2 h
    cases l2 with
    | nil => have := (h a).1 (by simp); simp at this
    | cons b s =>
      rw [List.pairwise_cons] at h1 h2
      have hab : a = b := by
        have e1 := (h a).1 (by simp)
        have e2 := (h b).2 (by simp)
        simp at e1 e2
        rcases e1 with e1 | e1
        · exact e1
        · rcases e2 with e2 | e2
          · exact e2.symm
          · have := h1.1 b e2; have := h2.1 a e1; omega
      subst hab
      congr 1
      refine ih s h1.2 h2.2 (fun n => ?_)
      constructor
      · intro hn
        have := (h n).1 (by simp [hn])
        simp at this
        rcases this with rfl | h3
        · have := h1.1 n hn; omega
        · exact h3
      · intro hn
        have := (h n).2 (by simp [hn])
        simp at this
        rcases this with rfl | h3
        · have := h2.1 n hn; omega
        · exact h3
/-- One more number, at its place. -/
theorem farN_put (S : Nat → Bool) (n k : Nat) (h1 : 1 ≤ n) (h2 : n ≤ 256) (hS : S n = false) (hlt : ∀ i, i < k → (farN S).getD i 0 < n) (hk : k ≤ (farN S).length) (hge : k = (farN S).length ∨ ¬ (farN S).getD k 0 < n) :
    farN (putS S n) = (farN S).take k ++ [n] ++ (farN S).drop k := by
  refine sorted_ext _ _ (farN_sorted _) ?_ (fun m => ?_)
  · have hs := farN_sorted S
    have hm := farN_mem S
    generalize farN S = F at *
    have ht : ∀ a ∈ F.take k, a < n := by
      intro a ha
      obtain ⟨i, hi, rfl⟩ := List.getElem_of_mem ha
      have := hlt i (by simp at hi; omega)
      rw [List.getD_eq_getElem?_getD, List.getElem?_eq_getElem (by simp at hi; omega)] at this
      simpa using this
    have hd : ∀ a ∈ F.drop k, n < a := by
      intro a ha
      obtain ⟨i, hi, rfl⟩ := List.getElem_of_mem ha
      have hi2 : k + i < F.length := by simp at hi; omega
      rcases hge with e | e
      · omega
      · rw [List.getD_eq_getElem?_getD, List.getElem?_eq_getElem (by omega)] at e
        have hin : F[k + i] ∈ F := List.getElem_mem _
        have h3 : F[k] ≤ F[k + i] := by
          rcases Nat.eq_zero_or_pos i with rfl | hpos
          · simp
          · exact Nat.le_of_lt (List.pairwise_iff_getElem.1 hs k (k + i) (by omega) hi2 (by omega))
        have h4 : F[k + i] ≠ n := fun e2 => by
          rw [e2] at hin
          have := ((hm n).1 hin).2.2
          rw [hS] at this
          cases this
        simp at e
        simp
        omega
    rw [List.append_assoc, List.pairwise_append]
    refine ⟨hs.sublist (List.take_sublist _ _), ?_, fun a ha b hb => ?_⟩
    · rw [List.singleton_append, List.pairwise_cons]
      exact ⟨hd, hs.sublist (List.drop_sublist _ _)⟩
    · have h5 := ht a ha
      simp only [List.singleton_append, List.mem_cons] at hb
      rcases hb with rfl | hb
      · exact h5
      · have := hd b hb; omega
  · rw [farN_mem]
    have e : m ∈ (farN S).take k ++ [n] ++ (farN S).drop k ↔ (m ∈ farN S ∨ m = n) := by
      conv => rhs; rw [← List.take_append_drop k (farN S)]
      simp only [List.mem_append, List.mem_singleton]
      constructor
      · rintro ((h | h) | h)
        · exact .inl (.inl h)
        · exact .inr h
        · exact .inl (.inr h)
      · rintro ((h | h) | h)
        · exact .inl (.inl h)
        · exact .inr h
        · exact .inl (.inr h)
    rw [e, farN_mem]
    unfold putS
    constructor
    · rintro ⟨h3, h4, h5⟩
      rw [Bool.or_eq_true] at h5
      rcases h5 with h5 | h5
      · exact .inl ⟨h3, h4, h5⟩
      · exact .inr (of_decide_eq_true h5)
    · rintro (⟨h3, h4, h5⟩ | rfl)
      · exact ⟨h3, h4, by rw [h5]; rfl⟩
      · exact ⟨h1, h2, by simp⟩
theorem farN_head (S : Nat → Bool) (h : S 1 = true) : ∃ t, farN S = 1 :: t := by
  have h1 := (farN_mem S 1).2 ⟨by omega, by omega, h⟩
  have hs := farN_sorted S
  have hm := farN_mem S
  generalize farN S = F at *
  cases F with
  | nil => simp at h1
  | cons a t =>
    refine ⟨t, ?_⟩
    have ha := (hm a).1 (by simp)
    simp at h1
    rcases h1 with rfl | h1
    · rfl
    · have := (List.pairwise_cons.1 hs).1 1 h1; omega
theorem farN_nohead (S : Nat → Bool) (h : S 1 = false) : farN S = [] ∨ (farN S).getD 0 0 ≠ 1 := by
  have hm := farN_mem S
  generalize farN S = F at *
  cases F with
  | nil => exact .inl rfl
  | cons a t =>
    refine .inr (fun e => ?_)
    have ha := (hm a).1 (by simp)
    simp at e
    subst e
    rw [h] at ha
    exact absurd ha.2.2 Bool.false_ne_true
theorem farN_on (S : Nat → Bool) (h : S 1 = true) (h0 : S 257 = false) : farN (onS S 1) = ((farN S).drop 1).map (· - 1) := by
  obtain ⟨t, ht⟩ := farN_head S h
  have hs := farN_sorted S
  have hm := farN_mem S
  rw [ht] at hs hm
  rw [ht]
  show _ = t.map (· - 1)
  rw [List.pairwise_cons] at hs
  have hge : ∀ a ∈ t, 2 ≤ a := fun a ha => by have := hs.1 a ha; omega
  refine sorted_ext _ _ (farN_sorted _) ?_ (fun m => ?_)
  · rw [List.pairwise_map]
    exact List.Pairwise.imp_of_mem (fun {a b} ha hb hab => by have := hge a ha; omega) hs.2
  · rw [farN_mem, List.mem_map]
    unfold onS
    constructor
    · rintro ⟨h3, h4, h5⟩
      rw [if_neg (by omega)] at h5
      have h6 : m ≠ 256 := fun e => by subst e; rw [h0] at h5; cases h5
      have := (hm (m + 1)).2 ⟨by omega, by omega, h5⟩
      simp at this
      rcases this with h7 | h7
      · omega
      · exact ⟨m + 1, h7, by omega⟩
    · rintro ⟨a, ha, rfl⟩
      have h7 := (hm a).1 (by simp [ha])
      have := hge a ha
      refine ⟨by omega, by omega, ?_⟩
      rw [if_neg (by omega), show a - 1 + 1 = a from by omega]
      exact h7.2.2
theorem onS_succ (S : Nat → Bool) (k : Nat) : onS (onS S k) 1 = onS S (k + 1) := by
  funext n
  unfold onS
  by_cases h : n = 0
  · rw [if_pos h, if_pos h]
  · rw [if_neg h, if_neg h, if_neg (by omega)]
    congr 1
    omega
theorem lastS_farN (S : Nat → Bool) : lastS (farTo S 256) = if (farN S).length = 0 then 0 else (farN S).getD ((farN S).length - 1) 0 := by
  unfold lastS farN
  generalize farTo S 256 = F
  rw [List.length_map]
  split
  · rename_i h
    rw [List.length_eq_zero_iff] at h
    subst h; rfl
  · rename_i h
    rw [List.getLast?_eq_getElem?, List.getD_eq_getElem?_getD, List.getElem?_map]
theorem hasV_mem (cum : Nat) (S : Nat → Bool) (t : Nat) : hasV cum S t = (decide (aheadV 4294967296 cum t ≤ 0) || (farN S).any (fun z => decide ((z : Int) = aheadV 4294967296 cum t))) := by
  unfold hasV
  generalize aheadV 4294967296 cum t = n
  by_cases h : n ≤ 0
  · rw [decide_eq_true h]; rfl
  · rw [decide_eq_false h, Bool.false_or, Bool.false_or]
    obtain ⟨m, rfl⟩ : ∃ m : Nat, n = (m : Int) := ⟨n.toNat, by omega⟩
    rw [Int.toNat_natCast]
    rw [Bool.eq_iff_iff, Bool.and_eq_true, List.any_eq_true]
    constructor
    · rintro ⟨h1, h2⟩
      have := of_decide_eq_true h1
      exact ⟨m, (farN_mem S m).2 ⟨by omega, by omega, h2⟩, by simp⟩
    · rintro ⟨z, hz, h1⟩
      have := of_decide_eq_true h1
      obtain rfl : z = m := by omega
      have := (farN_mem S z).1 hz
      exact ⟨decide_eq_true (by omega), this.2.2⟩
/-- The runs, as the reference makes them. -/
def vN (F : List Stp) (i : Nat) : Nat := (F.map (·.1)).getD i 0
theorem vN_get (F : List Stp) (k : Nat) (hk : k < F.length) : vN F k = F[k].1 := by simp [vN, List.getD_eq_getElem?_getD, hk]
theorem take_stp (F : List Stp) (k : Nat) (hk : k < F.length) : F.take (k + 1) = F.take k ++ [F[k]] := by
  rw [List.take_add_one, List.getElem?_eq_getElem hk]; rfl
theorem lastS_take (F : List Stp) (k : Nat) (hk : k < F.length) : lastS (F.take (k + 1)) = vN F k := by rw [take_stp F k hk, lastS_snoc, vN_get F k hk]
theorem blk_take_succ (F : List Stp) (k : Nat) (hk : k < F.length) : blkP (F.take (k + 1)) = blkStep (blkP (F.take k)) (lastS (F.take k)) (vN F k) := by rw [take_stp F k hk, blkP_snoc, vN_get F k hk]
theorem runs_run (F : List Stp) (i : Nat) (hb : i = 0 ∨ vN F i ≠ vN F (i - 1) + 1) : ∀ d, i + d < F.length → (∀ t, i ≤ t → t < i + d → vN F (t + 1) = vN F t + 1) → blkP (F.take (i + d + 1)) = blkP (F.take i) ++ [(vN F i, vN F (i + d))] := by
  intro d
  induction d with
  | zero =>
    intro h _
    have hbg : (blkP (F.take i)).length = 0 ∨ vN F i ≠ lastS (F.take i) + 1 := by
      rcases hb with rfl | hb
      · exact .inl rfl
      · cases i with
        | zero => exact .inl rfl
        | succ j =>
          right
          rw [lastS_take F j (by omega)]
          simpa using hb
    rw [Nat.add_zero, blk_take_succ F i (by omega)]
    unfold blkStep
    rw [if_pos hbg]
    rfl
  | succ d ih =>
    intro h hall
    have hi := ih (by omega) (fun t h1 h2 => hall t h1 (by omega))
    rw [show i + (d + 1) + 1 = (i + d + 1) + 1 from by omega, blk_take_succ F (i + d + 1) (by omega), hi, lastS_take F (i + d) (by omega), hall (i + d) (by omega) (by omega)]
    unfold blkStep
    rw [if_neg (by simp), setLast_snoc, show i + (d + 1) = i + d + 1 from by omega, hall (i + d) (by omega) (by omega)]
theorem blkStep_len (ps : List (Nat × Nat)) (l n : Nat) : (blkStep ps l n).length ≤ ps.length + 1 := by
  unfold blkStep
  split
  · simp
  · rw [setLast_len]; omega
theorem blkP_len (F : List Stp) : (blkP F).length ≤ F.length := by
  rw [← List.reverse_reverse F]
  induction F.reverse with
  | nil => simp [blkP]
  | cons x t ih =>
    rw [List.reverse_cons, blkP_snoc]
    have := blkStep_len (blkP t.reverse) (lastS t.reverse) x.1
    simp at ih ⊢
    omega
theorem vN_bnd (S : Nat → Bool) (i : Nat) : vN (farTo S 256) i ≤ 256 := by
  by_cases h : i < (farTo S 256).length
  · rw [vN_get _ _ h]; exact ((farTo S 256)[i]).2.2
  · simp [vN, List.getD_eq_getElem?_getD, h]
end Go.Proofs.Ytlgpabdadnfbeaa
