/- The pieces of one packet, in whatever order: mathematics. -/
import Derived.Test.YtnbagloifbllbaaRsL
namespace Go.Proofs.Ytnbagloifbllbaa
open Go.RowKit
def tot (m : Nat) (g : Nat → Nat) : Nat := ((List.range m).map g).sum
theorem tot_succ (m : Nat) (g : Nat → Nat) : tot (m + 1) g = tot m g + g m := by
  unfold tot
  rw [List.range_succ, List.map_append, List.sum_append]
  simp
theorem tot_add (m : Nat) (f g : Nat → Nat) : tot m (fun k => f k + g k) = tot m f + tot m g := by
  induction m with
  | zero => rfl
  | succ m ih => rw [tot_succ, tot_succ, tot_succ, ih]; omega
theorem tot_congr (m : Nat) (f g : Nat → Nat) (h : ∀ k, k < m → f k = g k) : tot m f = tot m g := by
  induction m with
  | zero => rfl
  | succ m ih => rw [tot_succ, tot_succ, ih (fun k hk => h k (by omega)), h m (by omega)]
theorem tot_le (m : Nat) (f g : Nat → Nat) (h : ∀ k, k < m → f k ≤ g k) : tot m f ≤ tot m g := by
  induction m with
  | zero => exact Nat.le_refl _
  | succ m ih => rw [tot_succ, tot_succ]; have := ih (fun k hk => h k (by omega)); have := h m (by omega); omega
theorem tot_lt (m : Nat) (f g : Nat → Nat) (h : ∀ k, k < m → f k ≤ g k) (j : Nat) (hj : j < m) (hl : f j < g j) : tot m f < tot m g := by
  induction m with
  | zero => omega
  | succ m ih =>
    rw [tot_succ, tot_succ]
    by_cases e : j = m
    · subst e
      have := tot_le j f g (fun k hk => h k (by omega))
      omega
    · have := ih (fun k hk => h k (by omega)) (by omega)
      have := h m (by omega)
      omega
theorem tot_one (m k v : Nat) (hk : k < m) : tot m (fun j => if j = k then v else 0) = v := by
  induction m with
  | zero => omega
  | succ m ih =>
    rw [tot_succ]
    by_cases e : k = m
    · subst e
      rw [if_pos rfl, tot_congr k _ (fun _ => 0) (fun j hj => if_neg (by omega))]
      have : ∀ m, tot m (fun _ => 0) = 0 := fun m => by
        induction m with
        | zero => rfl
        | succ m ih => rw [tot_succ, ih]
      rw [this]
      omega
    · rw [ih (by omega), if_neg (by omega)]
      rfl
theorem sum_ks (K : Nat) (f : Nat → Nat) : ∀ ks : List Nat, ks.Nodup → (∀ k ∈ ks, k < K) → (ks.map f).sum = tot K (fun k => if k ∈ ks then f k else 0) := by
  intro ks
  induction ks with
  | nil =>
    intro _ _
    have : ∀ m, tot m (fun k => if k ∈ ([] : List Nat) then f k else 0) = 0 := fun m => by
      induction m with
      | zero => rfl
      | succ m ih => rw [tot_succ, ih]; simp
    rw [this]
    rfl
  | cons k ks ih =>
    intro hn hb
    rw [List.nodup_cons] at hn
    rw [List.map_cons, List.sum_cons, ih hn.2 (fun j hj => hb j (List.mem_cons_of_mem _ hj)), ← tot_one K k (f k) (hb k List.mem_cons_self), ← tot_add]
    refine tot_congr K _ _ (fun j _ => ?_)
    by_cases hjk : j = k
    · subst hjk
      rw [if_pos rfl, if_neg hn.1, if_pos List.mem_cons_self]
      simp
    · rw [if_neg hjk]
      by_cases hj : j ∈ ks
      · rw [if_pos hj, if_pos (List.mem_cons_of_mem _ hj)]
        simp
      · rw [if_neg hj, if_neg (fun e => by rcases List.mem_cons.1 e with e | e; exact hjk e; exact hj e)]
theorem sum_all {K : Nat} {f : Nat → Nat} {ks : List Nat} (hn : ks.Nodup) (hb : ∀ k ∈ ks, k < K) (hf : ∀ k, k < K → 0 < f k) : (ks.map f).sum ≤ tot K f ∧ ((ks.map f).sum = tot K f ↔ ∀ k, k < K → k ∈ ks) := by
  have hle : ∀ k, k < K → (if k ∈ ks then f k else 0) ≤ f k := fun k _ => by split <;> omega
  rw [sum_ks K f ks hn hb]
  refine ⟨tot_le K _ _ hle, ⟨fun h k hk => ?_, fun h => tot_congr K _ _ (fun k hk => if_pos (h k hk))⟩⟩
  by_cases hm : k ∈ ks
  · exact hm
  · have := tot_lt K _ _ hle k hk (by rw [if_neg hm]; exact hf k hk)
    omega
theorem all_iff {K : Nat} {ks : List Nat} (hn : ks.Nodup) (hb : ∀ k ∈ ks, k < K) : ks.length ≤ K ∧ (ks.length = K ↔ ∀ k, k < K → k ∈ ks) := by
  have h := sum_all (f := fun _ => 1) hn hb (fun _ _ => Nat.one_pos)
  have e1 : ∀ m, tot m (fun _ => 1) = m := fun m => by
    induction m with
    | zero => rfl
    | succ m ih => rw [tot_succ, ih]
  have e2 : ∀ l : List Nat, (l.map (fun _ => 1)).sum = l.length := fun l => by
    induction l with
    | nil => rfl
    | cons x l ih => rw [List.map_cons, List.sum_cons, ih, List.length_cons]; omega
  rw [e1, e2] at h
  exact h
/-- K pieces of the bytes zs. -/
structure Fam (K : Nat) (P : Nat → Nat) (zs : List Nat) (nm : Nm) (D : Nat → Pc) : Prop where
  k1 : 1 ≤ K
  p0 : P 0 = 0
  pK : P K = zs.length
  small : zs.length ≤ 100000
  inc : ∀ j, j < K → P j < P (j + 1)
  of : ∀ j, j < K → (D j).of = (P j : Int)
  mo : ∀ j, j < K → (D j).mo = decide (j + 1 < K)
  bs : ∀ j, j < K → (D j).bs = (zs.drop (P j)).take (P (j + 1) - P j)
  nm : ∀ j, j < K → ((D j).sr, (D j).ds, (D j).pr, (D j).id) = nm
section
variable {K : Nat} {P : Nat → Nat} {zs : List Nat} {nm : Nm} {D : Nat → Pc}
theorem Fam.mono (h : Fam K P zs nm D) : ∀ {i j : Nat}, i ≤ j → j ≤ K → P i ≤ P j := by
  intro i j
  induction j with
  | zero => intro hi _; obtain rfl : i = 0 := (by omega); exact Nat.le_refl _
  | succ j ih =>
    intro hi hj
    by_cases e : i = j + 1
    · subst e; exact Nat.le_refl _
    · have := ih (by omega) (by omega)
      have := h.inc j (by omega)
      omega
theorem Fam.le (h : Fam K P zs nm D) {j : Nat} (hj : j ≤ K) : P j ≤ zs.length := by rw [← h.pK]; exact h.mono hj (Nat.le_refl _)
theorem Fam.len (h : Fam K P zs nm D) {j : Nat} (hj : j < K) : (D j).bs.length = P (j + 1) - P j := by
  rw [h.bs j hj, List.length_take, List.length_drop]
  have := h.le (j := j + 1) (by omega)
  omega
theorem Fam.bound (h : Fam K P zs nm D) {j : Nat} (hj : j < K) : boundD (D j) := by
  have h1 := h.le (j := j + 1) (by omega)
  have h2 := h.inc j hj
  have h3 := h.small
  exact ⟨P j, h.of j hj, by omega, by rw [h.len hj]; omega, by rw [h.len hj]; omega⟩
theorem Fam.inj (h : Fam K P zs nm D) {i j : Nat} (hi : i < K) (hj : j < K) (e : P i = P j) : i = j := by
  rcases Nat.lt_trichotomy i j with h1 | h1 | h1
  · have := h.mono (i := i + 1) (j := j) (by omega) (by omega); have := h.inc i hi; omega
  · exact h1
  · have := h.mono (i := j + 1) (j := i) (by omega) (by omega); have := h.inc j hj; omega
theorem Fam.same (h : Fam K P zs nm D) {k j : Nat} (hk : k < K) (hj : j < K) : sameD (D k) (D j) = decide (k = j) := by
  unfold sameD
  by_cases e : k = j
  · subst e; simp
  · have : ¬ (D k).of = (D j).of := by
      rw [h.of k hk, h.of j hj]
      intro e2
      exact e (h.inj hk hj (by omega))
    simp [e, this]
theorem Fam.anyS (h : Fam K P zs nm D) {k : Nat} (hk : k < K) (ks : List Nat) (hb : ∀ j ∈ ks, j < K) : (ks.map D).any (sameD (D k)) = decide (k ∈ ks) := by
  rw [List.any_map]
  by_cases hm : k ∈ ks
  · rw [decide_eq_true hm, List.any_eq_true]
    exact ⟨k, hm, by simp [Function.comp, h.same hk hk]⟩
  · rw [decide_eq_false hm, List.any_eq_false]
    intro j hj
    have : ¬ k = j := fun e => hm (e ▸ hj)
    simp [Function.comp, h.same hk (hb j hj), this]
theorem Fam.clash (h : Fam K P zs nm D) {k j : Nat} (hk : k < K) (hj : j < K) (hne : j ≠ k) : clashD (D k) (D j) = false := by
  unfold clashD clashB
  rw [h.of k hk, h.of j hj, h.len hk, h.len hj, h.mo k hk, h.mo j hj, Int.toNat_natCast, Int.toNat_natCast]
  have ik := h.inc k hk
  have ij := h.inc j hj
  have lk := h.mono (i := k + 1) (j := K) (by omega) (Nat.le_refl _)
  have lj := h.mono (i := j + 1) (j := K) (by omega) (Nat.le_refl _)
  have ek : k + 1 = K → P (k + 1) = P K := fun e => by rw [e]
  have ej : j + 1 = K → P (j + 1) = P K := fun e => by rw [e]
  rcases Nat.lt_or_ge k j with h1 | h1
  · have := h.mono (i := k + 1) (j := j) (by omega) (by omega)
    simp only [Bool.or_eq_false_iff, Bool.and_eq_false_iff, decide_eq_false_iff_not, Bool.not_eq_false', decide_eq_true_eq]
    refine ⟨.inr (by omega), ?_, ?_⟩
    · exact .inr (by omega)
    · exact .inl (by omega)
  · have := h.mono (i := j + 1) (j := k) (by omega) (by omega)
    simp only [Bool.or_eq_false_iff, Bool.and_eq_false_iff, decide_eq_false_iff_not, Bool.not_eq_false', decide_eq_true_eq]
    refine ⟨.inl (by omega), ?_, ?_⟩
    · exact .inl (by omega)
    · exact .inr (by omega)
theorem Fam.tele (h : Fam K P zs nm D) : ∀ m, m ≤ K → tot m (fun k => P (k + 1) - P k) = P m := by
  intro m
  induction m with
  | zero => intro _; rw [h.p0]; rfl
  | succ m ih => intro hm; rw [tot_succ, ih (by omega)]; have := h.inc m (by omega); omega
theorem Fam.sum (h : Fam K P zs nm D) {ks : List Nat} (hn : ks.Nodup) (hb : ∀ k ∈ ks, k < K) : sumD (ks.map D) ≤ zs.length ∧ (sumD (ks.map D) = zs.length ↔ ks.length = K) := by
  have e : sumD (ks.map D) = (ks.map (fun k => P (k + 1) - P k)).sum := by
    unfold sumD
    rw [List.map_map]
    congr 1
    exact List.map_congr_left (fun k hk => h.len (hb k hk))
  have h1 := sum_all (f := fun k => P (k + 1) - P k) hn hb (fun k hk => by have := h.inc k hk; omega)
  rw [h.tele K (Nat.le_refl _), h.pK, ← (all_iff hn hb).2] at h1
  rw [e]
  exact h1
theorem Fam.last (h : Fam K P zs nm D) {j : Nat} (hj : j < K) (hm : (D j).mo = false) : (D j).of + ((D j).bs.length : Int) = (zs.length : Int) := by
  rw [h.mo j hj] at hm
  have hm : ¬ j + 1 < K := by simpa using hm
  have hjK : j + 1 = K := by omega
  have h1 := h.of j hj
  have h2 := h.len hj
  have h3 := h.inc j hj
  have h4 := h.pK
  rw [hjK] at h2 h3
  rw [h1, h2]
  omega
theorem Fam.whole (h : Fam K P zs nm D) {ks : List Nat} (hn : ks.Nodup) (hb : ∀ k ∈ ks, k < K) (hw : WholeD (ks.map D)) : ks.length = K := by
  obtain ⟨q, hq, hm, hs⟩ := hw
  obtain ⟨j, hj, rfl⟩ := List.mem_map.1 hq
  rw [h.last (hb j hj) hm] at hs
  exact (h.sum hn hb).2.1 (by omega)
theorem Fam.notWhole (h : Fam K P zs nm D) {ks : List Nat} (hn : ks.Nodup) (hb : ∀ k ∈ ks, k < K) (hw : NotD (ks.map D)) : ks.length ≠ K := by
  intro hl
  have hall := (all_iff hn hb).2.1 hl
  have hsum := (h.sum hn hb).2.2 hl
  have hk1 := h.k1
  rcases hw with hw | ⟨q, hq, hm, hs⟩
  · have := hw (D (K - 1)) (List.mem_map.2 ⟨K - 1, hall (K - 1) (by omega), rfl⟩)
    rw [h.mo (K - 1) (by omega)] at this
    have : K - 1 + 1 < K := by simpa using this
    omega
  · obtain ⟨j, hj, rfl⟩ := List.mem_map.1 hq
    rw [h.last (hb j hj) hm, hsum] at hs
    exact hs rfl
theorem Fam.fit (h : Fam K P zs nm D) {ks : List Nat} (hn : ks.Nodup) (hb : ∀ k ∈ ks, k < K) (hw : WholeD (ks.map D)) : ∀ q ∈ ks.map D, q.of + (q.bs.length : Int) ≤ (sumD (ks.map D) : Int) := by
  intro q hq
  rw [(h.sum hn hb).2.2 (h.whole hn hb hw)]
  obtain ⟨j, hj, rfl⟩ := List.mem_map.1 hq
  rw [h.of j (hb j hj), h.len (hb j hj)]
  have := h.le (j := j + 1) (by have := hb j hj; omega)
  have := h.inc j (hb j hj)
  omega
theorem headD_one (L : List Pc) (d : Pc) (hall : ∀ q ∈ L, q.of = 0 → q = d) (hex : d ∈ L) (hd : d.of = 0) : headD L = d := by
  have key : ∀ (L : List Pc) (z : Pc), (∀ q ∈ L, q.of = 0 → q = d) → (z = d ∨ d ∈ L) → L.foldl (fun z q => if q.of = 0 then q else z) z = d := by
    intro L
    induction L with
    | nil => intro z _ h; rcases h with h | h; exact h; cases h
    | cons q L ih =>
      intro z ha h
      rw [List.foldl_cons]
      refine ih _ (fun x hx => ha x (List.mem_cons_of_mem _ hx)) ?_
      by_cases h0 : q.of = 0
      · rw [if_pos h0]
        exact .inl (ha q List.mem_cons_self h0)
      · rw [if_neg h0]
        rcases h with h | h
        · exact .inl h
        · rcases List.mem_cons.1 h with rfl | h
          · exact absurd hd h0
          · exact .inr h
  exact key L zeroD hall (.inr hex)
theorem Fam.head (h : Fam K P zs nm D) {ks : List Nat} (hn : ks.Nodup) (hb : ∀ k ∈ ks, k < K) (hl : ks.length = K) : headD (ks.map D) = D 0 := by
  have hall := (all_iff hn hb).2.1 hl
  have hk1 := h.k1
  refine headD_one _ _ (fun q hq h0 => ?_) (List.mem_map.2 ⟨0, hall 0 (by omega), rfl⟩) (by rw [h.of 0 (by omega), h.p0]; rfl)
  obtain ⟨j, hj, rfl⟩ := List.mem_map.1 hq
  rw [h.of j (hb j hj)] at h0
  have : j = 0 := h.inj (hb j hj) (by omega) (by rw [h.p0]; omega)
  rw [this]
theorem Fam.lays (h : Fam K P zs nm D) : ∀ ks : List Nat, (∀ k ∈ ks, k < K) → ∀ b : List Nat, b.length = zs.length →
    ((ks.map D).foldl (fun b q => lay b q.of.toNat q.bs) b).length = zs.length ∧ ∀ i, ((ks.map D).foldl (fun b q => lay b q.of.toNat q.bs) b).getD i 0 = if (∃ k ∈ ks, P k ≤ i ∧ i < P (k + 1)) then zs.getD i 0 else b.getD i 0 := by
  intro ks
  induction ks with
  | nil => intro _ b hb; exact ⟨hb, fun i => by simp⟩
  | cons k ks ih =>
    intro hk b hb
    have hkK := hk k List.mem_cons_self
    have hle := h.le (j := k + 1) (by omega)
    have hin := h.inc k hkK
    have hlen := h.len hkK
    have hof : (D k).of.toNat = P k := by rw [h.of k hkK]; rfl
    have hfit : P k + (D k).bs.length ≤ b.length := by rw [hlen, hb]; omega
    rw [List.map_cons, List.foldl_cons, hof]
    obtain ⟨h1, h2⟩ := ih (fun j hj => hk j (List.mem_cons_of_mem _ hj)) (lay b (P k) (D k).bs) (by rw [lay_len _ _ _ hfit]; exact hb)
    refine ⟨h1, fun i => ?_⟩
    rw [h2 i]
    by_cases he : ∃ j ∈ ks, P j ≤ i ∧ i < P (j + 1)
    · rw [if_pos he, if_pos]
      obtain ⟨j, hj, hr⟩ := he
      exact ⟨j, List.mem_cons_of_mem _ hj, hr⟩
    · rw [if_neg he, lay_getD _ _ _ hfit]
      by_cases hi : P k ≤ i ∧ i < P k + (D k).bs.length
      · have hi2 : P k ≤ i ∧ i < P (k + 1) := by rw [hlen] at hi; omega
        rw [if_pos hi, if_pos ⟨k, List.mem_cons_self, hi2⟩, h.bs k hkK]
        simp only [List.getD_eq_getElem?_getD]
        rw [List.getElem?_take_of_lt (by omega), List.getElem?_drop, show P k + (i - P k) = i by omega]
      · rw [if_neg hi, if_neg]
        rintro ⟨j, hj, hr⟩
        rcases List.mem_cons.1 hj with rfl | hj
        · exact hi (by rw [hlen]; omega)
        · exact he ⟨j, hj, hr⟩
theorem Fam.at (h : Fam K P zs nm D) (i : Nat) (hi : i < zs.length) : ∃ k, k < K ∧ P k ≤ i ∧ i < P (k + 1) := by
  have key : ∀ m, m ≤ K → i < P m → ∃ k, k < m ∧ P k ≤ i ∧ i < P (k + 1) := by
    intro m
    induction m with
    | zero => intro _ h0; rw [h.p0] at h0; omega
    | succ m ih =>
      intro hm hl
      by_cases hi : i < P m
      · obtain ⟨k, hk, hr⟩ := ih (by omega) hi
        exact ⟨k, by omega, hr⟩
      · exact ⟨m, by omega, by omega, hl⟩
  exact key K (Nat.le_refl _) (by rw [h.pK]; exact hi)
theorem Fam.body (h : Fam K P zs nm D) {ks : List Nat} (hn : ks.Nodup) (hb : ∀ k ∈ ks, k < K) (hl : ks.length = K) : bodyD zs.length (ks.map D) = zs := by
  have hall := (all_iff hn hb).2.1 hl
  obtain ⟨h1, h2⟩ := h.lays ks hb (List.replicate zs.length 0) (by simp)
  unfold bodyD
  apply List.ext_getElem?
  intro i
  by_cases hi : i < zs.length
  · have h3 := h2 i
    rw [if_pos (by obtain ⟨k, hk, hr⟩ := h.at i hi; exact ⟨k, hall k hk, hr⟩), List.getD_eq_getElem?_getD, List.getD_eq_getElem?_getD] at h3
    rw [List.getElem?_eq_getElem (by omega), List.getElem?_eq_getElem hi] at h3 ⊢
    simpa using h3
  · rw [List.getElem?_eq_none (by omega), List.getElem?_eq_none (by omega)]
end
end Go.Proofs.Ytnbagloifbllbaa
