/- Plain mathematics of sorting numbers that go round, each once. Nothing of the program. -/
import Derived.Test.YtpnfghchllipnabSerM
namespace Go.Proofs.Ytpnfghchllipnab
theorem upV_inj (M f x y : Nat) (hf : f < M) (hx : x < M) (hy : y < M) (h : upV M f x = upV M f y) : x = y := by
  unfold upV at h
  by_cases h1 : f ≤ x <;> by_cases h2 : f ≤ y
  · rw [show x + (M - f) = (x - f) + M from by omega, show y + (M - f) = (y - f) + M from by omega, Nat.add_mod_right, Nat.add_mod_right, Nat.mod_eq_of_lt (by omega), Nat.mod_eq_of_lt (by omega)] at h
    omega
  · rw [show x + (M - f) = (x - f) + M from by omega, Nat.add_mod_right, Nat.mod_eq_of_lt (by omega), Nat.mod_eq_of_lt (by omega)] at h
    omega
  · rw [show y + (M - f) = (y - f) + M from by omega, Nat.add_mod_right, Nat.mod_eq_of_lt (by omega), Nat.mod_eq_of_lt (by omega)] at h
    omega
  · rw [Nat.mod_eq_of_lt (by omega), Nat.mod_eq_of_lt (by omega)] at h
    omega
/-- In the order in which they are met, each once. -/
def Met (M f : Nat) (l : List Nat) : Prop := l.Pairwise fun x y => upV M f x < upV M f y
theorem met_uniq (M f : Nat) : ∀ l m : List Nat, Met M f l → Met M f m → (∀ x, x ∈ l ↔ x ∈ m) → l = m := by
  intro l
  induction l with
  | nil =>
    intro m _ _ h
    cases m with
    | nil => rfl
    | cons y m => exact absurd ((h y).2 (by simp)) (by simp)
  | cons x l ih =>
    intro m h1 h2 h
    cases m with
    | nil => exact absurd ((h x).1 (by simp)) (by simp)
    | cons y m =>
      obtain ⟨a1, b1⟩ := List.pairwise_cons.1 h1
      obtain ⟨a2, b2⟩ := List.pairwise_cons.1 h2
      have hxy : x = y := by
        rcases List.mem_cons.1 ((h x).1 (by simp)) with e | e
        · exact e
        · rcases List.mem_cons.1 ((h y).2 (by simp)) with e2 | e2
          · exact e2.symm
          · have := a1 y e2; have := a2 x e; omega
      subst hxy
      rw [ih m b1 b2 (fun z => ?_)]
      constructor
      · intro hz
        rcases List.mem_cons.1 ((h z).1 (by simp [hz])) with e | e
        · subst e; have := a1 z hz; omega
        · exact e
      · intro hz
        rcases List.mem_cons.1 ((h z).2 (by simp [hz])) with e | e
        · subst e; have := a2 z hz; omega
        · exact e
/-- One number more. -/
def insV (M f : Nat) (out : List Nat) (x : Nat) : List Nat :=
  if (out.dropWhile fun y => decide (upV M f y < upV M f x)).head? = some x then out
  else (out.takeWhile fun y => decide (upV M f y < upV M f x)) ++ x :: (out.dropWhile fun y => decide (upV M f y < upV M f x))
def sortV (M f : Nat) (zs : List Nat) : List Nat := zs.foldl (insV M f) []
theorem sortV_snoc (M f : Nat) (zs : List Nat) (x : Nat) : sortV M f (zs ++ [x]) = insV M f (sortV M f zs) x := by simp [sortV, List.foldl_append]
theorem insV_mem (M f : Nat) (out : List Nat) (x z : Nat) : z ∈ insV M f out x ↔ z ∈ out ∨ z = x := by
  unfold insV
  split
  · rename_i h
    constructor
    · exact .inl
    · rintro (h1 | rfl)
      · exact h1
      · have h2 : z ∈ out.dropWhile fun y => decide (upV M f y < upV M f z) := List.mem_of_mem_head? h
        exact (List.dropWhile_sublist _).subset h2
  · constructor
    · intro h
      rcases List.mem_append.1 h with h | h
      · exact .inl ((List.takeWhile_sublist _).subset h)
      · rcases List.mem_cons.1 h with h | h
        · exact .inr h
        · exact .inl ((List.dropWhile_sublist _).subset h)
    · rintro (h | h)
      · rw [← List.takeWhile_append_dropWhile (p := fun y => decide (upV M f y < upV M f x)) (l := out)] at h
        rcases List.mem_append.1 h with h | h
        · exact List.mem_append.2 (.inl h)
        · exact List.mem_append.2 (.inr (by simp [h]))
      · subst h; simp
theorem mem_takeWhile (p : Nat → Bool) (l : List Nat) (z : Nat) (h : z ∈ l.takeWhile p) : p z = true := by
  induction l with
  | nil => simp at h
  | cons x l ih =>
    rw [List.takeWhile_cons] at h
    split at h
    · rcases List.mem_cons.1 h with rfl | h
      · assumption
      · exact ih h
    · simp at h
theorem head_dropWhile (p : Nat → Bool) (l : List Nat) (z : Nat) (h : (l.dropWhile p).head? = some z) : p z = false := by
  induction l with
  | nil => simp at h
  | cons x l ih =>
    rw [List.dropWhile_cons] at h
    split at h
    · exact ih h
    · simp at h; subst h; simpa using ‹¬ p x = true›
theorem insV_met (M f : Nat) (out : List Nat) (x : Nat) (hf : f < M) (hx : x < M) (hb : ∀ z ∈ out, z < M) (h : Met M f out) : Met M f (insV M f out x) := by
  unfold insV
  split
  · exact h
  · rename_i hne
    have hsplit := List.takeWhile_append_dropWhile (p := fun y => decide (upV M f y < upV M f x)) (l := out)
    have h' := h
    unfold Met at h'
    rw [← hsplit] at h'
    obtain ⟨p1, p2, p3⟩ := List.pairwise_append.1 h'
    refine List.pairwise_append.2 ⟨p1, List.pairwise_cons.2 ⟨fun z hz => ?_, p2⟩, fun a ha b hb' => ?_⟩
    · cases hd : out.dropWhile fun y => decide (upV M f y < upV M f x) with
      | nil => rw [hd] at hz; simp at hz
      | cons y t =>
        have e1 := head_dropWhile _ out y (by rw [hd]; rfl)
        simp at e1
        have e2 : ¬ y = x := fun e => hne (by rw [hd]; simp [e])
        have hy : y ∈ out := (List.dropWhile_sublist _).subset (by rw [hd]; simp)
        have e3 : upV M f x ≠ upV M f y := fun e => e2 (upV_inj M f y x hf (hb y hy) hx e.symm)
        rw [hd] at hz p2
        rcases List.mem_cons.1 hz with rfl | hz
        · omega
        · have := (List.pairwise_cons.1 p2).1 z hz; omega
    · have e1 := mem_takeWhile _ out a ha
      simp at e1
      rcases List.mem_cons.1 hb' with rfl | hb'
      · exact e1
      · exact p3 a ha b hb'
theorem sortV_spec (M f : Nat) (zs : List Nat) (hf : f < M) : (∀ z ∈ zs, z < M) → Met M f (sortV M f zs) ∧ (∀ z, z ∈ sortV M f zs ↔ z ∈ zs) := by
  refine snoc_ind (P := fun zs => (∀ z ∈ zs, z < M) → Met M f (sortV M f zs) ∧ (∀ z, z ∈ sortV M f zs ↔ z ∈ zs)) ?_ ?_ zs
  · intro _
    exact ⟨List.Pairwise.nil, fun z => by simp [sortV]⟩
  · intro l x ih h
    obtain ⟨i1, i2⟩ := ih (fun z hz => h z (by simp [hz]))
    rw [sortV_snoc]
    refine ⟨insV_met M f _ x hf (h x (by simp)) (fun z hz => h z (by simp [(i2 z).1 hz])) i1, fun z => ?_⟩
    rw [insV_mem, i2]
    simp
theorem sortV_of (M f : Nat) (zs ys : List Nat) (hf : f < M) (hb : ∀ z ∈ zs, z < M) (hm : Met M f ys) (h : ∀ z, z ∈ ys ↔ z ∈ zs) : ys = sortV M f zs :=
  met_uniq M f ys _ hm (sortV_spec M f zs hf hb).1 (fun z => (h z).trans ((sortV_spec M f zs hf hb).2 z).symm)
theorem sortV_again (M f : Nat) (zs : List Nat) (hf : f < M) (hb : ∀ z ∈ zs, z < M) : sortV M f (sortV M f zs) = sortV M f zs := by
  obtain ⟨h1, h2⟩ := sortV_spec M f zs hf hb
  exact (sortV_of M f (sortV M f zs) (sortV M f zs) hf (fun z hz => hb z ((h2 z).1 hz)) h1 (fun z => Iff.rfl)).symm
theorem insV_len (M f : Nat) (out : List Nat) (x : Nat) : (insV M f out x).length ≤ out.length + 1 := by
  unfold insV
  split
  · omega
  · have h := congrArg List.length (List.takeWhile_append_dropWhile (p := fun y => decide (upV M f y < upV M f x)) (l := out))
    rw [List.length_append] at h
    rw [List.length_append, List.length_cons]
    omega
theorem sortV_len (M f : Nat) (zs : List Nat) : (sortV M f zs).length ≤ zs.length := by
  refine snoc_ind (P := fun zs => (sortV M f zs).length ≤ zs.length) (by simp [sortV]) (fun l x ih => ?_) zs
  rw [sortV_snoc]
  have := insV_len M f (sortV M f l) x
  simp
  omega
theorem met_nodup (M f : Nat) (l : List Nat) (h : Met M f l) : l.Nodup := h.imp fun {a b} hab e => by subst e; omega
theorem takeWhile_take (p : Nat → Bool) (l : List Nat) : ∀ k, k ≤ l.length → (∀ j, j < k → p (l.getD j 0) = true) → (k < l.length → p (l.getD k 0) = false) → l.takeWhile p = l.take k ∧ l.dropWhile p = l.drop k := by
  induction l with
  | nil => intro k hk _ _; simp at hk; subst hk; simp
  | cons x l ih =>
    intro k hk h1 h2
    cases k with
    | zero =>
      have := h2 (by simp)
      simp at this
      simp [this]
    | succ k =>
      have hx := h1 0 (by omega)
      simp at hx
      obtain ⟨e1, e2⟩ := ih k (by simpa using hk) (fun j hj => by have := h1 (j + 1) (by omega); simpa using this) (fun hl => by have := h2 (by simpa using hl); simpa using this)
      simp [hx, e1, e2]
/-- The reference's round: k is the first place that is not ahead of x. -/
theorem insV_at (M f : Nat) (out : List Nat) (x k : Nat) (hk : k ≤ out.length) (h1 : ∀ j, j < k → upV M f (out.getD j 0) < upV M f x) (h2 : k < out.length → ¬ upV M f (out.getD k 0) < upV M f x) :
    insV M f out x = if k < out.length ∧ out.getD k 0 = x then out else out.take k ++ (x :: out.drop k) := by
  obtain ⟨e1, e2⟩ := takeWhile_take (fun y => decide (upV M f y < upV M f x)) out k hk (fun j hj => by simpa using h1 j hj) (fun h => by simpa using h2 h)
  unfold insV
  rw [e1, e2]
  by_cases hl : k < out.length
  · have : (out.drop k).head? = some (out.getD k 0) := by simp [List.head?_drop, List.getD_eq_getElem?_getD, hl]
    rw [this]
    by_cases hx : out.getD k 0 = x
    · rw [if_pos (by rw [hx]), if_pos ⟨hl, hx⟩]
    · rw [if_neg (by simpa using hx), if_neg (fun h => hx h.2)]
  · rw [List.drop_eq_nil_of_le (by omega), if_neg (by simp), if_neg (fun h => hl h.1)]
/-- The numbers, each where it is met first. -/
def addOnce (l : List Nat) (x : Nat) : List Nat := if l.contains x then l else l ++ [x]
def onceV (zs : List Nat) (k : Nat) : List Nat := (zs.take k).foldl addOnce []
theorem onceV_succ (zs : List Nat) (k : Nat) (hk : k < zs.length) : onceV zs (k + 1) = addOnce (onceV zs k) (zs.getD k 0) := by
  unfold onceV
  rw [take_snocN zs k hk, List.foldl_append]
  rfl
theorem addOnce_mem (l : List Nat) (x z : Nat) : z ∈ addOnce l x ↔ z ∈ l ∨ z = x := by
  unfold addOnce
  split
  · rename_i h
    have h : x ∈ l := by simpa using h
    constructor
    · exact .inl
    · rintro (h1 | rfl)
      · exact h1
      · exact h
  · simp
theorem foldOnce (zs : List Nat) : ∀ l : List Nat, l.Nodup → (zs.foldl addOnce l).Nodup ∧ ∀ z, z ∈ zs.foldl addOnce l ↔ z ∈ l ∨ z ∈ zs := by
  induction zs with
  | nil => intro l h; exact ⟨h, fun z => by simp⟩
  | cons x zs ih =>
    intro l h
    have hn : (addOnce l x).Nodup := by
      unfold addOnce
      split
      · exact h
      · rename_i hx
        rw [List.nodup_append]
        refine ⟨h, by simp, fun a ha b hb e => ?_⟩
        simp at hb hx
        subst hb; subst e
        exact hx ha
    obtain ⟨i1, i2⟩ := ih _ hn
    refine ⟨i1, fun z => ?_⟩
    rw [List.foldl_cons, i2, addOnce_mem]
    simp [or_assoc]
theorem onceV_spec (zs : List Nat) : (onceV zs zs.length).Nodup ∧ ∀ z, z ∈ onceV zs zs.length ↔ z ∈ zs := by
  have := foldOnce zs [] List.nodup_nil
  unfold onceV
  rw [List.take_length]
  exact ⟨this.1, fun z => by rw [this.2]; simp⟩
theorem onceV_le (zs : List Nat) : ∀ k, (onceV zs k).length ≤ k := by
  intro k
  induction k with
  | zero => simp [onceV]
  | succ k ih =>
    by_cases hk : k < zs.length
    · rw [onceV_succ zs k hk]
      unfold addOnce
      split
      · omega
      · simp; omega
    · have : onceV zs (k + 1) = onceV zs k := by unfold onceV; rw [List.take_of_length_le (by omega), List.take_of_length_le (by omega)]
      rw [this]
      omega
theorem onceV_bnd (zs : List Nat) (M : Nat) (hM : 0 < M) (hb : ∀ i, zs.getD i 0 < M) (k : Nat) : ∀ i, (onceV zs k).getD i 0 < M := by
  have h : ∀ z ∈ onceV zs k, z < M := by
    intro z hz
    unfold onceV at hz
    have := ((foldOnce (zs.take k) [] List.nodup_nil).2 z).1 hz
    rcases this with h | h
    · simp at h
    · have h := List.mem_of_mem_take h
      obtain ⟨i, hi, rfl⟩ := List.getElem_of_mem h
      have := hb i
      simpa [List.getD_eq_getElem?_getD, hi] using this
  intro i
  by_cases hi : i < (onceV zs k).length
  · have := h _ (List.getElem_mem hi)
    simpa [List.getD_eq_getElem?_getD, hi] using this
  · simpa [List.getD_eq_getElem?_getD, hi] using hM
end Go.Proofs.Ytpnfghchllipnab
