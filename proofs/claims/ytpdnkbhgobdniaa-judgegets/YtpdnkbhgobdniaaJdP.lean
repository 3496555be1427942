/- Mathematics of JudgeTells and JudgeOwes: the books are what the reference counts out of the marks. -/
import Derived.Test.YtpdnkbhgobdniaaJdO
import Derived.Test.YtpdnkbhgobdniaaJdEM
namespace Go.Proofs.Ytpdnkbhgobdniaa
open Go.RowKit Go.MapKept Go.Maps
def nxt (s : Nat) (y : Mg) : Bool := !y.free && decide (y.st = s)
def lse (k : Cn) (y : Mg) : Bool := y.free && decide (y.cn = k)
/-- A side's book (p) and the other's (po), held against what is left of what the side sent. -/
structure St (L : List Mg) (p po : Bp) : Prop where
  owed : p.owed = L.length
  loose : ∀ k, p.loose k = (L.countP (lse k) : Nat)
  pos : ∀ s, 0 ≤ po.told s
  le : ∀ s, (po.told s).toNat ≤ (p.rows s).length
  row : ∀ s, L.filter (nxt s) = (p.rows s).drop (po.told s).toNat
theorem St.congr {L : List Mg} {p po p' po' : Bp} (h : St L p po) (h1 : p'.owed = p.owed) (h2 : p'.loose = p.loose) (h3 : p'.rows = p.rows) (h4 : po'.told = po.told) : St L p' po' :=
  ⟨by rw [h1]; exact h.owed, by rw [h2]; exact h.loose, by rw [h4]; exact h.pos, by rw [h3, h4]; exact h.le, by rw [h3, h4]; exact h.row⟩
theorem St.push {L : List Mg} {p po : Bp} (h : St L p po) (m : Mg) : St (L ++ [m]) (p.push m) po := by
  unfold Bp.push
  by_cases hf : m.free = true
  · rw [if_pos hf]
    refine ⟨?_, fun k => ?_, h.pos, h.le, fun s => ?_⟩
    · show p.owed + 1 = _
      rw [h.owed]; simp
    · show (if k = m.cn then p.loose k + 1 else p.loose k) = _
      rw [List.countP_append, h.loose]
      by_cases hk : k = m.cn
      · rw [if_pos hk]; simp [lse, hf, hk]
      · rw [if_neg hk]
        have : lse k m = false := by unfold lse; simp [Ne.symm hk]
        simp [this]
    · show _ = (p.rows s).drop _
      rw [List.filter_append, h.row]
      simp [nxt, hf]
  · rw [if_neg hf]
    have hf' : m.free = false := by simpa using hf
    refine ⟨?_, fun k => ?_, h.pos, fun s => ?_, fun s => ?_⟩
    · show p.owed + 1 = _
      rw [h.owed]; simp
    · show p.loose k = _
      rw [List.countP_append, h.loose]
      simp [lse, hf']
    · show _ ≤ (if s = m.st then p.rows s ++ [m] else p.rows s).length
      have := h.le s
      by_cases hs : s = m.st
      · rw [if_pos hs, List.length_append]; omega
      · rw [if_neg hs]; exact this
    · show _ = (if s = m.st then p.rows s ++ [m] else p.rows s).drop _
      rw [List.filter_append, h.row]
      by_cases hs : s = m.st
      · rw [if_pos hs, List.drop_append_of_le_length (h.le s)]
        simp [nxt, hf', hs]
      · rw [if_neg hs]
        have : nxt s m = false := by unfold nxt; simp [Ne.symm hs]
        simp [this]
theorem fits_free {m : Mg} (hf : m.free = true) (y : Mg) : fitsJ m y = lse m.cn y := by
  unfold fitsJ lse alkJ Mg.cn
  rw [hf]
  cases hy : y.free
  · simp
  · simp only [decide_true, Bool.true_and, Bool.not_true, Bool.false_or]
    by_cases h1 : y.st = m.st <;> by_cases h2 : y.pp = m.pp <;> by_cases h3 : y.zs = m.zs <;> simp [h1, h2, h3]
theorem fits_next {m : Mg} (hf : m.free = false) (y : Mg) : fitsJ m y = nxt m.st y := by
  unfold fitsJ nxt
  rw [hf]
  cases hy : y.free <;> simp
theorem filter_eraseP_off {p r : Mg → Bool} (hd : ∀ y, p y = true → r y = false) : ∀ L : List Mg, (L.eraseP p).filter r = L.filter r
  | [] => rfl
  | y :: L => by
    by_cases hy : p y = true
    · rw [List.eraseP_cons_of_pos hy, List.filter_cons_of_neg (by simp [hd y hy])]
    · rw [List.eraseP_cons_of_neg hy]
      by_cases hr : r y = true
      · rw [List.filter_cons_of_pos hr, List.filter_cons_of_pos hr, filter_eraseP_off hd L]
      · rw [List.filter_cons_of_neg hr, List.filter_cons_of_neg hr, filter_eraseP_off hd L]
theorem filter_eraseP_on (p : Mg → Bool) : ∀ L : List Mg, (L.eraseP p).filter p = (L.filter p).drop 1
  | [] => rfl
  | y :: L => by
    by_cases hy : p y = true
    · rw [List.eraseP_cons_of_pos hy, List.filter_cons_of_pos hy]; rfl
    · rw [List.eraseP_cons_of_neg hy, List.filter_cons_of_neg hy, List.filter_cons_of_neg hy, filter_eraseP_on p L]
theorem any_of_filter {p : Mg → Bool} {L : List Mg} {y : Mg} (h : y ∈ L.filter p) : L.any p = true := by
  rw [List.mem_filter] at h
  exact List.any_eq_true.2 ⟨y, h.1, h.2⟩
theorem len_eraseP {p : Mg → Bool} {L : List Mg} (h : L.any p = true) : (L.eraseP p).length + 1 = L.length := by
  obtain ⟨y, hy, hp⟩ := List.any_eq_true.1 h
  have h1 := List.length_eraseP_of_mem hy hp
  have h2 := List.length_pos_of_mem hy
  omega
theorem St.hitFree {L : List Mg} {p po : Bp} (h : St L p po) {m : Mg} (hf : m.free = true) : (p.loose m.cn = 0 ↔ ¬ L.any (fitsJ m) = true) := by
  rw [h.loose, show fitsJ m = lse m.cn from funext (fits_free hf)]
  constructor
  · intro h0 ha
    obtain ⟨y, hy, hp⟩ := List.any_eq_true.1 ha
    have := List.countP_pos_iff.2 ⟨y, hy, hp⟩
    omega
  · intro hn
    by_cases hz : L.countP (lse m.cn) = 0
    · omega
    · obtain ⟨y, hy, hp⟩ := List.countP_pos_iff.1 (Nat.pos_of_ne_zero hz)
      exact absurd (List.any_eq_true.2 ⟨y, hy, hp⟩) hn
theorem St.gone {L : List Mg} {p po : Bp} (h : St L p po) {m : Mg} (hf : m.free = true) (hh : L.any (fitsJ m) = true) : St (L.eraseP (fitsJ m)) (p.gone m.cn) po := by
  have hl := len_eraseP hh
  refine ⟨?_, fun k => ?_, h.pos, h.le, fun s => ?_⟩
  · show p.owed - 1 = _
    rw [h.owed]; omega
  · show (if k = m.cn then p.loose k - 1 else p.loose k) = _
    rw [show fitsJ m = lse m.cn from funext (fits_free hf)] at hl ⊢
    rw [h.loose, List.countP_eq_length_filter, List.countP_eq_length_filter]
    by_cases hk : k = m.cn
    · rw [if_pos hk, hk, filter_eraseP_on, List.length_drop]
      have hp : 0 < (L.filter (lse m.cn)).length := by
        rw [← List.countP_eq_length_filter]
        rw [show fitsJ m = lse m.cn from funext (fits_free hf)] at hh
        obtain ⟨y, hy, hp⟩ := List.any_eq_true.1 hh
        exact List.countP_pos_iff.2 ⟨y, hy, hp⟩
      omega
    · rw [if_neg hk, filter_eraseP_off]
      intro y hy
      unfold lse at hy ⊢
      simp only [Bool.and_eq_true, decide_eq_true_eq] at hy
      rw [hy.2]
      simp [Ne.symm hk]
  · show _ = (p.rows s).drop _
    rw [filter_eraseP_off, h.row]
    intro y hy
    rw [fits_free hf] at hy
    unfold lse at hy
    unfold nxt
    simp only [Bool.and_eq_true] at hy
    simp [hy.1]
theorem St.hitNext {L : List Mg} {p po : Bp} (h : St L p po) {m : Mg} (hf : m.free = false) {y : Mg} (hy : (p.rows m.st)[(po.told m.st).toNat]? = some y) : L.any (fitsJ m) = true := by
  rw [show fitsJ m = nxt m.st from funext (fits_next hf)]
  refine any_of_filter (y := y) ?_
  rw [h.row]
  exact List.mem_of_getElem? (i := 0) (by rw [List.getElem?_drop]; exact hy)
theorem St.tell {L : List Mg} {p po : Bp} (h : St L p po) {m : Mg} (hf : m.free = false) {y : Mg} (hy : (p.rows m.st)[(po.told m.st).toNat]? = some y) : St (L.eraseP (fitsJ m)) p.less (po.tell m.st) := by
  have hl := len_eraseP (h.hitNext hf hy)
  have hlt := (List.getElem?_eq_some_iff.1 hy).1
  rw [show fitsJ m = nxt m.st from funext (fits_next hf)] at hl ⊢
  refine ⟨?_, fun k => ?_, fun s => ?_, fun s => ?_, fun s => ?_⟩
  · show p.owed - 1 = _
    rw [h.owed]; omega
  · show p.loose k = _
    rw [h.loose, List.countP_eq_length_filter, List.countP_eq_length_filter, filter_eraseP_off]
    intro z hz
    unfold nxt at hz
    unfold lse
    simp only [Bool.and_eq_true, Bool.not_eq_true'] at hz
    simp [hz.1]
  · show 0 ≤ (if s = m.st then po.told s + 1 else po.told s)
    have := h.pos s
    split <;> omega
  · show (if s = m.st then po.told s + 1 else po.told s).toNat ≤ (p.rows s).length
    have h1 := h.le s
    have h2 := h.pos s
    by_cases hs : s = m.st
    · rw [if_pos hs]; rw [hs] at h1 h2 ⊢; omega
    · rw [if_neg hs]; exact h1
  · show _ = (p.rows s).drop (if s = m.st then po.told s + 1 else po.told s).toNat
    have h2 := h.pos s
    by_cases hs : s = m.st
    · rw [if_pos hs, hs, filter_eraseP_on, h.row, List.drop_drop]
      rw [hs] at h2
      congr 1
      omega
    · rw [if_neg hs, filter_eraseP_off, h.row]
      intro z hz
      unfold nxt at hz ⊢
      simp only [Bool.and_eq_true, decide_eq_true_eq] at hz
      rw [hz.2]
      simp [Ne.symm hs]
theorem gotR_free {m : Mg} (hf : m.free = true) : ∀ L : List Mg, gotR m L = if L.any (fitsJ m) = true then 0 else 16
  | [] => rfl
  | y :: L => by
    rw [gotR, gotR_free hf L, List.any_cons]
    by_cases h1 : y.free = m.free ∧ y.st = m.st
    · rw [if_pos h1]
      by_cases h2 : alkJ y m = true
      · rw [if_pos h2, if_pos]
        unfold fitsJ
        simp [h1.1, h1.2, h2]
      · rw [if_neg h2, if_pos hf]
        have : fitsJ m y = false := by unfold fitsJ; simp [h1.1, h1.2, hf, h2]
        rw [this, Bool.false_or]
    · rw [if_neg h1]
      have : fitsJ m y = false := by
        unfold fitsJ
        by_cases h2 : y.free = m.free
        · have h3 : ¬ y.st = m.st := fun h => h1 ⟨h2, h⟩
          simp [h3]
        · simp [h2]
      rw [this, Bool.false_or]
theorem gotR_next {m : Mg} (hf : m.free = false) : ∀ L : List Mg, gotR m L = match (L.filter (nxt m.st))[0]? with | none => 16 | some y => if alikeJ y m = true then 0 else 4
  | [] => rfl
  | y :: L => by
    rw [gotR, gotR_next hf L]
    by_cases h1 : y.free = m.free ∧ y.st = m.st
    · have hn : nxt m.st y = true := by unfold nxt; simp [h1.1, h1.2, hf]
      rw [if_pos h1, List.filter_cons_of_pos hn]
      have ha : alkJ y m = alikeJ y m := by unfold alkJ alikeJ; simp [h1.1, h1.2]
      rw [ha, if_neg (show ¬ m.free = true by simp [hf])]
      rfl
    · have hn : ¬ nxt m.st y = true := by
        unfold nxt
        intro h
        simp only [Bool.and_eq_true, Bool.not_eq_true', decide_eq_true_eq] at h
        exact h1 ⟨by rw [h.1, hf], h.2⟩
      rw [if_neg h1, List.filter_cons_of_neg hn]
end Go.Proofs.Ytpdnkbhgobdniaa
