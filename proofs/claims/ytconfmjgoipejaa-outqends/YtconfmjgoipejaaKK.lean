/- outq: OutqCuts' first loop: messages pushed, and kept. -/
import Derived.Test.YtconfmjgoipejaaKJ
import Derived.Test.YtconfmjgoipejaaKI
namespace Go.Proofs.Ytconfmjgoipejaa
/-- A message as data. -/
structure Wm where
  st : Nat
  ss : Nat
  pp : Nat
  fr : Bool
  zs : List Nat
def pcsW (c0 n0 sz : Nat) (m : Wm) : List Pc := markL (cntN m.zs.length sz) ((List.range (cntN m.zs.length sz)).map (newPc c0 n0 (nmF m.fr) m.st m.ss m.pp sz m.zs))
theorem markL_len (n : Nat) (ps : List Pc) : (markL n ps).length = ps.length := by
  unfold markL
  rw [List.length_modify, List.length_modify]
theorem pcsW_len (c0 n0 sz : Nat) (m : Wm) : (pcsW c0 n0 sz m).length = cntN m.zs.length sz := by
  unfold pcsW
  rw [markL_len]
  simp
def cutsW (c0 sz : Nat) : Nat → List Wm → List Pc
  | _, [] => []
  | n0, m :: W => pcsW c0 n0 sz m ++ cutsW c0 sz (n0 + cntN m.zs.length sz) W
theorem cutsW_app (c0 sz : Nat) (m : Wm) : ∀ (W : List Wm) (n0 : Nat), cutsW c0 sz n0 (W ++ [m]) = cutsW c0 sz n0 W ++ pcsW c0 (n0 + (cutsW c0 sz n0 W).length) sz m
  | [], n0 => by simp [cutsW]
  | x :: W, n0 => by
    rw [List.cons_append]
    unfold cutsW
    rw [cutsW_app c0 sz m W, List.append_assoc, List.length_append, pcsW_len, Nat.add_assoc]
/-- The j-th piece's flags. -/
def flW (N : Nat) (fr : Bool) (j : Nat) : Nat := (nmF fr + (if j = 0 then 2 else 0)) + (if j = N - 1 then 1 else 0)
theorem or2 (fr : Bool) : nmF fr ||| 2 = nmF fr + 2 := by cases fr <;> rfl
theorem or1 (fr : Bool) : nmF fr ||| 1 = nmF fr + 1 := by cases fr <;> rfl
theorem or21 (fr : Bool) : (nmF fr + 2) ||| 1 = nmF fr + 2 + 1 := by cases fr <;> rfl
def wPc (c0 n0 sz : Nat) (m : Wm) (j : Nat) : Pc := ⟨addV 4294967296 c0 ((n0 + j + 1 : Nat) : Int), flW (cntN m.zs.length sz) m.fr j, m.st, m.ss, m.pp, (m.zs.drop (j * sz)).take sz, 0, 0, 0⟩
theorem pcsW_get (c0 n0 sz : Nat) (m : Wm) {j : Nat} (hj : j < cntN m.zs.length sz) : (pcsW c0 n0 sz m)[j]? = some (wPc c0 n0 sz m j) := by
  unfold pcsW markL
  rw [List.getElem?_modify, List.getElem?_modify, List.getElem?_map, List.getElem?_range hj]
  simp only [Option.map_eq_map, Option.map_some, Option.some.injEq]
  unfold wPc flW
  by_cases h0 : 0 = j
  · by_cases h1 : cntN m.zs.length sz - 1 = j
    · rw [if_pos h0, if_pos h1, if_pos h0.symm, if_pos h1.symm]
      simp only [markF, newPc, or2, or21]
    · rw [if_pos h0, if_neg h1, if_pos h0.symm, if_neg (fun e => h1 e.symm)]
      simp only [markF, newPc, or2, Nat.add_zero]
  · by_cases h1 : cntN m.zs.length sz - 1 = j
    · rw [if_neg h0, if_pos h1, if_neg (fun e => h0 e.symm), if_pos h1.symm]
      simp only [markF, newPc, or1, Nat.add_zero]
    · rw [if_neg h0, if_neg h1, if_neg (fun e => h0 e.symm), if_neg (fun e => h1 e.symm)]
      simp only [newPc, Nat.add_zero]
/-- Pieces laid together. -/
structure Sc where
  op : Bool
  now : Wm
  got : List Wm
def bgn (p : Pc) : Bool := decide (p.f &&& 2 ≠ 0)
def fin (p : Pc) : Bool := decide (p.f &&& 1 ≠ 0)
def frB (p : Pc) : Bool := decide (p.f &&& 4 ≠ 0)
def nowS (s : Sc) (p : Pc) : Wm := if bgn p = true then ⟨p.st, p.ss, p.pp, frB p, []⟩ else s.now
def stepS (s : Sc) (p : Pc) : Sc :=
  { op := !fin p, now := { nowS s p with zs := (nowS s p).zs ++ p.zs }, got := if fin p = true then s.got ++ [{ nowS s p with zs := (nowS s p).zs ++ p.zs }] else s.got }
/-- No piece goes on a message that has ended. -/
def goodS : Sc → List Pc → Prop
  | _, [] => True
  | s, p :: l => (bgn p = true ∨ s.op = true) ∧ goodS (stepS s p) l
theorem goodS_app : ∀ (a b : List Pc) (s : Sc), goodS s (a ++ b) ↔ goodS s a ∧ goodS (a.foldl stepS s) b
  | [], b, s => by simp [goodS]
  | p :: a, b, s => by
    have := goodS_app a b (stepS s p)
    constructor
    · rintro ⟨h1, h2⟩
      exact ⟨⟨h1, (this.1 h2).1⟩, (this.1 h2).2⟩
    · rintro ⟨⟨h1, h2⟩, h3⟩
      exact ⟨h1, this.2 ⟨h2, h3⟩⟩
theorem flW_bits (N : Nat) (fr : Bool) (j : Nat) : (decide (flW N fr j &&& 2 ≠ 0) = decide (j = 0)) ∧ (decide (flW N fr j &&& 1 ≠ 0) = decide (j = N - 1)) ∧ (decide (flW N fr j &&& 4 ≠ 0) = fr) := by
  unfold flW nmF
  by_cases h0 : j = 0
  · by_cases h1 : j = N - 1
    · rw [if_pos h0, if_pos h1, decide_eq_true h0, decide_eq_true h1]
      cases fr <;> decide
    · rw [if_pos h0, if_neg h1, decide_eq_true h0, decide_eq_false h1]
      cases fr <;> decide
  · by_cases h1 : j = N - 1
    · rw [if_neg h0, if_pos h1, decide_eq_false h0, decide_eq_true h1]
      cases fr <;> decide
    · rw [if_neg h0, if_neg h1, decide_eq_false h0, decide_eq_false h1]
      cases fr <;> decide
theorem take_cut (zs : List Nat) (sz j : Nat) : zs.take (j * sz) ++ (zs.drop (j * sz)).take sz = zs.take ((j + 1) * sz) := by
  rw [Nat.add_mul, Nat.one_mul, List.take_add]
/-- A message's first j pieces. -/
theorem scan_msg (c0 n0 sz : Nat) (m : Wm) (s : Sc) (hz : 1 ≤ sz) (hm : 0 < m.zs.length) : ∀ j, j ≤ cntN m.zs.length sz →
    goodS s ((pcsW c0 n0 sz m).take j) ∧ (0 < j → ((pcsW c0 n0 sz m).take j).foldl stepS s = if j = cntN m.zs.length sz then ⟨false, m, s.got ++ [m]⟩ else ⟨true, { m with zs := m.zs.take (j * sz) }, s.got⟩) := by
  have hN : 0 < cntN m.zs.length sz := by
    rcases Nat.eq_zero_or_pos (cntN m.zs.length sz) with e | e
    · have := cntN_le (dn := m.zs.length) hz
      rw [e] at this
      omega
    · exact e
  intro j
  induction j with
  | zero => exact fun _ => ⟨by simp [goodS], fun h => (by omega)⟩
  | succ j ih =>
    intro hj
    obtain ⟨h1, h2⟩ := ih (by omega)
    have hg := pcsW_get c0 n0 sz m (show j < cntN m.zs.length sz by omega)
    rw [List.take_add_one, hg, Option.toList_some, List.foldl_append, goodS_app]
    obtain ⟨b2, b1, b4⟩ := flW_bits (cntN m.zs.length sz) m.fr j
    have hb : bgn (wPc c0 n0 sz m j) = decide (j = 0) := b2
    have hf : fin (wPc c0 n0 sz m j) = decide (j = cntN m.zs.length sz - 1) := b1
    have hfr : frB (wPc c0 n0 sz m j) = m.fr := b4
    have hnow : nowS (((pcsW c0 n0 sz m).take j).foldl stepS s) (wPc c0 n0 sz m j) = { m with zs := m.zs.take (j * sz) } := by
      unfold nowS
      rw [hb]
      rcases Nat.eq_zero_or_pos j with rfl | h0
      · rw [decide_eq_true rfl, if_pos rfl, hfr, Nat.zero_mul, List.take_zero]
        rfl
      · rw [decide_eq_false (by omega), if_neg (by decide), h2 h0, if_neg (by omega)]
    refine ⟨⟨h1, ?_, trivial⟩, fun _ => ?_⟩
    · rw [hb]
      rcases Nat.eq_zero_or_pos j with rfl | h0
      · exact .inl rfl
      · refine .inr ?_
        rw [h2 h0, if_neg (by omega)]
    · have hgot : (((pcsW c0 n0 sz m).take j).foldl stepS s).got = s.got := by
        rcases Nat.eq_zero_or_pos j with rfl | h0
        · rw [List.take_zero]; rfl
        · rw [h2 h0, if_neg (by omega)]
      simp only [List.foldl_cons, List.foldl_nil]
      generalize ((pcsW c0 n0 sz m).take j).foldl stepS s = s1 at hnow hgot ⊢
      unfold stepS
      rw [hnow, hf, hgot]
      have hzs : m.zs.take (j * sz) ++ (wPc c0 n0 sz m j).zs = m.zs.take ((j + 1) * sz) := take_cut m.zs sz j
      dsimp only
      rw [hzs]
      by_cases he : j + 1 = cntN m.zs.length sz
      · have hall : m.zs.take ((j + 1) * sz) = m.zs := List.take_of_length_le (by rw [he]; exact cntN_le hz)
        rw [if_pos he, decide_eq_true (by omega), hall]
        rfl
      · rw [if_neg he, decide_eq_false (by omega)]
        rfl
theorem scan_all (c0 sz : Nat) (hz : 1 ≤ sz) : ∀ (W : List Wm) (n0 : Nat) (s : Sc), (∀ m ∈ W, 0 < m.zs.length) → goodS s (cutsW c0 sz n0 W) ∧ ((cutsW c0 sz n0 W).foldl stepS s).got = s.got ++ W
  | [], n0, s, _ => by simp [cutsW, goodS]
  | m :: W, n0, s, h => by
    obtain ⟨h1, h2⟩ := scan_msg c0 n0 sz m s hz (h m List.mem_cons_self) _ (Nat.le_refl _)
    have hN : 0 < cntN m.zs.length sz := by
      rcases Nat.eq_zero_or_pos (cntN m.zs.length sz) with e | e
      · have := cntN_le (dn := m.zs.length) hz
        have := h m List.mem_cons_self
        rw [e] at *
        omega
      · exact e
    have h3 := h2 hN
    rw [if_pos rfl, ← pcsW_len c0 n0 sz m, List.take_length] at h3
    rw [← pcsW_len c0 n0 sz m, List.take_length] at h1
    obtain ⟨h4, h5⟩ := scan_all c0 sz hz W (n0 + cntN m.zs.length sz) ⟨false, m, s.got ++ [m]⟩ (fun x hx => h x (List.mem_cons_of_mem _ hx))
    unfold cutsW
    rw [goodS_app, List.foldl_append, h3]
    exact ⟨⟨h1, h4⟩, by rw [h5]; simp⟩
/-- The scan behind k pieces. -/
def scN (P : List Pc) (k : Nat) : Sc := (P.take k).foldl stepS ⟨false, ⟨0, 0, 0, false, []⟩, []⟩
theorem scN_succ {P : List Pc} {k : Nat} {p : Pc} (h : P[k]? = some p) : scN P (k + 1) = stepS (scN P k) p := by
  unfold scN
  rw [List.take_add_one, h, Option.toList_some, List.foldl_append]
  rfl
theorem scN_good {P : List Pc} (hg : goodS ⟨false, ⟨0, 0, 0, false, []⟩, []⟩ P) {k : Nat} {p : Pc} (h : P[k]? = some p) : bgn p = true ∨ (scN P k).op = true := by
  have e : P = P.take k ++ p :: P.drop (k + 1) := by
    have hk := (List.getElem?_eq_some_iff.1 h).1
    rw [← (List.getElem?_eq_some_iff.1 h).2, List.getElem_cons_drop, List.take_append_drop]
  rw [e, goodS_app] at hg
  exact hg.2.1
/-- The pieces' numbers. -/
theorem cutsW_t (c0 sz : Nat) : ∀ (W : List Wm) (n0 k : Nat) (p : Pc), (cutsW c0 sz n0 W)[k]? = some p → p.t = addV 4294967296 c0 ((n0 + k + 1 : Nat) : Int) ∧ p.is = 0 ∧ p.ms = 0 ∧ p.wy = 0 ∧ p.f < 8 ∧ p.zs.length ≤ sz
  | [], n0, k, p, h => by simp [cutsW] at h
  | m :: W, n0, k, p, h => by
    unfold cutsW at h
    by_cases hk : k < cntN m.zs.length sz
    · rw [List.getElem?_append_left (by rw [pcsW_len]; exact hk), pcsW_get c0 n0 sz m hk] at h
      obtain rfl := Option.some.inj h
      refine ⟨rfl, rfl, rfl, rfl, ?_, List.length_take_le _ _⟩
      show flW _ m.fr k < 8
      unfold flW nmF
      (repeat' split) <;> omega
    · rw [List.getElem?_append_right (by rw [pcsW_len]; omega), pcsW_len] at h
      obtain ⟨h1, h2⟩ := cutsW_t c0 sz W _ _ p h
      refine ⟨?_, h2⟩
      rw [h1, show n0 + cntN m.zs.length sz + (k - cntN m.zs.length sz) + 1 = n0 + k + 1 by omega]
end Go.Proofs.Ytconfmjgoipejaa
namespace Go.Proofs.Ytconfmjgoipejaa
/-- The first j pieces of P fly, the others are fresh. -/
structure StC (P : List Pc) (j : Nat) (L : List PcA) : Prop where
  len : L.length = P.length
  at_ : ∀ i x p, L[i]? = some x → P[i]? = some p → if i < j then (∃ wy, wy < 2 ∧ x.1 = { p with is := 1, wy := wy, ms := 0 }) else x.1 = p
section
variable {P : List Pc} {j : Nat} {L : List PcA}
theorem StC.start (h : L.map (·.1) = P) : StC P 0 L := by
  refine ⟨by rw [← h, List.length_map], fun i x p hx hp => ?_⟩
  rw [if_neg (by omega)]
  rw [← h, List.getElem?_map, hx] at hp
  exact Option.some.inj hp
theorem StC.due (h : StC P j L) (hP : ∀ p ∈ P, p.is = 0) {i : Nat} {x : PcA} (hx : L[i]? = some x) : dueB x = decide (j ≤ i) := by
  have hi := (List.getElem?_eq_some_iff.1 hx).1
  obtain ⟨p, hp⟩ : ∃ p, P[i]? = some p := ⟨_, List.getElem?_eq_getElem (by rw [← h.len]; exact hi)⟩
  have h1 := h.at_ i x p hx hp
  have hp0 := hP p (List.mem_of_getElem? hp)
  unfold dueB
  by_cases hij : i < j
  · rw [if_pos hij] at h1
    obtain ⟨wy, _, h1⟩ := h1
    rw [h1, decide_eq_false (by omega)]
    rfl
  · rw [if_neg hij] at h1
    rw [h1, hp0, decide_eq_true (by omega)]
    rfl
theorem StC.cnt (h : StC P j L) (hP : ∀ p ∈ P, p.is = 0) : ∀ k, k ≤ L.length → sumG ctP L k = k - j := by
  intro k
  induction k with
  | zero => intro _; simp [sumG]
  | succ k ih =>
    intro hk
    obtain ⟨x, hx⟩ : ∃ x, L[k]? = some x := ⟨_, List.getElem?_eq_getElem (by omega)⟩
    rw [sumG_succ hx, ih (by omega)]
    unfold ctP
    rw [h.due hP hx]
    by_cases hj : j ≤ k
    · rw [decide_eq_true hj, if_pos rfl]; omega
    · rw [decide_eq_false hj, if_neg (by decide)]; omega
theorem szP_sum (L : List PcA) (k : Nat) : sumG szP L k ≤ sumL L L.length + 19 * L.length := by
  refine Nat.le_trans (sumG_up _ L k) ?_
  have h1 : ∀ l : List PcA, (l.map szP).sum ≤ (l.map lenP).sum + 19 * l.length := by
    intro l
    induction l with
    | nil => simp
    | cons x l ih =>
      have : szP x ≤ lenP x + 19 := by
        unfold szP lenP
        split
        · exact spN_le _
        · omega
      simp only [List.map_cons, List.sum_cons, List.length_cons]
      omega
  have h2 := h1 L
  rw [sumG_all, sumL_G, sumG_all]
  exact h2
theorem lnP_sum (L : List PcA) (k : Nat) : sumG lnP L k ≤ sumL L L.length :=
  Nat.le_trans (sumG_up _ L k) (Nat.le_trans (sumG_le (g := lenP) (fun x => by unfold lnP lenP; split <;> omega) L L.length) (by rw [← sumL_G]; exact Nat.le_refl _))
theorem airL_sum (L : List PcA) : airL L 2 ≤ sumL L L.length + sumL L L.length := by
  have e0 : sumG (flyP 0) L L.length ≤ sumL L L.length := Nat.le_trans (sumG_le (flyP_le 0) L L.length) (by rw [← sumL_G]; exact Nat.le_refl _)
  have e1 : sumG (flyP 1) L L.length ≤ sumL L L.length := Nat.le_trans (sumG_le (flyP_le 1) L L.length) (by rw [← sumL_G]; exact Nat.le_refl _)
  simp only [airL]
  simp
  omega
theorem len_le_sum {L : List PcA} {k : Nat} {x : PcA} (hx : L[k]? = some x) : x.1.zs.length ≤ sumL L L.length := by
  have h1 := sumL_succ hx
  have h2 := sumL_le (L := L) (k + 1)
  omega
/-- How far Send comes. -/
theorem StC.K (h : StC P j L) (hP : ∀ p ∈ P, p.is = 0) (hj : j ≤ P.length) (hS : sumL L L.length ≤ 8192) (hL : L.length ≤ 8192) : sndK L 1048576 1048576 (airL L 2) = min (j + 16) P.length := by
  have hlen := h.len
  refine (sndK_eq (K := min (j + 16) P.length) (by omega) (fun i hi => ?_) ?_).symm
  · rintro ⟨x, hx, hd, h3⟩
    rw [h.due hP hx, decide_eq_true_eq] at hd
    rw [h.cnt hP i (by omega)] at h3
    have h4 := szP_sum L (i + 1)
    have h5 := lnP_sum L i
    have h6 := airL_sum L
    have h7 := len_le_sum hx
    omega
  · by_cases he : j + 16 < P.length
    · refine .inr ?_
      rw [Nat.min_eq_left (by omega)]
      obtain ⟨x, hx⟩ : ∃ x, L[j + 16]? = some x := ⟨_, List.getElem?_eq_getElem (by omega)⟩
      exact ⟨x, hx, by rw [h.due hP hx, decide_eq_true (by omega)], .inr (.inl (by rw [h.cnt hP _ (by omega)]; omega))⟩
    · exact .inl (by omega)
/-- What Send leaves. -/
theorem StC.sent (h : StC P j L) (hP : ∀ p ∈ P, p.is = 0) {K wy : Nat} (hK : K ≤ P.length) (hjK : j ≤ K) (hw : wy < 2) : StC P K (mapTo (sndF wy) L K) := by
  have hlen := h.len
  refine ⟨by rw [mapTo_len _ _ _ (by omega)]; exact hlen, fun i x p hx hp => ?_⟩
  by_cases hi : i < K
  · rw [if_pos hi]
    obtain ⟨y, hy⟩ : ∃ y, L[i]? = some y := ⟨_, List.getElem?_eq_getElem (by omega)⟩
    have hx2 : (mapTo (sndF wy) L K)[i]? = some (sndF wy y) := by
      unfold mapTo
      rw [List.getElem?_append_left (by simp; omega), List.getElem?_map, List.getElem?_take_of_lt hi, hy]
      rfl
    rw [hx2] at hx
    obtain rfl := Option.some.inj hx
    have h1 := h.at_ i y p hy hp
    have hd := h.due hP hy
    unfold sndF
    by_cases hij : i < j
    · rw [if_pos hij] at h1
      rw [hd, decide_eq_false (by omega), if_neg (by decide)]
      exact h1
    · rw [if_neg hij] at h1
      rw [hd, decide_eq_true (by omega), if_pos rfl]
      exact ⟨wy, hw, by rw [← h1]⟩
  · rw [if_neg hi]
    rw [mapTo_get _ _ (by omega) (by omega)] at hx
    have h1 := h.at_ i x p hx hp
    rw [if_neg (by omega)] at h1
    exact h1
theorem filt_skip : ∀ (j : Nat) (l : List PcA), j ≤ l.length → (∀ i x, l[i]? = some x → dueB x = decide (j ≤ i)) → l.filter dueB = l.drop j
  | 0, l, _, h => by
    rw [List.drop_zero, List.filter_eq_self]
    intro x hx
    obtain ⟨i, hi⟩ := List.getElem?_of_mem hx
    rw [h i x hi]
    simp
  | j + 1, [], hl, _ => by simp at hl
  | j + 1, x :: l, hl, h => by
    have h0 := h 0 x rfl
    rw [List.filter_cons, h0, decide_eq_false (by omega), if_neg (by decide), List.drop_succ_cons]
    refine filt_skip j l (by simpa using hl) (fun i y hy => ?_)
    rw [h (i + 1) y (by simpa using hy)]
    exact decide_eq_decide.2 (by omega)
/-- What Send answers. -/
theorem StC.out (h : StC P j L) (hP : ∀ p ∈ P, p.is = 0) {K : Nat} (hK : K ≤ P.length) (hjK : j ≤ K) : ((L.take K).filter dueB).map (·.1) = (P.take K).drop j := by
  have hlen := h.len
  rw [filt_skip j (L.take K) (by rw [List.length_take]; omega) (fun i x hx => h.due hP (by
    have hi := (List.getElem?_eq_some_iff.1 hx).1
    rw [List.length_take] at hi
    rw [List.getElem?_take_of_lt (by omega)] at hx
    exact hx))]
  refine List.ext_getElem? (fun i => ?_)
  rw [List.getElem?_map, List.getElem?_drop, List.getElem?_drop]
  by_cases hi : j + i < K
  · rw [List.getElem?_take_of_lt hi, List.getElem?_take_of_lt hi]
    obtain ⟨x, hx⟩ : ∃ x, L[j + i]? = some x := ⟨_, List.getElem?_eq_getElem (by omega)⟩
    obtain ⟨p, hp⟩ : ∃ p, P[j + i]? = some p := ⟨_, List.getElem?_eq_getElem (by omega)⟩
    have h1 := h.at_ _ x p hx hp
    rw [if_neg (by omega)] at h1
    rw [hx, hp, ← h1]
    rfl
  · rw [List.getElem?_eq_none (by rw [List.length_take]; omega), List.getElem?_eq_none (by rw [List.length_take]; omega)]
    rfl
end
end Go.Proofs.Ytconfmjgoipejaa
namespace Go.Proofs.Ytconfmjgoipejaa
open Go.RowKit Go.Shelf
theorem layMg : Lays Try.prog 33 38 5 40 MgD.vals :=
  ⟨by kernel_rfl, ⟨.agg #[.int .u16 0, .int .u16 0, .int .u32 0, .bool false, .slice none 0 0], by kernel_rfl, by kernel_rfl⟩, by decide, fun _ => rfl, fun x u hu => by
    simp only [MgD.vals, List.mem_cons, List.not_mem_nil, or_false] at hu
    rcases hu with rfl | rfl | rfl | rfl | rfl <;> rfl⟩
def MgD.toW (x : MgD) : Wm := ⟨x.st, x.ss, x.pp, x.fr, x.daZ⟩
def u16V (l : List Nat) : List Value := l.map fun x => .int .u16 (x : Nat)
theorem push_no_own {W : World} {B D q : Nat} {L : List PcA} {cum size : Nat} {nx : List Nat} (h : OwQ B D q L cum size nx W) (hL : L.length ≤ 100000) (hS : sumL L L.length ≤ 100000) (st ss pp : Nat) (fr : Bool) (da : Option Addr) (dn dc : Nat) (hst : st < 65536) (hdn : dn ≤ 140737488351232) (hbad : mpE nx.length st dn (sumL L L.length) ≠ 0) :
    Calls Try.prog 12 #[.pointer (some ⟨q, 0, none⟩), .agg #[.int .u16 (st : Nat), .int .u16 (ss : Nat), .int .u32 (pp : Nat), .bool fr, .slice da dn dc]] W fun e w' => e = .returned (.int .i64 (mpE nx.length st dn (sumL L L.length) : Nat)) ∧ Below W.heap.size W w' := by
  obtain ⟨⟨nb, pa, cap, hq, _⟩, _⟩ := h
  exact push_bad hq hL hS st ss pp fr da dn dc hst hdn hbad
theorem map_mod {α β : Type} (f : α → β) (g : α → α) (hg : ∀ x, f (g x) = f x) (l : List α) (i : Nat) : (l.modify i g).map f = l.map f := by
  refine List.ext_getElem? (fun k => ?_)
  rw [List.getElem?_map, List.getElem?_map, List.getElem?_modify]
  cases l[k]? with
  | none => rfl
  | some x =>
    by_cases h : i = k
    · simp [h, hg]
    · simp [h]
theorem pcs_sum (c0 n0 f st ss pp sz : Nat) (zs : List Nat) (hz : 1 ≤ sz) : ((markL (cntN zs.length sz) ((List.range (cntN zs.length sz)).map (newPc c0 n0 f st ss pp sz zs))).map (fun p => p.zs.length)).sum = zs.length := by
  unfold markL
  rw [map_mod (fun p : Pc => p.zs.length) (markF 1) (fun _ => rfl), map_mod (fun p : Pc => p.zs.length) (markF 2) (fun _ => rfl), List.map_map]
  have h : ∀ k, ((List.range k).map ((fun p : Pc => p.zs.length) ∘ newPc c0 n0 f st ss pp sz zs)).sum = (zs.take (k * sz)).length := by
    intro k
    induction k with
    | zero => simp
    | succ k ih =>
      rw [List.range_succ, List.map_append, List.sum_append, ih, ← take_cut, List.length_append]
      simp [newPc]
  rw [h, List.take_of_length_le (cntN_le hz)]
/-- OutqCuts between two messages: B the law's own beginning, bn the row of numbers. -/
structure CvW (w : World) (D q c0 size bn : Nat) (L : List PcA) (nx : List Nat) (Ws : List Wm) (wa : Option Addr) (wc : Nat) (wl : List MgD) (W : World) : Prop where
  qu : OwQ w.heap.size D q L c0 size nx W
  pc : L.map (·.1) = cutsW c0 size 0 Ws
  nt : BT W bn 35
  ns : Stc W bn (u16V nx)
  n8 : nx.length = 8
  nl : ∀ i, nx.getD i 0 < 65536
  wt : OwnG 38 5 MgD.vals W w.heap.size wa wl.length wc wl
  wm : wl.map MgD.toW = Ws
  wd : ∀ x ∈ wl, Sl W x.daA x.daN x.daC x.daZ ∧ ∀ b o s, x.daA = some ⟨b, o, s⟩ → b < w.heap.size
  wp : ∀ m ∈ Ws, 0 < m.zs.length
  bl : Below w.heap.size w W
  sm : sumL L L.length ≤ 8192
  ll : L.length ≤ sumL L L.length
  o2 : w.heap.size ≤ bn
theorem Sl.frS {W W' : World} {a : Option Addr} {n c : Nat} {zs : List Nat} {Q : Nat → Prop} {B : Nat} (h : Sl W a n c zs) (hf : Fr Q W W') (hb : ∀ b o s, a = some ⟨b, o, s⟩ → b < B) (hq : ∀ b, Q b → B ≤ b) : Sl W' a n c zs :=
  Sl.frQ h hf (fun b o s e e2 => by have := hb b o s e; have := hq b e2; omega)
section
variable {w W W' : World} {D q c0 size bn : Nat} {L : List PcA} {nx : List Nat} {Ws : List Wm} {wa : Option Addr} {wc : Nat} {wl : List MgD}
theorem CvW.below (h : CvW w D q c0 size bn L nx Ws wa wc wl W) (hb : Below W.heap.size W W') : CvW w D q c0 size bn L nx Ws wa wc wl W' :=
  ⟨h.qu.below hb, h.pc, h.nt.below hb, h.ns.below hb, h.n8, h.nl, OwnG.below h.wt hb, h.wm, fun x hx => ⟨(h.wd x hx).1.below hb, (h.wd x hx).2⟩, h.wp, h.bl.trans (hb.mono h.bl.size), h.sm, h.ll, h.o2⟩
/-- A message pushed, and kept. -/
structure CvP (w : World) (q c0 size bn : Nat) (L : List PcA) (nx : List Nat) (Ws : List Wm) (wl : List MgD) (x : MgD) (b0 : Nat) (wa : Option Addr) (wc : Nat) (W4 W7 : World) : Prop where
  go : ∃ g c2 Vb, (∀ ty, (Builtin.append_ #[33, 33] ty #[.slice wa wl.length wc, .slice (some ⟨W4.heap.size, 0, none⟩) 1 1]).run Try.prog (W7.alloc (.cells #[.int .u16 (x.st : Nat), .int .u16 (nmS x.fr nx x.st : Nat), .int .u32 (x.pp : Nat), .bool x.fr, .slice x.daA x.daN x.daC] 38)) = .ok (.slice (some ⟨g, 0, none⟩) (wl.length + 1) c2) Vb) ∧
    ∃ D L', CvW w D q c0 size bn L' (nmX x.fr nx x.st) (Ws ++ [{ x.toW with ss := nmS x.fr nx x.st }]) (some ⟨g, 0, none⟩) c2 (wl ++ [{ x with ss := nmS x.fr nx x.st }]) Vb
theorem set_u16V (nx : List Nat) (i v : Nat) : (u16V nx).set i (.int .u16 (v : Nat)) = u16V (nx.set i v) := by
  unfold u16V
  rw [List.map_set]
theorem nmS_lt {fr : Bool} {nx : List Nat} {st : Nat} (h : ∀ i, nx.getD i 0 < 65536) : nmS fr nx st < 65536 := by
  unfold nmS
  split
  · decide
  · exact h st
theorem CvW.push (h : CvW w D q c0 size bn L nx Ws wa wc wl W) {x : MgD} (hx : x.Wf w) (hxb : ∀ b o s, x.daA = some ⟨b, o, s⟩ → b < w.heap.size) (hst : x.st < 8) (hd0 : 0 < x.daN) (hsum : sumL L L.length + x.daN ≤ 8192) (hz : 1 ≤ size) (hwl : wl.length ≤ 1000) (W3 : World) (hW3 : W3 = W.alloc (.cells x.vals.toArray 38))
    {e : Ending} {W4 : World} (hp : PshO w.heap.size q L c0 size (nmX x.fr nx x.st) (markL (cntN x.daN size) ((List.range (cntN x.daN size)).map (newPc c0 L.length (nmF x.fr) x.st (nmS x.fr nx x.st) x.pp size x.daZ))) W3 e W4) :
    Stc W4 W.heap.size x.vals ∧ Stc W4 bn (u16V nx) ∧ ∀ W7, (if x.fr = true then W7 = W4.setCell ⟨W.heap.size, 1, none⟩ (.int .u16 0) else W7 = ((W4.setCell ⟨W.heap.size, 1, none⟩ (.int .u16 0)).setCell ⟨W.heap.size, 1, none⟩ (.int .u16 (nmS x.fr nx x.st : Nat))).setCell ⟨bn, x.st, none⟩ (.int .u16 ((nx.getD x.st 0 + 1) % 65536 : Nat))) → CvP w q c0 size bn L nx Ws wl x W.heap.size wa wc W4 W7 := by
  obtain ⟨-, ⟨M, hq4, hM⟩, hf⟩ := hp
  have b3 : Below W.heap.size W W3 := by rw [hW3]; exact (Below.refl _ _).alloc (Nat.le_refl _) _
  have h3 := h.below b3
  have t3 : BT W3 W.heap.size 38 := ⟨x.vals.toArray, (0, 0), by rw [hW3]; exact World.alloc_heap_new W _⟩
  have s3 : Stc W3 W.heap.size x.vals := Stc.new W x.vals 38 W3 hW3
  have hne : ∀ {b T}, BT W3 b T → T ≠ 71 → T ≠ 34 → T ≠ 82 → ¬ qT w.heap.size W3 b := fun hb h1 h2 h3 => qT_not hb h1 h2 h3
  have s4 := s3.fr hf (hne t3 (by decide) (by decide) (by decide))
  have n4 := h3.ns.fr hf (hne h3.nt (by decide) (by decide) (by decide))
  have t4 : BT W4 W.heap.size 38 := t3.same (hf.block _ t3.lt (hne t3 (by decide) (by decide) (by decide)))
  have nt4 : BT W4 bn 35 := h3.nt.same (hf.block _ h3.nt.lt (hne h3.nt (by decide) (by decide) (by decide)))
  have w4 : OwnG 38 5 MgD.vals W4 w.heap.size wa wl.length wc wl := OwnG.fr h3.wt hf (fun g hg => hne (OwnG.bt h3.wt g hg) (by decide) (by decide) (by decide))
  have hwlt : ∀ g, (Value.slice wa wl.length wc).ownBlock = some g → g < W.heap.size := fun g hg => (OwnG.bt h.wt g hg).lt
  have bl3 := h3.bl
  have bl4 : Below w.heap.size w W4 := bl3.trans (Fr.below hf _ bl3.size (fun _ hk => hk.1))
  have hws : w.heap.size ≤ W.heap.size := h.bl.size
  have hbnW : bn < W.heap.size := h.nt.lt
  refine ⟨s4, n4, fun W7 hW7 => ?_⟩
  -- the stores: a frame of two blocks
  have f7 : Fr (fun b => b = W.heap.size ∨ b = bn) W4 W7 := by
    by_cases hfr : x.fr = true
    · rw [if_pos hfr] at hW7
      rw [hW7]
      exact Fr.setCell _ _ _ _ (.inl rfl)
    · rw [if_neg hfr] at hW7
      rw [hW7]
      exact ((Fr.setCell _ _ _ _ (.inl rfl)).trans (Fr.setCell _ _ _ _ (.inl rfl))).trans (Fr.setCell _ _ _ _ (.inr rfl))
  have hne4 : W.heap.size ≠ bn := by omega
  have t7 : BT W7 bn 35 := by
    by_cases hfr : x.fr = true
    · rw [if_pos hfr] at hW7
      rw [hW7]
      exact nt4.setCell _ _
    · rw [if_neg hfr] at hW7
      rw [hW7]
      exact ((nt4.setCell _ _).setCell _ _).setCell _ _
  have n7 : Stc W7 bn (u16V (nmX x.fr nx x.st)) := by
    by_cases hfr : x.fr = true
    · rw [if_pos hfr] at hW7
      rw [hW7, show nmX x.fr nx x.st = nx from if_pos hfr]
      exact n4.otherQ 1 _ hne4
    · rw [if_neg hfr] at hW7
      rw [hW7, show nmX x.fr nx x.st = nx.set x.st ((nx.getD x.st 0 + 1) % 65536) from if_neg hfr, ← set_u16V]
      exact ((n4.otherQ 1 _ hne4).otherQ 1 _ hne4).putQ (by unfold u16V; rw [List.length_map, h.n8]; exact hst) _
  have w7 : OwnG 38 5 MgD.vals W7 w.heap.size wa wl.length wc wl := OwnG.fr w4 f7 (fun g hg e => by
    have := hwlt g hg
    rcases e with e | e
    · omega
    · subst e; exact (OwnG.bt w4 g hg).ne nt4 (by decide) rfl)
  have q7 : OwQ w.heap.size W4.heap.size q (L ++ M) c0 size (nmX x.fr nx x.st) W7 := hq4.fr f7 (fun b T e hb => by
    rcases e with rfl | rfl
    · obtain ⟨c1, r1, e1⟩ := t4
      obtain ⟨c2, r2, e2⟩ := hb
      rw [e1] at e2
      injection e2 with e2
      injection e2 with _ e2 _
      subst e2
      decide
    · obtain ⟨c1, r1, e1⟩ := nt4
      obtain ⟨c2, r2, e2⟩ := hb
      rw [e1] at e2
      injection e2 with e2
      injection e2 with _ e2 _
      subst e2
      decide) (fun b e => .inr (by
    rcases e with rfl | rfl
    · exact ⟨_, t4, by decide⟩
    · exact ⟨_, nt4, by decide⟩))
  have bl7 : Below w.heap.size w W7 := bl4.trans (Fr.below f7 _ bl4.size (fun k hk => by have := h.o2; rcases hk with e | e <;> omega))
  have z7 : W7.heap.size = W4.heap.size := by
    by_cases hfr : x.fr = true
    · rw [if_pos hfr] at hW7
      rw [hW7]
      simp [World.setCell]
    · rw [if_neg hfr] at hW7
      rw [hW7]
      simp [World.setCell]
  -- the append
  obtain ⟨y, hy⟩ : ∃ y : MgD, y = { x with ss := nmS x.fr nx x.st } := ⟨_, rfl⟩
  obtain ⟨Va, hVa⟩ : ∃ Va, Va = W7.alloc (.cells y.vals.toArray 38) := ⟨_, rfl⟩
  have bVa : Below W7.heap.size W7 Va := by rw [hVa]; exact (Below.refl _ _).alloc (Nat.le_refl _) _
  have sVa := Stc.new W7 y.vals 38 Va hVa
  obtain ⟨g, c2, Vb, hr, hown, hgr, hor, _⟩ := OwnG.app layMg (OwnG.below w7 bVa) 0 y ⟨W7.heap.size, 0, none⟩ (fun j u hj => by
    have ea : (⟨W7.heap.size, 0, none⟩ : Addr).add j = ⟨W7.heap.size, j, none⟩ := by
      unfold Addr.add
      split <;> simp_all
    rw [ea]
    exact sVa.cell j u hj) (by simp [maxLen]; omega) (by omega) (by rw [hVa]; simp; have := bl7.size; omega)
  have hfb : Fr (fun b => (Value.slice wa wl.length wc).ownBlock = some b) Va Vb := Fr.grown hgr (fun k e => e)
  have tg := fun g hg => (OwnG.bt w7 g hg).below bVa
  have hlen : (wl ++ [y]).length = wl.length + 1 := by simp
  have dN : x.daN = x.daZ.length := hx.2.2.2.1.len.symm
  have hsn : sumL (L ++ M) (L ++ M).length = sumL L L.length + x.daN := by
    rw [sumL_all, List.map_append, List.sum_append, ← sumL_all]
    have e1 : M.map (fun x => x.1.zs.length) = (M.map (·.1)).map (fun p => p.zs.length) := by rw [List.map_map]; rfl
    rw [e1, hM, dN, pcs_sum _ _ _ _ _ _ _ _ hz]
  refine ⟨g, c2, Vb, fun ty => by rw [← z7]; rw [hVa, hy] at hr; exact hr, W4.heap.size, L ++ M, ?_⟩
  rw [← hy]
  have hyw : ({ x.toW with ss := nmS x.fr nx x.st } : Wm) = y.toW := by rw [hy]; rfl
  rw [hyw]
  refine ⟨(q7.below bVa).fr hfb (fun b T e hb => ?_) (fun b e => .inr ⟨_, tg b e, by decide⟩), ?_, (t7.below bVa).same (hfb.block _ (t7.below bVa).lt (fun e => (t7.below bVa).ne (tg _ e) (by decide) rfl)), (n7.below bVa).fr hfb (fun e => (t7.below bVa).ne (tg _ e) (by decide) rfl), ?_, ?_, ?_, by rw [List.map_append, h.wm]; rfl, ?_, ?_, (bl7.trans (bVa.mono bl7.size)).trans (Fr.below hfb _ (Nat.le_trans bl7.size bVa.size) (fun k e => OwnG.lo w7 k e)), ?_, ?_, h.o2⟩
  · obtain ⟨c1, r1, e1⟩ := tg b e
    obtain ⟨c3, r2, e2⟩ := hb
    rw [e1] at e2
    injection e2 with e2
    injection e2 with _ e2 _
    subst e2
    decide
  · have hlL : L.length = (cutsW c0 size 0 Ws).length := by rw [← h.pc, List.length_map]
    rw [List.map_append, h.pc, hM, cutsW_app, Nat.zero_add, ← hlL, hy]
    unfold pcsW
    rw [dN]
    rfl
  · unfold nmX
    split
    · exact h.n8
    · rw [List.length_set]; exact h.n8
  · intro i
    unfold nmX
    split
    · exact h.nl i
    · rw [List.getD_eq_getElem?_getD, List.getElem?_set]
      split
      · split
        · exact Nat.mod_lt _ (by decide)
        · decide
      · have := h.nl i
        rw [List.getD_eq_getElem?_getD] at this
        exact this
  · rw [hlen]
    exact hown
  · intro u hu
    rcases List.mem_append.1 hu with hu | hu
    · obtain ⟨h1, h2⟩ := h.wd u hu
      refine ⟨?_, h2⟩
      have g3 := h1.below b3
      have g4 := Sl.frS g3 hf h2 (fun b hb => hb.1)
      have g7 := Sl.frS g4 f7 h2 (fun b hb => by have := h.o2; rcases hb with e | e <;> omega)
      exact Sl.frS (g7.below bVa) hfb h2 (fun b hb => OwnG.lo w7 b hb)
    · obtain rfl := List.mem_singleton.1 hu
      have hxs : Sl w u.daA u.daN u.daC u.daZ := by rw [hy]; exact hx.2.2.2.1
      have hxb2 : ∀ b o s, u.daA = some ⟨b, o, s⟩ → b < w.heap.size := by rw [hy]; exact hxb
      refine ⟨?_, hxb2⟩
      have bb : Below w.heap.size w Vb := (bl7.trans (bVa.mono bl7.size)).trans (Fr.below hfb _ (Nat.le_trans bl7.size bVa.size) (fun k e => OwnG.lo w7 k e))
      exact hxs.below bb
  · intro m hm
    rcases List.mem_append.1 hm with hm | hm
    · exact h.wp m hm
    · obtain rfl := List.mem_singleton.1 hm
      rw [hy]
      show 0 < x.daZ.length
      omega
  · rw [hsn]; exact hsum
  · have e1 := congrArg List.length hM
    rw [List.length_map, markL_len, List.length_map, List.length_range] at e1
    have e2 := cntN_max (dn := x.daN) hz
    have e3 := h.ll
    rw [hsn, List.length_append, e1]
    omega
end
end Go.Proofs.Ytconfmjgoipejaa
