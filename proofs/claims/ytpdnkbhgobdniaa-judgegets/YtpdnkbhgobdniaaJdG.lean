/- Mathematics of JudgeGets: what was sent, what was told, and what the books count of them. -/
import Derived.Test.YtpdnkbhgobdniaaJdQ
namespace Go.Proofs.Ytpdnkbhgobdniaa
open Go.RowKit Go.MapKept Go.Maps
/-- What a side was told. -/
def gotL (ds : List Mk) (q : Sd) : List Mg := (ds.filter fun x => decide (x.is = 2) && ofJ x q).map Mk.msg
theorem gotL_snoc (ds : List Mk) (x : Mk) (q : Sd) : gotL (ds ++ [x]) q = gotL ds q ++ if decide (x.is = 2) && ofJ x q then [x.msg] else [] := by
  unfold gotL
  rw [List.filter_append, List.map_append]
  congr 1
  by_cases h : (decide (x.is = 2) && ofJ x q) = true
  · rw [if_pos h]; simp [h]
  · rw [if_neg h]; simp [h]
structure Inv3 (ds : List Mk) (cp : Cp) : Prop where
  rows : ∀ q s, (cp q).rows s = (sentL ds q).filter (nxt s)
  told : ∀ q s, (cp q).told s = ((gotL ds q).countP (nxt s) : Nat)
  cnt : ∀ q k, (((sentL ds q).countP (lse k) : Nat) : Int) = (cp q).loose k + ((gotL ds (oth q)).countP (lse k) : Nat)
theorem Inv3.nil : Inv3 [] (fun _ => Bp.empty) := ⟨fun _ _ => rfl, fun _ _ => rfl, fun _ _ => rfl⟩
theorem Inv3.more {ds : List Mk} {cp cp' : Cp} {x : Mk} (h : Inv3 ds cp)
    (r : ∀ q s, (cp' q).rows s = (cp q).rows s ++ (if x.is = 1 ∧ x.sd = q ∧ nxt s x.msg = true then [x.msg] else []))
    (t : ∀ q s, (cp' q).told s = (cp q).told s + (if x.is = 2 ∧ x.sd = q ∧ nxt s x.msg = true then 1 else 0))
    (l : ∀ q k, (cp' q).loose k = (cp q).loose k + (if x.is = 1 ∧ x.sd = q ∧ lse k x.msg = true then 1 else 0) - (if x.is = 2 ∧ x.sd = oth q ∧ lse k x.msg = true then 1 else 0)) : Inv3 (ds ++ [x]) cp' := by
  refine ⟨fun q s => ?_, fun q s => ?_, fun q k => ?_⟩
  · rw [r, h.rows, sentL_snoc, List.filter_append]
    congr 1
    unfold ofJ
    by_cases h1 : x.is = 1 <;> by_cases h2 : x.sd = q <;> by_cases h3 : nxt s x.msg = true <;> simp [h1, h2, h3]
  · rw [t, h.told, gotL_snoc, List.countP_append]
    unfold ofJ
    by_cases h1 : x.is = 2 <;> by_cases h2 : x.sd = q <;> by_cases h3 : nxt s x.msg = true <;> simp [h1, h2, h3]
  · have hc := h.cnt q k
    rw [l, sentL_snoc, gotL_snoc, List.countP_append, List.countP_append]
    unfold ofJ
    have e1 : (if (decide (x.is = 1) && decide (x.sd = q)) = true then [x.msg] else []).countP (lse k) = if x.is = 1 ∧ x.sd = q ∧ lse k x.msg = true then 1 else 0 := by
      by_cases h1 : x.is = 1 <;> by_cases h2 : x.sd = q <;> by_cases h3 : lse k x.msg = true <;> simp [h1, h2, h3]
    have e2 : (if (decide (x.is = 2) && decide (x.sd = oth q)) = true then [x.msg] else []).countP (lse k) = if x.is = 2 ∧ x.sd = oth q ∧ lse k x.msg = true then 1 else 0 := by
      by_cases h1 : x.is = 2 <;> by_cases h2 : x.sd = oth q <;> by_cases h3 : lse k x.msg = true <;> simp [h1, h2, h3]
    rw [e1, e2]
    by_cases c1 : x.is = 1 ∧ x.sd = q ∧ lse k x.msg = true
    · have c2 : ¬ (x.is = 2 ∧ x.sd = oth q ∧ lse k x.msg = true) := fun hh => by omega
      simp only [if_pos c1, if_neg c2]
      omega
    · by_cases c2 : x.is = 2 ∧ x.sd = oth q ∧ lse k x.msg = true
      · simp only [if_neg c1, if_pos c2]
        omega
      · simp only [if_neg c1, if_neg c2]
        omega
theorem Inv3.sent {ds : List Mk} {cp : Cp} (h : Inv3 ds cp) {x : Mk} (h1 : x.is = 1) : Inv3 (ds ++ [x]) (cp.set x.sd ((cp x.sd).push x.msg)) := by
  have n2 : ¬ x.is = 2 := by omega
  refine h.more (fun q s => ?_) (fun q s => ?_) (fun q k => ?_)
  · by_cases hq : x.sd = q
    · rw [hq, set_on]
      unfold Bp.push
      by_cases hf : x.msg.free = true
      · rw [if_pos hf]
        simp [nxt, hf]
      · rw [if_neg hf]
        show (if s = x.msg.st then (cp q).rows s ++ [x.msg] else (cp q).rows s) = _
        by_cases hs : s = x.msg.st
        · rw [if_pos hs, if_pos ⟨h1, rfl, by unfold nxt; simp [hf, hs]⟩]
        · rw [if_neg hs, if_neg, List.append_nil]
          intro hh
          have := hh.2.2
          unfold nxt at this
          simp only [Bool.and_eq_true, decide_eq_true_eq] at this
          exact hs this.2.symm
    · rw [set_off cp _ (Ne.symm hq), if_neg (fun hh => hq hh.2.1), List.append_nil]
  · rw [if_neg (fun hh => n2 hh.1), Int.add_zero]
    exact congrFun (set_keep (·.told) cp x.sd _ (push_flags (cp x.sd) x.msg).2.2.2 q) s
  · rw [if_neg (fun (hh : x.is = 2 ∧ _) => n2 hh.1), Int.sub_zero]
    by_cases hq : x.sd = q
    · rw [hq, set_on]
      unfold Bp.push
      by_cases hf : x.msg.free = true
      · rw [if_pos hf]
        show (if k = x.msg.cn then (cp q).loose k + 1 else (cp q).loose k) = _
        by_cases hk : k = x.msg.cn
        · rw [if_pos hk, if_pos ⟨h1, rfl, by unfold lse; simp [hf, hk]⟩]
        · rw [if_neg hk, if_neg, Int.add_zero]
          intro hh
          have := hh.2.2
          unfold lse at this
          simp only [Bool.and_eq_true, decide_eq_true_eq] at this
          exact hk this.2.symm
      · rw [if_neg hf, if_neg, Int.add_zero]
        intro hh
        have := hh.2.2
        unfold lse at this
        simp only [Bool.and_eq_true] at this
        exact hf this.1
    · rw [set_off cp _ (Ne.symm hq), if_neg (fun hh => hq hh.2.1), Int.add_zero]
theorem Inv3.gotF {ds : List Mk} {cp : Cp} (h : Inv3 ds cp) {x : Mk} (h2 : x.is = 2) (hf : x.mfree = true) : Inv3 (ds ++ [x]) (cp.set (oth x.sd) ((cp (oth x.sd)).gone x.msg.cn)) := by
  have n1 : ¬ x.is = 1 := by omega
  have hf' : x.msg.free = true := hf
  refine h.more (fun q s => ?_) (fun q s => ?_) (fun q k => ?_)
  · rw [if_neg (fun hh => n1 hh.1), List.append_nil]
    exact congrFun (set_keep (·.rows) cp (oth x.sd) ((cp (oth x.sd)).gone x.msg.cn) rfl q) s
  · rw [if_neg, Int.add_zero]
    · exact congrFun (set_keep (·.told) cp (oth x.sd) ((cp (oth x.sd)).gone x.msg.cn) rfl q) s
    · intro hh
      have := hh.2.2
      unfold nxt at this
      simp [hf'] at this
  · rw [if_neg (fun (hh : x.is = 1 ∧ _) => n1 hh.1), Int.add_zero]
    by_cases hq : x.sd = oth q
    · rw [hq, oth_oth, set_on]
      show (if k = x.msg.cn then (cp q).loose k - 1 else (cp q).loose k) = _
      by_cases hk : k = x.msg.cn
      · rw [if_pos hk, if_pos ⟨h2, rfl, by unfold lse; simp [hf', hk]⟩]
      · rw [if_neg hk, if_neg, Int.sub_zero]
        intro hh
        have := hh.2.2
        unfold lse at this
        simp only [Bool.and_eq_true, decide_eq_true_eq] at this
        exact hk this.2.symm
    · rw [set_off cp _ (fun e => hq (by rw [e, oth_oth])), if_neg (fun hh => hq hh.2.1), Int.sub_zero]
theorem Inv3.gotN {ds : List Mk} {cp : Cp} (h : Inv3 ds cp) {x : Mk} (h2 : x.is = 2) (hf : x.mfree = false) :
    Inv3 (ds ++ [x]) ((cp.set x.sd ((cp x.sd).tell x.msg.st)).set (oth x.sd) (cp (oth x.sd)).less) := by
  have n1 : ¬ x.is = 1 := by omega
  have hf' : x.msg.free = false := hf
  have k1 : ∀ {α : Type} (f : Bp → α), (∀ p : Bp, f p.less = f p) → (∀ (p : Bp) s, f (p.tell s) = f p) → ∀ q, f (((cp.set x.sd ((cp x.sd).tell x.msg.st)).set (oth x.sd) (cp (oth x.sd)).less) q) = f (cp q) := by
    intro α f hl ht q
    rw [set_keep f _ (oth x.sd) _ (by rw [hl, set_off cp _ (oth_ne x.sd)]) q, set_keep f cp x.sd _ (ht _ _) q]
  refine h.more (fun q s => ?_) (fun q s => ?_) (fun q k => ?_)
  · rw [if_neg (fun hh => n1 hh.1), List.append_nil]
    exact congrFun (k1 (·.rows) (fun _ => rfl) (fun _ _ => rfl) q) s
  · rw [congrFun (set_keep (·.told) _ (oth x.sd) (cp (oth x.sd)).less (by rw [set_off cp _ (oth_ne x.sd)]; rfl) q) s]
    by_cases hq : x.sd = q
    · rw [hq, set_on]
      show (if s = x.msg.st then (cp q).told s + 1 else (cp q).told s) = _
      by_cases hs : s = x.msg.st
      · rw [if_pos hs, if_pos ⟨h2, rfl, by unfold nxt; simp [hf', hs]⟩]
      · rw [if_neg hs, if_neg, Int.add_zero]
        intro hh
        have := hh.2.2
        unfold nxt at this
        simp only [Bool.and_eq_true, decide_eq_true_eq] at this
        exact hs this.2.symm
    · rw [set_off cp _ (Ne.symm hq), if_neg (fun hh => hq hh.2.1), Int.add_zero]
  · rw [if_neg (fun (hh : x.is = 1 ∧ _) => n1 hh.1), Int.add_zero, if_neg, Int.sub_zero]
    · exact congrFun (k1 (·.loose) (fun _ => rfl) (fun _ _ => rfl) q) k
    · intro hh
      have := hh.2.2
      unfold lse at this
      simp [hf'] at this
theorem Inv3.flag {ds : List Mk} {cp : Cp} (h : Inv3 ds cp) {x : Mk} (h1 : ¬ x.is = 1) (h2 : ¬ x.is = 2) (p : Bp) (p2 : p.loose = (cp x.sd).loose) (p3 : p.rows = (cp x.sd).rows) (p4 : p.told = (cp x.sd).told) : Inv3 (ds ++ [x]) (cp.set x.sd p) := by
  refine h.more (fun q s => ?_) (fun q s => ?_) (fun q k => ?_)
  · rw [if_neg (fun hh => h1 hh.1), List.append_nil]
    exact congrFun (set_keep (·.rows) cp x.sd p p3 q) s
  · rw [if_neg (fun hh => h2 hh.1), Int.add_zero]
    exact congrFun (set_keep (·.told) cp x.sd p p4 q) s
  · rw [if_neg (fun (hh : x.is = 1 ∧ _) => h1 hh.1), if_neg (fun (hh : x.is = 2 ∧ _) => h2 hh.1), Int.add_zero, Int.sub_zero]
    exact congrFun (set_keep (·.loose) cp x.sd p p2 q) k
theorem Inv3.step {ds : List Mk} {cp : Cp} (h : Inv3 ds cp) (x : Mk) (h0 : (takeJ cp x).2 = 0) : Inv3 (ds ++ [x]) (takeJ cp x).1 := by
  unfold takeJ at h0 ⊢
  by_cases hb : x.host ≠ 0 ∧ x.host ≠ 1
  · rw [if_pos hb] at h0; exact absurd h0 (by simp)
  rw [if_neg hb] at h0 ⊢
  by_cases h1 : x.is = 1
  · rw [if_pos h1] at h0 ⊢
    unfold sentJ at h0 ⊢
    by_cases hc : (cp x.sd).shuts = true ∨ (cp x.sd).ended = true
    · rw [if_pos hc] at h0; exact absurd h0 (by simp)
    · rw [if_neg hc]
      exact h.sent h1
  rw [if_neg h1] at h0 ⊢
  by_cases h2 : x.is = 2
  · rw [if_pos h2] at h0 ⊢
    by_cases hf : x.mfree = true
    · rw [if_pos hf] at h0 ⊢
      unfold gotFreeJ at h0 ⊢
      by_cases hc : (cp (oth x.sd)).loose x.msg.cn = 0
      · rw [if_pos hc] at h0; exact absurd h0 (by simp)
      · rw [if_neg hc]
        exact h.gotF h2 hf
    · rw [if_neg hf] at h0 ⊢
      unfold gotNextJ at h0 ⊢
      cases hy : ((cp (oth x.sd)).rows x.msg.st)[((cp x.sd).told x.msg.st).toNat]? with
      | none => rw [hy] at h0; exact absurd h0 (by simp)
      | some y =>
        rw [hy] at h0
        by_cases ha : alikeJ y x.msg = true
        · simp only [ha, if_true]
          exact h.gotN h2 (by simpa using hf)
        · simp only [ha] at h0
          exact absurd h0 (by simp)
  rw [if_neg h2] at h0 ⊢
  by_cases h3 : x.is = 3
  · rw [if_pos h3] at h0 ⊢
    unfold noticeJ at h0 ⊢
    by_cases c1 : x.note < 1 ∨ 5 < x.note
    · rw [if_pos c1] at h0; exact absurd h0 (by simp)
    rw [if_neg c1] at h0 ⊢
    by_cases c2 : (cp x.sd).ended = true ∨ ((cp x.sd).came = true ∧ x.note = 1)
    · rw [if_pos c2] at h0; exact absurd h0 (by simp)
    rw [if_neg c2] at h0 ⊢
    by_cases c3 : x.note = 2 ∧ (cp x.sd).came = false
    · rw [if_pos c3] at h0; exact absurd h0 (by simp)
    rw [if_neg c3]
    by_cases c4 : x.note = 1
    · rw [if_pos c4]
      exact h.flag h1 h2 _ rfl rfl rfl
    · rw [if_neg c4]
      exact h.flag h1 h2 _ rfl rfl rfl
  rw [if_neg h3] at h0 ⊢
  by_cases h4 : x.is = 4
  · rw [if_pos h4] at h0 ⊢
    unfold shutJ at h0 ⊢
    by_cases c1 : (cp x.sd).shuts = true
    · rw [if_pos c1] at h0; exact absurd h0 (by simp)
    rw [if_neg c1] at h0 ⊢
    by_cases c2 : (cp x.sd).ended = true
    · rw [if_pos c2] at h0; exact absurd h0 (by simp)
    rw [if_neg c2]
    exact h.flag h1 h2 _ rfl rfl rfl
  rw [if_neg h4] at h0
  exact absurd h0 (by simp)
theorem inv_at {dd : List Mk} (h : (jdg dd).2.1 = 0) : ∀ j, j ≤ dd.length → Inv (dd.take j) (cpAt dd j) ∧ Inv3 (dd.take j) (cpAt dd j)
  | 0, _ => ⟨Inv.nil, Inv3.nil⟩
  | j + 1, hj => by
    obtain ⟨i1, i2⟩ := inv_at h j (by omega)
    obtain ⟨x, hx⟩ : ∃ x, dd[j]? = some x := ⟨_, List.getElem?_eq_getElem (by omega)⟩
    have h0 := jdg_ok h j x hx
    rw [cpAt_succ dd j x hx, List.take_add_one, hx]
    exact ⟨i1.step x h0, i2.step x h0⟩
/-- Which of what was sent on the stream of m is the t-th, and whether it is m. -/
def goodJ (m : Mg) (t : Nat) (L : List Mg) : Bool := match (L.filter (nxt m.st))[t]? with | some y => alkJ y m | none => false
theorem goodJ_snoc (m : Mg) (t : Nat) (L : List Mg) (y : Mg) : goodJ m t (L ++ [y]) = if nxt m.st y = true then (goodJ m t L || (decide ((L.countP (nxt m.st)) = t) && alkJ y m)) else goodJ m t L := by
  unfold goodJ
  rw [List.filter_append]
  by_cases hn : nxt m.st y = true
  · rw [if_pos hn, show [y].filter (nxt m.st) = [y] by simp [hn], List.countP_eq_length_filter]
    by_cases ht : t < (L.filter (nxt m.st)).length
    · rw [List.getElem?_append_left ht]
      rw [show decide ((L.filter (nxt m.st)).length = t) = false by simp; omega]
      simp
    · rw [List.getElem?_append_right (by omega), List.getElem?_eq_none (l := L.filter (nxt m.st)) (by omega)]
      by_cases he : (L.filter (nxt m.st)).length = t
      · simp [he]
      · have : t - (L.filter (nxt m.st)).length ≠ 0 := by omega
        rw [List.getElem?_eq_none (by simp; omega)]
        simp [he]
  · rw [if_neg hn, show [y].filter (nxt m.st) = [] by simp [hn], List.append_nil]
theorem gets_math {dd : List Mk} (h : (jdg dd).2.1 = 0) {i : Nat} {x : Mk} (hx : dd[i]? = some x) (h2 : x.is = 2) :
    H01 x.sd ∧ (x.mfree = true → (gotL (dd.take i) x.sd).countP (fun y => alkJ y x.msg) < (sentL (dd.take i) (oth x.sd)).countP (fun y => alkJ y x.msg)) ∧
      (x.mfree = false → goodJ x.msg ((gotL (dd.take i) x.sd).countP (nxt x.mst)) (sentL (dd.take i) (oth x.sd)) = true) := by
  have hi := (List.getElem?_eq_some_iff.1 hx).1
  obtain ⟨i1, i2⟩ := inv_at h i (by omega)
  have h0 := jdg_ok h i x hx
  have hh : H01 x.sd := by
    have := (inv_at h (i + 1) (by omega)).1.hosts x (by rw [List.take_add_one, hx]; simp)
    exact this
  have hb : ¬ (x.host ≠ 0 ∧ x.host ≠ 1) := by
    have : x.host = 0 ∨ x.host = 1 := hh
    omega
  unfold takeJ at h0
  rw [if_neg hb, if_neg (by omega), if_pos h2] at h0
  refine ⟨hh, fun hf => ?_, fun hf => ?_⟩
  · have hf' : x.msg.free = true := hf
    have hl : (fun y => alkJ y x.msg) = lse x.msg.cn := by
      funext y
      unfold alkJ lse Mg.cn
      rw [hf']
      cases y.free
      · simp
      · by_cases h1 : y.st = x.msg.st <;> by_cases h2 : y.pp = x.msg.pp <;> by_cases h3 : y.zs = x.msg.zs <;> simp [h1, h2, h3]
    rw [hl]
    rw [if_pos hf] at h0
    unfold gotFreeJ at h0
    by_cases hc : (cpAt dd i (oth x.sd)).loose x.msg.cn = 0
    · rw [if_pos hc] at h0; exact absurd h0 (by simp)
    have hp := (i1.st _ hh.oth).loose x.msg.cn
    have hq := i2.cnt (oth x.sd) x.msg.cn
    rw [oth_oth] at hq
    omega
  · have hf' : x.msg.free = false := hf
    rw [if_neg (by simp [hf])] at h0
    unfold gotNextJ at h0
    rw [i2.rows, i2.told] at h0
    unfold goodJ
    rw [show ((((gotL (dd.take i) x.sd).countP (nxt x.msg.st) : Nat) : Int)).toNat = (gotL (dd.take i) x.sd).countP (nxt x.mst) from rfl] at h0
    cases hy : ((sentL (dd.take i) (oth x.sd)).filter (nxt x.msg.st))[(gotL (dd.take i) x.sd).countP (nxt x.mst)]? with
    | none => rw [hy] at h0; exact absurd h0 (by simp)
    | some y =>
      rw [hy] at h0
      show alkJ y x.msg = true
      have hm := List.mem_filter.1 (List.mem_of_getElem? hy)
      have hn := hm.2
      unfold nxt at hn
      simp only [Bool.and_eq_true, Bool.not_eq_true', decide_eq_true_eq] at hn
      by_cases ha : alikeJ y x.msg = true
      · unfold alikeJ at ha
        unfold alkJ
        rw [decide_eq_true_eq] at ha ⊢
        exact ⟨hn.2, ha.1, by rw [hn.1, hf'], ha.2⟩
      · simp only [ha] at h0
        exact absurd h0 (by simp)
end Go.Proofs.Ytpdnkbhgobdniaa
