/- Mathematics of JudgeTells and JudgeOwes: the two judgements are one. -/
import Derived.Test.YtpdnkbhgobdniaaJdP
namespace Go.Proofs.Ytpdnkbhgobdniaa
open Go.RowKit Go.MapKept Go.Maps
theorem leftJ_eq (ds : List Mk) (q : Sd) : leftJ ds q = ds.foldl (leftStep q) (sentL ds q) := by unfold leftJ leftTo; rw [List.take_length]
/-- What is sent later lies behind, whatever was told. -/
def Ext (ds : List Mk) (q : Sd) : Prop := ∀ E, ds.foldl (leftStep q) (sentL ds q ++ E) = leftJ ds q ++ E
theorem left_sent {ds : List Mk} {x : Mk} {q : Sd} (hE : Ext ds q) (h1 : x.is = 1) (hs : x.sd = q) : leftJ (ds ++ [x]) q = leftJ ds q ++ [x.msg] ∧ Ext (ds ++ [x]) q := by
  have e : sentL (ds ++ [x]) q = sentL ds q ++ [x.msg] := by rw [sentL_snoc, if_pos (by unfold ofJ; simp [h1, hs])]
  have hst : ∀ L, leftStep q L x = L := fun L => by unfold leftStep; rw [if_neg (fun h => by omega)]
  have e1 : leftJ (ds ++ [x]) q = leftJ ds q ++ [x.msg] := by rw [leftJ_eq, e, List.foldl_append, hE]; exact hst _
  refine ⟨e1, fun E => ?_⟩
  rw [e, e1, List.foldl_append, List.append_assoc, hE, ← List.append_assoc]
  exact hst _
theorem left_got {ds : List Mk} {x : Mk} {q : Sd} (hE : Ext ds q) (h2 : x.is = 2) (ho : ofJ x (othW q) = true) (hh : (leftJ ds q).any (fitsJ x.msg) = true) : leftJ (ds ++ [x]) q = (leftJ ds q).eraseP (fitsJ x.msg) ∧ Ext (ds ++ [x]) q := by
  have e : sentL (ds ++ [x]) q = sentL ds q := by rw [sentL_snoc, if_neg (by simp [h2]), List.append_nil]
  have hst : ∀ L, leftStep q L x = L.eraseP (fitsJ x.msg) := fun L => by unfold leftStep; rw [if_pos ⟨h2, ho⟩]
  have e1 : leftJ (ds ++ [x]) q = (leftJ ds q).eraseP (fitsJ x.msg) := by rw [leftJ_eq, e, List.foldl_append, ← leftJ_eq]; exact hst _
  refine ⟨e1, fun E => ?_⟩
  rw [e, e1, List.foldl_append, hE]
  obtain ⟨y, hy, hp⟩ := List.any_eq_true.1 hh
  rw [← List.eraseP_append_left hp _ hy]
  exact hst _
theorem left_other {ds : List Mk} {x : Mk} {q : Sd} (hE : Ext ds q) (h1 : ¬ (x.is = 1 ∧ x.sd = q)) (h2 : ¬ (x.is = 2 ∧ ofJ x (othW q) = true)) : leftJ (ds ++ [x]) q = leftJ ds q ∧ Ext (ds ++ [x]) q := by
  have e : sentL (ds ++ [x]) q = sentL ds q := by
    rw [sentL_snoc, if_neg, List.append_nil]
    unfold ofJ
    intro h
    simp only [Bool.and_eq_true, decide_eq_true_eq] at h
    exact h1 h
  have hst : ∀ L, leftStep q L x = L := fun L => by unfold leftStep; rw [if_neg h2]
  have e1 : leftJ (ds ++ [x]) q = leftJ ds q := by rw [leftJ_eq, e, List.foldl_append, ← leftJ_eq]; exact hst _
  refine ⟨e1, fun E => ?_⟩
  rw [e, e1, List.foldl_append, hE]
  exact hst _
def H01 (q : Sd) : Prop := q.1 = 0 ∨ q.1 = 1
theorem oth_oth (q : Sd) : oth (oth q) = q := by
  obtain ⟨a, b, c⟩ := q
  show ((1 : Int) - (1 - a), b, c) = (a, b, c)
  rw [show (1 : Int) - (1 - a) = a by omega]
theorem oth_inj {p q : Sd} (h : oth p = q) : p = oth q := by rw [← h, oth_oth]
theorem H01.oth {q : Sd} (h : H01 q) : H01 (oth q) := by
  unfold H01 at h ⊢
  show (1 : Int) - q.1 = 0 ∨ (1 : Int) - q.1 = 1
  omega
theorem othW_eq {q : Sd} (h : H01 q) : othW q = oth q := by
  obtain ⟨a, b, c⟩ := q
  rcases h with h | h
  · obtain rfl : a = 0 := h
    show (wrap64 ((1 : Int) - 0), c, b) = ((1 : Int) - 0, c, b)
    rw [show wrap64 ((1 : Int) - 0) = (1 : Int) - 0 by unfold wrap64; omega]
  · obtain rfl : a = 1 := h
    show (wrap64 ((1 : Int) - 1), c, b) = ((1 : Int) - 1, c, b)
    rw [show wrap64 ((1 : Int) - 1) = (1 : Int) - 1 by unfold wrap64; omega]
structure Inv (ds : List Mk) (cp : Cp) : Prop where
  hosts : ∀ x ∈ ds, H01 x.sd
  shu : ∀ q, (cp q).shuts = shuJ ds q
  ende : ∀ q, (cp q).ended = endJ ds q
  cam : ∀ q, (cp q).came = camJ ds q
  ext : ∀ q, H01 q → Ext ds q
  st : ∀ q, H01 q → St (leftJ ds q) (cp q) (cp (oth q))
  off : ∀ q, ¬ H01 q → (cp q).owed = 0
theorem Inv.nil : Inv [] (fun _ => Bp.empty) where
  hosts := fun x hx => absurd hx (by simp)
  shu := fun q => rfl
  ende := fun q => rfl
  cam := fun q => rfl
  ext := fun q _ E => rfl
  st := fun q _ => ⟨rfl, fun k => rfl, fun s => Int.le_refl _, fun s => Nat.le_refl _, fun s => rfl⟩
  off := fun q _ => rfl
theorem Inv.got {ds : List Mk} {cp : Cp} (h : Inv ds cp) {x : Mk} (hx : H01 x.sd) : (x.mfree = true → gotR x.msg (leftJ ds (oth x.sd)) = (gotFreeJ cp x.sd x.msg).2) ∧ (x.mfree = false → gotR x.msg (leftJ ds (oth x.sd)) = (gotNextJ cp x.sd x.msg).2) := by
  have hs := h.st _ hx.oth
  rw [oth_oth] at hs
  refine ⟨fun hf => ?_, fun hf => ?_⟩
  · have hf' : x.msg.free = true := hf
    have hi := hs.hitFree hf'
    rw [gotR_free hf']
    unfold gotFreeJ
    by_cases h0 : (cp (oth x.sd)).loose x.msg.cn = 0
    · rw [if_pos h0, if_neg (hi.1 h0)]
    · rw [if_neg h0, if_pos]
      by_cases ha : (leftJ ds (oth x.sd)).any (fitsJ x.msg) = true
      · exact ha
      · exact absurd (hi.2 ha) h0
  · have hf' : x.msg.free = false := hf
    rw [gotR_next hf', hs.row, List.getElem?_drop, Nat.add_zero]
    unfold gotNextJ
    cases ((cp (oth x.sd)).rows x.msg.st)[((cp x.sd).told x.msg.st).toNat]? with
    | none => rfl
    | some y =>
      show (if _ then _ else _) = (if _ then _ else _ : Cp × Int).2
      by_cases ha : alikeJ y x.msg = true
      · rw [if_pos ha, if_pos ha]
      · rw [if_neg ha, if_neg ha]
theorem Inv.err {ds : List Mk} {cp : Cp} (h : Inv ds cp) (x : Mk) : (takeJ cp x).2 = oneJ ds x := by
  unfold takeJ oneJ
  by_cases h0 : x.host ≠ 0 ∧ x.host ≠ 1
  · rw [if_pos h0, if_pos h0]
  rw [if_neg h0, if_neg h0]
  have hx : H01 x.sd := by
    show x.host = 0 ∨ x.host = 1
    omega
  by_cases h1 : x.is = 1
  · rw [if_pos h1, if_pos h1]
    unfold sentJ
    rw [h.shu, h.ende]
    by_cases hc : shuJ ds x.sd = true ∨ endJ ds x.sd = true
    · rw [if_pos hc, if_pos hc]
    · rw [if_neg hc, if_neg hc]
  rw [if_neg h1, if_neg h1]
  by_cases h2 : x.is = 2
  · rw [if_pos h2, if_pos h2]
    by_cases hf : x.mfree = true
    · rw [if_pos hf]
      exact ((h.got hx).1 hf).symm
    · rw [if_neg hf]
      exact ((h.got hx).2 (by simpa using hf)).symm
  rw [if_neg h2, if_neg h2]
  by_cases h3 : x.is = 3
  · rw [if_pos h3, if_pos h3]
    unfold noticeJ
    rw [h.ende, h.cam]
    by_cases c1 : x.note < 1 ∨ 5 < x.note
    · rw [if_pos c1, if_pos c1]
    rw [if_neg c1, if_neg c1]
    by_cases c2 : endJ ds x.sd = true ∨ (camJ ds x.sd = true ∧ x.note = 1)
    · rw [if_pos c2, if_pos c2]
    rw [if_neg c2, if_neg c2]
    by_cases c3 : x.note = 2 ∧ camJ ds x.sd = false
    · rw [if_pos c3, if_pos c3]
    rw [if_neg c3, if_neg c3]
    by_cases c4 : x.note = 1
    · rw [if_pos c4]
    · rw [if_neg c4]
  rw [if_neg h3, if_neg h3]
  by_cases h4 : x.is = 4
  · rw [if_pos h4, if_pos h4]
    unfold shutJ
    rw [h.shu, h.ende]
    by_cases c1 : shuJ ds x.sd = true
    · rw [if_pos c1, if_pos c1]
    rw [if_neg c1, if_neg c1]
    by_cases c2 : endJ ds x.sd = true
    · rw [if_pos c2, if_pos c2]
    · rw [if_neg c2, if_neg c2]
  rw [if_neg h4, if_neg h4]
theorem set_on (cp : Cp) (q : Sd) (p : Bp) : cp.set q p q = p := if_pos rfl
theorem set_off (cp : Cp) {q q' : Sd} (p : Bp) (h : q' ≠ q) : cp.set q p q' = cp q' := if_neg h
/-- A mark more, by what each of its parts makes. -/
theorem Inv.more {ds : List Mk} {cp cp' : Cp} (h : Inv ds cp) {x : Mk} (hx : H01 x.sd)
    (f1 : ∀ q, (cp' q).shuts = ((cp q).shuts || (ofJ x q && decide (x.is = 4))))
    (f2 : ∀ q, (cp' q).ended = ((cp q).ended || (ofJ x q && (decide (x.is = 3) && decide (¬ x.note = 1)))))
    (f3 : ∀ q, (cp' q).came = ((cp q).came || (ofJ x q && (decide (x.is = 3) && decide (x.note = 1)))))
    (f4 : ∀ q, H01 q → Ext (ds ++ [x]) q ∧ St (leftJ (ds ++ [x]) q) (cp' q) (cp' (oth q)))
    (f5 : ∀ q, ¬ H01 q → cp' q = cp q) : Inv (ds ++ [x]) cp' where
  hosts := fun y hy => by
    rcases List.mem_append.1 hy with hy | hy
    · exact h.hosts y hy
    · rw [List.mem_singleton.1 hy]; exact hx
  shu := fun q => by rw [f1, shuJ_snoc, h.shu]
  ende := fun q => by rw [f2, endJ_snoc, h.ende]
  cam := fun q => by rw [f3, camJ_snoc, h.cam]
  ext := fun q hq => (f4 q hq).1
  st := fun q hq => (f4 q hq).2
  off := fun q hq => by rw [f5 q hq]; exact h.off q hq
theorem push_flags (p : Bp) (m : Mg) : (p.push m).shuts = p.shuts ∧ (p.push m).ended = p.ended ∧ (p.push m).came = p.came ∧ (p.push m).told = p.told := by
  unfold Bp.push
  by_cases hf : m.free = true
  · rw [if_pos hf]; exact ⟨rfl, rfl, rfl, rfl⟩
  · rw [if_neg hf]; exact ⟨rfl, rfl, rfl, rfl⟩
/-- A book changed at one side: a field that stays, stays everywhere. -/
theorem set_keep {α : Type} (f : Bp → α) (cp : Cp) (q0 : Sd) (p : Bp) (h : f p = f (cp q0)) (q : Sd) : f (cp.set q0 p q) = f (cp q) := by
  by_cases hq : q = q0
  · rw [hq, set_on, h]
  · rw [set_off cp p hq]
theorem Inv.sent {ds : List Mk} {cp : Cp} (h : Inv ds cp) {x : Mk} (hx : H01 x.sd) (h1 : x.is = 1) : Inv (ds ++ [x]) (cp.set x.sd ((cp x.sd).push x.msg)) := by
  have hp := push_flags (cp x.sd) x.msg
  refine h.more hx (fun q => ?_) (fun q => ?_) (fun q => ?_) (fun q hq => ?_) (fun q hq => ?_)
  · rw [set_keep (·.shuts) cp x.sd _ hp.1 q]; simp [h1]
  · rw [set_keep (·.ended) cp x.sd _ hp.2.1 q]; simp [h1]
  · rw [set_keep (·.came) cp x.sd _ hp.2.2.1 q]; simp [h1]
  · by_cases he : x.sd = q
    · obtain ⟨e1, e2⟩ := left_sent (h.ext q hq) h1 he
      refine ⟨e2, ?_⟩
      rw [e1, he, set_on, set_off cp _ (oth_ne q)]
      exact (h.st q hq).push _
    · obtain ⟨e1, e2⟩ := left_other (h.ext q hq) (fun hh => he hh.2) (fun hh => by omega)
      refine ⟨e2, ?_⟩
      rw [e1, set_off cp _ (Ne.symm he)]
      exact (h.st q hq).congr rfl rfl rfl (set_keep (·.told) cp x.sd _ hp.2.2.2 _)
  · rw [set_off]
    intro e
    rw [e] at hq
    exact hq hx
theorem of_oth {x : Mk} {q : Sd} (hq : H01 q) : ofJ x (othW q) = true ↔ q = oth x.sd := by
  unfold ofJ
  rw [othW_eq hq, decide_eq_true_eq]
  exact ⟨fun h => by rw [h, oth_oth], fun h => by rw [h, oth_oth]⟩
theorem Inv.gotF {ds : List Mk} {cp : Cp} (h : Inv ds cp) {x : Mk} (hx : H01 x.sd) (h2 : x.is = 2) (hf : x.mfree = true) (h0 : ¬ (cp (oth x.sd)).loose x.msg.cn = 0) : Inv (ds ++ [x]) (cp.set (oth x.sd) ((cp (oth x.sd)).gone x.msg.cn)) := by
  have hf' : x.msg.free = true := hf
  refine h.more hx (fun q => ?_) (fun q => ?_) (fun q => ?_) (fun q hq => ?_) (fun q hq => ?_)
  · rw [set_keep (·.shuts) cp (oth x.sd) ((cp (oth x.sd)).gone x.msg.cn) rfl q]; simp [h2]
  · rw [set_keep (·.ended) cp (oth x.sd) ((cp (oth x.sd)).gone x.msg.cn) rfl q]; simp [h2]
  · rw [set_keep (·.came) cp (oth x.sd) ((cp (oth x.sd)).gone x.msg.cn) rfl q]; simp [h2]
  · by_cases he : q = oth x.sd
    · have hs := h.st q hq
      have hh : (leftJ ds q).any (fitsJ x.msg) = true := by
        by_cases ha : (leftJ ds q).any (fitsJ x.msg) = true
        · exact ha
        · exact absurd ((hs.hitFree hf').2 ha) (by rw [he]; exact h0)
      obtain ⟨e1, e2⟩ := left_got (h.ext q hq) h2 ((of_oth hq).2 he) hh
      refine ⟨e2, ?_⟩
      rw [e1, ← he, set_on, set_off cp _ (oth_ne q)]
      exact hs.gone hf' hh
    · obtain ⟨e1, e2⟩ := left_other (h.ext q hq) (fun hh => by omega) (fun hh => he ((of_oth hq).1 hh.2))
      refine ⟨e2, ?_⟩
      rw [e1, set_off cp _ he]
      exact (h.st q hq).congr rfl rfl rfl (set_keep (·.told) cp (oth x.sd) ((cp (oth x.sd)).gone x.msg.cn) rfl _)
  · rw [set_off]
    intro e
    rw [e] at hq
    exact hq hx.oth
theorem Inv.gotN {ds : List Mk} {cp : Cp} (h : Inv ds cp) {x : Mk} (hx : H01 x.sd) (h2 : x.is = 2) (hf : x.mfree = false) {y : Mg} (hy : ((cp (oth x.sd)).rows x.msg.st)[((cp x.sd).told x.msg.st).toNat]? = some y) :
    Inv (ds ++ [x]) ((cp.set x.sd ((cp x.sd).tell x.msg.st)).set (oth x.sd) (cp (oth x.sd)).less) := by
  have hf' : x.msg.free = false := hf
  have k1 : ∀ {α : Type} (f : Bp → α), (∀ p : Bp, f p.less = f p) → (∀ (p : Bp) s, f (p.tell s) = f p) → ∀ q, f (((cp.set x.sd ((cp x.sd).tell x.msg.st)).set (oth x.sd) (cp (oth x.sd)).less) q) = f (cp q) := by
    intro α f hl ht q
    rw [set_keep f _ (oth x.sd) _ (by rw [hl, set_off cp _ (oth_ne x.sd)]) q, set_keep f cp x.sd _ (ht _ _) q]
  refine h.more hx (fun q => ?_) (fun q => ?_) (fun q => ?_) (fun q hq => ?_) (fun q hq => ?_)
  · rw [k1 (·.shuts) (fun _ => rfl) (fun _ _ => rfl) q]; simp [h2]
  · rw [k1 (·.ended) (fun _ => rfl) (fun _ _ => rfl) q]; simp [h2]
  · rw [k1 (·.came) (fun _ => rfl) (fun _ _ => rfl) q]; simp [h2]
  · by_cases he : q = oth x.sd
    · have hs := h.st q hq
      have hy' : ((cp q).rows x.msg.st)[((cp (oth q)).told x.msg.st).toNat]? = some y := by rw [he, oth_oth]; exact hy
      obtain ⟨e1, e2⟩ := left_got (h.ext q hq) h2 ((of_oth hq).2 he) (hs.hitNext hf' hy')
      refine ⟨e2, ?_⟩
      have ho : oth q = x.sd := by rw [he, oth_oth]
      rw [e1, ← he, set_on, set_off _ _ (oth_ne q), ← ho, set_on]
      exact hs.tell hf' hy'
    · obtain ⟨e1, e2⟩ := left_other (h.ext q hq) (fun hh => by omega) (fun hh => he ((of_oth hq).1 hh.2))
      refine ⟨e2, ?_⟩
      rw [e1, set_off _ _ he]
      have ho : oth q ≠ x.sd := fun e => he (by rw [← e, oth_oth])
      refine (h.st q hq).congr ?_ ?_ ?_ ?_
      · exact set_keep (·.owed) cp x.sd ((cp x.sd).tell x.msg.st) rfl q
      · exact set_keep (·.loose) cp x.sd ((cp x.sd).tell x.msg.st) rfl q
      · exact set_keep (·.rows) cp x.sd ((cp x.sd).tell x.msg.st) rfl q
      · rw [set_keep (·.told) _ (oth x.sd) _ (by rw [set_off cp _ (oth_ne x.sd)]; rfl) (oth q), set_off cp _ ho]
  · rw [set_off, set_off]
    · intro e; rw [e] at hq; exact hq hx
    · intro e; rw [e] at hq; exact hq hx.oth
theorem Inv.flag {ds : List Mk} {cp : Cp} (h : Inv ds cp) {x : Mk} (hx : H01 x.sd) (h1 : ¬ x.is = 1) (h2 : ¬ x.is = 2) (p : Bp) (p1 : p.owed = (cp x.sd).owed) (p2 : p.loose = (cp x.sd).loose) (p3 : p.rows = (cp x.sd).rows) (p4 : p.told = (cp x.sd).told)
    (p5 : p.shuts = ((cp x.sd).shuts || decide (x.is = 4))) (p6 : p.ended = ((cp x.sd).ended || (decide (x.is = 3) && decide (¬ x.note = 1)))) (p7 : p.came = ((cp x.sd).came || (decide (x.is = 3) && decide (x.note = 1)))) : Inv (ds ++ [x]) (cp.set x.sd p) := by
  have kf : ∀ (f : Bp → Bool) (b : Bool), f p = (f (cp x.sd) || b) → ∀ q, f (cp.set x.sd p q) = (f (cp q) || (ofJ x q && b)) := by
    intro f b hb q
    by_cases hq : x.sd = q
    · rw [← hq, set_on, hb]; unfold ofJ; simp
    · rw [set_off cp _ (Ne.symm hq)]; unfold ofJ; simp [hq]
  refine h.more hx (kf (·.shuts) _ p5) (kf (·.ended) _ p6) (kf (·.came) _ p7) (fun q hq => ?_) (fun q hq => ?_)
  · obtain ⟨e1, e2⟩ := left_other (h.ext q hq) (fun hh => h1 hh.1) (fun hh => h2 hh.1)
    refine ⟨e2, ?_⟩
    rw [e1]
    exact (h.st q hq).congr (set_keep (·.owed) cp x.sd p p1 q) (set_keep (·.loose) cp x.sd p p2 q) (set_keep (·.rows) cp x.sd p p3 q) (set_keep (·.told) cp x.sd p p4 _)
  · rw [set_off]
    intro e
    rw [e] at hq
    exact hq hx
theorem Inv.step {ds : List Mk} {cp : Cp} (h : Inv ds cp) (x : Mk) (h0 : (takeJ cp x).2 = 0) : Inv (ds ++ [x]) (takeJ cp x).1 := by
  unfold takeJ at h0 ⊢
  by_cases hb : x.host ≠ 0 ∧ x.host ≠ 1
  · rw [if_pos hb] at h0; exact absurd h0 (by simp)
  rw [if_neg hb] at h0 ⊢
  have hx : H01 x.sd := by
    show x.host = 0 ∨ x.host = 1
    omega
  by_cases h1 : x.is = 1
  · rw [if_pos h1] at h0 ⊢
    unfold sentJ at h0 ⊢
    by_cases hc : (cp x.sd).shuts = true ∨ (cp x.sd).ended = true
    · rw [if_pos hc] at h0; exact absurd h0 (by simp)
    · rw [if_neg hc]
      exact h.sent hx h1
  rw [if_neg h1] at h0 ⊢
  by_cases h2 : x.is = 2
  · rw [if_pos h2] at h0 ⊢
    by_cases hf : x.mfree = true
    · rw [if_pos hf] at h0 ⊢
      unfold gotFreeJ at h0 ⊢
      by_cases hc : (cp (oth x.sd)).loose x.msg.cn = 0
      · rw [if_pos hc] at h0; exact absurd h0 (by simp)
      · rw [if_neg hc]
        exact h.gotF hx h2 hf hc
    · rw [if_neg hf] at h0 ⊢
      unfold gotNextJ at h0 ⊢
      cases hy : ((cp (oth x.sd)).rows x.msg.st)[((cp x.sd).told x.msg.st).toNat]? with
      | none => rw [hy] at h0; exact absurd h0 (by simp)
      | some y =>
        rw [hy] at h0
        by_cases ha : alikeJ y x.msg = true
        · simp only [ha, if_true]
          exact h.gotN hx h2 (by simpa using hf) hy
        · simp only [ha] at h0
          exact absurd h0 (by simp)
  rw [if_neg h2] at h0 ⊢
  by_cases h3 : x.is = 3
  · rw [if_pos h3] at h0 ⊢
    unfold noticeJ at h0 ⊢
    by_cases c1 : x.note < 1 ∨ 5 < x.note
    · rw [if_pos c1] at h0; exact absurd h0 (by simp)
    rw [if_neg c1] at h0 ⊢
    by_cases c2 : (cp x.sd).ended = true ∨ ((cp x.sd).came = true ∧ x.note = 1)
    · rw [if_pos c2] at h0; exact absurd h0 (by simp)
    rw [if_neg c2] at h0 ⊢
    by_cases c3 : x.note = 2 ∧ (cp x.sd).came = false
    · rw [if_pos c3] at h0; exact absurd h0 (by simp)
    rw [if_neg c3]
    by_cases c4 : x.note = 1
    · rw [if_pos c4]
      exact h.flag hx h1 h2 _ rfl rfl rfl rfl (by simp [h3]) (by simp [c4]) (by simp [h3, c4])
    · rw [if_neg c4]
      exact h.flag hx h1 h2 _ rfl rfl rfl rfl (by simp [h3]) (by simp [h3, c4]) (by simp [c4])
  rw [if_neg h3] at h0 ⊢
  by_cases h4 : x.is = 4
  · rw [if_pos h4] at h0 ⊢
    unfold shutJ at h0 ⊢
    by_cases c1 : (cp x.sd).shuts = true
    · rw [if_pos c1] at h0; exact absurd h0 (by simp)
    rw [if_neg c1] at h0 ⊢
    by_cases c2 : (cp x.sd).ended = true
    · rw [if_pos c2] at h0; exact absurd h0 (by simp)
    rw [if_neg c2]
    exact h.flag hx h1 h2 _ rfl rfl rfl rfl (by simp [h4]) (by simp [h3]) (by simp [h3])
  rw [if_neg h4] at h0
  exact absurd h0 (by simp)
theorem hear_jud : ∀ (l pre : List Mk) (cp : Cp), Inv pre cp → (judF pre l).1 = pre.length + (hearJ cp l).1 ∧ (judF pre l).2 = (hearJ cp l).2.1 ∧ ((hearJ cp l).2.1 = 0 → Inv (pre ++ l) (hearJ cp l).2.2)
  | [], pre, cp, h => ⟨rfl, rfl, fun _ => by rw [List.append_nil]; exact h⟩
  | x :: l, pre, cp, h => by
    have he := h.err x
    unfold judF hearJ
    rw [← he]
    by_cases h0 : (takeJ cp x).2 = 0
    · rw [if_pos h0, if_pos h0]
      obtain ⟨i1, i2, i3⟩ := hear_jud l (pre ++ [x]) _ (h.step x h0)
      rw [List.length_append] at i1
      refine ⟨?_, i2, fun hz => ?_⟩
      · rw [i1]
        show pre.length + 1 + _ = pre.length + (_ + 1)
        omega
      · have := i3 hz
        rw [List.append_assoc] at this
        exact this
    · rw [if_neg h0, if_neg h0]
      exact ⟨rfl, rfl, fun hz => absurd hz h0⟩
theorem jud_jdg (dd : List Mk) : (judF [] dd).1 = (jdg dd).1 ∧ (judF [] dd).2 = (jdg dd).2.1 ∧ ((jdg dd).2.1 = 0 → Inv dd (jdg dd).2.2) := by
  obtain ⟨h1, h2, h3⟩ := hear_jud dd [] _ Inv.nil
  exact ⟨by rw [h1]; exact Nat.zero_add _, h2, h3⟩
theorem Inv.owed {ds : List Mk} {cp : Cp} (h : Inv ds cp) (q : Sd) : (cp q).owed = ((leftJ ds q).length : Nat) := by
  by_cases hq : H01 q
  · exact (h.st q hq).owed
  · rw [h.off q hq]
    have hs : sentL ds q = [] := by
      unfold sentL
      rw [List.map_eq_nil_iff, List.filter_eq_nil_iff]
      intro x hx hc
      unfold ofJ at hc
      simp only [Bool.and_eq_true, decide_eq_true_eq] at hc
      exact hq (hc.2 ▸ h.hosts x hx)
    have hl := (leftTo_sub ds q ds.length (Nat.le_refl _)).length_le
    rw [hs] at hl
    unfold leftJ
    simp at hl
    rw [hl]
    rfl
end Go.Proofs.Ytpdnkbhgobdniaa
