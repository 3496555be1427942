/- judge as mathematics: messages, a side's book, what a mark makes of the books. -/
import Derived.Test.YtpdnkbhgobdniaaDeedJ
import Derived.Test.YtpdnkbhgobdniaaJdK
import Derived.Test.YtpdnkbhgobdniaaOwnG
namespace Go.Proofs.Ytpdnkbhgobdniaa
open Go.RowKit Go.MapKept Go.Maps
/-- A message as it lies. -/
structure Mg where
  st : Nat
  ssn : Nat
  pp : Nat
  free : Bool
  a : Option Addr
  n : Nat
  c : Nat
  zs : List Nat
def Mg.cells (m : Mg) : List Value := [.int .u16 (m.st : Nat), .int .u16 (m.ssn : Nat), .int .u32 (m.pp : Nat), .bool m.free, .slice m.a m.n m.c]
structure Mg.Ok (w : World) (m : Mg) : Prop where
  st : m.st < 65536
  ssn : m.ssn < 65536
  pp : m.pp < 4294967296
  sl : Sl w m.a m.n m.c m.zs
  cap : m.n ≤ 140737488351232
theorem Mg.Ok.below {w w' : World} {m : Mg} (h : m.Ok w) (hb : Below w.heap.size w w') : m.Ok w' := ⟨h.st, h.ssn, h.pp, h.sl.below hb, h.cap⟩
def Mg.cn (m : Mg) : Cn := (m.st, m.pp, m.zs)
theorem Mg.Ok.cnK {w : World} {m : Mg} (h : m.Ok w) : CnK m.cn := ⟨h.st, h.pp, h.sl.bnd, by show m.zs.length ≤ maxLen; rw [h.sl.len]; have := h.sl.cap; have := h.cap; unfold maxLen; omega⟩
def Mk.msg (x : Mk) : Mg := ⟨x.mst, x.mssn, x.mpp, x.mfree, x.mdA, x.mdN, x.mdC, x.mdZ⟩
def Mk.sd (x : Mk) : Sd := (x.host, x.own, x.peer)
theorem Mk.Wf.msg {w : World} {x : Mk} (h : x.Wf w) : x.msg.Ok w := ⟨h.2.2.2.2.1, h.2.2.2.2.2.1, h.2.2.2.2.2.2.1, h.2.2.2.2.2.2.2.1.1, h.2.2.2.2.2.2.2.1.2⟩
theorem Mk.Wf.sd {w : World} {x : Mk} (h : x.Wf w) : SdK x.sd := ⟨h.2.1, h.2.2.1, h.2.2.2.1⟩
def oth (q : Sd) : Sd := (1 - q.1, q.2.2, q.2.1)
/-- What is known of a side. -/
structure Bp where
  rows : Nat → List Mg
  loose : Cn → Int
  told : Nat → Int
  owed : Int
  came : Bool
  ended : Bool
  shuts : Bool
def Bp.empty : Bp := ⟨fun _ => [], fun _ => 0, fun _ => 0, 0, false, false, false⟩
abbrev Cp := Sd → Bp
def Cp.set (cp : Cp) (q : Sd) (p : Bp) : Cp := fun q' => if q' = q then p else cp q'
def Bp.push (p : Bp) (m : Mg) : Bp :=
  if m.free = true then { p with loose := fun k => if k = m.cn then p.loose k + 1 else p.loose k, owed := p.owed + 1 }
  else { p with rows := fun s => if s = m.st then p.rows s ++ [m] else p.rows s, owed := p.owed + 1 }
def sentJ (cp : Cp) (q : Sd) (m : Mg) : Cp × Int :=
  if (cp q).shuts = true ∨ (cp q).ended = true then (cp, 9) else (cp.set q ((cp q).push m), 0)
def Bp.gone (p : Bp) (k : Cn) : Bp := { p with loose := fun k' => if k' = k then p.loose k' - 1 else p.loose k', owed := p.owed - 1 }
def gotFreeJ (cp : Cp) (q : Sd) (m : Mg) : Cp × Int :=
  if (cp (oth q)).loose m.cn = 0 then (cp, 16) else (cp.set (oth q) ((cp (oth q)).gone m.cn), 0)
def Bp.tell (p : Bp) (s : Nat) : Bp := { p with told := fun s' => if s' = s then p.told s' + 1 else p.told s' }
def Bp.less (p : Bp) : Bp := { p with owed := p.owed - 1 }
def alikeJ (a b : Mg) : Bool := decide (a.pp = b.pp ∧ a.zs = b.zs)
def gotNextJ (cp : Cp) (q : Sd) (m : Mg) : Cp × Int :=
  match ((cp (oth q)).rows m.st)[((cp q).told m.st).toNat]? with
  | none => (cp, 16)
  | some y => if alikeJ y m = true then ((cp.set q ((cp q).tell m.st)).set (oth q) (cp (oth q)).less, 0) else (cp, 4)
def noticeJ (cp : Cp) (q : Sd) (n : Int) : Cp × Int :=
  if n < 1 ∨ 5 < n then (cp, 2)
  else if (cp q).ended = true ∨ ((cp q).came = true ∧ n = 1) then (cp, 17)
  else if n = 2 ∧ (cp q).came = false then (cp, 9)
  else if n = 1 then (cp.set q { cp q with came := true }, 0)
  else (cp.set q { cp q with ended := true }, 0)
def shutJ (cp : Cp) (q : Sd) : Cp × Int :=
  if (cp q).shuts = true then (cp, 17) else if (cp q).ended = true then (cp, 9) else (cp.set q { cp q with shuts := true }, 0)
def takeJ (cp : Cp) (x : Mk) : Cp × Int :=
  if x.host ≠ 0 ∧ x.host ≠ 1 then (cp, 2)
  else if x.is = 1 then sentJ cp x.sd x.msg
  else if x.is = 2 then (if x.mfree = true then gotFreeJ cp x.sd x.msg else gotNextJ cp x.sd x.msg)
  else if x.is = 3 then noticeJ cp x.sd x.note
  else if x.is = 4 then shutJ cp x.sd
  else (cp, 11)
/-- How far marks may be, and why no farther; the books behind them. -/
def hearJ (cp : Cp) : List Mk → Nat × Int × Cp
  | [] => (0, 0, cp)
  | x :: l => if (takeJ cp x).2 = 0 then let r := hearJ (takeJ cp x).1 l; (r.1 + 1, r.2) else (0, (takeJ cp x).2, (takeJ cp x).1)
def bval (r l t : Nat) (p : Bp) : Value := .agg #[.map (some r), .map (some l), .map (some t), .int .i64 p.owed, .bool p.came, .bool p.ended, .bool p.shuts]
abbrev Ow := Nat → Option (Sd × Nat)
theorem mgLays : Lays Try.prog 33 41 5 40 Mg.cells where
  under := Try.underlying33
  info := ⟨.agg #[.int .u16 0, .int .u16 0, .int .u32 0, .bool false, .slice none 0 0], by kernel_rfl, rfl⟩
  pos := by omega
  len x := rfl
  one x u hu := by
    simp [Mg.cells] at hu
    rcases hu with rfl | rfl | rfl | rfl | rfl <;> rfl
/-- A book as it lies in three maps. -/
structure BkOk (w0 w : World) (own : Ow) (q : Sd) (r l t : Nat) (p : Bp) (n : Nat) : Prop where
  hr : own r = some (q, 0)
  hl : own l = some (q, 1)
  ht : own t = some (q, 2)
  mr : ∃ gr, Mp stV StK w r n gr ∧ ∀ s, StK s → ∃ a m c, (gr s).getD (.slice none 0 0) = .slice a m c ∧ OwnG 41 5 Mg.cells w w0.heap.size a m c (p.rows s) ∧ ∀ g, (Value.slice a m c).ownBlock = some g → own g = some (q, 3 + s)
  ml : ∃ gl, Mp cnV CnK w l n gl ∧ ∀ k, CnK k → (gl k).getD (.int .i64 0) = .int .i64 (p.loose k)
  mt : ∃ gt, Mp stV StK w t n gt ∧ ∀ s, StK s → (gt s).getD (.int .i64 0) = .int .i64 (p.told s)
  ok : ∀ s, ∀ m ∈ p.rows s, m.Ok w0
  b1 : ∀ s, (p.rows s).length ≤ n
  b2 : ∀ k, 0 ≤ p.loose k ∧ p.loose k ≤ n
  b3 : ∀ s, 0 ≤ p.told s ∧ p.told s ≤ n
  b4 : -(n : Int) ≤ p.owed ∧ p.owed ≤ n
/-- All books; those of X are in somebody's hands. -/
structure Ct (w0 w : World) (cb : Nat) (own : Ow) (n : Nat) (cp : Cp) (X : Sd → Prop) : Prop where
  bel : Below w0.heap.size w0 w
  cbB : w0.heap.size ≤ cb
  ownB : ∀ g o, own g = some o → w0.heap.size ≤ g ∧ g < w.heap.size ∧ g ≠ cb
  ex : ∃ g : Sd → Option Value, Mp sdV SdK w cb n g ∧ ∀ q, SdK q → ¬ X q → (g q = none ∧ cp q = Bp.empty) ∨ ∃ r l t, g q = some (bval r l t (cp q)) ∧ BkOk w0 w own q r l t (cp q) n
section
variable {w0 w w' : World} {own own' : Ow} {q : Sd} {r l t n : Nat} {p : Bp}
theorem BkOk.fr {Q : Nat → Prop} (h : BkOk w0 w own q r l t p n) (hf : Fr Q w w') (hq : ∀ g i, own g = some (q, i) → ¬ Q g) : BkOk w0 w' own q r l t p n := by
  refine ⟨h.hr, h.hl, h.ht, ?_, ?_, ?_, h.ok, h.b1, h.b2, h.b3, h.b4⟩
  · obtain ⟨g, h1, h2⟩ := h.mr
    refine ⟨g, h1.fr hf (hq _ _ h.hr), fun s hs => ?_⟩
    obtain ⟨a, m, c, e1, e2, e3⟩ := h2 s hs
    exact ⟨a, m, c, e1, e2.fr hf (fun g hg => hq g _ (e3 g hg)), e3⟩
  · obtain ⟨g, h1, h2⟩ := h.ml
    exact ⟨g, h1.fr hf (hq _ _ h.hl), h2⟩
  · obtain ⟨g, h1, h2⟩ := h.mt
    exact ⟨g, h1.fr hf (hq _ _ h.ht), h2⟩
theorem BkOk.below (h : BkOk w0 w own q r l t p n) (hb : Below w.heap.size w w') : BkOk w0 w' own q r l t p n := h.fr (Fr.of_below (P := fun _ => False) hb) (fun _ _ _ h => h)
theorem BkOk.ext (h : BkOk w0 w own q r l t p n) (ho : ∀ g o, own g = some o → own' g = some o) : BkOk w0 w own' q r l t p n := by
  refine ⟨ho _ _ h.hr, ho _ _ h.hl, ho _ _ h.ht, ?_, h.ml, h.mt, h.ok, h.b1, h.b2, h.b3, h.b4⟩
  obtain ⟨g, h1, h2⟩ := h.mr
  refine ⟨g, h1, fun s hs => ?_⟩
  obtain ⟨a, m, c, e1, e2, e3⟩ := h2 s hs
  exact ⟨a, m, c, e1, e2, fun g hg => ho _ _ (e3 g hg)⟩
theorem BkOk.mono (h : BkOk w0 w own q r l t p n) {k : Nat} (hk : n ≤ k) : BkOk w0 w own q r l t p k := by
  obtain ⟨h1, h2, h3, ⟨gr, a1, a2⟩, ⟨gl, b1, b2⟩, ⟨gt, c1, c2⟩, h4, h5, h6, h7, h8⟩ := h
  exact ⟨h1, h2, h3, ⟨gr, a1.mono hk, a2⟩, ⟨gl, b1.mono hk, b2⟩, ⟨gt, c1.mono hk, c2⟩, h4, fun s => Nat.le_trans (h5 s) hk, fun k' => by have := h6 k'; omega, fun s => by have := h7 s; omega, by omega⟩
/-- What is told of it besides its maps may turn. -/
theorem BkOk.flags (h : BkOk w0 w own q r l t p n) (o : Int) (a b c : Bool) (ho : -(n : Int) ≤ o ∧ o ≤ n) : BkOk w0 w own q r l t { p with owed := o, came := a, ended := b, shuts := c } n :=
  ⟨h.hr, h.hl, h.ht, h.mr, h.ml, h.mt, h.ok, h.b1, h.b2, h.b3, ho⟩
variable {cb : Nat} {cp : Cp} {X : Sd → Prop}
theorem Ct.fr {Q : Nat → Prop} (h : Ct w0 w cb own n cp X) (hf : Fr Q w w') (hQ : ∀ g, Q g → w0.heap.size ≤ g) (hc : ¬ Q cb) (hq : ∀ g q i, own g = some (q, i) → Q g → X q) : Ct w0 w' cb own n cp X := by
  obtain ⟨h1, h2, h3, g, h4, h5⟩ := h
  refine ⟨h1.trans (hf.below _ h1.size hQ), h2, fun g o ho => ⟨(h3 g o ho).1, Nat.lt_of_lt_of_le (h3 g o ho).2.1 hf.size, (h3 g o ho).2.2⟩, g, h4.fr hf hc, fun q hk hx => ?_⟩
  rcases h5 q hk hx with h | ⟨r, l, t, e1, e2⟩
  · exact .inl h
  · exact .inr ⟨r, l, t, e1, e2.fr hf (fun g i hg hQg => hx (hq g q i hg hQg))⟩
theorem Ct.below (h : Ct w0 w cb own n cp X) (hb : Below w.heap.size w w') : Ct w0 w' cb own n cp X := h.fr (Fr.of_below (P := fun _ => False) hb) (fun _ h => h.elim) (fun h => h) (fun _ _ _ _ h => h.elim)
theorem Ct.ext (h : Ct w0 w cb own n cp X) (ho : ∀ g o, own g = some o → own' g = some o) (hB : ∀ g o, own' g = some o → w0.heap.size ≤ g ∧ g < w.heap.size ∧ g ≠ cb) : Ct w0 w cb own' n cp X := by
  obtain ⟨h1, h2, h3, g, h4, h5⟩ := h
  refine ⟨h1, h2, hB, g, h4, fun q hk hx => ?_⟩
  rcases h5 q hk hx with h | ⟨r, l, t, e1, e2⟩
  · exact .inl h
  · exact .inr ⟨r, l, t, e1, e2.ext ho⟩
theorem Ct.mono (h : Ct w0 w cb own n cp X) {k : Nat} (hk : n ≤ k) : Ct w0 w cb own k cp X := by
  obtain ⟨h1, h2, h3, g, h4, h5⟩ := h
  refine ⟨h1, h2, h3, g, h4.mono hk, fun q hq hx => ?_⟩
  rcases h5 q hq hx with h | ⟨r, l, t, e1, e2⟩
  · exact .inl h
  · exact .inr ⟨r, l, t, e1, e2.mono hk⟩
theorem Ct.weak (h : Ct w0 w cb own n cp X) {Y : Sd → Prop} (hy : ∀ q, X q → Y q) : Ct w0 w cb own n cp Y := by
  obtain ⟨h1, h2, h3, g, h4, h5⟩ := h
  exact ⟨h1, h2, h3, g, h4, fun q hq hx => h5 q hq (fun h => hx (hy q h))⟩
/-- A book is laid back. -/
theorem Ct.put (h : Ct w0 w cb own n cp X) (hk : SdK q) (hb : BkOk w0 w own q r l t p n) :
    ∃ w', (Instr.mapUpdate 48 (.map (some cb)) (sdV q) (bval r l t p)).run Try.prog w = .ok () w' ∧ Ct w0 w' cb own (n + 1) (cp.set q p) (fun q' => X q' ∧ q' ≠ q) ∧ Fr (· = cb) w w' := by
  have hput := h.below (Below.refl _ _)
  obtain ⟨h1, h2, h3, g, h4, h5⟩ := h
  obtain ⟨w', e1, e2, e3, e4⟩ := h4.upd sdKE Try.underlying48 hk (bval r l t p)
  have hno : ∀ g q i, own g = some (q, i) → ¬ g = cb := fun g q i hg => (h3 g _ hg).2.2
  refine ⟨w', e1, ⟨h1.trans (e3.below _ h1.size (fun k hk => by rw [hk]; exact h2)), h2, fun g o ho => by rw [e4]; exact h3 g o ho, _, e2, fun q' hk' hx => ?_⟩, e3⟩
  by_cases hqq : q' = q
  · subst hqq
    refine .inr ⟨r, l, t, by simp [mset, Cp.set], ?_⟩
    have : cp.set q' p q' = p := by simp [Cp.set]
    rw [this]
    exact (hb.fr e3 (fun g i hg => hno g _ i hg)).mono (Nat.le_add_right _ _)
  · have e5 : cp.set q p q' = cp q' := by simp [Cp.set, hqq]
    rw [e5]
    unfold mset
    rw [if_neg hqq]
    rcases h5 q' hk' (fun hX => hx ⟨hX, hqq⟩) with h | ⟨r', l', t', a1, a2⟩
    · exact .inl h
    · exact .inr ⟨r', l', t', a1, (a2.fr e3 (fun g i hg => hno g _ i hg)).mono (Nat.le_add_right _ _)⟩
theorem Ct.lt (h : Ct w0 w cb own n cp X) : cb < w.heap.size := by obtain ⟨_, _, _, g, h4, _⟩ := h; exact h4.lt
end
end Go.Proofs.Ytpdnkbhgobdniaa
