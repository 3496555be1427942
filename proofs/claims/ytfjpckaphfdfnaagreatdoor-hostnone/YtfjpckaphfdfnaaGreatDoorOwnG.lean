/- A row of structs of any one type, of the call's own: append of one, where it lies. -/
import Derived.Test.YtfjpckaphfdfnaaGreatDoorProg
import Derived.Test.YtfjpckaphfdfnaaGreatDoorFrM
import Derived.OwnWalk
import Derived.Laws.AppendOwnNone
import Derived.Laws.OwnMore
import Derived.ArgAppend
import Derived.Deep.AppendLies
namespace Go.Proofs.YtfjpckaphfdfnaaGreatDoor
open Go.RowKit
/-- How a struct is laid: k cells, each one cell; its type, its bytes, its zero. -/
structure Lays {α : Type} (P : Program) (S T : TypeId) (k bytes : Nat) (cf : α → List Value) : Prop where
  under : P.underlying S = some (.slice T)
  info : ∃ z : Value, (P.info? T).map (fun i => (i.zero, i.size, i.bytes)) = some (some z, k, bytes) ∧ z.cells.size = k
  pos : 0 < k
  len : ∀ x, (cf x).length = k
  one : ∀ x, ∀ u ∈ cf x, u.oneCell' = true
def valsG {α : Type} (cf : α → List Value) (ps : List α) : List Value := ps.flatMap cf
theorem valsG_app {α : Type} (cf : α → List Value) (ps qs : List α) : valsG cf (ps ++ qs) = valsG cf ps ++ valsG cf qs := by simp [valsG]
theorem valsG_len {α : Type} {cf : α → List Value} {k : Nat} (hk : ∀ x, (cf x).length = k) (ps : List α) : (valsG cf ps).length = ps.length * k := by
  induction ps with
  | nil => simp [valsG]
  | cons p ps ih =>
    show (cf p ++ valsG cf ps).length = _
    rw [List.length_append, ih, hk, List.length_cons, Nat.add_mul]
    omega
theorem valsG_one {α : Type} {cf : α → List Value} (h : ∀ x, ∀ u ∈ cf x, u.oneCell' = true) (ps : List α) : ∀ u ∈ valsG cf ps, u.oneCell' = true := by
  intro u hu
  obtain ⟨p, _, hp⟩ := List.mem_flatMap.1 hu
  exact h p u hp
theorem valsG_at {α : Type} {cf : α → List Value} {k : Nat} (hk : ∀ x, (cf x).length = k) (ps : List α) : ∀ (j : Nat) (x : α), ps[j]? = some x → ∀ (i : Nat) u, (cf x)[i]? = some u → (valsG cf ps)[j * k + i]? = some u := by
  induction ps with
  | nil => intro j x h; simp at h
  | cons p ps ih =>
    intro j x h i u hu
    have hi : i < k := by have := (List.getElem?_eq_some_iff.1 hu).1; rwa [hk] at this
    show (cf p ++ valsG cf ps)[j * k + i]? = some u
    cases j with
    | zero =>
      simp at h
      subst h
      rw [List.getElem?_append_left (by rw [hk]; omega)]
      simpa using hu
    | succ j =>
      have e : (j + 1) * k + i = k + (j * k + i) := by rw [Nat.add_mul]; omega
      rw [e, List.getElem?_append_right (by rw [hk]; omega), hk, show k + (j * k + i) - k = j * k + i by omega]
      exact ih j x (by simpa using h) i u hu
structure OwnG {α : Type} (T : TypeId) (k : Nat) (cf : α → List Value) (w : World) (B : Nat) (a : Option Addr) (n c : Nat) (ps : List α) : Prop where
  len : ps.length = n
  own : w.ownsRow B T k (.slice a n c) n (valsG cf ps)
section
variable {α : Type} {P : Program} {S T : TypeId} {k bytes : Nat} {cf : α → List Value} {w w' : World} {B : Nat} {a : Option Addr} {n c : Nat} {ps : List α}
theorem OwnG.nil (w : World) (B : Nat) : OwnG T k cf w B none 0 0 [] := ⟨rfl, World.ownsRow_nil w B _ _⟩
theorem OwnG.kept {row : Option Nat} (h : OwnG T k cf w B a n c ps) (hg : w.grownBy w' row) (hne : (Value.slice a n c).ownBlock = none ∨ (Value.slice a n c).ownBlock ≠ row) : OwnG T k cf w' B a n c ps :=
  ⟨h.len, h.own.kept hg hne⟩
theorem OwnG.fr {Q : Nat → Prop} (h : OwnG T k cf w B a n c ps) (hf : Fr Q w w') (hq : ∀ g, (Value.slice a n c).ownBlock = some g → ¬ Q g) : OwnG T k cf w' B a n c ps := by
  obtain ⟨h1, ⟨h2, h3⟩⟩ := h
  refine ⟨h1, ⟨h2, ?_⟩⟩
  rcases h3 with h3 | ⟨g, cap, cur, hv, hb, hh, hr⟩
  · exact .inl h3
  · injection hv with e1 e2 e3
    subst e1 e3
    exact .inr ⟨g, c, cur, rfl, hb, (hf.block g (Array.getElem?_eq_some_iff.1 hh).1 (hq g rfl)).trans hh, hr⟩
theorem OwnG.base {B' : Nat} (h : OwnG T k cf w B a n c ps) (hB : B' ≤ B) : OwnG T k cf w B' a n c ps := by
  obtain ⟨h1, ⟨h2, h3⟩⟩ := h
  refine ⟨h1, ⟨h2, ?_⟩⟩
  rcases h3 with h3 | ⟨g, cap, cur, hv, hb, hr⟩
  · exact .inl h3
  · exact .inr ⟨g, cap, cur, hv, Nat.le_trans hB hb, hr⟩
theorem OwnG.below (h : OwnG T k cf w B a n c ps) (hb : Below w.heap.size w w') : OwnG T k cf w' B a n c ps :=
  h.kept (row := none) ⟨hb.os, hb.tape, hb.output, hb.size, fun k hk _ => hb.block k hk⟩ (by cases (Value.slice a n c).ownBlock <;> simp)
theorem OwnG.up (h : OwnG T k cf w B a n c ps) (hg : w.grownBy w' (Value.slice a n c).ownBlock) (hB : B ≤ w.heap.size) : Below B w w' :=
  (Below.refl B w).grown hg hB (fun k hk => (h.own.lt k hk).1)
/-- Where it lies, if it has an element. -/
theorem OwnG.at_ (h : OwnG T k cf w B a n c ps) (hk : ∀ x, (cf x).length = k) (hn : 0 < n) : ∃ g, a = some ⟨g, 0, none⟩ ∧ B ≤ g ∧ g < w.heap.size ∧ n ≤ c ∧ c ≤ maxLen ∧
    (∀ (j : Nat) (x : α), ps[j]? = some x → ∀ (i : Nat) u, (cf x)[i]? = some u → w.cell? ⟨g, j * k + i, none⟩ = some u) ∧ (∀ i, w.frozen? ⟨g, i, none⟩ = false) := by
  have hl := h.len
  have ho := h.own
  rcases h.own.2 with ⟨_, h0⟩ | ⟨g, cap, cur, hv, hBg, hh, hnc, hcm, hcs, htake⟩
  · omega
  · injection hv with e1 e2 e3
    subst e1 e3
    refine ⟨g, rfl, hBg, (ho.lt g rfl).2, hnc, hcm, fun j x hx i u hu => ?_, fun i => ?_⟩
    · have hj := (List.getElem?_eq_some_iff.1 hx).1
      have hi : i < k := by have := (List.getElem?_eq_some_iff.1 hu).1; rwa [hk] at this
      have hb : j * k + i < n * k := by
        have h1 : (j + 1) * k ≤ n * k := Nat.mul_le_mul_right k (by omega)
        have h2 : (j + 1) * k = j * k + k := by rw [Nat.add_mul]; omega
        omega
      rw [ho.cellAt (j * k + i) hb, valsG_at hk ps j x hx i u hu]
    · unfold World.frozen?
      dsimp only
      rw [hh]
      simp
theorem OwnG.cap (h : OwnG T k cf w B a n c ps) : n ≤ c ∧ c ≤ maxLen := by
  rcases h.own.2 with ⟨hv, h0⟩ | ⟨g, cap, cur, hv, _, _, hnc, hcm, _⟩
  · injection hv with e1 e2 e3
    subst e1 e3 h0
    exact ⟨Nat.le_refl _, Nat.zero_le _⟩
  · injection hv with e1 e2 e3
    subst e1 e3
    exact ⟨hnc, hcm⟩
/-- One more: the run. -/
theorem OwnG.app (L : Lays P S T k bytes cf) (h : OwnG T k cf w B a n c ps) (ty : TypeId) (y : α) (ad : Addr) (hc : ∀ j u, (cf y)[j]? = some u → w.cell? (ad.add j) = some u) (h63 : n + 1 ≤ maxLen) (hb : (n + 1) * bytes ≤ 140737488355328) (hB : B ≤ w.heap.size) :
    ∃ g c' w', (Builtin.append_ #[S, S] ty #[.slice a n c, .slice (some ad) 1 1]).run P w = .ok (.slice (some ⟨g, 0, none⟩) (n + 1) c') w' ∧ OwnG T k cf w' B (some ⟨g, 0, none⟩) (n + 1) c' (ps ++ [y]) ∧ w.grownBy w' (Value.slice a n c).ownBlock ∧
      ((Value.slice a n c).ownBlock = some g ∨ g = w.heap.size) ∧ g < w'.heap.size := by
  obtain ⟨z, hinfo, hzs⟩ := L.info
  obtain ⟨i, hi, hz0, hz1, hz2⟩ := info_parts hinfo
  have hv : valsG cf [y] = cf y := by simp [valsG]
  obtain ⟨g, cap, w', hr, hown, hg, hl, hlt⟩ := run_append_lies (P := P) w S ty B T i z k bytes L.under hi hz0 hz1 hz2 hzs L.pos (.slice a n c) n (valsG cf ps) h.own ad 1 1 (cf y) (by rw [L.len]; omega) hc (L.one y) (by omega) h63 hb hB w.heap.size rfl
  refine ⟨g, cap, w', hr, ⟨by simp [h.len], ?_⟩, hg, hl, hlt⟩
  rw [valsG_app, hv]
  exact hown
/-- One more, in a walk (plain region). -/
theorem OwnG.wpl {ops : Array Oper} {rest : List Oper} {o : Oper} {A : Act} {Q : Exit → Act → World → Prop} (L : Lays P S T k bytes cf) (hgd : Region.wanted o (yielded ops A.tmps) = true) (s x : Operand)
    (ho : o.op = .call { callee := .builtin .append, args := #[s, x], argTypes := #[S, S] })
    (hs : A.eval s = .slice a n c) (h : OwnG T k cf w B a n c ps) (y : α) (ad : Addr) (hx : A.eval x = .slice (some ad) 1 1) (hc : ∀ j u, (cf y)[j]? = some u → w.cell? (ad.add j) = some u) (h63 : n + 1 ≤ maxLen) (hb : (n + 1) * bytes ≤ 140737488355328) (hB : B ≤ w.heap.size)
    (hh : ∀ g c' w', OwnG T k cf w' B (some ⟨g, 0, none⟩) (n + 1) c' (ps ++ [y]) → w.grownBy w' (Value.slice a n c).ownBlock → ((Value.slice a n c).ownBlock = some g ∨ g = w.heap.size) → g < w'.heap.size → wpList P ops Q rest (A.put o.dst (.slice (some ⟨g, 0, none⟩) (n + 1) c')) w') : wpList P ops Q (o :: rest) A w :=
  wpList_step fun K hK => by
    rw [if_pos hgd]
    obtain ⟨g, c', w', hr, h1, h2, h3, h4⟩ := h.app L o.type y ad hc h63 hb hB
    have := hK _ _ (hh g c' w' h1 h2 h3 h4)
    unfold Oper.wp
    simp [execOp, ho, resolve, invoke, builtin, hs, hx, hr, Result.andThen]
    exact this
/-- One more, in a region that draws its order. -/
theorem OwnG.step {ops : Array Oper} {o : Oper} {A : Act} {K : Act → World → Prop} {Q : Exit → Act → World → Prop} {E : Prop} (L : Lays P S T k bytes cf) (hgd : o.guard = none) (s x : Operand)
    (ho : o.op = .call { callee := .builtin .append, args := #[s, x], argTypes := #[S, S] })
    (hs : A.eval s = .slice a n c) (h : OwnG T k cf w B a n c ps) (y : α) (ad : Addr) (hx : A.eval x = .slice (some ad) 1 1) (hc : ∀ j u, (cf y)[j]? = some u → w.cell? (ad.add j) = some u) (h63 : n + 1 ≤ maxLen) (hb : (n + 1) * bytes ≤ 140737488355328) (hB : B ≤ w.heap.size)
    (hh : ∀ g c' w', OwnG T k cf w' B (some ⟨g, 0, none⟩) (n + 1) c' (ps ++ [y]) → w.grownBy w' (Value.slice a n c).ownBlock → ((Value.slice a n c).ownBlock = some g ∨ g = w.heap.size) → g < w'.heap.size → K (A.put o.dst (.slice (some ⟨g, 0, none⟩) (n + 1) c')) w') :
    if Region.wanted o (yielded ops A.tmps) = true then Oper.wp P o A w K Q else E := by
  have hw : Region.wanted o (yielded ops A.tmps) = true := by simp [Region.wanted, hgd]
  rw [if_pos hw]
  obtain ⟨g, c', w', hr, h1, h2, h3, h4⟩ := h.app L o.type y ad hc h63 hb hB
  have := hh g c' w' h1 h2 h3 h4
  unfold Oper.wp
  simp [execOp, ho, resolve, invoke, builtin, hs, hx, hr, Result.andThen]
  exact this
/-- append by the equation of its run, in a region that draws its order. -/
theorem app_eq_step {P : Program} {S : TypeId} {ops : Array Oper} {o : Oper} {A : Act} {w w' : World} {K : Act → World → Prop} {Q : Exit → Act → World → Prop} {E : Prop} {v u r : Value} {ty : TypeId} (hgd : o.guard = none) (s x : Operand)
    (ho : o.op = .call { callee := .builtin .append, args := #[s, x], argTypes := #[S, S] }) (hty : o.type = ty) (hs : A.eval s = v) (hx : A.eval x = u)
    (hrun : (Builtin.append_ #[S, S] ty #[v, u]).run P w = .ok r w') (hK : K (A.put o.dst r) w') :
    if Region.wanted o (yielded ops A.tmps) = true then Oper.wp P o A w K Q else E := by
  have hw : Region.wanted o (yielded ops A.tmps) = true := by simp [Region.wanted, hgd]
  rw [if_pos hw]
  subst hty
  unfold Oper.wp
  simp [execOp, ho, resolve, invoke, builtin, hs, hx, hrun, Result.andThen]
  exact hK
end
end Go.Proofs.YtfjpckaphfdfnaaGreatDoor
