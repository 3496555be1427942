/- A slice of bytes that the call itself has made: what append makes of it. -/
import Derived.Test.YtfjpckaphfdfnaaGreatDoorProg
import Derived.Test.YtfjpckaphfdfnaaGreatDoorBase
import Derived.OwnWalk
import Derived.Laws.AppendOwnNone
import Derived.ArgAppend
namespace Go.Proofs.YtfjpckaphfdfnaaGreatDoor
open Go.RowKit
def vals (zs : List Nat) : List Value := zs.map fun z => Value.int .u8 (z : Nat)
theorem vals_one (zs : List Nat) : ∀ u ∈ vals zs, u.oneCell' = true := by
  intro u hu
  obtain ⟨z, _, rfl⟩ := List.mem_map.1 hu
  rfl
theorem vals_at (zs : List Nat) (j : Nat) (h : j < zs.length) : (vals zs)[j]? = some (.int .u8 (zs.getD j 0 : Nat)) := by
  simp [vals, List.getD_eq_getElem?_getD, h]
structure OwnB (w : World) (B : Nat) (a : Option Addr) (n c : Nat) (zs : List Nat) : Prop where
  len : zs.length = n
  own : w.ownsRow B 5 1 (.slice a n c) n (vals zs)
  bnd : ∀ i, zs.getD i 0 < 256
theorem OwnB.nil (w : World) (B : Nat) : OwnB w B none 0 0 [] := ⟨rfl, World.ownsRow_nil w B _ _, fun i => by simp⟩
theorem own_empty (w : World) : OwnB (w.alloc (.cells #[] 5)) w.heap.size (some ⟨w.heap.size, 0, none⟩) 0 0 [] := by
  refine ⟨rfl, ⟨rfl, .inr ⟨w.heap.size, 0, #[], rfl, Nat.le_refl _, ?_, Nat.le_refl _, by unfold maxLen; omega, rfl, rfl⟩⟩, fun i => by simp⟩
  show (w.heap.push _)[w.heap.size]? = _
  simp
theorem OwnB.sl {w : World} {B : Nat} {a : Option Addr} {n c : Nat} {zs : List Nat} (h : OwnB w B a n c zs) (hs : n ≤ 281474976710656) : Sl w a n c zs := by
  obtain ⟨hl, ho, hb⟩ := h
  have ho2 := ho
  obtain ⟨_, h2⟩ := ho
  rcases h2 with ⟨hv, rfl⟩ | ⟨g, cap, cur, hv, hBg, hh, hn, hcap, hsz, htake⟩
  · injection hv with e1 e2 e3
    subst e1 e3
    exact ⟨hl, Nat.le_refl _, by unfold maxLen; omega, by omega, fun _ => rfl, hb, .inl rfl⟩
  · injection hv with e1 e2 e3
    subst e1 e3
    refine ⟨hl, hn, hcap, hs, (fun h => by cases h), hb, .inr ⟨g, 0, rfl, ?_, fun i hi => ?_⟩⟩
    · exact (ho2.lt g rfl).2
    · rw [Nat.zero_add, ho2.cellAt i (by omega), vals_at zs i (by omega)]
theorem OwnB.kept {w w' : World} {B : Nat} {a : Option Addr} {n c : Nat} {zs : List Nat} {row : Option Nat} (h : OwnB w B a n c zs) (hg : w.grownBy w' row) (hne : (Value.slice a n c).ownBlock = none ∨ (Value.slice a n c).ownBlock ≠ row) : OwnB w' B a n c zs :=
  ⟨h.len, h.own.kept hg hne, h.bnd⟩
theorem OwnB.base {w : World} {B B' : Nat} {a : Option Addr} {n c : Nat} {zs : List Nat} (h : OwnB w B a n c zs) (hB : B' ≤ B) : OwnB w B' a n c zs := by
  obtain ⟨h1, ⟨h2, h3⟩, h4⟩ := h
  refine ⟨h1, ⟨h2, ?_⟩, h4⟩
  rcases h3 with h3 | ⟨g, cap, cur, hv, hb, hr⟩
  · exact .inl h3
  · exact .inr ⟨g, cap, cur, hv, Nat.le_trans hB hb, hr⟩
theorem grown_of_below {w w' : World} (h : Below w.heap.size w w') : w.grownBy w' none := ⟨h.os, h.tape, h.output, h.size, fun k hk _ => h.block k hk⟩
theorem OwnB.below {w w' : World} {B : Nat} {a : Option Addr} {n c : Nat} {zs : List Nat} (h : OwnB w B a n c zs) (hb : Below w.heap.size w w') : OwnB w' B a n c zs :=
  h.kept (grown_of_below hb) (by cases (Value.slice a n c).ownBlock <;> simp)
theorem OwnB.alloc {w : World} {B : Nat} {a : Option Addr} {n c : Nat} {zs : List Nat} (h : OwnB w B a n c zs) (o : Obj) : OwnB (w.alloc o) B a n c zs :=
  h.below ((Below.refl _ _).alloc (Nat.le_refl _) _)
theorem OwnB.up {w w' : World} {B : Nat} {a : Option Addr} {n c : Nat} {zs : List Nat} (h : OwnB w B a n c zs) (hg : w.grownBy w' (Value.slice a n c).ownBlock) (hB : B ≤ w.heap.size) : Below B w w' :=
  (Below.refl B w).grown hg hB (fun k hk => (h.own.lt k hk).1)
theorem own_info : (Tryz.prog.info? 5).map (fun i => (i.zero, i.size, i.bytes)) = some (some (.int .u8 0), 1, 1) := by kernel_rfl
set_option maxRecDepth 100000 in
/-- Where the new row lies: in the old one's block, or in a new one. -/
theorem app_run (w : World) (ty : TypeId) (B : Nat) (ad : Option Addr) (n c : Nat) (zs : List Nat) (hown : OwnB w B ad n c zs)
    (sa : Option Addr) (m sc : Nat) (ys : List Nat) (hsrc : Sl w sa m sc ys) (hb : n + m ≤ 140737488355328) (hB : B ≤ w.heap.size) :
    ∃ a' c' w', (Builtin.append_ #[24, 24] ty #[.slice ad n c, .slice sa m sc]).run Tryz.prog w = .ok (.slice a' (n + m) c') w' ∧ OwnB w' B a' (n + m) c' (zs ++ ys) ∧ w.grownBy w' (Value.slice ad n c).ownBlock ∧
      (∀ g, (Value.slice a' (n + m) c').ownBlock = some g → (Value.slice ad n c).ownBlock = some g ∨ w.heap.size ≤ g) := by
  obtain ⟨i, hi, hz0, hz1, hz2⟩ := info_parts own_info
  obtain ⟨hl2, hcap2, hroom2, hsm2, hnz2, hb2, hat2⟩ := hsrc
  have hbnd : ∀ j, (zs ++ ys).getD j 0 < 256 := by
    intro j
    rw [getD_app]
    split
    · exact hown.bnd j
    · exact hb2 _
  cases sa with
  | none =>
    obtain rfl := hnz2 rfl
    obtain rfl : m = 0 := by omega
    obtain rfl : ys = [] := List.eq_nil_of_length_eq_zero hl2
    have hrun := run_append_owned_none (P := Tryz.prog) (w := w) B 24 ty 5 i 1 Tryz.underlying24 hi (.slice ad n c) n (vals zs) hown.own
    exact ⟨ad, c, w, hrun, by simpa using hown, World.grownBy.refl w _, fun g hg => .inl hg⟩
  | some p =>
    have hnews : ∀ j u, (vals ys)[j]? = some u → w.cell? (p.add j) = some u := by
      intro j u hj
      have hjl : j < ys.length := by
        have := (List.getElem?_eq_some_iff.1 hj).1
        simpa [vals] using this
      rcases hat2 with h0 | ⟨b, off, hp, _, hcell⟩
      · omega
      · injection hp with hp
        subst hp
        have ea : (⟨b, off, none⟩ : Addr).add j = ⟨b, off + j, none⟩ := by
          unfold Addr.add
          split
          · subst_vars; rfl
          · rfl
        rw [ea, hcell j (by omega), ← hj, vals_at ys j hjl]
    have hnl : (vals ys).length = m * 1 := by simp [vals, hl2]
    obtain ⟨v', w', hr, hown', hg', _⟩ := run_append_own (P := Tryz.prog) w B 24 ty 5 i (.int .u8 0) 1 1 Tryz.underlying24 hi hz0 hz1 hz2 rfl (by decide) (.slice ad n c) n (vals zs) hown.own p m sc (vals ys) hnl hnews (vals_one ys) (by unfold maxLen; omega) (by omega) hB
    have hlen : (zs ++ ys).length = n + m := by simp [hown.len, hl2]
    have hv : vals zs ++ vals ys = vals (zs ++ ys) := by simp [vals]
    rw [hv] at hown'
    have hex : ∃ a' c', v' = .slice a' (n + m) c' := by
      rcases hown'.2 with ⟨rfl, e⟩ | ⟨g, cap, cur, rfl, _⟩
      · exact ⟨none, 0, by rw [e]⟩
      · exact ⟨_, _, rfl⟩
    obtain ⟨a', c', rfl⟩ := hex
    refine ⟨a', c', w', hr, ⟨hlen, hown', hbnd⟩, hg', ?_⟩
    intro g hgb
    rcases hown.own.2 with ⟨hv0, hn0⟩ | ⟨g0, cap, cur, hv0, hBg, hh, hnc, hcm, hcs, htake⟩
    · injection hv0 with e1 e2 e3
      subst e1 e3 hn0
      obtain rfl : zs = [] := List.eq_nil_of_length_eq_zero hown.len
      obtain ⟨v2, w2, hr2, hown2, _, _⟩ := run_append_own (P := Tryz.prog) w w.heap.size 24 ty 5 i (.int .u8 0) 1 1 Tryz.underlying24 hi hz0 hz1 hz2 rfl (by decide) (.slice none 0 0) 0 (vals []) (World.ownsRow_nil w _ _ _) p m sc (vals ys) hnl hnews (vals_one ys) (by unfold maxLen; omega) (by omega) (Nat.le_refl _)
      have e := hr.symm.trans hr2
      injection e with e1 e2
      subst e1 e2
      exact .inr (hown2.lt g hgb).1
    · injection hv0 with e1 e2 e3
      subst e1 e3
      by_cases hroom : n + m ≤ c
      · have hr2 := run_append_room (P := Tryz.prog) w 24 ty 5 i Tryz.underlying24 hi g0 n c cur hh p m sc (vals ys) (by rw [hz1]; exact hnl) hnews (vals_one ys) hroom (by rw [hz1, hnl, hcs]; omega)
        have e := hr.symm.trans hr2
        injection e with e1 e2
        injection e1 with e1
        subst e1
        exact .inl hgb
      · obtain ⟨v2, w2, hr2, hown2, _⟩ := run_append_arg_grows (P := Tryz.prog) w 24 ty 5 i (.int .u8 0) 1 1 Tryz.underlying24 hi hz0 hz1 hz2 rfl (by decide) ⟨g0, 0, none⟩ n c (vals zs) (by simp [vals, hown.len]) (hown.own.cells (g := g0) rfl) p m sc (vals ys) hnl hnews (by omega) (by unfold maxLen; omega) (by omega)
        have e := hr.symm.trans hr2
        injection e with e1 e2
        subst e1 e2
        exact .inr (hown2.lt g hgb).1
theorem app_wp {o : Oper} {a : Act} {w : World} {K : Act → World → Prop} {Q : Exit → Act → World → Prop} (s x : Operand)
    (ho : o.op = .call { callee := .builtin .append, args := #[s, x], argTypes := #[24, 24] })
    (B : Nat) (ad : Option Addr) (n c : Nat) (zs : List Nat) (hs : a.eval s = .slice ad n c) (hown : OwnB w B ad n c zs)
    (sa : Option Addr) (m sc : Nat) (ys : List Nat) (hx : a.eval x = .slice sa m sc) (hsrc : Sl w sa m sc ys) (hb : n + m ≤ 140737488355328) (hB : B ≤ w.heap.size)
    (h : ∀ a' c' w', OwnB w' B a' (n + m) c' (zs ++ ys) → w.grownBy w' (Value.slice ad n c).ownBlock → (∀ g, (Value.slice a' (n + m) c').ownBlock = some g → (Value.slice ad n c).ownBlock = some g ∨ w.heap.size ≤ g) → K (a.put o.dst (.slice a' (n + m) c')) w') : o.wp Tryz.prog a w K Q := by
  obtain ⟨a', c', w', hr, h1, h2, h3⟩ := app_run w o.type B ad n c zs hown sa m sc ys hsrc hb hB
  have := h a' c' w' h1 h2 h3
  unfold Oper.wp
  simp [execOp, ho, resolve, invoke, builtin, hs, hx, hr, Result.andThen]
  exact this
/-- The law for the walk; the operation's guard, if there is one, says yes. -/
theorem app_list2 {ops : Array Oper} {rest : List Oper} {o : Oper} {a : Act} {w : World} {Q : Exit → Act → World → Prop} (hgd : Region.wanted o (yielded ops a.tmps) = true) (s x : Operand)
    (ho : o.op = .call { callee := .builtin .append, args := #[s, x], argTypes := #[24, 24] })
    (B : Nat) (ad : Option Addr) (n c : Nat) (zs : List Nat) (hs : a.eval s = .slice ad n c) (hown : OwnB w B ad n c zs)
    (sa : Option Addr) (m sc : Nat) (ys : List Nat) (hx : a.eval x = .slice sa m sc) (hsrc : Sl w sa m sc ys) (hb : n + m ≤ 140737488355328) (hB : B ≤ w.heap.size)
    (h : ∀ a' c' w', OwnB w' B a' (n + m) c' (zs ++ ys) → w.grownBy w' (Value.slice ad n c).ownBlock → (∀ g, (Value.slice a' (n + m) c').ownBlock = some g → (Value.slice ad n c).ownBlock = some g ∨ w.heap.size ≤ g) → wpList Tryz.prog ops Q rest (a.put o.dst (.slice a' (n + m) c')) w') : wpList Tryz.prog ops Q (o :: rest) a w :=
  wpList_step fun K hK => by
    rw [if_pos hgd]
    exact app_wp s x ho B ad n c zs hs hown sa m sc ys hx hsrc hb hB fun a' c' w' h1 h2 h3 => hK _ _ (h a' c' w' h1 h2 h3)
/-- The same, without a word on where the new row lies. -/
theorem app_list {ops : Array Oper} {rest : List Oper} {o : Oper} {a : Act} {w : World} {Q : Exit → Act → World → Prop} (hgd : Region.wanted o (yielded ops a.tmps) = true) (s x : Operand)
    (ho : o.op = .call { callee := .builtin .append, args := #[s, x], argTypes := #[24, 24] })
    (B : Nat) (ad : Option Addr) (n c : Nat) (zs : List Nat) (hs : a.eval s = .slice ad n c) (hown : OwnB w B ad n c zs)
    (sa : Option Addr) (m sc : Nat) (ys : List Nat) (hx : a.eval x = .slice sa m sc) (hsrc : Sl w sa m sc ys) (hb : n + m ≤ 140737488355328) (hB : B ≤ w.heap.size)
    (h : ∀ a' c' w', OwnB w' B a' (n + m) c' (zs ++ ys) → w.grownBy w' (Value.slice ad n c).ownBlock → wpList Tryz.prog ops Q rest (a.put o.dst (.slice a' (n + m) c')) w') : wpList Tryz.prog ops Q (o :: rest) a w :=
  app_list2 hgd s x ho B ad n c zs hs hown sa m sc ys hx hsrc hb hB fun a' c' w' h1 h2 _ => h a' c' w' h1 h2
/-- The law for a region that draws its order. -/
theorem app_step {ops : Array Oper} {o : Oper} {a : Act} {w : World} {K : Act → World → Prop} {Q : Exit → Act → World → Prop} {E : Prop} (hgd : o.guard = none) (s x : Operand)
    (ho : o.op = .call { callee := .builtin .append, args := #[s, x], argTypes := #[24, 24] })
    (B : Nat) (ad : Option Addr) (n c : Nat) (zs : List Nat) (hs : a.eval s = .slice ad n c) (hown : OwnB w B ad n c zs)
    (sa : Option Addr) (m sc : Nat) (ys : List Nat) (hx : a.eval x = .slice sa m sc) (hsrc : Sl w sa m sc ys) (hb : n + m ≤ 140737488355328) (hB : B ≤ w.heap.size)
    (h : ∀ a' c' w', OwnB w' B a' (n + m) c' (zs ++ ys) → w.grownBy w' (Value.slice ad n c).ownBlock → K (a.put o.dst (.slice a' (n + m) c')) w') :
    if Region.wanted o (yielded ops a.tmps) = true then Oper.wp Tryz.prog o a w K Q else E := by
  have hw : Region.wanted o (yielded ops a.tmps) = true := by simp [Region.wanted, hgd]
  rw [if_pos hw]
  exact app_wp s x ho B ad n c zs hs hown sa m sc ys hx hsrc hb hB fun a' c' w' h1 h2 _ => h a' c' w' h1 h2
/-- Two rows of the call's own lie apart. -/
def Apart (a : Option Addr) (n c : Nat) (a2 : Option Addr) (n2 c2 : Nat) : Prop := ∀ g, (Value.slice a n c).ownBlock = some g → (Value.slice a2 n2 c2).ownBlock ≠ some g
theorem Apart.keep {a : Option Addr} {n c : Nat} {a2 : Option Addr} {n2 c2 : Nat} (h : Apart a n c a2 n2 c2) : (Value.slice a2 n2 c2).ownBlock = none ∨ (Value.slice a2 n2 c2).ownBlock ≠ (Value.slice a n c).ownBlock := by
  cases hg : (Value.slice a2 n2 c2).ownBlock with
  | none => exact .inl rfl
  | some g =>
    refine .inr fun e => ?_
    exact h g e.symm hg
theorem Apart.symm {a : Option Addr} {n c : Nat} {a2 : Option Addr} {n2 c2 : Nat} (h : Apart a n c a2 n2 c2) : Apart a2 n2 c2 a n c := fun g h1 h2 => h g h2 h1
theorem Apart.next {w : World} {B : Nat} {a : Option Addr} {n c : Nat} {a2 : Option Addr} {n2 c2 : Nat} {zs : List Nat} {a' : Option Addr} {n' c' H : Nat} (h : Apart a n c a2 n2 c2) (ho : OwnB w B a2 n2 c2 zs) (hH : w.heap.size ≤ H)
    (hn : ∀ g, (Value.slice a' n' c').ownBlock = some g → (Value.slice a n c).ownBlock = some g ∨ H ≤ g) : Apart a' n' c' a2 n2 c2 := by
  intro g hg h2
  rcases hn g hg with h1 | h1
  · exact h g h1 h2
  · have := (ho.own.lt g h2).2
    omega
end Go.Proofs.YtfjpckaphfdfnaaGreatDoor
