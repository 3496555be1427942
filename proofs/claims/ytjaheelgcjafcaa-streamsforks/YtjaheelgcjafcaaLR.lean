/- Both Forks: both streams stand, and the forks beside them. -/
import Derived.Test.YtjaheelgcjafcaaProg
import Derived.Test.YtjaheelgcjafcaaBase
import Derived.OwnWalk
import Derived.Laws.AppendOwnNone
import Derived.ArgAppend
import Derived.Test.YtjaheelgcjafcaaMpD
import Derived.Laws.Cover3
import Derived.Lib.SliceRun
import Derived.WalkLawsBesides
import Derived.WalkSpells
import Derived.Test.YtjaheelgcjafcaaKB
import Derived.Test.YtjaheelgcjafcaaShelfC
import Derived.Test.YtjaheelgcjafcaaKN
import Derived.Test.YtjaheelgcjafcaaLB
namespace Go.Proofs.Ytjaheelgcjafcaa
open Go.RowKit
abbrev SlH := SlK .u16 65536
def valsH (zs : List Nat) : List Value := zs.map fun z => Value.int .u16 (z : Nat)
theorem vals_oneH (zs : List Nat) : ∀ u ∈ valsH zs, u.oneCell' = true := by
  intro u hu
  obtain ⟨z, _, rfl⟩ := List.mem_map.1 hu
  rfl
theorem vals_atH (zs : List Nat) (j : Nat) (h : j < zs.length) : (valsH zs)[j]? = some (.int .u16 (zs.getD j 0 : Nat)) := by
  simp [valsH, List.getD_eq_getElem?_getD, h]
structure OwnH (w : World) (B : Nat) (a : Option Addr) (n c : Nat) (zs : List Nat) : Prop where
  len : zs.length = n
  own : w.ownsRow B 42 1 (.slice a n c) n (valsH zs)
  bnd : ∀ i, zs.getD i 0 < 65536
theorem OwnH.nil (w : World) (B : Nat) : OwnH w B none 0 0 [] := ⟨rfl, World.ownsRow_nil w B _ _, fun i => by simp⟩
theorem own_emptyH (w : World) : OwnH (w.alloc (.cells #[] 42)) w.heap.size (some ⟨w.heap.size, 0, none⟩) 0 0 [] := by
  refine ⟨rfl, ⟨rfl, .inr ⟨w.heap.size, 0, #[], rfl, Nat.le_refl _, ?_, Nat.le_refl _, by unfold maxLen; omega, rfl, rfl⟩⟩, fun i => by simp⟩
  show (w.heap.push _)[w.heap.size]? = _
  simp
theorem OwnH.sl {w : World} {B : Nat} {a : Option Addr} {n c : Nat} {zs : List Nat} (h : OwnH w B a n c zs) (hs : n ≤ 281474976710656) : SlH w a n c zs := by
  obtain ⟨hl, ho, hb⟩ := h
  have ho2 := ho
  obtain ⟨_, h2⟩ := ho
  rcases h2 with ⟨hv, rfl⟩ | ⟨g, cap, cur, hv, hBg, hh, hn, hcap, hsz, htake⟩
  · injection hv with e1 e2 e3
    subst e1 e3
    exact ⟨hl, Nat.le_refl _, by unfold maxLen; omega, by omega, fun _ => rfl, hb, .inl rfl⟩
  · injection hv with e1 e2 e3
    subst e1 e3
    refine ⟨hl, hn, hcap, hs, (fun h => by cases h), hb, .inr ⟨g, 0, rfl, ?_, fun i hi => ?_⟩⟩
    · exact (ho2.lt g rfl).2
    · rw [Nat.zero_add, ho2.cellAt i (by omega), vals_atH zs i (by omega)]
theorem OwnH.kept {w w' : World} {B : Nat} {a : Option Addr} {n c : Nat} {zs : List Nat} {row : Option Nat} (h : OwnH w B a n c zs) (hg : w.grownBy w' row) (hne : (Value.slice a n c).ownBlock = none ∨ (Value.slice a n c).ownBlock ≠ row) : OwnH w' B a n c zs :=
  ⟨h.len, h.own.kept hg hne, h.bnd⟩
theorem OwnH.base {w : World} {B B' : Nat} {a : Option Addr} {n c : Nat} {zs : List Nat} (h : OwnH w B a n c zs) (hB : B' ≤ B) : OwnH w B' a n c zs := by
  obtain ⟨h1, ⟨h2, h3⟩, h4⟩ := h
  refine ⟨h1, ⟨h2, ?_⟩, h4⟩
  rcases h3 with h3 | ⟨g, cap, cur, hv, hb, hr⟩
  · exact .inl h3
  · exact .inr ⟨g, cap, cur, hv, Nat.le_trans hB hb, hr⟩
theorem grown_of_belowH {w w' : World} (h : Below w.heap.size w w') : w.grownBy w' none := ⟨h.os, h.tape, h.output, h.size, fun k hk _ => h.block k hk⟩
theorem OwnH.below {w w' : World} {B : Nat} {a : Option Addr} {n c : Nat} {zs : List Nat} (h : OwnH w B a n c zs) (hb : Below w.heap.size w w') : OwnH w' B a n c zs :=
  h.kept (grown_of_belowH hb) (by cases (Value.slice a n c).ownBlock <;> simp)
theorem OwnH.alloc {w : World} {B : Nat} {a : Option Addr} {n c : Nat} {zs : List Nat} (h : OwnH w B a n c zs) (o : Obj) : OwnH (w.alloc o) B a n c zs :=
  h.below ((Below.refl _ _).alloc (Nat.le_refl _) _)
theorem OwnH.up {w w' : World} {B : Nat} {a : Option Addr} {n c : Nat} {zs : List Nat} (h : OwnH w B a n c zs) (hg : w.grownBy w' (Value.slice a n c).ownBlock) (hB : B ≤ w.heap.size) : Below B w w' :=
  (Below.refl B w).grown hg hB (fun k hk => (h.own.lt k hk).1)
theorem own_infoH : (Try.prog.info? 42).map (fun i => (i.zero, i.size, i.bytes)) = some (some (.int .u16 0), 1, 2) := by kernel_rfl
set_option maxRecDepth 100000 in
/-- Where the new row lies: in the old one's block, or in a new one. -/
theorem app_runH (w : World) (ty : TypeId) (B : Nat) (ad : Option Addr) (n c : Nat) (zs : List Nat) (hown : OwnH w B ad n c zs)
    (sa : Option Addr) (m sc : Nat) (ys : List Nat) (hsrc : SlH w sa m sc ys) (hb : (n + m) * 2 ≤ 140737488355328) (hB : B ≤ w.heap.size) :
    ∃ a' c' w', (Builtin.append_ #[72, 72] ty #[.slice ad n c, .slice sa m sc]).run Try.prog w = .ok (.slice a' (n + m) c') w' ∧ OwnH w' B a' (n + m) c' (zs ++ ys) ∧ w.grownBy w' (Value.slice ad n c).ownBlock ∧
      (∀ g, (Value.slice a' (n + m) c').ownBlock = some g → (Value.slice ad n c).ownBlock = some g ∨ w.heap.size ≤ g) := by
  obtain ⟨i, hi, hz0, hz1, hz2⟩ := info_parts own_infoH
  obtain ⟨hl2, hcap2, hroom2, hsm2, hnz2, hb2, hat2⟩ := hsrc
  have hbnd : ∀ j, (zs ++ ys).getD j 0 < 65536 := by
    intro j
    rw [getD_app]
    split
    · exact hown.bnd j
    · exact hb2 _
  cases sa with
  | none =>
    obtain rfl := hnz2 rfl
    obtain rfl : m = 0 := by omega
    obtain rfl : ys = [] := List.eq_nil_of_length_eq_zero hl2
    have hrun := run_append_owned_none (P := Try.prog) (w := w) B 72 ty 42 i 1 Try.underlying72 hi (.slice ad n c) n (valsH zs) hown.own
    exact ⟨ad, c, w, hrun, by simpa using hown, World.grownBy.refl w _, fun g hg => .inl hg⟩
  | some p =>
    have hnews : ∀ j u, (valsH ys)[j]? = some u → w.cell? (p.add j) = some u := by
      intro j u hj
      have hjl : j < ys.length := by
        have := (List.getElem?_eq_some_iff.1 hj).1
        simpa [valsH] using this
      rcases hat2 with h0 | ⟨b, off, hp, _, hcell⟩
      · omega
      · injection hp with hp
        subst hp
        have ea : (⟨b, off, none⟩ : Addr).add j = ⟨b, off + j, none⟩ := by
          unfold Addr.add
          split
          · subst_vars; rfl
          · rfl
        rw [ea, hcell j (by omega), ← hj, vals_atH ys j hjl]
    have hnl : (valsH ys).length = m * 1 := by simp [valsH, hl2]
    obtain ⟨v', w', hr, hown', hg', _⟩ := run_append_own (P := Try.prog) w B 72 ty 42 i (.int .u16 0) 1 2 Try.underlying72 hi hz0 hz1 hz2 rfl (by decide) (.slice ad n c) n (valsH zs) hown.own p m sc (valsH ys) hnl hnews (vals_oneH ys) (by unfold maxLen; omega) (by omega) hB
    have hlen : (zs ++ ys).length = n + m := by simp [hown.len, hl2]
    have hv : valsH zs ++ valsH ys = valsH (zs ++ ys) := by simp [valsH]
    rw [hv] at hown'
    have hex : ∃ a' c', v' = .slice a' (n + m) c' := by
      rcases hown'.2 with ⟨rfl, e⟩ | ⟨g, cap, cur, rfl, _⟩
      · exact ⟨none, 0, by rw [e]⟩
      · exact ⟨_, _, rfl⟩
    obtain ⟨a', c', rfl⟩ := hex
    refine ⟨a', c', w', hr, ⟨hlen, hown', hbnd⟩, hg', ?_⟩
    intro g hgb
    rcases hown.own.2 with ⟨hv0, hn0⟩ | ⟨g0, cap, cur, hv0, hBg, hh, hnc, hcm, hcs, htake⟩
    · injection hv0 with e1 e2 e3
      subst e1 e3 hn0
      obtain rfl : zs = [] := List.eq_nil_of_length_eq_zero hown.len
      obtain ⟨v2, w2, hr2, hown2, _, _⟩ := run_append_own (P := Try.prog) w w.heap.size 72 ty 42 i (.int .u16 0) 1 2 Try.underlying72 hi hz0 hz1 hz2 rfl (by decide) (.slice none 0 0) 0 (valsH []) (World.ownsRow_nil w _ _ _) p m sc (valsH ys) hnl hnews (vals_oneH ys) (by unfold maxLen; omega) (by omega) (Nat.le_refl _)
      have e := hr.symm.trans hr2
      injection e with e1 e2
      subst e1 e2
      exact .inr (hown2.lt g hgb).1
    · injection hv0 with e1 e2 e3
      subst e1 e3
      by_cases hroom : n + m ≤ c
      · have hr2 := run_append_room (P := Try.prog) w 72 ty 42 i Try.underlying72 hi g0 n c cur hh p m sc (valsH ys) (by rw [hz1]; exact hnl) hnews (vals_oneH ys) hroom (by rw [hz1, hnl, hcs]; omega)
        have e := hr.symm.trans hr2
        injection e with e1 e2
        injection e1 with e1
        subst e1
        exact .inl hgb
      · obtain ⟨v2, w2, hr2, hown2, _⟩ := run_append_arg_grows (P := Try.prog) w 72 ty 42 i (.int .u16 0) 1 2 Try.underlying72 hi hz0 hz1 hz2 rfl (by decide) ⟨g0, 0, none⟩ n c (valsH zs) (by simp [valsH, hown.len]) (hown.own.cells (g := g0) rfl) p m sc (valsH ys) hnl hnews (by omega) (by unfold maxLen; omega) (by omega)
        have e := hr.symm.trans hr2
        injection e with e1 e2
        subst e1 e2
        exact .inr (hown2.lt g hgb).1
theorem app_wpH {o : Oper} {a : Act} {w : World} {K : Act → World → Prop} {Q : Exit → Act → World → Prop} (s x : Operand)
    (ho : o.op = .call { callee := .builtin .append, args := #[s, x], argTypes := #[72, 72] })
    (B : Nat) (ad : Option Addr) (n c : Nat) (zs : List Nat) (hs : a.eval s = .slice ad n c) (hown : OwnH w B ad n c zs)
    (sa : Option Addr) (m sc : Nat) (ys : List Nat) (hx : a.eval x = .slice sa m sc) (hsrc : SlH w sa m sc ys) (hb : (n + m) * 2 ≤ 140737488355328) (hB : B ≤ w.heap.size)
    (h : ∀ a' c' w', OwnH w' B a' (n + m) c' (zs ++ ys) → w.grownBy w' (Value.slice ad n c).ownBlock → (∀ g, (Value.slice a' (n + m) c').ownBlock = some g → (Value.slice ad n c).ownBlock = some g ∨ w.heap.size ≤ g) → K (a.put o.dst (.slice a' (n + m) c')) w') : o.wp Try.prog a w K Q := by
  obtain ⟨a', c', w', hr, h1, h2, h3⟩ := app_runH w o.type B ad n c zs hown sa m sc ys hsrc hb hB
  have := h a' c' w' h1 h2 h3
  unfold Oper.wp
  simp [execOp, ho, resolve, invoke, builtin, hs, hx, hr, Result.andThen]
  exact this
/-- The law for the walk; the operation's guard, if there is one, says yes. -/
theorem app_list2H {ops : Array Oper} {rest : List Oper} {o : Oper} {a : Act} {w : World} {Q : Exit → Act → World → Prop} (hgd : Region.wanted o (yielded ops a.tmps) = true) (s x : Operand)
    (ho : o.op = .call { callee := .builtin .append, args := #[s, x], argTypes := #[72, 72] })
    (B : Nat) (ad : Option Addr) (n c : Nat) (zs : List Nat) (hs : a.eval s = .slice ad n c) (hown : OwnH w B ad n c zs)
    (sa : Option Addr) (m sc : Nat) (ys : List Nat) (hx : a.eval x = .slice sa m sc) (hsrc : SlH w sa m sc ys) (hb : (n + m) * 2 ≤ 140737488355328) (hB : B ≤ w.heap.size)
    (h : ∀ a' c' w', OwnH w' B a' (n + m) c' (zs ++ ys) → w.grownBy w' (Value.slice ad n c).ownBlock → (∀ g, (Value.slice a' (n + m) c').ownBlock = some g → (Value.slice ad n c).ownBlock = some g ∨ w.heap.size ≤ g) → wpList Try.prog ops Q rest (a.put o.dst (.slice a' (n + m) c')) w') : wpList Try.prog ops Q (o :: rest) a w :=
  wpList_step fun K hK => by
    rw [if_pos hgd]
    exact app_wpH s x ho B ad n c zs hs hown sa m sc ys hx hsrc hb hB fun a' c' w' h1 h2 h3 => hK _ _ (h a' c' w' h1 h2 h3)
/-- The same, without a word on where the new row lies. -/
theorem app_listH {ops : Array Oper} {rest : List Oper} {o : Oper} {a : Act} {w : World} {Q : Exit → Act → World → Prop} (hgd : Region.wanted o (yielded ops a.tmps) = true) (s x : Operand)
    (ho : o.op = .call { callee := .builtin .append, args := #[s, x], argTypes := #[72, 72] })
    (B : Nat) (ad : Option Addr) (n c : Nat) (zs : List Nat) (hs : a.eval s = .slice ad n c) (hown : OwnH w B ad n c zs)
    (sa : Option Addr) (m sc : Nat) (ys : List Nat) (hx : a.eval x = .slice sa m sc) (hsrc : SlH w sa m sc ys) (hb : (n + m) * 2 ≤ 140737488355328) (hB : B ≤ w.heap.size)
    (h : ∀ a' c' w', OwnH w' B a' (n + m) c' (zs ++ ys) → w.grownBy w' (Value.slice ad n c).ownBlock → wpList Try.prog ops Q rest (a.put o.dst (.slice a' (n + m) c')) w') : wpList Try.prog ops Q (o :: rest) a w :=
  app_list2H hgd s x ho B ad n c zs hs hown sa m sc ys hx hsrc hb hB fun a' c' w' h1 h2 _ => h a' c' w' h1 h2
/-- The law for a region that draws its order. -/
theorem app_stepH {ops : Array Oper} {o : Oper} {a : Act} {w : World} {K : Act → World → Prop} {Q : Exit → Act → World → Prop} {E : Prop} (hgd : o.guard = none) (s x : Operand)
    (ho : o.op = .call { callee := .builtin .append, args := #[s, x], argTypes := #[72, 72] })
    (B : Nat) (ad : Option Addr) (n c : Nat) (zs : List Nat) (hs : a.eval s = .slice ad n c) (hown : OwnH w B ad n c zs)
    (sa : Option Addr) (m sc : Nat) (ys : List Nat) (hx : a.eval x = .slice sa m sc) (hsrc : SlH w sa m sc ys) (hb : (n + m) * 2 ≤ 140737488355328) (hB : B ≤ w.heap.size)
    (h : ∀ a' c' w', OwnH w' B a' (n + m) c' (zs ++ ys) → w.grownBy w' (Value.slice ad n c).ownBlock → K (a.put o.dst (.slice a' (n + m) c')) w') :
    if Region.wanted o (yielded ops a.tmps) = true then Oper.wp Try.prog o a w K Q else E := by
  have hw : Region.wanted o (yielded ops a.tmps) = true := by simp [Region.wanted, hgd]
  rw [if_pos hw]
  exact app_wpH s x ho B ad n c zs hs hown sa m sc ys hx hsrc hb hB fun a' c' w' h1 h2 _ => h a' c' w' h1 h2
/-- Two rows of the call's own lie apart. -/
def ApartH (a : Option Addr) (n c : Nat) (a2 : Option Addr) (n2 c2 : Nat) : Prop := ∀ g, (Value.slice a n c).ownBlock = some g → (Value.slice a2 n2 c2).ownBlock ≠ some g
theorem ApartH.keep {a : Option Addr} {n c : Nat} {a2 : Option Addr} {n2 c2 : Nat} (h : ApartH a n c a2 n2 c2) : (Value.slice a2 n2 c2).ownBlock = none ∨ (Value.slice a2 n2 c2).ownBlock ≠ (Value.slice a n c).ownBlock := by
  cases hg : (Value.slice a2 n2 c2).ownBlock with
  | none => exact .inl rfl
  | some g =>
    refine .inr fun e => ?_
    exact h g e.symm hg
theorem ApartH.symm {a : Option Addr} {n c : Nat} {a2 : Option Addr} {n2 c2 : Nat} (h : ApartH a n c a2 n2 c2) : ApartH a2 n2 c2 a n c := fun g h1 h2 => h g h2 h1
theorem ApartH.next {w : World} {B : Nat} {a : Option Addr} {n c : Nat} {a2 : Option Addr} {n2 c2 : Nat} {zs : List Nat} {a' : Option Addr} {n' c' H : Nat} (h : ApartH a n c a2 n2 c2) (ho : OwnH w B a2 n2 c2 zs) (hH : w.heap.size ≤ H)
    (hn : ∀ g, (Value.slice a' n' c').ownBlock = some g → (Value.slice a n c).ownBlock = some g ∨ H ≤ g) : ApartH a' n' c' a2 n2 c2 := by
  intro g hg h2
  rcases hn g hg with h1 | h1
  · exact h g h1 h2
  · have := (ho.own.lt g h2).2
    omega
end Go.Proofs.Ytjaheelgcjafcaa
namespace Go.Proofs.Ytjaheelgcjafcaa
open Go.RowKit Go.MapKept Go.Maps
theorem eql_nilH (w : World) (a : Option Addr) (n c : Nat) : (binOp .eql 72 (.slice a n c) (.slice none 0 0)).run Try.prog w = .ok (.bool a.isNone) w := by
  simp [binOp, run_equal_slice_nil w 72 42 a n c Try.underlying72]
set_option maxHeartbeats 1000000 in
theorem clone16_any (a : Option Addr) (n c : Nat) (zs : List Nat) (w : World) (hs : SlH w a n c zs) (hn : n ≤ 16) :
    Calls Try.prog 30 #[.slice a n c] w fun e w' => ∃ a' c', e = .returned (.slice a' n c') ∧ OwnH w' w.heap.size a' n c' zs ∧ Below w.heap.size w w' := by
  have hl := hs.len
  have hcap := hs.cap
  cases a with
  | none =>
    have hnil := fun w => eql_nilH w none 0 0
    obtain rfl := hs.nz rfl
    obtain rfl : n = 0 := by omega
    obtain rfl : zs = [] := List.eq_nil_of_length_eq_zero hl
    go_enter Try.func30, Try.ntmps30
    go_wp2
    go_ret
    exact ⟨none, 0, rfl, OwnH.nil _ _, Below.refl _ _⟩
  | some x =>
    have hnil := fun w => eql_nilH w (some x) n c
    go_enter Try.func30, Try.ntmps30
    go_wp2_with (at_builtin; go_must (refine app_listH rfl _ _ rfl w.heap.size _ 0 0 [] rfl (own_emptyH w) _ n c zs rfl (hs.alloc _) (by omega) (by simp) ?_))
    intro a1 c1 w1 ho1 hg1
    have hb1 : Below w.heap.size w w1 := ((Below.refl _ _).alloc (Nat.le_refl _) _).trans ((own_emptyH w).up hg1 (by simp))
    clear hg1
    go_wp2
    go_ret
    exact ⟨a1, c1, by simp, by simpa using ho1, hb1⟩
theorem OwnH.block {w : World} {B : Nat} {a : Option Addr} {n c : Nat} {zs : List Nat} (h : OwnH w B a n c zs) (hn : 0 < n) :
    ∃ g, a = some ⟨g, 0, none⟩ ∧ B ≤ g ∧ g < w.heap.size ∧ (∀ i, i < n → w.cell? ⟨g, i, none⟩ = some (.int .u16 (zs.getD i 0 : Nat))) ∧ (∀ i, w.frozen? ⟨g, i, none⟩ = false) ∧ n ≤ c ∧ c ≤ maxLen := by
  obtain ⟨hl, ho, hb⟩ := h
  have ho2 := ho
  obtain ⟨_, h2⟩ := ho
  rcases h2 with ⟨hv, h0⟩ | ⟨g, cap, cur, hv, hBg, hh, h3, hcap, hsz, htake⟩
  · omega
  · injection hv with e1 e2 e3
    subst e1 e3
    refine ⟨g, rfl, hBg, (ho2.lt g rfl).2, fun i hi => ?_, fun i => ?_, h3, hcap⟩
    · rw [ho2.cellAt i (by omega), vals_atH zs i (by omega)]
    · unfold World.frozen?
      dsimp only
      rw [hh]
      simp
theorem Mp.copy {κ : Type} {ek : κ → Value} {K : κ → Prop} {w W W' : World} {b n : Nat} {g : κ → Option Value} (h : Mp ek K w b n g) {es : Array MapEntry} {c : Nat} (hb : w.heap[b]? = some (.map es c)) (hW : W' = W.alloc (.map es c)) : Mp ek K W' W.heap.size n g := by
  obtain ⟨es', c', h1, h2⟩ := h.ex
  rw [hb] at h1
  injection h1 with h1
  injection h1 with e1 e2
  subst e1 e2
  refine ⟨es, c, ?_, h2⟩
  rw [hW]
  show (W.heap.push _)[W.heap.size]? = _
  simp
end Go.Proofs.Ytjaheelgcjafcaa
namespace Go.Proofs.Ytjaheelgcjafcaa
open Go.RowKit Go.MapKept Go.Maps
/-- Behind Fork: a struct of its own, a row of its own, two maps of its own; they hold what the old ones hold. -/
structure FkR (w w' : World) (q g m1 m2 c : Nat) (s : SmS) (wr : Nat → Option Addr × Nat) : Prop where
  st : Stc w' q [.slice (some ⟨g, 0, none⟩) s.nx.length c, .map (some m1), .map (some m2)]
  cap : s.nx.length ≤ c ∧ c ≤ maxLen
  nx : ∀ i, i < s.nx.length → w'.cell? ⟨g, i, none⟩ = some (.int .u16 (s.nx.getD i 0 : Nat))
  nf : ∀ i, w'.frozen? ⟨g, i, none⟩ = false
  mp : Mp ipV IpK w' m1 s.D.length (fun q => (lookD s.D q).map Pc.val)
  wm : Mp tuV IpK w' m2 s.W.length (fun q => (lookD s.W q).map (wval wr q))
  ne : q ≠ g ∧ q ≠ m1 ∧ q ≠ m2 ∧ g ≠ m1 ∧ g ≠ m2 ∧ m1 ≠ m2
  new : w.heap.size ≤ q ∧ w.heap.size ≤ g ∧ w.heap.size ≤ m1 ∧ w.heap.size ≤ m2
  lt : g < w'.heap.size
  bel : Below w.heap.size w w'
set_option maxRecDepth 100000 in
set_option maxHeartbeats 2000000 in
theorem fork_any {w : World} {p nb mb wb : Nat} {wr : Nat → Option Addr × Nat} {Y : Nat → Prop} {s : SmS} (h : SmW w p nb mb wb wr Y s) :
    Calls Try.prog 17 #[.pointer (some ⟨p, 0, none⟩)] w fun e w' => ∃ q g m1 m2 c, e = .returned (.pointer (some ⟨q, 0, none⟩)) ∧ FkR w w' q g m1 m2 c s wr := by
  have kP : ∀ (b : Nat) (es : Array MapEntry) (clock : Nat) (w : World), w.heap[b]? = some (.map es clock) → Calls Try.prog 31 #[.map (some b)] w fun e w' => e = .returned (.map (some w.heap.size)) ∧ w' = w.alloc (.map es clock) := fun b es clock w hb => AnyW.maps_Clone Try.cloneP b es clock w hb
  have kW : ∀ (b : Nat) (es : Array MapEntry) (clock : Nat) (w : World), w.heap[b]? = some (.map es clock) → Calls Try.prog 32 #[.map (some b)] w fun e w' => e = .returned (.map (some w.heap.size)) ∧ w' = w.alloc (.map es clock) := fun b es clock w hb => AnyW.maps_Clone Try.cloneW b es clock w hb
  have hpl := h.st.lt
  obtain ⟨cp, hcp, hsp⟩ := h.sx
  have hn1 := h.n1
  have hn8 := h.n8
  have hsl : SlH w (some ⟨nb, 0, none⟩) s.nx.length cp s.nx := ⟨rfl, hcp.1, hcp.2, by omega, (fun e => by cases e), h.nv, .inr ⟨nb, 0, rfl, h.nl, fun i hi => by rw [Nat.zero_add]; exact h.nx i hi⟩⟩
  have HCL := (show Hid _ from fun W (hW : Below w.heap.size w W) => clone16_any _ _ _ _ W (hsl.below hW) (by omega))
  have HS := (show Hid _ from h)
  have c0 := hsp.cell 0 _ rfl
  have c1 := hsp.cell 1 _ rfl
  have c2 := hsp.cell 2 _ rfl
  obtain ⟨es1, k1, hm1, _⟩ := h.mp.ex
  obtain ⟨es2, k2, hm2, _⟩ := h.wm.ex
  have hml := h.mp.lt
  have hwl := h.wm.lt
  have HM1 := (show Hid _ from fun W (hW : Below w.heap.size w W) => kP mb es1 k1 W ((hW.block mb hml).trans hm1))
  have HM2 := (show Hid _ from fun W (hW : Below w.heap.size w W) => kW wb es2 k2 W ((hW.block wb hwl).trans hm2))
  have HCC := (show Hid _ from fun W (hW : Below w.heap.size w W) => (⟨(hsp.below hW).cell 0 _ rfl, (hsp.below hW).cell 1 _ rfl, (hsp.below hW).cell 2 _ rfl⟩ : W.cell? ⟨p, 0, none⟩ = some (.slice (some ⟨nb, 0, none⟩) s.nx.length cp) ∧ W.cell? ⟨p, 1, none⟩ = some (.map (some mb)) ∧ W.cell? ⟨p, 2, none⟩ = some (.map (some wb))))
  have HES := (show Hid _ from And.intro hm1 hm2)
  clear h hsl hsp hcp kP kW hm1 hm2 hml hwl
  have hb0 : Below w.heap.size w w.drew := (Below.refl _ _).drew
  have hc00 := HCC.out _ hb0
  go_enter Try.func17, Try.ntmps17
  go_wp2_with fail
  clear c0 c1 c2
  go_region_held3 (fun w' => w'.cell? ⟨p, 0, none⟩ = some (.slice (some ⟨nb, 0, none⟩) s.nx.length cp) ∧ w'.cell? ⟨p, 1, none⟩ = some (.map (some mb)) ∧ w'.cell? ⟨p, 2, none⟩ = some (.map (some wb))) (first | exact hc00 | exact hc1 | exact hc2 | exact hc3 | go_keep) (first
    | (go_at_call 30; refine (HCL.out _ hb0).mono ?_; rintro e w1 ⟨a', c', rfl, ho, hbA⟩; have hb1 := hb0.trans (hbA.mono hb0.size); have hc1 := HCC.out _ hb1)
    | (go_at_call 31; refine (HM1.out _ hb1).mono ?_; rintro e w2 ⟨rfl, hw2⟩; have hbB : Below w1.heap.size w1 w2 := (by rw [hw2]; exact (Below.refl _ _).alloc (Nat.le_refl _) _); have HW2 := (show Hid _ from hw2); clear hw2; have hb2 := hb1.trans (hbB.mono hb1.size); have hc2 := HCC.out _ hb2)
    | (go_at_call 32; refine (HM2.out _ hb2).mono ?_; rintro e w3 ⟨rfl, hw3⟩; have hbC : Below w2.heap.size w2 w3 := (by rw [hw3]; exact (Below.refl _ _).alloc (Nat.le_refl _) _); have HW3 := (show Hid _ from hw3); clear hw3; have hb3 := hb2.trans (hbC.mono hb2.size); have hc3 := HCC.out _ hb3)
    | fail)
  all_goals
    obtain ⟨g, rfl, hBg, hgl, hgc, hgf, hcap⟩ := ho.block (by omega)
    have HG := (show Hid (g < w1.heap.size ∧ w.heap.size ≤ g ∧ (∀ i, i < s.nx.length → w1.cell? ⟨g, i, none⟩ = some (.int .u16 (s.nx.getD i 0 : Nat))) ∧ (∀ i, w1.frozen? ⟨g, i, none⟩ = false) ∧ s.nx.length ≤ c' ∧ c' ≤ maxLen) from ⟨hgl, Nat.le_trans hb0.size hBg, hgc, hgf, hcap⟩)
    have HB := (show Hid _ from And.intro hb1 (And.intro hbB (And.intro hbC hb3)))
    clear hBg hgl hgc hgf hcap ho hbA hb1 hbB hbC hb2 hb3 hc1 hc2 hc3 hb0 hc00
    go_wp2
    go_ret
    obtain ⟨hb1, hbB, hbC, hb3⟩ := HB.out
    obtain ⟨hgl, hwg, hgc, hgf, hcap⟩ := HG.out
    have hw2 := HW2.out
    have hw3 := HW3.out
    obtain ⟨W4, hW4⟩ : ∃ W4, W4 = w3.alloc (.cells #[.slice (some ⟨g, 0, none⟩) s.nx.length c', .map (some w1.heap.size), .map (some w2.heap.size)] 76) := ⟨_, rfl⟩
    have z2 : w2.heap.size = w1.heap.size + 1 := by rw [hw2]; simp
    have z3 : w3.heap.size = w2.heap.size + 1 := by rw [hw3]; simp
    have hb4 : Below w3.heap.size w3 W4 := by rw [hW4]; exact (Below.refl _ _).alloc (Nat.le_refl _) _
    have hst := Stc.new w3 [.slice (some ⟨g, 0, none⟩) s.nx.length c', .map (some w1.heap.size), .map (some w2.heap.size)] 76 W4 hW4
    have hb14 : Below w1.heap.size w1 W4 := hbB.trans ((hbC.trans (hb4.mono hbC.size)).mono hbB.size)
    have hb24 : Below w2.heap.size w2 W4 := hbC.trans (hb4.mono hbC.size)
    have hm1 : Mp ipV IpK w2 w1.heap.size s.D.length (fun q => (lookD s.D q).map Pc.val) := HS.out.mp.copy HES.out.1 hw2
    have hm2 : Mp tuV IpK w3 w2.heap.size s.W.length (fun q => (lookD s.W q).map (wval wr q)) := HS.out.wm.copy HES.out.2 hw3
    have hsz1 := hb1.size
    refine ⟨w3.heap.size, g, w1.heap.size, w2.heap.size, c', rfl, ?_⟩
    rw [← hW4]
    exact ⟨hst, hcap, fun i hi => (hb14.cell (p := ⟨g, i, none⟩) hgl).trans (hgc i hi), fun i => (hb14.frozen (p := ⟨g, i, none⟩) hgl).trans (hgf i), hm1.below hb24, hm2.below hb4, ⟨by omega, by omega, by omega, by omega, by omega, by omega⟩, ⟨by omega, hwg, by omega, by omega⟩, by have := hb14.size; omega, hb3.trans (hb4.mono hb3.size)⟩
theorem SmW.fork {w w' : World} {p nb mb wb q g m1 m2 c : Nat} {wr : Nat → Option Addr × Nat} {Y : Nat → Prop} {s : SmS} (h : SmW w p nb mb wb wr Y s) (hf : FkR w w' q g m1 m2 c s wr) : SmW w' q g m1 m2 wr Y s := by
  have h2 := h.below hf.bel
  obtain ⟨n1, n2, n3, n4⟩ := hf.new
  exact ⟨⟨c, hf.cap, hf.st⟩, hf.nx, hf.nf, hf.lt, h.n1, h.n8, h.nv, hf.mp, hf.wm, h2.ds, h2.ws, h.sd, h.sw, hf.ne, fun k hk => by have := h.yl k hk; exact ⟨by omega, by omega, by omega, by omega⟩, h2.yl, h.held, h.dn⟩
end Go.Proofs.Ytjaheelgcjafcaa
namespace Go.Proofs.Ytjaheelgcjafcaa
open Go.RowKit Go.MapKept Go.Maps
theorem QOk.below {w w' : World} {x : ChQ} (h : QOk w x) (hb : Below w.heap.size w w') : QOk w' x := by
  refine ⟨?_, h.n1, h.n2⟩
  have hh := h.wf
  unfold ChQ.Wf at hh ⊢
  obtain ⟨h0, h1, h2, h3, h4, h5, h6, h7, h8, h9, h10, h11, h12, h13⟩ := hh
  exact ⟨h0, h1, h2, h3, h4, h5, h6, h7, h8, h9, h10.below hb, h11.below hb, h12.below hb, ⟨h13.1.below hb, h13.2⟩⟩
theorem RfS.fork {W0 w w1 w' : World} {p q : Nat} {r : Rw} {nx : List Nat} {E : List ChQ} {V : List RyD} {Z : Nat → Prop} (h : RfS W0 w1 p r nx E V Z) (hb0 : Below w.heap.size w w') (hb1 : Below w1.heap.size w1 w') (hw0 : Below W0.heap.size W0 w)
    (hq : w1.heap.size ≤ q) (h1 : w.heap.size ≤ w1.heap.size) (hs : Stc w' q [.slice r.aA nx.length r.aC, .slice r.lA E.length r.lC, .slice r.vA V.length r.vC]) : RfS w w' q r nx E V Z := by
  have h2 := h.below hb1
  refine ⟨hs, h2.ra, h2.rl, h2.rv, fun x hx => ?_, hb0, h2.sl, h.sm, h.n1, h.n8, h.nv, h.el, h.vl, fun g hg => ⟨?_, (h2.zp g hg).2⟩, Nat.le_trans h1 hq⟩
  · exact (h.ok x hx).below hw0
  · have := (h.zp g hg).2
    omega
set_option maxRecDepth 100000 in
set_option maxHeartbeats 2000000 in
theorem rfork_any {W0 w : World} {p : Nat} {r : Rw} {nx : List Nat} {E : List ChQ} {V : List RyD} {Z : Nat → Prop} (h : RfS W0 w p r nx E V Z) :
    Calls Try.prog 18 #[.pointer (some ⟨p, 0, none⟩)] w fun e w' => ∃ q, e = .returned (.pointer (some ⟨q, 0, none⟩)) ∧ w.heap.size ≤ q ∧ Stc w' q [.slice r.aA nx.length r.aC, .slice r.lA E.length r.lC, .slice r.vA V.length r.vC] ∧ Below w.heap.size w w' := by
  have hpl := h.st.lt
  have HS := (show Hid _ from h)
  have c0 := h.st.cell 0 _ rfl
  have c1 := h.st.cell 1 _ rfl
  have c2 := h.st.cell 2 _ rfl
  clear h
  go_enter Try.func18, Try.ntmps18
  go_wp2_with fail
  go_ret
  exact ⟨w.heap.size, rfl, Nat.le_refl _, Stc.new w [.slice r.aA nx.length r.aC, .slice r.lA E.length r.lC, .slice r.vA V.length r.vC] 93 _ rfl, (Below.refl _ _).alloc (Nat.le_refl _) _⟩
end Go.Proofs.Ytjaheelgcjafcaa
namespace Go.Proofs.Ytjaheelgcjafcaa
open Go.RowKit Go.MapKept Go.Maps
theorem forks_any {W0 w : World} {px nb mb wb py : Nat} (hB : BoS W0 w px nb mb wb py) :
    Calls Try.prog 17 #[.pointer (some ⟨px, 0, none⟩)] w fun e w1 => ∃ q g m1 m2, e = .returned (.pointer (some ⟨q, 0, none⟩)) ∧ Below w.heap.size w w1
      ∧ Calls Try.prog 18 #[.pointer (some ⟨py, 0, none⟩)] w1 fun e2 w2 => ∃ q2, e2 = .returned (.pointer (some ⟨q2, 0, none⟩)) ∧ BoS w w2 q g m1 m2 q2 := by
  obtain ⟨s, wr, Y, r, E, V, Z, h1, h2, h3, h4, h5⟩ := hB.ex
  refine (fork_any h1).mono ?_
  rintro e w1 ⟨q, g, m1, m2, c, rfl, hf⟩
  refine ⟨q, g, m1, m2, rfl, hf.bel, ?_⟩
  have h2' := h2.below hf.bel
  refine (rfork_any h2').mono ?_
  rintro e w2 ⟨q2, rfl, hq2, hst, hb2⟩
  have hz := hf.bel.size
  have hbw := hf.bel.trans (hb2.mono hz)
  obtain ⟨n1, n2, n3, n4⟩ := hf.new
  have hs1 := h1.fork hf
  have l1 := hs1.st.lt
  have l2 := hs1.nl
  have l3 := hs1.mp.lt
  have l4 := hs1.wm.lt
  refine ⟨q2, rfl, ⟨s, wr, Y, r, E, V, Z, hs1.below hb2, RfS.fork h2' hbw hb2 hB.bel hq2 hz hst, h3, fun k hk => ?_, fun e => ?_⟩, ?_, ⟨n1, n2, n3, n4, by omega⟩, hbw⟩
  · have := (h2.zp k hk).2
    exact ⟨(h4 k hk).1, by omega, by omega, by omega, by omega⟩
  · have := h1.yl _ e
    omega
  · exact ⟨by omega, by omega, by omega, by omega⟩
end Go.Proofs.Ytjaheelgcjafcaa
