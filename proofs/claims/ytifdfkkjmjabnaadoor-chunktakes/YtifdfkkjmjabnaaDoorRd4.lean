/- chunk's reader: chunks, one behind the other. -/
import Derived.Test.YtifdfkkjmjabnaaDoorRd3
namespace Go.Proofs.YtifdfkkjmjabnaaDoor
open Go.RowKit
theorem app_eq_listR {P : Program} {S : TypeId} {ops : Array Oper} {rest : List Oper} {o : Oper} {A : Act} {w w' : World} {Q : Exit → Act → World → Prop} {v u r : Value} {ty : TypeId} (hgd : Region.wanted o (yielded ops A.tmps) = true) (s x : Operand)
    (ho : o.op = .call { callee := .builtin .append, args := #[s, x], argTypes := #[S, S] }) (hty : o.type = ty) (hs : A.eval s = v) (hx : A.eval x = u)
    (hrun : (Builtin.append_ #[S, S] ty #[v, u]).run P w = .ok r w') (hK : wpList P ops Q rest (A.put o.dst r) w') : wpList P ops Q (o :: rest) A w :=
  wpList_step fun K hK' => by
    rw [if_pos hgd]
    subst hty
    have := hK' _ _ hK
    unfold Oper.wp
    simp [execOp, ho, resolve, invoke, builtin, hs, hx, hrun, Result.andThen]
    exact this
/-- A chunk's cells. -/
abbrev C14 := { cs : List Value // cs.length = 14 ∧ ∀ u ∈ cs, u.oneCell' = true }
abbrev OwnR := OwnG 29 14 (fun x : C14 => x.1)
theorem layR : Lays Tryd.prog 37 29 14 128 (fun x : C14 => x.1) :=
  ⟨Tryd.underlying37, ⟨.agg #[.int .u8 0, .int .u8 0, .int .u32 0, .int .u16 0, .int .u16 0, .int .u32 0, .int .u32 0, .int .u32 0, .int .u16 0, .int .u16 0, .slice none 0 0, .slice none 0 0, .slice none 0 0, .slice none 0 0], by kernel_rfl, rfl⟩, by decide, fun x => x.2.1, fun x => x.2.2⟩
theorem fold14a (a0 a1 a2 a3 a4 a5 a6 a7 a8 a9 a10 a11 a12 a13 : Value) : List.foldl (fun (cs : Array Value) x => cs.setIfInBounds x.snd x.fst) #[.int .u8 0, .int .u8 0, .int .u32 0, .int .u16 0, .int .u16 0, .int .u32 0, .int .u32 0, .int .u32 0, .int .u16 0, .int .u16 0, .slice none 0 0, .slice none 0 0, .slice none 0 0, .slice none 0 0] [a0, a1, a2, a3, a4, a5, a6, a7, a8, a9, a10, a11, a12, a13].zipIdx = #[a0, a1, a2, a3, a4, a5, a6, a7, a8, a9, a10, a11, a12, a13] := by kernel_rfl
theorem fold14 (cs : List Value) (h : cs.length = 14) : List.foldl (fun (cs : Array Value) x => cs.setIfInBounds x.snd x.fst) #[.int .u8 0, .int .u8 0, .int .u32 0, .int .u16 0, .int .u16 0, .int .u32 0, .int .u32 0, .int .u32 0, .int .u16 0, .int .u16 0, .slice none 0 0, .slice none 0 0, .slice none 0 0, .slice none 0 0] cs.zipIdx = cs.toArray := by
  match cs, h with
  | [a0, a1, a2, a3, a4, a5, a6, a7, a8, a9, a10, a11, a12, a13], _ => exact fold14a a0 a1 a2 a3 a4 a5 a6 a7 a8 a9 a10 a11 a12 a13
structure RdL (W0 w : World) (q n : Nat) (C : Nat → C14) (sh : Int) (e : Ending) (w' : World) : Prop where
  ex : ∃ la lc, e = .returned (.slice la n lc) ∧ OwnR w' w.heap.size la n lc ((List.range n).map C)
  rd : RdW W0 w' q [] sh
  fr : Fr (fun k => k = q) w w'
set_option linter.unusedVariables false in
set_option maxRecDepth 100000 in
set_option maxHeartbeats 4000000 in
theorem rchunks_any {W0 w : World} {q : Nat} {sh : Int} (n : Nat) (C : Nat → C14) (rest : Nat → List Nat) (h : RdW W0 w q (rest 0) sh) (hn : rest n = []) (hne : ∀ i, i < n → rest i ≠ []) (hn32 : n ≤ 32)
    (hrd : ∀ i, i < n → ∀ W, RdW W0 W q (rest i) sh → Calls Tryd.prog 70 #[.pointer (some ⟨q, 0, none⟩), .int .i64 (i : Nat)] W (RdP W0 W q (.agg (C i).1.toArray) (rest (i + 1)) sh)) :
    Calls Tryd.prog 56 #[.pointer (some ⟨q, 0, none⟩)] w (RdL W0 w q n C sh) := by
  have hql := h.lt
  have hWq := h.old
  have HU : Hid (RuS W0 w q (rest 0) sh w ∧ OwnR w w.heap.size none 0 0 ((List.range 0).map C)) := ⟨⟨h, Fr.refl _ _⟩, OwnG.nil _ _⟩
  have HRD := (show Hid _ from hrd)
  have HNE := (show Hid _ from And.intro hn hne)
  clear h hrd hn hne
  go_enter Tryd.func56, Tryd.ntmps56
  go_wp2
  go_loopw [3] (fun u3 wr => ∃ (i : Nat) (la : Option Addr) (lc : Nat), i ≤ n ∧ u3 = .slice la i lc ∧ RuS W0 w q (rest i) sh wr ∧ OwnR wr w.heap.size la i lc ((List.range i).map C)) (fun u3 _ => match u3 with | .slice _ i _ => n - i | _ => 0)
  case atStart => exact ⟨0, none, 0, by omega, rfl, HU.out⟩
  case round =>
    obtain ⟨i, la, lc, hin, rfl, hu, ho⟩ := hrel
    obtain ⟨b, off, m, c, hst, hs⟩ := hu.rd.ex
    have c0 := hst.cell 0 _ rfl
    have hm := hs.len
    have hms := hs.small
    have HUO := (show Hid _ from And.intro hu ho)
    clear hst hs hu ho HU
    by_cases hlt : i < n
    · have hm0 : (0 : Int) < (m : Int) := by
        have := List.length_pos_iff.2 (HNE.out.2 i hlt)
        omega
      have HN := (show Hid _ from HRD.out i hlt wr HUO.out.1.rd)
      clear hm
      go_wp2_with fail
      refine Calls.mono HN.out ?_
      clear HN c0 hm0
      rintro e w2 hP
      have he := hP.out
      subst he
      have ho2 : OwnR w2 w.heap.size la i lc ((List.range i).map C) := OwnG.fr HUO.out.2 hP.fr (fun g hg => by have := (HUO.out.2.own.lt g hg).1; omega)
      have hsz2 : w.heap.size ≤ w2.heap.size := Nat.le_trans HUO.out.1.fr.size hP.fr.size
      obtain ⟨cs, hcs⟩ : ∃ cs, cs = (C i).1 := ⟨_, rfl⟩
      have b0 : Below w2.heap.size w2 (w2.alloc (.cells cs.toArray 29)) := (Below.refl _ _).alloc (Nat.le_refl _) _
      have st2 := Stc.new w2 cs 29 _ rfl
      have h2a := OwnG.below ho2 b0
      obtain ⟨g7, c7, w7, hr7, ho7, hgr7, hg7, hg7l⟩ := OwnG.app layR h2a 37 (C i) ⟨w2.heap.size, 0, none⟩ (fun j u hj => by
        rw [← hcs] at hj
        have := st2.cell j u hj
        unfold Addr.add
        split
        · rename_i e; subst e; exact this
        · simpa using this) (by unfold maxLen; omega) (by omega) (Nat.le_trans hsz2 b0.size)
      have HF : Hid (RuS W0 w q (rest (i + 1)) sh w7 ∧ OwnR w7 w.heap.size (some ⟨g7, 0, none⟩) (i + 1) c7 ((List.range (i + 1)).map C)) := by
        have hu2 := (HUO.out.1.next hP).below b0
        have hf7 : Fr (fun k => (Value.slice la i lc).ownBlock = some k) (w2.alloc (.cells cs.toArray 29)) w7 := Fr.grown hgr7 (fun k hk => hk)
        refine ⟨⟨hu2.rd.fr hf7 (fun e => by have := (ho2.own.lt q e).1; omega) (fun g hg => by have := (ho2.own.lt g hg).1; omega), hu2.fr.trans (hf7.mono (fun k _ hk => .inr (ho2.own.lt k hk).1))⟩, ?_⟩
        rw [List.range_succ, List.map_append]
        exact ho7
      have hcl : cs.length = 14 := by rw [hcs]; exact (C i).2.1
      have hcl2 : cs.toArray.size = 14 := by simp [hcl]
      rw [← hcs]
      clear hP ho2 b0 st2 h2a ho7 hgr7 hg7 hg7l HUO hcs
      go_wp2_with (at_builtin; rw [fold14 cs hcl]; refine app_eq_listR rfl _ _ rfl rfl rfl rfl hr7 ?_)
      clear hr7
      go_wp2
      go_roundw
      case rel => exact ⟨i + 1, _, _, by omega, rfl, HF.out⟩
      case measure => simp; omega
    · have hien : i = n := by omega
      subst hien
      have hm0 : m = 0 := by rw [← hm, HNE.out.1]; rfl
      subst hm0
      have HF : Hid (RdL W0 w q i C sh (.returned (.slice la i lc)) wr) := ⟨⟨la, lc, rfl, HUO.out.2⟩, by have := HUO.out.1.rd; rwa [HNE.out.1] at this, HUO.out.1.fr.mono (fun k hk hp => hp.elim id (fun e => by omega))⟩
      clear HUO hm
      go_wp2
      go_ret
      exact HF.out
end Go.Proofs.YtifdfkkjmjabnaaDoor
