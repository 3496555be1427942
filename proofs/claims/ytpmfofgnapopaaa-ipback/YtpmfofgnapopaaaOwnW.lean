/- append onto a row of the call's own, up to some 2^47 bytes and more. -/
import Derived.Test.YtpmfofgnapopaaaOwn
import Derived.Deep.DeepAppendWide
namespace Go.Proofs.Ytpmfofgnapopaaa
open Go.RowKit
theorem app_runW (w : World) (ty : TypeId) (B : Nat) (ad : Option Addr) (n c : Nat) (zs : List Nat) (hown : OwnB w B ad n c zs)
    (sa : Option Addr) (m sc : Nat) (ys : List Nat) (hsrc : Sl w sa m sc ys) (hb : n + m ≤ 200000000000000) (hB : B ≤ w.heap.size) :
    ∃ a' c' w', (Builtin.append_ #[24, 24] ty #[.slice ad n c, .slice sa m sc]).run Try.prog w = .ok (.slice a' (n + m) c') w' ∧ OwnB w' B a' (n + m) c' (zs ++ ys) ∧ w.grownBy w' (Value.slice ad n c).ownBlock := by
  obtain ⟨i, hi, hz0, hz1, hz2⟩ := info_parts own_info
  obtain ⟨hl2, hcap2, hroom2, hsm2, hnz2, hb2, hat2⟩ := hsrc
  have hbnd : ∀ j, (zs ++ ys).getD j 0 < 256 := by
    intro j
    rw [getD_app]
    split
    · exact hown.bnd j
    · exact hb2 _
  cases sa with
  | none =>
    obtain rfl := hnz2 rfl
    obtain rfl : m = 0 := by omega
    obtain rfl : ys = [] := List.eq_nil_of_length_eq_zero hl2
    have hrun := run_append_owned_none (P := Try.prog) (w := w) B 24 ty 5 i 1 Try.underlying24 hi (.slice ad n c) n (vals zs) hown.own
    exact ⟨ad, c, w, hrun, by simpa using hown, World.grownBy.refl w _⟩
  | some p =>
    have hnews : ∀ j u, (vals ys)[j]? = some u → w.cell? (p.add j) = some u := by
      intro j u hj
      have hjl : j < ys.length := by
        have := (List.getElem?_eq_some_iff.1 hj).1
        simpa [vals] using this
      rcases hat2 with h0 | ⟨b, off, hp, _, hcell⟩
      · omega
      · injection hp with hp
        subst hp
        have ea : (⟨b, off, none⟩ : Addr).add j = ⟨b, off + j, none⟩ := by
          unfold Addr.add
          split
          · subst_vars; rfl
          · rfl
        rw [ea, hcell j (by omega), ← hj, vals_at ys j hjl]
    have hnl : (vals ys).length = m * 1 := by simp [vals, hl2]
    obtain ⟨v', w', hr, hown', hg', _⟩ := run_append_own_wide (P := Try.prog) w B 24 ty 5 i (.int .u8 0) 1 1 Try.underlying24 hi hz0 hz1 hz2 rfl (by decide) (.slice ad n c) n (vals zs) hown.own p m sc (vals ys) hnl hnews (vals_one ys) (by unfold maxLen; omega) (by omega) hB
    have hlen : (zs ++ ys).length = n + m := by simp [hown.len, hl2]
    have hv : vals zs ++ vals ys = vals (zs ++ ys) := by simp [vals]
    rw [hv] at hown'
    have hex : ∃ a' c', v' = .slice a' (n + m) c' := by
      rcases hown'.2 with ⟨rfl, e⟩ | ⟨g, cap, cur, rfl, _⟩
      · exact ⟨none, 0, by rw [e]⟩
      · exact ⟨_, _, rfl⟩
    obtain ⟨a', c', rfl⟩ := hex
    exact ⟨a', c', w', hr, ⟨hlen, hown', hbnd⟩, hg'⟩
theorem app_listW {ops : Array Oper} {rest : List Oper} {o : Oper} {a : Act} {w : World} {Q : Exit → Act → World → Prop} (hgd : Region.wanted o (yielded ops a.tmps) = true) (s x : Operand)
    (ho : o.op = .call { callee := .builtin .append, args := #[s, x], argTypes := #[24, 24] })
    (B : Nat) (ad : Option Addr) (n c : Nat) (zs : List Nat) (hs : a.eval s = .slice ad n c) (hown : OwnB w B ad n c zs)
    (sa : Option Addr) (m sc : Nat) (ys : List Nat) (hx : a.eval x = .slice sa m sc) (hsrc : Sl w sa m sc ys) (hb : n + m ≤ 200000000000000) (hB : B ≤ w.heap.size)
    (h : ∀ a' c' w', OwnB w' B a' (n + m) c' (zs ++ ys) → w.grownBy w' (Value.slice ad n c).ownBlock → wpList Try.prog ops Q rest (a.put o.dst (.slice a' (n + m) c')) w') : wpList Try.prog ops Q (o :: rest) a w :=
  wpList_step fun K hK => by
    rw [if_pos hgd]
    obtain ⟨a', c', w', hr, h1, h2⟩ := app_runW w o.type B ad n c zs hown sa m sc ys hsrc hb hB
    have := hK _ _ (h a' c' w' h1 h2)
    unfold Oper.wp
    simp [execOp, ho, resolve, invoke, builtin, hs, hx, hr, Result.andThen]
    exact this
end Go.Proofs.Ytpmfofgnapopaaa
