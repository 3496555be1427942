/- A row of rows of bytes of the call's own. -/
import Derived.Test.YtmmbnikjlklflaaRgW
import Derived.Deep.AppendLies
namespace Go.Proofs.Ytmmbnikjlklflaa
open Go.RowKit
def rowV (ins : List Dd) : List Value := ins.map fun x => .slice x.a x.n x.c
def OwnR (w : World) (B : Nat) (v : Value) (ins : List Dd) : Prop := w.ownsRow B 33 1 v ins.length (rowV ins)
theorem OwnR.nil (w : World) (B : Nat) : OwnR w B (.slice none 0 0) [] := World.ownsRow_nil w B _ _
theorem OwnR.fr {P : Nat → Prop} {w w' : World} {B : Nat} {v : Value} {ins : List Dd} (h : OwnR w B v ins) (hf : Fr P w w') (hp : ∀ k, v.ownBlock = some k → ¬ P k) : OwnR w' B v ins := by
  refine ⟨h.1, ?_⟩
  rcases h.2 with ⟨hv, h0⟩ | ⟨g, cap, cur, hv, hB, hh, h2⟩
  · exact .inl ⟨hv, h0⟩
  · have hlt : g < w.heap.size := by
      rcases Nat.lt_or_ge g w.heap.size with h9 | h9
      · exact h9
      · simp [h9] at hh
    exact .inr ⟨g, cap, cur, hv, hB, by rw [hf.block g hlt (hp g (by rw [hv]; rfl))]; exact hh, h2⟩
theorem OwnR.below {w w' : World} {B : Nat} {v : Value} {ins : List Dd} (h : OwnR w B v ins) (hb : Below w.heap.size w w') : OwnR w' B v ins := h.fr (Fr.of_below (P := fun _ => False) hb) (fun _ _ h => h)
theorem OwnR.form {w : World} {B : Nat} {v : Value} {ins : List Dd} (h : OwnR w B v ins) : v = .slice none 0 0 ∧ ins = [] ∨ ∃ g c, v = .slice (some ⟨g, 0, none⟩) ins.length c ∧ g < w.heap.size ∧ B ≤ g ∧ ∀ j x, ins[j]? = some x → w.cell? ⟨g, j, none⟩ = some (.slice x.a x.n x.c) := by
  have hlt := World.ownsRow.lt h
  have h' := h
  rcases h.2 with ⟨hv, h0⟩ | ⟨g, cap, cur, hv, hB, hh, h2⟩
  · exact .inl ⟨hv, List.eq_nil_of_length_eq_zero h0⟩
  · subst hv
    refine .inr ⟨g, cap, rfl, (hlt g rfl).2, hB, fun j x hx => ?_⟩
    have hj := (List.getElem?_eq_some_iff.1 hx).1
    unfold OwnR at h'
    rw [World.ownsRow.cellAt h' j (by omega)]
    simp [rowV, List.getElem?_map, hx]
theorem app_row {ops : Array Oper} {rest : List Oper} {o : Oper} {a : Act} (w : World) {Q : Exit → Act → World → Prop} (hgd : o.guard = none) (s x : Operand)
    (ho : o.op = .call { callee := .builtin .append, args := #[s, x], argTypes := #[32, 32] })
    (B : Nat) (v : Value) (ins : List Dd) (hs : a.eval s = v) (hown : OwnR w B v ins)
    (ad : Addr) (y : Dd) (hx : a.eval x = .slice (some ad) 1 1) (hcell : w.cell? (ad.add 0) = some (.slice y.a y.n y.c)) (hb : ins.length ≤ 1000000) (hB : B ≤ w.heap.size)
    (h : ∀ g cap w', OwnR w' B (.slice (some ⟨g, 0, none⟩) (ins.length + 1) cap) (ins ++ [y]) → w.grownBy w' v.ownBlock → (v.ownBlock = some g ∨ g = w.heap.size) → wpList Try.prog ops Q rest (a.put o.dst (.slice (some ⟨g, 0, none⟩) (ins.length + 1) cap)) w') : wpList Try.prog ops Q (o :: rest) a w := by
  obtain ⟨i, hi, hz0, hz1, hz2⟩ := info_parts rg_info
  refine wpList_append_lies w hgd s x _ ho B 33 i (.slice none 0 0) 1 24 Try.underlying32 hi hz0 hz1 hz2 rfl (by omega) v ins.length _ hs hown ad 1 1 [.slice y.a y.n y.c] hx rfl ?_ (by simp [Value.oneCell']) (by omega) (by unfold maxLen; omega) (by omega) hB _ rfl ?_
  · intro k u hk
    cases k with
    | zero => simp at hk; subst hk; exact hcell
    | succ k => simp at hk
  · intro g cap w' h1 h2 h3 _
    refine h g cap w' ?_ h2 h3
    unfold OwnR
    rw [List.length_append, List.length_singleton, show rowV (ins ++ [y]) = rowV ins ++ [.slice y.a y.n y.c] by simp [rowV]]
    exact h1
end Go.Proofs.Ytmmbnikjlklflaa
