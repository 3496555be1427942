/- A row of strings of the call's own: one more behind it. -/
import Derived.Test.YtplicfknjhjjgaaDoorOwn
namespace Go.Proofs.YtplicfknjhjjgaaDoor
open Go.RowKit
theorem str_info : (Tryd.prog.info? 9).map (fun i => (i.zero, i.size, i.bytes)) = some (some (.string ⟨#[]⟩), 1, 16) := by kernel_rfl
/-- A row of strings of the call's own. -/
def OwnS (w : World) (B : Nat) (v : Value) (n : Nat) (xs : List ByteArray) : Prop := w.ownsRow B 9 1 v n (xs.map Value.string)
theorem OwnS.nil (w : World) (B : Nat) : OwnS w B (.slice none 0 0) 0 [] := World.ownsRow_nil w B _ _
theorem OwnS.below {w w' : World} {B : Nat} {v : Value} {n : Nat} {xs : List ByteArray} (h : OwnS w B v n xs) (hb : Below w.heap.size w w') : OwnS w' B v n xs :=
  World.ownsRow.kept h (grown_of_below hb) (by cases e : v.ownBlock with | none => exact .inl rfl | some g => exact .inr (by simp))
theorem OwnS.alloc {w : World} {B : Nat} {v : Value} {n : Nat} {xs : List ByteArray} (h : OwnS w B v n xs) (o : Obj) : OwnS (w.alloc o) B v n xs := h.below ((Below.refl _ _).alloc (Nat.le_refl _) _)
theorem OwnS.up {w w' : World} {B : Nat} {v : Value} {n : Nat} {xs : List ByteArray} (h : OwnS w B v n xs) (hg : w.grownBy w' v.ownBlock) (hB : B ≤ w.heap.size) : Below B w w' :=
  (Below.refl B w).grown hg hB (fun k hk => (World.ownsRow.lt h k hk).1)
theorem app_str {ops : Array Oper} {rest : List Oper} {o : Oper} {a : Act} {w : World} {Q : Exit → Act → World → Prop} (hgd : o.guard = none) (s x : Operand)
    (ho : o.op = .call { callee := .builtin .append, args := #[s, x], argTypes := #[33, 33] })
    (B : Nat) (v : Value) (n : Nat) (xs : List ByteArray) (hs : a.eval s = v) (hown : OwnS w B v n xs)
    (ad : Addr) (y : ByteArray) (hx : a.eval x = .slice (some ad) 1 1) (hcell : w.cell? (ad.add 0) = some (.string y)) (hb : n + 1 ≤ 8796093022208) (hB : B ≤ w.heap.size)
    (h : ∀ v' w', OwnS w' B v' (n + 1) (xs ++ [y]) → w.grownBy w' v.ownBlock → wpList Tryd.prog ops Q rest (a.put o.dst v') w') : wpList Tryd.prog ops Q (o :: rest) a w := by
  obtain ⟨i, hi, hz0, hz1, hz2⟩ := info_parts str_info
  refine wpList_append_own _ hgd s x _ ho B 9 i (.string ⟨#[]⟩) 1 16 Tryd.underlying33 hi hz0 hz1 hz2 rfl (by omega) v n _ hs hown ad 1 1 [.string y] hx rfl ?_ (by simp [Value.oneCell']) (by unfold maxLen; omega) (by omega) hB ?_
  · intro k u hk
    cases k with
    | zero => simp at hk; subst hk; exact hcell
    | succ k => simp at hk
  · intro v' w' h1 h2 _
    exact h v' w' (by unfold OwnS; rw [List.map_append]; exact h1) h2
theorem OwnS.cells {w : World} {B g n c : Nat} {xs : List ByteArray} (h : OwnS w B (.slice (some ⟨g, 0, none⟩) n c) n xs) : ∀ (j : Nat) x, xs[j]? = some x → w.cell? ⟨g, 0 + j, none⟩ = some (.string x) := by
  intro j x hx
  have hl : xs.length = n := by have := h.1; simpa using this
  have hj : j < n := by rw [← hl]; exact (List.getElem?_eq_some_iff.1 hx).1
  rw [Nat.zero_add, World.ownsRow.cellAt h j (by omega), List.getElem?_map, hx]
  rfl
end Go.Proofs.YtplicfknjhjjgaaDoor
