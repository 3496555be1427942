/- outq: Expire; what the writing loops keep. -/
import Derived.Test.YtconfmjgoipejaaOqS
namespace Go.Proofs.Ytconfmjgoipejaa
open Go.RowKit Go.Shelf
attribute [local go_sem] Oper.semAt_some
/-- A list whose first k elements have been turned. -/
def mapTo (f : PcA → PcA) (L : List PcA) (k : Nat) : List PcA := (L.take k).map f ++ L.drop k
theorem mapTo_zero (f : PcA → PcA) (L : List PcA) : mapTo f L 0 = L := by simp [mapTo]
theorem mapTo_all (f : PcA → PcA) (L : List PcA) : mapTo f L L.length = L.map f := by simp [mapTo]
theorem mapTo_len (f : PcA → PcA) (L : List PcA) (k : Nat) (hk : k ≤ L.length) : (mapTo f L k).length = L.length := by
  simp [mapTo]; omega
theorem mapTo_get (f : PcA → PcA) (L : List PcA) {k i : Nat} (hk : k ≤ L.length) (h : k ≤ i) : (mapTo f L k)[i]? = L[i]? := by
  unfold mapTo
  have hl : ((L.take k).map f).length = k := by simp; omega
  rw [List.getElem?_append_right (by rw [hl]; exact h), hl, List.getElem?_drop, show k + (i - k) = i by omega]
theorem mapTo_set (f : PcA → PcA) (L : List PcA) {k : Nat} {x : PcA} (h : L[k]? = some x) : (mapTo f L k).set k (f x) = mapTo f L (k + 1) := by
  have hk := (List.getElem?_eq_some_iff.1 h).1
  have hx : L[k] = x := (List.getElem?_eq_some_iff.1 h).2
  unfold mapTo
  have hl : ((L.take k).map f).length = k := by simp; omega
  rw [List.set_append_right _ _ (by omega), hl, Nat.sub_self, List.drop_eq_getElem_cons hk, hx, List.set_cons_zero, List.take_add_one, h]
  simp
theorem mapTo_id (f : PcA → PcA) (L : List PcA) {k : Nat} {x : PcA} (h : L[k]? = some x) (he : f x = x) : mapTo f L k = mapTo f L (k + 1) := by
  have hk := (List.getElem?_eq_some_iff.1 h).1
  rw [← mapTo_set f L h]
  refine (List.ext_getElem? fun i => ?_).symm
  rw [List.getElem?_set]
  split
  · rename_i e
    subst e
    split
    · rw [he, mapTo_get f L (Nat.le_of_lt hk) (Nat.le_refl _), h]
    · rename_i hn
      exact absurd (by rw [mapTo_len f L k (Nat.le_of_lt hk)]; exact hk) hn
  · rfl
/-- A variable of type T in a block of its own. -/
structure Cx (T : TypeId) (b : Nat) (v : Value) (W : World) : Prop where
  bt : BT W b T
  cell : W.cell? ⟨b, 0, none⟩ = some v
  free : W.frozen? ⟨b, 0, none⟩ = false
section
variable {W W' : World} {T : TypeId} {b : Nat} {v : Value}
theorem Cx.lt (h : Cx T b v W) : b < W.heap.size := h.bt.lt
theorem Cx.new (w : World) (v : Value) (T : TypeId) (W : World) (hW : W = w.alloc (.cells #[v] T)) : Cx T w.heap.size v W := by
  have := Bx.new w v T W hW
  exact ⟨⟨#[v], (0, 0), by rw [hW]; exact World.alloc_heap_new w _⟩, this.cell, this.free⟩
theorem BT.grown {row : Option Nat} (h : BT W b T) (hg : W.grownBy W' row) (hr : ∀ r, row = some r → ∃ o : Obj, W.heap[r]? = some o ∧ o.isCells = false) : BT W' b T :=
  h.same (hg.block b h.lt (fun e => by
    obtain ⟨o, ho, hc⟩ := hr b e.symm
    obtain ⟨cur, r, hh⟩ := h
    rw [hh] at ho
    obtain rfl := Option.some.inj ho
    cases hc))
theorem Cx.grown {row : Option Nat} (h : Cx T b v W) (hg : W.grownBy W' row) (hr : ∀ r, row = some r → ∃ o : Obj, W.heap[r]? = some o ∧ o.isCells = false) : Cx T b v W' :=
  ⟨h.bt.grown hg hr, cell_kept h.cell hg hr, (frozen_kept h.cell hg hr).trans h.free⟩
theorem Cx.set (h : Cx T b v W) (u : Value) : Cx T b u (W.setCell ⟨b, 0, none⟩ u) :=
  ⟨h.bt.setCell _ _, World.cell?_setCell_same' _ _ _ (by rw [h.cell]; rfl), by rw [World.frozen?_setCell]; exact h.free⟩
theorem Cx.drew (h : Cx T b v W) : Cx T b v W.drew := ⟨h.bt.same rfl, h.cell, h.free⟩
theorem Cx.fr {Q : Nat → Prop} (h : Cx T b v W) (hf : Fr Q W W') (hq : ¬ Q b) : Cx T b v W' :=
  ⟨h.bt.same (hf.block b h.lt hq), (hf.cell ⟨b, 0, none⟩ h.lt hq).trans h.cell, (hf.frozen ⟨b, 0, none⟩ h.lt hq).trans h.free⟩
theorem Cx.below (h : Cx T b v W) (hb : Below W.heap.size W W') : Cx T b v W' := h.fr (Q := fun _ => False) (Fr.of_below hb) (fun e => e)
theorem Cx.other (h : Cx T b v W) (a : Addr) (u : Value) (he : a.block ≠ b) : Cx T b v (W.setCell a u) := h.fr (Fr.setCell (fun k => k = a.block) W a u rfl) (fun e => he e.symm)
end
/-- A store into a variable that is no part of a queue. -/
theorem QuW.var {w : World} {q nb : Nat} {pa : Option Addr} {cap : Nat} {L : List PcA} {cum size : Nat} {nx : List Nat} (h : QuW w q nb pa cap L cum size nx) (a : Addr) (v : Value) {T : TypeId} (hb : BT w a.block T) (h1 : T ≠ 71) (h2 : T ≠ 34) (h3 : T ≠ 82) (h4 : T ≠ 5) : QuW (w.setCell a v) q nb pa cap L cum size nx :=
  h.fr (Fr.setCell (fun k => k = a.block) w a v rfl) (fun e => hb.ne (e ▸ h.tq) h1 rfl) (fun e => hb.ne (e ▸ h.tn) h2 rfl) (fun g hg e => hb.ne (e ▸ h.row.bt g hg) h3 rfl) (fun _ hg e => hb.ne (e ▸ hg) h4 rfl)
theorem Fr.new {P : Nat → Prop} {w W W' : World} {row : Option Nat} (h : Fr P w W) (hg : W.grownBy W' row) (hr : ∀ r, row = some r → w.heap.size ≤ r) : Fr P w W' :=
  ⟨hg.os.trans h.os, hg.tape.trans h.tape, hg.output.trans h.output, Nat.le_trans h.size hg.size, fun k hk hp => (hg.block k (Nat.lt_of_lt_of_le hk h.size) (fun e => by have := hr k e.symm; omega)).trans (h.block k hk hp)⟩
theorem Fr.put {P : Nat → Prop} {w W : World} (h : Fr P w W) (a : Addr) (v : Value) (hp : P a.block ∨ w.heap.size ≤ a.block) : Fr P w (W.setCell a v) :=
  ⟨h.os, h.tape, h.output, by simpa [World.setCell] using h.size, fun k hk hn => (Below.heap_setCell _ _ _ _ (fun e => by
    rcases hp with h1 | h1
    · exact hn (e ▸ h1)
    · omega)).trans (h.block k hk hn)⟩
theorem Fr.drew {P : Nat → Prop} {w W : World} (h : Fr P w W) : Fr P w W.drew := h.trans (Fr.of_below (Below.refl _ _).drew)
/-- The queue's own blocks. -/
def qB (q nb : Nat) (pa : Option Addr) : Nat → Prop := fun b => b = q ∨ b = nb ∨ ∃ o s, pa = some ⟨b, o, s⟩
def expP (wy : Int) (x : PcA) : PcA := if x.1.is = 1 ∧ (x.1.wy : Int) = wy then ({ x.1 with is := 2 }, x.2) else x
def selP (wy : Int) (x : PcA) : Nat := if x.1.is = 1 ∧ (x.1.wy : Int) = wy then 1 else 0
theorem selP_le (wy : Int) (L : List PcA) : ∀ k, sumG (selP wy) L k ≤ k := by
  intro k
  unfold sumG
  have h : ∀ l : List PcA, (l.map (selP wy)).sum ≤ l.length := by
    intro l
    induction l with
    | nil => simp
    | cons x l ih =>
      simp only [List.map_cons, List.sum_cons, List.length_cons]
      have : selP wy x ≤ 1 := by unfold selP; split <;> omega
      omega
  have := h (L.take k)
  rw [List.length_take] at this
  omega
structure ExR (w : World) (q nb : Nat) (pa : Option Addr) (cap : Nat) (L : List PcA) (cum size : Nat) (nx : List Nat) (wy : Int) (S k : Nat) (W : World) : Prop where
  qu : QuW W q nb pa cap (mapTo (expP wy) L k) cum size nx
  fr : Fr (qB q nb pa) w W
  cx : Cx 3 S (.int .i64 (sumG (selP wy) L k : Nat)) W
theorem isWay_any (wy : Int) (w : World) : Calls Try.prog 25 #[.int .i64 wy] w fun e w' => e = .returned (.bool (decide (0 ≤ wy ∧ wy < 2))) ∧ Below w.heap.size w w' := by
  by_cases h1 : (0 : Int) ≤ wy
  · have g1 : (wy ≥ (0 : Int)) := h1
    by_cases h2 : wy < 2
    · go_enter Try.func25, Try.ntmps25
      go_wp2
      go_ret
      exact ⟨by simp [h1, h2], Below.refl _ _⟩
    · go_enter Try.func25, Try.ntmps25
      go_wp2
      go_ret
      exact ⟨by simp [h2], Below.refl _ _⟩
  · have g1 : ¬ (wy ≥ (0 : Int)) := h1
    go_enter Try.func25, Try.ntmps25
    go_wp2
    go_ret
    exact ⟨by simp; omega, Below.refl _ _⟩
end Go.Proofs.Ytconfmjgoipejaa
