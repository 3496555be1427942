/- Plain mathematics of Write: what a hash holds as bytes come. -/
import Derived.Test.YtmikhnaffhheoaaDoorHByte2
namespace Go.Proofs.YtmikhnaffhheoaaDoor
open Go.RowKit
theorem compTo_app (bs ys : List Nat) : ∀ k, 64 * k ≤ bs.length → compTo (bs ++ ys) k = compTo bs k := by
  intro k
  induction k with
  | zero => intro _; rfl
  | succ k ih =>
    intro h
    show comp (compTo (bs ++ ys) k) (((bs ++ ys).drop (64 * k)).take 64) = comp (compTo bs k) ((bs.drop (64 * k)).take 64)
    rw [ih (by omega), List.drop_append_of_le_length (by omega), List.take_append_of_le_length (by simp; omega)]
/-- What waits: the bytes of the block that is not full yet. -/
def Waits (bs b : List Nat) : Prop := ∀ i, i < bs.length % 64 → b.getD i 0 = bs.getD (64 * (bs.length / 64) + i) 0
theorem addL_bnd (v u : List Nat) : ∀ i, (addL v u).getD i 0 < 4294967296 := by
  intro i
  by_cases h : i < 8
  · simp [addL, List.getD_eq_getElem?_getD, h]; omega
  · rw [List.getD_eq_getElem?_getD, List.getElem?_eq_none (by simp [addL]; omega)]; simp
theorem getD_appN (a b : List Nat) (i : Nat) : (a ++ b).getD i 0 = if i < a.length then a.getD i 0 else b.getD (i - a.length) 0 := by
  by_cases h : i < a.length
  · rw [if_pos h, List.getD_eq_getElem?_getD, List.getElem?_append_left h, List.getD_eq_getElem?_getD]
  · rw [if_neg h]; simp [List.getD_eq_getElem?_getD, List.getElem?_append_right (show a.length ≤ i by omega)]
theorem waits_more (bs b ys : List Nat) (hb : b.length = 64) (h : Waits bs b) (hm : bs.length % 64 + ys.length < 64) :
    Waits (bs ++ ys) (lay b (bs.length % 64) ys) ∧ (bs ++ ys).length / 64 = bs.length / 64 := by
  have hl : (bs ++ ys).length = bs.length + ys.length := by simp
  have hd : (bs ++ ys).length / 64 = bs.length / 64 := by rw [hl]; omega
  refine ⟨fun i hi => ?_, hd⟩
  rw [hd, lay_getD b _ ys (by omega), getD_appN]
  rw [hl] at hi
  have hi2 : i < bs.length % 64 + ys.length := by omega
  by_cases h1 : i < bs.length % 64
  · rw [if_neg (by omega), if_pos (by omega)]
    exact h i h1
  · rw [if_pos (by omega), if_neg (by omega)]
    congr 1
    omega
theorem waits_full (bs b ys : List Nat) (hb : b.length = 64) (h : Waits bs b) (hm : bs.length % 64 + ys.length = 64) :
    (bs ++ ys).length % 64 = 0 ∧ (bs ++ ys).length / 64 = bs.length / 64 + 1 ∧ compTo (bs ++ ys) ((bs ++ ys).length / 64) = comp (compTo bs (bs.length / 64)) (lay b (bs.length % 64) ys) := by
  have hl : (bs ++ ys).length = bs.length + ys.length := by simp
  have hd : (bs ++ ys).length / 64 = bs.length / 64 + 1 := by rw [hl]; omega
  refine ⟨by rw [hl]; omega, hd, ?_⟩
  rw [hd]
  show comp (compTo (bs ++ ys) (bs.length / 64)) (((bs ++ ys).drop (64 * (bs.length / 64))).take 64) = _
  rw [compTo_app bs ys _ (by omega)]
  congr 1
  have hll := lay_len b (bs.length % 64) ys (by omega)
  refine getD_ext _ _ (by rw [hll, hb]; simp; omega) (fun j hj => ?_)
  have hj64 : j < 64 := by simp at hj; omega
  have e1 : (((bs ++ ys).drop (64 * (bs.length / 64))).take 64).getD j 0 = (bs ++ ys).getD (64 * (bs.length / 64) + j) 0 := by
    simp [List.getD_eq_getElem?_getD, hj64]
  rw [e1, lay_getD b _ ys (by omega), getD_appN]
  by_cases h1 : j < bs.length % 64
  · rw [if_pos (by omega), if_neg (by omega)]
    exact (h j h1).symm
  · rw [if_neg (by omega), if_pos (by omega)]
    congr 1
    omega
/-- A hash that holds the bytes bs. -/
def HB (w : World) (B p : Nat) (bs : List Nat) : Prop := ∃ b, HAt w B p (compTo bs (bs.length / 64)) b bs.length ∧ Waits bs b
theorem HB.below {w w' : World} {B p : Nat} {bs : List Nat} (h : HB w B p bs) (hb : Below w.heap.size w w') : HB w' B p bs := by
  obtain ⟨b, h1, h2⟩ := h
  exact ⟨b, h1.below hb, h2⟩
theorem HB.fr {P : Nat → Prop} {w w' : World} {B p : Nat} {bs : List Nat} (h : HB w B p bs) (hf : Fr P w w') (hp : ¬ P p) : HB w' B p bs := by
  obtain ⟨b, h1, h2⟩ := h
  exact ⟨b, h1.fr hf hp, h2⟩
/-- Bytes are laid into what waits. -/
theorem HAt.waitCopied {w : World} {B p : Nat} {v b : List Nat} {n : Nat} (h : HAt w B p v b n) (o : Nat) (ys : List Nat) (hy : ∀ i, ys.getD i 0 < 256) (ho : o + ys.length ≤ 64) : HAt (w.setCells p (8 + o) (vals ys)) B p v (lay b o ys) n := by
  have hbl := h.blen
  have hvl : (vals ys).length = ys.length := by simp [vals]
  refine ⟨h.base, by rw [setCells_size]; exact h.lt, h.vlen, h.vbnd, by rw [lay_len b o ys (by omega)]; exact hbl, fun i => ?_, fun i hi => ?_, fun i hi => ?_, ?_, fun i => by rw [World.frozen?_setCells]; exact h.free i⟩
  · rw [lay_getD b o ys (by omega)]
    split
    · exact hy _
    · exact h.bbnd i
  · rw [World.cell?_setCells_out p (vals ys) (8 + o) w ⟨p, i, none⟩ (fun _ _ => .inl (by show i < 8 + o; omega))]
    exact h.vc i hi
  · rw [lay_getD b o ys (by omega)]
    by_cases h1 : i < o
    · rw [if_neg (by omega), World.cell?_setCells_out p (vals ys) (8 + o) w ⟨p, 8 + i, none⟩ (fun _ _ => .inl (by show 8 + i < 8 + o; omega))]
      exact h.bc i hi
    · by_cases h2 : i < o + ys.length
      · rw [if_pos (by omega)]
        have := World.cell?_setCells_in p (vals ys) (8 + o) w (fun j hj => by rw [show 8 + o + j = 8 + (o + j) from by omega, h.bc (o + j) (by omega)]; rfl) (i - o) (by omega)
        rw [show 8 + o + (i - o) = 8 + i from by omega] at this
        rw [this]
        simp [vals, List.getD_eq_getElem?_getD, show i - o < ys.length by omega]
      · rw [if_neg (by omega), World.cell?_setCells_out p (vals ys) (8 + o) w ⟨p, 8 + i, none⟩ (fun _ _ => .inr (by rw [hvl]; show 8 + o + ys.length ≤ 8 + i; omega))]
        exact h.bc i hi
  · rw [World.cell?_setCells_out p (vals ys) (8 + o) w ⟨p, 72, none⟩ (fun _ _ => .inr (by rw [hvl]; show 8 + o + ys.length ≤ 72; omega))]
    exact h.nc
theorem HAt.sized {w : World} {B p : Nat} {v b : List Nat} {n : Nat} (h : HAt w B p v b n) (m : Nat) : HAt (w.setCell ⟨p, 72, none⟩ (.int .i64 (m : Nat))) B p v b m := by
  refine ⟨h.base, by simp [World.setCell]; exact h.lt, h.vlen, h.vbnd, h.blen, h.bbnd, fun i hi => ?_, fun i hi => ?_, World.cell?_setCell_same' _ _ _ (by rw [h.nc]; rfl), fun i => by rw [World.frozen?_setCell]; exact h.free i⟩
  · rw [World.cell?_setCell_other _ _ _ _ (by intro e2; injection e2 with _ e3; omega)]
    exact h.vc i hi
  · rw [World.cell?_setCell_other _ _ _ _ (by intro e2; injection e2 with _ e3; omega)]
    exact h.bc i hi
end Go.Proofs.YtmikhnaffhheoaaDoor
