/- What hash.bytes answers: the words, one behind the other. -/
import Derived.Test.YtmikhnaffhheoaaDoorHFork
import Derived.Test.YtmikhnaffhheoaaDoorBytes
import Derived.Test.YtmikhnaffhheoaaDoorCopy0
namespace Go.Proofs.YtmikhnaffhheoaaDoor
open Go.RowKit
/-- N bytes in a row of a block of the call's own. -/
structure Arr8 (w : World) (B g N : Nat) (L : List Nat) : Prop where
  base : B ≤ g
  lt : g < w.heap.size
  len : L.length = N
  bnd : ∀ i, L.getD i 0 < 256
  cell : ∀ i, i < N → w.cell? ⟨g, i, none⟩ = some (.int .u8 (L.getD i 0 : Nat))
  free : ∀ i, w.frozen? ⟨g, i, none⟩ = false
theorem Arr8.below {w w' : World} {B g N : Nat} {L : List Nat} (h : Arr8 w B g N L) (hb : Below w.heap.size w w') : Arr8 w' B g N L :=
  ⟨h.base, Nat.lt_of_lt_of_le h.lt hb.size, h.len, h.bnd, fun i hi => (hb.cell (p := ⟨g, i, none⟩) h.lt).trans (h.cell i hi), fun i => (hb.frozen (p := ⟨g, i, none⟩) h.lt).trans (h.free i)⟩
theorem setCells_size (b : Nat) : ∀ (vs : List Value) (o : Nat) (w : World), (w.setCells b o vs).heap.size = w.heap.size := by
  intro vs
  induction vs with
  | nil => intro o w; rfl
  | cons v t ih => intro o w; rw [World.setCells, ih]; simp [World.setCell]
theorem Arr8.copied {w : World} {B g N : Nat} {L : List Nat} (h : Arr8 w B g N L) (o : Nat) (ys : List Nat) (hy : ∀ i, ys.getD i 0 < 256) (ho : o + ys.length ≤ N) : Arr8 (w.setCells g o (vals ys)) B g N (lay L o ys) := by
  have hl := h.len
  have hvl : (vals ys).length = ys.length := by simp [vals]
  refine ⟨h.base, by rw [setCells_size]; exact h.lt, by rw [lay_len L o ys (by omega)]; exact hl, fun i => ?_, fun i hi => ?_, fun i => by rw [World.frozen?_setCells]; exact h.free i⟩
  · rw [lay_getD L o ys (by omega)]
    split
    · exact hy _
    · exact h.bnd i
  · rw [lay_getD L o ys (by omega)]
    by_cases h1 : i < o
    · rw [if_neg (by omega), World.cell?_setCells_out g (vals ys) o w ⟨g, i, none⟩ (fun _ _ => .inl h1)]
      exact h.cell i hi
    · by_cases h2 : i < o + ys.length
      · rw [if_pos (by omega)]
        have := World.cell?_setCells_in g (vals ys) o w (fun j hj => by rw [h.cell (o + j) (by omega)]; rfl) (i - o) (by omega)
        rw [show o + (i - o) = i from by omega] at this
        rw [this]
        simp [vals, List.getD_eq_getElem?_getD, show i - o < ys.length by omega]
      · rw [if_neg (by omega), World.cell?_setCells_out g (vals ys) o w ⟨g, i, none⟩ (fun _ _ => .inr (by rw [hvl]; show o + ys.length ≤ i; omega))]
        exact h.cell i hi
theorem getD_ext (a b : List Nat) (hl : a.length = b.length) (h : ∀ j, j < a.length → a.getD j 0 = b.getD j 0) : a = b := by
  apply List.ext_getElem hl
  intro j h1 h2
  have := h j h1
  simpa [List.getD_eq_getElem?_getD, h1, h2] using this
def outL (v : List Nat) (i : Nat) : List Nat := (List.range 32).map fun j => if j < 4 * i then v.getD (j / 4) 0 / 256 ^ (3 - j % 4) % 256 else 0
theorem outL_len (v : List Nat) (i : Nat) : (outL v i).length = 32 := by simp [outL]
theorem outL_get (v : List Nat) (i j : Nat) (hj : j < 32) : (outL v i).getD j 0 = if j < 4 * i then v.getD (j / 4) 0 / 256 ^ (3 - j % 4) % 256 else 0 := by
  simp [outL, List.getD_eq_getElem?_getD, hj]
theorem outL_all (v : List Nat) : outL v 8 = bytesW v := by
  unfold outL bytesW
  apply List.map_congr_left
  intro j hj
  have := List.mem_range.1 hj
  rw [if_pos (by omega)]
theorem outL_zero (v : List Nat) (j : Nat) : (outL v 0).getD j 0 = 0 := by
  by_cases hj : j < 32
  · rw [outL_get v 0 j hj, if_neg (by omega)]
  · rw [List.getD_eq_getElem?_getD, List.getElem?_eq_none (by rw [outL_len]; omega)]; rfl
theorem bytesB4 (x r : Nat) (hr : r < 4) : (bytesB x 4).getD r 0 = x / 256 ^ (3 - r) % 256 := by
  rcases r with _ | _ | _ | _ | r
  · rfl
  · rfl
  · rfl
  · rfl
  · omega
theorem outL_step (v : List Nat) (i : Nat) (hi : i < 8) : lay (outL v i) (4 * i) (bytesB (v.getD i 0) 4) = outL v (i + 1) := by
  have hbl : (bytesB (v.getD i 0) 4).length = 4 := bytesB_len _ _
  have hll := lay_len (outL v i) (4 * i) (bytesB (v.getD i 0) 4) (by rw [hbl, outL_len]; omega)
  refine getD_ext _ _ (by rw [hll, outL_len, outL_len]) (fun j h1 => ?_)
  · have hj : j < 32 := by rw [hll, outL_len] at h1; exact h1
    rw [lay_getD _ _ _ (by rw [hbl, outL_len]; omega), outL_get v (i + 1) j hj, hbl]
    by_cases h3 : j < 4 * i
    · rw [if_neg (by omega), if_pos (by omega), outL_get v i j hj, if_pos h3]
    · by_cases h4 : j < 4 * i + 4
      · rw [if_pos (by omega), if_pos (by omega), bytesB4 _ _ (by omega), show j / 4 = i from by omega, show j % 4 = j - 4 * i from by omega]
      · rw [if_neg (by omega), if_neg (by omega), outL_get v i j hj, if_neg h3]
def z32 : Array Value := #[.int .u8 0, .int .u8 0, .int .u8 0, .int .u8 0, .int .u8 0, .int .u8 0, .int .u8 0, .int .u8 0, .int .u8 0, .int .u8 0, .int .u8 0, .int .u8 0, .int .u8 0, .int .u8 0, .int .u8 0, .int .u8 0, .int .u8 0, .int .u8 0, .int .u8 0, .int .u8 0, .int .u8 0, .int .u8 0, .int .u8 0, .int .u8 0, .int .u8 0, .int .u8 0, .int .u8 0, .int .u8 0, .int .u8 0, .int .u8 0, .int .u8 0, .int .u8 0]
theorem z32_rep : z32 = Array.replicate 32 (.int .u8 0) := by kernel_rfl
theorem arr32_new (w : World) (v : List Nat) (W : World) (hW : W = w.alloc (.cells z32 66)) : Arr8 W w.heap.size w.heap.size 32 (outL v 0) := by
  have hfree : ∀ i, W.frozen? ⟨w.heap.size, i, none⟩ = false := by
    intro i
    have hh : W.heap[w.heap.size]? = some (.cells z32 66) := by
      rw [hW]
      show (w.heap.push _)[w.heap.size]? = _
      simp
    unfold World.frozen?
    dsimp only
    rw [hh]
    simp
  refine ⟨Nat.le_refl _, by rw [hW]; simp, outL_len v 0, fun i => by rw [outL_zero]; omega, fun i hi => ?_, hfree⟩
  rw [hW, World.cell?_alloc_mark, outL_zero, z32_rep]
  simp [hi]
end Go.Proofs.YtmikhnaffhheoaaDoor
