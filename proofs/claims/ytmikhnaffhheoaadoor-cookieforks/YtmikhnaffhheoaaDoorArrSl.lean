/- A row of bytes cut out of an array at its beginning, and copy into it. -/
import Derived.Test.YtmikhnaffhheoaaDoorHBytes
namespace Go.Proofs.YtmikhnaffhheoaaDoor
open Go.RowKit
theorem size8e (w : World) : (sizeOf 5).run Tryd.prog w = .ok 1 w := by
  obtain ⟨i, hi, hz0, hz1, hz2⟩ := info_parts own_info
  rw [run_sizeOf w hi]
  simp [Program.cellsOf, hi, hz1]
set_option maxRecDepth 100000 in
theorem arr_from (T : TypeId) (N : Nat) (hT : Tryd.prog.underlying T = some (.array N 5)) (g o x : Nat) (l : Int) (hl : l = (x : Int)) (hx : x ≤ N) :
    ∃ a', (∀ W, (Instr.sliceAt T (.pointer (some ⟨g, o, none⟩)) (some (.int .i64 l)) none none).run Tryd.prog W = .ok (.slice (some a') (N - x) (N - x)) W) ∧ (x < N → a' = ⟨g, o + x, none⟩) := by
  subst hl
  have e1 : Tryd.prog.arrayLen T = N := by simp [Program.arrayLen, hT]
  have e2 : Tryd.prog.elem T = 5 := by simp [Program.elem, hT]
  have ht : Tryd.prog.underlying T = some (.array (Tryd.prog.arrayLen T) (Tryd.prog.elem T)) := by rw [e1, e2]; exact hT
  refine ⟨if N = x then ⟨g, o, none⟩ else ⟨g, o + x, none⟩, fun W => ?_, fun h => by rw [if_neg (by omega)]⟩
  rw [run_sliceAt_array_l W T ⟨g, o, none⟩ ht .i64 x (by omega) (by rw [e1]; omega), e1, e2, size8e]
  simp only [Result.andThen, slicedAt, Int.toNat_natCast, Nat.mul_one]
  split
  · rfl
  · congr 1
    rw [Addr.add_mid]
theorem vals_oneH (ys : List Nat) : ∀ u ∈ vals ys, u.oneCell' = true := vals_one ys

set_option maxRecDepth 100000 in
theorem copy_arr (w : World) (B g N : Nat) (L : List Nat) (h : Arr8 w B g N L) (o dl dc : Nat) (a' : Addr) (ha : 0 < dl → a' = ⟨g, o, none⟩) (sa : Option Addr) (m sc : Nat) (ys : List Nat) (hs : Sl w sa m sc ys) (hm : m ≤ dl) (ho : o + m ≤ N) :
    ∀ ty, (Builtin.copy_ #[22, 22] ty #[.slice (some a') dl dc, .slice sa m sc]).run Tryd.prog w = .ok (goInt m) (w.setCells g o (vals ys)) := by
  intro ty
  have hsz : (Tryd.prog.info? 5).map (·.size) = some 1 := by kernel_rfl
  have hl := hs.len
  by_cases h0 : m = 0
  · subst h0
    obtain rfl : ys = [] := List.eq_nil_of_length_eq_zero hl
    exact run_copy_none (P := Tryd.prog) w 22 22 ty 5 (some a') sa dl dc 0 sc Tryd.underlying22 hsz (by simp)
  · obtain rfl := ha (by omega)
    rcases hs.at_ with h1 | ⟨b, of2, rfl, _, hcell⟩
    · omega
    have hvl : (vals ys).length = m := by simp [vals, hl]
    have := run_copy_cells (P := Tryd.prog) w 22 22 ty 5 g o dl dc ⟨b, of2, none⟩ m sc (vals ys) Tryd.underlying22 hsz (by rw [hvl]; exact (Nat.min_eq_left hm).symm)
      (fun j u hj => by
        have hjl : j < ys.length := by
          have := (List.getElem?_eq_some_iff.1 hj).1
          simpa [vals] using this
        rw [Addr.add_mid, hcell j (by omega), ← hj, vals_at ys j hjl])
      (fun j hj => by rw [h.cell (o + j) (by omega)]; rfl) (fun j _ => h.free (o + j)) (vals_one ys)
    rw [hvl] at this
    exact this
end Go.Proofs.YtmikhnaffhheoaaDoor
