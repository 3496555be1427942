/- A slice of bytes cut at its end, or at its beginning: what 's[:j]' and 's[x:]' are, as equations that a walk takes by itself. -/
import Derived.Test.YtjaheelgcjafcaaOwn
import Derived.ChangeKeysEq
namespace Go.Proofs.Ytjaheelgcjafcaa
open Go.RowKit
theorem el8 : Try.prog.elem 31 = 5 := by simp [Program.elem, Try.underlying31]
theorem cells8 : Try.prog.cellsOf 5 = 1 := by kernel_rfl
theorem und8 : Try.prog.underlying 31 = some (.slice (Try.prog.elem 31)) := by rw [el8]; exact Try.underlying31
theorem size8 (w : World) : (sizeOf (Try.prog.elem 31)).run Try.prog w = .ok 1 w := by
  obtain ⟨i, hi, hz0, hz1, hz2⟩ := info_parts own_info
  rw [el8, run_sizeOf w hi, cells8]
theorem slice_to (a : Option Addr) (n c j : Nat) (h : j ≤ c) (w : World) : (Instr.slice 31 (.slice a n c) none (some (.int .i64 (j : Int))) none).run Try.prog w = .ok (.slice a j c) w := by
  rw [run_slice_h w 31 a n c und8 .i64 j (by omega) (by omega), size8]
  simp only [Result.andThen, sliced]
  have e : (if c = 0 then a else a.map (·.add (0 * 1))) = a := by
    split
    · rfl
    · cases a with
      | none => rfl
      | some p => simp [Addr.add]
  rw [e]
  simp
theorem slice_from (b off n c : Nat) (l : Int) (x : Nat) (hl : l = (x : Int)) (h : x ≤ n) (_hc : n ≤ c) : ∃ a', (∀ w, (Instr.slice 31 (.slice (some ⟨b, off, none⟩) n c) (some (.int .i64 l)) none none).run Try.prog w = .ok (.slice (some a') (n - x) (c - x)) w) ∧ (x < n → a' = ⟨b, off + x, none⟩) := by
  subst hl
  refine ⟨if c = x then ⟨b, off, none⟩ else ⟨b, off + x, none⟩, fun w => ?_, fun hx => by rw [if_neg (by omega)]⟩
  rw [run_slice_l w 31 _ n c und8 .i64 x (by omega) (by omega), size8]
  simp only [Result.andThen, sliced, Int.toNat_natCast]
  split <;> simp [Addr.add]
end Go.Proofs.Ytjaheelgcjafcaa
