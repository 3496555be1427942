/- A slice of uint32 cut at its end, or at its beginning: what 's[:j]' and 's[x:]' are, as equations that a walk takes by itself. -/
import Derived.Test.YtmikhnaffhheoaaDoorOwnU
import Derived.ChangeKeysEq
namespace Go.Proofs.YtmikhnaffhheoaaDoor
open Go.RowKit
theorem el32 : Tryd.prog.elem 96 = 37 := by simp [Program.elem, Tryd.underlying96]
theorem cells32 : Tryd.prog.cellsOf 37 = 1 := by kernel_rfl
theorem und32 : Tryd.prog.underlying 96 = some (.slice (Tryd.prog.elem 96)) := by rw [el32]; exact Tryd.underlying96
theorem size32 (w : World) : (sizeOf (Tryd.prog.elem 96)).run Tryd.prog w = .ok 1 w := by
  obtain ⟨i, hi, hz0, hz1, hz2⟩ := info_parts own_infoU
  rw [el32, run_sizeOf w hi, cells32]
theorem slice_toU (a : Option Addr) (n c j : Nat) (h : j ≤ c) (w : World) : (Instr.slice 96 (.slice a n c) none (some (.int .i64 (j : Int))) none).run Tryd.prog w = .ok (.slice a j c) w := by
  rw [run_slice_h w 96 a n c und32 .i64 j (by omega) (by omega), size32]
  simp only [Result.andThen, sliced]
  have e : (if c = 0 then a else a.map (·.add (0 * 1))) = a := by
    split
    · rfl
    · cases a with
      | none => rfl
      | some p => simp [Addr.add]
  rw [e]
  simp
theorem slice_fromU (b off n c : Nat) (l : Int) (x : Nat) (hl : l = (x : Int)) (h : x ≤ n) (_hc : n ≤ c) : ∃ a', (∀ w, (Instr.slice 96 (.slice (some ⟨b, off, none⟩) n c) (some (.int .i64 l)) none none).run Tryd.prog w = .ok (.slice (some a') (n - x) (c - x)) w) ∧ (x < n → a' = ⟨b, off + x, none⟩) := by
  subst hl
  refine ⟨if c = x then ⟨b, off, none⟩ else ⟨b, off + x, none⟩, fun w => ?_, fun hx => by rw [if_neg (by omega)]⟩
  rw [run_slice_l w 96 _ n c und32 .i64 x (by omega) (by omega), size32]
  simp only [Result.andThen, sliced, Int.toNat_natCast]
  split <;> simp [Addr.add]
/-- The first j numbers of a slice. -/
theorem SlK.take {k : IntKind} {M : Nat} {w : World} {a : Option Addr} {n c : Nat} {zs : List Nat} (h : SlK k M w a n c zs) (j : Nat) (hj : j ≤ n) : SlK k M w a j c (zs.take j) := by
  obtain ⟨h1, h2, h3, h4, h5, h6, h7⟩ := h
  refine ⟨by simp; omega, by omega, h3, by omega, h5, fun i => ?_, ?_⟩
  · by_cases hi : i < j
    · have := h6 i
      simpa [List.getD_eq_getElem?_getD, hi] using this
    · rw [List.getD_eq_getElem?_getD, List.getElem?_eq_none (by simp; omega)]
      have := h6 0
      exact Nat.lt_of_le_of_lt (Nat.zero_le _) this
  · rcases h7 with h7 | ⟨b, off, e, hlt, hc⟩
    · exact .inl (by omega)
    · refine .inr ⟨b, off, e, hlt, fun i hi => ?_⟩
      rw [hc i (by omega)]
      simp [List.getD_eq_getElem?_getD, hi]
/-- What is behind the first j numbers of a slice. -/
theorem SlK.drop {k : IntKind} {M : Nat} {w : World} {b off : Nat} {n c : Nat} {zs : List Nat} (h : SlK k M w (some ⟨b, off, none⟩) n c zs) (j : Nat) (hj : j ≤ n) (a' : Addr) (ha : j < n → a' = ⟨b, off + j, none⟩) : SlK k M w (some a') (n - j) (c - j) (zs.drop j) := by
  obtain ⟨h1, h2, h3, h4, h5, h6, h7⟩ := h
  refine ⟨by simp; omega, by omega, by omega, by omega, (fun h => by cases h), fun i => ?_, ?_⟩
  · have := h6 (j + i)
    simpa [List.getD_eq_getElem?_getD] using this
  · rcases h7 with h7 | ⟨b', off', e, hlt, hc⟩
    · exact .inl (by omega)
    · by_cases hjn : j < n
      · injection e with e
        injection e with e1 e2
        subst e1 e2
        refine .inr ⟨b, off + j, by rw [ha hjn], hlt, fun i hi => ?_⟩
        rw [Nat.add_assoc, hc (j + i) (by omega)]
        simp [List.getD_eq_getElem?_getD]
      · exact .inl (by omega)
end Go.Proofs.YtmikhnaffhheoaaDoor
