/- The zero of an array of 65536 bools. -/
import Derived.Test.YtlgpabdadnfbeaaProg
import Derived.Test.YtlgpabdadnfbeaaBase
import Derived.Test.YtlgpabdadnfbeaaOwnU
namespace Go.Proofs.Ytlgpabdadnfbeaa
open Go.RowKit
def isF : Value → Bool
  | .bool b => !b
  | _ => false
def allF : List Value → Nat → Bool
  | [], 0 => true
  | v :: t, m + 1 => isF v && allF t m
  | _, _ => false
def zeroOk (o : Option (Option Value)) : Bool := match o with
  | some (some (.agg cs)) => allF cs.toList 65536
  | _ => false
set_option maxRecDepth 1000000 in
theorem zero16_ok : zeroOk ((Try.prog.info? 44).map (·.zero)) = true := by kernel_rfl
theorem allF_len : ∀ (l : List Value) (n : Nat), allF l n = true → l.length = n ∧ ∀ i, i < n → l[i]? = some (.bool false) := by
  intro l
  induction l with
  | nil =>
    intro n h
    cases n with
    | zero => exact ⟨rfl, fun i hi => by omega⟩
    | succ n => simp [allF] at h
  | cons v t ih =>
    intro n h
    cases n with
    | zero => simp [allF] at h
    | succ n =>
      simp only [allF, Bool.and_eq_true] at h
      obtain ⟨h1, h2⟩ := ih n h.2
      refine ⟨by simp [h1], fun i hi => ?_⟩
      cases i with
      | zero =>
        cases v <;> simp [isF] at h
        simp [h]
      | succ i => simpa using h2 i (by omega)
theorem zero16 : ∃ Z : Array Value, (∀ w, (zeroValue 44).run Try.prog w = .ok (.agg Z) w) ∧ Z.size = 65536 ∧ ∀ i, i < 65536 → Z[i]? = some (.bool false) := by
  have h := zero16_ok
  cases hi : Try.prog.info? 44 with
  | none => rw [hi] at h; simp [zeroOk] at h
  | some inf =>
    rw [hi] at h
    simp only [Option.map_some] at h
    cases hz : inf.zero with
    | none => rw [hz] at h; simp [zeroOk] at h
    | some v =>
      rw [hz] at h
      cases v <;> simp only [zeroOk] at h <;> try (exact absurd h Bool.false_ne_true)
      rename_i cs
      obtain ⟨h1, h2⟩ := allF_len _ _ h
      refine ⟨cs, fun w => ?_, by simpa using h1, fun i hi => by simpa using h2 i hi⟩
      simp [zeroValue, typeInfo, hi, hz]
end Go.Proofs.Ytlgpabdadnfbeaa
