/- What the reference's turn answers: a word turned by n. -/
import Derived.Test.YtdglclokjfinfaaDoorHashM
import Derived.Test.YtdglclokjfinfaaDoorProg
import Derived.Outline
import Derived.WalkLawsBesides
import Derived.WalkSpells
import Derived.BigQuiet
import Derived.Deep.QuietTactic
namespace Go.Proofs.YtdglclokjfinfaaDoor
open Go.RowKit
set_option maxHeartbeats 1000000 in
theorem rturn_any (x m : Nat) (w : World) (hx : x < 4294967296) (h1 : 1 ≤ m) (h2 : m ≤ 31) :
    Calls Tryd.prog 23 #[.int .u32 (x : Nat), .int .i64 (m : Nat)] w fun e w' => e = .returned (.int .u32 (rotN x m : Nat)) ∧ ∃ q, w' = w.drewN q := by
  obtain ⟨s, hs⟩ : ∃ s : Nat, s = 32 - m := ⟨_, rfl⟩
  have hsub : (32 : Int) - (m : Int) = (s : Int) := by omega
  have hsub2 : IntKind.i64.wrap ((32 : Int) - (m : Int)) = (s : Int) := by rw [IntKind.wrap_i64]; omega
  have HR : Hid (bits .or .u32 ((x : Int) / 2 ^ m) (((x : Int) * 2 ^ s) % 4294967296) = ((rotN x m : Nat) : Int)) := by
    show _ = _
    have p2 : ∀ k : Nat, ((2 : Int) ^ k) = ((2 ^ k : Nat) : Int) := fun k => by rw [Int.natCast_pow]; rfl
    have e1 : (((x : Int) * 2 ^ s) % 4294967296) = ((x * 2 ^ s % 4294967296 : Nat) : Int) := by rw [p2, ← Int.natCast_mul]; exact (Int.natCast_emod _ 4294967296).symm
    have e2 : ((x : Int) / 2 ^ m) = ((x / 2 ^ m : Nat) : Int) := by rw [p2]; exact (Int.natCast_ediv _ _).symm
    rw [e1, e2, u32_or_nat _ _ (Nat.lt_of_le_of_lt (Nat.div_le_self _ _) hx) (Nat.mod_lt _ (by omega))]
    unfold rotN
    rw [Nat.shiftRight_eq_div_pow, Nat.shiftLeft_eq, hs]
  have hs31 : s ≤ 31 := by omega
  have hs31' : (s : Int) < 32 := by omega
  have hm31 : (m : Int) < 32 := by omega
  clear hs
  go_enter Tryd.func23, Tryd.ntmps23
  go_wp2_with fail
  go_quiet (fail)
  all_goals
    go_wp2
    go_ret
    exact ⟨by rw [← HR.out]; rfl, _, rfl⟩
theorem rturn_at (x m : Nat) (w : World) (hx : x < 4294967296) (h1 : 1 ≤ m) (h2 : m ≤ 31) (v1 v2 : Value) (e1 : v1 = .int .u32 (x : Nat)) (e2 : v2 = .int .i64 (m : Nat)) :
    Calls Tryd.prog 23 #[v1, v2] w fun e w' => e = .returned (.int .u32 (rotN x m : Nat)) ∧ ∃ q, w' = w.drewN q := by
  subst e1 e2; exact rturn_any x m w hx h1 h2
end Go.Proofs.YtdglclokjfinfaaDoor
