/- What hash.turned answers: a word with its lowest bits at the other end. -/
import Derived.Test.YtmikhnaffhheoaaDoorHashM
import Derived.Test.YtmikhnaffhheoaaDoorProg
import Derived.Outline
import Derived.WalkLawsBesides
import Derived.WalkSpells
namespace Go.Proofs.YtmikhnaffhheoaaDoor
open Go.RowKit
set_option maxHeartbeats 1000000 in
theorem rl_any (x m : Nat) (w : World) (hx : x < 4294967296) (h1 : 1 ≤ m) (h2 : m ≤ 31) :
    Calls Tryd.prog 64 #[.int .u32 (x : Nat), .int .i64 (-(m : Int))] w fun e w' => e = .returned (.int .u32 (rotN x m : Nat)) ∧ w' = w := by
  obtain ⟨s, hs⟩ : ∃ s : Nat, s = 32 - m := ⟨_, rfl⟩
  have hand : bits .and .u64 (IntKind.u64.wrap (-(m : Int))) 31 = (s : Int) := by
    have e : IntKind.u64.wrap (-(m : Int)) = ((18446744073709551616 - m : Nat) : Int) := by rw [IntKind.wrap_u64]; omega
    rw [e]
    have := u64_and_nat (18446744073709551616 - m) 31 (by omega) (by omega)
    rw [show ((31 : Nat) : Int) = 31 from rfl] at this
    rw [this, show (31 : Nat) = 2 ^ 5 - 1 from rfl, Nat.and_two_pow_sub_one_eq_mod]
    omega
  have hsub : (32 : Int) - (s : Int) = (m : Int) := by omega
  have hsub2 : IntKind.u64.wrap ((32 : Int) - (s : Int)) = (m : Int) := by rw [IntKind.wrap_u64]; omega
  have HR : Hid (bits .or .u32 (((x : Int) * 2 ^ s) % 4294967296) ((x : Int) / 2 ^ m) = ((rotN x m : Nat) : Int)) := by
    show _ = _
    have p2 : ∀ k : Nat, ((2 : Int) ^ k) = ((2 ^ k : Nat) : Int) := fun k => by rw [Int.natCast_pow]; rfl
    have e1 : (((x : Int) * 2 ^ s) % 4294967296) = ((x * 2 ^ s % 4294967296 : Nat) : Int) := by rw [p2, ← Int.natCast_mul]; exact (Int.natCast_emod _ 4294967296).symm
    have e2 : ((x : Int) / 2 ^ m) = ((x / 2 ^ m : Nat) : Int) := by rw [p2]; exact (Int.natCast_ediv _ _).symm
    rw [e1, e2, u32_or_nat _ _ (Nat.mod_lt _ (by omega)) (Nat.lt_of_le_of_lt (Nat.div_le_self _ _) hx)]
    unfold rotN
    rw [Nat.or_comm, Nat.shiftRight_eq_div_pow, Nat.shiftLeft_eq, hs]
  have hs31 : s ≤ 31 := by omega
  have hs31' : (s : Int) < 32 := by omega
  clear hs
  go_enter Tryd.func64, Tryd.ntmps64
  go_wp2
  go_ret
  exact ⟨by rw [← HR.out]; rfl, rfl⟩
set_option maxHeartbeats 1000000 in
theorem turned_any (x m : Nat) (w : World) (hx : x < 4294967296) (h1 : 1 ≤ m) (h2 : m ≤ 31) :
    Calls Tryd.prog 63 #[.int .u32 (x : Nat), .int .i64 (m : Nat)] w fun e w' => e = .returned (.int .u32 (rotN x m : Nat)) ∧ w' = w := by
  have h := fun w => rl_any x m w hx h1 h2
  have hneg : IntKind.i64.wrap (-(m : Int)) = -(m : Int) := by rw [IntKind.wrap_i64]; omega
  generalize rotN x m = r at *
  go_enter Tryd.func63, Tryd.ntmps63
  go_wp2_with fail
  refine (h _).mono ?_
  rintro e w' ⟨rfl, rfl⟩
  go_wp2
  go_ret
  exact ⟨rfl, rfl⟩
end Go.Proofs.YtmikhnaffhheoaaDoor
