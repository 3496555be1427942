/- What chunk.padding, the sizes and space answer. -/
import Derived.Test.YtlgfbcfogcmdbaaDoorChT
namespace Go.Proofs.YtlgfbcfogcmdbaaDoor
open Go.RowKit
def padN (n : Nat) : Nat := (4 - n % 4) % 4
theorem padding_any (n : Nat) (w : World) (hn : n ≤ 1152921504606846976) (v : Value) (hv : v = .int .i64 (n : Nat)) : Calls Tryd.prog 45 #[v] w fun e w' => e = .returned (.int .i64 (padN n : Nat)) ∧ w' = w := by
  subst hv
  have h1 : Int.tmod (n : Int) 4 = ((n % 4 : Nat) : Int) := by rw [Int.tmod_eq_emod_of_nonneg (by omega)]; rfl
  have h2 : n % 4 < 4 := Nat.mod_lt _ (by omega)
  have h3 : Int.tmod (4 - ((n % 4 : Nat) : Int)) 4 = (padN n : Nat) := by
    rw [Int.tmod_eq_emod_of_nonneg (by omega)]
    unfold padN
    omega
  generalize padN n = p at *
  generalize n % 4 = m at *
  go_enter Tryd.func45, Tryd.ntmps45
  go_wp2
  go_ret
  exact ⟨rfl, rfl⟩
set_option linter.unusedVariables false in
set_option maxRecDepth 100000 in
theorem size_data (t s q p : Value) (a : Option Addr) (n c : Nat) (w : World) (hn : n ≤ 281474976710656) : Calls Tryd.prog 85 #[.agg #[t, s, q, p, .slice a n c]] w fun e w' => e = .returned (.int .i64 (12 + n : Nat)) ∧ Below w.heap.size w w' := by
  go_enter Tryd.func85, Tryd.ntmps85
  go_wp2
  go_ret
  exact ⟨by first | rfl | simp, by first | exact Below.refl _ _ | exact (Below.refl _ _).alloc (Nat.le_refl _) _ | exact ((Below.refl _ _).alloc (Nat.le_refl _) _).drew⟩
set_option linter.unusedVariables false in
set_option maxRecDepth 100000 in
theorem size_sack (t r : Value) (a : Option Addr) (n c : Nat) (a2 : Option Addr) (n2 c2 : Nat) (w : World) (hn : n ≤ 281474976710656) (hn2 : n2 ≤ 281474976710656) : Calls Tryd.prog 91 #[.agg #[t, r, .slice a n c, .slice a2 n2 c2]] w fun e w' => e = .returned (.int .i64 (12 + 4 * n + 4 * n2 : Nat)) ∧ Below w.heap.size w w' := by
  go_enter Tryd.func91, Tryd.ntmps91
  go_wp2
  go_ret
  exact ⟨by first | rfl | simp, by first | exact Below.refl _ _ | exact (Below.refl _ _).alloc (Nat.le_refl _) _ | exact ((Below.refl _ _).alloc (Nat.le_refl _) _).drew⟩
set_option linter.unusedVariables false in
set_option maxRecDepth 100000 in
theorem size_tsnv (t : Nat) (w : World) : Calls Tryd.prog 93 #[.int .u32 (t : Nat)] w fun e w' => e = .returned (.int .i64 (4 : Nat)) ∧ Below w.heap.size w w' := by
  go_enter Tryd.func93, Tryd.ntmps93
  go_wp2
  go_ret
  exact ⟨by first | rfl | simp, by first | exact Below.refl _ _ | exact (Below.refl _ _).alloc (Nat.le_refl _) _ | exact ((Below.refl _ _).alloc (Nat.le_refl _) _).drew⟩
set_option linter.unusedVariables false in
set_option maxRecDepth 100000 in
theorem size_none  (w : World) : Calls Tryd.prog 95 #[.agg #[]] w fun e w' => e = .returned (.int .i64 (0 : Nat)) ∧ Below w.heap.size w w' := by
  go_enter Tryd.func95, Tryd.ntmps95
  go_wp2
  go_ret
  exact ⟨by first | rfl | simp, by first | exact Below.refl _ _ | exact (Below.refl _ _).alloc (Nat.le_refl _) _ | exact ((Below.refl _ _).alloc (Nat.le_refl _) _).drew⟩
set_option linter.unusedVariables false in
set_option maxRecDepth 100000 in
theorem size_raw (a : Option Addr) (n c : Nat) (w : World) (hn : n ≤ 281474976710656) : Calls Tryd.prog 97 #[.slice a n c] w fun e w' => e = .returned (.int .i64 (n : Nat)) ∧ Below w.heap.size w w' := by
  go_enter Tryd.func97, Tryd.ntmps97
  go_wp2
  go_ret
  exact ⟨by first | rfl | simp, by first | exact Below.refl _ _ | exact (Below.refl _ _).alloc (Nat.le_refl _) _ | exact ((Below.refl _ _).alloc (Nat.le_refl _) _).drew⟩
set_option linter.unusedVariables false in
set_option maxRecDepth 100000 in
set_option maxHeartbeats 1000000 in
theorem space_data (t s q p : Value) (a : Option Addr) (n c : Nat) (w : World) (hn : n ≤ 281474976710656) (v : Value) (hv : v = .iface 92 (.agg #[t, s, q, p, .slice a n c])) : Calls Tryd.prog 25 #[v] w fun e w' => e = .returned (.int .i64 (4 + (12 + n) + padN (12 + n) : Nat)) ∧ Below w.heap.size w w' := by
  subst hv
  have hm : ∀ (v : Value) (w : World), (method 237 92 v "trunkline/chunk.size").run Tryd.prog w = .ok (85, v) w := fun _ _ => by kernel_rfl
  have hpl : padN (12 + n) < 4 := Nat.mod_lt _ (by omega)
  have hpd := fun W => padding_any (12 + n) W (by omega) _ rfl
  have hsz := fun (W : World) (hb : Below w.heap.size w W) => size_data t s q p a n c W hn
  have HE : Hid (((4 + (12 + n) + padN (12 + n) : Nat) : Int) = 4 + (((12 + n) : Nat) : Int) + (padN (12 + n) : Nat)) := by show _ = _; omega
  have hrb : (12 + n) ≤ 1152921504606846900 := by omega
  generalize padN (12 + n) = pd at *
  generalize (12 + n) = N at *
  go_enter Tryd.func25, Tryd.ntmps25
  go_wp2_with fail
  refine (hsz w (Below.refl _ _)).mono ?_
  rintro e w1 ⟨rfl, b1⟩
  go_wp2_with fail
  refine (hsz w1 b1).mono ?_
  rintro e w2 ⟨rfl, b2⟩
  go_wp2_with fail
  refine (hpd w2).mono ?_
  rintro e w3 ⟨rfl, hw3⟩
  subst w3
  have HB := (show Hid _ from b1.trans (b2.mono b1.size))
  clear hsz hpd b1 b2
  go_wp2
  go_ret
  exact ⟨by rw [HE.out]; rfl, HB.out⟩
set_option linter.unusedVariables false in
set_option maxRecDepth 100000 in
set_option maxHeartbeats 1000000 in
theorem space_sack (t r : Value) (a : Option Addr) (n c : Nat) (a2 : Option Addr) (n2 c2 : Nat) (w : World) (hn : n ≤ 281474976710656) (hn2 : n2 ≤ 281474976710656) (v : Value) (hv : v = .iface 97 (.agg #[t, r, .slice a n c, .slice a2 n2 c2])) : Calls Tryd.prog 25 #[v] w fun e w' => e = .returned (.int .i64 (4 + (12 + 4 * n + 4 * n2) + padN (12 + 4 * n + 4 * n2) : Nat)) ∧ Below w.heap.size w w' := by
  subst hv
  have hm : ∀ (v : Value) (w : World), (method 237 97 v "trunkline/chunk.size").run Tryd.prog w = .ok (91, v) w := fun _ _ => by kernel_rfl
  have hpl : padN (12 + 4 * n + 4 * n2) < 4 := Nat.mod_lt _ (by omega)
  have hpd := fun W => padding_any (12 + 4 * n + 4 * n2) W (by omega) _ rfl
  have hsz := fun (W : World) (hb : Below w.heap.size w W) => size_sack t r a n c a2 n2 c2 W hn hn2
  have HE : Hid (((4 + (12 + 4 * n + 4 * n2) + padN (12 + 4 * n + 4 * n2) : Nat) : Int) = 4 + (((12 + 4 * n + 4 * n2) : Nat) : Int) + (padN (12 + 4 * n + 4 * n2) : Nat)) := by show _ = _; omega
  have hrb : (12 + 4 * n + 4 * n2) ≤ 1152921504606846900 := by omega
  generalize padN (12 + 4 * n + 4 * n2) = pd at *
  generalize (12 + 4 * n + 4 * n2) = N at *
  go_enter Tryd.func25, Tryd.ntmps25
  go_wp2_with fail
  refine (hsz w (Below.refl _ _)).mono ?_
  rintro e w1 ⟨rfl, b1⟩
  go_wp2_with fail
  refine (hsz w1 b1).mono ?_
  rintro e w2 ⟨rfl, b2⟩
  go_wp2_with fail
  refine (hpd w2).mono ?_
  rintro e w3 ⟨rfl, hw3⟩
  subst w3
  have HB := (show Hid _ from b1.trans (b2.mono b1.size))
  clear hsz hpd b1 b2
  go_wp2
  go_ret
  exact ⟨by rw [HE.out]; rfl, HB.out⟩
set_option linter.unusedVariables false in
set_option maxRecDepth 100000 in
set_option maxHeartbeats 1000000 in
theorem space_raw (a : Option Addr) (n c : Nat) (w : World) (hn : n ≤ 281474976710656) (v : Value) (hv : v = .iface 101 (.slice a n c)) : Calls Tryd.prog 25 #[v] w fun e w' => e = .returned (.int .i64 (4 + n + padN n : Nat)) ∧ Below w.heap.size w w' := by
  subst hv
  have hm : ∀ (v : Value) (w : World), (method 237 101 v "trunkline/chunk.size").run Tryd.prog w = .ok (97, v) w := fun _ _ => by kernel_rfl
  have hpl : padN n < 4 := Nat.mod_lt _ (by omega)
  have hpd := fun W => padding_any n W (by omega) _ rfl
  have hsz := fun (W : World) (hb : Below w.heap.size w W) => size_raw a n c W hn
  have HE : Hid (((4 + n + padN n : Nat) : Int) = 4 + ((n : Nat) : Int) + (padN n : Nat)) := by show _ = _; omega
  have hrb : n ≤ 1152921504606846900 := by omega
  generalize padN n = pd at *
  go_enter Tryd.func25, Tryd.ntmps25
  go_wp2_with fail
  refine (hsz w (Below.refl _ _)).mono ?_
  rintro e w1 ⟨rfl, b1⟩
  go_wp2_with fail
  refine (hsz w1 b1).mono ?_
  rintro e w2 ⟨rfl, b2⟩
  go_wp2_with fail
  refine (hpd w2).mono ?_
  rintro e w3 ⟨rfl, hw3⟩
  subst w3
  have HB := (show Hid _ from b1.trans (b2.mono b1.size))
  clear hsz hpd b1 b2
  go_wp2
  go_ret
  exact ⟨by rw [HE.out]; rfl, HB.out⟩
end Go.Proofs.YtlgfbcfogcmdbaaDoor
