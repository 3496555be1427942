/- What the size of Init's value is, and space of the values that Ch5 leaves out. -/
import Derived.Test.YtlgfbcfogcmdbaaDoorCh6
namespace Go.Proofs.YtlgfbcfogcmdbaaDoor
open Go.RowKit
theorem psz_bnd {w : World} {a : Option Addr} {n c : Nat} {ls : List Nat} (h : Prs w a n c ls) (hn : n ≤ 16) : psz ls ≤ 16 * 281474976710664 := by
  have h1 := pszF_bnd 281474976710656 ls (0, 0) (by decide) h.each
  have h2 : ls.length ≤ 16 := by rw [h.len]; exact hn
  have h3 : ls.length * (281474976710656 + 8) ≤ 16 * 281474976710664 := Nat.mul_le_mul h2 (Nat.le_refl _)
  unfold psz pszP
  have := h1.1
  dsimp only at this
  omega
set_option linter.unusedVariables false in
set_option maxRecDepth 100000 in
set_option maxHeartbeats 1000000 in
theorem size_init (t r o i s : Value) (a : Option Addr) (n c : Nat) (ls : List Nat) (w : World) (h : Prs w a n c ls) (hn : n ≤ 16) : Calls Tryd.prog 89 #[.agg #[t, r, o, i, s, .slice a n c]] w fun e w' => e = .returned (.int .i64 (16 + psz ls : Nat)) ∧ Below w.heap.size w w' := by
  have hb := psz_bnd h hn
  have hsz := fun (W : World) (hb : Below w.heap.size w W) => size_prms a n c ls W (h.below hb) hn
  have HE : Hid (((16 + psz ls : Nat) : Int) = 16 + (psz ls : Nat)) := by show _ = _; omega
  generalize psz ls = P at *
  go_enter Tryd.func89, Tryd.ntmps89
  go_wp2_with fail
  refine (hsz _ (by first | exact Below.refl _ _ | exact (Below.refl _ _).alloc (Nat.le_refl _) _)).mono ?_
  rintro e w1 ⟨rfl, b1⟩
  have HB : Hid (Below w.heap.size w w1) := by
    show Below _ _ _
    first
      | exact b1
      | exact ((Below.refl _ _).alloc (Nat.le_refl _) _).trans (b1.mono (by simp))
  clear hsz b1
  go_wp2
  go_ret
  exact ⟨by rw [HE.out]; rfl, HB.out⟩
set_option linter.unusedVariables false in
set_option maxRecDepth 100000 in
set_option maxHeartbeats 1000000 in
theorem space_init (t r o i s : Value) (a : Option Addr) (n c : Nat) (ls : List Nat) (w : World) (h : Prs w a n c ls) (hn : n ≤ 16) (v : Value) (hv : v = .iface 95 (.agg #[t, r, o, i, s, .slice a n c])) : Calls Tryd.prog 25 #[v] w fun e w' => e = .returned (.int .i64 (4 + (16 + psz ls) + padN (16 + psz ls) : Nat)) ∧ Below w.heap.size w w' := by
  subst hv
  have hm : ∀ (v : Value) (w : World), (method 237 95 v "trunkline/chunk.size").run Tryd.prog w = .ok (89, v) w := fun _ _ => by kernel_rfl
  have hbd := psz_bnd h hn
  have hpl : padN (16 + psz ls) < 4 := Nat.mod_lt _ (by omega)
  have hpd := fun W => padding_any (16 + psz ls) W (by omega) _ rfl
  have hsz := fun (W : World) (hb : Below w.heap.size w W) => size_init t r o i s a n c ls W (h.below hb) hn
  have HE : Hid (((4 + (16 + psz ls) + padN (16 + psz ls) : Nat) : Int) = 4 + (((16 + psz ls) : Nat) : Int) + (padN (16 + psz ls) : Nat)) := by show _ = _; omega
  have hrb : (16 + psz ls) ≤ 1152921504606846900 := by omega
  generalize padN (16 + psz ls) = pd at *
  generalize (16 + psz ls) = N at *
  go_enter Tryd.func25, Tryd.ntmps25
  go_wp2_with fail
  refine (hsz w (Below.refl _ _)).mono ?_
  rintro e w1 ⟨rfl, b1⟩
  go_wp2_with fail
  refine (hsz w1 b1).mono ?_
  rintro e w2 ⟨rfl, b2⟩
  go_wp2_with fail
  refine (hpd w2).mono ?_
  rintro e w3 ⟨rfl, hw3⟩
  subst w3
  have HB := (show Hid _ from b1.trans (b2.mono b1.size))
  clear hsz hpd b1 b2
  go_wp2
  go_ret
  exact ⟨by rw [HE.out]; rfl, HB.out⟩
set_option linter.unusedVariables false in
set_option maxRecDepth 100000 in
set_option maxHeartbeats 1000000 in
theorem space_prms (a : Option Addr) (n c : Nat) (ls : List Nat) (w : World) (h : Prs w a n c ls) (hn : n ≤ 16) (v : Value) (hv : v = .iface 93 (.slice a n c)) : Calls Tryd.prog 25 #[v] w fun e w' => e = .returned (.int .i64 (4 + (psz ls) + padN (psz ls) : Nat)) ∧ Below w.heap.size w w' := by
  subst hv
  have hm : ∀ (v : Value) (w : World), (method 237 93 v "trunkline/chunk.size").run Tryd.prog w = .ok (87, v) w := fun _ _ => by kernel_rfl
  have hbd := psz_bnd h hn
  have hpl : padN (psz ls) < 4 := Nat.mod_lt _ (by omega)
  have hpd := fun W => padding_any (psz ls) W (by omega) _ rfl
  have hsz := fun (W : World) (hb : Below w.heap.size w W) => size_prms a n c ls W (h.below hb) hn
  have HE : Hid (((4 + (psz ls) + padN (psz ls) : Nat) : Int) = 4 + (((psz ls) : Nat) : Int) + (padN (psz ls) : Nat)) := by show _ = _; omega
  have hrb : (psz ls) ≤ 1152921504606846900 := by omega
  generalize padN (psz ls) = pd at *
  generalize (psz ls) = N at *
  go_enter Tryd.func25, Tryd.ntmps25
  go_wp2_with fail
  refine (hsz w (Below.refl _ _)).mono ?_
  rintro e w1 ⟨rfl, b1⟩
  go_wp2_with fail
  refine (hsz w1 b1).mono ?_
  rintro e w2 ⟨rfl, b2⟩
  go_wp2_with fail
  refine (hpd w2).mono ?_
  rintro e w3 ⟨rfl, hw3⟩
  subst w3
  have HB := (show Hid _ from b1.trans (b2.mono b1.size))
  clear hsz hpd b1 b2
  go_wp2
  go_ret
  exact ⟨by rw [HE.out]; rfl, HB.out⟩
set_option linter.unusedVariables false in
set_option maxRecDepth 100000 in
set_option maxHeartbeats 1000000 in
theorem space_tsnv (t : Nat) (w : World) (v : Value) (hv : v = .iface 98 (.int .u32 (t : Nat))) : Calls Tryd.prog 25 #[v] w fun e w' => e = .returned (.int .i64 (8 : Nat)) ∧ Below w.heap.size w w' := by
  subst hv
  have hm : ∀ (v : Value) (w : World), (method 237 98 v "trunkline/chunk.size").run Tryd.prog w = .ok (93, v) w := fun _ _ => by kernel_rfl
  have hpd := fun W => padding_any 4 W (by omega) _ rfl
  have hsz := fun (W : World) => size_tsnv t W
  go_enter Tryd.func25, Tryd.ntmps25
  go_wp2_with fail
  refine (hsz w).mono ?_
  rintro e w1 ⟨rfl, b1⟩
  go_wp2_with fail
  refine (hsz w1).mono ?_
  rintro e w2 ⟨rfl, b2⟩
  go_wp2_with fail
  refine (hpd w2).mono ?_
  rintro e w3 ⟨rfl, hw3⟩
  subst w3
  have HB := (show Hid _ from b1.trans (b2.mono b1.size))
  clear hsz hpd b1 b2
  have hp0 : padN 4 = 0 := rfl
  rw [hp0]
  go_wp2
  go_ret
  exact ⟨rfl, HB.out⟩
set_option linter.unusedVariables false in
set_option maxRecDepth 100000 in
set_option maxHeartbeats 1000000 in
theorem space_none  (w : World) (v : Value) (hv : v = .iface 100 (.agg #[])) : Calls Tryd.prog 25 #[v] w fun e w' => e = .returned (.int .i64 (4 : Nat)) ∧ Below w.heap.size w w' := by
  subst hv
  have hm : ∀ (v : Value) (w : World), (method 237 100 v "trunkline/chunk.size").run Tryd.prog w = .ok (95, v) w := fun _ _ => by kernel_rfl
  have hpd := fun W => padding_any 0 W (by omega) _ rfl
  have hsz := fun (W : World) => size_none W
  go_enter Tryd.func25, Tryd.ntmps25
  go_wp2_with fail
  refine (hsz w).mono ?_
  rintro e w1 ⟨rfl, b1⟩
  go_wp2_with fail
  refine (hsz w1).mono ?_
  rintro e w2 ⟨rfl, b2⟩
  go_wp2_with fail
  refine (hpd w2).mono ?_
  rintro e w3 ⟨rfl, hw3⟩
  subst w3
  have HB := (show Hid _ from b1.trans (b2.mono b1.size))
  clear hsz hpd b1 b2
  have hp0 : padN 0 = 0 := rfl
  rw [hp0]
  go_wp2
  go_ret
  exact ⟨rfl, HB.out⟩
end Go.Proofs.YtlgfbcfogcmdbaaDoor
