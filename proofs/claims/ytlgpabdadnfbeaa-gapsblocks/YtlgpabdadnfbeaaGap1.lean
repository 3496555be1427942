/- What place, has, set and unset of package gaps do. -/
import Derived.Test.YtlgpabdadnfbeaaProg
import Derived.Test.YtlgpabdadnfbeaaGapM
import Derived.Deep.RegionHeld3
import Derived.Deep.Draws
import Derived.Deep.QuietTactic
import Derived.BigQuiet
namespace Go.Proofs.Ytlgpabdadnfbeaa
open Go.RowKit
theorem pow_wrap (k : Nat) (hk : k < 64) : IntKind.u64.wrap ((2 : Int) ^ k) = ((2 ^ k : Nat) : Int) := by
  have hp : 2 ^ k < 18446744073709551616 := Nat.pow_lt_pow_right (n := 64) (by omega) hk
  rw [IntKind.wrap_u64]
  have e : ((2 : Int) ^ k) = ((2 ^ k : Nat) : Int) := by norm_cast
  rw [e]
  generalize (2 ^ k : Nat) = m at *
  omega
theorem ret_iu {a b c d : Int} (h : a = b) (h2 : c = d) : Ending.returned (.tuple #[.int .i64 a, .int .u64 c]) = .returned (.tuple #[.int .i64 b, .int .u64 d]) := by rw [h, h2]
set_option maxHeartbeats 400000 in
theorem place_any (t : Nat) (w : World) : Calls Try.prog 45 #[.int .u32 t] w fun e w' => e = .returned (.tuple #[.int .i64 (t % 256 / 64 : Nat), .int .u64 (2 ^ (t % 256 % 64) : Nat)]) ∧ w' = w := by
  have HP := (show Hid _ from pow_wrap (t % 64) (by omega))
  go_enter Try.func45, Try.ntmps45
  go_wp2
  go_ret2
  exact ⟨ret_iu (by omega) (by rw [HP.out, show t % 256 % 64 = t % 64 from by omega]), rfl⟩
/-- Four words as they lie. -/
structure Win (w : World) (p o : Nat) (ws : List Nat) : Prop where
  len : ws.length = 4
  bnd : ∀ i, ws.getD i 0 < 18446744073709551616
  cell : ∀ i, i < 4 → w.cell? ⟨p, o + i, none⟩ = some (.int .u64 (ws.getD i 0 : Nat))
  free : ∀ i, w.frozen? ⟨p, i, none⟩ = false
theorem Win.below {w w' : World} {p o : Nat} {ws : List Nat} (h : Win w p o ws) {B : Nat} (hb : Below B w w') (hp : p < B) : Win w' p o ws :=
  ⟨h.len, h.bnd, fun i hi => (hb.cell (p := ⟨p, o + i, none⟩) hp).trans (h.cell i hi), fun i => (hb.frozen (p := ⟨p, i, none⟩) hp).trans (h.free i)⟩
theorem Win.store {w : World} {p o : Nat} {ws : List Nat} (h : Win w p o ws) (i x : Nat) (hi : i < 4) (hx : x < 18446744073709551616) : Win (w.setCell ⟨p, o + i, none⟩ (.int .u64 (x : Nat))) p o (ws.set i x) := by
  have hl := h.len
  refine ⟨by simp [hl], fun j => ?_, fun j hj => ?_, fun j => by rw [World.frozen?_setCell]; exact h.free j⟩
  · rw [List.getD_eq_getElem?_getD, List.getElem?_set]
    split
    · split
      · simpa using hx
      · simp
    · rw [← List.getD_eq_getElem?_getD]; exact h.bnd j
  · by_cases e : i = j
    · subst e
      rw [World.cell?_setCell_same' _ _ _ (by rw [h.cell i hi]; rfl)]
      simp [List.getD_eq_getElem?_getD, hl, hi]
    · rw [World.cell?_setCell_other _ _ _ _ (by intro e2; injection e2 with _ e3; omega), h.cell j hj]
      simp [List.getD_eq_getElem?_getD, e]
set_option maxHeartbeats 1000000 in
theorem has_any (p o t : Nat) (ws : List Nat) (w : World) (h : Win w p o ws) :
    Calls Try.prog 29 #[.pointer (some ⟨p, o, none⟩), .int .u32 t] w fun e w' => e = .returned (.bool (bitW ws (t % 256))) ∧ w' = w := by
  have hpl := fun w => place_any t w
  have hi : t % 256 / 64 < 4 := by omega
  have hc := h.cell _ hi
  have hx := h.bnd (t % 256 / 64)
  have hk : t % 256 % 64 < 64 := by omega
  have hp : 2 ^ (t % 256 % 64) < 18446744073709551616 := Nat.pow_lt_pow_right (n := 64) (by omega) hk
  have HA := (show Hid _ from u64_and_nat (ws.getD (t % 256 / 64) 0) (2 ^ (t % 256 % 64)) hx hp)
  have HB : Hid (bitW ws (t % 256) = !((((ws.getD (t % 256 / 64) 0 &&& 2 ^ (t % 256 % 64) : Nat) : Int)) == 0)) := by
    show _ = _
    have hb := and_bit (ws.getD (t % 256 / 64) 0) (t % 256 % 64)
    unfold bitW
    generalize ws.getD (t % 256 / 64) 0 = y at *
    cases hh : y.testBit (t % 256 % 64) with
    | true =>
      have : ¬ (y &&& 2 ^ (t % 256 % 64)) = 0 := fun e => by rw [hb.1 e] at hh; cases hh
      have h2 : ¬ ((y &&& 2 ^ (t % 256 % 64) : Nat) : Int) = 0 := by omega
      simp only [beq_eq_false_iff_ne.2 h2]; rfl
    | false =>
      rw [hb.2 hh]; rfl
  generalize ws.getD (t % 256 / 64) 0 = y at *
  generalize t % 256 / 64 = i at *
  generalize 2 ^ (t % 256 % 64) = m at *
  have hi1 : (i : Int) < 4 := by omega
  clear h hi hk
  go_enter Try.func29, Try.ntmps29
  go_wp2_with (go_at_call 45; refine (hpl _).mono ?_; rintro e w' ⟨rfl, hw'⟩; subst w')
  go_ret
  exact ⟨by rw [HB.out, ← HA.out]; rfl, rfl⟩
set_option maxHeartbeats 1000000 in
theorem set_any (p o t : Nat) (ws : List Nat) (w : World) (h : Win w p o ws) :
    Calls Try.prog 32 #[.pointer (some ⟨p, o, none⟩), .int .u32 t] w fun e w' => e = .returned (.tuple #[]) ∧ ∃ q, w' = (w.drewN q).setCell ⟨p, o + t % 256 / 64, none⟩ (.int .u64 (ws.getD (t % 256 / 64) 0 ||| 2 ^ (t % 256 % 64) : Nat)) := by
  have hpl := fun w => place_any t w
  have hi : t % 256 / 64 < 4 := by omega
  have hc := h.cell _ hi
  have hx := h.bnd (t % 256 / 64)
  have hfr := h.free (o + t % 256 / 64)
  have hk : t % 256 % 64 < 64 := by omega
  have hp : 2 ^ (t % 256 % 64) < 18446744073709551616 := Nat.pow_lt_pow_right (n := 64) (by omega) hk
  have HA := (show Hid _ from u64_or_nat (ws.getD (t % 256 / 64) 0) (2 ^ (t % 256 % 64)) hx hp)
  generalize ws.getD (t % 256 / 64) 0 = y at *
  generalize t % 256 / 64 = i at *
  generalize 2 ^ (t % 256 % 64) = m at *
  have hi1 : (i : Int) < 4 := by omega
  clear h hi hk
  go_enter Try.func32, Try.ntmps32
  go_wp2_with (go_at_call 45; refine (hpl _).mono ?_; rintro e w' ⟨rfl, hw'⟩; subst w')
  go_region
  all_goals
    go_wp2
    go_end0
    exact ⟨rfl, 1, by rw [← HA.out]; rfl⟩
set_option maxHeartbeats 1000000 in
theorem unset_any (p o t : Nat) (ws : List Nat) (w : World) (h : Win w p o ws) :
    Calls Try.prog 47 #[.pointer (some ⟨p, o, none⟩), .int .u32 t] w fun e w' => e = .returned (.tuple #[]) ∧ ∃ q, w' = (w.drewN q).setCell ⟨p, o + t % 256 / 64, none⟩ (.int .u64 (ws.getD (t % 256 / 64) 0 &&& (18446744073709551615 - 2 ^ (t % 256 % 64)) : Nat)) := by
  have hpl := fun w => place_any t w
  have hi : t % 256 / 64 < 4 := by omega
  have hc := h.cell _ hi
  have hx := h.bnd (t % 256 / 64)
  have hfr := h.free (o + t % 256 / 64)
  have hk : t % 256 % 64 < 64 := by omega
  have hp : 2 ^ (t % 256 % 64) < 18446744073709551616 := Nat.pow_lt_pow_right (n := 64) (by omega) hk
  have HA := (show Hid _ from u64_andNot_nat (ws.getD (t % 256 / 64) 0) (2 ^ (t % 256 % 64)) hx hp)
  generalize ws.getD (t % 256 / 64) 0 = y at *
  generalize t % 256 / 64 = i at *
  generalize 2 ^ (t % 256 % 64) = m at *
  have hi1 : (i : Int) < 4 := by omega
  clear h hi hk
  go_enter Try.func47, Try.ntmps47
  go_wp2_with (go_at_call 45; refine (hpl _).mono ?_; rintro e w' ⟨rfl, hw'⟩; subst w')
  go_region
  all_goals
    go_wp2
    go_end0
    exact ⟨rfl, 1, by rw [← HA.out]; rfl⟩
end Go.Proofs.Ytlgpabdadnfbeaa
