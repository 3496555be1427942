/- What hash.Same answers. -/
import Derived.Test.YtmikhnaffhheoaaDoorHMac
namespace Go.Proofs.YtmikhnaffhheoaaDoor
open Go.RowKit
theorem or_zero (a b : Nat) : a ||| b = 0 ↔ a = 0 ∧ b = 0 := by
  constructor
  · intro h
    have h1 : a ≤ a ||| b := Nat.left_le_or
    have h2 : b ≤ a ||| b := Nat.right_le_or
    omega
  · rintro ⟨rfl, rfl⟩; rfl
theorem xor_zero (a b : Nat) : a ^^^ b = 0 ↔ a = b := by
  constructor
  · intro h
    have : (a ^^^ b) ^^^ b = b := by rw [h, Nat.zero_xor]
    rwa [Nat.xor_assoc, Nat.xor_self, Nat.xor_zero] at this
  · rintro rfl; exact Nat.xor_self _
theorem or_lt8 (a b : Nat) (ha : a < 256) (hb : b < 256) : a ||| b < 256 := Nat.or_lt_two_pow (n := 8) ha hb
set_option maxRecDepth 100000 in
set_option maxHeartbeats 2000000 in
theorem hsame_any (a : Option Addr) (n c : Nat) (zs : List Nat) (a2 : Option Addr) (n2 c2 : Nat) (ys : List Nat) (w : World) (hs : Sl w a n c zs) (hs2 : Sl w a2 n2 c2 ys) :
    Calls Tryd.prog 48 #[.slice a n c, .slice a2 n2 c2] w fun e w' => e = .returned (.bool (decide (zs = ys))) ∧ ∃ q, w' = w.drewN q := by
  have hl := hs.len
  have hl2 := hs2.len
  have hsm := hs.small
  have hsm2 := hs2.small
  by_cases hn : n = n2
  · subst hn
    go_enter Tryd.func48, Tryd.ntmps48
    go_wp2_with fail
    go_loopw [5, 14] (fun uv iv wr => ∃ (i u q : Nat), i ≤ n ∧ iv = .int .i64 i ∧ u < 256 ∧ uv = .int .u8 (u : Nat) ∧ wr = w.drewN q ∧ (u = 0 ↔ ∀ j, j < i → zs.getD j 0 = ys.getD j 0)) (fun _ iv _ => n - (intOf iv).toNat)
    case atStart => exact ⟨0, 0, 0, by omega, rfl, by omega, rfl, rfl, ⟨fun _ j hj => by omega, fun _ => rfl⟩⟩
    case round =>
      obtain ⟨i, u, q, hi, rfl, hu, rfl, rfl, hiff⟩ := hrel
      have HIFF := (show Hid _ from hiff)
      clear hiff
      by_cases hin : i < n
      · rcases hs.at_ with h0 | ⟨g, off, rfl, hlt, hcell⟩
        · omega
        rcases hs2.at_ with h0 | ⟨g2, off2, rfl, hlt2, hcell2⟩
        · omega
        have hc := hcell i hin
        have hc2 := hcell2 i hin
        have hb1 := hs.bnd i
        have hb2 := hs2.bnd i
        have HNX : Hid ((u ||| (zs.getD i 0 ^^^ ys.getD i 0)) = 0 ↔ ∀ j, j < i + 1 → zs.getD j 0 = ys.getD j 0) := by
          show _ ↔ _
          rw [or_zero, xor_zero, HIFF.out]
          constructor
          · rintro ⟨h1, h2⟩ j hj
            by_cases e : j = i
            · subst e; exact h2
            · exact h1 j (by omega)
          · intro h
            exact ⟨fun j hj => h j (by omega), h i (by omega)⟩
        clear hcell hcell2 HIFF
        generalize zs.getD i 0 = x at *
        generalize ys.getD i 0 = y at *
        have hx := u8_xor_nat x y hb1 hb2
        have hxl := xor_lt8 x y hb1 hb2
        generalize x ^^^ y = z at *
        have ho := u8_or_nat u z hu hxl
        have hol := or_lt8 u z hu hxl
        generalize u ||| z = u2 at *
        have hi1 : (i : Int) < (n : Int) := by omega
        go_wp2_with fail
        go_quiet (fail)
        all_goals
          go_wp2
          go_roundw
          case rel => exact ⟨i + 1, u2, _, by omega, by go_num, hol, rfl, by first | rfl | exact World.drewN_drewN _ _ _, HNX.out⟩
          case measure => simp [intOf]; omega
      · have e : i = n := by omega
        have hi1 : ¬ (i : Int) < (n : Int) := by omega
        have HD : Hid (((u : Int) == 0) = decide (zs = ys)) := by
          show _ = _
          rw [Bool.eq_iff_iff]
          simp only [beq_iff_eq, decide_eq_true_eq]
          constructor
          · intro h
            have h2 := HIFF.out.1 (by omega)
            exact getD_ext zs ys (by omega) (fun j hj => h2 j (by omega))
          · intro h
            have := HIFF.out.2 (fun j _ => by rw [h])
            omega
        clear e HIFF
        go_wp2
        go_ret
        exact ⟨by rw [← HD.out]; rfl, q, rfl⟩
  · have HD : Hid (decide (zs = ys) = false) := by
      show _ = _
      rw [decide_eq_false_iff_not]
      intro e
      rw [e] at hl
      omega
    have hne : ((n : Int) == (n2 : Int)) = false := by simp; omega
    have hne2 : ((n : Int) != (n2 : Int)) = true := by simp; omega
    go_enter Tryd.func48, Tryd.ntmps48
    go_wp2
    go_ret
    exact ⟨by rw [HD.out]; rfl, 0, rfl⟩
end Go.Proofs.YtmikhnaffhheoaaDoor
