/- The walk of trunklinelaw03.SerialOne: it answers true. -/
import Derived.Test.YtpnfghchllipnaaLive3
import Derived.Test.YtpnfghchllipnaaFitM
namespace Go.Proofs.Ytpnfghchllipnaa
open Go.RowKit
theorem ret_bool {p q : Bool} (h : p = q) : Ending.returned (.bool p) = .returned (.bool q) := by rw [h]
theorem fit_rnd (wide : Bool) : rnd (fitB wide) = 65536 ∨ rnd (fitB wide) = 4294967296 := rnd_two _
theorem chk2 (wide : Bool) (x y : Nat) (hx : x < rnd (fitB wide)) (hy : y < rnd (fitB wide)) : chkE (fitB wide) [x, y] = 0 := chk_fit wide _ (by simp; exact ⟨hx, hy⟩)
theorem chk1 (wide : Bool) (x : Nat) (hx : x < rnd (fitB wide)) : chkE (fitB wide) [x] = 0 := chk_fit wide _ (by simp; exact hx)
theorem less_fit (wide : Bool) (x y : Nat) (hx : x < rnd (fitB wide)) (hy : y < rnd (fitB wide)) : lessR (fitB wide) x y = decide (0 < aheadV (rnd (fitB wide)) x y) := by
  unfold lessR aheadR; rw [if_pos (chk2 wide x y hx hy)]
theorem add_fit (wide : Bool) (x : Nat) (n : Int) (hx : x < rnd (fitB wide)) : addR (fitB wide) x n = addV (rnd (fitB wide)) x n := by
  unfold addR; rw [if_pos (chk1 wide x hx)]
theorem one_bool (M x y : Nat) (hM : M = 65536 ∨ M = 4294967296) (hx : x < M) (hy : y < M) :
    (decide (0 < aheadV M x y) && decide (0 < aheadV M y x)) = false ∧ (decide (0 < aheadV M x y) || decide (0 < aheadV M y x)) = (!decide ((x : Int) = (y : Int)) && !decide ((y : Int) = ((addV M x ((M / 2 : Nat) : Int) : Nat) : Int))) := by
  obtain ⟨h1, h2⟩ := less_one M x y hM hx hy
  constructor
  · cases h : (decide (0 < aheadV M x y) && decide (0 < aheadV M y x)) with
    | false => rfl
    | true => simp at h; exact absurd h h1
  · rw [Bool.eq_iff_iff]
    simp only [Bool.or_eq_true, decide_eq_true_eq, Bool.and_eq_true, Bool.not_eq_true', decide_eq_false_iff_not]
    rw [h2]
    omega
set_option maxHeartbeats 2000000 in
theorem walk_SerialOne (a b : Nat) (wide : Bool) (w : World) (ha : a < 4294967296) (hb : b < 4294967296) :
    Calls Try.prog 6 #[.int .u32 a, .int .u32 b, .bool wide] w fun e w' => e = .returned (.bool true) ∧ Below w.heap.size w w' := by
  have hx := fitV_lt wide a ha
  have hy := fitV_lt wide b hb
  have hx2 := fitV_lt32 wide a ha
  have hy2 := fitV_lt32 wide b hb
  have f1 := fun w => fit_any wide a ha w
  have f2 := fun w => fit_any wide b hb w
  have l1 := fun w => less_any (fitB wide) (fitV wide a) (fitV wide b) hx2 hy2 w
  have l2 := fun w => less_any (fitB wide) (fitV wide b) (fitV wide a) hy2 hx2 w
  have ad := fun w => add_any (fitB wide) (fitV wide a) ((rnd (fitB wide) / 2 : Nat) : Int) hx2 w
  obtain ⟨o1, o2⟩ := one_bool _ _ _ (fit_rnd wide) hx hy
  rw [← less_fit wide _ _ hx hy, ← less_fit wide _ _ hy hx] at o1 o2
  rw [← add_fit wide _ _ hx] at o2
  rw [chk2 wide _ _ hx hy] at l1
  rw [chk2 wide _ _ hy hx] at l2
  rw [chk1 wide _ hx] at ad
  have hr := addR_lt (fitB wide) (fitV wide a) ((rnd (fitB wide) / 2 : Nat) : Int)
  clear hx hy
  have O1 := (show Hid _ from o1)
  have O2 := (show Hid _ from o2)
  clear o1 o2
  generalize fitV wide a = x at *
  generalize fitV wide b = y at *
  generalize lessR (fitB wide) x y = p at *
  generalize lessR (fitB wide) y x = q at *
  generalize addR (fitB wide) x ((rnd (fitB wide) / 2 : Nat) : Int) = h at *
  have hbits : (fitB wide = 16 ∧ ((rnd (fitB wide) / 2 : Nat) : Int) = 32768) ∨ (fitB wide = 32 ∧ ((rnd (fitB wide) / 2 : Nat) : Int) = 2147483648) := by cases wide <;> decide
  generalize ((rnd (fitB wide) / 2 : Nat) : Int) = hf at *
  generalize fitB wide = bt at *
  rcases hbits with ⟨rfl, rfl⟩ | ⟨rfl, rfl⟩
  all_goals
    go_enter Try.func6, Try.ntmps6
    go_wp2_with fail
    refine (f1 _).mono ?_
    rintro e w' ⟨rfl, hw'⟩
    subst w'
    go_wp2_with fail
    refine (f2 _).mono ?_
    rintro e w' ⟨rfl, hw'⟩
    subst w'
    go_wp2_with fail
    refine (l1 _).mono ?_
    rintro e w1 ⟨rfl, hb1⟩
    go_wp2_with fail
    refine (l2 _).mono ?_
    rintro e w2 ⟨rfl, hb2⟩
    go_wp2_with fail
    refine (ad _).mono ?_
    rintro e w3 ⟨rfl, hb3⟩
    go_wp2_with fail
    refine (live_any _).mono ?_
    rintro e w4 ⟨rfl, hb4⟩
    have hbel : Below w.heap.size w w4 := hb1.trans ((hb2.mono hb1.size).trans ((hb3.mono (Nat.le_trans hb1.size hb2.size)).trans (hb4.mono (Nat.le_trans hb1.size (Nat.le_trans hb2.size hb3.size)))))
    clear hb1 hb2 hb3 hb4 f1 f2 l1 l2 ad
    have hpq : (p = false ∧ q = false ∧ (x = y ∨ (¬ x = y ∧ y = h))) ∨ (((p = true ∧ q = false) ∨ (p = false ∧ q = true)) ∧ ¬ x = y ∧ ¬ y = h) := by
      have h1 := O1.out
      have h2 := O2.out
      cases p <;> cases q <;> simp at h1 h2 ⊢
      · by_cases e : x = y
        · exact .inl e
        · exact .inr ⟨e, by have := h2 (by omega); omega⟩
      · omega
      · omega
    clear O1 O2
    rcases hpq with ⟨rfl, rfl, h | ⟨h1, h2⟩⟩ | ⟨⟨rfl, rfl⟩ | ⟨rfl, rfl⟩, h1, h2⟩
    · subst h
      go_wp2
      go_ret
      exact ⟨rfl, hbel⟩
    · subst h2
      have h1' : ((x : Int) == (y : Int)) = false := by simp; omega
      go_wp2
      go_ret
      exact ⟨rfl, hbel⟩
    · have h1' : ((x : Int) == (y : Int)) = false := by simp; omega
      have h2' : ((y : Int) == (h : Int)) = false := by simp; omega
      go_wp2
      go_ret
      exact ⟨ret_bool (by simp only [bne, h1', h2']; rfl), hbel⟩
    · have h1' : ((x : Int) == (y : Int)) = false := by simp; omega
      have h2' : ((y : Int) == (h : Int)) = false := by simp; omega
      go_wp2
      go_ret
      exact ⟨ret_bool (by simp only [bne, h1', h2']; rfl), hbel⟩
end Go.Proofs.Ytpnfghchllipnaa
