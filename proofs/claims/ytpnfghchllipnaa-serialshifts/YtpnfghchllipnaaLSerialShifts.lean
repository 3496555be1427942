/- The walk of trunklinelaw03.SerialShifts: it answers true. -/
import Derived.Test.YtpnfghchllipnaaLSerialOne
namespace Go.Proofs.Ytpnfghchllipnaa
open Go.RowKit
set_option maxHeartbeats 2000000 in
theorem walk_SerialShifts (a b : Nat) (n : Int) (wide : Bool) (w : World) (ha : a < 4294967296) (hb : b < 4294967296) (_hn : (Lit.int .i64 n).wf = true) :
    Calls Try.prog 7 #[.agg #[.int .u32 a, .int .u32 b], .int .i64 n, .bool wide] w fun e w' => e = .returned (.bool true) ∧ Below w.heap.size w w' := by
  have hx := fitV_lt wide a ha
  have hy := fitV_lt wide b hb
  have hx2 := fitV_lt32 wide a ha
  have hy2 := fitV_lt32 wide b hb
  have f1 := fun w => fit_any wide a ha w
  have f2 := fun w => fit_any wide b hb w
  have a1 := fun w => add_any (fitB wide) (fitV wide a) n hx2 w
  have a2 := fun w => add_any (fitB wide) (fitV wide b) n hy2 w
  have l1 := fun w => less_any (fitB wide) (fitV wide a) (fitV wide b) hx2 hy2 w
  have l2 := fun w => less_any (fitB wide) (addR (fitB wide) (fitV wide a) n) (addR (fitB wide) (fitV wide b) n) (addR_lt _ _ _) (addR_lt _ _ _) w
  have hr1 := addV_lt (rnd (fitB wide)) (fitV wide a) n (rnd_pos _)
  have hr2 := addV_lt (rnd (fitB wide)) (fitV wide b) n (rnd_pos _)
  rw [add_fit wide _ n hx, add_fit wide _ n hy, chk2 wide _ _ hr1 hr2, less_fit wide _ _ hr1 hr2, ahead_shift _ _ _ n hx, ← less_fit wide _ _ hx hy] at l2
  rw [add_fit wide _ n hx, chk1 wide _ hx] at a1
  rw [add_fit wide _ n hy, chk1 wide _ hy] at a2
  rw [chk2 wide _ _ hx hy] at l1
  have hr1' : addV (rnd (fitB wide)) (fitV wide a) n < 4294967296 := Nat.lt_of_lt_of_le hr1 (rnd_le _)
  have hr2' : addV (rnd (fitB wide)) (fitV wide b) n < 4294967296 := Nat.lt_of_lt_of_le hr2 (rnd_le _)
  clear hx hy hr1 hr2
  generalize addV (rnd (fitB wide)) (fitV wide a) n = r1 at *
  generalize addV (rnd (fitB wide)) (fitV wide b) n = r2 at *
  generalize lessR (fitB wide) (fitV wide a) (fitV wide b) = p at *
  generalize fitV wide a = x at *
  generalize fitV wide b = y at *
  generalize fitB wide = bt at *
  go_enter Try.func7, Try.ntmps7
  go_wp2_with fail
  refine (f1 _).mono ?_
  rintro e w' ⟨rfl, hw'⟩
  subst w'
  go_wp2_with fail
  refine (f2 _).mono ?_
  rintro e w' ⟨rfl, hw'⟩
  subst w'
  go_wp2_with fail
  refine (a1 _).mono ?_
  rintro e w1 ⟨rfl, hb1⟩
  go_wp2_with fail
  refine (a2 _).mono ?_
  rintro e w2 ⟨rfl, hb2⟩
  go_wp2_with fail
  refine (l1 _).mono ?_
  rintro e w3 ⟨rfl, hb3⟩
  go_wp2_with fail
  refine (l2 _).mono ?_
  rintro e w4 ⟨rfl, hb4⟩
  go_wp2_with fail
  refine (live_any _).mono ?_
  rintro e w5 ⟨rfl, hb5⟩
  have hb0 : Below w.heap.size w (w.alloc (.cells #[.int .u32 a, .int .u32 b] 40)) := (Below.refl _ _).alloc (Nat.le_refl _) _
  have hs0 := hb0.size
  have hbel : Below w.heap.size w w5 := hb0.trans ((hb1.mono hs0).trans ((hb2.mono (Nat.le_trans hs0 hb1.size)).trans ((hb3.mono (Nat.le_trans hs0 (Nat.le_trans hb1.size hb2.size))).trans ((hb4.mono (Nat.le_trans hs0 (Nat.le_trans hb1.size (Nat.le_trans hb2.size hb3.size)))).trans (hb5.mono (Nat.le_trans hs0 (Nat.le_trans hb1.size (Nat.le_trans hb2.size (Nat.le_trans hb3.size hb4.size)))))))))
  clear hb0 hb1 hb2 hb3 hb4 hb5 f1 f2 l1 l2 a1 a2
  go_wp2
  go_ret
  exact ⟨by cases p <;> rfl, hbel⟩
end Go.Proofs.Ytpnfghchllipnaa
