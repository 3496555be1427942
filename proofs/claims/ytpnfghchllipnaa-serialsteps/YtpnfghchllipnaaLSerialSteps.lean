/- The walk of trunklinelaw03.SerialSteps: it answers true. -/
import Derived.Test.YtpnfghchllipnaaLSerialOne
import Derived.OpenShut
namespace Go.Proofs.Ytpnfghchllipnaa
open Go.RowKit
theorem ahead_fit (wide : Bool) (x y : Nat) (hx : x < rnd (fitB wide)) (hy : y < rnd (fitB wide)) : aheadR (fitB wide) x y = aheadV (rnd (fitB wide)) x y := by
  unfold aheadR; rw [if_pos (chk2 wide x y hx hy)]
theorem wrap16 (n : Int) : wrap64 (IntKind.i16.wrap n) = (n + 32768) % 65536 - 32768 := by
  have h1 : IntKind.i16.wrap n = (n + 32768) % 65536 - 32768 := by
    simp [IntKind.wrap, IntKind.bits, IntKind.signed]
    omega
  rw [h1]
  unfold wrap64
  omega
set_option maxHeartbeats 2000000 in
theorem walk_SerialSteps (a : Nat) (n m : Int) (wide : Bool) (w : World) (ha : a < 4294967296) (hn : (Lit.int .i32 n).wf = true) (hm : (Lit.int .i32 m).wf = true) :
    Calls Try.prog 5 #[.int .u32 a, .agg #[.int .i32 n, .int .i32 m], .bool wide] w fun e w' => e = .returned (.bool true) ∧ Below w.heap.size w w' := by
  have hnb := bounds_i32 hn
  have hmb := bounds_i32 hm
  have hx := fitV_lt wide a ha
  have hx2 := fitV_lt32 wide a ha
  have f1 := fun w => fit_any wide a ha w
  have hM := rnd_pos (fitB wide)
  have hr1 := addV_lt (rnd (fitB wide)) (fitV wide a) n hM
  have hr1' : addV (rnd (fitB wide)) (fitV wide a) n < 4294967296 := Nat.lt_of_lt_of_le hr1 (rnd_le _)
  have a1 := fun w => add_any (fitB wide) (fitV wide a) n hx2 w
  have a2 := fun w => add_any (fitB wide) (addV (rnd (fitB wide)) (fitV wide a) n) m hr1' w
  have a3 := fun w => add_any (fitB wide) (fitV wide a) (n + m) hx2 w
  have l1 := fun w => ahead_any (fitB wide) (fitV wide a) (addV (rnd (fitB wide)) (fitV wide a) n) hx2 hr1' w
  rw [add_fit wide _ n hx, chk1 wide _ hx] at a1
  rw [add_fit wide _ m hr1, chk1 wide _ hr1, addV_addV _ _ n m hM] at a2
  rw [add_fit wide _ (n + m) hx, chk1 wide _ hx] at a3
  rw [ahead_fit wide _ _ hx hr1, chk2 wide _ _ hx hr1] at l1
  have hr2' : addV (rnd (fitB wide)) (fitV wide a) (n + m) < 4294967296 := Nat.lt_of_lt_of_le (addV_lt _ _ _ hM) (rnd_le _)
  have HW : Hid (aheadV (rnd (fitB wide)) (fitV wide a) (addV (rnd (fitB wide)) (fitV wide a) n) = if wide then n else (n + 32768) % 65536 - 32768) := by
    show _ = _
    cases wide
    · exact ahead_step16 _ n hx
    · exact ahead_step32 _ n hx (by omega) (by omega)
  clear hx hM hr1
  generalize addV (rnd (fitB wide)) (fitV wide a) n = r1 at *
  generalize addV (rnd (fitB wide)) (fitV wide a) (n + m) = r2 at *
  generalize aheadV (rnd (fitB wide)) (fitV wide a) r1 = k at *
  generalize fitV wide a = x at *
  generalize fitB wide = bt at *
  have hb0 : Below w.heap.size w (w.alloc (.cells #[.int .i32 n, .int .i32 m] 33)) := (Below.refl _ _).alloc (Nat.le_refl _) _
  have hs0 := hb0.size
  have hz0 : (w.alloc (.cells #[.int .i32 n, .int .i32 m] 33)).heap.size = w.heap.size + 1 := by simp
  have hc0 : (w.alloc (.cells #[.int .i32 n, .int .i32 m] 33)).cell? ⟨w.heap.size, 0, none⟩ = some (.int .i32 n) := by rw [cell_new _ _ _ _ rfl]; rfl
  have hc1 : (w.alloc (.cells #[.int .i32 n, .int .i32 m] 33)).cell? ⟨w.heap.size, 1, none⟩ = some (.int .i32 m) := by rw [cell_new _ _ _ _ rfl]; rfl
  go_enter Try.func5, Try.ntmps5
  go_wp2_with fail
  generalize (w.alloc (.cells #[.int .i32 n, .int .i32 m] 33)) = w0 at *
  refine (f1 _).mono ?_
  rintro e w' ⟨rfl, hw'⟩
  subst w'
  go_wp2_with fail
  refine (a1 _).mono ?_
  rintro e w1 ⟨rfl, hb1⟩
  have c01 := (hb1.cell (p := ⟨w.heap.size, 0, none⟩) (by show w.heap.size < _; omega)).trans hc0
  have c11 := (hb1.cell (p := ⟨w.heap.size, 1, none⟩) (by show w.heap.size < _; omega)).trans hc1
  go_wp2_with fail
  refine (a2 _).mono ?_
  rintro e w2 ⟨rfl, hb2⟩
  have hz1 := hb1.size
  have c02 := (hb2.cell (p := ⟨w.heap.size, 0, none⟩) (by show w.heap.size < _; omega)).trans c01
  have c12 := (hb2.cell (p := ⟨w.heap.size, 1, none⟩) (by show w.heap.size < _; omega)).trans c11
  go_wp2_with fail
  refine (a3 _).mono ?_
  rintro e w3 ⟨rfl, hb3⟩
  have hz2 := hb2.size
  have c03 := (hb3.cell (p := ⟨w.heap.size, 0, none⟩) (by show w.heap.size < _; omega)).trans c02
  go_wp2_with fail
  refine (l1 _).mono ?_
  rintro e w4 ⟨rfl, hb4⟩
  have hz3 := hb3.size
  have c04 := (hb4.cell (p := ⟨w.heap.size, 0, none⟩) (by show w.heap.size < _; omega)).trans c03
  have hb4' : Below w.heap.size w w4 := hb0.trans ((hb1.mono hs0).trans ((hb2.mono (Nat.le_trans hs0 hb1.size)).trans ((hb3.mono (Nat.le_trans hs0 (Nat.le_trans hb1.size hb2.size))).trans (hb4.mono (Nat.le_trans hs0 (Nat.le_trans hb1.size (Nat.le_trans hb2.size hb3.size)))))))
  clear hb0 hb1 hb2 hb3 hb4 f1 l1 a1 a2 a3 c01 c02 c03 c11 c12 hc0 hc1
  cases wide
  · go_wp2_with fail
    refine (live_any _).mono ?_
    rintro e w5 ⟨rfl, hb5⟩
    have hk : k = (n + 32768) % 65536 - 32768 := by have := HW.out; simpa using this
    subst hk
    clear HW
    have HI := (show Hid _ from wrap16 n)
    go_wp2
    go_ret
    exact ⟨ret_bool (by rw [HI.out]; simp), hb4'.trans (hb5.mono hb4'.size)⟩
  · go_wp2_with fail
    refine (live_any _).mono ?_
    rintro e w5 ⟨rfl, hb5⟩
    have hk : k = n := by have := HW.out; simpa using this
    subst hk
    clear HW
    go_wp2
    go_ret
    exact ⟨rfl, hb4'.trans (hb5.mono hb4'.size)⟩
end Go.Proofs.Ytpnfghchllipnaa
