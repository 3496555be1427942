/- What the reference's Ahead answers. -/
import Derived.Test.YtlgpabdadnfbeaaRef3
namespace Go.Proofs.Ytlgpabdadnfbeaa
open Go.RowKit
set_option maxHeartbeats 1000000 in
theorem rahead_any (b : Int) (x y : Nat) (hx : x < 4294967296) (hy : y < 4294967296) (w : World) :
    Calls Try.prog 18 #[.int .i64 b, .int .u32 x, .int .u32 y] w fun e w' => e = .returned (.tuple #[.int .i64 (aheadR b x y), .int .i64 (chkE b [x, y] : Nat)]) ∧ Below w.heap.size w w' := by
  by_cases he : chkE b [x, y] = 0
  · have HR : Hid (aheadR b x y = aheadV (rnd b) x y) := by show _ = _; unfold aheadR; rw [if_pos he]
    obtain ⟨hb, hz⟩ := chkE_ok he
    have hxb := hz x (by simp)
    have hck := fun w => (fun W hs => rcheck_any b _ 2 2 [x, y] W hs) (w.alloc (.cells #[.int .u32 x, .int .u32 y] 22)) (u32_two w 22 x y hx hy)
    rw [he] at hck
    have hq := fun w => rest_any b ((y : Int) - x) w
    rw [up_ref (rnd b) x y hxb] at hq
    have hro := fun w => round_any b w
    have hlt := upV_lt (rnd b) x y (rnd_pos b)
    have hr := rnd_le b
    have hr2 : 2 ∣ rnd b := by rcases rnd_two b with h | h <;> rw [h] <;> decide
    have HE := (show Hid _ from he)
    have HV : Hid (aheadV (rnd b) x y = if rnd b ≤ 2 * upV (rnd b) x y then (upV (rnd b) x y : Int) - rnd b else upV (rnd b) x y) := rfl
    clear he hz hb hxb
    generalize aheadR b x y = r at *
    generalize aheadV (rnd b) x y = r2 at *
    generalize upV (rnd b) x y = u at *
    generalize rnd b = M at *
    by_cases hc : M ≤ 2 * u
    · have hc2 : (M : Int) / 2 ≤ (u : Int) := by omega
      have HV2 : Hid (r2 = (u : Int) - M) := by show _ = _; rw [HV.out, if_pos hc]
      clear HV
      go_enter Try.func18, Try.ntmps18
      go_wp2_with (first | (go_at_call 34; refine (hck _).mono ?_; rintro e w' ⟨rfl, q, hw'⟩; subst w') | (go_at_call 35; refine (hq _).mono ?_; rintro e w' ⟨rfl, hw'⟩; subst w') | (go_at_call 36; refine (hro _).mono ?_; rintro e w' ⟨rfl, hw'⟩; subst w'))
      go_ret2
      refine ⟨?_, ((Below.refl _ _).alloc (Nat.le_refl _) _).trans ((drewN_below _ _).mono (by simp))⟩
      rw [HE.out, HR.out, HV2.out]
      exact ret_two rfl rfl
    · have hc2 : ¬ (M : Int) / 2 ≤ (u : Int) := by omega
      have HV2 : Hid (r2 = (u : Int)) := by show _ = _; rw [HV.out, if_neg hc]
      clear HV
      go_enter Try.func18, Try.ntmps18
      go_wp2_with (first | (go_at_call 34; refine (hck _).mono ?_; rintro e w' ⟨rfl, q, hw'⟩; subst w') | (go_at_call 35; refine (hq _).mono ?_; rintro e w' ⟨rfl, hw'⟩; subst w') | (go_at_call 36; refine (hro _).mono ?_; rintro e w' ⟨rfl, hw'⟩; subst w'))
      go_ret2
      refine ⟨?_, ((Below.refl _ _).alloc (Nat.le_refl _) _).trans ((drewN_below _ _).mono (by simp))⟩
      rw [HE.out, HR.out, HV2.out]
      exact ret_two rfl rfl
  · have HR : Hid (aheadR b x y = 0) := by show _ = _; unfold aheadR; rw [if_neg he]
    have hck := fun w => (fun W hs => rcheck_any b _ 2 2 [x, y] W hs) (w.alloc (.cells #[.int .u32 x, .int .u32 y] 22)) (u32_two w 22 x y hx hy)
    have hne : ((chkE b [x, y] : Int) == 0) = false := by simp; omega
    generalize chkE b [x, y] = q at *
    go_enter Try.func18, Try.ntmps18
    go_wp2_with (go_at_call 34; refine (hck _).mono ?_; rintro e w' ⟨rfl, q, hw'⟩; subst w')
    go_ret2
    exact ⟨by rw [HR.out]; rfl, ((Below.refl _ _).alloc (Nat.le_refl _) _).trans ((drewN_below _ _).mono (by simp))⟩
end Go.Proofs.Ytlgpabdadnfbeaa
