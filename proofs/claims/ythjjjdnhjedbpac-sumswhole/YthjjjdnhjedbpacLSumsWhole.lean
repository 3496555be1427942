/- Whatever bytes: the walk of trunklinelaw02.SumsWhole ends with true, and writes nothing that was there. -/
import Derived.Test.YthjjjdnhjedbpacLive
import Derived.Test.YthjjjdnhjedbpacOwn
namespace Go.Proofs.Ythjjjdnhjedbpac
open Go.RowKit
set_option maxHeartbeats 1000000 in
theorem walk_SumsWhole (a : Option Addr) (n c : Nat) (zs : List Nat) (w : World) (hl0 : Sl w a n c zs ∧ c * 1 ≤ 140737488351232) :
    Calls Try.prog 7 #[.slice a n c] w fun e w' => e = .returned (.bool true) ∧ Below w.heap.size w w' := by
  obtain ⟨hl, hcb⟩ := hl0
  have hn : n ≤ 140737488351232 := by have := hl.cap; omega
  clear hcb
  have ho : OwnB (w.alloc (.cells #[] 5)) w.heap.size (some ⟨w.heap.size, 0, none⟩) 0 0 [] := own_empty w
  by_cases hpar : n % 2 = 1
  · go_enter Try.func7, Try.ntmps7
    go_wp2_with (at_builtin; go_must (refine app_list rfl _ _ rfl w.heap.size _ 0 0 [] rfl ho _ n c zs rfl (hl.below ((Below.refl _ _).alloc (Nat.le_refl _) _)) (by omega) (by simp) ?_))
    intro a1 c1 w1 ho1 hg1
    have hb1 : Below w.heap.size w w1 := ((Below.refl _ _).alloc (Nat.le_refl _) _).trans (ho.up hg1 (by simp))
    clear hg1 ho
    have hp2 : ((n : Int) % 2 == 1) = true := by simp; omega
    go_wp2_with (at_builtin; go_must (refine app_list rfl _ _ rfl w.heap.size _ n c1 zs rfl (ho1.alloc _) _ 1 1 [0] rfl (sl_new w1 5 (0, 0) [0] rfl (by decide) _ rfl) (by omega) (by have := hb1.size; simp; omega) ?_))
    intro a2 c2 w2 ho2 hg2
    have hb2 : Below w.heap.size w w2 := (hb1.alloc (by have := hb1.size; omega) _).trans ((ho1.alloc _).up hg2 (by have := hb1.size; simp; omega))
    have HN : Hid (net (zs ++ [0]) = net zs) := net_pad zs
    have HP : Hid ((zs ++ [0]).length % 2 = 0) := by show _ = _; simp [hl.len]; omega
    clear hg2 hb1 ho1
    generalize zs ++ [0] = zs2 at *
    go_wp2_with fail
    refine (net_any _ _ _ zs2 _ (ho2.sl (by omega))).mono ?_
    rintro e w3 ⟨rfl, hb3⟩
    have ho3 := ho2.below hb3
    have hb4 := hb2.trans (hb3.mono (by have := hb2.size; omega))
    clear ho2 hb2 hb3
    go_wp2_with fail
    refine (live_any _).mono ?_
    rintro e w4 ⟨rfl, hb5⟩
    have ho4 := ho3.below hb5
    have hb6 := hb4.trans (hb5.mono (by have := hb4.size; omega))
    clear ho3 hb4 hb5
    have hle := net_le zs2
    have H0 : Hid (net (zs2 ++ [net zs2 / 256, net zs2 % 256]) = 0) := net_own zs2 HP.out
    go_wp2_with (at_builtin; go_must (refine app_list rfl _ _ rfl w.heap.size _ _ c2 zs2 rfl (ho4.alloc _) _ 2 2 [net zs2 / 256, net zs2 % 256] rfl (sl_two w4 5 _ _ _ _ (by omega) (by omega) (by omega) (by omega)) (by omega) (by have := hb6.size; simp; omega) ?_))
    intro a5 c5 w5 ho5 hg5
    have hb7 : Below w.heap.size w w5 := (hb6.alloc (by have := hb6.size; omega) _).trans ((ho4.alloc _).up hg5 (by have := hb6.size; simp; omega))
    clear ho4 hg5 hb6
    generalize zs2 ++ [net zs2 / 256, net zs2 % 256] = zs3 at *
    go_wp2_with fail
    refine (net_any _ _ _ zs3 _ (ho5.sl (by omega))).mono ?_
    rintro e w6 ⟨rfl, hb8⟩
    rw [H0.out]
    have hb9 := hb7.trans (hb8.mono (by have := hb7.size; omega))
    have hl9 := hl.below hb9
    clear hb7 hb8 ho5
    go_wp2_with fail
    refine (net_any _ _ _ zs _ hl9).mono ?_
    rintro e w7 ⟨rfl, hb10⟩
    rw [← HN.out]
    go_wp2
    go_ret
    exact ⟨rfl, hb9.trans (hb10.mono (by have := hb9.size; omega))⟩
  · go_enter Try.func7, Try.ntmps7
    go_wp2_with (at_builtin; go_must (refine app_list rfl _ _ rfl w.heap.size _ 0 0 [] rfl ho _ n c zs rfl (hl.below ((Below.refl _ _).alloc (Nat.le_refl _) _)) (by omega) (by simp) ?_))
    intro a2 c2 w2 ho2 hg1
    have hb2 : Below w.heap.size w w2 := ((Below.refl _ _).alloc (Nat.le_refl _) _).trans (ho.up hg1 (by simp))
    clear hg1 ho
    have hp2 : ((n : Int) % 2 == 1) = false := by simp; omega
    obtain ⟨zs2, HE⟩ : ∃ zs2, Hid (zs2 = zs) := ⟨zs, rfl⟩
    have HN : Hid (net zs2 = net zs) := by rw [HE.out]; rfl
    have HP : Hid (zs2.length % 2 = 0) := by show _ = _; rw [HE.out, hl.len]; omega
    rw [← HE.out] at ho2
    go_wp2_with fail
    refine (net_any _ _ _ zs2 _ (ho2.sl (by omega))).mono ?_
    rintro e w3 ⟨rfl, hb3⟩
    have ho3 := ho2.below hb3
    have hb4 := hb2.trans (hb3.mono (by have := hb2.size; omega))
    clear ho2 hb2 hb3
    go_wp2_with fail
    refine (live_any _).mono ?_
    rintro e w4 ⟨rfl, hb5⟩
    have ho4 := ho3.below hb5
    have hb6 := hb4.trans (hb5.mono (by have := hb4.size; omega))
    clear ho3 hb4 hb5
    have hle := net_le zs2
    have H0 : Hid (net (zs2 ++ [net zs2 / 256, net zs2 % 256]) = 0) := net_own zs2 HP.out
    go_wp2_with (at_builtin; go_must (refine app_list rfl _ _ rfl w.heap.size _ _ c2 zs2 rfl (ho4.alloc _) _ 2 2 [net zs2 / 256, net zs2 % 256] rfl (sl_two w4 5 _ _ _ _ (by omega) (by omega) (by omega) (by omega)) (by omega) (by have := hb6.size; simp; omega) ?_))
    intro a5 c5 w5 ho5 hg5
    have hb7 : Below w.heap.size w w5 := (hb6.alloc (by have := hb6.size; omega) _).trans ((ho4.alloc _).up hg5 (by have := hb6.size; simp; omega))
    clear ho4 hg5 hb6
    generalize zs2 ++ [net zs2 / 256, net zs2 % 256] = zs3 at *
    go_wp2_with fail
    refine (net_any _ _ _ zs3 _ (ho5.sl (by omega))).mono ?_
    rintro e w6 ⟨rfl, hb8⟩
    rw [H0.out]
    have hb9 := hb7.trans (hb8.mono (by have := hb7.size; omega))
    have hl9 := hl.below hb9
    clear hb7 hb8 ho5
    go_wp2_with fail
    refine (net_any _ _ _ zs _ hl9).mono ?_
    rintro e w7 ⟨rfl, hb10⟩
    rw [← HN.out]
    go_wp2
    go_ret
    exact ⟨rfl, hb9.trans (hb10.mono (by have := hb9.size; omega))⟩
end Go.Proofs.Ythjjjdnhjedbpac
