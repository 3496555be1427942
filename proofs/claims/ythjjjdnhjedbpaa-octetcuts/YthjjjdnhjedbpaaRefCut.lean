/- What the reference's Cut and Pad answer: the same. -/
import Derived.Test.YthjjjdnhjedbpaaCut
import Derived.Test.YthjjjdnhjedbpaaPad
namespace Go.Proofs.Ythjjjdnhjedbpaa
open Go.RowKit
set_option maxHeartbeats 2000000 in
theorem refcut_any (a : Option Addr) (n c : Nat) (zs : List Nat) (p k : Int) (w : World) (hs : Sl w a n c zs) (hn : n ≤ 140737488351232) :
    Calls Try.prog 17 #[.slice a n c, .int .i64 p, .int .i64 k] w fun e w' => ∃ a' c', e = .returned (.tuple #[.slice a' (cutV zs p k).length c', .int .i64 (spanE n p k : Nat)]) ∧ OwnB w' w.heap.size a' (cutV zs p k).length c' (cutV zs p k) ∧ Below w.heap.size w w' := by
  have hl := hs.len
  have hsm := hs.small
  have hcap := hs.cap
  have hroom := hs.room
  have ho : OwnB (w.alloc (.cells #[] 5)) w.heap.size (some ⟨w.heap.size, 0, none⟩) 0 0 [] := own_empty w
  by_cases h1 : spanE n p k = 0
  · obtain ⟨hk0, hp0, hpk⟩ := span_ok h1
    have HE := (show Hid _ from h1)
    have HV : Hid (cutV zs p k = (zs.drop p.toNat).take k.toNat) := by show _ = _; unfold cutV; rw [hl, if_pos h1]
    clear h1
    obtain ⟨p, rfl⟩ := Int.eq_ofNat_of_zero_le hp0
    obtain ⟨k, rfl⟩ := Int.eq_ofNat_of_zero_le hk0
    rw [Int.toNat_natCast, Int.toNat_natCast] at HV
    have hpk' : p + k ≤ n := by omega
    have hml : ((zs.drop p).take k).length = k := by simp; omega
    have hpkp : p + k - p = k := by omega
    have HL : Hid ((cutV zs p k).length = k) := by show _ = _; rw [HV.out, hml]
    by_cases hk : k = 0
    · subst hk
      have HV0 : Hid (cutV zs p (0 : Nat) = []) := by show _ = _; rw [HV.out]; simp
      cases a with
      | none =>
        have hc := hs.nz rfl
        subst hc
        obtain rfl : n = 0 := by omega
        obtain rfl : p = 0 := by omega
        have hsn : Sl (w.alloc (.cells #[] 5)) none 0 0 [] := SlK.nil _ _ _ (by omega)
        go_enter Try.func17, Try.ntmps17
        go_wp2_with (at_builtin; go_must (refine app_list rfl _ _ rfl w.heap.size _ 0 0 [] rfl ho _ 0 0 [] rfl hsn (by omega) (by simp) ?_))
        intro a3 c3 w3 ho3 hg3
        have hb3 : Below w.heap.size w w3 := ((Below.refl _ _).alloc (Nat.le_refl _) _).trans (ho.up hg3 (by simp))
        go_wp2
        go_ret2
        rw [HV0.out, HE.out]
        exact ⟨a3, c3, rfl, ho3, hb3⟩
      | some x =>
        by_cases hpc : c = p
        all_goals
          go_enter Try.func17, Try.ntmps17
          go_wp2_with (at_builtin; go_must (refine app_list rfl _ _ rfl w.heap.size _ 0 0 [] rfl ho _ 0 _ [] rfl (sl_zero _ _ _ (by omega)) (by omega) (by simp) ?_))
          intro a3 c3 w3 ho3 hg3
          have hb3 : Below w.heap.size w w3 := ((Below.refl _ _).alloc (Nat.le_refl _) _).trans (ho.up hg3 (by simp))
          go_wp2
          go_ret2
          rw [HV0.out, HE.out]
          exact ⟨a3, c3, rfl, ho3, hb3⟩
    · rcases hs.at_ with h0 | ⟨b, off, rfl, hlt, _⟩
      · omega
      have hmid := (sl_mid hs p k hpk' (by omega)).alloc (.cells #[] 5)
      have hpc : ¬ c = p := by omega
      rw [← HV.out] at hmid
      generalize cutV zs p k = ys at *
      have hmid2 : Sl (w.alloc (.cells #[] 5)) (some ⟨b, off + p, none⟩) (p + k - p) (c - p) ys := by rw [hpkp]; exact hmid
      clear hmid
      go_enter Try.func17, Try.ntmps17
      go_wp2_with (at_builtin; go_must (refine app_list rfl _ _ rfl w.heap.size _ 0 0 [] rfl ho _ (p + k - p) _ ys rfl hmid2 (by omega) (by simp) ?_))
      intro a3 c3 w3 ho3 hg3
      have hb3 : Below w.heap.size w w3 := ((Below.refl _ _).alloc (Nat.le_refl _) _).trans (ho.up hg3 (by simp))
      go_wp2
      go_ret2
      rw [HL.out, HE.out]
      exact ⟨a3, c3, rfl, ho3, hb3⟩
  · have HV : Hid (cutV zs p k = []) := by show _ = _; unfold cutV; rw [hl, if_neg h1]
    have HC : (Hid (spanE n p k = 2) ∧ (p < 0 ∨ (n : Int) < p ∨ k < 0)) ∨ (Hid (spanE n p k = 3) ∧ 0 ≤ k ∧ 0 ≤ p ∧ p ≤ n ∧ (n : Int) - p < k) := by
      unfold spanE at *
      by_cases h2 : p < 0 ∨ (n : Int) < p ∨ k < 0
      · rw [if_pos h2]; exact .inl ⟨rfl, h2⟩
      · rw [if_neg h2] at *
        by_cases h3 : (n : Int) - p < k
        · rw [if_pos h3]; exact .inr ⟨rfl, by omega⟩
        · rw [if_neg h3] at h1; exact absurd rfl h1
    clear h1
    rcases HC with ⟨HE, hc⟩ | ⟨HE, h2, h3, h4, h5⟩
    · have hcase : p < 0 ∨ (0 ≤ p ∧ (n : Int) < p) ∨ (0 ≤ p ∧ p ≤ n ∧ k < 0) := by omega
      clear hc
      rcases hcase with h2 | ⟨h2, h3⟩ | ⟨h2, h3, h4⟩
      all_goals
        go_enter Try.func17, Try.ntmps17
        go_wp2
        go_ret2
        rw [HV.out, HE.out]
        exact ⟨none, 0, rfl, OwnB.nil _ _, Below.refl _ _⟩
    · go_enter Try.func17, Try.ntmps17
      go_wp2
      go_ret2
      rw [HV.out, HE.out]
      exact ⟨none, 0, rfl, OwnB.nil _ _, Below.refl _ _⟩
theorem padN_step (n t j : Nat) (ht : 1 ≤ t) (h : (n + j) % t = 0) (hj : j ≤ padN n t) : j = padN n t := by
  have hr := Nat.mod_lt n ht
  unfold padN at *
  by_cases hz : n % t = 0
  · rw [if_pos hz] at *; omega
  · rw [if_neg hz] at *
    have e : n + j = t * (n / t) + (n % t + j) := by have := Nat.div_add_mod n t; omega
    rw [e, Nat.mul_add_mod] at h
    by_cases h2 : n % t + j < t
    · rw [Nat.mod_eq_of_lt h2] at h; omega
    · omega
def sliceLen : Value → Nat
  | .slice _ n _ => n
  | _ => 0
theorem padN_zero (n t : Nat) (ht : 1 ≤ t) : (n + padN n t) % t = 0 := by
  have hr := Nat.mod_lt n ht
  unfold padN
  split
  · rename_i hz; simpa using hz
  · have e : n + (t - n % t) = t * (n / t) + t := by have := Nat.div_add_mod n t; omega
    rw [e, Nat.mul_add_mod, Nat.mod_self]
set_option maxHeartbeats 2000000 in
theorem refpad_any (a : Option Addr) (n c : Nat) (zs : List Nat) (t : Int) (w : World) (hs : Sl w a n c zs) (hn : n ≤ 140737488351232) :
    Calls Try.prog 19 #[.slice a n c, .int .i64 t] w fun e w' => ∃ a' c', e = .returned (.tuple #[.slice a' (padV zs t).length c', .int .i64 (padE t : Nat)]) ∧ OwnB w' w.heap.size a' (padV zs t).length c' (padV zs t) ∧ Below w.heap.size w w' := by
  have hl := hs.len
  by_cases ht : t < 1 ∨ 64 < t
  · have HE : Hid (padE t = 2) := by show _ = _; unfold padE; rw [if_pos ht]
    have HV : Hid (padV zs t = []) := by show _ = _; unfold padV; rw [if_pos ht]
    have hcase : t < 1 ∨ (1 ≤ t ∧ 64 < t) := by omega
    clear ht
    rcases hcase with h1 | ⟨h1, h2⟩
    all_goals
      go_enter Try.func19, Try.ntmps19
      go_wp2
      go_ret2
      rw [HE.out, HV.out]
      exact ⟨none, 0, rfl, OwnB.nil _ _, Below.refl _ _⟩
  · have h1 : 1 ≤ t := by omega
    have h64 : t ≤ 64 := by omega
    have HE : Hid (padE t = 0) := by show _ = _; unfold padE; rw [if_neg ht]
    have HV : Hid (padV zs t = zs ++ List.replicate (padN n t.toNat) 0) := by show _ = _; unfold padV; rw [if_neg ht, hl]
    obtain ⟨t, rfl⟩ := Int.eq_ofNat_of_zero_le (show 0 ≤ t by omega)
    rw [Int.toNat_natCast] at HV
    have ht1 : 1 ≤ t := by omega
    have hpl := padN_lt n t ht1
    have HL : Hid ((padV zs t).length = n + padN n t) := by show _ = _; rw [HV.out]; simp [hl]
    have hpz := (show Hid _ from padN_zero n t ht1)
    clear ht
    have ho : OwnB (w.alloc (.cells #[] 5)) w.heap.size (some ⟨w.heap.size, 0, none⟩) 0 0 [] := own_empty w
    go_enter Try.func19, Try.ntmps19
    go_wp2_with (at_builtin; go_must (refine app_list rfl _ _ rfl w.heap.size _ 0 0 [] rfl ho _ n c zs rfl (hs.alloc _) (by omega) (by simp) ?_))
    intro a3 c3 w3 ho3 hg3
    have hb3 : Below w.heap.size w w3 := ((Below.refl _ _).alloc (Nat.le_refl _) _).trans (ho.up hg3 (by simp))
    clear ho hg3
    go_wp2
    all_goals
      go_loopw [6] (fun vo wr => ∃ (j : Nat) (a' : Option Addr) (c' : Nat), j ≤ padN n t ∧ vo = .slice a' (n + j) c' ∧ OwnB wr w.heap.size a' (n + j) c' (zs ++ List.replicate j 0) ∧ Below w.heap.size w wr) (fun vo _ => n + 64 - (sliceLen vo))
      case atStart => exact ⟨0, a3, c3, by omega, rfl, by simpa using ho3, hb3⟩
      case round =>
        obtain ⟨j, a4, c4, hj, rfl, hown, hbel⟩ := hrel
        have hsz := hbel.size
        have hmod : Int.tmod ((n : Int) + (j : Int)) (t : Int) = (((n + j) % t : Nat) : Int) := by
          rw [Int.tmod_eq_emod_of_nonneg (by omega)]; norm_cast
        have hti : (t : Int) ≠ 0 := by omega
        by_cases hz : (n + j) % t = 0
        · have hjp := padN_step n t j ht1 hz hj
          rw [hz] at hmod
          have HJ := (show Hid _ from hjp)
          clear hjp
          go_wp2
          go_ret2
          rw [HL.out, HE.out, HV.out, ← HJ.out]
          exact ⟨a4, c4, rfl, hown, hbel⟩
        · have hjl : j < padN n t := by
            rcases Nat.lt_or_ge j (padN n t) with h | h
            · exact h
            · have e : j = padN n t := by omega
              rw [e, hpz.out] at hz
              exact absurd rfl hz
          generalize (n + j) % t = r at *
          have hne : ((r : Int) != 0) = true := by simp; omega
          go_wp2_with (at_builtin; go_must (refine app_list rfl _ _ rfl w.heap.size _ (n + j) c4 (zs ++ List.replicate j 0) rfl (hown.alloc _) _ 1 1 [0] rfl (sl_new wr 5 (0, 0) [0] rfl (by decide) _ rfl) (by omega) (by simp; omega) ?_))
          intro a5 c5 w5 ho5 hg5
          have hb5 : Below w.heap.size w w5 := (hbel.alloc hsz _).trans ((hown.alloc _).up hg5 (by simp; omega))
          have HA : Hid (zs ++ (List.replicate j 0 ++ [0]) = zs ++ List.replicate (j + 1) 0) := by show _ = _; rw [← List.replicate_succ']
          rw [HA.out] at ho5
          go_wp2
          go_roundw
          case rel => exact ⟨j + 1, a5, c5, by omega, rfl, ho5, hb5⟩
          case measure => simp [sliceLen]; omega
end Go.Proofs.Ythjjjdnhjedbpaa
