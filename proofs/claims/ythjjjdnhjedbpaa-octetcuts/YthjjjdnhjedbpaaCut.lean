/- What octet.Cut answers. -/
import Derived.Test.YthjjjdnhjedbpaaSpan
import Derived.Test.YthjjjdnhjedbpaaCopy
namespace Go.Proofs.Ythjjjdnhjedbpaa
open Go.RowKit
def cutV (zs : List Nat) (p k : Int) : List Nat := if spanE zs.length p k = 0 then (zs.drop p.toNat).take k.toNat else []
theorem sl_mid {w : World} {b off n c : Nat} {zs : List Nat} (hs : Sl w (some ⟨b, off, none⟩) n c zs) (p k : Nat) (h : p + k ≤ n) (hk : 0 < k) : Sl w (some ⟨b, off + p, none⟩) k (c - p) ((zs.drop p).take k) := by
  have hlt := hs.lt b off (by omega) rfl
  obtain ⟨hl, hcap, hroom, hsm, hnz, hb, hat⟩ := hs
  refine ⟨by simp; omega, by omega, by omega, by omega, (fun h => by cases h), mid_bnd zs p k hb, .inr ⟨b, off + p, rfl, hlt, fun i hi => ?_⟩⟩
  rcases hat with h0 | ⟨b', off', e, _, hcell⟩
  · omega
  · injection e with e
    injection e with e1 e2
    subst e1 e2
    rw [mid_getD zs p k i hi, Nat.add_assoc]
    exact hcell (p + i) (by omega)
theorem sl_zero (w : World) (x : Addr) (c : Nat) (hc : c ≤ maxLen) : Sl w (some x) 0 c [] :=
  ⟨rfl, Nat.zero_le _, hc, by omega, (fun h => by cases h), fun i => by simp, .inl rfl⟩
set_option maxHeartbeats 2000000 in
theorem cut_any (a : Option Addr) (n c : Nat) (zs : List Nat) (p k : Int) (w : World) (hs : Sl w a n c zs) (hn : n ≤ 140737488351232) :
    Calls Try.prog 16 #[.slice a n c, .int .i64 p, .int .i64 k] w fun e w' => ∃ a' c', e = .returned (.tuple #[.slice a' (cutV zs p k).length c', .int .i64 (spanE n p k : Nat)]) ∧ OwnB w' w.heap.size a' (cutV zs p k).length c' (cutV zs p k) ∧ Below w.heap.size w w' := by
  have hl := hs.len
  have hsm := hs.small
  have hcap := hs.cap
  have hroom := hs.room
  by_cases h1 : spanE n p k = 0
  · obtain ⟨hk0, hp0, hpk⟩ := span_ok h1
    have HE := (show Hid _ from h1)
    have HV : Hid (cutV zs p k = (zs.drop p.toNat).take k.toNat) := by show _ = _; unfold cutV; rw [hl, if_pos h1]
    clear h1
    obtain ⟨p, rfl⟩ := Int.eq_ofNat_of_zero_le hp0
    obtain ⟨k, rfl⟩ := Int.eq_ofNat_of_zero_le hk0
    rw [Int.toNat_natCast, Int.toNat_natCast] at HV
    have hpk' : p + k ≤ n := by omega
    have hml : ((zs.drop p).take k).length = k := by simp; omega
    have hpkp : p + k - p = k := by omega
    have HL : Hid ((cutV zs p k).length = k) := by show _ = _; rw [HV.out, hml]
    by_cases hk : k = 0
    · subst hk
      have HV0 : Hid (cutV zs p (0 : Nat) = []) := by show _ = _; rw [HV.out]; simp
      cases a with
      | none =>
        have hc := hs.nz rfl
        subst hc
        obtain rfl : n = 0 := by omega
        obtain rfl : p = 0 := by omega
        go_enter Try.func16, Try.ntmps16
        go_wp2_with fail
        refine (span_any 0 0 0 _ (by omega)).mono ?_
        rintro e w1 ⟨rfl, rfl⟩
        have e0 : spanE 0 0 0 = 0 := by decide
        rw [e0]
        go_wp2_with fail
        refine (clone_any none 0 0 [] _ (SlK.nil _ _ _ (by omega)) (by omega)).mono ?_
        rintro e w2 ⟨a2, c2, rfl, ho2, _, hb2⟩
        go_wp2
        go_ret2
        rw [HV0.out, HE.out]
        exact ⟨a2, c2, rfl, ho2, hb2⟩
      | some x =>
        by_cases hpc : c = p
        · go_enter Try.func16, Try.ntmps16
          go_wp2_with fail
          refine (span_any n p (0 : Nat) _ hsm).mono ?_
          rintro e w1 ⟨rfl, rfl⟩
          rw [HE.out]
          go_wp2_with fail
          refine (clone_any _ 0 _ [] _ (sl_zero _ _ _ (by omega)) (by omega)).mono ?_
          rintro e w2 ⟨a2, c2, rfl, ho2, _, hb2⟩
          go_wp2
          go_ret2
          rw [HV0.out, HE.out]
          exact ⟨a2, c2, rfl, ho2, hb2⟩
        · go_enter Try.func16, Try.ntmps16
          go_wp2_with fail
          refine (span_any n p (0 : Nat) _ hsm).mono ?_
          rintro e w1 ⟨rfl, rfl⟩
          rw [HE.out]
          go_wp2_with fail
          refine (clone_any _ 0 _ [] _ (sl_zero _ _ _ (by omega)) (by omega)).mono ?_
          rintro e w2 ⟨a2, c2, rfl, ho2, _, hb2⟩
          go_wp2
          go_ret2
          rw [HV0.out, HE.out]
          exact ⟨a2, c2, rfl, ho2, hb2⟩
    · rcases hs.at_ with h0 | ⟨b, off, rfl, hlt, _⟩
      · omega
      have hmid := sl_mid hs p k hpk' (by omega)
      have hpc : ¬ c = p := by omega
      rw [← HV.out] at hmid
      generalize cutV zs p k = ys at *
      go_enter Try.func16, Try.ntmps16
      go_wp2_with fail
      refine (span_any n p k _ hsm).mono ?_
      rintro e w1 ⟨rfl, rfl⟩
      rw [HE.out]
      go_wp2_with fail
      refine (clone_any _ k _ ys _ hmid (by omega)).mono ?_
      rintro e w2 ⟨a2, c2, rfl, ho2, _, hb2⟩
      go_wp2
      go_ret2
      rw [HL.out, HE.out]
      exact ⟨a2, c2, rfl, ho2, hb2⟩
  · have HV : Hid (cutV zs p k = []) := by show _ = _; unfold cutV; rw [hl, if_neg h1]
    have hne : ((spanE n p k : Int) != 0) = true := by simp; omega
    clear h1
    go_enter Try.func16, Try.ntmps16
    go_wp2_with fail
    refine (span_any n p k _ hsm).mono ?_
    rintro e w1 ⟨rfl, rfl⟩
    go_wp2
    go_ret2
    rw [HV.out]
    exact ⟨none, 0, rfl, OwnB.nil _ _, Below.refl _ _⟩
end Go.Proofs.Ythjjjdnhjedbpaa
