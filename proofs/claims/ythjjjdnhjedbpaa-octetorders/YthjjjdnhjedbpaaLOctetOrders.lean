/- Whatever two numbers, and how many bytes: the walk of trunklinelaw01.OctetOrders ends with true, and writes nothing that was there. -/
import Derived.Test.YthjjjdnhjedbpaaLiveO
namespace Go.Proofs.Ythjjjdnhjedbpaa
open Go.RowKit
theorem strOf_list (zs : List Nat) : (strOf zs).toList = zs.map UInt8.ofNat := by
  rw [ByteArray.toList_eq]; rfl
theorem less_bytes (v u k : Nat) : Op.bytesLess ((bytesB v k).map UInt8.ofNat) ((bytesB u k).map UInt8.ofNat) = decide (v % 256 ^ k < u % 256 ^ k) := by
  induction k with
  | zero => simp [bytesB, Op.bytesLess, Nat.mod_one]
  | succ k ih =>
    show Op.bytesLess (UInt8.ofNat (v / 256 ^ k % 256) :: (bytesB v k).map UInt8.ofNat) (UInt8.ofNat (u / 256 ^ k % 256) :: (bytesB u k).map UInt8.ofNat) = _
    unfold Op.bytesLess
    rw [ih, Nat.mod_pow_succ, Nat.mod_pow_succ]
    have h1 : v / 256 ^ k % 256 < 256 := Nat.mod_lt _ (by omega)
    have h2 : u / 256 ^ k % 256 < 256 := Nat.mod_lt _ (by omega)
    have h3 : v % 256 ^ k < 256 ^ k := Nat.mod_lt _ (Nat.pow_pos (by omega))
    have h4 : u % 256 ^ k < 256 ^ k := Nat.mod_lt _ (Nat.pow_pos (by omega))
    generalize v / 256 ^ k % 256 = d at *
    generalize u / 256 ^ k % 256 = f at *
    generalize v % 256 ^ k = m at *
    generalize u % 256 ^ k = l at *
    generalize 256 ^ k = P at *
    have e1 : (UInt8.ofNat d < UInt8.ofNat f) ↔ d < f := by
      rw [UInt8.lt_iff_toNat_lt, UInt8.toNat_ofNat', UInt8.toNat_ofNat']; omega
    have e2 : (UInt8.ofNat d = UInt8.ofNat f) ↔ d = f := by
      constructor
      · intro h
        have := congrArg UInt8.toNat h
        rw [UInt8.toNat_ofNat', UInt8.toNat_ofNat'] at this
        omega
      · rintro rfl; rfl
    rw [Bool.eq_iff_iff]
    simp only [Bool.or_eq_true, decide_eq_true_eq, Bool.and_eq_true, beq_iff_eq, e1, e2]
    constructor
    · rintro (h | ⟨rfl, h⟩)
      · have : P * (d + 1) ≤ P * f := Nat.mul_le_mul_left _ h
        rw [Nat.mul_add] at this
        omega
      · omega
    · intro h
      rcases Nat.lt_trichotomy d f with h5 | h5 | h5
      · exact .inl h5
      · subst h5; exact .inr ⟨rfl, by omega⟩
      · have : P * (f + 1) ≤ P * d := Nat.mul_le_mul_left _ h5
        rw [Nat.mul_add] at this
        omega
theorem less_bytesV {v u : Nat} {k : Int} (hv : bytesE v k = 0) (hu : bytesE u k = 0) : Op.bytesLess (strOf (bytesV v k)).toList (strOf (bytesV u k)).toList = decide ((v : Int) < (u : Int)) := by
  obtain ⟨_, _, h3⟩ := bytesE_ok hv
  obtain ⟨_, _, h4⟩ := bytesE_ok hu
  unfold bytesV
  rw [if_pos hv, if_pos hu, strOf_list, strOf_list, less_bytes, Nat.mod_eq_of_lt h3, Nat.mod_eq_of_lt h4, Bool.eq_iff_iff]
  simp
theorem bytesV_none {v : Nat} {k : Int} (h : ¬ bytesE v k = 0) : bytesV v k = [] := by unfold bytesV; rw [if_neg h]
set_option maxHeartbeats 1000000 in
theorem walk_OctetOrders (v u : Nat) (k : Int) (w : World) (hv : v < 18446744073709551616) (hu : u < 18446744073709551616) (_hk : (Lit.int .i64 k).wf = true) :
    Calls Try.prog 7 #[.int .u64 (v : Nat), .int .u64 (u : Nat), .int .i64 k] w fun e w' => e = .returned (.bool true) ∧ Below w.heap.size w w' := by
  have hlen := bytesV_len v k
  have hlen2 := bytesV_len u k
  by_cases he : bytesE v k = 0 ∧ bytesE u k = 0
  · obtain ⟨he1, he2⟩ := he
    have HL := less_bytesV he1 he2
    have H1 := (show Hid _ from he1)
    have H2 := (show Hid _ from he2)
    clear he1 he2
    go_enter Try.func7, Try.ntmps7
    go_wp2_with fail
    refine (bytes_any v k _ hv).mono ?_
    rintro e w1 ⟨a1, c1, rfl, ho1, hb1⟩
    rw [H1.out]
    go_wp2_with fail
    refine (bytes_any u k _ hu).mono ?_
    rintro e w2 ⟨a2, c2, rfl, ho2, hb2⟩
    rw [H2.out]
    have ho3 := ho1.below hb2
    have hb3 := hb1.trans (hb2.mono hb1.size)
    clear ho1 hb1 hb2
    go_wp2_with fail
    refine (live_any _).mono ?_
    rintro e w4 ⟨rfl, hb4⟩
    have hc1 := conv_str ((ho3.below hb4).sl (by omega))
    have hc2 := conv_str ((ho2.below hb4).sl (by omega))
    clear ho2 ho3
    generalize bytesV v k = ys at *
    generalize bytesV u k = xs at *
    go_wp2
    all_goals
      go_ret
      exact ⟨rfl, hb3.trans (hb4.mono hb3.size)⟩
  · have hne : ((bytesE v k : Int) != 0) = true ∨ (((bytesE v k : Int) != 0) = false ∧ ((bytesE u k : Int) != 0) = true) := by
      by_cases h1 : bytesE v k = 0
      · have h2 : ¬ bytesE u k = 0 := fun h2 => he ⟨h1, h2⟩
        exact .inr ⟨by simp; omega, by simp; omega⟩
      · exact .inl (by simp; omega)
    have hsum : (bytesV v k).length + (bytesV u k).length ≤ 8 := by
      by_cases h1 : bytesE v k = 0
      · have h2 : ¬ bytesE u k = 0 := fun h2 => he ⟨h1, h2⟩
        rw [bytesV_none h2]; simpa using hlen
      · rw [bytesV_none h1]; simpa using hlen2
    clear he
    rcases hne with hne | ⟨hne, hne2⟩
    all_goals
      go_enter Try.func7, Try.ntmps7
      go_wp2_with fail
      refine (bytes_any v k _ hv).mono ?_
      rintro e w1 ⟨a1, c1, rfl, ho1, hb1⟩
      go_wp2_with fail
      refine (bytes_any u k _ hu).mono ?_
      rintro e w2 ⟨a2, c2, rfl, ho2, hb2⟩
      have hb3 := hb1.trans (hb2.mono hb1.size)
      generalize bytesV v k = ys at *
      generalize bytesV u k = xs at *
      have hdec : decide ((ys.length : Int) + (xs.length : Int) ≤ 8) = true := by simp; omega
      go_wp2_with fail
      refine (live_any _).mono ?_
      rintro e w4 ⟨rfl, hb4⟩
      go_wp2
      go_ret
      exact ⟨rfl, hb3.trans (hb4.mono hb3.size)⟩
end Go.Proofs.Ythjjjdnhjedbpaa
