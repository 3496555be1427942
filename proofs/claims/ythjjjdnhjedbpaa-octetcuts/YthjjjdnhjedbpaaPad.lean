/- What octet.Pad answers. -/
import Derived.Test.YthjjjdnhjedbpaaBytes
import Derived.Test.YthjjjdnhjedbpaaCopy
namespace Go.Proofs.Ythjjjdnhjedbpaa
open Go.RowKit
def padE (t : Int) : Nat := if t < 1 ∨ 64 < t then 2 else 0
/-- How many zeros are laid behind n bytes. -/
def padN (n t : Nat) : Nat := if n % t = 0 then 0 else t - n % t
def padV (zs : List Nat) (t : Int) : List Nat := if t < 1 ∨ 64 < t then [] else zs ++ List.replicate (padN zs.length t.toNat) 0
theorem padN_lt (n t : Nat) (h : 1 ≤ t) : padN n t < t := by
  unfold padN
  have := Nat.mod_lt n h
  split <;> omega
theorem lay_zero (zs : List Nat) (m : Nat) : lay (List.replicate (zs.length + m) 0) 0 zs = zs ++ List.replicate m 0 := by
  simp [lay]
set_option maxHeartbeats 2000000 in
theorem pad_any (a : Option Addr) (n c : Nat) (zs : List Nat) (t : Int) (w : World) (hs : Sl w a n c zs) (hn : n ≤ 140737488351232) :
    Calls Try.prog 18 #[.slice a n c, .int .i64 t] w fun e w' => ∃ a' c', e = .returned (.tuple #[.slice a' (padV zs t).length c', .int .i64 (padE t : Nat)]) ∧ OwnB w' w.heap.size a' (padV zs t).length c' (padV zs t) ∧ Below w.heap.size w w' := by
  have hl := hs.len
  by_cases ht : t < 1 ∨ 64 < t
  · have HE : Hid (padE t = 2) := by show _ = _; unfold padE; rw [if_pos ht]
    have HV : Hid (padV zs t = []) := by show _ = _; unfold padV; rw [if_pos ht]
    by_cases h1 : t < 1
    · clear ht
      go_enter Try.func18, Try.ntmps18
      go_wp2
      go_ret2
      rw [HE.out, HV.out]
      exact ⟨none, 0, rfl, OwnB.nil _ _, Below.refl _ _⟩
    · have h2 : 64 < t := by omega
      clear ht
      go_enter Try.func18, Try.ntmps18
      go_wp2
      go_ret2
      rw [HE.out, HV.out]
      exact ⟨none, 0, rfl, OwnB.nil _ _, Below.refl _ _⟩
  · have h1 : 1 ≤ t := by omega
    have h64 : t ≤ 64 := by omega
    have HE : Hid (padE t = 0) := by show _ = _; unfold padE; rw [if_neg ht]
    have HV : Hid (padV zs t = zs ++ List.replicate (padN n t.toNat) 0) := by show _ = _; unfold padV; rw [if_neg ht, hl]
    obtain ⟨t, rfl⟩ := Int.eq_ofNat_of_zero_le (show 0 ≤ t by omega)
    rw [Int.toNat_natCast] at HV
    have ht1 : 1 ≤ t := by omega
    have hpl := padN_lt n t ht1
    clear ht
    have hmod : Int.tmod (n : Int) (t : Int) = ((n % t : Nat) : Int) := by rw [Int.tmod_eq_emod_of_nonneg (by omega)]; norm_cast
    have hml := Nat.mod_lt n ht1
    by_cases hz : n % t = 0
    · have HV2 : Hid (padV zs t = zs) := by show _ = _; rw [HV.out]; unfold padN; rw [if_pos hz]; simp
      have HL : Hid ((padV zs t).length = n) := by show _ = _; rw [HV2.out, hl]
      have HZ : Hid (lay (List.replicate n 0) 0 zs = zs) := by
        show _ = _
        have := lay_zero zs 0
        rw [Nat.add_zero, hl] at this
        simpa using this
      rw [hz] at hmod
      have hs1 := hs.alloc (.cells (madeCells #[.int .u8 0] n) 5)
      have hmk := mkn n (by omega)
      obtain ⟨w4, hcp, ho4, hg4⟩ := copy_run _ w.heap.size w.heap.size 0 n n n n (some ⟨w.heap.size, 0, none⟩) _ (own_full w n (by omega)) a n c zs hs1 (fun _ => rfl) (by omega) (by omega)
      rw [HZ.out] at ho4
      have hb4 : Below w.heap.size w w4 := ((Below.refl _ _).alloc (Nat.le_refl _) _).grown hg4 (by simp) (fun j hj => by injection hj with hj; omega)
      clear hg4 hs1 hs
      go_enter Try.func18, Try.ntmps18
      go_wp2
      go_ret2
      rw [HL.out, HE.out, HV2.out]
      exact ⟨_, n, rfl, ho4, hb4⟩
    · obtain ⟨S, hS⟩ : ∃ S, S = n + padN n t := ⟨_, rfl⟩
      have hp0 : padN n t = t - n % t := by unfold padN; rw [if_neg hz]
      have HL : Hid ((padV zs t).length = S) := by show _ = _; rw [HV.out, hS]; simp [hl]
      have HZ : Hid (lay (List.replicate S 0) 0 zs = padV zs t) := by
        show _ = _
        have := lay_zero zs (padN n t)
        rw [hl, ← hS] at this
        rw [HV.out]; exact this
      have hz' : (((n % t : Nat) : Int) != 0) = true := by simp; omega
      have hsum : (n : Int) + ((t : Int) - ((n % t : Nat) : Int)) = (S : Int) := by rw [hS, hp0]; omega
      have hSb : S ≤ n + 64 := by omega
      have hSn : n ≤ S := by omega
      clear HV hS hp0 hpl hz
      generalize n % t = r at *
      have hs1 := hs.alloc (.cells (madeCells #[.int .u8 0] S) 5)
      have hmk := mkn S (by omega)
      obtain ⟨w4, hcp, ho4, hg4⟩ := copy_run _ w.heap.size w.heap.size 0 S S S S (some ⟨w.heap.size, 0, none⟩) _ (own_full w S (by omega)) a n c zs hs1 (fun _ => rfl) (by omega) (by omega)
      rw [HZ.out] at ho4
      have hb4 : Below w.heap.size w w4 := ((Below.refl _ _).alloc (Nat.le_refl _) _).grown hg4 (by simp) (fun j hj => by injection hj with hj; omega)
      clear hg4 hs1 hs HZ
      go_enter Try.func18, Try.ntmps18
      go_wp2
      go_ret2
      rw [HL.out, HE.out]
      exact ⟨_, S, rfl, ho4, hb4⟩
end Go.Proofs.Ythjjjdnhjedbpaa
