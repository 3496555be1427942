/- What octet.Set answers. -/
import Derived.Test.YtifdfkkjmjabnabDoorBytes
import Derived.Test.YtifdfkkjmjabnabDoorCopy
namespace Go.Proofs.YtifdfkkjmjabnabDoor
open Go.RowKit
def setE (n : Nat) (p : Int) (v : Nat) (k : Int) : Nat := if nspanE n p k = 0 then bytesE v k else nspanE n p k
def setV (zs : List Nat) (p : Int) (v : Nat) (k : Int) : List Nat := if setE zs.length p v k = 0 then lay zs p.toNat (bytesV v k) else []
theorem setE_ok {n : Nat} {p : Int} {v : Nat} {k : Int} (h : setE n p v k = 0) : nspanE n p k = 0 ∧ bytesE v k = 0 := by
  unfold setE at h
  split at h
  · exact ⟨by assumption, h⟩
  · exact absurd h (by assumption)
theorem bytesV_length {v : Nat} {k : Int} (h : bytesE v k = 0) : (bytesV v k).length = k.toNat := by unfold bytesV; rw [if_pos h, bytesB_len]
theorem setV_len {zs : List Nat} {p : Int} {v : Nat} {k : Int} (h : setE zs.length p v k = 0) : (setV zs p v k).length = zs.length := by
  obtain ⟨h1, h2⟩ := setE_ok h
  obtain ⟨_, _, _, _⟩ := nspan_ok h1
  unfold setV
  rw [if_pos h, lay_len]
  rw [bytesV_length h2]; omega
set_option maxHeartbeats 2000000 in
theorem set_any (a : Option Addr) (n c : Nat) (zs : List Nat) (p : Int) (v : Nat) (k : Int) (w : World) (hs : Sl w a n c zs) (hn : n ≤ 140737488351232) (hv : v < 18446744073709551616) :
    Calls Tryd.prog 34 #[.slice a n c, .int .i64 p, .int .u64 (v : Nat), .int .i64 k] w fun e w' => ∃ a' c', e = .returned (.tuple #[.slice a' (setV zs p v k).length c', .int .i64 (setE n p v k : Nat)]) ∧ OwnB w' w.heap.size a' (setV zs p v k).length c' (setV zs p v k) ∧ Below w.heap.size w w' := by
  have hl := hs.len
  have hsm := hs.small
  by_cases h1 : nspanE n p k = 0
  · obtain ⟨hk1, hk8, hp0, hpk⟩ := nspan_ok h1
    have HN := (show Hid _ from h1)
    by_cases h2 : bytesE v k = 0
    · have HB := (show Hid _ from h2)
      have HE : Hid (setE n p v k = 0) := by show _ = _; unfold setE; rw [if_pos h1]; exact h2
      have HV : Hid (setV zs p v k = lay zs p.toNat (bytesV v k)) := by show _ = _; unfold setV; rw [hl, if_pos HE.out]
      have hlen := bytesV_length h2
      have HL : Hid ((setV zs p v k).length = n) := by show _ = _; rw [setV_len (by rw [hl]; exact HE.out), hl]
      clear h1 h2
      obtain ⟨p, rfl⟩ := Int.eq_ofNat_of_zero_le hp0
      obtain ⟨k, rfl⟩ := Int.eq_ofNat_of_zero_le (show 0 ≤ k by omega)
      rw [Int.toNat_natCast] at HV hlen
      have hpk' : p + k ≤ n := by omega
      have hk1' : 1 ≤ k := by omega
      have hk8' : k ≤ 8 := by omega
      go_enter Tryd.func34, Tryd.ntmps34
      go_wp2_with fail
      refine (nspan_any n p k _ hsm).mono ?_
      rintro e w1 ⟨rfl, rfl⟩
      rw [HN.out]
      go_wp2_with fail
      refine (bytes_any v k _ hv).mono ?_
      rintro e w2 ⟨a2, c2, rfl, ho2, hb2⟩
      rw [HB.out]
      rw [hlen] at *
      have hs2 := hs.below hb2
      go_wp2_with fail
      refine (clone_any _ _ _ zs _ hs2 hn).mono ?_
      rintro e w3 ⟨a3, c3, rfl, ho3, hg3, hb3⟩
      obtain ⟨g, rfl⟩ := hg3 (by omega)
      have hs3 := (ho2.below hb3).sl (by omega)
      have hb4 := hb2.trans (hb3.mono hb2.size)
      have hz2 := hb2.size
      have hc3 : n ≤ c3 := (ho3.sl (by omega)).cap
      have hpc : ¬ c3 = p := by omega
      have hpn : (p : Int) ≤ (n : Int) := by omega
      clear hs2 hb2 ho2
      generalize bytesV v k = ys at *
      obtain ⟨w4, hcp, ho4, hg4⟩ := copy_run w3 w2.heap.size g p (n - p) (c3 - p) n c3 (some ⟨g, p, none⟩) zs ho3 a2 k c2 ys hs3 (fun _ => rfl) (by omega) hpk'
      have hb5 : Below w1.heap.size w1 w4 := hb4.grown hg4 (by have := hb3.size; omega) (fun j hj => by injection hj with hj; subst hj; exact Nat.le_trans hz2 (ho3.own.lt g rfl).1)
      go_wp2
      go_ret2
      rw [HL.out, HV.out, HE.out]
      exact ⟨_, c3, rfl, ho4.base hz2, hb5⟩
    · have HE : Hid (setE n p v k = bytesE v k) := by show _ = _; unfold setE; rw [if_pos h1]
      have HV : Hid (setV zs p v k = []) := by show _ = _; unfold setV; rw [hl, if_neg (by rw [HE.out]; exact h2)]
      have hne : ((bytesE v k : Int) != 0) = true := by simp; omega
      clear h1 h2
      go_enter Tryd.func34, Tryd.ntmps34
      go_wp2_with fail
      refine (nspan_any n p k _ hsm).mono ?_
      rintro e w1 ⟨rfl, rfl⟩
      rw [HN.out]
      go_wp2_with fail
      refine (bytes_any v k _ hv).mono ?_
      rintro e w2 ⟨a2, c2, rfl, ho2, hb2⟩
      go_wp2
      go_ret2
      rw [HV.out, HE.out]
      exact ⟨none, 0, rfl, OwnB.nil _ _, hb2⟩
  · have HE : Hid (setE n p v k = nspanE n p k) := by show _ = _; unfold setE; rw [if_neg h1]
    have HV : Hid (setV zs p v k = []) := by show _ = _; unfold setV; rw [hl, if_neg (by rw [HE.out]; exact h1)]
    have hne : ((nspanE n p k : Int) != 0) = true := by simp; omega
    clear h1
    go_enter Tryd.func34, Tryd.ntmps34
    go_wp2_with fail
    refine (nspan_any n p k _ hsm).mono ?_
    rintro e w1 ⟨rfl, rfl⟩
    go_wp2
    go_ret2
    rw [HV.out, HE.out]
    exact ⟨none, 0, rfl, OwnB.nil _ _, Below.refl _ _⟩
end Go.Proofs.YtifdfkkjmjabnabDoor
