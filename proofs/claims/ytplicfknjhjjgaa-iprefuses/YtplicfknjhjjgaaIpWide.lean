/- bytes.Clone, octet.Set and ip.stamped of rows of up to 2^47 bytes. -/
import Derived.Test.YtplicfknjhjjgaaIpSm
namespace Go.Proofs.Ytplicfknjhjjgaa
open Go.RowKit
set_option maxRecDepth 100000 in
set_option maxHeartbeats 1000000 in
theorem clone_anyW (a : Option Addr) (n c : Nat) (zs : List Nat) (w : World) (hs : Sl w a n c zs) (hn : n ≤ 140737488355328) :
    Calls Try.prog 38 #[.slice a n c] w fun e w' => ∃ a' c', e = .returned (.slice a' n c') ∧ OwnB w' w.heap.size a' n c' zs ∧ (0 < n → ∃ g, a' = some ⟨g, 0, none⟩) ∧ Below w.heap.size w w' := by
  have hq := fun (a : Option Addr) (n c : Nat) (w : World) => Lib.run_eql_slice_nil (P := Try.prog) w 24 5 a n c 0 0 Try.underlying24
  cases a with
  | none =>
    have hc := hs.nz rfl
    have hn0 := hs.cap
    subst hc
    obtain rfl : n = 0 := by omega
    obtain rfl : zs = [] := List.eq_nil_of_length_eq_zero hs.len
    go_enter Try.func38, Try.ntmps38
    go_wp2
    go_ret
    exact ⟨none, 0, rfl, OwnB.nil _ _, fun h => by omega, Below.refl _ _⟩
  | some p =>
    have ho : OwnB (w.alloc (.cells #[] 5)) w.heap.size (some ⟨w.heap.size, 0, none⟩) 0 0 [] := own_empty w
    go_enter Try.func38, Try.ntmps38
    go_wp2_with (at_builtin; go_must (refine app_list rfl _ _ rfl w.heap.size _ 0 0 [] rfl ho _ n c zs rfl (hs.alloc _) (by omega) (by simp) ?_))
    intro a1 c1 w1 ho1 hg1
    have hb1 : Below w.heap.size w w1 := ((Below.refl _ _).alloc (Nat.le_refl _) _).trans (ho.up hg1 (by simp))
    go_wp2
    go_ret
    refine ⟨a1, c1, rfl, ho1, fun hpos => ?_, hb1⟩
    rcases ho1.own.2 with ⟨_, h0⟩ | ⟨g, cap, cur, hv, _⟩
    · omega
    · injection hv with e1
      exact ⟨g, e1⟩
set_option maxRecDepth 100000 in
set_option maxHeartbeats 2000000 in
theorem set_anyW (a : Option Addr) (n c : Nat) (zs : List Nat) (p : Int) (v : Nat) (k : Int) (w : World) (hs : Sl w a n c zs) (hn : n ≤ 140737488355328) (hv : v < 18446744073709551616) :
    Calls Try.prog 68 #[.slice a n c, .int .i64 p, .int .u64 (v : Nat), .int .i64 k] w fun e w' => ∃ a' c', e = .returned (.tuple #[.slice a' (setV zs p v k).length c', .int .i64 (setE n p v k : Nat)]) ∧ OwnB w' w.heap.size a' (setV zs p v k).length c' (setV zs p v k) ∧ Below w.heap.size w w' := by
  have hl := hs.len
  have hsm := hs.small
  by_cases h1 : nspanE n p k = 0
  · obtain ⟨hk1, hk8, hp0, hpk⟩ := nspan_ok h1
    have HN := (show Hid _ from h1)
    by_cases h2 : bytesE v k = 0
    · have HB := (show Hid _ from h2)
      have HE : Hid (setE n p v k = 0) := by show _ = _; unfold setE; rw [if_pos h1]; exact h2
      have HV : Hid (setV zs p v k = lay zs p.toNat (bytesV v k)) := by show _ = _; unfold setV; rw [hl, if_pos HE.out]
      have hlen := bytesV_length h2
      have HL : Hid ((setV zs p v k).length = n) := by show _ = _; rw [setV_len (by rw [hl]; exact HE.out), hl]
      clear h1 h2
      obtain ⟨p, rfl⟩ := Int.eq_ofNat_of_zero_le hp0
      obtain ⟨k, rfl⟩ := Int.eq_ofNat_of_zero_le (show 0 ≤ k by omega)
      rw [Int.toNat_natCast] at HV hlen
      have hpk' : p + k ≤ n := by omega
      have hk1' : 1 ≤ k := by omega
      have hk8' : k ≤ 8 := by omega
      go_enter Try.func68, Try.ntmps68
      go_wp2_with fail
      refine (nspan_any n p k _ hsm).mono ?_
      rintro e w1 ⟨rfl, rfl⟩
      rw [HN.out]
      go_wp2_with fail
      refine (bytes_any v k _ hv).mono ?_
      rintro e w2 ⟨a2, c2, rfl, ho2, hb2⟩
      rw [HB.out]
      rw [hlen] at *
      have hs2 := hs.below hb2
      go_wp2_with fail
      refine (clone_anyW _ _ _ zs _ hs2 hn).mono ?_
      rintro e w3 ⟨a3, c3, rfl, ho3, hg3, hb3⟩
      obtain ⟨g, rfl⟩ := hg3 (by omega)
      have hs3 := (ho2.below hb3).sl (by omega)
      have hb4 := hb2.trans (hb3.mono hb2.size)
      have hz2 := hb2.size
      have hc3 : n ≤ c3 := (ho3.sl (by omega)).cap
      have hpc : ¬ c3 = p := by omega
      have hpn : (p : Int) ≤ (n : Int) := by omega
      clear hs2 hb2 ho2
      generalize bytesV v k = ys at *
      obtain ⟨w4, hcp, ho4, hg4⟩ := copy_run w3 w2.heap.size g p (n - p) (c3 - p) n c3 (some ⟨g, p, none⟩) zs ho3 a2 k c2 ys hs3 (fun _ => rfl) (by omega) hpk'
      have hb5 : Below w1.heap.size w1 w4 := hb4.grown hg4 (by have := hb3.size; omega) (fun j hj => by injection hj with hj; subst hj; exact Nat.le_trans hz2 (ho3.own.lt g rfl).1)
      go_wp2
      go_ret2
      rw [HL.out, HV.out, HE.out]
      exact ⟨_, c3, rfl, ho4.base hz2, hb5⟩
    · have HE : Hid (setE n p v k = bytesE v k) := by show _ = _; unfold setE; rw [if_pos h1]
      have HV : Hid (setV zs p v k = []) := by show _ = _; unfold setV; rw [hl, if_neg (by rw [HE.out]; exact h2)]
      have hne : ((bytesE v k : Int) != 0) = true := by simp; omega
      clear h1 h2
      go_enter Try.func68, Try.ntmps68
      go_wp2_with fail
      refine (nspan_any n p k _ hsm).mono ?_
      rintro e w1 ⟨rfl, rfl⟩
      rw [HN.out]
      go_wp2_with fail
      refine (bytes_any v k _ hv).mono ?_
      rintro e w2 ⟨a2, c2, rfl, ho2, hb2⟩
      go_wp2
      go_ret2
      rw [HV.out, HE.out]
      exact ⟨none, 0, rfl, OwnB.nil _ _, hb2⟩
  · have HE : Hid (setE n p v k = nspanE n p k) := by show _ = _; unfold setE; rw [if_neg h1]
    have HV : Hid (setV zs p v k = []) := by show _ = _; unfold setV; rw [hl, if_neg (by rw [HE.out]; exact h1)]
    have hne : ((nspanE n p k : Int) != 0) = true := by simp; omega
    clear h1
    go_enter Try.func68, Try.ntmps68
    go_wp2_with fail
    refine (nspan_any n p k _ hsm).mono ?_
    rintro e w1 ⟨rfl, rfl⟩
    go_wp2
    go_ret2
    rw [HV.out, HE.out]
    exact ⟨none, 0, rfl, OwnB.nil _ _, Below.refl _ _⟩
set_option maxRecDepth 100000 in
set_option maxHeartbeats 1000000 in
theorem stamped_anyW (a : Option Addr) (n c : Nat) (zs : List Nat) (p : Nat) (w : World) (hs : Sl w a n c zs) (hn : n ≤ 140737488355328) :
    Calls Try.prog 48 #[.slice a n c, .int .i64 (p : Nat)] w fun e w' => ∃ a' c', e = .returned (.slice a' (setV zs (p : Int) (net zs) 2).length c') ∧ OwnB w' w.heap.size a' (setV zs (p : Int) (net zs) 2).length c' (setV zs (p : Int) (net zs) 2) ∧ Below w.heap.size w w' := by
  have hN := net_le zs
  have h1 := fun W (h : Sl W a n c zs) => net_any a n c zs W h
  have h2 := fun W (h : Sl W a n c zs) => set_anyW a n c zs (p : Int) (net zs) 2 W h hn (by omega)
  generalize net zs = N at *
  generalize setV zs (p : Int) N 2 = V at *
  obtain ⟨l, hl⟩ : ∃ l, l = V.length := ⟨_, rfl⟩
  rw [← hl] at h2 ⊢
  clear hl
  go_enter Try.func48, Try.ntmps48
  go_wp2_with fail
  refine (h1 w hs).mono ?_
  rintro e w1 ⟨rfl, b1⟩
  go_wp2_with fail
  refine (h2 w1 (hs.below b1)).mono ?_
  rintro e w2 ⟨a2, c2, rfl, o2, b2⟩
  go_wp2
  go_ret
  exact ⟨a2, c2, rfl, o2.base b1.size, b1.trans (b2.mono b1.size)⟩
end Go.Proofs.Ytplicfknjhjjgaa
