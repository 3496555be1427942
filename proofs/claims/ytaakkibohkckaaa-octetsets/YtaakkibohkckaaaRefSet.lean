/- What the reference's Set answers: the same. -/
import Derived.Test.YtaakkibohkckaaaSet
import Derived.Test.YtaakkibohkckaaaRefBytes
import Derived.Test.YtaakkibohkckaaaRefNum
namespace Go.Proofs.Ytaakkibohkckaaa
open Go.RowKit
theorem lay_step (zs ys : List Nat) (p j : Nat) (hj : j < ys.length) (hp : p + ys.length ≤ zs.length) : (lay zs p (ys.take j)).set (p + j) (ys.getD j 0) = lay zs p (ys.take (j + 1)) := by
  have h1 : p + (ys.take j).length ≤ zs.length := by simp; omega
  have h2 : p + (ys.take (j + 1)).length ≤ zs.length := by simp; omega
  have l1 := lay_len zs p (ys.take j) h1
  have l2 := lay_len zs p (ys.take (j + 1)) h2
  apply List.ext_getElem (by simp [l1, l2])
  intro i hi1 hi2
  have e1 : ∀ (l : List Nat) (i : Nat) (h : i < l.length), l[i] = l.getD i 0 := by intro l i h; simp [List.getD_eq_getElem?_getD, h]
  rw [e1, e1, lay_getD zs p _ h2]
  have e3 : ((lay zs p (ys.take j)).set (p + j) (ys.getD j 0)).getD i 0 = if i = p + j then ys.getD j 0 else (lay zs p (ys.take j)).getD i 0 := by
    simp only [List.getD_eq_getElem?_getD, List.getElem?_set]
    by_cases h : i = p + j
    · subst h; rw [if_pos rfl, if_pos rfl, if_pos (by rw [l1]; omega)]; rfl
    · rw [if_neg (fun e => h e.symm), if_neg h]
  rw [e3, lay_getD zs p _ h1]
  have tk : ∀ m q, q < m → (ys.take m).getD q 0 = ys.getD q 0 := by intro m q h; simp [List.getD_eq_getElem?_getD, h]
  simp only [List.length_take, Nat.min_eq_left (show j ≤ ys.length by omega), Nat.min_eq_left (show j + 1 ≤ ys.length by omega)]
  by_cases h : i = p + j
  · subst h
    rw [if_pos rfl, if_pos (by omega), show p + j - p = j from by omega, tk (j + 1) j (by omega)]
  · rw [if_neg h]
    by_cases h3 : p ≤ i ∧ i < p + j
    · rw [if_pos h3, if_pos (by omega), tk j (i - p) (by omega), tk (j + 1) (i - p) (by omega)]
    · rw [if_neg h3, if_neg (by omega)]
set_option maxHeartbeats 2000000 in
theorem refset_any (a : Option Addr) (n c : Nat) (zs : List Nat) (p : Int) (v : Nat) (k : Int) (w : World) (hs : Sl w a n c zs) (hn : n ≤ 140737488351232) (hv : v < 18446744073709551616) :
    Calls Try.prog 7 #[.slice a n c, .int .i64 p, .int .u64 (v : Nat), .int .i64 k] w fun e w' => ∃ a' c', e = .returned (.tuple #[.slice a' (setV zs p v k).length c', .int .i64 (setE n p v k : Nat)]) ∧ OwnB w' w.heap.size a' (setV zs p v k).length c' (setV zs p v k) ∧ Below w.heap.size w w' := by
  have hl := hs.len
  have hsm := hs.small
  by_cases h1 : nspanE n p k = 0
  · obtain ⟨hk1, hk8, hp0, hpk⟩ := nspan_ok h1
    have HN := (show Hid _ from h1)
    by_cases h2 : bytesE v k = 0
    · have HB := (show Hid _ from h2)
      have HE : Hid (setE n p v k = 0) := by show _ = _; unfold setE; rw [if_pos h1]; exact h2
      have HV : Hid (setV zs p v k = lay zs p.toNat (bytesV v k)) := by show _ = _; unfold setV; rw [hl, if_pos HE.out]
      have hlen := bytesV_length h2
      have HL : Hid ((setV zs p v k).length = n) := by show _ = _; rw [setV_len (by rw [hl]; exact HE.out), hl]
      clear h1 h2
      obtain ⟨p, rfl⟩ := Int.eq_ofNat_of_zero_le hp0
      obtain ⟨k, rfl⟩ := Int.eq_ofNat_of_zero_le (show 0 ≤ k by omega)
      rw [Int.toNat_natCast] at HV hlen
      have hpk' : p + k ≤ n := by omega
      have hk1' : 1 ≤ k := by omega
      have hk8' : k ≤ 8 := by omega
      go_enter Try.func7, Try.ntmps7
      go_wp2_with fail
      refine (refnum_any _ _ _ zs p k _ hs).mono ?_
      rintro e w1 ⟨rfl, rfl⟩
      rw [HN.out]
      go_wp2_with fail
      refine (refbytes_any v k _ hv).mono ?_
      rintro e w2 ⟨a2, c2, rfl, ho2, hb2⟩
      rw [HB.out]
      rw [hlen] at ho2
      rw [hlen]
      have hlen' := (show Hid _ from hlen)
      clear hlen
      have hs2 := hs.below hb2
      have ho : OwnB (w2.alloc (.cells #[] 5)) w2.heap.size (some ⟨w2.heap.size, 0, none⟩) 0 0 [] := own_empty w2
      generalize bytesV v k = ys at *
      go_wp2_with (at_builtin; go_must (refine app_list rfl _ _ rfl w2.heap.size _ 0 0 [] rfl ho _ n c zs rfl (hs2.alloc _) (by omega) (by simp) ?_))
      intro a3 c3 w3 ho3 hg3
      have hb3 : Below w2.heap.size w2 w3 := ((Below.refl _ _).alloc (Nat.le_refl _) _).trans (ho.up hg3 (by simp))
      have hs3 := (ho2.below hb3).sl (by omega)
      have hb4 := hb2.trans (hb3.mono hb2.size)
      have hz2 := hb2.size
      have hapt : ∀ b off, a2 = some ⟨b, off, none⟩ → b < w2.heap.size := by
        intro b off e
        subst e
        exact (ho2.own.lt b rfl).2
      obtain ⟨g, hg⟩ : ∃ g, a3 = some ⟨g, 0, none⟩ := by
        rcases ho3.own.2 with ⟨_, h0⟩ | ⟨g, cap, cur, hv, _⟩
        · omega
        · injection hv with e1
          exact ⟨g, e1⟩
      subst hg
      have hgl := (ho3.own.lt g rfl).1
      clear hs2 hb2 ho2 ho hg3 hb3
      rcases hs3.at_ with h0 | ⟨b2, of2, rfl, hlt2, hcell⟩
      · omega
      have hb2l := hapt b2 of2 rfl
      go_wp2
      go_loopw [15] (fun i wr => ∃ j : Nat, j ≤ k ∧ i = .int .i64 j ∧ OwnB wr w2.heap.size (some ⟨g, 0, none⟩) n c3 (lay zs p (ys.take j)) ∧ Below w2.heap.size w3 wr) (fun i _ => k - (intOf i).toNat)
      case atStart => exact ⟨0, by omega, rfl, by simpa [lay_nil] using ho3, Below.refl _ _⟩
      case round =>
        obtain ⟨j, hj, rfl, hown, hbel⟩ := hrel
        by_cases hjk : j < k
        · have hc := hcell j hjk
          rw [← hbel.cell (p := ⟨b2, of2 + j, none⟩) hb2l] at hc
          have hc2 := hown.cell (p + j) (by omega)
          have hf2 := hown.free (p + j)
          have HS := (show Hid _ from lay_step zs ys p j (by rw [hlen'.out]; exact hjk) (by rw [hlen'.out, hl]; exact hpk'))
          have hx := hs3.bnd j
          generalize ys.getD j 0 = x at *
          have hpj : (p : Int) + (j : Int) < (n : Int) := by omega
          go_wp2
          go_roundw
          case rel =>
            refine ⟨j + 1, by omega, by go_num, ?_, hbel.setCell hgl _⟩
            rw [← HS.out]
            exact hown.store (p + j) x hx
          case measure => simp [intOf]; omega
        · obtain rfl : j = k := by omega
          have HT : Hid (ys.take j = ys) := by show _ = _; rw [List.take_of_length_le (by rw [hlen'.out]; exact Nat.le_refl _)]
          rw [HT.out] at hown
          have hb5 : Below w1.heap.size w1 wr := hb4.trans (hbel.mono hz2)
          go_wp2
          go_ret2
          rw [HL.out, HV.out, HE.out]
          exact ⟨_, c3, rfl, hown.base hz2, hb5⟩
    · have HE : Hid (setE n p v k = bytesE v k) := by show _ = _; unfold setE; rw [if_pos h1]
      have HV : Hid (setV zs p v k = []) := by show _ = _; unfold setV; rw [hl, if_neg (by rw [HE.out]; exact h2)]
      have hne : ((bytesE v k : Int) != 0) = true := by simp; omega
      clear h1 h2
      go_enter Try.func7, Try.ntmps7
      go_wp2_with fail
      refine (refnum_any _ _ _ zs p k _ hs).mono ?_
      rintro e w1 ⟨rfl, rfl⟩
      rw [HN.out]
      go_wp2_with fail
      refine (refbytes_any v k _ hv).mono ?_
      rintro e w2 ⟨a2, c2, rfl, ho2, hb2⟩
      go_wp2
      go_ret2
      rw [HV.out, HE.out]
      exact ⟨none, 0, rfl, OwnB.nil _ _, hb2⟩
  · have HE : Hid (setE n p v k = nspanE n p k) := by show _ = _; unfold setE; rw [if_neg h1]
    have HV : Hid (setV zs p v k = []) := by show _ = _; unfold setV; rw [hl, if_neg (by rw [HE.out]; exact h1)]
    have hne : ((nspanE n p k : Int) != 0) = true := by simp; omega
    clear h1
    go_enter Try.func7, Try.ntmps7
    go_wp2_with fail
    refine (refnum_any _ _ _ zs p k _ hs).mono ?_
    rintro e w1 ⟨rfl, rfl⟩
    go_wp2
    go_ret2
    rw [HV.out, HE.out]
    exact ⟨none, 0, rfl, OwnB.nil _ _, Below.refl _ _⟩
end Go.Proofs.Ytaakkibohkckaaa
