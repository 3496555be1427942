/- What the reference's Stamp answers: the same. -/
import Derived.Test.YthjjjdnhjedbpacStamp
import Derived.Test.YthjjjdnhjedbpacRefCrc
namespace Go.Proofs.Ythjjjdnhjedbpac
open Go.RowKit
theorem lay_put (zs ys : List Nat) (p j x : Nat) (hj : j = ys.length) (hp : p + ys.length < zs.length) : (lay zs p ys).set (p + j) x = lay zs p (ys ++ [x]) := by
  subst hj
  have h1 : p + ys.length ≤ zs.length := by omega
  have h2 : p + (ys ++ [x]).length ≤ zs.length := by simp; omega
  have l1 := lay_len zs p ys h1
  have l2 := lay_len zs p (ys ++ [x]) h2
  apply List.ext_getElem (by simp [l1, l2])
  intro i hi1 hi2
  have e1 : ∀ (l : List Nat) (i : Nat) (h : i < l.length), l[i] = l.getD i 0 := by intro l i h; simp [List.getD_eq_getElem?_getD, h]
  rw [e1, e1, lay_getD zs p _ h2]
  have e3 : ((lay zs p ys).set (p + ys.length) x).getD i 0 = if i = p + ys.length then x else (lay zs p ys).getD i 0 := by
    simp only [List.getD_eq_getElem?_getD, List.getElem?_set]
    by_cases h : i = p + ys.length
    · subst h; rw [if_pos rfl, if_pos rfl, if_pos (by rw [l1]; omega)]; rfl
    · rw [if_neg (fun e => h e.symm), if_neg h]
  rw [e3, lay_getD zs p _ h1, List.length_append, List.length_singleton]
  by_cases h : i = p + ys.length
  · subst h
    rw [if_pos rfl, if_pos (by omega), getD_app, if_neg (by omega)]
    simp
  · rw [if_neg h]
    by_cases h3 : p ≤ i ∧ i < p + ys.length
    · rw [if_pos h3, if_pos (by omega), getD_app, if_pos (by omega)]
    · rw [if_neg h3, if_neg (by omega)]
def leK (x : Nat) : Nat → List Nat
  | 0 => []
  | j + 1 => leK x j ++ [x / 256 ^ j % 256]
theorem leK_len (x j : Nat) : (leK x j).length = j := by
  induction j with
  | zero => rfl
  | succ j ih => simp [leK, ih]
theorem leK4 (x : Nat) : leK x 4 = le4 x := by
  show [x / 1 % 256, x / 256 % 256, x / 65536 % 256, x / 16777216 % 256] = le4 x
  unfold le4
  simp
set_option maxHeartbeats 2000000 in
theorem refstamp_any (a : Option Addr) (n c : Nat) (zs : List Nat) (w : World) (hs : Sl w a n c zs) (hn : n ≤ 140737488351232) :
    Calls Try.prog 10 #[.slice a n c] w fun e w' => ∃ a' c', e = .returned (.tuple #[.slice a' (stampV zs).length c', .int .i64 (stampE n : Nat)]) ∧ OwnB w' w.heap.size a' (stampV zs).length c' (stampV zs) ∧ Below w.heap.size w w' := by
  have hl := hs.len
  by_cases h12 : n < 12
  · have HE : Hid (stampE n = 3) := by show _ = _; unfold stampE; rw [if_pos h12]
    have HV : Hid (stampV zs = []) := by show _ = _; unfold stampV; rw [if_pos (by omega)]
    go_enter Try.func10, Try.ntmps10
    go_wp2
    go_ret2
    rw [HE.out, HV.out]
    exact ⟨none, 0, rfl, OwnB.nil _ _, Below.refl _ _⟩
  · have HE : Hid (stampE n = 0) := by show _ = _; unfold stampE; rw [if_neg h12]
    have HV : Hid (stampV zs = lay (blank zs) 8 (le4 (crc (blank zs)))) := by show _ = _; unfold stampV; rw [if_neg (by omega)]
    have HL : Hid ((stampV zs).length = n) := by show _ = _; rw [stampV_len zs (by omega), hl]
    have hbl : Hid ((blank zs).length = n) := by show _ = _; rw [blank_len zs (by omega), hl]
    have ho : OwnB (w.alloc (.cells #[] 5)) w.heap.size (some ⟨w.heap.size, 0, none⟩) 0 0 [] := own_empty w
    go_enter Try.func10, Try.ntmps10
    go_wp2_with (at_builtin; go_must (refine app_list rfl _ _ rfl w.heap.size _ 0 0 [] rfl ho _ n c zs rfl (hs.alloc _) (by omega) (by simp) ?_))
    intro a3 c3 w3 ho3 hg3
    have hb3 : Below w.heap.size w w3 := ((Below.refl _ _).alloc (Nat.le_refl _) _).trans (ho.up hg3 (by simp))
    obtain ⟨g, hg⟩ : ∃ g, a3 = some ⟨g, 0, none⟩ := by
      rcases ho3.own.2 with ⟨_, h0⟩ | ⟨g, cap, cur, hv, _⟩
      · omega
      · injection hv with e1
        exact ⟨g, e1⟩
    subst hg
    have hgl := (ho3.own.lt g rfl).1
    clear ho hg3
    go_wp2
    go_loopw [5] (fun i wr => ∃ j : Nat, j ≤ 4 ∧ i = .int .i64 ((8 + j : Nat) : Int) ∧ OwnB wr w.heap.size (some ⟨g, 0, none⟩) n c3 (lay zs 8 (List.replicate j 0)) ∧ Below w.heap.size w wr) (fun i _ => 12 - (intOf i).toNat)
    case atStart => exact ⟨0, by omega, rfl, by simpa [lay_nil] using ho3, hb3⟩
    case round =>
      obtain ⟨j, hj, rfl, hown, hbel⟩ := hrel
      by_cases hjk : j < 4
      · have hc2 := hown.cell (8 + j) (by omega)
        have hf2 := hown.free (8 + j)
        have HS : Hid ((lay zs 8 (List.replicate j 0)).set (8 + j) 0 = lay zs 8 (List.replicate (j + 1) 0)) := by
          show _ = _
          rw [lay_put zs (List.replicate j 0) 8 j 0 (by simp) (by simp; omega), ← List.replicate_succ']
        go_wp2
        go_roundw
        case rel =>
          refine ⟨j + 1, by omega, by go_num, ?_, hbel.setCell hgl _⟩
          rw [← HS.out]
          exact hown.store (8 + j) 0 (by omega)
        case measure => simp [intOf]; omega
      · obtain rfl : j = 4 := by omega
        have HB : Hid (lay zs 8 (List.replicate 4 0) = blank zs) := rfl
        rw [HB.out] at hown
        have hx := crc_lt (blank zs)
        have HC := (show Hid _ from leK4 (crc (blank zs)))
        generalize blank zs = bz at *
        go_wp2_with fail
        refine (refcrc_any _ _ _ bz _ (hown.sl (by omega))).mono ?_
        rintro e w4 ⟨rfl, hb4⟩
        have ho5 := hown.below hb4
        have hb5 := hbel.trans (hb4.mono hbel.size)
        clear hown hb4 hbel
        generalize crc bz = x at *
        go_wp2
        go_loopw [6, 7] (fun s i wr2 => ∃ j : Nat, j ≤ 4 ∧ i = .int .i64 ((8 + j : Nat) : Int) ∧ s = .int .u32 (x / 256 ^ j : Nat) ∧ OwnB wr2 w.heap.size (some ⟨g, 0, none⟩) n c3 (lay bz 8 (leK x j)) ∧ Below w.heap.size w wr2) (fun _ i _ => 12 - (intOf i).toNat)
        case atStart => exact ⟨0, by omega, rfl, by simp, by simpa [lay_nil, leK] using ho5, hb5⟩
        case round =>
          obtain ⟨j, hj, rfl, rfl, hown, hbel⟩ := hrel
          by_cases hjk : j < 4
          · have hc2 := hown.cell (8 + j) (by omega)
            have hf2 := hown.free (8 + j)
            have HS : Hid ((lay bz 8 (leK x j)).set (8 + j) (x / 256 ^ j % 256) = lay bz 8 (leK x (j + 1))) := by
              show _ = _
              rw [lay_put bz (leK x j) 8 j _ (leK_len x j).symm (by rw [leK_len, hbl.out]; omega)]
              rfl
            have HD : Hid (x / 256 ^ (j + 1) = x / 256 ^ j / 256) := by show _ = _; rw [Nat.pow_succ, Nat.div_div_eq_div_mul]
            have hu : x / 256 ^ j < 4294967296 := Nat.lt_of_le_of_lt (Nat.div_le_self _ _) hx
            generalize x / 256 ^ j = u at *
            go_wp2
            go_roundw
            case rel =>
              refine ⟨j + 1, by omega, by go_num, by rw [HD.out]; go_num, ?_, hbel.setCell hgl _⟩
              rw [← HS.out, show ((u : Int) % 256) = ((u % 256 : Nat) : Int) from by omega]
              exact hown.store (8 + j) (u % 256) (by omega)
            case measure => simp [intOf]; omega
          · obtain rfl : j = 4 := by omega
            rw [HC.out, ← HV.out] at hown
            go_wp2
            go_ret2
            rw [HL.out, HE.out]
            exact ⟨_, c3, rfl, hown, hbel⟩
end Go.Proofs.Ythjjjdnhjedbpac
