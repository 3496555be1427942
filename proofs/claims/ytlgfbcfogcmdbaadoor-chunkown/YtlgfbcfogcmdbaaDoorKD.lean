/- ref12.Put over any row of chunks: what the program's Put answers. -/
import Derived.Test.YtlgfbcfogcmdbaaDoorProg
import Derived.Test.YtlgfbcfogcmdbaaDoorBase
import Derived.Outline
import Derived.WalkLawsBesides
import Derived.WalkSpells
import Derived.Deep.QuietTactic
import Derived.BigQuiet
import Derived.Test.YtlgfbcfogcmdbaaDoorKA
import Derived.Test.YtlgfbcfogcmdbaaDoorKC
import Derived.Test.YtlgfbcfogcmdbaaDoorKB
namespace Go.Proofs.YtlgfbcfogcmdbaaDoor
open Go.RowKit
theorem below_drewN {B : Nat} {w w' : World} (h : Below B w w') (n : Nat) : Below B w (w'.drewN n) := ⟨h.os, h.tape, h.output, h.size, h.block⟩
theorem xor_poly (q : Nat) (h : q < 4294967296) : bits .xor .u32 (q : Int) 2197175160 = ((q ^^^ 2197175160 : Nat) : Int) := u32_xor_nat q 2197175160 h (by omega)
theorem cbr_ne (p x P j : Nat) (hR : cb p x j = if p % 2 = x / P % 2 then p / 2 else p / 2 ^^^ 2197175160) (h : ((p : Int) % 2 != (x : Int) / P % 2) = true) : cb p x j = p / 2 ^^^ 2197175160 := by
  rw [hR, if_neg]
  intro e
  have e2 : ((x : Int) / P) = ((x / P : Nat) : Int) := by norm_cast
  rw [e2] at h
  generalize x / P = y at *
  simp only [bne_iff_ne, ne_eq] at h
  omega
theorem cbr_eq (p x P j : Nat) (hR : cb p x j = if p % 2 = x / P % 2 then p / 2 else p / 2 ^^^ 2197175160) (h : ((p : Int) % 2 != (x : Int) / P % 2) = false) : cb p x j = p / 2 := by
  rw [hR, if_pos]
  have e2 : ((x : Int) / P) = ((x / P : Nat) : Int) := by norm_cast
  rw [e2] at h
  generalize x / P = y at *
  simp only [bne_eq_false_iff_eq] at h
  omega
set_option maxHeartbeats 1000000 in
theorem refcrc_any (a : Option Addr) (n c : Nat) (zs : List Nat) (w : World) (hs : Sl w a n c zs) :
    Calls Tryd.prog 36 #[.slice a n c] w fun e w' => e = .returned (.int .u32 (crc zs)) ∧ Below w.heap.size w w' := by
  obtain ⟨hl, hcap, hroom, hsm, _, hb, hat⟩ := hs
  unfold maxLen at hroom
  go_enter Tryd.func36, Tryd.ntmps36
  go_wp2
  go_loopw [3, 4] (fun r' i wr => ∃ (k : Nat), k ≤ n ∧ i = .int .i64 k ∧ r' = .int .u32 (crcReg 4294967295 (zs.take k)) ∧ Below w.heap.size w wr) (fun _ i _ => n - (intOf i).toNat)
  case atStart => exact ⟨0, by omega, rfl, rfl, Below.refl _ _⟩
  case round =>
    obtain ⟨k, hk, rfl, rfl, hbel⟩ := hrel
    have hq := crcReg_lt (zs.take k) 4294967295 (by omega)
    by_cases hlt : k < n
    · have HE : Hid (crcReg 4294967295 (zs.take (k + 1)) = cbyte (crcReg 4294967295 (zs.take k)) (zs.getD k 0)) := by
        rw [take_snocN zs k (by omega), crcReg_snoc]; rfl
      rcases hat with h0 | ⟨b, off, rfl, hlt2, hcell⟩
      · omega
      · have hc := hcell k hlt
        have hx := hb k
        generalize zs.getD k 0 = x at *
        generalize crcReg 4294967295 (zs.take k) = q at *
        clear hcell hb
        go_wp2
        go_loopw [3, 5] (fun r' i wr => ∃ (j : Nat), j ≤ 8 ∧ i = .int .i64 j ∧ r' = .int .u32 (cbits q x j) ∧ Below w.heap.size w wr) (fun _ i _ => 8 - (intOf i).toNat)
        case atStart => exact ⟨0, by omega, rfl, rfl, hbel⟩
        case round =>
          clear hbel
          obtain ⟨j, hj, rfl, rfl, hbel⟩ := hrel
          have hq2 := cbits_lt q x j hq
          by_cases hlt3 : j < 8
          · have HS : Hid (cbits q x (j + 1) = cb (cbits q x j) x j) := rfl
            have HR := (show Hid _ from cb_ref (cbits q x j) x j)
            have HX := (show Hid _ from xor_poly (cbits q x j / 2) (by omega))
            rw [← hbel.cell (p := ⟨b, off + k, none⟩) hlt2] at hc
            generalize cbits q x j = p at *
            have hki : (k : Int) < (n : Int) := by omega
            have hxw : IntKind.u32.wrap (x : Int) = (x : Int) := by rw [IntKind.wrap_u32']; omega
            have hP1 : 1 ≤ 2 ^ j := Nat.one_le_two_pow
            have hP2 : 2 ^ j ≤ 2 ^ 8 := Nat.pow_le_pow_right (by omega) (by omega)
            have hpw : IntKind.u32.wrap ((2 : Int) ^ j) = ((2 ^ j : Nat) : Int) := by
              rw [IntKind.wrap_u32', show ((2 : Int) ^ j) = ((2 ^ j : Nat) : Int) from by norm_cast]
              omega
            have HP : Hid (2 ^ j = 2 ^ j) := rfl
            generalize hPe : (2 : Nat) ^ j = P at *
            have HPE := (show Hid _ from hPe)
            clear hPe HP
            go_wp2_with fail
            go_quiet (fail)
            go_wp2
            · rename_i hbit
              go_roundw
              case rel => exact ⟨j + 1, by omega, by go_num, by rw [HS.out, cbr_ne p x P j HR.out hbit, ← HX.out]; rfl, below_drewN hbel nq⟩
              case measure => simp [intOf]; omega
            · rename_i hbit
              go_roundw
              case rel => exact ⟨j + 1, by omega, by go_num, by rw [HS.out, cbr_eq p x P j HR.out hbit]; rfl, below_drewN hbel nq⟩
              case measure => simp [intOf]; omega
          · obtain rfl : j = 8 := by omega
            go_wp2
            go_roundw
            case rel => exact ⟨k + 1, by omega, by go_num, by rw [HE.out]; rfl, hbel⟩
            case measure => simp [intOf]; omega
    · obtain rfl : k = n := by omega
      have HT : Hid (zs.take k = zs) := by rw [← hl]; exact List.take_length
      have HC : Hid (crc zs = 4294967295 - crcReg 4294967295 (zs.take k)) := by show _ = _; rw [HT.out]; rfl
      generalize crcReg 4294967295 (zs.take k) = q at *
      go_wp2
      go_ret
      exact ⟨ret_int (by rw [HC.out]; omega), hbel⟩
end Go.Proofs.YtlgfbcfogcmdbaaDoor
namespace Go.Proofs.YtlgfbcfogcmdbaaDoor
open Go.RowKit
theorem lay_put (zs ys : List Nat) (p j x : Nat) (hj : j = ys.length) (hp : p + ys.length < zs.length) : (lay zs p ys).set (p + j) x = lay zs p (ys ++ [x]) := by
  subst hj
  have h1 : p + ys.length ≤ zs.length := by omega
  have h2 : p + (ys ++ [x]).length ≤ zs.length := by simp; omega
  have l1 := lay_len zs p ys h1
  have l2 := lay_len zs p (ys ++ [x]) h2
  apply List.ext_getElem (by simp [l1, l2])
  intro i hi1 hi2
  have e1 : ∀ (l : List Nat) (i : Nat) (h : i < l.length), l[i] = l.getD i 0 := by intro l i h; simp [List.getD_eq_getElem?_getD, h]
  rw [e1, e1, lay_getD zs p _ h2]
  have e3 : ((lay zs p ys).set (p + ys.length) x).getD i 0 = if i = p + ys.length then x else (lay zs p ys).getD i 0 := by
    simp only [List.getD_eq_getElem?_getD, List.getElem?_set]
    by_cases h : i = p + ys.length
    · subst h; rw [if_pos rfl, if_pos rfl, if_pos (by rw [l1]; omega)]; rfl
    · rw [if_neg (fun e => h e.symm), if_neg h]
  rw [e3, lay_getD zs p _ h1, List.length_append, List.length_singleton]
  by_cases h : i = p + ys.length
  · subst h
    rw [if_pos rfl, if_pos (by omega), getD_app, if_neg (by omega)]
    simp
  · rw [if_neg h]
    by_cases h3 : p ≤ i ∧ i < p + ys.length
    · rw [if_pos h3, if_pos (by omega), getD_app, if_pos (by omega)]
    · rw [if_neg h3, if_neg (by omega)]
def leK (x : Nat) : Nat → List Nat
  | 0 => []
  | j + 1 => leK x j ++ [x / 256 ^ j % 256]
theorem leK_len (x j : Nat) : (leK x j).length = j := by
  induction j with
  | zero => rfl
  | succ j ih => simp [leK, ih]
theorem leK4 (x : Nat) : leK x 4 = le4 x := by
  show [x / 1 % 256, x / 256 % 256, x / 65536 % 256, x / 16777216 % 256] = le4 x
  unfold le4
  simp
set_option maxHeartbeats 2000000 in
theorem refstamp_any (a : Option Addr) (n c : Nat) (zs : List Nat) (w : World) (hs : Sl w a n c zs) (hn : n ≤ 140737488351232) :
    Calls Tryd.prog 21 #[.slice a n c] w fun e w' => ∃ a' c', e = .returned (.tuple #[.slice a' (stampV zs).length c', .int .i64 (stampE n : Nat)]) ∧ OwnB w' w.heap.size a' (stampV zs).length c' (stampV zs) ∧ Below w.heap.size w w' := by
  have hl := hs.len
  by_cases h12 : n < 12
  · have HE : Hid (stampE n = 3) := by show _ = _; unfold stampE; rw [if_pos h12]
    have HV : Hid (stampV zs = []) := by show _ = _; unfold stampV; rw [if_pos (by omega)]
    go_enter Tryd.func21, Tryd.ntmps21
    go_wp2
    go_ret2
    rw [HE.out, HV.out]
    exact ⟨none, 0, rfl, OwnB.nil _ _, Below.refl _ _⟩
  · have HE : Hid (stampE n = 0) := by show _ = _; unfold stampE; rw [if_neg h12]
    have HV : Hid (stampV zs = lay (blank zs) 8 (le4 (crc (blank zs)))) := by show _ = _; unfold stampV; rw [if_neg (by omega)]
    have HL : Hid ((stampV zs).length = n) := by show _ = _; rw [stampV_len zs (by omega), hl]
    have hbl : Hid ((blank zs).length = n) := by show _ = _; rw [blank_len zs (by omega), hl]
    have ho : OwnB (w.alloc (.cells #[] 5)) w.heap.size (some ⟨w.heap.size, 0, none⟩) 0 0 [] := own_empty w
    go_enter Tryd.func21, Tryd.ntmps21
    go_wp2_with (at_builtin; go_must (refine app_list rfl _ _ rfl w.heap.size _ 0 0 [] rfl ho _ n c zs rfl (hs.alloc _) (by omega) (by simp) ?_))
    intro a3 c3 w3 ho3 hg3
    have hb3 : Below w.heap.size w w3 := ((Below.refl _ _).alloc (Nat.le_refl _) _).trans (ho.up hg3 (by simp))
    obtain ⟨g, hg⟩ : ∃ g, a3 = some ⟨g, 0, none⟩ := by
      rcases ho3.own.2 with ⟨_, h0⟩ | ⟨g, cap, cur, hv, _⟩
      · omega
      · injection hv with e1
        exact ⟨g, e1⟩
    subst hg
    have hgl := (ho3.own.lt g rfl).1
    clear ho hg3
    go_wp2
    go_loopw [5] (fun i wr => ∃ j : Nat, j ≤ 4 ∧ i = .int .i64 ((8 + j : Nat) : Int) ∧ OwnB wr w.heap.size (some ⟨g, 0, none⟩) n c3 (lay zs 8 (List.replicate j 0)) ∧ Below w.heap.size w wr) (fun i _ => 12 - (intOf i).toNat)
    case atStart => exact ⟨0, by omega, rfl, by simpa [lay_nil] using ho3, hb3⟩
    case round =>
      obtain ⟨j, hj, rfl, hown, hbel⟩ := hrel
      by_cases hjk : j < 4
      · have hc2 := hown.cell (8 + j) (by omega)
        have hf2 := hown.free (8 + j)
        have HS : Hid ((lay zs 8 (List.replicate j 0)).set (8 + j) 0 = lay zs 8 (List.replicate (j + 1) 0)) := by
          show _ = _
          rw [lay_put zs (List.replicate j 0) 8 j 0 (by simp) (by simp; omega), ← List.replicate_succ']
        go_wp2
        go_roundw
        case rel =>
          refine ⟨j + 1, by omega, by go_num, ?_, hbel.setCell hgl _⟩
          rw [← HS.out]
          exact hown.store (8 + j) 0 (by omega)
        case measure => simp [intOf]; omega
      · obtain rfl : j = 4 := by omega
        have HB : Hid (lay zs 8 (List.replicate 4 0) = blank zs) := rfl
        rw [HB.out] at hown
        have hx := crc_lt (blank zs)
        have HC := (show Hid _ from leK4 (crc (blank zs)))
        generalize blank zs = bz at *
        go_wp2_with fail
        refine (refcrc_any _ _ _ bz _ (hown.sl (by omega))).mono ?_
        rintro e w4 ⟨rfl, hb4⟩
        have ho5 := hown.below hb4
        have hb5 := hbel.trans (hb4.mono hbel.size)
        clear hown hb4 hbel
        generalize crc bz = x at *
        go_wp2
        go_loopw [6, 7] (fun s i wr2 => ∃ j : Nat, j ≤ 4 ∧ i = .int .i64 ((8 + j : Nat) : Int) ∧ s = .int .u32 (x / 256 ^ j : Nat) ∧ OwnB wr2 w.heap.size (some ⟨g, 0, none⟩) n c3 (lay bz 8 (leK x j)) ∧ Below w.heap.size w wr2) (fun _ i _ => 12 - (intOf i).toNat)
        case atStart => exact ⟨0, by omega, rfl, by simp, by simpa [lay_nil, leK] using ho5, hb5⟩
        case round =>
          obtain ⟨j, hj, rfl, rfl, hown, hbel⟩ := hrel
          by_cases hjk : j < 4
          · have hc2 := hown.cell (8 + j) (by omega)
            have hf2 := hown.free (8 + j)
            have HS : Hid ((lay bz 8 (leK x j)).set (8 + j) (x / 256 ^ j % 256) = lay bz 8 (leK x (j + 1))) := by
              show _ = _
              rw [lay_put bz (leK x j) 8 j _ (leK_len x j).symm (by rw [leK_len, hbl.out]; omega)]
              rfl
            have HD : Hid (x / 256 ^ (j + 1) = x / 256 ^ j / 256) := by show _ = _; rw [Nat.pow_succ, Nat.div_div_eq_div_mul]
            have hu : x / 256 ^ j < 4294967296 := Nat.lt_of_le_of_lt (Nat.div_le_self _ _) hx
            generalize x / 256 ^ j = u at *
            go_wp2
            go_roundw
            case rel =>
              refine ⟨j + 1, by omega, by go_num, by rw [HD.out]; go_num, ?_, hbel.setCell hgl _⟩
              rw [← HS.out, show ((u : Int) % 256) = ((u % 256 : Nat) : Int) from by omega]
              exact hown.store (8 + j) (u % 256) (by omega)
            case measure => simp [intOf]; omega
          · obtain rfl : j = 4 := by omega
            rw [HC.out, ← HV.out] at hown
            go_wp2
            go_ret2
            rw [HL.out, HE.out]
            exact ⟨_, c3, rfl, hown, hbel⟩
end Go.Proofs.YtlgfbcfogcmdbaaDoor
namespace Go.Proofs.YtlgfbcfogcmdbaaDoor
open Go.RowKit
theorem catL_next (dd : List ChQ) (i : Nat) (h : i < dd.length) : catL (cvQ (dd.take (i + 1))) = catL (cvQ (dd.take i)) ++ chB (dd.getD i default).k (dd.getD i default).f (valB (dd.getD i default).cd) := by
  rw [← catB_catL dd (i + 1) (by omega), catB, catB_catL dd i (by omega)]
/-- The first chunk that may not be. -/
theorem mbQ_bad {dd : List ChQ} {i : Nat} (h1 : dd.length ≤ 32) (hi : i < dd.length) (h0 : badE (fun j => chkOf (dd.getD j default).ck) i = 0) (hb : ¬ chkOf (dd.getD i default).ck = 0) : mbQ dd = chkOf (dd.getD i default).ck := by
  have e1 : badE (fun j => chkOf (dd.getD j default).ck) (i + 1) = chkOf (dd.getD i default).ck := by
    rw [badE, if_neg (by rw [h0]; simp)]
  have e2 := badE_le (E := fun j => chkOf (dd.getD j default).ck) (k := i + 1) (by rw [e1]; exact hb) (dd.length - (i + 1))
  rw [show i + 1 + (dd.length - (i + 1)) = dd.length by omega] at e2
  unfold mbQ mbE
  rw [if_neg (by omega), if_neg (by omega), if_pos (by rw [e2, e1]; exact hb), e2, e1]
theorem mbQ_end {dd : List ChQ} (h1 : dd.length ≤ 32) (h2 : ¬ dd.length = 0) (h0 : badE (fun j => chkOf (dd.getD j default).ck) dd.length = 0) : mbQ dd = if 1480 < 12 + sumS (fun j => spcN (dd.getD j default).cd) dd.length then 6 else 0 := by
  unfold mbQ mbE
  rw [if_neg h2, if_neg (by omega), if_neg (by rw [h0]; simp)]
theorem putR_no {w w' : World} {er : Int} {f t g : Nat} {dd : List ChQ} (h : mbQ dd = er) (hn : ¬ er = 0) (hb : Below w.heap.size w w') : PutR w (ptQ f t g dd) (mbQ dd) (.returned (.tuple #[.slice none 0 0, .int .i64 er])) w' := by
  have e : ptQ f t g dd = [] := by unfold ptQ; rw [if_neg (by rw [h]; exact hn)]
  rw [e, h]
  exact ⟨⟨none, 0, rfl, OwnB.nil _ _⟩, hb⟩
set_option linter.unusedVariables false in
set_option maxRecDepth 100000 in
set_option maxHeartbeats 8000000 in
theorem rput_row {w : World} {a : Option Addr} {n c : Nat} {dd : List ChQ} (h : SlCq w a n c dd) (f t g : Nat) (hf : f < 65536) (ht : t < 65536) (hg : g < 4294967296) :
    Calls Tryd.prog 7 #[.agg #[.int .u16 (f : Nat), .int .u16 (t : Nat), .int .u32 (g : Nat)], .slice a n c] w (PutR w (ptQ f t g dd) (mbQ dd)) := by
  have hlen := h.len
  have hcap := h.cap
  have hsm := h.small
  have HR := (show Hid _ from h)
  obtain ⟨W1, hW1⟩ : ∃ W1, W1 = w.alloc (.cells #[.int .u16 (f : Nat), .int .u16 (t : Nat), .int .u32 (g : Nat)] 25) := ⟨_, rfl⟩
  have b1 : Below w.heap.size w W1 := by rw [hW1]; exact (Below.refl _ _).alloc (Nat.le_refl _) _
  have s1 := Stc.new w [.int .u16 (f : Nat), .int .u16 (t : Nat), .int .u32 (g : Nat)] 25 W1 hW1
  have H0 : Hid (VaS w [.int .u16 (f : Nat), .int .u16 (t : Nat), .int .u32 (g : Nat)] W1 none 0 0 []) := ⟨s1, OwnB.nil _ _, b1⟩
  have HB1 := (show Hid _ from b1)
  clear h s1 b1
  by_cases hn0 : n = 0
  · have HF : Hid (PutR w (ptQ f t g dd) (mbQ dd) (.returned (.tuple #[.slice none 0 0, .int .i64 2])) W1) := putR_no (by unfold mbQ mbE; rw [if_pos (by omega)]) (by decide) HB1.out
    subst hn0
    clear H0 HB1 HR hcap hsm hlen
    go_enter Tryd.func7, Tryd.ntmps7
    go_wp2
    rw [← hW1]
    go_ret2
    exact HF.out
  have hn1 : ((n : Int) == 0) = false := by simp; omega
  by_cases hn32 : 32 < n
  · have hn2 : (32 : Int) < (n : Int) := by omega
    have HF : Hid (PutR w (ptQ f t g dd) (mbQ dd) (.returned (.tuple #[.slice none 0 0, .int .i64 6])) W1) := putR_no (by unfold mbQ mbE; rw [if_neg (by omega), if_pos (by omega)]) (by decide) HB1.out
    clear H0 HB1 HR hlen hn0
    go_enter Tryd.func7, Tryd.ntmps7
    go_wp2
    rw [← hW1]
    go_ret2
    exact HF.out
  have hn2 : ¬ (32 : Int) < (n : Int) := by omega
  have k1 := H0.out.box.cell 0 _ rfl
  have HN := (show Hid _ from H0.out.call f 2 (by omega) (by omega) (by omega) (by omega) (by omega))
  have HW := (show Hid _ from hW1)
  clear hW1
  go_enter Tryd.func7, Tryd.ntmps7
  go_wp2_with fail
  rw [← HW.out]
  refine Calls.mono HN.out ?_
  clear HN k1 HW
  rintro e w2 hP
  obtain ⟨a2, n2, c2, rfl, hn2', h2⟩ := hP
  have H2 := (show Hid _ from h2)
  have hb2 : n2 ≤ 2 := by omega
  clear hn2' h2 H0
  have k1 := H2.out.box.cell 1 _ rfl
  have HN := (show Hid _ from H2.out.call t 2 (by omega) (by omega) (by omega) (by omega) (by omega))
  go_wp2_with fail
  refine Calls.mono HN.out ?_
  clear HN k1
  rintro e w3 hP
  obtain ⟨a3, n3, c3, rfl, hn3', h3⟩ := hP
  have H3 := (show Hid _ from h3)
  have hb3 : n3 ≤ 4 := by omega
  clear hn3' h3 H2 hb2
  have k1 := H3.out.box.cell 2 _ rfl
  have HN := (show Hid _ from H3.out.call g 4 (by omega) (by omega) (by omega) (by omega) (by omega))
  go_wp2_with fail
  refine Calls.mono HN.out ?_
  clear HN k1
  rintro e w4 hP
  obtain ⟨a4, n4, c4, rfl, hn4', h4⟩ := hP
  have H4 := (show Hid _ from h4)
  have hb4 : n4 ≤ 8 := by omega
  clear hn4' h4 H3 hb3
  have HN := (show Hid _ from H4.out.call 0 4 (by omega) (by omega) (by omega) (by omega) (by omega))
  go_wp2_with fail
  refine Calls.mono HN.out ?_
  clear HN
  rintro e w5 hP
  obtain ⟨a5, n5, c5, rfl, hn5', h5⟩ := hP
  have HS0 : Hid (VaS w [.int .u16 (f : Nat), .int .u16 (t : Nat), .int .u32 (g : Nat)] w5 a5 n5 c5 (hdB f t g ++ catL (cvQ (dd.take 0)))) := by
    show VaS _ _ _ _ _ _ (hdB f t g ++ catL (cvQ (dd.take 0)))
    rw [List.take_zero, show catL (cvQ []) = [] from rfl, List.append_nil]
    exact h5
  clear hn5' h5 H4 hb4
  go_wp2_with fail
  go_loopw [6, 7] (fun u6 u7 wr => ∃ (i : Nat) (b : Option Addr) (m q : Nat), i ≤ n ∧ u7 = .int .i64 (i : Nat) ∧ u6 = .slice b m q ∧ badE (fun j => chkOf (dd.getD j default).ck) i = 0 ∧ VaS w [.int .u16 (f : Nat), .int .u16 (t : Nat), .int .u32 (g : Nat)] wr b m q (hdB f t g ++ catL (cvQ (dd.take i)))) (fun _ u _ => n - (intOf u).toNat)
  case atStart => exact ⟨0, _, _, _, by omega, rfl, rfl, rfl, HS0.out⟩
  case round =>
    obtain ⟨i, b, m, q, hin, rfl, rfl, hbd, hS⟩ := hrel
    have HS := (show Hid _ from hS)
    have HBD := (show Hid _ from hbd)
    clear hS hbd HS0
    have hml := HS.out.own.len
    rw [List.length_append, hdB_len, sumS_cat dd i (by omega)] at hml
    have hsz : sumS (fun j => spcN (dd.getD j default).cd) i ≤ i * 1468 := by
      have hk : ∀ k, k ≤ i → sumS (fun j => spcN (dd.getD j default).cd) k ≤ k * 1468 := by
        intro k
        induction k with
        | zero => intro _; simp [sumS]
        | succ k ih =>
          intro hk
          have h1 := ih (by omega)
          have h2 := badE_ok HBD.out k (by omega)
          have h3 := (one_any (HR.out.wf _ (List.mem_of_getElem? (getD_q (dd := dd) (j := k) (by omega)))) h2).sb
          rw [sumS, Nat.add_mul]
          omega
      exact hk i (Nat.le_refl _)
    have hmb : m ≤ 50000 := by omega
    by_cases hlt : i < n
    · have hlt1 : (i : Int) < (n : Int) := by omega
      obtain ⟨rb, off, rfl, hbl, hrow⟩ : ∃ b off, a = some ⟨b, off, none⟩ ∧ b < w.heap.size ∧ ∀ i x, dd[i]? = some x → ∀ j v, x.vals[j]? = some v → w.cell? ⟨b, off + i * 14 + j, none⟩ = some v := HR.out.at_.resolve_left (by omega)
      have hdi := getD_q (dd := dd) (j := i) (by omega)
      have hm := List.mem_of_getElem? hdi
      have hwr := HS.out.bel
      have HRG : Hid (∀ V, Below w.heap.size w V → V.rangeAt rb (off + i * 14) (dd.getD i default).vals) := fun V hV j u hu => (hV.cell (p := ⟨rb, off + i * 14 + j, none⟩) hbl).trans (hrow i _ hdi j u hu)
      have hrg := HRG.out wr hwr
      have HCK := (show Hid _ from rcheck_any (ChQ.wf_below (HR.out.wf _ hm) hwr) (.agg (dd.getD i default).vals.toArray) rfl)
      have HBY := (show Hid _ from fun (hc : chkOf (dd.getD i default).ck = 0) V (hV : Below w.heap.size w V) => rbytes_any (ChQ.wf_below (HR.out.wf _ hm) hV) (smQ_of (HR.out.wf _ hm) hc) (.agg (dd.getD i default).vals.toArray) rfl)
      have HSB := (show Hid _ from fun (hc : chkOf (dd.getD i default).ck = 0) => (one_any (HR.out.wf _ hm) hc).sb)
      have HNX := (show Hid _ from catL_next dd i (by omega))
      have HMB := (show Hid _ from fun (hc : ¬ chkOf (dd.getD i default).ck = 0) => mbQ_bad (dd := dd) (by omega) (by omega) HBD.out hc)
      have HBN : Hid (badE (fun j => chkOf (dd.getD j default).ck) (i + 1) = if badE (fun j => chkOf (dd.getD j default).ck) i ≠ 0 then badE (fun j => chkOf (dd.getD j default).ck) i else chkOf (dd.getD i default).ck) := rfl
      have hcl := (chq_one (dd.getD i default)).1
      have hi14 := ch_size14R _ hcl
      have HCB : Hid ((chB (dd.getD i default).k (dd.getD i default).f (valB (dd.getD i default).cd)).length = spcN (dd.getD i default).cd) := chB_len _ _ _
      generalize (dd.getD i default).vals = cs at *
      generalize chB (dd.getD i default).k (dd.getD i default).f (valB (dd.getD i default).cd) = cb at *
      generalize spcN (dd.getD i default).cd = si at *
      generalize hEE : chkOf (dd.getD i default).ck = E at *
      clear hEE hrow hm hdi hwr hml hsz
      go_wp2_with (first | (refine wpList_load_mid rfl 32 _ rfl rb (off + i * 14) rfl cs _ hrg Tryd.underlying32 rfl hi14 ?_) | fail)
      refine Calls.mono HCK.out ?_
      clear HCK hrg
      rintro e w6 ⟨rfl, b6⟩
      have hb6 : Below w.heap.size w w6 := HS.out.bel.trans (b6.mono HS.out.bel.size)
      by_cases hE : E = 0
      · have HS6 := (show Hid _ from HS.out.below b6)
        have HB6 := (show Hid _ from hb6)
        have hrg := HRG.out w6 hb6
        have HBY6 := (show Hid _ from HBY.out hE w6 hb6)
        have hsb := HSB.out hE
        have HBE : Hid (badE (fun j => chkOf (dd.getD j default).ck) (i + 1) = 0) := by
          rw [HBN.out, if_neg (by rw [HBD.out]; simp)]
          exact hE
        have hE1 : (E != 0) = false := by rw [hE]; rfl
        clear hE b6 hb6 HBY HSB HBN HMB HS
        go_wp2_with (first | (refine wpList_load_mid rfl 32 _ rfl rb (off + i * 14) rfl cs _ hrg Tryd.underlying32 rfl hi14 ?_) | fail)
        refine Calls.mono HBY6.out ?_
        clear HBY6 hrg
        rintro e w7 hRV
        obtain ⟨a7, c7, rfl, ho7⟩ := hRV.ex
        have h7 := HS6.out.below hRV.bel
        have hz7 : w.heap.size + 1 ≤ w7.heap.size := by have := h7.box.lt; omega
        rw [HCB.out] at ho7 ⊢
        have hsl := ho7.sl (by omega)
        have HO := (show Hid _ from h7.own)
        have H7 := (show Hid _ from h7)
        clear ho7 h7 hRV HS6
        go_wp2_with (at_builtin; go_must (refine app_list2 rfl _ _ rfl (w.heap.size + 1) _ _ _ _ rfl HO.out _ _ _ _ rfl hsl (by omega) hz7 ?_))
        intro a8 c8 w8 ho8 hg8 hp8
        have h8 := H7.out.grow ho8 hg8
        have e8 : hdB f t g ++ (catL (cvQ (dd.take i)) ++ cb) = hdB f t g ++ catL (cvQ (dd.take (i + 1))) := by rw [HNX.out]
        try simp only [List.append_assoc] at h8
        rw [e8] at h8
        have HF := (show Hid _ from h8)
        clear h8 e8 ho8 hg8 hp8 H7 HO hsl hz7
        go_wp2
        go_roundw
        case rel => exact ⟨i + 1, _, _, _, by omega, by go_num, rfl, HBE.out, HF.out⟩
        case measure => simp [intOf]; omega
      · have HF : Hid (PutR w (ptQ f t g dd) (mbQ dd) (.returned (.tuple #[.slice none 0 0, .int .i64 E])) w6) := putR_no (HMB.out hE) hE hb6
        have hE1 : (E != 0) = true := by simpa using hE
        clear hE b6 hb6 HBY HSB HBN HMB HS HRG HR HNX HCB
        go_wp2
        go_ret2
        exact HF.out
    · have hlt1 : ¬ (i : Int) < (n : Int) := by omega
      have hie : i = dd.length := by omega
      have hT := HS.out
      have hBD := HBD.out
      rw [hie] at hT hBD hml
      rw [List.take_length] at hT
      have hM := mbQ_end (dd := dd) (by omega) (by omega) hBD
      obtain ⟨L, hL⟩ : ∃ L, L = hdB f t g ++ catL (cvQ dd) := ⟨_, rfl⟩
      rw [← hL] at hT
      by_cases hb : 1480 < m
      · have hb1 : (1480 : Int) < (m : Int) := by omega
        rw [if_pos (by omega)] at hM
        have HF : Hid (PutR w (ptQ f t g dd) (mbQ dd) (.returned (.tuple #[.slice none 0 0, .int .i64 6])) wr) := putR_no hM (by decide) HS.out.bel
        clear hT hBD hM hie hml hsz HS HBD HR hL
        go_wp2
        go_ret2
        exact HF.out
      · have hb1 : ¬ (1480 : Int) < (m : Int) := by omega
        rw [if_neg (by omega)] at hM
        have HPV : Hid (ptQ f t g dd = stampV L) := by
          show _ = _
          unfold ptQ
          rw [if_pos hM, hL]
        have HMQ := (show Hid _ from hM)
        have hsl := hT.own.sl (by omega)
        have HN := (show Hid _ from refstamp_any _ _ _ _ wr hsl (by omega))
        have hm12 : 12 ≤ m := by omega
        have hse : stampE m = 0 := by unfold stampE; rw [if_neg (by omega)]
        rw [hse] at HN
        have HBW := (show Hid _ from hT.bel)
        clear hT hBD hM hie hml hsz HS HBD HR hL hsl hse
        go_wp2_with fail
        refine Calls.mono HN.out ?_
        clear HN
        rintro e w8 ⟨a8, c8, rfl, ho8, b8⟩
        have HF : Hid (PutR w (ptQ f t g dd) (mbQ dd) (.returned (.tuple #[.slice a8 (stampV L).length c8, .int .i64 0])) w8) := by
          rw [HPV.out, HMQ.out]
          exact ⟨⟨a8, c8, rfl, ho8.base HBW.out.size⟩, HBW.out.trans (b8.mono HBW.out.size)⟩
        clear ho8 b8 HBW HPV HMQ
        generalize (stampV L).length = sl at *
        go_wp2
        go_ret2
        exact HF.out
end Go.Proofs.YtlgfbcfogcmdbaaDoor
