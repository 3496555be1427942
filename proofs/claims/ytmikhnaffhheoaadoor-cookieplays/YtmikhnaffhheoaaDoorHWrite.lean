/- What Write of a hash does. -/
import Derived.Test.YtmikhnaffhheoaaDoorHWrM
import Derived.Test.YtmikhnaffhheoaaDoorSlc
import Derived.Test.YtmikhnaffhheoaaDoorSlcU
import Derived.Deep.RegionLaw
import Derived.Deep.RegionHeld3
namespace Go.Proofs.YtmikhnaffhheoaaDoor
open Go.RowKit
def sliceLen : Value → Nat
  | .slice _ n _ => n
  | _ => 0
/-- The block in which a row lies, if it has a cell. -/
def blkOf (a : Option Addr) (n : Nat) : Option Nat := if n = 0 then none else a.map (·.block)
theorem blk_of {x : Addr} {n k : Nat} (h : blkOf (some x) n = some k) : x.block = k := by
  unfold blkOf at h
  split at h
  · cases h
  · simpa using h
theorem SlK.frH {k : IntKind} {M : Nat} {P : Nat → Prop} {w w' : World} {a : Option Addr} {n c : Nat} {zs : List Nat} (h : SlK k M w a n c zs) (hf : Fr P w w') (hp : ∀ k, blkOf a n = some k → ¬ P k) : SlK k M w' a n c zs := by
  obtain ⟨h1, h2, h3, hsm, hnz, h4, h5⟩ := h
  refine ⟨h1, h2, h3, hsm, hnz, h4, ?_⟩
  rcases h5 with h5 | ⟨b, off, rfl, hlt, hc⟩
  · exact .inl h5
  · by_cases hn0 : n = 0
    · exact .inl hn0
    exact .inr ⟨b, off, rfl, Nat.lt_of_lt_of_le hlt hf.size, fun i hi => (hf.cell ⟨b, off + i, none⟩ hlt (hp b (by simp [blkOf, hn0]))).trans (hc i hi)⟩
theorem KW.fr {P : Nat → Prop} {w w' : World} (h : KW w) (hf : Fr P w w') (hp : ¬ P 0) : KW w' :=
  ⟨Nat.lt_of_lt_of_le h.1 hf.size, fun i hi => (hf.cell ⟨0, i, none⟩ h.1 hp).trans (h.2 i hi)⟩
theorem slice_fromB (b off n c : Nat) (l : Int) (x : Nat) (hl : l = (x : Int)) (h : x ≤ n) (hc : n ≤ c) : ∃ a', (∀ w, (Instr.slice 22 (.slice (some ⟨b, off, none⟩) n c) (some (.int .i64 l)) none none).run Tryd.prog w = .ok (.slice (some a') (n - x) (c - x)) w) ∧ (x < n → a' = ⟨b, off + x, none⟩) ∧ a'.block = b := by
  subst hl
  refine ⟨if c = x then ⟨b, off, none⟩ else ⟨b, off + x, none⟩, fun w => ?_, fun hx => by rw [if_neg (by omega)], by split <;> rfl⟩
  rw [run_slice_l w 22 _ n c und8 .i64 x (by omega) (by omega), size8]
  simp only [Result.andThen, sliced, Int.toNat_natCast]
  split <;> simp [Addr.add]
/-- copy into what waits, in a region that draws its order. -/
theorem copy_stepH {ops : Array Oper} {op : Oper} {a : Act} {w : World} {K : Act → World → Prop} {Q : Exit → Act → World → Prop} {E : Prop} (hgd : op.guard = none) (s x : Operand)
    (ho : op.op = .call { callee := .builtin .copy, args := #[s, x], argTypes := #[22, 22] })
    (B p : Nat) (v b : List Nat) (n : Nat) (h : HAt w B p v b n) (o dl dc : Nat) (hs : a.eval s = .slice (some ⟨p, 8 + o, none⟩) dl dc)
    (g off m sc : Nat) (zs : List Nat) (hx : a.eval x = .slice (some ⟨g, off, none⟩) m sc) (hsl : Sl w (some ⟨g, off, none⟩) m sc zs) (k : Nat) (hk : k = Nat.min m dl) (hk0 : 0 < k) (hdl : o + dl ≤ 64)
    (hK : K (a.put op.dst (.int .i64 (k : Int))) (w.setCells p (8 + o) (vals (zs.take k)))) :
    if Region.wanted op (yielded ops a.tmps) = true then Oper.wp Tryd.prog op a w K Q else E := by
  have hw : Region.wanted op (yielded ops a.tmps) = true := by simp [Region.wanted, hgd]
  rw [if_pos hw]
  have hsz : (Tryd.prog.info? 5).map (·.size) = some 1 := by kernel_rfl
  have hl := hsl.len
  have hkm : k ≤ m := by rw [hk]; exact Nat.min_le_left _ _
  have hkd : k ≤ dl := by rw [hk]; exact Nat.min_le_right _ _
  have hvl : (vals (zs.take k)).length = k := by simp [vals]; omega
  rcases hsl.at_ with h1 | ⟨b2, of2, e, _, hcell⟩
  · omega
  injection e with e
  injection e with e1 e2
  subst e1 e2
  have hr := run_copy_cells (P := Tryd.prog) w 22 22 op.type 5 p (8 + o) dl dc ⟨g, off, none⟩ m sc (vals (zs.take k)) Tryd.underlying22 hsz (by rw [hvl]; exact hk)
    (fun j u hj => by
      have hjl : j < (zs.take k).length := by
        have := (List.getElem?_eq_some_iff.1 hj).1
        simpa [vals] using this
      have hjk : j < k := by simp at hjl; omega
      rw [Addr.add_mid, hcell j (by omega), ← hj, vals_at (zs.take k) j hjl]
      simp [List.getD_eq_getElem?_getD, hjk])
    (fun j hj => by rw [show 8 + o + j = 8 + (o + j) from by omega, h.bc (o + j) (by omega)]; rfl) (fun j _ => h.free (8 + o + j)) (vals_one _)
  rw [hvl] at hr
  unfold Oper.wp
  simp [execOp, ho, resolve, invoke, builtin, hs, hx, hr, Result.andThen, goInt]
  exact hK
set_option maxRecDepth 100000 in
set_option maxHeartbeats 4000000 in
theorem hwrite_any (B p : Nat) (bs : List Nat) (a : Option Addr) (n c : Nat) (zs : List Nat) (w : World) (h : HB w B p bs) (hk : KW w) (hpg : p ≠ 0) (hs : Sl w a n c zs) (hap : blkOf a n ≠ some p) (hsz : bs.length + n ≤ 1152921504606846976) :
    Calls Tryd.prog 46 #[.pointer (some ⟨p, 0, none⟩), .slice a n c] w fun e w' => e = .returned (.int .i64 0) ∧ HB w' B p (bs ++ zs) ∧ KW w' ∧ Fr (fun k => k = p) w w' := by
  have hl := hs.len
  go_enter Tryd.func46, Tryd.ntmps46
  go_wp2
  go_loopw [1] (fun bv wr => ∃ (k : Nat) (a1 : Option Addr), k ≤ n ∧ bv = .slice a1 (n - k) (c - k) ∧ Sl wr a1 (n - k) (c - k) (zs.drop k) ∧ blkOf a1 (n - k) ≠ some p ∧ HB wr B p (bs ++ zs.take k) ∧ KW wr ∧ Fr (fun k => k = p) w wr) (fun bv _ => sliceLen bv)
  case atStart => exact ⟨0, a, by omega, rfl, hs, hap, by simpa using h, hk, Fr.refl _ _⟩
  case round =>
    obtain ⟨k, a1, hkn, rfl, hsl, hap1, hB, hkw, hF⟩ := hrel
    clear h hk hs hap
    by_cases hk2 : k < n
    · obtain ⟨b, hH, hWt⟩ := hB
      have hbl : (bs ++ zs.take k).length = bs.length + k := by simp; omega
      obtain ⟨L, hL⟩ : ∃ L, L = (bs ++ zs.take k).length := ⟨_, rfl⟩
      rcases hsl.at_ with h0 | ⟨g, off, rfl, hlt, hcell⟩
      · omega
      have hcap := hsl.cap
      have hb64 := hH.blen
      have hn72 := hH.nc
      rw [← hL] at hn72
      have hrem : (L : Int) % 64 = ((L % 64 : Nat) : Int) := by omega
      obtain ⟨o, ho⟩ : ∃ o, o = L % 64 := ⟨_, rfl⟩
      have ho64 : o < 64 := by omega
      rw [← ho] at hrem
      obtain ⟨a', hslc, ha'⟩ := arr_from 80 64 Tryd.underlying80 p 8 o (o : Int) rfl (by omega)
      obtain rfl := ha' (by omega)
      obtain ⟨m, hm⟩ : ∃ m, m = Nat.min (n - k) (64 - o) := ⟨_, rfl⟩
      have hm1 : m ≤ n - k := by rw [hm]; exact Nat.min_le_left _ _
      have hm2 : m ≤ 64 - o := by rw [hm]; exact Nat.min_le_right _ _
      have hm0 : 0 < m := by rw [hm]; exact Nat.lt_min.2 ⟨by omega, by omega⟩
      have hHd : HAt wr.drew B p (compTo (bs ++ zs.take k) ((bs ++ zs.take k).length / 64)) b (bs ++ zs.take k).length := hH.below (Below.refl _ _).drew
      have hsld : Sl wr.drew (some ⟨g, off, none⟩) (n - k) (c - k) (zs.drop k) := hsl.below (Below.refl _ _).drew
      have hgt : (0 : Int) < ((n - k : Nat) : Int) := by omega
      have htm : Int.tmod (L : Int) 64 = (o : Int) := by rw [Int.tmod_eq_emod_of_nonneg (by omega)]; exact hrem
      have HL := (show Hid _ from hL)
      have HBL := (show Hid _ from hbl)
      have HO := (show Hid _ from ho)
      have HM := (show Hid _ from hm)
      have hLs : L + m ≤ 1152921504606846976 := by omega
      clear hL hbl ho hm hl
      go_wp2_with fail
      go_region_law (refine copy_stepH rfl _ _ rfl B p _ b _ hHd o (64 - o) (64 - o) (by first | rfl | simp [Act.eval, Act.put]) g off (n - k) (c - k) (zs.drop k) (by first | rfl | simp [Act.eval, Act.put]) hsld m HM.out hm0 (by omega) ?_)
      all_goals
        obtain ⟨ys, hys⟩ : ∃ ys, ys = (zs.drop k).take m := ⟨_, rfl⟩
        obtain ⟨w4, hw4⟩ : ∃ w4, w4 = wr.drew.setCells p (8 + o) (vals ys) := ⟨_, rfl⟩
        rw [← hys, ← hw4]
        have hyl : ys.length = m := by rw [hys]; simp; have := hsl.len; simp at this; omega
        have hyb : ∀ i, ys.getD i 0 < 256 := fun i => by
          rw [hys]
          by_cases hi : i < m
          · have := hsl.bnd i
            simpa [List.getD_eq_getElem?_getD, hi] using this
          · rw [List.getD_eq_getElem?_getD, List.getElem?_eq_none (by simp; omega)]; simp
        have hH4 : HAt w4 B p (compTo (bs ++ zs.take k) ((bs ++ zs.take k).length / 64)) (lay b o ys) (bs ++ zs.take k).length := by rw [hw4]; exact hHd.waitCopied o ys hyb (by omega)
        have hF4 : Fr (fun k => k = p) wr w4 := by rw [hw4]; exact (Fr.of_below (Below.refl _ _).drew).trans (Fr.setCells _ _ _ _)
        have hn4 := hH4.nc
        rw [← HL.out] at hn4
        have hf4 := hH4.free 72
        have HH5 := (show Hid _ from hH4.sized (L + m))
        have HF5 : Hid (Fr (fun k => k = p) wr (w4.setCell ⟨p, 72, none⟩ (.int .i64 ((L + m : Nat) : Int)))) := hF4.trans (Fr.setCell _ _ _ _ rfl)
        have HYS := (show Hid _ from hys)
        clear hw4 hys hHd hsld hH hn72 hslc hcell
        obtain ⟨a5, hsf, ha5, ha5b⟩ := slice_fromB g off (n - k) (c - k) (m : Int) m rfl hm1 hcap
        have HSF : Hid (Sl wr (some a5) (n - k - m) (c - k - m) ((zs.drop k).drop m)) := hsl.drop m hm1 a5 ha5
        have hwa : IntKind.i64.wrap ((L : Int) + m) = ((L + m : Nat) : Int) := by rw [IntKind.wrap_i64]; omega
        have HTK : Hid (zs.take (k + m) = zs.take k ++ ys) := by show _ = _; rw [HYS.out, List.take_add]
        have HDR : Hid ((zs.drop k).drop m = zs.drop (k + m)) := by show _ = _; rw [List.drop_drop]
        have HAP : Hid (∀ q, blkOf (some a5) q ≠ some p) := by
          show ∀ q, blkOf (some a5) q ≠ some p
          intro q hq
          have := blk_of hq
          rw [ha5b] at this
          exact hap1 (by unfold blkOf; rw [if_neg (by omega)]; simp [this])
        obtain ⟨W5, hW5⟩ : ∃ W5, W5 = w4.setCell ⟨p, 72, none⟩ (.int .i64 ((L : Int) + m)) := ⟨_, rfl⟩
        have hcast : ((L + m : Nat) : Int) = (L : Int) + m := by omega
        rw [hcast, ← hW5] at HH5
        rw [hcast, ← hW5] at HF5
        rw [hcast] at hwa
        have hSl5 : Sl W5 (some a5) (n - (k + m)) (c - (k + m)) (zs.drop (k + m)) := by
          have := HSF.out.frH HF5.out (fun q hq e => HAP.out _ (by rw [hq, e]))
          rw [HDR.out] at this
          rw [show n - (k + m) = n - k - m from by omega, show c - (k + m) = c - k - m from by omega]
          exact this
        have hK5 : KW W5 := hkw.fr HF5.out (fun e => hpg e.symm)
        have hFw : Fr (fun k => k = p) w W5 := hF.trans HF5.out
        clear hF4 HSF hkw hF hap1 hsl
        by_cases hfull : o + m = 64
        · obtain ⟨e1, e2, e3⟩ := waits_full (bs ++ zs.take k) b ys hb64 hWt (by rw [← HL.out, ← HO.out]; omega)
          have hl5 : ((bs ++ zs.take k) ++ ys).length = L + m := by rw [List.length_append, ← HL.out, hyl]
          have hap5 : bs ++ zs.take (k + m) = (bs ++ zs.take k) ++ ys := by rw [HTK.out, List.append_assoc]
          have HO2 : (bs ++ zs.take k).length % 64 = o := by rw [← HL.out, ← HO.out]
          rw [HO2] at e3
          have hmod : (L + m) % 64 = 0 := by rw [hl5] at e1; exact e1
          have ht0 : Int.tmod ((L : Int) + m) 64 = 0 := by rw [Int.tmod_eq_emod_of_nonneg (by omega)]; omega
          have ht1 : Int.tmod (((L + m : Nat)) : Int) 64 = 0 := by rw [hcast]; exact ht0
          have hwk := work_any B p _ _ _ W5.drew (HH5.out.below (Below.refl _ _).drew) (hK5.below (Nat.le_refl _) (Below.refl _ _).drew)
          rw [← e3] at hwk
          have HFD : Hid (Fr (fun k => k = p) w W5.drew) := hFw.trans (Fr.of_below (Below.refl _ _).drew)
          have HEND : Hid (∀ w6, HAt w6 B p (compTo ((bs ++ zs.take k) ++ ys) (((bs ++ zs.take k) ++ ys).length / 64)) (lay b o ys) (L + m) → HB w6 B p (bs ++ zs.take (k + m))) := fun w6 hh => by
            rw [hap5]
            refine ⟨lay b o ys, by rw [hl5] at hh ⊢; exact hh, fun i hi => ?_⟩
            rw [hl5, hmod] at hi
            omega
          clear e1 e2 e3 hl5 hap5 hcast hmod HTK HDR HL HO HO2 HM HBL hWt hH4 HH5
          go_wp2_with fail
          rw [← hW5]
          clear hW5
          go_region_held3 (fun _ => True) (trivial) (first
            | (go_at_call 57; refine hwk.mono ?_; rintro e w6 ⟨rfl, hH6, hF6⟩)
            | fail)
          all_goals
            have hB6 := HEND.out w6 hH6
            have hF56 : Fr (fun k => k = p) W5 w6 := (Fr.of_below (Below.refl _ _).drew).trans hF6
            have hSl6 := hSl5.frH hF56 (fun q hq e => HAP.out _ (by rw [hq, e]))
            have hK6 := hK5.fr hF56 (fun e => hpg e.symm)
            have hFw6 := hFw.trans hF56
            have en : n - k - m = n - (k + m) := by omega
            have ec : c - k - m = c - (k + m) := by omega
            rw [en, ec]
            go_wp2
            go_roundw
            case rel => exact ⟨k + m, some a5, by omega, rfl, hSl6, HAP.out _, hB6, hK6, hFw6⟩
            case measure => simp [sliceLen]; omega
        · have HO2 : (bs ++ zs.take k).length % 64 = o := by rw [← HL.out, ← HO.out]
          obtain ⟨e1, e2⟩ := waits_more (bs ++ zs.take k) b ys hb64 hWt (by rw [HO2]; omega)
          have hl5 : ((bs ++ zs.take k) ++ ys).length = L + m := by rw [List.length_append, ← HL.out, hyl]
          have hap5 : bs ++ zs.take (k + m) = (bs ++ zs.take k) ++ ys := by rw [HTK.out, List.append_assoc]
          rw [HO2] at e1
          have hmod : (L + m) % 64 ≠ 0 := by have := HO.out; omega
          have ht0 : Int.tmod ((L : Int) + m) 64 ≠ 0 := by rw [Int.tmod_eq_emod_of_nonneg (by omega)]; omega
          have ht1 : (Int.tmod ((L : Int) + m) 64 == 0) = false := by simpa using ht0
          have hB5 : HB W5 B p (bs ++ zs.take (k + m)) := by
            rw [hap5]
            refine ⟨lay b o ys, ?_, e1⟩
            have hh := HH5.out
            rw [hl5, show (L + m) / 64 = (bs ++ zs.take k).length / 64 from by rw [← hl5]; exact e2, compTo_app (bs ++ zs.take k) ys _ (by omega)]
            exact hh
          have en : n - k - m = n - (k + m) := by omega
          have ec : c - k - m = c - (k + m) := by omega
          clear e1 e2 hl5 hap5 hcast hmod HTK HDR HL HO HO2 HM HBL hWt hH4 HH5
          go_wp2_with fail
          rw [← hW5]
          clear hW5
          go_roundw
          case rel => exact ⟨k + m, some a5, by omega, rfl, hSl5, HAP.out _, hB5, hK5, hFw⟩
          case measure => simp [sliceLen]; omega
    · have e0 : k = n := by omega
      have hz : zs.take k = zs := List.take_of_length_le (by omega)
      have hle : ¬ (0 : Int) < ((n - k : Nat) : Int) := by omega
      rw [hz] at hB
      clear e0 hz
      go_wp2
      go_ret
      exact ⟨rfl, hB, hkw, hF⟩
end Go.Proofs.YtmikhnaffhheoaaDoor
