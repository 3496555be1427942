/- Whatever three rows of bytes (of up to a stated length): the walk of law05.HashForks ends with true. -/
import Derived.Test.YtdglclokjfinfaaDoorEqArr
import Derived.Test.YtdglclokjfinfaaDoorRfSum
namespace Go.Proofs.YtdglclokjfinfaaDoor
open Go.RowKit
theorem Fr.grownP {p : Nat} {w w' : World} (h : Fr (fun k => k = p) w w') : w.grownBy w' (some p) :=
  ⟨h.os, h.tape, h.output, h.size, fun k hk hn => h.block k hk (fun e => hn (by rw [e]))⟩
/-- What stands while two hashes are written to. -/
structure FkC (w0 : World) (a : Option Addr) (n c : Nat) (zs : List Nat) (a2 : Option Addr) (n2 c2 : Nat) (ys : List Nat) (a3 : Option Addr) (n3 c3 : Nat) (xs : List Nat) (W : World) : Prop where
  sZ : Sl W a n c zs
  sY : Sl W a2 n2 c2 ys
  sX : Sl W a3 n3 c3 xs
  kw : KW W
  bel : Below w0.heap.size w0 W
theorem FkC.next {w0 : World} {a : Option Addr} {n c : Nat} {zs : List Nat} {a2 : Option Addr} {n2 c2 : Nat} {ys : List Nat} {a3 : Option Addr} {n3 c3 : Nat} {xs : List Nat} {W W' : World} (h : FkC w0 a n c zs a2 n2 c2 ys a3 n3 c3 xs W) (hb : Below W.heap.size W W') : FkC w0 a n c zs a2 n2 c2 ys a3 n3 c3 xs W' :=
  ⟨h.sZ.below hb, h.sY.below hb, h.sX.below hb, h.kw.below (Nat.le_refl _) hb, h.bel.trans (hb.mono h.bel.size)⟩
theorem blk_ne {w : World} {a : Option Addr} {n c : Nat} {zs : List Nat} {p : Nat} (h : Sl w a n c zs) (hp : w.heap.size ≤ p) : blkOf a n ≠ some p := fun e => by have := (slB_of h).2 p e; omega
set_option maxRecDepth 100000 in
set_option maxHeartbeats 4000000 in
theorem walk_HashForks (a : Option Addr) (n c : Nat) (zs : List Nat) (a2 : Option Addr) (n2 c2 : Nat) (ys : List Nat) (a3 : Option Addr) (n3 c3 : Nat) (xs : List Nat) (w : World) (h1 : Sl w a n c zs ∧ n ≤ 1048576) (h2 : Sl w a2 n2 c2 ys ∧ n2 ≤ 1048576) (h3 : Sl w a3 n3 c3 xs ∧ n3 ≤ 1048576) (hk : KW w) :
    Calls Tryd.prog 8 #[.slice a n c, .slice a2 n2 c2, .slice a3 n3 c3] w fun e w' => e = .returned (.bool true) ∧ Below w.heap.size w w' := by
  obtain ⟨hZ, hn⟩ := h1
  obtain ⟨hY, hn2⟩ := h2
  obtain ⟨hX, hn3⟩ := h3
  have hlz := hZ.len
  have hly := hY.len
  have hlx := hX.len
  have hC0 : FkC w a n c zs a2 n2 c2 ys a3 n3 c3 xs w := ⟨hZ, hY, hX, hk, Below.refl _ _⟩
  have hkg := hk.1
  go_enter Tryd.func8, Tryd.ntmps8
  go_wp2_with fail
  refine (hnew_any w).mono ?_
  rintro e w1 ⟨p, rfl, hH1, hb1⟩
  have hB1 : HB w1 w.heap.size p [] := ⟨_, hH1, fun i hi => by simp at hi⟩
  have hpw : w.heap.size ≤ p := hH1.base
  have hp1 : p < w1.heap.size := hH1.lt
  have hpg : p ≠ 0 := by omega
  have hC1 := hC0.next hb1
  have ho := own_empty w1
  clear hH1
  go_wp2_with (at_builtin; go_must (refine app_list rfl _ _ rfl w1.heap.size _ 0 0 [] rfl ho _ n c zs rfl (hC1.sZ.below ((Below.refl _ _).alloc (Nat.le_refl _) _)) (by omega) (by simp) ?_))
  intro a4 c4 w2 ho2' hg2
  have ho2 : OwnB w2 w1.heap.size a4 n c4 zs := by simpa using ho2'
  have hb12 : Below w1.heap.size w1 w2 := ((Below.refl _ _).alloc (Nat.le_refl _) _).trans (ho.up hg2 (by simp))
  have hC2 := hC1.next hb12
  have hB2 := hB1.below hb12
  have hs2 := ho2.sl (by omega)
  have hne2 : (Value.slice a4 n c4).ownBlock ≠ some p := fun e => by have := (ho2.own.lt p e).1; omega
  have hap2 : blkOf a4 n ≠ some p := by
    intro e
    rcases hs2.at_ with h0 | ⟨b, off, rfl, _, _⟩
    · simp [blkOf, h0] at e
    · have e2 := blk_of e
      exact hne2 (by simp [Value.ownBlock]; exact e2)
  have hz12 := hb12.size
  clear ho2' hg2 ho hB1 hC1
  go_wp2_with fail
  refine (hwrite_any w.heap.size p [] a4 n c4 zs w2 hB2 hC2.kw hpg hs2 hap2 (by simp; omega)).mono ?_
  rintro e w3 ⟨rfl, hB3, hk3, hf3⟩
  rw [List.nil_append] at hB3
  have hb03 : Below w.heap.size w w3 := hC2.bel.trans (hf3.below w.heap.size hC2.bel.size (fun k e => by omega))
  have ho3 := ho2.kept hf3.grownP (.inr hne2)
  have hz3 := hf3.size
  clear hB2 hC2 hs2 hf3 ho2 hk3 hap2 hb12
  go_wp2_with fail
  go_loopw [9] (fun iv wr => ∃ (i : Nat) (L : List Nat), i ≤ n ∧ iv = .int .i64 i ∧ OwnB wr w1.heap.size a4 n c4 L ∧ HB wr w.heap.size p zs ∧ Below w.heap.size w wr) (fun iv _ => n - (intOf iv).toNat)
  case atStart => exact ⟨0, zs, by omega, rfl, ho3, hB3, hb03⟩
  case round =>
    obtain ⟨i, L, hi, rfl, hoL, hBL, hbL⟩ := hrel
    clear ho3 hB3 hb03
    by_cases hin : i < n
    · have hform : ∃ g, a4 = some ⟨g, 0, none⟩ := by
        rcases hoL.own.2 with ⟨_, h00⟩ | ⟨g, cap, cur, hv, _⟩
        · omega
        · injection hv with e1
          exact ⟨g, e1⟩
      obtain ⟨g, rfl⟩ := hform
      have hc := hoL.cell i hin
      have hf := hoL.free i
      have hxb := hoL.bnd i
      have hgb : w1.heap.size ≤ g := (hoL.own.lt g rfl).1
      have HST : Hid (∀ y, y < 256 → OwnB (wr.setCell ⟨g, i, none⟩ (.int .u8 (y : Nat))) w1.heap.size (some ⟨g, 0, none⟩) n c4 (L.set i y)) := fun y hy => hoL.store i y hy
      have HBH : Hid (∀ v, HB (wr.setCell ⟨g, i, none⟩ v) w.heap.size p zs) := fun v => hBL.fr (Fr.setCell (fun k => k = g) _ _ _ rfl) (by omega)
      have HBB : Hid (∀ v, Below w.heap.size w (wr.setCell ⟨g, i, none⟩ v)) := fun v => hbL.setCell (p := ⟨g, i, none⟩) (by show w.heap.size ≤ g; omega) v
      generalize L.getD i 0 = x at *
      have hx1 := u8_xor_nat x 119 hxb (by omega)
      rw [show ((119 : Nat) : Int) = 119 from rfl] at hx1
      have hl1 := xor_lt8 x 119 hxb (by omega)
      generalize x ^^^ 119 = y at *
      have HS2 := (show Hid _ from HST.out y hl1)
      have hii : (i : Int) < (n : Int) := by omega
      clear hoL hBL hbL HST
      go_wp2
      go_roundw
      case rel => exact ⟨i + 1, L.set i y, by omega, by go_num, HS2.out, HBH.out _, HBB.out _⟩
      case measure => simp [intOf]; omega
    · have hii : ¬ (i : Int) < (n : Int) := by omega
      have hCr := hC0.next hbL
      obtain ⟨bq, hHq, hWq⟩ := hBL
      have hBp : HB wr w.heap.size p zs := ⟨bq, hHq, hWq⟩
      clear hoL hi hin
      go_wp2_with fail
      refine (hfork_any w.heap.size p _ bq _ wr hHq).mono ?_
      rintro e w4 ⟨q, rfl, hF4, hb4⟩
      have hBq : HB w4 wr.heap.size q zs := ⟨bq, hF4, hWq⟩
      have hBp4 := hBp.below hb4
      have hC4 := hCr.next hb4
      have hqw : wr.heap.size ≤ q := hF4.base
      have hpr : p < wr.heap.size := hHq.lt
      have hwr : w.heap.size ≤ wr.heap.size := hbL.size
      have hqg : q ≠ 0 := by omega
      have hapY : blkOf a2 n2 ≠ some q := blk_ne hY (by omega)
      have hapX : blkOf a3 n3 ≠ some p := blk_ne hX hpw
      clear hF4 hHq hWq hBp hCr hb4
      go_wp2_with fail
      refine (hwrite_any wr.heap.size q zs a2 n2 c2 ys w4 hBq hC4.kw hqg hC4.sY hapY (by omega)).mono ?_
      rintro e w5 ⟨rfl, hBq5, hk5, hf5⟩
      have hBp5 := hBp4.fr hf5 (by omega)
      have hb05 : Below w.heap.size w w5 := hC4.bel.trans (hf5.below w.heap.size hC4.bel.size (fun k e => by omega))
      have hC5 := hC0.next hb05
      clear hBq hBp4 hC4 hf5 hk5 hb05
      go_wp2_with fail
      refine (hwrite_any w.heap.size p zs a3 n3 c3 xs w5 hBp5 hC5.kw hpg hC5.sX hapX (by omega)).mono ?_
      rintro e w6 ⟨rfl, hBp6, hk6, hf6⟩
      have hBq6 := hBq5.fr hf6 (by omega)
      have hb06 : Below w.heap.size w w6 := hC5.bel.trans (hf6.below w.heap.size hC5.bel.size (fun k e => by omega))
      have hC6 := hC0.next hb06
      clear hBq5 hBp5 hC5 hf6 hk6 hb06
      go_wp2_with fail
      refine (live5_any _ hC6.kw).mono ?_
      rintro e w7 ⟨rfl, hk7, hb7⟩
      have hBp7 := hBp6.below hb7
      have hBq7 := hBq6.below hb7
      have hC7 := hC6.next hb7
      clear hBp6 hBq6 hC6 hb7 hk7
      have hzx : (zs ++ xs).length = n + n3 := by simp; omega
      have hzy : (zs ++ ys).length = n + n2 := by simp; omega
      obtain ⟨m1, hm1⟩ : ∃ m1, m1 = (vals (shaN (zs ++ xs))).toArray := ⟨_, rfl⟩
      obtain ⟨m2, hm2⟩ : ∃ m2, m2 = (vals (shaN (zs ++ ys))).toArray := ⟨_, rfl⟩
      have heq1 := fun W => eq_vals (shaN (zs ++ xs)) (shaN_len _) (shaN_bnd _) W
      have heq2 := fun W => eq_vals (shaN (zs ++ ys)) (shaN_len _) (shaN_bnd _) W
      have hs1 := hsum_any w.heap.size p (zs ++ xs) w7 hBp7 hC7.kw (by rw [hzx]; omega)
      rw [← hm1] at heq1 hs1
      rw [← hm2] at heq2
      have HM1 := (show Hid _ from hm1)
      have HM2 := (show Hid _ from hm2)
      clear hm1 hm2
      go_wp2_with fail
      refine hs1.mono ?_
      rintro e w8 ⟨rfl, hk8, hb8⟩
      have hBq8 := hBq7.below hb8
      have hC8 := hC7.next hb8
      have ho8 := own_empty w8
      clear hBp7 hBq7 hC7 hb8 hk8 hs1
      go_wp2_with (at_builtin; go_must (refine app_list rfl _ _ rfl w8.heap.size _ 0 0 [] rfl ho8 _ n c zs rfl (hC8.sZ.below ((Below.refl _ _).alloc (Nat.le_refl _) _)) (by omega) (by simp) ?_))
      intro a9 c9 w9 ho9' hg9
      have ho9 : OwnB w9 w8.heap.size a9 n c9 zs := by simpa using ho9'
      have hb89 : Below w8.heap.size w8 w9 := ((Below.refl _ _).alloc (Nat.le_refl _) _).trans (ho8.up hg9 (by simp))
      have hX9 := hC8.sX.below hb89
      have hz89 := hb89.size
      clear ho9' hg9 ho8
      go_wp2_with (at_builtin; go_must (refine app_list rfl _ _ rfl w8.heap.size a9 n c9 zs rfl ho9 _ n3 c3 xs rfl hX9 (by omega) hz89 ?_))
      intro aa ca wa hoa hga
      have hb8a : Below w8.heap.size w8 wa := hb89.trans (ho9.up hga hz89)
      have hBqa := hBq8.below hb8a
      have hCa := hC8.next hb8a
      have hra := rsum_any aa (n + n3) ca (zs ++ xs) wa (hoa.sl (by omega)) (by omega)
      rw [← HM1.out] at hra
      clear hga hoa ho9 hb89 hb8a hX9 hBq8 hC8
      go_wp2_with fail
      refine hra.mono ?_
      rintro e wb ⟨rfl, hbb⟩
      have he1 := heq1 wb
      have hBqb := hBqa.below hbb
      have hCb := hCa.next hbb
      have hs2 := hsum_any wr.heap.size q (zs ++ ys) wb hBqb hCb.kw (by rw [hzy]; omega)
      rw [← HM2.out] at hs2
      clear hra hBqa hCa hbb hBqb
      go_wp2_with fail
      refine hs2.mono ?_
      rintro e wc ⟨rfl, hkc, hbc⟩
      have hCc := hCb.next hbc
      have hoc := own_empty wc
      clear hCb hbc hkc hs2 he1
      go_wp2_with (at_builtin; go_must (refine app_list rfl _ _ rfl wc.heap.size _ 0 0 [] rfl hoc _ n c zs rfl (hCc.sZ.below ((Below.refl _ _).alloc (Nat.le_refl _) _)) (by omega) (by simp) ?_))
      intro ad cd wd hod' hgd
      have hod : OwnB wd wc.heap.size ad n cd zs := by simpa using hod'
      have hbcd : Below wc.heap.size wc wd := ((Below.refl _ _).alloc (Nat.le_refl _) _).trans (hoc.up hgd (by simp))
      have hYd := hCc.sY.below hbcd
      have hzcd := hbcd.size
      clear hod' hgd hoc
      go_wp2_with (at_builtin; go_must (refine app_list rfl _ _ rfl wc.heap.size ad n cd zs rfl hod _ n2 c2 ys rfl hYd (by omega) hzcd ?_))
      intro ae ce we hoe hge
      have hbce : Below wc.heap.size wc we := hbcd.trans (hod.up hge hzcd)
      have hCe := hCc.next hbce
      have hre := rsum_any ae (n + n2) ce (zs ++ ys) we (hoe.sl (by omega)) (by omega)
      rw [← HM2.out] at hre
      clear hge hoe hod hbcd hbce hYd hCc
      go_wp2_with fail
      refine hre.mono ?_
      rintro e wf ⟨rfl, hbf⟩
      have he2 := heq2 wf
      go_wp2
      go_ret
      exact ⟨rfl, (hCe.next hbf).bel⟩
end Go.Proofs.YtdglclokjfinfaaDoor
