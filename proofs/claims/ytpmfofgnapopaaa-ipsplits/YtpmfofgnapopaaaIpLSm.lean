/- What law10.same answers of the pieces of one packet. -/
import Derived.Test.YtpmfofgnapopaaaIpPcN
import Derived.Test.YtpmfofgnapopaaaIpSame
import Derived.Deep.RegionHeld3
namespace Go.Proofs.Ytpmfofgnapopaaa
open Go.RowKit
set_option maxRecDepth 100000 in
set_option maxHeartbeats 1000000 in
theorem lsame_any (sr ds pr tt id : Nat) (dn mo : Bool) (of : Int) (zs : List Nat) (mtu : Int) (P : Nat → Nat) (ps qs : List Pk) (B1 B2 : Nat) (a1 a2 : Option Addr) (c1 c2 : Nat) (w : World) (k1 : OwnK w B1 a1 ps.length c1 ps) (k2 : OwnK w B2 a2 qs.length c2 qs) (h1 : PcR w sr ds pr tt id dn mo of zs mtu P ps) (h2 : PcR w sr ds pr tt id dn mo of zs mtu P qs) (hlen : qs.length = ps.length) :
    Calls Try.prog 17 #[.slice a1 ps.length c1, .slice a2 qs.length c2] w fun e w' => e = .returned (.bool true) ∧ Below w.heap.size w w' := by
  obtain ⟨K, hK⟩ : ∃ K, K = ps.length := ⟨_, rfl⟩
  have hK2 : qs.length = K := by omega
  rw [← hK] at k1 ⊢
  rw [hK2] at k2 ⊢
  have HK := (show Hid _ from hK)
  have HK2 := (show Hid _ from hK2)
  have hKb : K ≤ 9223372036854775807 := by
    by_cases h : 0 < K
    · obtain ⟨_, _, _, _, h1, h2, _⟩ := k1.at_ h
      unfold maxLen at h2
      omega
    · omega
  clear hK hK2 hlen
  go_enter Try.func17, Try.ntmps17
  go_wp2_with fail
  go_loopw [5] (fun iv wr => ∃ (j : Nat), j ≤ K ∧ iv = .int .i64 (j : Nat) ∧ Below w.heap.size w wr) (fun iv _ => K - (intOf iv).toNat)
  case atStart => exact ⟨0, by omega, rfl, Below.refl _ _⟩
  case round =>
    obtain ⟨j, hj, rfl, hbel⟩ := hrel
    by_cases hjK : j < K
    · have hji : (j : Int) < (K : Int) := by omega
      have kr1 := k1.below hbel
      have kr2 := k2.below hbel
      have hr1 := h1.below hbel
      have hr2 := h2.below hbel
      obtain ⟨x, hx⟩ : ∃ x, ps[j]? = some x := ⟨_, List.getElem?_eq_getElem (by rw [← HK.out]; exact hjK)⟩
      obtain ⟨y, hy⟩ : ∃ y, qs[j]? = some y := ⟨_, List.getElem?_eq_getElem (by rw [HK2.out]; exact hjK)⟩
      obtain ⟨g1, rfl, _, hgl1, hcap1, _, hcell1⟩ := kr1.at_ (by omega)
      obtain ⟨g2, rfl, _, hgl2, hcap2, _, hcell2⟩ := kr2.at_ (by omega)
      obtain ⟨e1, e2, e3, e4, e5, e6, e7, e8, e9, e10, e11, e12, e13⟩ := hr1.each j x hx
      obtain ⟨d1, d2, d3, d4, d5, d6, d7, d8, d9, d10, d11, d12, d13⟩ := hr2.each j y hy
      have lc1 := fun i u hu => hcell1 j x hx i u hu
      have lc2 := fun i u hu => hcell2 j y hy i u hu
      obtain ⟨xs, xd, xp, xt, xi, xn, xm, xo, xa, xl, xc⟩ := x
      obtain ⟨ys, yd, yp, yt, yi, yn, ym, yo, ya, yl, yc⟩ := y
      simp only at e1 e2 e3 e4 e5 e6 e7 e8 e9 e10 e11 e12 e13 d1 d2 d3 d4 d5 d6 d7 d8 d9 d10 d11 d12 d13
      obtain rfl : yl = xl := by omega
      rw [HK2.out] at d8
      rw [← HK.out] at e8
      subst e1 e2 e3 e4 e5 e6 e7 e8 d1 d2 d3 d4 d5 d6 d7 d8
      generalize (zs.drop (P j)).take yl = BY at *
      obtain ⟨OO, hOO⟩ : ∃ OO, OO = of + (P j : Int) := ⟨_, rfl⟩
      obtain ⟨MM, hMM⟩ : ∃ MM, MM = (mo || decide (j + 1 < K)) := ⟨_, rfl⟩
      have l0 := lc1 0 _ rfl
      have m0 := lc2 0 _ rfl
      have l1 := lc1 1 _ rfl
      have m1 := lc2 1 _ rfl
      have l2 := lc1 2 _ rfl
      have m2 := lc2 2 _ rfl
      have l3 := lc1 3 _ rfl
      have m3 := lc2 3 _ rfl
      have l4 := lc1 4 _ rfl
      have m4 := lc2 4 _ rfl
      have l5 := lc1 5 _ rfl
      have m5 := lc2 5 _ rfl
      have l6 := lc1 6 _ rfl
      have m6 := lc2 6 _ rfl
      have l7 := lc1 7 _ rfl
      have m7 := lc2 7 _ rfl
      have l8 := lc1 8 _ rfl
      have m8 := lc2 8 _ rfl
      simp only [Nat.add_zero] at l0 m0
      simp only [← hOO, ← hMM] at l6 l7 m6 m7
      clear lc1 lc2 hcell1 hcell2 hr1 hr2 kr1 kr2 hx hy e10 e11 e12 e13 d10 d11 d12 d13 hOO hMM
      have bd : Below wr.heap.size wr wr.drew := (Below.refl _ _).drew
      have dl0 := (bd.cell (p := ⟨g1, j * 9, none⟩) hgl1).trans l0
      have dl1 := (bd.cell (p := ⟨g1, j * 9 + 1, none⟩) hgl1).trans l1
      have dl2 := (bd.cell (p := ⟨g1, j * 9 + 2, none⟩) hgl1).trans l2
      have dl3 := (bd.cell (p := ⟨g1, j * 9 + 3, none⟩) hgl1).trans l3
      have dl4 := (bd.cell (p := ⟨g1, j * 9 + 4, none⟩) hgl1).trans l4
      have dl5 := (bd.cell (p := ⟨g1, j * 9 + 5, none⟩) hgl1).trans l5
      have dl6 := (bd.cell (p := ⟨g1, j * 9 + 6, none⟩) hgl1).trans l6
      have dl7 := (bd.cell (p := ⟨g1, j * 9 + 7, none⟩) hgl1).trans l7
      have dl8 := (bd.cell (p := ⟨g1, j * 9 + 8, none⟩) hgl1).trans l8
      have dm0 := (bd.cell (p := ⟨g2, j * 9, none⟩) hgl2).trans m0
      have dm1 := (bd.cell (p := ⟨g2, j * 9 + 1, none⟩) hgl2).trans m1
      have dm2 := (bd.cell (p := ⟨g2, j * 9 + 2, none⟩) hgl2).trans m2
      have dm3 := (bd.cell (p := ⟨g2, j * 9 + 3, none⟩) hgl2).trans m3
      have dm4 := (bd.cell (p := ⟨g2, j * 9 + 4, none⟩) hgl2).trans m4
      have dm5 := (bd.cell (p := ⟨g2, j * 9 + 5, none⟩) hgl2).trans m5
      have dm6 := (bd.cell (p := ⟨g2, j * 9 + 6, none⟩) hgl2).trans m6
      have dm7 := (bd.cell (p := ⟨g2, j * 9 + 7, none⟩) hgl2).trans m7
      have dm8 := (bd.cell (p := ⟨g2, j * 9 + 8, none⟩) hgl2).trans m8
      have e9d := e9.below bd
      have d9d := d9.below bd
      go_wp2_with fail
      clear l0 m0 l1 m1 l2 m2 l3 m3 l4 m4 l5 m5 l6 m6 l7 m7 l8 m8
      go_region_held3 (fun w' => w'.cell? ⟨g1, j * 9, none⟩ = some (.int .u32 (ys : Nat)) ∧ w'.cell? ⟨g1, j * 9 + 1, none⟩ = some (.int .u32 (yd : Nat)) ∧ w'.cell? ⟨g1, j * 9 + 2, none⟩ = some (.int .u8 (yp : Nat)) ∧ w'.cell? ⟨g1, j * 9 + 3, none⟩ = some (.int .u8 (yt : Nat)) ∧ w'.cell? ⟨g1, j * 9 + 4, none⟩ = some (.int .u16 (yi : Nat)) ∧ w'.cell? ⟨g1, j * 9 + 5, none⟩ = some (.bool yn) ∧ w'.cell? ⟨g1, j * 9 + 6, none⟩ = some (.bool MM) ∧ w'.cell? ⟨g1, j * 9 + 7, none⟩ = some (.int .i64 OO) ∧ w'.cell? ⟨g1, j * 9 + 8, none⟩ = some (.slice xa yl xc) ∧ w'.cell? ⟨g2, j * 9, none⟩ = some (.int .u32 (ys : Nat)) ∧ w'.cell? ⟨g2, j * 9 + 1, none⟩ = some (.int .u32 (yd : Nat)) ∧ w'.cell? ⟨g2, j * 9 + 2, none⟩ = some (.int .u8 (yp : Nat)) ∧ w'.cell? ⟨g2, j * 9 + 3, none⟩ = some (.int .u8 (yt : Nat)) ∧ w'.cell? ⟨g2, j * 9 + 4, none⟩ = some (.int .u16 (yi : Nat)) ∧ w'.cell? ⟨g2, j * 9 + 5, none⟩ = some (.bool yn) ∧ w'.cell? ⟨g2, j * 9 + 6, none⟩ = some (.bool MM) ∧ w'.cell? ⟨g2, j * 9 + 7, none⟩ = some (.int .i64 OO) ∧ w'.cell? ⟨g2, j * 9 + 8, none⟩ = some (.slice ya yl yc)) (first | exact ⟨dl0, dl1, dl2, dl3, dl4, dl5, dl6, dl7, dl8, dm0, dm1, dm2, dm3, dm4, dm5, dm6, dm7, dm8⟩ | exact ⟨nl0, nl1, nl2, nl3, nl4, nl5, nl6, nl7, nl8, nm0, nm1, nm2, nm3, nm4, nm5, nm6, nm7, nm8⟩ | fail) (first
        | (go_at_call 14; refine (isame_any ys yd yp yt yi yn MM OO xa yl xc BY ya yc wr.drew e9d d9d).mono ?_; rintro e w3 ⟨rfl, b3⟩; have nl0 := (b3.cell (p := ⟨g1, j * 9, none⟩) hgl1).trans dl0; have nl1 := (b3.cell (p := ⟨g1, j * 9 + 1, none⟩) hgl1).trans dl1; have nl2 := (b3.cell (p := ⟨g1, j * 9 + 2, none⟩) hgl1).trans dl2; have nl3 := (b3.cell (p := ⟨g1, j * 9 + 3, none⟩) hgl1).trans dl3; have nl4 := (b3.cell (p := ⟨g1, j * 9 + 4, none⟩) hgl1).trans dl4; have nl5 := (b3.cell (p := ⟨g1, j * 9 + 5, none⟩) hgl1).trans dl5; have nl6 := (b3.cell (p := ⟨g1, j * 9 + 6, none⟩) hgl1).trans dl6; have nl7 := (b3.cell (p := ⟨g1, j * 9 + 7, none⟩) hgl1).trans dl7; have nl8 := (b3.cell (p := ⟨g1, j * 9 + 8, none⟩) hgl1).trans dl8; have nm0 := (b3.cell (p := ⟨g2, j * 9, none⟩) hgl2).trans dm0; have nm1 := (b3.cell (p := ⟨g2, j * 9 + 1, none⟩) hgl2).trans dm1; have nm2 := (b3.cell (p := ⟨g2, j * 9 + 2, none⟩) hgl2).trans dm2; have nm3 := (b3.cell (p := ⟨g2, j * 9 + 3, none⟩) hgl2).trans dm3; have nm4 := (b3.cell (p := ⟨g2, j * 9 + 4, none⟩) hgl2).trans dm4; have nm5 := (b3.cell (p := ⟨g2, j * 9 + 5, none⟩) hgl2).trans dm5; have nm6 := (b3.cell (p := ⟨g2, j * 9 + 6, none⟩) hgl2).trans dm6; have nm7 := (b3.cell (p := ⟨g2, j * 9 + 7, none⟩) hgl2).trans dm7; have nm8 := (b3.cell (p := ⟨g2, j * 9 + 8, none⟩) hgl2).trans dm8)
        | fail)
      have bb3 : Below w.heap.size w w3 := (hbel.trans (bd.mono hbel.size)).trans (b3.mono hbel.size)
      clear dl0 dl1 dl2 dl3 dl4 dl5 dl6 dl7 dl8 dm0 dm1 dm2 dm3 dm4 dm5 dm6 dm7 dm8 nl0 nl1 nl2 nl3 nl4 nl5 nl6 nl7 nl8 nm0 nm1 nm2 nm3 nm4 nm5 nm6 nm7 nm8 e9 d9 e9d d9d
      go_wp2
      go_roundw
      case rel => exact ⟨j + 1, by omega, by go_num, bb3⟩
      case measure => simp [intOf]; omega
    · have hji : ¬ (j : Int) < (K : Int) := by omega
      go_wp2
      go_ret
      exact ⟨rfl, hbel⟩
end Go.Proofs.Ytpmfofgnapopaaa
