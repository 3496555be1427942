/- streams: what is told by a message that is whole. -/
import Derived.Test.YtjaheelgcjafcaaSfN
namespace Go.Proofs.Ytjaheelgcjafcaa
open Go.RowKit Go.MapKept Go.Maps
structure TellP (w : World) (p nb mb wb : Nat) (Y : Nat → Prop) (s : SmS) (ps : List Pc) (e : Ending) (w' : World) : Prop where
  ex : ∃ a n c, e = .returned (.slice a n c) ∧ MsgsW w' w.heap.size a n c (s.tell ps).2
  sm : ∃ wr, SmW w' p nb mb wb wr Y (s.tell ps).1
  fr : Fr (fun k => k = nb ∨ k = wb) w w'
set_option linter.unusedVariables false in
set_option maxRecDepth 100000 in
set_option maxHeartbeats 4000000 in
theorem tell_any {w : World} {p nb mb wb : Nat} {wr0 : Nat → Option Addr × Nat} {Y : Nat → Prop} {s : SmS} (h : SmW w p nb mb wb wr0 Y s) {ra : Option Addr} {rc : Nat} {ps : List Pc} (hrow : RowW Y w ra rc ps) (hst : (ps.headD zeroPc).st < s.nx.length) (hhl : s.heldN + ps.length ≤ 128) :
    Calls Try.prog 27 #[.pointer (some ⟨p, 0, none⟩), .slice ra ps.length rc] w (TellP w p nb mb wb Y s ps) := by
  have hpl := h.st.lt
  have hnbl := h.nl
  have hle := hrow.le
  have hpos := hrow.pos
  have hcap := hrow.cap
  obtain ⟨x, hx0⟩ : ∃ x, ps[0]? = some x := ⟨_, List.getElem?_eq_getElem hpos⟩
  have hxw := hrow.each x (List.mem_of_getElem? hx0)
  have hhd : ps.headD zeroPc = x := by
    cases ps with
    | nil => cases hx0
    | cons y ps => simp at hx0; subst hx0; rfl
  rw [hhd] at hst
  have HT : Hid (s.tell ps = if x.free then (s, [joinM ps]) else if 0 < aheadV 65536 x.ss (s.nx.getD x.st 0) then (s, []) else SmS.rel ⟨s.nx, s.D, putD s.W (tkey x.st x.ss) ps⟩ x.st) := by
    show _ = _
    unfold SmS.tell
    rw [hhd]
  have hn8 := h.n8
  have hssl := hxw.ok.ss
  have hnv := h.nv x.st
  obtain ⟨g, hga, hg, _, hcell⟩ := hrow.at_
  subst hga
  have HFR0 := (show Hid _ from fun V => free_any x.fl (.int .u16 (x.st : Nat)) (.int .u16 (x.ss : Nat)) (.int .u32 (x.pp : Nat)) (.slice x.a x.n x.c) V hxw.ok.fl _ rfl)
  have hcx := fun k u (hu : x.v[k]? = some u) => hcell 0 x hx0 k u hu
  have e0 := hcx 0 _ rfl
  have e1 := hcx 1 _ rfl
  have e2 := hcx 2 _ rfl
  have e3 := hcx 3 _ rfl
  have e4 := hcx 4 _ rfl
  simp only [Nat.zero_mul, Nat.zero_add] at e0 e1 e2 e3 e4
  have HH := (show Hid _ from And.intro h (And.intro hrow hhl))
  have cN := h.nx x.st hst
  obtain ⟨sn, hsn⟩ : ∃ sn, sn = s.nx.length := ⟨_, rfl⟩
  obtain ⟨nv, hnvE⟩ : ∃ nv, nv = s.nx.getD x.st 0 := ⟨_, rfl⟩
  obtain ⟨np, hnp⟩ : ∃ np, np = ps.length := ⟨_, rfl⟩
  have c0 := h.st.cell 0 _ rfl
  rw [← hsn] at hst hn8 c0
  rw [← hnvE] at hnv HT cN
  rw [← hnp] at hle hpos hcap ⊢
  have HSN := (show Hid _ from And.intro hsn (And.intro hnvE hnp))
  clear h hrow hcell hcx hx0 hhd hxw hsn hnvE hnp hhl
  obtain ⟨fl1, st1, ss1, pp1, a1, n1, c1, z1⟩ := x
  unfold Pc.free at HT
  dsimp only at e0 e1 e2 e3 e4 HT HFR0 hst hssl hnv cN
  generalize decide (fl1 / 4 % 2 = 1) = fr at *
  have HFR : Hid (∀ V, Calls Try.prog 43 #[.agg #[.int .u8 (fl1 : Nat), .int .u16 (st1 : Nat), .int .u16 (ss1 : Nat), .int .u32 (pp1 : Nat), .slice a1 n1 c1]] V fun e w' => e = .returned (.bool fr) ∧ Below V.heap.size V w') := HFR0.out
  clear HFR0
  have hsti : (st1 : Int) < (sn : Int) := by omega
  obtain ⟨W1, hW1⟩ : ∃ W1, W1 = w.alloc (.cells #[.int .u8 (fl1 : Nat), .int .u16 (st1 : Nat), .int .u16 (ss1 : Nat), .int .u32 (pp1 : Nat), .slice a1 n1 c1] 79) := ⟨_, rfl⟩
  have b1 : Below w.heap.size w W1 := by rw [hW1]; exact (Below.refl _ _).alloc (Nat.le_refl _) _
  have HX : Hid (Below w.heap.size w W1 ∧ Stc W1 w.heap.size [.int .u8 (fl1 : Nat), .int .u16 (st1 : Nat), .int .u16 (ss1 : Nat), .int .u32 (pp1 : Nat), .slice a1 n1 c1] ∧ w.heap.size < W1.heap.size) := ⟨b1, Stc.new w [.int .u8 (fl1 : Nat), .int .u16 (st1 : Nat), .int .u16 (ss1 : Nat), .int .u32 (pp1 : Nat), .slice a1 n1 c1] 79 W1 hW1, by rw [hW1]; simp⟩
  clear b1
  go_enter Try.func27, Try.ntmps27
  go_wp2_with fail
  rw [← hW1]
  clear hW1 e0 e1 e2 e3 e4
  refine (HFR.out W1).mono ?_
  rintro e V ⟨rfl, hbV⟩
  have HV : Hid (Below w.heap.size w V ∧ Stc V w.heap.size [.int .u8 (fl1 : Nat), .int .u16 (st1 : Nat), .int .u16 (ss1 : Nat), .int .u32 (pp1 : Nat), .slice a1 n1 c1] ∧ w.heap.size < V.heap.size) := ⟨HX.out.1.trans (hbV.mono HX.out.1.size), HX.out.2.1.below hbV, Nat.lt_of_lt_of_le HX.out.2.2 hbV.size⟩
  clear hbV HX HFR
  cases fr with
  | true =>
    have HJN := (show Hid _ from joined_any (HH.out.2.1.fr (Q := fun _ => False) (Fr.of_below HV.out.1) (fun _ _ e => e.elim)))
    rw [← HSN.out.2.2] at HJN
    go_wp2_with fail
    refine Calls.mono HJN.out ?_
    rintro e w7 ⟨⟨ja, jc, rfl, hjo⟩, hb7⟩
    have hb : Below w.heap.size w w7 := HV.out.1.trans (hb7.mono HV.out.1.size)
    have hone := MsgsW.one (hjo.base HV.out.1.size) hb.size
    have hba : ∀ o, Below w7.heap.size w7 (w7.alloc o) := fun o => (Below.refl _ _).alloc (Nat.le_refl _) _
    have HZ := (show Hid _ from And.intro hone (And.intro hb hba))
    obtain ⟨m, hm⟩ : ∃ m, m = joinM ps := ⟨_, rfl⟩
    rw [← hm] at HZ HT ⊢
    obtain ⟨mst, mss, mpp, mfr, mzs⟩ := m
    unfold Mg.v at HZ ⊢
    dsimp only at HZ ⊢
    clear hm hone hb hba hjo hb7 HJN
    go_wp2
    go_ret
    have ht := HT.out
    simp only [if_true] at ht
    refine ⟨⟨_, 1, 1, rfl, ?_⟩, ⟨wr0, ?_⟩, Fr.of_below (HZ.out.2.1.trans ((HZ.out.2.2 _).mono HZ.out.2.1.size))⟩
    · rw [ht]; exact HZ.out.1
    · rw [ht]; exact (HH.out.1.below HZ.out.2.1).below (HZ.out.2.2 _)
  | false =>
    have hsmV := HH.out.1.below HV.out.1
    have HLS : Hid (∀ W, Calls Try.prog 45 #[.int .u16 (ss1 : Nat), .int .u16 (nv : Nat)] W fun e w' => e = .returned (.bool (decide (0 < aheadV 65536 ss1 nv))) ∧ Below W.heap.size W w') := fun W => isLess_any ss1 nv W hssl hnv _ _ rfl rfl
    have HKC : Hid (∀ V', Below V.drew.heap.size V.drew V' → V'.cell? ⟨w.heap.size, 1, none⟩ = some (.int .u16 (st1 : Nat)) ∧ V'.cell? ⟨w.heap.size, 2, none⟩ = some (.int .u16 (ss1 : Nat)) ∧ V'.cell? ⟨p, 0, none⟩ = some (.slice (some ⟨nb, 0, none⟩) sn sn) ∧ V'.cell? ⟨nb, st1, none⟩ = some (.int .u16 (nv : Nat))) := fun V' hV' => by
      have hd : Below V.heap.size V V' := (Below.refl _ _).drew.trans (hV'.mono (Below.refl 0 V).drew.size)
      have s1 := HV.out.2.1.below hd
      have s2 := hsmV.below hd
      have z0 := s2.st.cell 0 _ rfl
      have z1 := s2.nx st1 (by rw [← HSN.out.1]; exact hst)
      rw [← HSN.out.1] at z0
      rw [← HSN.out.2.1] at z1
      exact ⟨s1.cell 1 _ rfl, s1.cell 2 _ rfl, z0, z1⟩
    have HSV := (show Hid _ from hsmV)
    clear hsmV
    cases hls : (decide (0 < aheadV 65536 ss1 nv)) with
    | true =>
      rw [hls] at HLS
      go_wp2_with fail
      refine wp_region_fixW mixedX (fun V2 => Below V.drew.heap.size V.drew V2) [(14, .pointer (some ⟨w.heap.size, 2, none⟩)), (15, .int .u16 (ss1 : Nat)), (16, .pointer (some ⟨p, 0, none⟩)), (17, .pointer (some ⟨p, 0, none⟩)), (18, .pointer (some ⟨p, 0, none⟩)), (19, .slice (some ⟨nb, 0, none⟩) sn sn), (20, .pointer (some ⟨w.heap.size, 1, none⟩)), (21, .int .u16 (st1 : Nat)), (22, .pointer (some ⟨nb, st1, none⟩)), (23, .int .u16 (nv : Nat)), (24, .bool true)] ?Z1 ?hZ1 (by kernel_rfl) (by kernel_rfl) (by kernel_rfl) (by kernel_rfl) ?h01 ?hops1 ?he1
      case hZ1 => simp only [List.foldl_cons, List.foldl_nil, List.setIfInBounds_toArray, List.set_cons_zero, List.set_cons_succ]; rfl
      case h01 => exact Below.refl _ _
      case hops1 =>
        refine ⟨?_, ?_, ?_, ?_, ?_, ?_, ?_, ?_, ?_, ?_, ?_, trivial⟩
        · exact fix_val (by rfl) (fun W hW => by obtain ⟨d0, d1, d2, d3⟩ := HKC.out W hW; go_simp; (try with_reducible rfl); (try omega))
        · exact fix_val (by rfl) (fun W hW => by obtain ⟨d0, d1, d2, d3⟩ := HKC.out W hW; go_simp; (try with_reducible rfl); (try omega))
        · exact fix_val (by rfl) (fun W hW => by obtain ⟨d0, d1, d2, d3⟩ := HKC.out W hW; go_simp; (try with_reducible rfl); (try omega))
        · exact fix_val (by rfl) (fun W hW => by obtain ⟨d0, d1, d2, d3⟩ := HKC.out W hW; go_simp; (try with_reducible rfl); (try omega))
        · exact fix_val (by rfl) (fun W hW => by obtain ⟨d0, d1, d2, d3⟩ := HKC.out W hW; go_simp; (try with_reducible rfl); (try omega))
        · exact fix_val (by rfl) (fun W hW => by obtain ⟨d0, d1, d2, d3⟩ := HKC.out W hW; go_simp; (try with_reducible rfl); (try omega))
        · exact fix_val (by rfl) (fun W hW => by obtain ⟨d0, d1, d2, d3⟩ := HKC.out W hW; go_simp; (try with_reducible rfl); (try omega))
        · exact fix_val (by rfl) (fun W hW => by obtain ⟨d0, d1, d2, d3⟩ := HKC.out W hW; go_simp; (try with_reducible rfl); (try omega))
        · exact fix_val (by rfl) (fun W hW => by obtain ⟨d0, d1, d2, d3⟩ := HKC.out W hW; go_simp; (try with_reducible rfl); (try omega))
        · exact fix_val (by rfl) (fun W hW => by obtain ⟨d0, d1, d2, d3⟩ := HKC.out W hW; go_simp; (try with_reducible rfl); (try omega))
        · exact fix_call (vs := [.int .u16 (ss1 : Nat), .int .u16 (nv : Nat)]) (by rfl) rfl (by rfl) Try.func45 (by rfl) (by rfl) (fun W hW => by exact (HLS.out W).mono (fun e V h => ⟨h.1, hW.trans (h.2.mono hW.size)⟩))
      case he1 =>
      intro V2 hV2
      have HV2 : Hid (Below w.heap.size w V2) := HV.out.1.trans (((Below.refl V.heap.size V).drew.trans (hV2.mono (Below.refl 0 V).drew.size)).mono HV.out.1.size)
      clear hV2
      go_wp2
      go_ret
      have ht := HT.out
      simp only [Bool.false_eq_true, if_false] at ht
      rw [if_pos (of_decide_eq_true hls)] at ht
      exact ⟨⟨none, 0, 0, rfl, by rw [ht]; exact MsgsW.nil _ _⟩, ⟨wr0, by rw [ht]; exact HH.out.1.below HV2.out⟩, Fr.of_below HV2.out⟩
    | false =>
      rw [hls] at HLS
      go_wp2_with fail
      refine wp_region_fixW mixedX (fun V2 => Below V.drew.heap.size V.drew V2) [(14, .pointer (some ⟨w.heap.size, 2, none⟩)), (15, .int .u16 (ss1 : Nat)), (16, .pointer (some ⟨p, 0, none⟩)), (17, .pointer (some ⟨p, 0, none⟩)), (18, .pointer (some ⟨p, 0, none⟩)), (19, .slice (some ⟨nb, 0, none⟩) sn sn), (20, .pointer (some ⟨w.heap.size, 1, none⟩)), (21, .int .u16 (st1 : Nat)), (22, .pointer (some ⟨nb, st1, none⟩)), (23, .int .u16 (nv : Nat)), (24, .bool false)] ?Z2 ?hZ2 (by kernel_rfl) (by kernel_rfl) (by kernel_rfl) (by kernel_rfl) ?h02 ?hops2 ?he2
      case hZ2 => simp only [List.foldl_cons, List.foldl_nil, List.setIfInBounds_toArray, List.set_cons_zero, List.set_cons_succ]; rfl
      case h02 => exact Below.refl _ _
      case hops2 =>
        refine ⟨?_, ?_, ?_, ?_, ?_, ?_, ?_, ?_, ?_, ?_, ?_, trivial⟩
        · exact fix_val (by rfl) (fun W hW => by obtain ⟨d0, d1, d2, d3⟩ := HKC.out W hW; go_simp; (try with_reducible rfl); (try omega))
        · exact fix_val (by rfl) (fun W hW => by obtain ⟨d0, d1, d2, d3⟩ := HKC.out W hW; go_simp; (try with_reducible rfl); (try omega))
        · exact fix_val (by rfl) (fun W hW => by obtain ⟨d0, d1, d2, d3⟩ := HKC.out W hW; go_simp; (try with_reducible rfl); (try omega))
        · exact fix_val (by rfl) (fun W hW => by obtain ⟨d0, d1, d2, d3⟩ := HKC.out W hW; go_simp; (try with_reducible rfl); (try omega))
        · exact fix_val (by rfl) (fun W hW => by obtain ⟨d0, d1, d2, d3⟩ := HKC.out W hW; go_simp; (try with_reducible rfl); (try omega))
        · exact fix_val (by rfl) (fun W hW => by obtain ⟨d0, d1, d2, d3⟩ := HKC.out W hW; go_simp; (try with_reducible rfl); (try omega))
        · exact fix_val (by rfl) (fun W hW => by obtain ⟨d0, d1, d2, d3⟩ := HKC.out W hW; go_simp; (try with_reducible rfl); (try omega))
        · exact fix_val (by rfl) (fun W hW => by obtain ⟨d0, d1, d2, d3⟩ := HKC.out W hW; go_simp; (try with_reducible rfl); (try omega))
        · exact fix_val (by rfl) (fun W hW => by obtain ⟨d0, d1, d2, d3⟩ := HKC.out W hW; go_simp; (try with_reducible rfl); (try omega))
        · exact fix_val (by rfl) (fun W hW => by obtain ⟨d0, d1, d2, d3⟩ := HKC.out W hW; go_simp; (try with_reducible rfl); (try omega))
        · exact fix_call (vs := [.int .u16 (ss1 : Nat), .int .u16 (nv : Nat)]) (by rfl) rfl (by rfl) Try.func45 (by rfl) (by rfl) (fun W hW => by exact (HLS.out W).mono (fun e V h => ⟨h.1, hW.trans (h.2.mono hW.size)⟩))
      case he2 =>
      intro V2 hV2
      have hb2 : Below w.heap.size w V2 := HV.out.1.trans (((Below.refl V.heap.size V).drew.trans (hV2.mono (Below.refl 0 V).drew.size)).mono HV.out.1.size)
      have hb3 : Below w.heap.size w V2.drew := hb2.drew
      obtain ⟨d1, d2, _, _⟩ := HKC.out V2.drew hV2.drew
      have hsm3 := HH.out.1.below hb3
      have hrow3 := HH.out.2.1.fr (Q := fun _ => False) (Fr.of_below hb3) (fun _ _ e => e.elim)
      have hhl := HH.out.2.2
      obtain ⟨w4, wr4, hr4, hsm4, hf4⟩ := hsm3.putW st1 ss1 hssl (by omega) hrow3 (by unfold SmS.heldN at hhl; omega)
      have d3 := hsm3.st.cell 2 _ rfl
      have hXs := (HV.out.2.1.below (w' := V2.drew) ((Below.refl _ _).drew.trans (hV2.mono (Below.refl 0 V).drew.size)).drew).fr hf4 (by have := HH.out.1.wm.lt; omega)
      have HRL := (show Hid _ from release_any hsm4 st1 (by dsimp only; rw [← HSN.out.1]; exact hst))
      rw [← HSN.out.2.2] at hr4
      have HZ : Hid (Fr (fun k => k = nb ∨ k = wb) w w4 ∧ w.heap.size ≤ w4.heap.size) := ⟨(Fr.of_below hb3).trans (hf4.mono (fun g _ e => .inr e)), Nat.le_trans hb3.size hf4.size⟩
      have f1 := hXs.cell 1 _ rfl
      clear hV2 hb2 hb3 hsm3 hrow3 hhl hsm4 hf4 hXs HKC HLS
      go_wp2_with fail
      go_region
      go_wp2_with fail
      refine Calls.mono HRL.out ?_
      rintro e w5 ⟨⟨ta, tn, tc, rfl, htm⟩, hsm5, hf5⟩
      have HF := (show Hid _ from And.intro htm (And.intro hsm5 hf5))
      clear htm hsm5 hf5 HRL hr4 d1 d2 d3 f1
      go_wp2
      go_ret
      have ht := HT.out
      simp only [Bool.false_eq_true, if_false] at ht
      rw [if_neg (of_decide_eq_false hls)] at ht
      exact ⟨⟨ta, tn, tc, rfl, by rw [ht]; exact HF.out.1.base HZ.out.2⟩, ⟨wr4, by rw [ht]; exact HF.out.2.1⟩, HZ.out.1.trans HF.out.2.2⟩
end Go.Proofs.Ytjaheelgcjafcaa
