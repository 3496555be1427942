/- streams: what Add answers, and what becomes of them. -/
import Derived.Test.YtjaheelgcjafcaaKE
import Derived.Test.YtjaheelgcjafcaaRgX
import Derived.Test.YtjaheelgcjafcaaRgW
import Derived.Test.YtjaheelgcjafcaaKC
import Derived.Test.YtjaheelgcjafcaaKD
namespace Go.Proofs.Ytjaheelgcjafcaa
open Go.RowKit Go.MapKept Go.Maps
structure RelP (w : World) (p nb mb wb : Nat) (wr : Nat → Option Addr × Nat) (Y : Nat → Prop) (s : SmS) (st : Nat) (e : Ending) (w' : World) : Prop where
  ex : ∃ a n c, e = .returned (.slice a n c) ∧ MsgsW w' w.heap.size a n c (s.rel st).2
  sm : SmW w' p nb mb wb wr Y (s.rel st).1
  fr : Fr (fun k => k = nb ∨ k = wb) w w'
set_option linter.unusedVariables false in
set_option maxRecDepth 100000 in
set_option maxHeartbeats 4000000 in
theorem release_any {w : World} {p nb mb wb : Nat} {wr0 : Nat → Option Addr × Nat} {Y : Nat → Prop} {s : SmS} (h : SmW w p nb mb wb wr0 Y s) (st : Nat) (hst : st < s.nx.length) :
    Calls Try.prog 46 #[.pointer (some ⟨p, 0, none⟩), .int .u16 (st : Nat)] w (RelP w p nb mb wb wr0 Y s st) := by
  have hpl := h.st.lt
  have hlw := h.lenW
  have hn8 := h.n8
  obtain ⟨sn, hsn⟩ : ∃ sn, sn = s.nx.length := ⟨_, rfl⟩
  rw [← hsn] at hst hn8
  have HSN := (show Hid _ from hsn)
  have HR0 : Hid (RlS s st s 0 [] ∧ SmW w p nb mb wb wr0 Y s) := ⟨RlS.start st h.sw, h⟩
  have HWL := (show Hid _ from And.intro h.nl (And.intro h.wm.lt (And.intro h.mp.lt h.ne)))
  have hnbl := h.nl
  have hne := h.ne.1
  have hne2 := h.ne.2.2.1
  have hsti : (st : Int) < (sn : Int) := by omega
  clear h hsn
  go_enter Try.func46, Try.ntmps46
  go_wp2
  go_loopw [5] (fun u5 wr => ∃ (k : Nat) (s1 : SmS) (T : List Mg) (a : Option Addr) (c : Nat), u5 = .slice a k c ∧ RlS s st s1 k T ∧ SmW wr p nb mb wb wr0 Y s1 ∧ MsgsW wr w.heap.size a k c T ∧ Fr (fun g => g = nb ∨ g = wb) w wr) (fun u5 _ => 200 - lenOf u5)
  case atStart => exact ⟨0, s, [], none, 0, rfl, HR0.out.1, HR0.out.2, MsgsW.nil _ _, Fr.refl _ _⟩
  case round =>
    obtain ⟨k, s1, T, a, c, rfl, hrl, hsm, hms, hfr⟩ := hrel
    have hk := hrl.len
    have hl1 : s1.nx.length = sn := hrl.nx.trans HSN.out.symm
    have c0 := hsm.st.cell 0 _ rfl
    rw [hl1] at c0
    have cn := hsm.nx st (by omega)
    have hnv := hsm.nv st
    have HNW : Hid (s1.now st = tkey st (s1.nx.getD st 0)) := rfl
    obtain ⟨nv, hnvE⟩ : ∃ nv, nv = s1.nx.getD st 0 := ⟨_, rfl⟩
    rw [← hnvE] at cn hnv HNW
    obtain ⟨W, hW⟩ : ∃ W, W = wr.alloc (.cells #[.int .u16 (st : Nat), .int .u16 (nv : Nat)] 86) := ⟨_, rfl⟩
    have b0 : Below wr.heap.size wr W := by rw [hW]; exact (Below.refl _ _).alloc (Nat.le_refl _) _
    have stW := (Stc.new wr [.int .u16 (st : Nat), .int .u16 (nv : Nat)] 86 W hW).below (Below.refl _ _).drew
    have hsmW := (hsm.below b0).below (Below.refl _ _).drew
    have hlk := hsmW.lookW (Below.refl _ _) st nv hnv (by omega)
    have HKC : Hid (W.drew.cell? ⟨p, 2, none⟩ = some (.map (some wb)) ∧ W.drew.cell? ⟨wr.heap.size, 0, none⟩ = some (.int .u16 (st : Nat)) ∧ W.drew.cell? ⟨wr.heap.size, 1, none⟩ = some (.int .u16 (nv : Nat))) := ⟨hsmW.st.cell 2 _ rfl, stW.cell 0 _ rfl, stW.cell 1 _ rfl⟩
    have HS := (show Hid _ from And.intro hrl (And.intro hsmW (And.intro ((hms.below b0).below (Below.refl _ _).drew) (And.intro ((hfr.trans (Fr.of_below b0)).trans (Fr.of_below (Below.refl _ _).drew)) (And.intro stW hnvE)))))
    clear hrl hsm hms hfr b0 stW hsmW hnvE
    cases hlo : lookD s1.W (tkey st nv) with
    | none =>
      rw [hlo] at hlk
      have HLK : Hid ((Instr.lookup 74 (.map (some wb)) (.agg #[.int .u16 (st : Nat), .int .u16 (nv : Nat)]) true).run Try.prog W.drew = .ok (.tuple #[.slice none 0 0, .bool false]) W.drew) := hlk
      have HLO := (show Hid _ from hlo)
      clear hlk hlo
      go_wp2_with fail
      rw [← hW]
      clear hW
      refine wp_region_fixW mixedX (fun V => V = W.drew) [(19, .pointer (some ⟨p, 0, none⟩)), (20, .pointer (some ⟨p, 0, none⟩)), (21, .pointer (some ⟨p, 2, none⟩)), (22, .map (some wb)), (23, .agg #[.int .u16 (st : Nat), .int .u16 (nv : Nat)]), (24, .tuple #[.slice none 0 0, .bool false]), (18, .tuple #[.slice none 0 0, .bool false]), (25, .slice none 0 0), (26, .bool false), (7, .slice none 0 0), (8, .bool false)] ?Z1 ?hZ1 (by kernel_rfl) (by kernel_rfl) (by kernel_rfl) (by kernel_rfl) ?h01 ?hops1 ?he1
      case hZ1 => simp only [List.foldl_cons, List.foldl_nil, List.setIfInBounds_toArray, List.set_cons_zero, List.set_cons_succ]; rfl
      case h01 => rfl
      case hops1 =>
        refine ⟨?_, ?_, ?_, ?_, ?_, ?_, ?_, ?_, ?_, ?_, ?_, trivial⟩
        · exact fix_val (by rfl) (fun W hW => by subst hW; obtain ⟨d0, d1, d2⟩ := HKC.out; have hlk := HLK.out; go_simp; (try with_reducible rfl); (try omega))
        · exact fix_val (by rfl) (fun W hW => by subst hW; obtain ⟨d0, d1, d2⟩ := HKC.out; have hlk := HLK.out; go_simp; (try with_reducible rfl); (try omega))
        · exact fix_val (by rfl) (fun W hW => by subst hW; obtain ⟨d0, d1, d2⟩ := HKC.out; have hlk := HLK.out; go_simp; (try with_reducible rfl); (try omega))
        · exact fix_val (by rfl) (fun W hW => by subst hW; obtain ⟨d0, d1, d2⟩ := HKC.out; have hlk := HLK.out; go_simp; (try with_reducible rfl); (try omega))
        · exact fix_val (by rfl) (fun W hW => by subst hW; obtain ⟨d0, d1, d2⟩ := HKC.out; have hlk := HLK.out; go_simp; (try with_reducible rfl); (try omega))
        · exact fix_val (by rfl) (fun W hW => by subst hW; obtain ⟨d0, d1, d2⟩ := HKC.out; have hlk := HLK.out; go_simp; (try with_reducible rfl); (try omega))
        · exact fix_val (by rfl) (fun W hW => by subst hW; obtain ⟨d0, d1, d2⟩ := HKC.out; have hlk := HLK.out; go_simp; (try with_reducible rfl); (try omega))
        · exact fix_val (by rfl) (fun W hW => by subst hW; obtain ⟨d0, d1, d2⟩ := HKC.out; have hlk := HLK.out; go_simp; (try with_reducible rfl); (try omega))
        · exact fix_val (by rfl) (fun W hW => by subst hW; obtain ⟨d0, d1, d2⟩ := HKC.out; have hlk := HLK.out; go_simp; (try with_reducible rfl); (try omega))
        · exact fix_val (by rfl) (fun W hW => by subst hW; obtain ⟨d0, d1, d2⟩ := HKC.out; have hlk := HLK.out; go_simp; (try with_reducible rfl); (try omega))
        · exact fix_val (by rfl) (fun W hW => by subst hW; obtain ⟨d0, d1, d2⟩ := HKC.out; have hlk := HLK.out; go_simp; (try with_reducible rfl); (try omega))
      case he1 =>
      rintro V rfl
      go_wp2
      go_ret
      obtain ⟨hrl, hsm, hms, hfr, _, _⟩ := HS.out
      have e := hrl.done (by rw [HNW.out]; exact HLO.out)
      exact ⟨⟨a, k, c, rfl, by rw [e]; exact hms⟩, by rw [e]; exact hsm, hfr⟩
    | some ps =>
      rw [hlo] at hlk
      obtain ⟨ra, hra⟩ : ∃ ra, ra = (wr0 (tkey st nv)).1 := ⟨_, rfl⟩
      obtain ⟨rc, hrc⟩ : ∃ rc, rc = (wr0 (tkey st nv)).2 := ⟨_, rfl⟩
      have HLK : Hid ((Instr.lookup 74 (.map (some wb)) (.agg #[.int .u16 (st : Nat), .int .u16 (nv : Nat)]) true).run Try.prog W.drew = .ok (.tuple #[.slice ra ps.length rc, .bool true]) W.drew) := by rw [hra, hrc]; exact hlk
      have HLO : Hid (RlS s st (s1.let st) (k + 1) (T ++ [joinM ps])) := HS.out.1.step (by rw [HNW.out]; exact hlo)
      have hrow : RowW Y W.drew ra rc ps := by rw [hra, hrc]; exact (HS.out.2.1.ws _ (lookD_mem hlo)).2
      have hd : W.drew.drew = W.drew.drew := rfl
      obtain ⟨w6, hr6, hsm6, hf6⟩ := (HS.out.2.1.below (Below.refl _ _).drew).delW st nv hnv (by omega) 0
      have hyq : ∀ g, g < W.drew.drew.heap.size → g = wb → ¬ Y g := fun g _ e hy => (HS.out.2.1.yx g hy).2.2.2 e
      have hrow6 : RowW Y w6 ra rc ps := (hrow.fr (Q := fun _ => False) (Fr.of_below (Below.refl _ _).drew) (fun _ _ e => e.elim)).fr hf6 hyq
      have HJN := (show Hid _ from joined_any hrow6)
      have HK6 : Hid (W.drew.drew.cell? ⟨p, 2, none⟩ = some (.map (some wb)) ∧ W.drew.drew.cell? ⟨wr.heap.size, 0, none⟩ = some (.int .u16 (st : Nat)) ∧ W.drew.drew.cell? ⟨wr.heap.size, 1, none⟩ = some (.int .u16 (nv : Nat))) := HKC.out
      have HR6 := (show Hid _ from And.intro hr6 (And.intro hsm6 hf6))
      have hkl : k ≤ 128 := by omega
      obtain ⟨np, hnp⟩ : ∃ np, np = ps.length := ⟨_, rfl⟩
      rw [← hnp] at HLK HJN
      clear hlk hlo hrow hr6 hsm6 hf6 hrow6 hra hrc hyq hnp hd
      go_wp2_with fail
      rw [← hW]
      clear hW
      refine wp_region_fixW mixedX (fun V => V = W.drew) [(19, .pointer (some ⟨p, 0, none⟩)), (20, .pointer (some ⟨p, 0, none⟩)), (21, .pointer (some ⟨p, 2, none⟩)), (22, .map (some wb)), (23, .agg #[.int .u16 (st : Nat), .int .u16 (nv : Nat)]), (24, .tuple #[.slice ra np rc, .bool true]), (18, .tuple #[.slice ra np rc, .bool true]), (25, .slice ra np rc), (26, .bool true), (7, .slice ra np rc), (8, .bool true)] ?Z2 ?hZ2 (by kernel_rfl) (by kernel_rfl) (by kernel_rfl) (by kernel_rfl) ?h02 ?hops2 ?he2
      case hZ2 => simp only [List.foldl_cons, List.foldl_nil, List.setIfInBounds_toArray, List.set_cons_zero, List.set_cons_succ]; rfl
      case h02 => rfl
      case hops2 =>
        refine ⟨?_, ?_, ?_, ?_, ?_, ?_, ?_, ?_, ?_, ?_, ?_, trivial⟩
        · exact fix_val (by rfl) (fun W hW => by subst hW; obtain ⟨d0, d1, d2⟩ := HKC.out; have hlk := HLK.out; go_simp; (try with_reducible rfl); (try omega))
        · exact fix_val (by rfl) (fun W hW => by subst hW; obtain ⟨d0, d1, d2⟩ := HKC.out; have hlk := HLK.out; go_simp; (try with_reducible rfl); (try omega))
        · exact fix_val (by rfl) (fun W hW => by subst hW; obtain ⟨d0, d1, d2⟩ := HKC.out; have hlk := HLK.out; go_simp; (try with_reducible rfl); (try omega))
        · exact fix_val (by rfl) (fun W hW => by subst hW; obtain ⟨d0, d1, d2⟩ := HKC.out; have hlk := HLK.out; go_simp; (try with_reducible rfl); (try omega))
        · exact fix_val (by rfl) (fun W hW => by subst hW; obtain ⟨d0, d1, d2⟩ := HKC.out; have hlk := HLK.out; go_simp; (try with_reducible rfl); (try omega))
        · exact fix_val (by rfl) (fun W hW => by subst hW; obtain ⟨d0, d1, d2⟩ := HKC.out; have hlk := HLK.out; go_simp; (try with_reducible rfl); (try omega))
        · exact fix_val (by rfl) (fun W hW => by subst hW; obtain ⟨d0, d1, d2⟩ := HKC.out; have hlk := HLK.out; go_simp; (try with_reducible rfl); (try omega))
        · exact fix_val (by rfl) (fun W hW => by subst hW; obtain ⟨d0, d1, d2⟩ := HKC.out; have hlk := HLK.out; go_simp; (try with_reducible rfl); (try omega))
        · exact fix_val (by rfl) (fun W hW => by subst hW; obtain ⟨d0, d1, d2⟩ := HKC.out; have hlk := HLK.out; go_simp; (try with_reducible rfl); (try omega))
        · exact fix_val (by rfl) (fun W hW => by subst hW; obtain ⟨d0, d1, d2⟩ := HKC.out; have hlk := HLK.out; go_simp; (try with_reducible rfl); (try omega))
        · exact fix_val (by rfl) (fun W hW => by subst hW; obtain ⟨d0, d1, d2⟩ := HKC.out; have hlk := HLK.out; go_simp; (try with_reducible rfl); (try omega))
      case he2 =>
      rintro V rfl
      go_wp2_with fail
      obtain ⟨d0, d1, d2⟩ := HK6.out
      have hr6 := HR6.out.1
      go_region
      clear d0 d1 d2 hr6
      go_wp2_with fail
      refine Calls.mono HJN.out ?_
      rintro e w7 ⟨⟨ja, jc, rfl, hjo⟩, hb7⟩
      obtain ⟨_, hsm6, hf6⟩ := HR6.out
      obtain ⟨_, _, hms, hfr, _, hnvE⟩ := HS.out
      have hW6 : Fr (fun g => g = nb ∨ g = wb) w w6 := (hfr.trans (Fr.of_below (Below.refl _ _).drew)).trans (hf6.mono (fun g _ e => .inr e))
      have hfr7 : Fr (fun g => g = nb ∨ g = wb) w w7 := hW6.trans (Fr.of_below hb7)
      have hapart : ∀ g, w.heap.size ≤ g → ¬ (g = nb ∨ g = wb) := fun g hg e => by
        have h1 := HWL.out.1
        have h2 := HWL.out.2.1
        rcases e with e | e <;> omega
      have hms7 : MsgsW w7 w.heap.size a k c T := (((hms.below (Below.refl _ _).drew).fr hf6 (fun g hg _ e => hapart g hg (.inr e)))).below hb7
      have hsm7 := hsm6.below hb7
      have hjo7 := hjo.base hW6.size
      obtain ⟨m, hm⟩ : ∃ m, m = joinM ps := ⟨_, rfl⟩
      rw [← hm] at hjo7 HLO ⊢
      obtain ⟨g8, c8, w8, hr8, hms8, hf8⟩ := hms7.app hjo7 hfr7.size (by omega)
      have hsm8 : SmW w8 p nb mb wb wr0 Y ⟨s1.nx, s1.D, delD s1.W (tkey st nv)⟩ := hsm7.fr hf8 (fun g _ hg => by
        have h1 := HR0.out.2.st.lt
        have h2 := HWL.out.1
        have h3 := HWL.out.2.1
        have h4 := HWL.out.2.2.1
        exact ⟨fun hy => by have := HR0.out.2.yl g hy; omega, by omega, by omega, by omega, by omega⟩)
      have hfr8 : Fr (fun g => g = nb ∨ g = wb) w w8 := ⟨hf8.os.trans hfr7.os, hf8.tape.trans hfr7.tape, hf8.output.trans hfr7.output, Nat.le_trans hfr7.size hf8.size, fun g hg hn => (hf8.block g (Nat.lt_of_lt_of_le hg hfr7.size) (by omega)).trans (hfr7.block g hg hn)⟩
      have e0 := hsm8.st.cell 0 _ rfl
      dsimp only at e0
      rw [hl1] at e0
      have en := hsm8.nx st (by dsimp only; omega)
      dsimp only at en
      rw [← hnvE] at en
      have ef := hsm8.nf st
      have hwrap : IntKind.u16.wrap ((nv : Int) + 1) = (((nv + 1) % 65536 : Nat) : Int) := by simp [IntKind.wrap, IntKind.bits, IntKind.signed]
      have HZ : Hid (SmW (w8.setCell ⟨nb, st, none⟩ (.int .u16 (((nv + 1) % 65536 : Nat) : Int))) p nb mb wb wr0 Y (s1.let st) ∧ MsgsW (w8.setCell ⟨nb, st, none⟩ (.int .u16 (((nv + 1) % 65536 : Nat) : Int))) w.heap.size (some ⟨g8, 0, none⟩) (k + 1) c8 (T ++ [m]) ∧ Fr (fun g => g = nb ∨ g = wb) w (w8.setCell ⟨nb, st, none⟩ (.int .u16 (((nv + 1) % 65536 : Nat) : Int)))) := by
        have hf9 := Fr.setCell (fun g => g = nb) w8 ⟨nb, st, none⟩ (.int .u16 (((nv + 1) % 65536 : Nat) : Int)) rfl
        refine ⟨?_, hms8.fr hf9 (fun g hg _ e => hapart g hg (.inl e)), hfr8.trans (hf9.mono (fun g _ e => .inl e))⟩
        have := hsm8.setN st ((nv + 1) % 65536) (by dsimp only; omega) (by omega)
        unfold SmS.let SmS.now
        rw [← hnvE]
        exact this
      obtain ⟨mst, mss, mpp, mfr, mzs⟩ := m
      unfold Mg.v at hr8 ⊢
      dsimp only at hr8 ⊢
      clear hm hsm8 hfr8 hf8 hms8 hjo7 hsm7 hms7 hapart hfr7 hW6 hnvE hms hfr hsm6 hf6 hjo hb7 HR6 HJN HS HK6 HKC HLK
      go_wp2_with (at_builtin; refine app_eq_list rfl _ _ rfl rfl rfl rfl hr8 ?_)
      go_roundw
      case rel => exact ⟨k + 1, s1.let st, _, _, c8, rfl, HLO.out, HZ.out.1, HZ.out.2.1, HZ.out.2.2⟩
      case measure => simp [lenOf]; omega
end Go.Proofs.Ytjaheelgcjafcaa
namespace Go.Proofs.Ytjaheelgcjafcaa
open Go.RowKit Go.MapKept Go.Maps
structure TellP (w : World) (p nb mb wb : Nat) (Y : Nat → Prop) (s : SmS) (ps : List Pc) (e : Ending) (w' : World) : Prop where
  ex : ∃ a n c, e = .returned (.slice a n c) ∧ MsgsW w' w.heap.size a n c (s.tell ps).2
  sm : ∃ wr, SmW w' p nb mb wb wr Y (s.tell ps).1
  fr : Fr (fun k => k = nb ∨ k = wb) w w'
set_option linter.unusedVariables false in
set_option maxRecDepth 100000 in
set_option maxHeartbeats 4000000 in
theorem tell_any {w : World} {p nb mb wb : Nat} {wr0 : Nat → Option Addr × Nat} {Y : Nat → Prop} {s : SmS} (h : SmW w p nb mb wb wr0 Y s) {ra : Option Addr} {rc : Nat} {ps : List Pc} (hrow : RowW Y w ra rc ps) (hst : (ps.headD zeroPc).st < s.nx.length) (hhl : s.heldN + ps.length ≤ 128) :
    Calls Try.prog 27 #[.pointer (some ⟨p, 0, none⟩), .slice ra ps.length rc] w (TellP w p nb mb wb Y s ps) := by
  have hpl := h.st.lt
  have hnbl := h.nl
  have hle := hrow.le
  have hpos := hrow.pos
  have hcap := hrow.cap
  obtain ⟨x, hx0⟩ : ∃ x, ps[0]? = some x := ⟨_, List.getElem?_eq_getElem hpos⟩
  have hxw := hrow.each x (List.mem_of_getElem? hx0)
  have hhd : ps.headD zeroPc = x := by
    cases ps with
    | nil => cases hx0
    | cons y ps => simp at hx0; subst hx0; rfl
  rw [hhd] at hst
  have HT : Hid (s.tell ps = if x.free then (s, [joinM ps]) else if 0 < aheadV 65536 x.ss (s.nx.getD x.st 0) then (s, []) else SmS.rel ⟨s.nx, s.D, putD s.W (tkey x.st x.ss) ps⟩ x.st) := by
    show _ = _
    unfold SmS.tell
    rw [hhd]
  have hn8 := h.n8
  have hssl := hxw.ok.ss
  have hnv := h.nv x.st
  obtain ⟨g, hga, hg, _, hcell⟩ := hrow.at_
  subst hga
  have HFR0 := (show Hid _ from fun V => free_any x.fl (.int .u16 (x.st : Nat)) (.int .u16 (x.ss : Nat)) (.int .u32 (x.pp : Nat)) (.slice x.a x.n x.c) V hxw.ok.fl _ rfl)
  have hcx := fun k u (hu : x.v[k]? = some u) => hcell 0 x hx0 k u hu
  have e0 := hcx 0 _ rfl
  have e1 := hcx 1 _ rfl
  have e2 := hcx 2 _ rfl
  have e3 := hcx 3 _ rfl
  have e4 := hcx 4 _ rfl
  simp only [Nat.zero_mul, Nat.zero_add] at e0 e1 e2 e3 e4
  have HH := (show Hid _ from And.intro h (And.intro hrow hhl))
  have cN := h.nx x.st hst
  obtain ⟨sn, hsn⟩ : ∃ sn, sn = s.nx.length := ⟨_, rfl⟩
  obtain ⟨nv, hnvE⟩ : ∃ nv, nv = s.nx.getD x.st 0 := ⟨_, rfl⟩
  obtain ⟨np, hnp⟩ : ∃ np, np = ps.length := ⟨_, rfl⟩
  have c0 := h.st.cell 0 _ rfl
  rw [← hsn] at hst hn8 c0
  rw [← hnvE] at hnv HT cN
  rw [← hnp] at hle hpos hcap ⊢
  have HSN := (show Hid _ from And.intro hsn (And.intro hnvE hnp))
  clear h hrow hcell hcx hx0 hhd hxw hsn hnvE hnp hhl
  obtain ⟨fl1, st1, ss1, pp1, a1, n1, c1, z1⟩ := x
  unfold Pc.free at HT
  dsimp only at e0 e1 e2 e3 e4 HT HFR0 hst hssl hnv cN
  generalize decide (fl1 / 4 % 2 = 1) = fr at *
  have HFR : Hid (∀ V, Calls Try.prog 43 #[.agg #[.int .u8 (fl1 : Nat), .int .u16 (st1 : Nat), .int .u16 (ss1 : Nat), .int .u32 (pp1 : Nat), .slice a1 n1 c1]] V fun e w' => e = .returned (.bool fr) ∧ Below V.heap.size V w') := HFR0.out
  clear HFR0
  have hsti : (st1 : Int) < (sn : Int) := by omega
  obtain ⟨W1, hW1⟩ : ∃ W1, W1 = w.alloc (.cells #[.int .u8 (fl1 : Nat), .int .u16 (st1 : Nat), .int .u16 (ss1 : Nat), .int .u32 (pp1 : Nat), .slice a1 n1 c1] 79) := ⟨_, rfl⟩
  have b1 : Below w.heap.size w W1 := by rw [hW1]; exact (Below.refl _ _).alloc (Nat.le_refl _) _
  have HX : Hid (Below w.heap.size w W1 ∧ Stc W1 w.heap.size [.int .u8 (fl1 : Nat), .int .u16 (st1 : Nat), .int .u16 (ss1 : Nat), .int .u32 (pp1 : Nat), .slice a1 n1 c1] ∧ w.heap.size < W1.heap.size) := ⟨b1, Stc.new w [.int .u8 (fl1 : Nat), .int .u16 (st1 : Nat), .int .u16 (ss1 : Nat), .int .u32 (pp1 : Nat), .slice a1 n1 c1] 79 W1 hW1, by rw [hW1]; simp⟩
  clear b1
  go_enter Try.func27, Try.ntmps27
  go_wp2_with fail
  rw [← hW1]
  clear hW1 e0 e1 e2 e3 e4
  refine (HFR.out W1).mono ?_
  rintro e V ⟨rfl, hbV⟩
  have HV : Hid (Below w.heap.size w V ∧ Stc V w.heap.size [.int .u8 (fl1 : Nat), .int .u16 (st1 : Nat), .int .u16 (ss1 : Nat), .int .u32 (pp1 : Nat), .slice a1 n1 c1] ∧ w.heap.size < V.heap.size) := ⟨HX.out.1.trans (hbV.mono HX.out.1.size), HX.out.2.1.below hbV, Nat.lt_of_lt_of_le HX.out.2.2 hbV.size⟩
  clear hbV HX HFR
  cases fr with
  | true =>
    have HJN := (show Hid _ from joined_any (HH.out.2.1.fr (Q := fun _ => False) (Fr.of_below HV.out.1) (fun _ _ e => e.elim)))
    rw [← HSN.out.2.2] at HJN
    go_wp2_with fail
    refine Calls.mono HJN.out ?_
    rintro e w7 ⟨⟨ja, jc, rfl, hjo⟩, hb7⟩
    have hb : Below w.heap.size w w7 := HV.out.1.trans (hb7.mono HV.out.1.size)
    have hone := MsgsW.one (hjo.base HV.out.1.size) hb.size
    have hba : ∀ o, Below w7.heap.size w7 (w7.alloc o) := fun o => (Below.refl _ _).alloc (Nat.le_refl _) _
    have HZ := (show Hid _ from And.intro hone (And.intro hb hba))
    obtain ⟨m, hm⟩ : ∃ m, m = joinM ps := ⟨_, rfl⟩
    rw [← hm] at HZ HT ⊢
    obtain ⟨mst, mss, mpp, mfr, mzs⟩ := m
    unfold Mg.v at HZ ⊢
    dsimp only at HZ ⊢
    clear hm hone hb hba hjo hb7 HJN
    go_wp2
    go_ret
    have ht := HT.out
    simp only [if_true] at ht
    refine ⟨⟨_, 1, 1, rfl, ?_⟩, ⟨wr0, ?_⟩, Fr.of_below (HZ.out.2.1.trans ((HZ.out.2.2 _).mono HZ.out.2.1.size))⟩
    · rw [ht]; exact HZ.out.1
    · rw [ht]; exact (HH.out.1.below HZ.out.2.1).below (HZ.out.2.2 _)
  | false =>
    have hsmV := HH.out.1.below HV.out.1
    have HLS : Hid (∀ W, Calls Try.prog 45 #[.int .u16 (ss1 : Nat), .int .u16 (nv : Nat)] W fun e w' => e = .returned (.bool (decide (0 < aheadV 65536 ss1 nv))) ∧ Below W.heap.size W w') := fun W => isLess_any ss1 nv W hssl hnv _ _ rfl rfl
    have HKC : Hid (∀ V', Below V.drew.heap.size V.drew V' → V'.cell? ⟨w.heap.size, 1, none⟩ = some (.int .u16 (st1 : Nat)) ∧ V'.cell? ⟨w.heap.size, 2, none⟩ = some (.int .u16 (ss1 : Nat)) ∧ V'.cell? ⟨p, 0, none⟩ = some (.slice (some ⟨nb, 0, none⟩) sn (capN V p nb sn mb wb)) ∧ V'.cell? ⟨nb, st1, none⟩ = some (.int .u16 (nv : Nat))) := fun V' hV' => by
      have hd : Below V.heap.size V V' := (Below.refl _ _).drew.trans (hV'.mono (Below.refl 0 V).drew.size)
      have s1 := HV.out.2.1.below hd
      have s2 := hsmV.below hd
      have z0 := (hsmV.st.below hd).cell 0 _ rfl
      have z1 := s2.nx st1 (by rw [← HSN.out.1]; exact hst)
      rw [← HSN.out.1] at z0
      rw [← HSN.out.2.1] at z1
      exact ⟨s1.cell 1 _ rfl, s1.cell 2 _ rfl, z0, z1⟩
    have HSV := (show Hid _ from hsmV)
    clear hsmV
    cases hls : (decide (0 < aheadV 65536 ss1 nv)) with
    | true =>
      rw [hls] at HLS
      go_wp2_with fail
      refine wp_region_fixW mixedX (fun V2 => Below V.drew.heap.size V.drew V2) [(14, .pointer (some ⟨w.heap.size, 2, none⟩)), (15, .int .u16 (ss1 : Nat)), (16, .pointer (some ⟨p, 0, none⟩)), (17, .pointer (some ⟨p, 0, none⟩)), (18, .pointer (some ⟨p, 0, none⟩)), (19, .slice (some ⟨nb, 0, none⟩) sn (capN V p nb sn mb wb)), (20, .pointer (some ⟨w.heap.size, 1, none⟩)), (21, .int .u16 (st1 : Nat)), (22, .pointer (some ⟨nb, st1, none⟩)), (23, .int .u16 (nv : Nat)), (24, .bool true)] ?Z1 ?hZ1 (by kernel_rfl) (by kernel_rfl) (by kernel_rfl) (by kernel_rfl) ?h01 ?hops1 ?he1
      case hZ1 => simp only [List.foldl_cons, List.foldl_nil, List.setIfInBounds_toArray, List.set_cons_zero, List.set_cons_succ]; rfl
      case h01 => exact Below.refl _ _
      case hops1 =>
        refine ⟨?_, ?_, ?_, ?_, ?_, ?_, ?_, ?_, ?_, ?_, ?_, trivial⟩
        · exact fix_val (by rfl) (fun W hW => by obtain ⟨d0, d1, d2, d3⟩ := HKC.out W hW; go_simp; (try with_reducible rfl); (try omega))
        · exact fix_val (by rfl) (fun W hW => by obtain ⟨d0, d1, d2, d3⟩ := HKC.out W hW; go_simp; (try with_reducible rfl); (try omega))
        · exact fix_val (by rfl) (fun W hW => by obtain ⟨d0, d1, d2, d3⟩ := HKC.out W hW; go_simp; (try with_reducible rfl); (try omega))
        · exact fix_val (by rfl) (fun W hW => by obtain ⟨d0, d1, d2, d3⟩ := HKC.out W hW; go_simp; (try with_reducible rfl); (try omega))
        · exact fix_val (by rfl) (fun W hW => by obtain ⟨d0, d1, d2, d3⟩ := HKC.out W hW; go_simp; (try with_reducible rfl); (try omega))
        · exact fix_val (by rfl) (fun W hW => by obtain ⟨d0, d1, d2, d3⟩ := HKC.out W hW; go_simp; (try with_reducible rfl); (try omega))
        · exact fix_val (by rfl) (fun W hW => by obtain ⟨d0, d1, d2, d3⟩ := HKC.out W hW; go_simp; (try with_reducible rfl); (try omega))
        · exact fix_val (by rfl) (fun W hW => by obtain ⟨d0, d1, d2, d3⟩ := HKC.out W hW; go_simp; (try with_reducible rfl); (try omega))
        · exact fix_val (by rfl) (fun W hW => by obtain ⟨d0, d1, d2, d3⟩ := HKC.out W hW; go_simp; (try with_reducible rfl); (try omega))
        · exact fix_val (by rfl) (fun W hW => by obtain ⟨d0, d1, d2, d3⟩ := HKC.out W hW; go_simp; (try with_reducible rfl); (try omega))
        · exact fix_call (vs := [.int .u16 (ss1 : Nat), .int .u16 (nv : Nat)]) (by rfl) rfl (by rfl) Try.func45 (by rfl) (by rfl) (fun W hW => by exact (HLS.out W).mono (fun e V h => ⟨h.1, hW.trans (h.2.mono hW.size)⟩))
      case he1 =>
      intro V2 hV2
      have HV2 : Hid (Below w.heap.size w V2) := HV.out.1.trans (((Below.refl V.heap.size V).drew.trans (hV2.mono (Below.refl 0 V).drew.size)).mono HV.out.1.size)
      clear hV2
      go_wp2
      go_ret
      have ht := HT.out
      simp only [Bool.false_eq_true, if_false] at ht
      rw [if_pos (of_decide_eq_true hls)] at ht
      exact ⟨⟨none, 0, 0, rfl, by rw [ht]; exact MsgsW.nil _ _⟩, ⟨wr0, by rw [ht]; exact HH.out.1.below HV2.out⟩, Fr.of_below HV2.out⟩
    | false =>
      rw [hls] at HLS
      go_wp2_with fail
      refine wp_region_fixW mixedX (fun V2 => Below V.drew.heap.size V.drew V2) [(14, .pointer (some ⟨w.heap.size, 2, none⟩)), (15, .int .u16 (ss1 : Nat)), (16, .pointer (some ⟨p, 0, none⟩)), (17, .pointer (some ⟨p, 0, none⟩)), (18, .pointer (some ⟨p, 0, none⟩)), (19, .slice (some ⟨nb, 0, none⟩) sn (capN V p nb sn mb wb)), (20, .pointer (some ⟨w.heap.size, 1, none⟩)), (21, .int .u16 (st1 : Nat)), (22, .pointer (some ⟨nb, st1, none⟩)), (23, .int .u16 (nv : Nat)), (24, .bool false)] ?Z2 ?hZ2 (by kernel_rfl) (by kernel_rfl) (by kernel_rfl) (by kernel_rfl) ?h02 ?hops2 ?he2
      case hZ2 => simp only [List.foldl_cons, List.foldl_nil, List.setIfInBounds_toArray, List.set_cons_zero, List.set_cons_succ]; rfl
      case h02 => exact Below.refl _ _
      case hops2 =>
        refine ⟨?_, ?_, ?_, ?_, ?_, ?_, ?_, ?_, ?_, ?_, ?_, trivial⟩
        · exact fix_val (by rfl) (fun W hW => by obtain ⟨d0, d1, d2, d3⟩ := HKC.out W hW; go_simp; (try with_reducible rfl); (try omega))
        · exact fix_val (by rfl) (fun W hW => by obtain ⟨d0, d1, d2, d3⟩ := HKC.out W hW; go_simp; (try with_reducible rfl); (try omega))
        · exact fix_val (by rfl) (fun W hW => by obtain ⟨d0, d1, d2, d3⟩ := HKC.out W hW; go_simp; (try with_reducible rfl); (try omega))
        · exact fix_val (by rfl) (fun W hW => by obtain ⟨d0, d1, d2, d3⟩ := HKC.out W hW; go_simp; (try with_reducible rfl); (try omega))
        · exact fix_val (by rfl) (fun W hW => by obtain ⟨d0, d1, d2, d3⟩ := HKC.out W hW; go_simp; (try with_reducible rfl); (try omega))
        · exact fix_val (by rfl) (fun W hW => by obtain ⟨d0, d1, d2, d3⟩ := HKC.out W hW; go_simp; (try with_reducible rfl); (try omega))
        · exact fix_val (by rfl) (fun W hW => by obtain ⟨d0, d1, d2, d3⟩ := HKC.out W hW; go_simp; (try with_reducible rfl); (try omega))
        · exact fix_val (by rfl) (fun W hW => by obtain ⟨d0, d1, d2, d3⟩ := HKC.out W hW; go_simp; (try with_reducible rfl); (try omega))
        · exact fix_val (by rfl) (fun W hW => by obtain ⟨d0, d1, d2, d3⟩ := HKC.out W hW; go_simp; (try with_reducible rfl); (try omega))
        · exact fix_val (by rfl) (fun W hW => by obtain ⟨d0, d1, d2, d3⟩ := HKC.out W hW; go_simp; (try with_reducible rfl); (try omega))
        · exact fix_call (vs := [.int .u16 (ss1 : Nat), .int .u16 (nv : Nat)]) (by rfl) rfl (by rfl) Try.func45 (by rfl) (by rfl) (fun W hW => by exact (HLS.out W).mono (fun e V h => ⟨h.1, hW.trans (h.2.mono hW.size)⟩))
      case he2 =>
      intro V2 hV2
      have hb2 : Below w.heap.size w V2 := HV.out.1.trans (((Below.refl V.heap.size V).drew.trans (hV2.mono (Below.refl 0 V).drew.size)).mono HV.out.1.size)
      have hb3 : Below w.heap.size w V2.drew := hb2.drew
      obtain ⟨d1, d2, _, _⟩ := HKC.out V2.drew hV2.drew
      have hsm3 := HH.out.1.below hb3
      have hrow3 := HH.out.2.1.fr (Q := fun _ => False) (Fr.of_below hb3) (fun _ _ e => e.elim)
      have hhl := HH.out.2.2
      obtain ⟨w4, wr4, hr4, hsm4, hf4⟩ := hsm3.putW st1 ss1 hssl (by omega) hrow3 (by unfold SmS.heldN at hhl; omega)
      have d3 := hsm3.st.cell 2 _ rfl
      have hXs := (HV.out.2.1.below (w' := V2.drew) ((Below.refl _ _).drew.trans (hV2.mono (Below.refl 0 V).drew.size)).drew).fr hf4 (by have := HH.out.1.wm.lt; omega)
      have HRL := (show Hid _ from release_any hsm4 st1 (by dsimp only; rw [← HSN.out.1]; exact hst))
      rw [← HSN.out.2.2] at hr4
      have HZ : Hid (Fr (fun k => k = nb ∨ k = wb) w w4 ∧ w.heap.size ≤ w4.heap.size) := ⟨(Fr.of_below hb3).trans (hf4.mono (fun g _ e => .inr e)), Nat.le_trans hb3.size hf4.size⟩
      have f1 := hXs.cell 1 _ rfl
      clear hV2 hb2 hb3 hsm3 hrow3 hhl hsm4 hf4 hXs HKC HLS
      go_wp2_with fail
      go_region
      go_wp2_with fail
      refine Calls.mono HRL.out ?_
      rintro e w5 ⟨⟨ta, tn, tc, rfl, htm⟩, hsm5, hf5⟩
      have HF := (show Hid _ from And.intro htm (And.intro hsm5 hf5))
      clear htm hsm5 hf5 HRL hr4 d1 d2 d3 f1
      go_wp2
      go_ret
      have ht := HT.out
      simp only [Bool.false_eq_true, if_false] at ht
      rw [if_neg (of_decide_eq_false hls)] at ht
      exact ⟨⟨ta, tn, tc, rfl, by rw [ht]; exact HF.out.1.base HZ.out.2⟩, ⟨wr4, by rw [ht]; exact HF.out.2.1⟩, HZ.out.1.trans HF.out.2.2⟩
end Go.Proofs.Ytjaheelgcjafcaa
namespace Go.Proofs.Ytjaheelgcjafcaa
open Go.RowKit Go.MapKept Go.Maps
theorem SmW.putD {w : World} {p nb mb wb : Nat} {wr : Nat → Option Addr × Nat} {Y : Nat → Prop} {s : SmS} (h : SmW w p nb mb wb wr Y s) (t : Nat) (ht : IpK t) {x : Pc} (hx : PcW Y w x) (hl : s.heldN + 1 ≤ 128) (hdn : x.st < s.nx.length) :
    ∃ w', (Instr.mapUpdate 73 (.map (some mb)) (.int .u32 (t : Nat)) x.val).run Try.prog w = .ok () w' ∧ SmW w' p nb mb wb wr Y ⟨s.nx, putD s.D t x, s.W⟩ ∧ Fr (fun k => k = mb) w w' := by
  obtain ⟨w6, hr6, hm6, hf6, _⟩ := h.mp.upd (P := Try.prog) ipKE Try.underlying73 (q := t) ht x.val
  have hyq : ∀ g, g < w.heap.size → g = mb → ¬ Y g := fun g _ e hy => (h.yx g hy).2.2.1 e
  refine ⟨w6, hr6, h.setD hf6 (Mp.put (f := fun _ => Pc.val) (f' := fun _ => Pc.val) hm6 ipKE.inj h.sd (fun y hy => (h.ds y hy).1) ht rfl (fun _ _ _ => rfl)) (fun y hy => ?_) (h.sd.put t x) ?_ (fun y hy => ?_), hf6⟩
  · rcases putD_mem hy with e | e
    · rw [e]; exact ⟨ht, hx.fr hf6 hyq⟩
    · exact ⟨(h.ds y e).1, (h.ds y e).2.fr hf6 hyq⟩
  · have h1 := len_put s.D t x h.sd
    unfold SmS.heldN at hl
    split at h1 <;> omega
  · rcases putD_mem hy with e | e
    · rw [e]; exact hdn
    · exact h.dn y e
/-- The region of Add: pieceOf (7), and its answer laid into the map (8). -/
structure AdG (W0 : World) (p nb mb wb : Nat) (wr : Nat → Option Addr × Nat) (Y : Nat → Prop) (s : SmS) (t f st ss pp n : Nat) (zs : List Nat) (θ : Option Addr × Nat) (l : Nat → Bool) (V : World) : Prop where
  s0 : l 7 = false → V = W0
  s1 : l 7 = true → l 8 = false → Below W0.heap.size W0 V ∧ OwnB V W0.heap.size θ.1 n θ.2 zs
  s2 : l 8 = true → SmW V p nb mb wb wr (fun g => Y g ∨ (Value.slice θ.1 n θ.2).ownBlock = some g ∧ W0.heap.size ≤ g ∧ g < V.heap.size) ⟨s.nx, putD s.D t ⟨f, st, ss, pp, θ.1, n, θ.2, zs⟩, s.W⟩ ∧ Fr (fun k => k = mb) W0 V
section
variable {W0 : World} {p nb mb wb : Nat} {wr : Nat → Option Addr × Nat} {Y : Nat → Prop} {s : SmS} {t f st ss pp n : Nat} {zs : List Nat} {θ : Option Addr × Nat} {l : Nat → Bool} {V : World}
theorem AdG.start : AdG W0 p nb mb wb wr Y s t f st ss pp n zs θ (fun _ => false) W0 := ⟨fun _ => rfl, fun e => (by cases e), fun e => (by cases e)⟩
theorem AdG.other (h : AdG W0 p nb mb wb wr Y s t f st ss pp n zs θ l V) (i : Nat) (h1 : 7 ≠ i) (h2 : 8 ≠ i) : AdG W0 p nb mb wb wr Y s t f st ss pp n zs θ (updL l i) V :=
  ⟨by rw [updL_neC h1]; exact h.s0, by rw [updL_neC h1, updL_neC h2]; exact h.s1, by rw [updL_neC h2]; exact h.s2⟩
theorem AdG.call {a : Option Addr} {c : Nat} (h8 : l 8 = false) (hb : Below W0.heap.size W0 V) (ho : OwnB V W0.heap.size a n c zs) : AdG W0 p nb mb wb wr Y s t f st ss pp n zs (a, c) (updL l 7) V :=
  ⟨fun e => (by rw [updL_eqC] at e; cases e), fun _ _ => ⟨hb, ho⟩, fun e => (by rw [updL_neC (by decide), h8] at e; cases e)⟩
theorem AdG.bel (h : AdG W0 p nb mb wb wr Y s t f st ss pp n zs θ l V) (h8 : l 8 = false) : Below W0.heap.size W0 V := by
  cases h7 : l 7 with
  | false => rw [h.s0 h7]; exact Below.refl _ _
  | true => exact (h.s1 h7 h8).1
structure AdOk (W0 : World) (p nb mb wb : Nat) (wr : Nat → Option Addr × Nat) (Y : Nat → Prop) (s : SmS) (t f st ss pp n : Nat) : Prop where
  sm : SmW W0 p nb mb wb wr Y s
  t : IpK t
  ok : f < 256 ∧ st < 8 ∧ ss < 65536 ∧ pp < 4294967296 ∧ n ≤ 1452
  hl : s.heldN + 1 ≤ 128
  dn : st < s.nx.length
theorem AdG.put (h : AdG W0 p nb mb wb wr Y s t f st ss pp n zs θ l V) (h7 : l 7 = true) (h8 : l 8 = false) (H : AdOk W0 p nb mb wb wr Y s t f st ss pp n) : ∃ V2, (Instr.mapUpdate 73 (.map (some mb)) (.int .u32 (t : Nat)) (.agg #[.int .u8 (f : Nat), .int .u16 (st : Nat), .int .u16 (ss : Nat), .int .u32 (pp : Nat), .slice θ.1 n θ.2])).run Try.prog V = .ok () V2 ∧ AdG W0 p nb mb wb wr Y s t f st ss pp n zs θ (updL l 8) V2 := by
  obtain ⟨hb, ho⟩ := h.s1 h7 h8
  have hsm := H.sm.below hb
  obtain ⟨o1, o2, o3, o4, o5⟩ := H.ok
  have hsm' : SmW V p nb mb wb wr (fun g => Y g ∨ (Value.slice θ.1 n θ.2).ownBlock = some g ∧ W0.heap.size ≤ g ∧ g < V.heap.size) s := by
    refine hsm.mono (fun g hg => .inl hg) (fun g hg => ?_) (fun g hg => ?_)
    · rcases hg with hg | ⟨_, h1, _⟩
      · exact hsm.yx g hg
      · have := H.sm.st.lt
        have := H.sm.nl
        have := H.sm.mp.lt
        have := H.sm.wm.lt
        exact ⟨by omega, by omega, by omega, by omega⟩
    · rcases hg with hg | ⟨_, _, h1⟩
      · exact hsm.yl g hg
      · exact h1
  have hx : PcW (fun g => Y g ∨ (Value.slice θ.1 n θ.2).ownBlock = some g ∧ W0.heap.size ≤ g ∧ g < V.heap.size) V ⟨f, st, ss, pp, θ.1, n, θ.2, zs⟩ := by
    refine ⟨⟨o1, o2, o3, o4, o5⟩, ho.sl (by omega), fun g off e => .inr ?_⟩
    dsimp only at e
    have hob : (Value.slice θ.1 n θ.2).ownBlock = some g := by
      rcases ho.own.2 with ⟨hv, h0⟩ | ⟨g1, cap, cur, hv, _⟩
      · injection hv with e1; rw [e1] at e; cases e
      · injection hv with e1
        rw [e1] at e ⊢
        injection e with e
        injection e with e
        subst e
        rfl
    exact ⟨hob, ho.own.lt g hob⟩
  obtain ⟨V2, hr, hsm2, hf2⟩ := hsm'.putD t H.t hx H.hl H.dn
  have hsz : V.heap.size ≤ V2.heap.size := hf2.size
  refine ⟨V2, hr, ⟨fun e => (by rw [updL_neC (by decide), h7] at e; cases e), fun _ e => (by rw [updL_eqC] at e; cases e), fun _ => ⟨hsm2.mono (fun g hg => ?_) (fun g hg => ?_) (fun g hg => ?_), (Fr.of_below hb).trans hf2⟩⟩⟩
  · rcases hg with hg | ⟨h1, h2, h3⟩
    · exact .inl hg
    · exact .inr ⟨h1, h2, Nat.lt_of_lt_of_le h3 hsz⟩
  · rcases hg with hg | ⟨_, h1, _⟩
    · exact hsm.yx g hg
    · have := H.sm.st.lt
      have := H.sm.nl
      have := H.sm.mp.lt
      have := H.sm.wm.lt
      exact ⟨by omega, by omega, by omega, by omega⟩
  · rcases hg with hg | ⟨_, _, h1⟩
    · exact Nat.lt_of_lt_of_le (hsm.yl g hg) hsz
    · exact h1
end
/-- What Add answers. -/
inductive AddR (w : World) (p nb mb wb : Nat) (Y : Nat → Prop) (s : SmS) (k f t st ss pp n : Nat) (zs : List Nat) (E : Int) (e : Ending) (w' : World) : Prop
  | bad : holdN s k t st E ≠ 0 → e = .returned (.tuple #[.slice none 0 0, .int .i64 (holdN s k t st E)]) → Below w.heap.size w w' → AddR w p nb mb wb Y s k f t st ss pp n zs E e w'
  | ok (da : Option Addr) (dc : Nat) (a : Option Addr) (m c B : Nat) (wr' : Nat → Option Addr × Nat) (Y' : Nat → Prop) : holdN s k t st E = 0 → e = .returned (.tuple #[.slice a m c, .int .i64 0]) → MsgsW w' B a m c (s.add t ⟨f, st, ss, pp, da, n, dc, zs⟩).2 → SmW w' p nb mb wb wr' Y' (s.add t ⟨f, st, ss, pp, da, n, dc, zs⟩).1 → Fr (fun g => g = nb ∨ g = mb ∨ g = wb) w w' → w.heap.size ≤ B → (∀ g, Y' g → (Y g ∨ w.heap.size ≤ g) ∧ g < B) → AddR w p nb mb wb Y s k f t st ss pp n zs E e w'
theorem holdN_ok {s : SmS} {k t st : Nat} {E : Int} (h : holdN s k t st E = 0) : E = 0 ∧ k = 0 ∧ st < s.nx.length ∧ (lookD s.D t).isSome = false ∧ s.heldN < 128 := by
  unfold holdN at h
  split at h
  · rename_i h1; exact absurd h h1
  · rename_i h1
    split at h
    · cases h
    · rename_i h2
      split at h
      · cases h
      · rename_i h3
        split at h
        · cases h
        · rename_i h4
          split at h
          · cases h
          · exact ⟨by omega, by omega, by omega, by simpa using h4, by omega⟩
set_option linter.unusedVariables false in
set_option maxRecDepth 100000 in
set_option maxHeartbeats 8000000 in
theorem sadd_any {w : World} {p nb mb wb : Nat} {wr0 : Nat → Option Addr × Nat} {Y : Nat → Prop} {s : SmS} (h : SmW w p nb mb wb wr0 Y s) (k f t st ss pp : Nat) (c6 c7 c8 c9 c10 c11 c12 : Value) (xa : Option Addr) (n xc : Nat) (zs : List Nat) (E : Int) (hkb : k < 256) (hfb : f < 256) (ht : t < 4294967296) (hstb : st < 65536) (hss : ss < 65536) (hpp : pp < 4294967296) (hsl : Sl w xa n xc zs) (hE : E = 0 → k = 0 → n ≤ 1452)
    (hck : ∀ W v, Below w.heap.size w W → v = .agg #[.int .u8 (k : Nat), .int .u8 (f : Nat), .int .u32 (t : Nat), .int .u16 (st : Nat), .int .u16 (ss : Nat), .int .u32 (pp : Nat), c6, c7, c8, c9, c10, c11, c12, .slice xa n xc] → Calls Try.prog 37 #[v] W fun e w' => e = .returned (.int .i64 E) ∧ Below W.heap.size W w') (v : Value) (hv : v = .agg #[.int .u8 (k : Nat), .int .u8 (f : Nat), .int .u32 (t : Nat), .int .u16 (st : Nat), .int .u16 (ss : Nat), .int .u32 (pp : Nat), c6, c7, c8, c9, c10, c11, c12, .slice xa n xc]) :
    Calls Try.prog 14 #[.pointer (some ⟨p, 0, none⟩), v] w (AddR w p nb mb wb Y s k f t st ss pp n zs E) := by
  subst hv
  obtain ⟨W1, hW1⟩ : ∃ W1, W1 = w.alloc (.cells #[.int .u8 (k : Nat), .int .u8 (f : Nat), .int .u32 (t : Nat), .int .u16 (st : Nat), .int .u16 (ss : Nat), .int .u32 (pp : Nat), c6, c7, c8, c9, c10, c11, c12, .slice xa n xc] 47) := ⟨_, rfl⟩
  have b1 : Below w.heap.size w W1 := by rw [hW1]; exact (Below.refl _ _).alloc (Nat.le_refl _) _
  have HHO := (show Hid _ from fun v hv => hold_any (h.below b1) k f t st ss pp c6 c7 c8 c9 c10 c11 c12 xa n xc E hkb ht hstb (fun W v hW hv => hck W v (b1.trans (hW.mono b1.size)) hv) v hv)
  have HH := (show Hid _ from And.intro h (And.intro hsl hE))
  have hpl := h.st.lt
  have HC : Hid (Below w.heap.size w W1 ∧ ∀ V, Below W1.heap.size W1 V → Stc V w.heap.size [.int .u8 (k : Nat), .int .u8 (f : Nat), .int .u32 (t : Nat), .int .u16 (st : Nat), .int .u16 (ss : Nat), .int .u32 (pp : Nat), c6, c7, c8, c9, c10, c11, c12, .slice xa n xc]) := ⟨b1, fun V hV => (Stc.new w [.int .u8 (k : Nat), .int .u8 (f : Nat), .int .u32 (t : Nat), .int .u16 (st : Nat), .int .u16 (ss : Nat), .int .u32 (pp : Nat), c6, c7, c8, c9, c10, c11, c12, .slice xa n xc] 47 W1 hW1).below hV⟩
  clear hck h b1 hsl hE
  go_enter Try.func14, Try.ntmps14
  go_wp2_with fail
  rw [← hW1]
  clear hW1
  refine (HHO.out _ (by rfl)).mono ?_
  clear HHO
  rintro e V1 ⟨rfl, hb1⟩
  have HV1 : Hid (Below w.heap.size w V1 ∧ Below W1.heap.size W1 V1 ∧ w.heap.size < V1.heap.size) := ⟨HC.out.1.trans (hb1.mono HC.out.1.size), hb1, Nat.lt_of_lt_of_le (HC.out.2 W1 (Below.refl _ _)).lt hb1.size⟩
  clear hb1
  obtain ⟨H, hH⟩ : ∃ H, H = holdN s k t st E := ⟨_, rfl⟩
  rw [← hH]
  have HHE := (show Hid _ from hH)
  clear hH
  by_cases hz : H = 0
  · subst hz
    obtain ⟨hE0, hk0, hst, hnl, hfull⟩ := holdN_ok HHE.out.symm
    have hnb := HH.out.2.2 hE0 hk0
    have hst8 : st < 8 := by have := HH.out.1.n8; omega
    have bd : Below w.heap.size w V1.drew := HV1.out.1.drew
    have HPO := (show Hid _ from pieceOf_any k f t st ss pp c6 c7 c8 c9 c10 c11 c12 xa n xc zs V1.drew (HH.out.2.1.below bd) (by omega) _ rfl)
    have HPP : Hid (AdOk V1.drew p nb mb wb wr0 Y s t f st ss pp n) := ⟨HH.out.1.below bd, ht, ⟨hfb, hst8, hss, hpp, hnb⟩, by omega, hst⟩
    have HKC : Hid (∀ V, Below V1.drew.heap.size V1.drew V → V.cell? ⟨p, 1, none⟩ = some (.map (some mb)) ∧ V.cell? ⟨w.heap.size, 0, none⟩ = some (.int .u8 (k : Nat)) ∧ V.cell? ⟨w.heap.size, 1, none⟩ = some (.int .u8 (f : Nat)) ∧ V.cell? ⟨w.heap.size, 2, none⟩ = some (.int .u32 (t : Nat)) ∧ V.cell? ⟨w.heap.size, 3, none⟩ = some (.int .u16 (st : Nat)) ∧ V.cell? ⟨w.heap.size, 4, none⟩ = some (.int .u16 (ss : Nat)) ∧ V.cell? ⟨w.heap.size, 5, none⟩ = some (.int .u32 (pp : Nat)) ∧ V.cell? ⟨w.heap.size, 6, none⟩ = some (c6) ∧ V.cell? ⟨w.heap.size, 7, none⟩ = some (c7) ∧ V.cell? ⟨w.heap.size, 8, none⟩ = some (c8) ∧ V.cell? ⟨w.heap.size, 9, none⟩ = some (c9) ∧ V.cell? ⟨w.heap.size, 10, none⟩ = some (c10) ∧ V.cell? ⟨w.heap.size, 11, none⟩ = some (c11) ∧ V.cell? ⟨w.heap.size, 12, none⟩ = some (c12) ∧ V.cell? ⟨w.heap.size, 13, none⟩ = some (.slice xa n xc)) := fun V hV => by
      have s1 := HC.out.2 V ((HV1.out.2.1.drew).trans (hV.mono (HV1.out.2.1.drew).size))
      exact ⟨(HPP.out.sm.below hV).st.cell 1 _ rfl, s1.cell 0 _ rfl, s1.cell 1 _ rfl, s1.cell 2 _ rfl, s1.cell 3 _ rfl, s1.cell 4 _ rfl, s1.cell 5 _ rfl, s1.cell 6 _ rfl, s1.cell 7 _ rfl, s1.cell 8 _ rfl, s1.cell 9 _ rfl, s1.cell 10 _ rfl, s1.cell 11 _ rfl, s1.cell 12 _ rfl, s1.cell 13 _ rfl⟩
    have HIN : Hid (∀ a c, (lookD (putD s.D t ⟨f, st, ss, pp, a, n, c, zs⟩) t).isSome = true) := fun a c => by rw [look_put _ _ _ _ HH.out.1.sd, if_pos rfl]; rfl
    clear bd hE0 hk0 hnl
    go_wp2_with fail
    refine wp_region_parW mixedX (fun θ : Option Addr × Nat => [(14, .pointer (some ⟨p, 0, none⟩)), (15, .pointer (some ⟨p, 0, none⟩)), (16, .pointer (some ⟨p, 1, none⟩)), (17, .map (some mb)), (18, .pointer (some ⟨w.heap.size, 2, none⟩)), (19, .int .u32 (t : Nat)), (20, .agg #[.int .u8 (k : Nat), .int .u8 (f : Nat), .int .u32 (t : Nat), .int .u16 (st : Nat), .int .u16 (ss : Nat), .int .u32 (pp : Nat), c6, c7, c8, c9, c10, c11, c12, .slice xa n xc]), (21, .agg #[.int .u8 (f : Nat), .int .u16 (st : Nat), .int .u16 (ss : Nat), .int .u32 (pp : Nat), .slice θ.1 n θ.2])]) (fun θ l V => AdG V1.drew p nb mb wb wr0 Y s t f st ss pp n zs θ l V) (none, 0) ?Z1 ?hZ1 (by kernel_rfl) (by kernel_rfl) (fun θ => by kernel_rfl) (by kernel_rfl) ?h01 ?hops1 ?he1
    case hZ1 => intro θ; simp only [List.foldl_cons, List.foldl_nil, List.setIfInBounds_toArray, List.set_cons_zero, List.set_cons_succ]; rfl
    case h01 => exact AdG.start
    case hops1 =>
      refine ⟨?_, ?_, ?_, ?_, ?_, ?_, ?_, ?_, ?_, trivial⟩
      · exact par_val (fun θ => by rfl) (fun θ l V hg => hg.other 0 (by decide) (by decide)) (fun θ l V hl hc hd hg => by go_simp; (try with_reducible rfl); (try omega))
      · exact par_val (fun θ => by rfl) (fun θ l V hg => hg.other 1 (by decide) (by decide)) (fun θ l V hl hc hd hg => by go_simp; (try with_reducible rfl); (try omega))
      · exact par_val (fun θ => by rfl) (fun θ l V hg => hg.other 2 (by decide) (by decide)) (fun θ l V hl hc hd hg => by go_simp; (try with_reducible rfl); (try omega))
      · exact par_val (fun θ => by rfl) (fun θ l V hg => hg.other 3 (by decide) (by decide)) (fun θ l V hl hc hd hg => by have h8 : l 8 = false := (by cases h : l 8 with | false => rfl | true => exact absurd (hc 8 3 (by kernel_rfl) h) (by rw [hl]; decide)); obtain ⟨d0, d1, d2, d3, d4, d5, d6, d7, d8, d9, d10, d11, d12, d13, d14⟩ := HKC.out V (hg.bel h8); go_simp; (try with_reducible rfl); (try omega))
      · exact par_val (fun θ => by rfl) (fun θ l V hg => hg.other 4 (by decide) (by decide)) (fun θ l V hl hc hd hg => by go_simp; (try with_reducible rfl); (try omega))
      · exact par_val (fun θ => by rfl) (fun θ l V hg => hg.other 5 (by decide) (by decide)) (fun θ l V hl hc hd hg => by have h8 : l 8 = false := (by cases h : l 8 with | false => rfl | true => exact absurd (hc 8 5 (by kernel_rfl) h) (by rw [hl]; decide)); obtain ⟨d0, d1, d2, d3, d4, d5, d6, d7, d8, d9, d10, d11, d12, d13, d14⟩ := HKC.out V (hg.bel h8); go_simp; (try with_reducible rfl); (try omega))
      · exact par_val (fun θ => by rfl) (fun θ l V hg => hg.other 6 (by decide) (by decide)) (fun θ l V hl hc hd hg => by have h8 : l 8 = false := (by cases h : l 8 with | false => rfl | true => exact absurd (hc 8 6 (by kernel_rfl) h) (by rw [hl]; decide)); obtain ⟨d0, d1, d2, d3, d4, d5, d6, d7, d8, d9, d10, d11, d12, d13, d14⟩ := HKC.out V (hg.bel h8); go_simp; (try with_reducible rfl); (try omega))
      · exact par_call (fun θ => by rfl) rfl (vs := fun _ => [.agg #[.int .u8 (k : Nat), .int .u8 (f : Nat), .int .u32 (t : Nat), .int .u16 (st : Nat), .int .u16 (ss : Nat), .int .u32 (pp : Nat), c6, c7, c8, c9, c10, c11, c12, .slice xa n xc]]) (fun θ => by rfl) Try.func25 (by rfl) (by rfl) (fun θ l V hl hc hd hg => by
          have h8 : l 8 = false := (by cases h : l 8 with | false => rfl | true => exact absurd (hc 8 7 (by kernel_rfl) h) (by rw [hl]; decide))
          obtain rfl := hg.s0 hl
          refine Calls.mono HPO.out ?_
          rintro e V2 ⟨⟨a6, c6', rfl, ho6⟩, hb6⟩
          exact ⟨_, rfl, next_set (by kernel_rfl) (a6, c6') [(21, .agg #[.int .u8 (f : Nat), .int .u16 (st : Nat), .int .u16 (ss : Nat), .int .u32 (pp : Nat), .slice a6 n c6'], 7)] (by simp only [List.foldl_cons, List.foldl_nil, List.setIfInBounds_toArray, List.set_cons_zero, List.set_cons_succ]) (by kernel_rfl) (fun y hy => by simp at hy; subst hy; exact hl) (fun d hd => by cases hd; rfl) (AdG.call h8 hb6 ho6)⟩)
      · exact par_skip (fun θ => by rfl) (fun θ l V hl hc hd hg => by
          have h7 : l 7 = true := hd 7 (by kernel_rfl)
          obtain ⟨V2, hr, hst⟩ := hg.put h7 hl HPP.out
          exact ⟨V2, by simp [execOp, Act.eval] at hr ⊢; simp [hr, Result.andThen], ⟨θ, fun _ _ _ _ _ _ => rfl, fun d hd => (by cases hd), hst⟩⟩)
    case he1 =>
    rintro ⟨da, dc⟩ l V2 hall hg
    obtain ⟨hsm2, hfr2⟩ := hg.s2 (hall 8 (by decide))
    clear hall hg
    dsimp only at hsm2 ⊢
    have hszV : w.heap.size ≤ V1.drew.heap.size := HV1.out.1.drew.size
    have hfrw : Fr (fun k => k = mb) w V2 := (Fr.of_below HV1.out.1.drew).trans hfr2
    have HRU := (show Hid _ from run_any hsm2 t ht (HIN.out da dc))
    have hmbl := HH.out.1.mp.lt
    have k2 := ((HC.out.2 V1.drew (HV1.out.2.1.drew)).fr hfr2 (by omega)).cell 2 _ rfl
    have HS2 := (show Hid _ from And.intro hsm2 hfrw)
    clear hsm2 hfr2 hfrw HPO HPP HKC
    go_wp2_with fail
    refine Calls.mono HRU.out ?_
    clear HRU k2
    rintro e V3 ⟨⟨ra, rc, rfl, hrow⟩, hb3⟩
    dsimp only at hrow ⊢
    obtain ⟨hsm2, hfr2⟩ := HS2.out
    have hsm3 := hsm2.below hb3
    obtain ⟨r1, r2, r3⟩ := run_ok hsm2.sd (by have := hsm2.lenDle; omega) ht (HIN.out da dc)
    have hrl : (runF (putD s.D t ⟨f, st, ss, pp, da, n, dc, zs⟩) t).length ≤ 128 := by
      have h1 := lift_len _ _ hsm2.sd r1 r2
      have h2 := hsm2.lenDle
      dsimp only at h1 h2
      omega
    obtain ⟨L, hL⟩ : ∃ L, L = runF (putD s.D t ⟨f, st, ss, pp, da, n, dc, zs⟩) t := ⟨_, rfl⟩
    have hadd : s.add t ⟨f, st, ss, pp, da, n, dc, zs⟩ = if L.length = 0 then (⟨s.nx, putD s.D t ⟨f, st, ss, pp, da, n, dc, zs⟩, s.W⟩, []) else SmS.tell ⟨s.nx, liftD (putD s.D t ⟨f, st, ss, pp, da, n, dc, zs⟩) L, s.W⟩ (L.map (pcAt (putD s.D t ⟨f, st, ss, pp, da, n, dc, zs⟩))) := by rw [hL]; rfl
    dsimp only at r2
    rw [← hL] at hrow r1 r2 r3 hrl ⊢
    have HAD := (show Hid _ from hadd)
    have hfr3 : Fr (fun k => k = mb) w V3 := hfr2.trans (Fr.of_below hb3)
    clear hadd hL
    by_cases h0 : L.length = 0
    · have h0i : ((L.length : Nat) : Int) = 0 := by omega
      have HF := (show Hid _ from And.intro hsm3 hfr3)
      have hcap := hrow.cap
      clear hsm2 hfr2 hsm3 hfr3 hb3 hrow r1 r2 r3 HS2
      go_wp2
      go_ret2
      refine .ok da dc none 0 0 V3.heap.size wr0 _ HHE.out.symm rfl ?_ ?_ (HF.out.2.mono (fun g _ e => .inr (.inl e))) HF.out.2.size (fun g hg => ⟨?_, HF.out.1.yl g hg⟩)
      · rw [HAD.out, if_pos h0]; exact MsgsW.nil _ _
      · rw [HAD.out, if_pos h0]; exact HF.out.1
      · rcases hg with hg | ⟨_, h1, _⟩
        · exact .inl hg
        · exact .inr (Nat.le_trans hszV h1)
    · have h0i : ¬ ((L.length : Nat) : Int) = 0 := by omega
      have hV2s : w.heap.size ≤ V2.heap.size := hfr2.size
      have HLI := (show Hid _ from lift_any hsm3 hrow (by omega) (by omega) r1 r2 r3 hrl)
      have HF := (show Hid _ from And.intro hsm3 (And.intro hfr3 (And.intro r1 r2)))
      have hcap := hrow.cap
      obtain ⟨nL, hnL⟩ : ∃ nL, nL = L.length := ⟨_, rfl⟩
      rw [← hnL] at h0 h0i hrl hcap HLI ⊢
      have HNL := (show Hid _ from hnL)
      clear hsm2 hfr2 hsm3 hfr3 hb3 hrow r1 r2 r3 HS2 hnL
      go_wp2_with fail
      refine Calls.mono HLI.out ?_
      clear HLI
      rintro e V4 ⟨⟨g4, c4, rfl, hg4, hg4l, hrow4⟩, hsm4, hfr4⟩
      obtain ⟨hsm3, hfr3, r1, r2⟩ := HF.out
      have hfr34 : Fr (fun k => k = mb) w V4 := hfr3.trans hfr4
      have hz4 := hfr34.size
      have hz3 := hfr3.size
      have hsm4' := hsm4.mono (Y' := fun g => (Y g ∨ (Value.slice da n dc).ownBlock = some g ∧ V1.drew.heap.size ≤ g ∧ g < V2.heap.size) ∨ g = g4) (fun g hg => .inl hg) (fun g hg => by
        rcases hg with hg | hg
        · exact hsm4.yx g hg
        · have := HH.out.1.st.lt
          have := HH.out.1.nl
          have := HH.out.1.mp.lt
          have := HH.out.1.wm.lt
          exact ⟨by omega, by omega, by omega, by omega⟩) (fun g hg => by
        rcases hg with hg | hg
        · exact hsm4.yl g hg
        · omega)
      have hpos4 := hrow4.pos
      have hlen4 := lift_len L _ hsm3.sd r1 r2
      have hh3 := hsm3.held
      unfold SmS.heldN at hh3
      dsimp only at hlen4 hh3
      have hhd : ((L.map (pcAt (putD s.D t ⟨f, st, ss, pp, da, n, dc, zs⟩))).headD zeroPc).st < s.nx.length := by
        obtain ⟨q, hq⟩ : ∃ q, L[0]? = some q := ⟨_, List.getElem?_eq_getElem (by rw [List.length_map] at hpos4; exact hpos4)⟩
        have hqi := r2 q (List.mem_of_getElem? hq)
        cases hlq : lookD (putD s.D t ⟨f, st, ss, pp, da, n, dc, zs⟩) q with
        | none => rw [hlq] at hqi; cases hqi
        | some y =>
          have hy := hsm3.dn _ (lookD_mem hlq)
          have e : (L.map (pcAt (putD s.D t ⟨f, st, ss, pp, da, n, dc, zs⟩))).headD zeroPc = y := by
            cases L with
            | nil => cases hq
            | cons q' L =>
              simp at hq
              subst hq
              show pcAt _ q' = y
              unfold pcAt
              rw [hlq]
              rfl
          rw [e]
          exact hy
      have HTE := (show Hid _ from tell_any hsm4' hrow4 hhd (by unfold SmS.heldN; rw [List.length_map]; dsimp only; omega))
      rw [List.length_map] at HTE
      have hsz4 : ∀ g, ((Y g ∨ (Value.slice da n dc).ownBlock = some g ∧ V1.drew.heap.size ≤ g ∧ g < V2.heap.size) ∨ g = g4) → (Y g ∨ w.heap.size ≤ g) ∧ g < V4.heap.size := fun g hg => by
        refine ⟨?_, hsm4'.yl g hg⟩
        rcases hg with (hg | ⟨_, h1, _⟩) | hg
        · exact .inl hg
        · exact .inr (by omega)
        · exact .inr (by omega)
      have HZ := (show Hid _ from And.intro hfr34 hsz4)
      rw [← HNL.out] at HTE ⊢
      clear hsm3 hfr3 r1 r2 hfr34 hsm4 hsm4' hrow4 hfr4 hlen4 hh3 hhd hsz4 hpos4
      go_wp2_with fail
      refine Calls.mono HTE.out ?_
      rintro e V5 ⟨⟨ta, tn, tc, rfl, htm⟩, ⟨wr5, hsm5⟩, hf5⟩
      have HF5 := (show Hid _ from And.intro htm (And.intro hsm5 hf5))
      clear htm hsm5 hf5 HTE
      go_wp2
      go_ret2
      have h0' : ¬ L.length = 0 := by rw [← HNL.out]; exact h0
      refine .ok da dc ta tn tc V4.heap.size wr5 _ HHE.out.symm rfl ?_ ?_ ((HZ.out.1.mono (fun g _ e => .inr (.inl e))).trans (HF5.out.2.2.mono (fun g _ e => by rcases e with e | e; exact .inl e; exact .inr (.inr e)))) HZ.out.1.size HZ.out.2
      · rw [HAD.out, if_neg h0']; exact HF5.out.1
      · rw [HAD.out, if_neg h0']; exact HF5.out.2.1
  · go_wp2
    go_ret2
    exact .bad (by rw [← HHE.out]; exact hz) (by rw [← HHE.out]; rfl) HV1.out.1
end Go.Proofs.Ytjaheelgcjafcaa
