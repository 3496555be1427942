/- streams: messages that wait no longer are told. -/
import Derived.Test.YtjaheelgcjafcaaSfM
import Derived.Test.YtjaheelgcjafcaaRgX
import Derived.Test.YtjaheelgcjafcaaRgW
namespace Go.Proofs.Ytjaheelgcjafcaa
open Go.RowKit Go.MapKept Go.Maps
structure RelP (w : World) (p nb mb wb : Nat) (wr : Nat → Option Addr × Nat) (Y : Nat → Prop) (s : SmS) (st : Nat) (e : Ending) (w' : World) : Prop where
  ex : ∃ a n c, e = .returned (.slice a n c) ∧ MsgsW w' w.heap.size a n c (s.rel st).2
  sm : SmW w' p nb mb wb wr Y (s.rel st).1
  fr : Fr (fun k => k = nb ∨ k = wb) w w'
set_option linter.unusedVariables false in
set_option maxRecDepth 100000 in
set_option maxHeartbeats 4000000 in
theorem release_any {w : World} {p nb mb wb : Nat} {wr0 : Nat → Option Addr × Nat} {Y : Nat → Prop} {s : SmS} (h : SmW w p nb mb wb wr0 Y s) (st : Nat) (hst : st < s.nx.length) :
    Calls Try.prog 46 #[.pointer (some ⟨p, 0, none⟩), .int .u16 (st : Nat)] w (RelP w p nb mb wb wr0 Y s st) := by
  have hpl := h.st.lt
  have hlw := h.lenW
  have hn8 := h.n8
  obtain ⟨sn, hsn⟩ : ∃ sn, sn = s.nx.length := ⟨_, rfl⟩
  rw [← hsn] at hst hn8
  have HSN := (show Hid _ from hsn)
  have HR0 : Hid (RlS s st s 0 [] ∧ SmW w p nb mb wb wr0 Y s) := ⟨RlS.start st h.sw, h⟩
  have HWL := (show Hid _ from And.intro h.nl (And.intro h.wm.lt (And.intro h.mp.lt h.ne)))
  have hnbl := h.nl
  have hne := h.ne.1
  have hne2 := h.ne.2.2.1
  have hsti : (st : Int) < (sn : Int) := by omega
  clear h hsn
  go_enter Try.func46, Try.ntmps46
  go_wp2
  go_loopw [5] (fun u5 wr => ∃ (k : Nat) (s1 : SmS) (T : List Mg) (a : Option Addr) (c : Nat), u5 = .slice a k c ∧ RlS s st s1 k T ∧ SmW wr p nb mb wb wr0 Y s1 ∧ MsgsW wr w.heap.size a k c T ∧ Fr (fun g => g = nb ∨ g = wb) w wr) (fun u5 _ => 200 - lenOf u5)
  case atStart => exact ⟨0, s, [], none, 0, rfl, HR0.out.1, HR0.out.2, MsgsW.nil _ _, Fr.refl _ _⟩
  case round =>
    obtain ⟨k, s1, T, a, c, rfl, hrl, hsm, hms, hfr⟩ := hrel
    have hk := hrl.len
    have hl1 : s1.nx.length = sn := hrl.nx.trans HSN.out.symm
    have c0 := hsm.st.cell 0 _ rfl
    rw [hl1] at c0
    have cn := hsm.nx st (by omega)
    have hnv := hsm.nv st
    have HNW : Hid (s1.now st = tkey st (s1.nx.getD st 0)) := rfl
    obtain ⟨nv, hnvE⟩ : ∃ nv, nv = s1.nx.getD st 0 := ⟨_, rfl⟩
    rw [← hnvE] at cn hnv HNW
    obtain ⟨W, hW⟩ : ∃ W, W = wr.alloc (.cells #[.int .u16 (st : Nat), .int .u16 (nv : Nat)] 86) := ⟨_, rfl⟩
    have b0 : Below wr.heap.size wr W := by rw [hW]; exact (Below.refl _ _).alloc (Nat.le_refl _) _
    have stW := (Stc.new wr [.int .u16 (st : Nat), .int .u16 (nv : Nat)] 86 W hW).below (Below.refl _ _).drew
    have hsmW := (hsm.below b0).below (Below.refl _ _).drew
    have hlk := hsmW.lookW (Below.refl _ _) st nv hnv (by omega)
    have HKC : Hid (W.drew.cell? ⟨p, 2, none⟩ = some (.map (some wb)) ∧ W.drew.cell? ⟨wr.heap.size, 0, none⟩ = some (.int .u16 (st : Nat)) ∧ W.drew.cell? ⟨wr.heap.size, 1, none⟩ = some (.int .u16 (nv : Nat))) := ⟨hsmW.st.cell 2 _ rfl, stW.cell 0 _ rfl, stW.cell 1 _ rfl⟩
    have HS := (show Hid _ from And.intro hrl (And.intro hsmW (And.intro ((hms.below b0).below (Below.refl _ _).drew) (And.intro ((hfr.trans (Fr.of_below b0)).trans (Fr.of_below (Below.refl _ _).drew)) (And.intro stW hnvE)))))
    clear hrl hsm hms hfr b0 stW hsmW hnvE
    cases hlo : lookD s1.W (tkey st nv) with
    | none =>
      rw [hlo] at hlk
      have HLK : Hid ((Instr.lookup 74 (.map (some wb)) (.agg #[.int .u16 (st : Nat), .int .u16 (nv : Nat)]) true).run Try.prog W.drew = .ok (.tuple #[.slice none 0 0, .bool false]) W.drew) := hlk
      have HLO := (show Hid _ from hlo)
      clear hlk hlo
      go_wp2_with fail
      rw [← hW]
      clear hW
      refine wp_region_fixW mixedX (fun V => V = W.drew) [(19, .pointer (some ⟨p, 0, none⟩)), (20, .pointer (some ⟨p, 0, none⟩)), (21, .pointer (some ⟨p, 2, none⟩)), (22, .map (some wb)), (23, .agg #[.int .u16 (st : Nat), .int .u16 (nv : Nat)]), (24, .tuple #[.slice none 0 0, .bool false]), (18, .tuple #[.slice none 0 0, .bool false]), (25, .slice none 0 0), (26, .bool false), (7, .slice none 0 0), (8, .bool false)] ?Z1 ?hZ1 (by kernel_rfl) (by kernel_rfl) (by kernel_rfl) (by kernel_rfl) ?h01 ?hops1 ?he1
      case hZ1 => simp only [List.foldl_cons, List.foldl_nil, List.setIfInBounds_toArray, List.set_cons_zero, List.set_cons_succ]; rfl
      case h01 => rfl
      case hops1 =>
        refine ⟨?_, ?_, ?_, ?_, ?_, ?_, ?_, ?_, ?_, ?_, ?_, trivial⟩
        · exact fix_val (by rfl) (fun W hW => by subst hW; obtain ⟨d0, d1, d2⟩ := HKC.out; have hlk := HLK.out; go_simp; (try with_reducible rfl); (try omega))
        · exact fix_val (by rfl) (fun W hW => by subst hW; obtain ⟨d0, d1, d2⟩ := HKC.out; have hlk := HLK.out; go_simp; (try with_reducible rfl); (try omega))
        · exact fix_val (by rfl) (fun W hW => by subst hW; obtain ⟨d0, d1, d2⟩ := HKC.out; have hlk := HLK.out; go_simp; (try with_reducible rfl); (try omega))
        · exact fix_val (by rfl) (fun W hW => by subst hW; obtain ⟨d0, d1, d2⟩ := HKC.out; have hlk := HLK.out; go_simp; (try with_reducible rfl); (try omega))
        · exact fix_val (by rfl) (fun W hW => by subst hW; obtain ⟨d0, d1, d2⟩ := HKC.out; have hlk := HLK.out; go_simp; (try with_reducible rfl); (try omega))
        · exact fix_val (by rfl) (fun W hW => by subst hW; obtain ⟨d0, d1, d2⟩ := HKC.out; have hlk := HLK.out; go_simp; (try with_reducible rfl); (try omega))
        · exact fix_val (by rfl) (fun W hW => by subst hW; obtain ⟨d0, d1, d2⟩ := HKC.out; have hlk := HLK.out; go_simp; (try with_reducible rfl); (try omega))
        · exact fix_val (by rfl) (fun W hW => by subst hW; obtain ⟨d0, d1, d2⟩ := HKC.out; have hlk := HLK.out; go_simp; (try with_reducible rfl); (try omega))
        · exact fix_val (by rfl) (fun W hW => by subst hW; obtain ⟨d0, d1, d2⟩ := HKC.out; have hlk := HLK.out; go_simp; (try with_reducible rfl); (try omega))
        · exact fix_val (by rfl) (fun W hW => by subst hW; obtain ⟨d0, d1, d2⟩ := HKC.out; have hlk := HLK.out; go_simp; (try with_reducible rfl); (try omega))
        · exact fix_val (by rfl) (fun W hW => by subst hW; obtain ⟨d0, d1, d2⟩ := HKC.out; have hlk := HLK.out; go_simp; (try with_reducible rfl); (try omega))
      case he1 =>
      rintro V rfl
      go_wp2
      go_ret
      obtain ⟨hrl, hsm, hms, hfr, _, _⟩ := HS.out
      have e := hrl.done (by rw [HNW.out]; exact HLO.out)
      exact ⟨⟨a, k, c, rfl, by rw [e]; exact hms⟩, by rw [e]; exact hsm, hfr⟩
    | some ps =>
      rw [hlo] at hlk
      obtain ⟨ra, hra⟩ : ∃ ra, ra = (wr0 (tkey st nv)).1 := ⟨_, rfl⟩
      obtain ⟨rc, hrc⟩ : ∃ rc, rc = (wr0 (tkey st nv)).2 := ⟨_, rfl⟩
      have HLK : Hid ((Instr.lookup 74 (.map (some wb)) (.agg #[.int .u16 (st : Nat), .int .u16 (nv : Nat)]) true).run Try.prog W.drew = .ok (.tuple #[.slice ra ps.length rc, .bool true]) W.drew) := by rw [hra, hrc]; exact hlk
      have HLO : Hid (RlS s st (s1.let st) (k + 1) (T ++ [joinM ps])) := HS.out.1.step (by rw [HNW.out]; exact hlo)
      have hrow : RowW Y W.drew ra rc ps := by rw [hra, hrc]; exact (HS.out.2.1.ws _ (lookD_mem hlo)).2
      have hd : W.drew.drew = W.drew.drew := rfl
      obtain ⟨w6, hr6, hsm6, hf6⟩ := (HS.out.2.1.below (Below.refl _ _).drew).delW st nv hnv (by omega) 0
      have hyq : ∀ g, g < W.drew.drew.heap.size → g = wb → ¬ Y g := fun g _ e hy => (HS.out.2.1.yx g hy).2.2.2 e
      have hrow6 : RowW Y w6 ra rc ps := (hrow.fr (Q := fun _ => False) (Fr.of_below (Below.refl _ _).drew) (fun _ _ e => e.elim)).fr hf6 hyq
      have HJN := (show Hid _ from joined_any hrow6)
      have HK6 : Hid (W.drew.drew.cell? ⟨p, 2, none⟩ = some (.map (some wb)) ∧ W.drew.drew.cell? ⟨wr.heap.size, 0, none⟩ = some (.int .u16 (st : Nat)) ∧ W.drew.drew.cell? ⟨wr.heap.size, 1, none⟩ = some (.int .u16 (nv : Nat))) := HKC.out
      have HR6 := (show Hid _ from And.intro hr6 (And.intro hsm6 hf6))
      have hkl : k ≤ 128 := by omega
      obtain ⟨np, hnp⟩ : ∃ np, np = ps.length := ⟨_, rfl⟩
      rw [← hnp] at HLK HJN
      clear hlk hlo hrow hr6 hsm6 hf6 hrow6 hra hrc hyq hnp hd
      go_wp2_with fail
      rw [← hW]
      clear hW
      refine wp_region_fixW mixedX (fun V => V = W.drew) [(19, .pointer (some ⟨p, 0, none⟩)), (20, .pointer (some ⟨p, 0, none⟩)), (21, .pointer (some ⟨p, 2, none⟩)), (22, .map (some wb)), (23, .agg #[.int .u16 (st : Nat), .int .u16 (nv : Nat)]), (24, .tuple #[.slice ra np rc, .bool true]), (18, .tuple #[.slice ra np rc, .bool true]), (25, .slice ra np rc), (26, .bool true), (7, .slice ra np rc), (8, .bool true)] ?Z2 ?hZ2 (by kernel_rfl) (by kernel_rfl) (by kernel_rfl) (by kernel_rfl) ?h02 ?hops2 ?he2
      case hZ2 => simp only [List.foldl_cons, List.foldl_nil, List.setIfInBounds_toArray, List.set_cons_zero, List.set_cons_succ]; rfl
      case h02 => rfl
      case hops2 =>
        refine ⟨?_, ?_, ?_, ?_, ?_, ?_, ?_, ?_, ?_, ?_, ?_, trivial⟩
        · exact fix_val (by rfl) (fun W hW => by subst hW; obtain ⟨d0, d1, d2⟩ := HKC.out; have hlk := HLK.out; go_simp; (try with_reducible rfl); (try omega))
        · exact fix_val (by rfl) (fun W hW => by subst hW; obtain ⟨d0, d1, d2⟩ := HKC.out; have hlk := HLK.out; go_simp; (try with_reducible rfl); (try omega))
        · exact fix_val (by rfl) (fun W hW => by subst hW; obtain ⟨d0, d1, d2⟩ := HKC.out; have hlk := HLK.out; go_simp; (try with_reducible rfl); (try omega))
        · exact fix_val (by rfl) (fun W hW => by subst hW; obtain ⟨d0, d1, d2⟩ := HKC.out; have hlk := HLK.out; go_simp; (try with_reducible rfl); (try omega))
        · exact fix_val (by rfl) (fun W hW => by subst hW; obtain ⟨d0, d1, d2⟩ := HKC.out; have hlk := HLK.out; go_simp; (try with_reducible rfl); (try omega))
        · exact fix_val (by rfl) (fun W hW => by subst hW; obtain ⟨d0, d1, d2⟩ := HKC.out; have hlk := HLK.out; go_simp; (try with_reducible rfl); (try omega))
        · exact fix_val (by rfl) (fun W hW => by subst hW; obtain ⟨d0, d1, d2⟩ := HKC.out; have hlk := HLK.out; go_simp; (try with_reducible rfl); (try omega))
        · exact fix_val (by rfl) (fun W hW => by subst hW; obtain ⟨d0, d1, d2⟩ := HKC.out; have hlk := HLK.out; go_simp; (try with_reducible rfl); (try omega))
        · exact fix_val (by rfl) (fun W hW => by subst hW; obtain ⟨d0, d1, d2⟩ := HKC.out; have hlk := HLK.out; go_simp; (try with_reducible rfl); (try omega))
        · exact fix_val (by rfl) (fun W hW => by subst hW; obtain ⟨d0, d1, d2⟩ := HKC.out; have hlk := HLK.out; go_simp; (try with_reducible rfl); (try omega))
        · exact fix_val (by rfl) (fun W hW => by subst hW; obtain ⟨d0, d1, d2⟩ := HKC.out; have hlk := HLK.out; go_simp; (try with_reducible rfl); (try omega))
      case he2 =>
      rintro V rfl
      go_wp2_with fail
      obtain ⟨d0, d1, d2⟩ := HK6.out
      have hr6 := HR6.out.1
      go_region
      clear d0 d1 d2 hr6
      go_wp2_with fail
      refine Calls.mono HJN.out ?_
      rintro e w7 ⟨⟨ja, jc, rfl, hjo⟩, hb7⟩
      obtain ⟨_, hsm6, hf6⟩ := HR6.out
      obtain ⟨_, _, hms, hfr, _, hnvE⟩ := HS.out
      have hW6 : Fr (fun g => g = nb ∨ g = wb) w w6 := (hfr.trans (Fr.of_below (Below.refl _ _).drew)).trans (hf6.mono (fun g _ e => .inr e))
      have hfr7 : Fr (fun g => g = nb ∨ g = wb) w w7 := hW6.trans (Fr.of_below hb7)
      have hapart : ∀ g, w.heap.size ≤ g → ¬ (g = nb ∨ g = wb) := fun g hg e => by
        have h1 := HWL.out.1
        have h2 := HWL.out.2.1
        rcases e with e | e <;> omega
      have hms7 : MsgsW w7 w.heap.size a k c T := (((hms.below (Below.refl _ _).drew).fr hf6 (fun g hg _ e => hapart g hg (.inr e)))).below hb7
      have hsm7 := hsm6.below hb7
      have hjo7 := hjo.base hW6.size
      obtain ⟨m, hm⟩ : ∃ m, m = joinM ps := ⟨_, rfl⟩
      rw [← hm] at hjo7 HLO ⊢
      obtain ⟨g8, c8, w8, hr8, hms8, hf8⟩ := hms7.app hjo7 hfr7.size (by omega)
      have hsm8 : SmW w8 p nb mb wb wr0 Y ⟨s1.nx, s1.D, delD s1.W (tkey st nv)⟩ := hsm7.fr hf8 (fun g _ hg => by
        have h1 := HR0.out.2.st.lt
        have h2 := HWL.out.1
        have h3 := HWL.out.2.1
        have h4 := HWL.out.2.2.1
        exact ⟨fun hy => by have := HR0.out.2.yl g hy; omega, by omega, by omega, by omega, by omega⟩)
      have hfr8 : Fr (fun g => g = nb ∨ g = wb) w w8 := ⟨hf8.os.trans hfr7.os, hf8.tape.trans hfr7.tape, hf8.output.trans hfr7.output, Nat.le_trans hfr7.size hf8.size, fun g hg hn => (hf8.block g (Nat.lt_of_lt_of_le hg hfr7.size) (by omega)).trans (hfr7.block g hg hn)⟩
      have e0 := hsm8.st.cell 0 _ rfl
      dsimp only at e0
      rw [hl1] at e0
      have en := hsm8.nx st (by dsimp only; omega)
      dsimp only at en
      rw [← hnvE] at en
      have ef := hsm8.nf st
      have hwrap : IntKind.u16.wrap ((nv : Int) + 1) = (((nv + 1) % 65536 : Nat) : Int) := by simp [IntKind.wrap, IntKind.bits, IntKind.signed]
      have HZ : Hid (SmW (w8.setCell ⟨nb, st, none⟩ (.int .u16 (((nv + 1) % 65536 : Nat) : Int))) p nb mb wb wr0 Y (s1.let st) ∧ MsgsW (w8.setCell ⟨nb, st, none⟩ (.int .u16 (((nv + 1) % 65536 : Nat) : Int))) w.heap.size (some ⟨g8, 0, none⟩) (k + 1) c8 (T ++ [m]) ∧ Fr (fun g => g = nb ∨ g = wb) w (w8.setCell ⟨nb, st, none⟩ (.int .u16 (((nv + 1) % 65536 : Nat) : Int)))) := by
        have hf9 := Fr.setCell (fun g => g = nb) w8 ⟨nb, st, none⟩ (.int .u16 (((nv + 1) % 65536 : Nat) : Int)) rfl
        refine ⟨?_, hms8.fr hf9 (fun g hg _ e => hapart g hg (.inl e)), hfr8.trans (hf9.mono (fun g _ e => .inl e))⟩
        have := hsm8.setN st ((nv + 1) % 65536) (by dsimp only; omega) (by omega)
        unfold SmS.let SmS.now
        rw [← hnvE]
        exact this
      obtain ⟨mst, mss, mpp, mfr, mzs⟩ := m
      unfold Mg.v at hr8 ⊢
      dsimp only at hr8 ⊢
      clear hm hsm8 hfr8 hf8 hms8 hjo7 hsm7 hms7 hapart hfr7 hW6 hnvE hms hfr hsm6 hf6 hjo hb7 HR6 HJN HS HK6 HKC HLK
      go_wp2_with (at_builtin; refine app_eq_list rfl _ _ rfl rfl rfl rfl hr8 ?_)
      go_roundw
      case rel => exact ⟨k + 1, s1.let st, _, _, c8, rfl, HLO.out, HZ.out.1, HZ.out.2.1, HZ.out.2.2⟩
      case measure => simp [lenOf]; omega
end Go.Proofs.Ytjaheelgcjafcaa
