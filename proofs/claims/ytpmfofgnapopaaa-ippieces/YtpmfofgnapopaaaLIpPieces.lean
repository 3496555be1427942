/- Whatever packet, and greatest length: the walk of law10.IpPieces ends with true. -/
import Derived.Test.YtpmfofgnapopaaaIpPcM
import Derived.Test.YtpmfofgnapopaaaIpLive
import Derived.Deep.QuietTactic
import Derived.BigQuiet
import Derived.WalkSmall
namespace Go.Proofs.Ytpmfofgnapopaaa
open Go.RowKit
set_option maxRecDepth 100000 in
set_option maxHeartbeats 1000000 in
theorem walk_IpPieces (sr ds pr tt id : Nat) (dn mo : Bool) (of : Int) (a : Option Addr) (n c : Nat) (zs : List Nat) (mtu : Int) (w : World) (hsr : sr < 4294967296) (hds : ds < 4294967296) (hpr : pr < 256) (htt : tt < 256) (hid : id < 65536) (_hof : (Lit.int .i64 of).wf = true) (h0 : Sl w a n c zs ∧ c ≤ 140737488351232) (hmtu : (Lit.int .i64 mtu).wf = true) :
    Calls Try.prog 8 #[.agg #[.int .u32 (sr : Nat), .int .u32 (ds : Nat), .int .u8 (pr : Nat), .int .u8 (tt : Nat), .int .u16 (id : Nat), .bool dn, .bool mo, .int .i64 of, .slice a n c], .int .i64 mtu] w fun e w' => e = .returned (.bool true) ∧ Below w.heap.size w w' := by
  obtain ⟨h0, hcb⟩ := h0
  clear hcb
  have hl := h0.len
  have hsm := h0.small
  obtain ⟨W, hW⟩ : ∃ W, W = w.alloc (.cells #[.int .u32 (sr : Nat), .int .u32 (ds : Nat), .int .u8 (pr : Nat), .int .u8 (tt : Nat), .int .u16 (id : Nat), .bool dn, .bool mo, .int .i64 of, .slice a n c] 26) := ⟨_, rfl⟩
  have hX := Stc.new w [.int .u32 (sr : Nat), .int .u32 (ds : Nat), .int .u8 (pr : Nat), .int .u8 (tt : Nat), .int .u16 (id : Nat), .bool dn, .bool mo, .int .i64 of, .slice a n c] 26 W hW
  have hbW : Below w.heap.size w W := by rw [hW]; exact (Below.refl _ _).alloc (Nat.le_refl _) _
  have hsW := h0.below hbW
  have x0 := hX.cell 0 _ rfl
  have x1 := hX.cell 1 _ rfl
  have x2 := hX.cell 2 _ rfl
  have x3 := hX.cell 3 _ rfl
  have x4 := hX.cell 4 _ rfl
  have x5 := hX.cell 5 _ rfl
  have x6 := hX.cell 6 _ rfl
  have x7 := hX.cell 7 _ rfl
  have x8 := hX.cell 8 _ rfl
  have hsp := split_any sr ds pr tt id dn mo of a n c zs mtu W hsW hmtu
  have HSP0 := (show Hid _ from @spR_pieces)
  go_enter Try.func8, Try.ntmps8
  go_wp2_with fail
  rw [← hW]
  clear hW
  refine hsp.mono ?_
  rintro e w1 ⟨⟨a1, c1, ps, rfl, k1, hR⟩, b1⟩
  have hX1 := hX.below b1
  have hs1 := hsW.below b1
  have bb1 : Below w.heap.size w w1 := hbW.trans (b1.mono hbW.size)
  have hz1 := bb1.size
  have hzW := b1.size
  clear x0 x1 x2 x3 x4 x5 x6 x7 x8 hX hsW b1 hsp
  by_cases hE : spE dn mo of zs.length mtu = 0
  case neg =>
    have hps : ps = [] := by
      rcases hR with ⟨_, h⟩ | ⟨h, _⟩ | ⟨h, _⟩
      · exact h
      · exact absurd h hE
      · exact absurd h hE
    subst hps
    have hne : ¬ ((spE dn mo of zs.length mtu : Nat) : Int) = 0 := by omega
    have hne2 : (((spE dn mo of zs.length mtu : Nat) : Int) != 0) = true := by simpa using hne
    generalize spE dn mo of zs.length mtu = E at *
    go_wp2_with fail
    refine (live10_any w1).mono ?_
    rintro e w2 ⟨rfl, b2⟩
    go_wp2
    go_ret
    exact ⟨rfl, bb1.trans (b2.mono bb1.size)⟩
  case pos =>
  obtain ⟨P, hP⟩ := HSP0.out hR hE (by rw [hl]; exact hsm)
  have hof : 0 ≤ of ∧ of ≤ 65528 ∧ n ≤ 65515 := by
    unfold spE at hE
    split at hE
    · rename_i h9; exact absurd hE h9
    · rename_i h9
      have := mbE_ok (show mbE mo of zs.length = 0 by simpa using h9)
      rw [hl] at this
      omega
  rw [hE]
  clear hE hR HSP0
  obtain ⟨K, hK⟩ : ∃ K, K = ps.length := ⟨_, rfl⟩
  have hpK := hP.pK
  have hp0 := hP.p0
  rw [← hK] at k1 hpK ⊢
  have HK := (show Hid _ from hK)
  have hKb : K * 9 ≤ 9 * 9223372036854775807 := by
    have := k1.own.1
    by_cases h : 0 < K
    · obtain ⟨_, _, _, _, h1, h2, _⟩ := k1.at_ h
      unfold maxLen at h2
      omega
    · omega
  have HP0 := (show Hid _ from hp0)
  have HPK := (show Hid _ from hpK)
  clear hK hp0 hpK
  go_wp2_with fail
  go_loopw [7, 8] (fun all iv wr => ∃ (j : Nat) (aa : Option Addr) (ca : Nat), j ≤ K ∧ iv = .int .i64 (j : Nat) ∧ P j ≤ n ∧ all = .slice aa (P j) ca ∧ OwnB wr w1.heap.size aa (P j) ca (zs.take (P j)) ∧ Below w1.heap.size w1 wr) (fun _ iv _ => K - (intOf iv).toNat)
  case atStart => exact ⟨0, none, 0, by omega, rfl, by have := HP0.out; omega, by rw [HP0.out], by rw [HP0.out]; exact OwnB.nil _ _, Below.refl _ _⟩
  case round =>
    obtain ⟨j, aa, ca, hj, rfl, hPn, rfl, hown, hbel⟩ := hrel
    have hXr := hX1.below hbel
    have hsr1 := hs1.below hbel
    by_cases hjK : j < K
    · have hji : (j : Int) < (K : Int) := by omega
      have kr := k1.below hbel
      have hPr := hP.below hbel
      obtain ⟨x, hx⟩ : ∃ x, ps[j]? = some x := ⟨_, List.getElem?_eq_getElem (by rw [← HK.out]; exact hjK)⟩
      obtain ⟨g, rfl, _, hgl, hcap, hmx, hcell⟩ := kr.at_ (by omega)
      obtain ⟨e1, e2, e3, e4, e5, e6, e7, e8, e9, e10, e11, e12, e13⟩ := hPr.each j x hx
      have lc := fun i u hu => hcell j x hx i u hu
      obtain ⟨xs, xd, xp, xt, xi, xn, xm, xo, xa, xl, xc⟩ := x
      simp only at e1 e2 e3 e4 e5 e6 e7 e8 e9 e10 e11 e12 e13
      subst e1 e2 e3 e4 e5 e6 e7 e8
      have l0 := lc 0 _ rfl
      have l1 := lc 1 _ rfl
      have l2 := lc 2 _ rfl
      have l3 := lc 3 _ rfl
      have l4 := lc 4 _ rfl
      have l5 := lc 5 _ rfl
      have l6 := lc 6 _ rfl
      have l7 := lc 7 _ rfl
      have l8 := lc 8 _ rfl
      simp only [Nat.add_zero] at l0
      clear lc hcell hPr
      unfold maxLen at hmx
      have hxl := e9.small
      have hpt := iput_any xs xd xp xt xi xn (mo || decide (j + 1 < ps.length)) (of + (P j : Int)) xa xl xc _ wr hsr hds hpr htt hid e9
      have hVl : (ipV xs xd xp xt xi xn (mo || decide (j + 1 < ps.length)) (of + (P j : Int)) ((zs.drop (P j)).take xl)).length = 20 + xl := by
        unfold ipV
        rw [e9.len, if_pos e12, List.length_append, ipHd_len, e9.len]
      have hml : ps.length = K := HK.out.symm
      rw [e12] at hpt
      rw [hml] at hpt hVl l6
      have HPJ : Hid (P (j + 1) = P j + xl) := e10
      have HTK : Hid (zs.take (P j + xl) = zs.take (P j) ++ (zs.drop (P j)).take xl) := List.take_add
      generalize ipV xs xd xp xt xi xn (mo || decide (j + 1 < K)) (of + (P j : Int)) ((zs.drop (P j)).take xl) = V at *
      generalize (zs.drop (P j)).take xl = XB at *
      obtain ⟨p, hp⟩ : ∃ p, p = P j := ⟨_, rfl⟩
      rw [← hp] at hpt l7 hown hPn e11 HPJ HTK ⊢
      have Hp := (show Hid _ from hp)
      clear e10 e12 hp hml
      obtain ⟨M, hM⟩ : ∃ M, M = (mo || decide (j + 1 < K)) := ⟨_, rfl⟩
      rw [← hM] at l6 hpt
      have hpn : (p : Int) ≤ 65515 := by omega
      have HMM := (show Hid _ from hM)
      clear hM
      go_wp2_with fail
      refine hpt.mono ?_
      rintro e w3 ⟨⟨a3, c3, rfl, o3⟩, b3⟩
      rw [hVl] at o3 ⊢
      have b13 : Below w1.heap.size w1 w3 := hbel.trans (b3.mono hbel.size)
      have hX3 := hXr.below b3
      have hown3 := hown.below b3
      have r3 := e9.below b3
      have L4 := (b3.cell (p := ⟨g, j * 9 + 4, none⟩) hgl).trans l4
      have L6 := (b3.cell (p := ⟨g, j * 9 + 6, none⟩) hgl).trans l6
      have L7 := (b3.cell (p := ⟨g, j * 9 + 7, none⟩) hgl).trans l7
      have L8 := (b3.cell (p := ⟨g, j * 9 + 8, none⟩) hgl).trans l8
      have x4 := hX3.cell 4 _ rfl
      have x6 := hX3.cell 6 _ rfl
      have x7 := hX3.cell 7 _ rfl
      have hmt : ¬ mtu < 20 + (xl : Int) := by omega
      clear l0 l1 l2 l3 l4 l5 l6 l7 l8 hXr hown o3 hpt hVl
      have hof2 := hof.1
      have hof3 := hof.2.1
      have hwr : IntKind.i64.wrap (of + (p : Int)) = of + (p : Int) := by rw [IntKind.wrap_i64]; omega
      have hnb : (of + (p : Int) != of + (p : Int)) = false := by simp
      have hxb : ((xi : Int) != (xi : Int)) = false := by simp
      have hmtb : decide (mtu < 20 + (xl : Int)) = false := by simpa using hmt
      have hli : (j + 1 < K ∧ (j : Int) + 1 < (K : Int)) ∨ (¬ j + 1 < K ∧ ¬ (j : Int) + 1 < (K : Int)) := by omega
      have hMM := HMM.out
      clear HMM
      have hcs : (mo = true ∧ M = true) ∨ (mo = false ∧ M = true ∧ decide ((j : Int) + 1 < (K : Int)) = true) ∨ (mo = false ∧ M = false ∧ decide ((j : Int) + 1 < (K : Int)) = false) := by
        rw [hMM]
        cases mo with
        | true => exact .inl ⟨rfl, rfl⟩
        | false =>
          rcases hli with ⟨h1, h2⟩ | ⟨h1, h2⟩
          · exact .inr (.inl ⟨rfl, by simp [h1], decide_eq_true h2⟩)
          · exact .inr (.inr ⟨rfl, by simp [h1], decide_eq_false h2⟩)
      have hKi : ((j : Int) + 1 < (K : Int)) ∨ True := .inr trivial
      clear hMM hli hKi
      rcases hcs with ⟨rfl, rfl⟩ | ⟨rfl, rfl, hd⟩ | ⟨rfl, rfl, hd⟩
      all_goals
        go_wp2_with fail
        go_quiet (fail)
        have bq : Below w3.heap.size w3 (w3.drewN nq) := below_drewN (Below.refl _ _) nq
        obtain ⟨w4, hw4⟩ : ∃ w4, w4 = w3.drewN nq := ⟨_, rfl⟩
        rw [← hw4] at bq ⊢
        clear hw4
        have hgl3 : g < w3.heap.size := Nat.lt_of_lt_of_le hgl b3.size
        have N8 := (bq.cell (p := ⟨g, j * 9 + 8, none⟩) hgl3).trans L8
        have hown4 := hown3.below bq
        have r4 := r3.below bq
        have b14 : Below w1.heap.size w1 w4 := b13.trans (bq.mono b13.size)
        have hz14 := b14.size
        clear L4 L6 L7 L8 x4 x6 x7 hX3 hown3 r3 b13 b3 bq e9
        go_wp2_with (at_builtin; go_must (refine app_list rfl _ _ rfl w1.heap.size aa p ca (zs.take p) rfl hown4 _ xl xc XB rfl r4 (by omega) hz14 ?_))
        intro a5 c5 w5 o5 g5
        have b15 : Below w1.heap.size w1 w5 := b14.trans (hown4.up g5 hz14)
        rw [← HTK.out] at o5
        clear hown4 r4 g5 b14 N8
        go_wp2
        go_roundw
        case rel => exact ⟨j + 1, a5, c5, by omega, by go_num, by rw [HPJ.out]; omega, by rw [HPJ.out], by rw [HPJ.out]; exact o5, b15⟩
        case measure => simp [intOf]; omega
    · obtain rfl : j = K := by omega
      obtain ⟨w6, hw6⟩ : ∃ w6, w6 = wr := ⟨_, rfl⟩
      subst hw6
      have hPe : P j = n := by rw [HPK.out]; exact hl
      rw [hPe] at hown ⊢
      rw [List.take_of_length_le (by omega)] at hown
      have bb6 : Below w.heap.size w w6 := bb1.trans (hbel.mono bb1.size)
      clear hPe hPn
      go_wp2_with fail
      refine (live10_any w6).mono ?_
      rintro e w7 ⟨rfl, b7⟩
      have hX7 := hXr.below b7
      have x8 := hX7.cell 8 _ rfl
      have k1' := conv_str ((hown.below b7).sl (by omega))
      have k2' := conv_str (hsr1.below b7)
      have bb7 : Below w.heap.size w w7 := bb6.trans (b7.mono bb6.size)
      clear hX7 hXr hown hsr1 bb6 b7 hbel k1
      go_wp2
      go_ret
      exact ⟨rfl, bb7⟩
end Go.Proofs.Ytpmfofgnapopaaa
