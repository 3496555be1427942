/-
  Whatever the input, trunklinelaw14.OutqCuts answers true and leaves what it was handed as it was.
  (The statement is Rows.OutqCutsSaid; no condition of our own.)
-/
import Derived.Test.YtconfmjgoipejaaKH
import Derived.Test.YtconfmjgoipejaaKK
import Derived.Test.YtconfmjgoipejaaRows
import Derived.ProofKit
import Derived.OpenShut
import Derived.ShutString
import Derived.ChangeOld
import Derived.SizedLaws
namespace Go.Proofs.Ytconfmjgoipejaa
open Go.RowKit Go.Shelf
theorem app_eqP {P : Program} {S : TypeId} {ops : Array Oper} {rest : List Oper} {o : Oper} {A : Act} {w w' : World} {Q : Exit → Act → World → Prop} {v u r : Value} {ty : TypeId} (hgd : Region.wanted o (yielded ops A.tmps) = true) (s x : Operand)
    (ho : o.op = .call { callee := .builtin .append, args := #[s, x], argTypes := #[S, S] }) (hty : o.type = ty) (hs : A.eval s = v) (hx : A.eval x = u)
    (hrun : (Builtin.append_ #[S, S] ty #[v, u]).run P w = .ok r w') (hK : wpList P ops Q rest (A.put o.dst r) w') : wpList P ops Q (o :: rest) A w :=
  wpList_step fun K hK' => by
    rw [if_pos hgd]
    subst hty
    have := hK' _ _ hK
    unfold Oper.wp
    simp [execOp, ho, resolve, invoke, builtin, hs, hx, hrun, Result.andThen]
    exact this
theorem bitsA1 {f : Nat} (h : f < 8) : bits BinOp.and IntKind.u8 (f : Int) 1 = ((f &&& 1 : Nat) : Int) := by
  obtain rfl | rfl | rfl | rfl | rfl | rfl | rfl | rfl : f = 0 ∨ f = 1 ∨ f = 2 ∨ f = 3 ∨ f = 4 ∨ f = 5 ∨ f = 6 ∨ f = 7 := by omega
  all_goals rfl
theorem bitsA2 {f : Nat} (h : f < 8) : bits BinOp.and IntKind.u8 (f : Int) 2 = ((f &&& 2 : Nat) : Int) := by
  obtain rfl | rfl | rfl | rfl | rfl | rfl | rfl | rfl : f = 0 ∨ f = 1 ∨ f = 2 ∨ f = 3 ∨ f = 4 ∨ f = 5 ∨ f = 6 ∨ f = 7 := by omega
  all_goals rfl
theorem bitsA4 {f : Nat} (h : f < 8) : bits BinOp.and IntKind.u8 (f : Int) 4 = ((f &&& 4 : Nat) : Int) := by
  obtain rfl | rfl | rfl | rfl | rfl | rfl | rfl | rfl : f = 0 ∨ f = 1 ∨ f = 2 ∨ f = 3 ∨ f = 4 ∨ f = 5 ∨ f = 6 ∨ f = 7 := by omega
  all_goals rfl
/-- The first loop's state. -/
structure CvL (w : World) (q c0 size bn k : Nat) (wt : Value) (W : World) : Prop where
  ex : ∃ D L nx Ws wa wc wl, wt = .slice wa (List.length wl) wc ∧ wl.length ≤ k ∧ CvW w D q c0 size bn L nx Ws wa wc wl W
set_option maxRecDepth 100000 in
set_option maxHeartbeats 8000000 in
theorem walk_OutqCuts (first x : Nat) (a : Option Addr) (n c : Nat) (dd : List MgD) (w : World) (hf : first < 4294967296) (hx : x < 256) (hd : SlMg w a n c dd) :
    Calls Try.prog 4 #[.int .u32 (first : Nat), .int .u8 (x : Nat), .slice a n c] w fun e w' => e = .returned (.bool true) ∧ Below w.heap.size w w' := by
  obtain ⟨z, hz⟩ : ∃ z, z = 1 + x % 64 := ⟨_, rfl⟩
  have hz1 : 1 ≤ z := by omega
  have hz2 : z ≤ 64 := by omega
  have hzx : 1 + (x : Int) % 64 = (z : Int) := by omega
  have hnew := onew_ok first 8 z w hf (by decide) (by decide) hz1 (by omega)
  obtain ⟨c0, hc0⟩ : ∃ c, c = addV 4294967296 first (-1) := ⟨_, rfl⟩
  have hc1 : c0 = (first + 4294967295) % 4294967296 := by rw [hc0]; unfold addV; omega
  have hc2 : c0 < 4294967296 := by omega
  rw [← hc0] at hnew
  have HC1 := (show Hid _ from hc1)
  have HD := (show Hid _ from hd)
  have hnn : n ≤ 281474976710656 := hd.small
  clear hz hc0 hc1 hd
  go_enter Try.func4, Try.ntmps4
  go_wp2_with fail
  refine Calls.mono hnew ?_
  rintro e w1 hN
  obtain ⟨q, rfl, hq⟩ := OwQ.new hN
  have hb1 := hN.bel
  obtain ⟨w2, hw2⟩ : ∃ w2, w2 = w1.alloc (.cells #[.int .u16 0, .int .u16 0, .int .u16 0, .int .u16 0, .int .u16 0, .int .u16 0, .int .u16 0, .int .u16 0] 35) := ⟨_, rfl⟩
  have b2 : Below w1.heap.size w1 w2 := by rw [hw2]; exact (Below.refl _ _).alloc (Nat.le_refl _) _
  have hW0 : CvW w w1.heap.size q c0 z w1.heap.size [] (List.replicate 8 0) [] none 0 [] w2 :=
    ⟨hq.below b2, rfl, ⟨_, _, by rw [hw2]; exact World.alloc_heap_new w1 _⟩, Stc.new w1 _ 35 w2 hw2, rfl, fun i => by
      rw [List.getD_eq_getElem?_getD, List.getElem?_replicate]
      split <;> decide, OwnG.nil _ _, rfl, fun x hx => (by cases hx), fun m hm => (by cases hm), hb1.trans (b2.mono hb1.size), by decide, by decide, hb1.size⟩
  have HW2 := (show Hid _ from hw2)
  have HL0 : Hid (CvL w q c0 z w1.heap.size 0 (.slice none 0 0) w2) := ⟨_, _, _, _, _, _, _, rfl, Nat.le_refl _, hW0⟩
  clear hN hq hnew hw2 b2 hW0 hb1
  go_wp2
  rw [← HW2.out]
  go_loopw [9, 12] (fun wt i wr => ∃ k : Nat, k ≤ n ∧ k ≤ 20 ∧ i = .int .i64 (k : Nat) ∧ CvL w q c0 z w1.heap.size k wt wr) (fun _ i _ => 20 - (intOf i).toNat)
  case atStart => exact ⟨0, by omega, by omega, rfl, HL0.out⟩
  case round =>
    obtain ⟨k, hkn, hk20, rfl, hI⟩ := hrel
    by_cases hlt : k < n ∧ k < 20
    · obtain ⟨hk1, hk2⟩ := hlt
      have g1 : (k : Int) < (n : Int) := by omega
      have g2 : (k : Int) < 20 := by omega
      have g0 : (0 : Int) ≤ (k : Int) := by omega
      obtain ⟨D, L, nx, Ws, wa, wc, wl, rfl, hwl, hI⟩ := hI
      obtain ⟨b, off, rfl, hbl, hcl⟩ := HD.out.at_.resolve_left (by omega)
      obtain ⟨y, hy⟩ : ∃ y, dd[k]? = some y := ⟨_, List.getElem?_eq_getElem (by rw [HD.out.len]; exact hk1)⟩
      have hyw := HD.out.wf y (List.mem_of_getElem? hy)
      have hbelw := hI.bl
      have hcy : ∀ j v, y.vals[j]? = some v → wr.cell? ⟨b, off + k * 5 + j, none⟩ = some v := fun j v hv => (hbelw.cell (p := ⟨b, off + k * 5 + j, none⟩) hbl).trans (hcl k y hy j v hv)
      have hcap := HD.out.cap
      obtain ⟨W3, hW3⟩ : ∃ W3, W3 = wr.alloc (.cells y.vals.toArray 38) := ⟨_, rfl⟩
      have b3 : Below wr.heap.size wr W3 := by rw [hW3]; exact (Below.refl _ _).alloc (Nat.le_refl _) _
      have s3 := Stc.new wr y.vals 38 W3 hW3
      have hq3 := hI.qu.below b3
      have hll := hI.ll
      have hsm := hI.sm
      have hL1 : L.length ≤ 100000 := by omega
      have hS1 : sumL L L.length ≤ 100000 := by omega
      have hdN : y.daN ≤ 140737488351232 := Nat.le_trans hyw.2.2.2.1.cap hyw.2.2.2.2
      have HI := (show Hid _ from And.intro hI hwl)
      have k0 : wr.cell? ⟨b, off + k * 5, none⟩ = some (.int .u16 (y.st : Nat)) := hcy 0 _ rfl
      have k1 : wr.cell? ⟨b, off + k * 5 + 1, none⟩ = some (.int .u16 (y.ss : Nat)) := hcy 1 _ rfl
      have k2 : wr.cell? ⟨b, off + k * 5 + 2, none⟩ = some (.int .u32 (y.pp : Nat)) := hcy 2 _ rfl
      have k3 : wr.cell? ⟨b, off + k * 5 + 3, none⟩ = some (.bool y.fr) := hcy 3 _ rfl
      have k4 : wr.cell? ⟨b, off + k * 5 + 4, none⟩ = some (.slice y.daA y.daN y.daC) := hcy 4 _ rfl
      by_cases hg : mpE nx.length y.st y.daN (sumL L L.length) = 0
      · have hgd := hg
        unfold mpE at hgd
        rw [hI.n8] at hgd
        have hg8 : y.st < 8 ∧ 0 < y.daN ∧ y.daN ≤ 4096 ∧ sumL L L.length + y.daN ≤ 8192 := by
          split at hgd
          · omega
          · split at hgd
            · omega
            · split at hgd <;> omega
        obtain ⟨hs8, hd0, hd1, hd2⟩ := hg8
        obtain ⟨b9, o9, e9, hl9, _⟩ := hyw.2.2.2.1.at_.resolve_left (by omega)
        have hyb : ∀ b o s, y.daA = some ⟨b, o, s⟩ → b < w.heap.size := fun b o s e => by
          rw [e9] at e
          injection e with e
          injection e with e _ _
          omega
        have hpu := push_own hq3 hL1 hS1 hc2 hz1 (by omega) hI.nl y.st y.ss y.pp y.fr hyw.1 (hyw.2.2.2.1.below (hI.bl.trans (b3.mono hI.bl.size))) (fun b o s e => ⟨Nat.lt_of_lt_of_le (hyb b o s e) (Nat.le_trans hI.bl.size b3.size), .inl (hyb b o s e)⟩) hg
        have HPU := (show Hid _ from hpu)
        have HST := (show Hid _ from fun e W4 hp => hI.push hyw hyb hs8 hd0 hd2 hz1 (by omega) W3 hW3 (e := e) (W4 := W4) hp)
        have HW3 := (show Hid _ from hW3)
        have HNX := (show Hid _ from And.intro hI.n8 hI.nl)
        clear hpu hW3 hI hyb e9 hl9 hgd hg hq3 hcy b3 hd1 hd2 hbelw hcl hwl hyw
        obtain ⟨st, ss, pp, fr, da, dn, dc, zs⟩ := y
        dsimp only at k0 k1 k2 k3 k4 hs8 hd0 hdN
        go_wp2_with fail
        have hw3 : W3 = wr.alloc (.cells #[.int .u16 (st : Nat), .int .u16 (ss : Nat), .int .u32 (pp : Nat), .bool fr, .slice da dn dc] 38) := HW3.out
        rw [← hw3]
        refine Calls.mono HPU.out ?_
        rintro e W4 hp
        obtain ⟨s4, n4, hst4⟩ := HST.out _ W4 hp
        have hex := hp.ex
        subst hex
        have m0 : W4.cell? ⟨wr.heap.size, 0, none⟩ = some (.int .u16 (st : Nat)) := s4.cell 0 _ rfl
        have m1 : W4.cell? ⟨wr.heap.size, 1, none⟩ = some (.int .u16 (ss : Nat)) := s4.cell 1 _ rfl
        have m2 : W4.cell? ⟨wr.heap.size, 2, none⟩ = some (.int .u32 (pp : Nat)) := s4.cell 2 _ rfl
        have m3 : W4.cell? ⟨wr.heap.size, 3, none⟩ = some (.bool fr) := s4.cell 3 _ rfl
        have m4 : W4.cell? ⟨wr.heap.size, 4, none⟩ = some (.slice da dn dc) := s4.cell 4 _ rfl
        have f1 := s4.free 1
        obtain ⟨v, hv⟩ : ∃ v, v = nx.getD st 0 := ⟨_, rfl⟩
        have hv6 : v < 65536 := by rw [hv]; exact HNX.out.2 st
        have cv : W4.cell? ⟨w1.heap.size, st, none⟩ = some (.int .u16 (v : Nat)) := n4.cell st _ (by
          unfold u16V
          rw [List.getElem?_map, hv, List.getD_eq_getElem?_getD, List.getElem?_eq_getElem (by rw [HNX.out.1]; exact hs8)]
          rfl)
        have fv := n4.free st
        obtain ⟨v2, hv2⟩ : ∃ v2, v2 = (v + 1) % 65536 := ⟨_, rfl⟩
        have hwv : IntKind.u16.wrap ((v : Int) + 1) = (v2 : Int) := by rw [hv2, IntKind.wrap_u16]; omega
        have hs0 : (st : Int) < 8 := by omega
        have hne : ¬ w1.heap.size = wr.heap.size := by have := HI.out.1.nt.lt; omega
        have hne2 : ¬ wr.heap.size = w1.heap.size := fun e => hne e.symm
        have HV := (show Hid _ from And.intro hv hv2)
        clear hp s4 n4 HST HPU HW3 hw3 s3 hv hv2 k0 k1 k2 k3 k4
        cases fr with
        | true =>
          have hc := hst4 (W4.setCell ⟨wr.heap.size, 1, none⟩ (.int .u16 0)) (by rw [if_pos rfl])
          obtain ⟨g, c2, Vb, hrun, D2, L2, hI2⟩ := hc.go
          have happ : (Builtin.append_ #[33, 33] 33 #[.slice wa wl.length wc, .slice (some ⟨W4.heap.size, 0, none⟩) 1 1]).run Try.prog ((W4.setCell ⟨wr.heap.size, 1, none⟩ (.int .u16 0)).alloc (.cells #[.int .u16 (st : Nat), .int .u16 0, .int .u32 (pp : Nat), .bool true, .slice da dn dc] 38)) = .ok (.slice (some ⟨g, 0, none⟩) (wl.length + 1) c2) Vb := hrun _
          have HI2 := (show Hid _ from hI2)
          clear hc hrun hI2 hst4 cv fv hwv
          go_wp2_with (at_builtin; refine app_eqP rfl _ _ rfl rfl rfl rfl happ ?_)
          go_roundw
          case rel => exact ⟨k + 1, by omega, by omega, by go_num, ⟨D2, L2, _, _, _, _, _, by rw [List.length_append]; rfl, by rw [List.length_append]; have := HI.out.2; simp; omega, HI2.out⟩⟩
          case measure => simp [intOf]; omega
        | false =>
          have hc := hst4 (((W4.setCell ⟨wr.heap.size, 1, none⟩ (.int .u16 0)).setCell ⟨wr.heap.size, 1, none⟩ (.int .u16 (v : Nat))).setCell ⟨w1.heap.size, st, none⟩ (.int .u16 (v2 : Nat))) (by rw [if_neg (by decide), HV.out.2, HV.out.1]; rfl)
          obtain ⟨g, c2, Vb, hrun, D2, L2, hI2⟩ := hc.go
          have happ : (Builtin.append_ #[33, 33] 33 #[.slice wa wl.length wc, .slice (some ⟨W4.heap.size, 0, none⟩) 1 1]).run Try.prog ((((W4.setCell ⟨wr.heap.size, 1, none⟩ (.int .u16 0)).setCell ⟨wr.heap.size, 1, none⟩ (.int .u16 (v : Nat))).setCell ⟨w1.heap.size, st, none⟩ (.int .u16 (v2 : Nat))).alloc (.cells #[.int .u16 (st : Nat), .int .u16 (v : Nat), .int .u32 (pp : Nat), .bool false, .slice da dn dc] 38)) = .ok (.slice (some ⟨g, 0, none⟩) (wl.length + 1) c2) Vb := by
            have hnm : nmS false nx st = v := by rw [HV.out.1]; rfl
            have h1 := hrun 33
            dsimp only at h1
            rw [hnm] at h1
            exact h1
          have HI2 := (show Hid _ from hI2)
          clear hc hrun hI2 hst4
          go_wp2_with (at_builtin; refine app_eqP rfl _ _ rfl rfl rfl rfl happ ?_)
          go_roundw
          case rel => exact ⟨k + 1, by omega, by omega, by go_num, ⟨D2, L2, _, _, _, _, _, by rw [List.length_append]; rfl, by rw [List.length_append]; have := HI.out.2; simp; omega, HI2.out⟩⟩
          case measure => simp [intOf]; omega
      · obtain ⟨er, her⟩ : ∃ er, er = mpE nx.length y.st y.daN (sumL L L.length) := ⟨_, rfl⟩
        have hpu := push_no_own hq3 hL1 hS1 y.st y.ss y.pp y.fr y.daA y.daN y.daC hyw.1 hdN hg
        rw [← her] at hpu hg
        have hb2 : (((er : Int)) == 0) = false := by simp; exact hg
        have HPU := (show Hid _ from hpu)
        have HW3 := (show Hid _ from hW3)
        have HB3 := (show Hid _ from b3)
        clear hpu hW3 hI hg hq3 hcy her b3 hbelw hcl hwl hyw
        obtain ⟨st, ss, pp, fr, da, dn, dc, zs⟩ := y
        dsimp only at k0 k1 k2 k3 k4 hdN
        go_wp2_with fail
        have hw3 : W3 = wr.alloc (.cells #[.int .u16 (st : Nat), .int .u16 (ss : Nat), .int .u32 (pp : Nat), .bool fr, .slice da dn dc] 38) := HW3.out
        rw [← hw3]
        refine Calls.mono HPU.out ?_
        rintro e W4 ⟨rfl, hb4⟩
        have HI2 : Hid (CvL w q c0 z w1.heap.size (k + 1) (.slice wa wl.length wc) W4) := ⟨_, _, _, _, _, _, _, rfl, by have := HI.out.2; omega, HI.out.1.below (HB3.out.trans (hb4.mono HB3.out.size))⟩
        clear hb4 hw3 HPU HW3 HB3 s3 k0 k1 k2 k3 k4
        go_wp2
        go_roundw
        case rel => exact ⟨k + 1, by omega, by omega, by go_num, HI2.out⟩
        case measure => simp [intOf]; omega
    · obtain ⟨D, L, nx, Ws, wa, wc, wl, rfl, hwl, hI⟩ := hI
      obtain ⟨W5, hW5⟩ : ∃ W5, W5 = wr.alloc (.cells #[.int .u16 0, .int .u16 0, .int .u32 0, .bool false, .slice none 0 0] 38) := ⟨_, rfl⟩
      have b5 : Below wr.heap.size wr W5 := by rw [hW5]; exact (Below.refl _ _).alloc (Nat.le_refl _) _
      have z5 : W5.heap.size = wr.heap.size + 1 := by rw [hW5]; simp
      have hI5 := hI.below b5
      obtain ⟨P, hP⟩ : ∃ P, P = cutsW c0 z 0 Ws := ⟨_, rfl⟩
      have hPL : P.length = L.length := by rw [hP, ← hI.pc, List.length_map]
      have hP0 : ∀ p ∈ P, p.is = 0 ∧ p.f < 8 ∧ p.zs.length ≤ 64 := fun p hp => by
        rw [hP] at hp
        obtain ⟨i, hi⟩ := List.getElem?_of_mem hp
        obtain ⟨_, h1, _, _, h2, h3⟩ := cutsW_t c0 z Ws 0 i p hi
        exact ⟨h1, h2, by omega⟩
      have hPt : ∀ i p, P[i]? = some p → p.t = addV 4294967296 c0 ((0 + i + 1 : Nat) : Int) := fun i p hp => by
        rw [hP] at hp
        exact (cutsW_t c0 z Ws 0 i p hp).1
      obtain ⟨hgood, hgot⟩ := scan_all c0 z hz1 Ws 0 ⟨false, ⟨0, 0, 0, false, []⟩, []⟩ hI.wp
      rw [← hP] at hgood hgot
      have hgot2 : (scN P P.length).got = Ws := by
        unfold scN
        rw [List.take_length, hgot]
        rfl
      have hP8 : P.length ≤ 8192 := by have := hI.ll; have := hI.sm; omega
      have hS0 : CvS w W5.heap.size q c0 z wr.heap.size nx P wa wc wl 0 0 0 none 0 [] 0 (.slice none 0 0) W5 :=
        ⟨⟨none, 0, [], none, 0, rfl, ⟨⟨W5.heap.size, L, hI5.qu.topD, StC.start (by rw [hP]; exact hI.pc), Nat.le_refl _, hI5.sm, by have := hI5.ll; have := hI5.sm; omega⟩, hI5.wt, fun g hg => (OwnG.bt hI.wt g hg).lt, hI5.wd, OwnG.nil _ _, fun x hx => (by cases hx), OwnG.nil _ _, fun x hx => (by cases hx), fun x hx => (by cases hx), hI5.bl, hI.bl.size, by omega, Nat.le_refl _, .inr rfl⟩, ⟨⟨_, _, by rw [hW5]; exact World.alloc_heap_new wr _⟩, Stc.new wr _ 38 W5 hW5, OwnB.nil _ _, fun e => (by cases e), fun g hg => by simp [Value.ownBlock] at hg⟩, rfl⟩, Nat.zero_le _⟩
      have HP := (show Hid _ from And.intro hPt (And.intro hgood (And.intro hgot2 hP0)))
      have HS0 := (show Hid _ from hS0)
      have HW5 := (show Hid _ from hW5)
      have hwl2 : wl.length ≤ 20 := by omega
      have HWM := (show Hid _ from And.intro hI.wm hwl2)
      have hcase : ¬ (k : Int) < (n : Int) ∨ ((k : Int) < (n : Int) ∧ ¬ (k : Int) < 20) := by omega
      obtain ⟨bm, hbm⟩ : ∃ bm, bm = wr.heap.size := ⟨_, rfl⟩
      obtain ⟨Bg, hBg⟩ : ∃ Bg, Bg = W5.heap.size := ⟨_, rfl⟩
      rw [← hBg, ← hbm] at HS0
      have HBM := (show Hid _ from And.intro hbm hBg)
      have hF1 : (first : Nat) = (first + 0) % 4294967296 := by omega
      have HF1 := (show Hid _ from hF1)
      clear hF1 hbm hBg hS0 hW5 b5 z5 hI5 hPL hP0 hPt hgood hgot hgot2 hP hI hwl hwl2 HL0 hlt hkn hk20 HD hzx hz2
      rcases hcase with g1 | ⟨g1, g2⟩
      · go_wp2
        rw [← HW5.out, ← HBM.out.1]
        go_loopw [10, 14, 16] (fun gv at' tn wr2 => ∃ (t j lo hi : Nat) (ca : Option Addr) (cc : Nat) (ys : List PcA) (A : Nat), tn = .int .i64 (t : Nat) ∧ j = min (16 * t) P.length ∧ 16 * t < P.length + 16 ∧ at' = .int .u32 (A : Nat) ∧ A = (first + j) % 4294967296 ∧ CvS w Bg q c0 z bm nx P wa wc wl j lo hi ca cc ys j gv wr2) (fun _ _ u _ => 9000 - (intOf u).toNat)
        case atStart => exact ⟨0, 0, 0, 0, none, 0, [], first, rfl, by omega, by omega, rfl, HF1.out, HS0.out⟩
        case round =>
          obtain ⟨t, j, lo, hi, ca, cc, ys, A, rfl, hj, ht, rfl, hA, hS⟩ := hrel
          have gt9 : (t : Int) < 9000 := by omega
          obtain ⟨wy, hwy⟩ : ∃ wy, wy = t % 2 := ⟨_, rfl⟩
          have hwm : (t : Int) % 2 = (wy : Int) := by omega
          have hwm2 : Int.tmod (t : Int) 2 = (wy : Int) := by rw [Int.tmod_eq_emod_of_nonneg (by omega)]; exact hwm
          have hse := hS.send (fun p hp => (HP.out.2.2.2 p hp).1) (by omega) wy (by omega)
          have HSE := (show Hid _ from hse)
          have HJ := (show Hid _ from And.intro hj (And.intro ht hA))
          clear hse hS hwy hj ht hA
          go_wp2_with fail
          refine Calls.mono HSE.out ?_
          clear HSE
          rintro e w6 ⟨ca, cc, ys, rfl, hys, hS6⟩
          obtain ⟨yn, hyn⟩ : ∃ m, m = ys.length := ⟨_, rfl⟩
          have hyl : yn = min (j + 16) P.length - j := by
            rw [hyn]
            have := congrArg List.length hys
            rw [List.length_map, List.length_drop, List.length_take] at this
            omega
          have hjP : j ≤ P.length := by have := HJ.out.1; omega
          rw [← hyn]
          have g16 : ¬ (yn : Int) > 16 := by omega
          by_cases hy0 : yn = 0
          · have hjj : j = P.length := by omega
            obtain ⟨⟨ga, gc, gl, na, nc, rfl, hq, hn, hg⟩, _⟩ := hS6
            have hgW : gl.map MgD.toW = wl.map MgD.toW := by rw [hg, hjj, HP.out.2.2.1, HWM.out.1]
            have hgl : gl.length = wl.length := by simpa using congrArg List.length hgW
            have HSM := (show Hid _ from fun W (hW : Below w6.heap.size w6 W) => samemsgs_yes (hq.below hW).gt (by rw [hgl]; exact (hq.below hW).wt) hgW (fun x hx => ((hq.below hW).gd x hx).sl (data_le hgW hq.gd (fun u hu => (hq.wd u hu).1) x hx)) (fun x hx => ((hq.below hW).wd x hx).1) (by have := HWM.out.2; omega))
            have HB6 := (show Hid _ from hq.bl)
            have HGL := (show Hid _ from hgl)
            obtain rfl : yn = 0 := hy0
            clear hgW hgl hq hn hg hys hyn hyl hjj hjP
            go_wp2_with fail
            refine Calls.mono (live14_any w6) ?_
            rintro e w7 ⟨rfl, hb7⟩
            have HS7 := (show Hid _ from HSM.out w7 hb7)
            have HB7 : Hid (Below w.heap.size w w7) := HB6.out.trans (hb7.mono HB6.out.size)
            clear hb7 HSM HB6
            go_wp2_with fail
            rw [← HGL.out]
            refine Calls.mono HS7.out ?_
            rintro e w8 ⟨rfl, hb8⟩
            have HB8 : Hid (Below w.heap.size w w8) := HB7.out.trans (hb8.mono HB7.out.size)
            clear hb8 HS7 HB7
            go_wp2
            go_ret
            exact ⟨rfl, HB8.out⟩
          · have hy0' : ((yn : Int) == 0) = false := by simp; exact hy0
            have hy0'' : ¬ (yn : Int) = 0 := by omega
            obtain ⟨gch, hca, hcc⟩ : ∃ g, ca = some ⟨g, 0, none⟩ ∧ yn ≤ cc := by
              obtain ⟨⟨ga, gc, gl, na, nc, _, hq, _, _⟩, _⟩ := hS6
              obtain ⟨y, hy⟩ : ∃ y, ys[0]? = some y := ⟨_, List.getElem?_eq_getElem (by omega)⟩
              obtain ⟨g, h1, h2, _⟩ := hq.chunk hy
              exact ⟨g, h1, by omega⟩
            subst hca
            obtain ⟨j2, hj2⟩ : ∃ j2, j2 = min (j + 16) P.length := ⟨_, rfl⟩
            obtain ⟨lo2, hlo2⟩ : ∃ l, l = wr.heap.size := ⟨_, rfl⟩
            obtain ⟨hi2, hhi2⟩ : ∃ l, l = w6.heap.size := ⟨_, rfl⟩
            rw [← hj2, ← hlo2, ← hhi2] at hS6
            rw [← hj2] at hys hyl
            have hjy : j + yn = j2 := by omega
            have hj2P : j2 ≤ P.length := by omega
            have hAt : A = (first + (j + 0)) % 4294967296 := HJ.out.2.2
            have HA0 := (show Hid _ from hAt)
            have HS6 := (show Hid _ from hS6)
            have HY := (show Hid _ from And.intro hys (And.intro hyn (And.intro hjy (And.intro hj2P hj2))))
            clear hS6 hys hyn hyl hjP hj2 hlo2 hhi2 hjy hj2P hAt hwm hwm2
            go_wp2
            go_loopw [10, 14, 19] (fun gv at' iv wr3 => ∃ (i A : Nat), i ≤ yn ∧ iv = .int .i64 (i : Nat) ∧ at' = .int .u32 (A : Nat) ∧ A = (first + (j + i)) % 4294967296 ∧ CvS w Bg q c0 z bm nx P wa wc wl j2 lo2 hi2 (some ⟨gch, 0, none⟩) cc ys (j + i) gv wr3) (fun _ _ u _ => yn - (intOf u).toNat)
            case atStart => exact ⟨0, A, by omega, rfl, rfl, HA0.out, HS6.out⟩
            case round =>
              obtain ⟨i, A, hi, rfl, rfl, hA, hS⟩ := hrel
              by_cases hlt : i < yn
              · have gl1 : (i : Int) < (yn : Int) := by omega
                have gl0 : (0 : Int) ≤ (i : Int) := by omega
                obtain ⟨hys, hyn, hjy, hj2P, _⟩ := HY.out
                obtain ⟨y, hyi⟩ : ∃ y, ys[i]? = some y := ⟨_, List.getElem?_eq_getElem (by omega)⟩
                have hpi : P[j + i]? = some y.1 := by
                  have h1 := congrArg (fun l : List Pc => l[i]?) hys
                  simp only [List.getElem?_map, hyi, Option.map_some, List.getElem?_drop] at h1
                  rw [List.getElem?_take_of_lt (by omega)] at h1
                  exact h1.symm
                have hpt := HP.out.1 _ _ hpi
                have hp0 := HP.out.2.2.2 y.1 (List.mem_of_getElem? hpi)
                have hgd := scN_good HP.out.2.1 hpi
                obtain ⟨⟨tt, f, st, ss, pp, zs, is, wz, ms⟩, ya, yc⟩ := y
                obtain ⟨pt, hpt0⟩ : ∃ pt : Pc, pt = ⟨tt, f, st, ss, pp, zs, is, wz, ms⟩ := ⟨_, rfl⟩
                obtain ⟨pn, hpn⟩ : ∃ m, m = zs.length := ⟨_, rfl⟩
                dsimp only at hpi hpt hp0 hgd
                have hc1 := HC1.out
                have htt : tt = A := by rw [hpt, hA]; unfold addV; omega
                subst htt
                obtain ⟨A2, hA2⟩ : ∃ a, a = (tt + 1) % 4294967296 := ⟨_, rfl⟩
                have hwA : IntKind.u32.wrap ((tt : Int) + 1) = (A2 : Int) := by rw [IntKind.wrap_u32]; omega
                have hA3 : A2 = (first + (j + (i + 1))) % 4294967296 := by omega
                obtain ⟨⟨ga, gc, gl, na, nc, rfl, hq, hn, hg⟩, hhi⟩ := hS
                obtain ⟨e2, he2⟩ : ∃ e, e = f &&& 2 := ⟨_, rfl⟩
                obtain ⟨e4, he4⟩ : ∃ e, e = f &&& 4 := ⟨_, rfl⟩
                obtain ⟨e1, he1⟩ : ∃ e, e = f &&& 1 := ⟨_, rfl⟩
                have hf8 := hp0.2.1
                have hb2 : bits BinOp.and IntKind.u8 (f : Int) 2 = (e2 : Int) := by rw [he2]; exact bitsA2 hf8
                have hb4 : bits BinOp.and IntKind.u8 (f : Int) 4 = (e4 : Int) := by rw [he4]; exact bitsA4 hf8
                have hb1 : bits BinOp.and IntKind.u8 (f : Int) 1 = (e1 : Int) := by rw [he1]; exact bitsA1 hf8
                obtain ⟨fb, hfb⟩ : ∃ b, b = decide (e4 ≠ 0) := ⟨_, rfl⟩
                have hfb2 : ((e4 : Int) != 0) = fb := by rw [hfb]; by_cases h : e4 = 0 <;> simp [h]
                have HCH := (show Hid _ from fun (W : World) (ga : Option Addr) (gc : Nat) (gl : List MgD) (h : CvQ w Bg q c0 z bm nx P wa wc wl j2 lo2 hi2 (some ⟨gch, 0, none⟩) cc ys ga gc gl W) => (show W.cell? ⟨gch, i * 14 + 1, none⟩ = some (.int .u8 (f : Nat)) ∧ W.cell? ⟨gch, i * 14 + 2, none⟩ = some (.int .u32 (tt : Nat)) ∧ W.cell? ⟨gch, i * 14 + 3, none⟩ = some (.int .u16 (st : Nat)) ∧ W.cell? ⟨gch, i * 14 + 4, none⟩ = some (.int .u16 (ss : Nat)) ∧ W.cell? ⟨gch, i * 14 + 5, none⟩ = some (.int .u32 (pp : Nat)) ∧ W.cell? ⟨gch, i * 14 + 13, none⟩ = some (.slice ya pn yc) ∧ OwnB W lo2 ya pn yc zs from by
                  obtain ⟨g9, h1, _, h3, h4⟩ := h.chunk hyi
                  injection h1 with h1
                  injection h1 with h1
                  subst h1
                  rw [hpn]
                  exact ⟨h3 1 _ rfl, h3 2 _ rfl, h3 3 _ rfl, h3 4 _ rfl, h3 5 _ rfl, h3 13 _ rfl, h4⟩))
                obtain ⟨k1, k2, k3, k4, k5, k13, _⟩ := HCH.out wr ga gc gl hq
                obtain ⟨s, hs⟩ : ∃ s, s = scN P (j + i) := ⟨_, rfl⟩
                have hstep : scN P (j + (i + 1)) = stepS s pt := by rw [hs, hpt0]; exact scN_succ hpi
                rw [← hs] at hn hg hgd
                have hzl : s.now.zs.length ≤ 64 * 8192 := by
                  rw [hs]
                  have := scN_zs_le P (fun p hp => (HP.out.2.2.2 p hp).2.2) (j + i)
                  omega
                have hglen : gl.length ≤ 100000 := by
                  have h1 := congrArg List.length hg
                  rw [List.length_map] at h1
                  have h2 := scN_got_le P (j + i)
                  rw [← hs] at h2
                  omega
                have hbg : bgn pt = decide (e2 ≠ 0) := by rw [he2, hpt0]; rfl
                have hfi : fin pt = decide (e1 ≠ 0) := by rw [he1, hpt0]; rfl
                have hfr : frB pt = fb := by rw [hfb, he4, hpt0]; rfl
                rw [← hpt0] at hgd
                have HG := (show Hid _ from And.intro hgd (And.intro hg (And.intro hstep (And.intro hzl (And.intro hglen (And.intro hhi (And.intro hbg (And.intro hfi (And.intro hfr (And.intro hpt0 (And.intro hpn (And.intro hp0 hA3))))))))))))
                have HQN := (show Hid _ from And.intro hq hn)
                have hyc : (yn : Int) ≤ (cc : Int) := by omega
                clear hgd hg hstep hzl hglen hhi hbg hfi hfr hpt0 hpn hp0 hA3 hq hn hs hA hA2 he1 he2 he4 hfb hf8 hys hyn hjy hj2P hyi hpi hpt hc1 hlt
                by_cases hb : e2 = 0
                · obtain rfl : e2 = 0 := hb
                  obtain ⟨now1, na1, nc1, hnow, hQ1, hN1⟩ : ∃ now1 na1 nc1, now1 = nowS s pt ∧ CvQ w Bg q c0 z bm nx P wa wc wl j2 lo2 hi2 (some ⟨gch, 0, none⟩) cc ys ga gc gl wr ∧ CvN w Bg bm lo2 hi2 gl true now1 na1 nc1 wr := by
                    refine ⟨s.now, na, nc, ?_, HQN.out.1, ?_⟩
                    · unfold nowS
                      rw [HG.out.2.2.2.2.2.2.1]
                      rfl
                    · have h1 := HG.out.1
                      rw [HG.out.2.2.2.2.2.2.1] at h1
                      rcases h1 with h1 | h1
                      · exact absurd h1 (by decide)
                      · have h2 := HQN.out.2
                        rw [h1] at h2
                        exact h2
                  obtain ⟨W1, hW1⟩ : ∃ W, W = wr := ⟨_, rfl⟩
                  subst hW1
                  have hhw : hi2 ≤ W1.heap.size := HG.out.2.2.2.2.2.1
                  obtain ⟨nst, nss, npp, nfr, nzs⟩ := now1
                  obtain ⟨zn, hzn⟩ : ∃ m, m = nzs.length := ⟨_, rfl⟩
                  have hzn2 : zn + pn ≤ 1000000 := by
                    have h1 := HG.out.2.2.2.1
                    have h2 := HG.out.2.2.2.2.2.2.2.2.2.2.2.1.2.2
                    have h3 := HG.out.2.2.2.2.2.2.2.2.2.2.1
                    have h4 : nzs.length ≤ s.now.zs.length := by
                      have h5 : nzs = (nowS s pt).zs := congrArg Wm.zs hnow
                      rw [h5]
                      unfold nowS
                      split
                      · exact Nat.zero_le _
                      · exact Nat.le_refl _
                    omega
                  have hQ1d := hQ1.below (Below.refl _ _).drew
                  have hN1d := hN1.below (Below.refl _ _).drew
                  have hob := (HCH.out W1.drew ga gc gl hQ1d).2.2.2.2.2.2
                  obtain ⟨na2, nc2, Vb, hD⟩ := CvN.data hQ1d hN1d hhw (hob.sl (by omega)) (by show nzs.length + pn ≤ _; omega)
                  obtain ⟨Vc, hVc⟩ : ∃ Vc, Vc = Vb.setCell ⟨bm, 4, none⟩ (.slice na2 (zn + pn) nc2) := ⟨_, rfl⟩
                  have hrun : (Builtin.append_ #[36, 36] 36 #[.slice na1 zn nc1, .slice ya pn yc]).run Try.prog W1.drew = .ok (.slice na2 (zn + pn) nc2) Vb := by rw [hzn]; exact hD.run _
                  have hQ3 := hD.qd
                  have hN3 := hD.nd
                  dsimp only at hQ3 hN3
                  rw [← hzn, ← hVc] at hQ3 hN3
                  have n4 : W1.cell? ⟨bm, 4, none⟩ = some (.slice na1 zn nc1) := by rw [hzn]; exact hN1.ns.cell 4 _ rfl
                  have nb4 : Vb.cell? ⟨bm, 4, none⟩ = some (.slice na1 zn nc1) := by rw [hzn]; exact hD.sb.cell 4 _ rfl
                  have nbf := hD.sb.free 4
                  have c13 := (HCH.out W1 ga gc gl hQ1).2.2.2.2.2.1
                  have c13b := (HCH.out Vb ga gc gl hD.qb).2.2.2.2.2.1
                  have kk1 := (HCH.out Vc ga gc gl hQ3).1
                  have hst3 : stepS s pt = ⟨!decide (e1 ≠ 0), ⟨nst, nss, npp, nfr, nzs ++ zs⟩, if decide (e1 ≠ 0) = true then s.got ++ [⟨nst, nss, npp, nfr, nzs ++ zs⟩] else s.got⟩ := by
                    unfold stepS
                    rw [← hnow, HG.out.2.2.2.2.2.2.2.1, HG.out.2.2.2.2.2.2.2.2.2.1]
                  have hhc : hi2 ≤ Vc.heap.size := by
                    rw [hVc]
                    simp only [World.setCell, Array.size_modify]
                    have h1 : W1.drew.heap.size ≤ Vb.heap.size := by
                      have := hD.sb.lt
                      exact hD.le
                    exact Nat.le_trans hhw h1
                  have HV := (show Hid _ from hVc)
                  have HT := (show Hid _ from And.intro hQ3 (And.intro hN3 (And.intro hst3 hhc)))
                  clear hnow hQ1 hN1 hQ1d hN1d hob hD hVc hQ3 hN3 hzn hst3 hhc hhw
                  go_wp2_with fail
                  refine wp_region_stage mixedX [7, 9] (fun stgN W => match stgN with | 0 => W = W1.drew | 1 => W = Vb | _ => W = Vc) (fun W => W.cell? ⟨bm, 4, none⟩ = some (.slice na1 zn nc1) ∧ W.cell? ⟨gch, i * 14 + 13, none⟩ = some (.slice ya pn yc)) [(140, .pointer (some ⟨bm, 4, none⟩)), (141, .slice na1 zn nc1), (142, .slice (some ⟨gch, 0, none⟩) yn cc), (143, .int .i64 (i : Nat)), (144, .pointer (some ⟨gch, i * 14, none⟩)), (145, .pointer (some ⟨gch, i * 14 + 13, none⟩)), (146, .slice ya pn yc), (147, .slice na2 (zn + pn) nc2), (148, .pointer (some ⟨bm, 4, none⟩))] ?Z1 ?hZ1 (by kernel_rfl) (by kernel_rfl) (by kernel_rfl) (by kernel_rfl) (by kernel_rfl) ?h01 ?hS1 (.inl (by kernel_rfl)) ?hops1 ?he1 (by kernel_rfl) (by decide)
                  case hZ1 => simp only [List.foldl_cons, List.foldl_nil, List.setIfInBounds_toArray, List.set_cons_zero, List.set_cons_succ]; rfl
                  case h01 => rfl
                  case hS1 =>
                    intro k W hk hW
                    have hk : k < 2 := hk
                    obtain rfl | rfl : k = 0 ∨ k = 1 := by omega
                    · have hW : W = W1.drew := hW; rw [hW]; exact ⟨n4, c13⟩
                    · have hW : W = Vb := hW; rw [hW]; exact ⟨nb4, c13b⟩
                  case hops1 =>
                    refine ⟨?_, ?_, ?_, ?_, ?_, ?_, ?_, ?_, ?_, ?_, trivial⟩
                    · exact stg_val (by rfl) (by rfl) (fun W hW => by obtain ⟨y0, y1⟩ := hW; go_simp; (try with_reducible rfl); (try omega))
                    · exact stg_val (by rfl) (by rfl) (fun W hW => by obtain ⟨y0, y1⟩ := hW; go_simp; (try with_reducible rfl); (try omega))
                    · exact stg_val (by rfl) (by rfl) (fun W hW => by obtain ⟨y0, y1⟩ := hW; go_simp; (try with_reducible rfl); (try omega))
                    · exact stg_val (by rfl) (by rfl) (fun W hW => by obtain ⟨y0, y1⟩ := hW; go_simp; (try with_reducible rfl); (try omega))
                    · exact stg_val (by rfl) (by rfl) (fun W hW => by obtain ⟨y0, y1⟩ := hW; go_simp; (try with_reducible rfl); (try omega))
                    · exact stg_val (by rfl) (by rfl) (fun W hW => by obtain ⟨y0, y1⟩ := hW; go_simp; (try with_reducible rfl); (try omega))
                    · exact stg_val (by rfl) (by rfl) (fun W hW => by obtain ⟨y0, y1⟩ := hW; go_simp; (try with_reducible rfl); (try omega))
                    · exact stg_run (by rfl) (by rfl) (fun W hW => by have hW : W = W1.drew := hW; subst hW; exact ⟨Vb, run_appX rfl rfl rfl rfl hrun, rfl⟩)
                    · exact stg_val (by rfl) (by rfl) (fun W hW => by obtain ⟨y0, y1⟩ := hW; go_simp; (try with_reducible rfl); (try omega))
                    · exact stg_skip (by rfl) (by rfl) rfl (fun W hW => by have hW : W = Vb := hW; subst hW; refine ⟨Vc, ?_, rfl⟩; rw [HV.out]; go_simp; try rfl)
                  case he1 =>
                  intro W9 hW9
                  have hW9' : W9 = Vc := hW9
                  rw [hW9']
                  clear hW9 hW9' W9 n4 nb4 nbf c13 c13b hrun
                  by_cases hz1' : e1 = 0
                  · obtain rfl : e1 = 0 := hz1'
                    have HFI : Hid (CvS w Bg q c0 z bm nx P wa wc wl j2 lo2 hi2 (some ⟨gch, 0, none⟩) cc ys (j + (i + 1)) (.slice ga gl.length gc) Vc) := by
                      show CvS _ _ _ _ _ _ _ _ _ _ _ _ _ _ _ _ _ _ _ _
                      refine ⟨⟨ga, gc, gl, na2, nc2, rfl, HT.out.1, ?_, ?_⟩, HT.out.2.2.2⟩
                      · rw [HG.out.2.2.1, HT.out.2.2.1]
                        exact HT.out.2.1
                      · rw [HG.out.2.2.1, HT.out.2.2.1]
                        exact HG.out.2.1
                    go_wp2
                    go_roundw
                    case rel => exact ⟨i + 1, A2, by omega, by go_num, rfl, HG.out.2.2.2.2.2.2.2.2.2.2.2.2, HFI.out⟩
                    case measure => simp [intOf]; omega
                  · have hz1b : ((e1 : Int) == 0) = false := by simp; exact hz1'
                    have hz1c : ¬ (e1 : Int) = 0 := by omega
                    obtain ⟨n2, hn2⟩ : ∃ m, m = (nzs ++ zs).length := ⟨_, rfl⟩
                    obtain ⟨g7, c7, Vd, hE⟩ := CvN.fin HT.out.1 HT.out.2.1 HG.out.2.2.2.2.1 _ rfl
                    have happ : (Builtin.append_ #[33, 33] 33 #[.slice ga gl.length gc, .slice (some ⟨Vc.heap.size, 0, none⟩) 1 1]).run Try.prog (Vc.alloc (.cells #[.int .u16 (nst : Nat), .int .u16 (nss : Nat), .int .u32 (npp : Nat), .bool nfr, .slice na2 n2 nc2] 38)) = .ok (.slice (some ⟨g7, 0, none⟩) (gl.length + 1) c7) Vd := by rw [hn2]; exact hE.run _
                    have r0 : Vc.cell? ⟨bm, 0, none⟩ = some (.int .u16 (nst : Nat)) := HT.out.2.1.ns.cell 0 _ rfl
                    have r1 : Vc.cell? ⟨bm, 1, none⟩ = some (.int .u16 (nss : Nat)) := HT.out.2.1.ns.cell 1 _ rfl
                    have r2 : Vc.cell? ⟨bm, 2, none⟩ = some (.int .u32 (npp : Nat)) := HT.out.2.1.ns.cell 2 _ rfl
                    have r3 : Vc.cell? ⟨bm, 3, none⟩ = some (.bool nfr) := HT.out.2.1.ns.cell 3 _ rfl
                    have r4 : Vc.cell? ⟨bm, 4, none⟩ = some (.slice na2 n2 nc2) := by rw [hn2]; exact HT.out.2.1.ns.cell 4 _ rfl
                    have hed : decide (e1 ≠ 0) = true := decide_eq_true hz1'
                    have HFI : Hid (CvS w Bg q c0 z bm nx P wa wc wl j2 lo2 hi2 (some ⟨gch, 0, none⟩) cc ys (j + (i + 1)) (.slice (some ⟨g7, 0, none⟩) (gl.length + 1) c7) Vd) := by
                      show CvS _ _ _ _ _ _ _ _ _ _ _ _ _ _ _ _ _ _ _ _
                      refine ⟨⟨_, _, _, na2, nc2, by rw [List.length_append]; rfl, hE.qe, ?_, ?_⟩, Nat.le_trans HT.out.2.2.2 hE.le⟩
                      · rw [HG.out.2.2.1, HT.out.2.2.1, hed]
                        exact hE.ne
                      · rw [HG.out.2.2.1, HT.out.2.2.1, hed, List.map_append, HG.out.2.1]
                        rfl
                    clear hz1' hn2 hE hed
                    go_wp2_with (at_builtin; refine app_eqP rfl _ _ rfl rfl rfl rfl happ ?_)
                    go_roundw
                    case rel => exact ⟨i + 1, A2, by omega, by go_num, rfl, HG.out.2.2.2.2.2.2.2.2.2.2.2.2, HFI.out⟩
                    case measure => simp [intOf]; omega
                · have hb' : ((e2 : Int) == 0) = false := by simp; exact hb
                  have hb'' : ¬ (e2 : Int) = 0 := by omega
                  have hB1 : bgn pt = true := by rw [HG.out.2.2.2.2.2.2.1]; exact decide_eq_true hb
                  have HB1 := (show Hid _ from hB1)
                  clear hB1 hb
                  have hns := HQN.out.2.ns
                  have v0 := hns.cell 0 _ rfl
                  have v1 := hns.cell 1 _ rfl
                  have v2 := hns.cell 2 _ rfl
                  have v3 := hns.cell 3 _ rfl
                  have v4 := hns.cell 4 _ rfl
                  have w0 := hns.free 0
                  have w1' := hns.free 1
                  have w2' := hns.free 2
                  have w3' := hns.free 3
                  have w4' := hns.free 4
                  obtain ⟨Wx, hWx⟩ : ∃ W, W = ((((wr.drew.setCell ⟨bm, 0, none⟩ (.int .u16 (st : Nat))).setCell ⟨bm, 1, none⟩ (.int .u16 (ss : Nat))).setCell ⟨bm, 2, none⟩ (.int .u32 (pp : Nat))).setCell ⟨bm, 3, none⟩ (.bool fb)).setCell ⟨bm, 4, none⟩ (.slice none 0 0) := ⟨_, rfl⟩
                  have HBG : Hid (CvQ w Bg q c0 z bm nx P wa wc wl j2 lo2 hi2 (some ⟨gch, 0, none⟩) cc ys ga gc gl (((((wr.drew.setCell ⟨bm, 0, none⟩ (.int .u16 (st : Nat))).setCell ⟨bm, 1, none⟩ (.int .u16 (ss : Nat))).setCell ⟨bm, 2, none⟩ (.int .u32 (pp : Nat))).setCell ⟨bm, 3, none⟩ (.bool fb)).setCell ⟨bm, 4, none⟩ (.slice none 0 0)) ∧ CvN w Bg bm lo2 hi2 gl true ⟨st, ss, pp, fb, []⟩ none 0 (((((wr.drew.setCell ⟨bm, 0, none⟩ (.int .u16 (st : Nat))).setCell ⟨bm, 1, none⟩ (.int .u16 (ss : Nat))).setCell ⟨bm, 2, none⟩ (.int .u32 (pp : Nat))).setCell ⟨bm, 3, none⟩ (.bool fb)).setCell ⟨bm, 4, none⟩ (.slice none 0 0)) ∧ hi2 ≤ (((((wr.drew.setCell ⟨bm, 0, none⟩ (.int .u16 (st : Nat))).setCell ⟨bm, 1, none⟩ (.int .u16 (ss : Nat))).setCell ⟨bm, 2, none⟩ (.int .u32 (pp : Nat))).setCell ⟨bm, 3, none⟩ (.bool fb)).setCell ⟨bm, 4, none⟩ (.slice none 0 0)).heap.size) := by
                    have hqd := HQN.out.1.below (Below.refl _ _).drew
                    have hnd := HQN.out.2.below (Below.refl _ _).drew
                    refine ⟨hqd.box hnd.nt (((((Fr.setCell (fun b => b = bm) _ ⟨bm, 0, none⟩ _ rfl).trans (Fr.setCell _ _ ⟨bm, 1, none⟩ _ rfl)).trans (Fr.setCell _ _ ⟨bm, 2, none⟩ _ rfl)).trans (Fr.setCell _ _ ⟨bm, 3, none⟩ _ rfl)).trans (Fr.setCell _ _ ⟨bm, 4, none⟩ _ rfl)), CvN.begin st ss pp fb (((((hnd.nt.setCell _ _).setCell _ _).setCell _ _).setCell _ _).setCell _ _) ?_, by have := HG.out.2.2.2.2.2.1; simpa [World.setCell] using this⟩
                    exact ((((hnd.ns.putQ (j := 0) (by show 0 < 5; decide) (.int .u16 (st : Nat))).putQ (j := 1) (by show 1 < 5; decide) (.int .u16 (ss : Nat))).putQ (j := 2) (by show 2 < 5; decide) (.int .u32 (pp : Nat))).putQ (j := 3) (by show 3 < 5; decide) (.bool fb)).putQ (j := 4) (by show 4 < 5; decide) (.slice none 0 0)
                  clear hns hWx Wx
                  go_wp2_with fail
                  refine wp_region_stage mixedX [23] (fun stgN W => match stgN with | 0 => W = wr.drew | _ => CvQ w Bg q c0 z bm nx P wa wc wl j2 lo2 hi2 (some ⟨gch, 0, none⟩) cc ys ga gc gl W ∧ CvN w Bg bm lo2 hi2 gl true ⟨st, ss, pp, fb, []⟩ none 0 W ∧ hi2 ≤ W.heap.size) (fun W => W.cell? ⟨gch, i * 14 + 1, none⟩ = some (.int .u8 (f : Nat)) ∧ W.cell? ⟨gch, i * 14 + 3, none⟩ = some (.int .u16 (st : Nat)) ∧ W.cell? ⟨gch, i * 14 + 4, none⟩ = some (.int .u16 (ss : Nat)) ∧ W.cell? ⟨gch, i * 14 + 5, none⟩ = some (.int .u32 (pp : Nat))) [(117, .slice (some ⟨gch, 0, none⟩) yn cc), (118, .int .i64 (i : Nat)), (119, .pointer (some ⟨gch, i * 14, none⟩)), (120, .pointer (some ⟨gch, i * 14 + 3, none⟩)), (121, .int .u16 (st : Nat)), (122, .slice (some ⟨gch, 0, none⟩) yn cc), (123, .int .i64 (i : Nat)), (124, .pointer (some ⟨gch, i * 14, none⟩)), (125, .pointer (some ⟨gch, i * 14 + 4, none⟩)), (126, .int .u16 (ss : Nat)), (127, .slice (some ⟨gch, 0, none⟩) yn cc), (128, .int .i64 (i : Nat)), (129, .pointer (some ⟨gch, i * 14, none⟩)), (130, .pointer (some ⟨gch, i * 14 + 5, none⟩)), (131, .int .u32 (pp : Nat)), (132, .slice (some ⟨gch, 0, none⟩) yn cc), (133, .int .i64 (i : Nat)), (134, .pointer (some ⟨gch, i * 14, none⟩)), (135, .pointer (some ⟨gch, i * 14 + 1, none⟩)), (136, .int .u8 (f : Nat)), (137, .int .u8 (e4 : Nat)), (138, .bool fb), (139, .agg #[.int .u16 (st : Nat), .int .u16 (ss : Nat), .int .u32 (pp : Nat), .bool fb, .slice none 0 0])] ?Z3 ?hZ3 (by kernel_rfl) (by kernel_rfl) (by kernel_rfl) (by kernel_rfl) (by kernel_rfl) ?h03 ?hS3 (.inl (by kernel_rfl)) ?hops3 ?he3 (by kernel_rfl) (by decide)
                  case hZ3 => simp only [List.foldl_cons, List.foldl_nil, List.setIfInBounds_toArray, List.set_cons_zero, List.set_cons_succ]; rfl
                  case h03 => rfl
                  case hS3 =>
                    intro k W hk hW
                    have hk : k < 1 := hk
                    obtain rfl : k = 0 := by omega
                    · have hW : W = wr.drew := hW; rw [hW]; exact ⟨k1, k3, k4, k5⟩
                  case hops3 =>
                    refine ⟨?_, ?_, ?_, ?_, ?_, ?_, ?_, ?_, ?_, ?_, ?_, ?_, ?_, ?_, ?_, ?_, ?_, ?_, ?_, ?_, ?_, ?_, ?_, ?_, trivial⟩
                    · exact stg_val (by rfl) (by rfl) (fun W hW => by obtain ⟨y1, y3, y4, y5⟩ := hW; go_simp; (try with_reducible rfl); (try omega))
                    · exact stg_val (by rfl) (by rfl) (fun W hW => by obtain ⟨y1, y3, y4, y5⟩ := hW; go_simp; (try with_reducible rfl); (try omega))
                    · exact stg_val (by rfl) (by rfl) (fun W hW => by obtain ⟨y1, y3, y4, y5⟩ := hW; go_simp; (try with_reducible rfl); (try omega))
                    · exact stg_val (by rfl) (by rfl) (fun W hW => by obtain ⟨y1, y3, y4, y5⟩ := hW; go_simp; (try with_reducible rfl); (try omega))
                    · exact stg_val (by rfl) (by rfl) (fun W hW => by obtain ⟨y1, y3, y4, y5⟩ := hW; go_simp; (try with_reducible rfl); (try omega))
                    · exact stg_val (by rfl) (by rfl) (fun W hW => by obtain ⟨y1, y3, y4, y5⟩ := hW; go_simp; (try with_reducible rfl); (try omega))
                    · exact stg_val (by rfl) (by rfl) (fun W hW => by obtain ⟨y1, y3, y4, y5⟩ := hW; go_simp; (try with_reducible rfl); (try omega))
                    · exact stg_val (by rfl) (by rfl) (fun W hW => by obtain ⟨y1, y3, y4, y5⟩ := hW; go_simp; (try with_reducible rfl); (try omega))
                    · exact stg_val (by rfl) (by rfl) (fun W hW => by obtain ⟨y1, y3, y4, y5⟩ := hW; go_simp; (try with_reducible rfl); (try omega))
                    · exact stg_val (by rfl) (by rfl) (fun W hW => by obtain ⟨y1, y3, y4, y5⟩ := hW; go_simp; (try with_reducible rfl); (try omega))
                    · exact stg_val (by rfl) (by rfl) (fun W hW => by obtain ⟨y1, y3, y4, y5⟩ := hW; go_simp; (try with_reducible rfl); (try omega))
                    · exact stg_val (by rfl) (by rfl) (fun W hW => by obtain ⟨y1, y3, y4, y5⟩ := hW; go_simp; (try with_reducible rfl); (try omega))
                    · exact stg_val (by rfl) (by rfl) (fun W hW => by obtain ⟨y1, y3, y4, y5⟩ := hW; go_simp; (try with_reducible rfl); (try omega))
                    · exact stg_val (by rfl) (by rfl) (fun W hW => by obtain ⟨y1, y3, y4, y5⟩ := hW; go_simp; (try with_reducible rfl); (try omega))
                    · exact stg_val (by rfl) (by rfl) (fun W hW => by obtain ⟨y1, y3, y4, y5⟩ := hW; go_simp; (try with_reducible rfl); (try omega))
                    · exact stg_val (by rfl) (by rfl) (fun W hW => by obtain ⟨y1, y3, y4, y5⟩ := hW; go_simp; (try with_reducible rfl); (try omega))
                    · exact stg_val (by rfl) (by rfl) (fun W hW => by obtain ⟨y1, y3, y4, y5⟩ := hW; go_simp; (try with_reducible rfl); (try omega))
                    · exact stg_val (by rfl) (by rfl) (fun W hW => by obtain ⟨y1, y3, y4, y5⟩ := hW; go_simp; (try with_reducible rfl); (try omega))
                    · exact stg_val (by rfl) (by rfl) (fun W hW => by obtain ⟨y1, y3, y4, y5⟩ := hW; go_simp; (try with_reducible rfl); (try omega))
                    · exact stg_val (by rfl) (by rfl) (fun W hW => by obtain ⟨y1, y3, y4, y5⟩ := hW; go_simp; (try with_reducible rfl); (try omega))
                    · exact stg_val (by rfl) (by rfl) (fun W hW => by obtain ⟨y1, y3, y4, y5⟩ := hW; go_simp; (try with_reducible rfl); (try omega))
                    · exact stg_val (by rfl) (by rfl) (fun W hW => by obtain ⟨y1, y3, y4, y5⟩ := hW; go_simp; (try with_reducible rfl); (try omega))
                    · exact stg_val (by rfl) (by rfl) (fun W hW => by obtain ⟨y1, y3, y4, y5⟩ := hW; go_simp; (try with_reducible rfl); (try omega))
                    · exact stg_skip (by rfl) (by rfl) rfl (fun W hW => by have hW : W = wr.drew := hW; subst hW; exact ⟨_, (by go_simp), HBG.out⟩)
                  case he3 =>
                  intro W1 hW1
                  have hW1' : CvQ w Bg q c0 z bm nx P wa wc wl j2 lo2 hi2 (some ⟨gch, 0, none⟩) cc ys ga gc gl W1 ∧ CvN w Bg bm lo2 hi2 gl true ⟨st, ss, pp, fb, []⟩ none 0 W1 ∧ hi2 ≤ W1.heap.size := hW1
                  clear hW1 v0 v1 v2 v3 v4 w0 w1' w2' w3' w4' HBG k1 k2 k3 k4 k5 k13
                  obtain ⟨now1, na1, nc1, hnow, hQ1, hN1⟩ : ∃ now1 na1 nc1, now1 = nowS s pt ∧ CvQ w Bg q c0 z bm nx P wa wc wl j2 lo2 hi2 (some ⟨gch, 0, none⟩) cc ys ga gc gl W1 ∧ CvN w Bg bm lo2 hi2 gl true now1 na1 nc1 W1 := by
                    refine ⟨_, _, _, ?_, hW1'.1, hW1'.2.1⟩
                    unfold nowS
                    rw [HB1.out, if_pos rfl, HG.out.2.2.2.2.2.2.2.2.1, HG.out.2.2.2.2.2.2.2.2.2.1]
                  have hhw : hi2 ≤ W1.heap.size := hW1'.2.2
                  clear hW1'
                  obtain ⟨nst, nss, npp, nfr, nzs⟩ := now1
                  obtain ⟨zn, hzn⟩ : ∃ m, m = nzs.length := ⟨_, rfl⟩
                  have hzn2 : zn + pn ≤ 1000000 := by
                    have h1 := HG.out.2.2.2.1
                    have h2 := HG.out.2.2.2.2.2.2.2.2.2.2.2.1.2.2
                    have h3 := HG.out.2.2.2.2.2.2.2.2.2.2.1
                    have h4 : nzs.length ≤ s.now.zs.length := by
                      have h5 : nzs = (nowS s pt).zs := congrArg Wm.zs hnow
                      rw [h5]
                      unfold nowS
                      split
                      · exact Nat.zero_le _
                      · exact Nat.le_refl _
                    omega
                  have hQ1d := hQ1.below (Below.refl _ _).drew
                  have hN1d := hN1.below (Below.refl _ _).drew
                  have hob := (HCH.out W1.drew ga gc gl hQ1d).2.2.2.2.2.2
                  obtain ⟨na2, nc2, Vb, hD⟩ := CvN.data hQ1d hN1d hhw (hob.sl (by omega)) (by show nzs.length + pn ≤ _; omega)
                  obtain ⟨Vc, hVc⟩ : ∃ Vc, Vc = Vb.setCell ⟨bm, 4, none⟩ (.slice na2 (zn + pn) nc2) := ⟨_, rfl⟩
                  have hrun : (Builtin.append_ #[36, 36] 36 #[.slice na1 zn nc1, .slice ya pn yc]).run Try.prog W1.drew = .ok (.slice na2 (zn + pn) nc2) Vb := by rw [hzn]; exact hD.run _
                  have hQ3 := hD.qd
                  have hN3 := hD.nd
                  dsimp only at hQ3 hN3
                  rw [← hzn, ← hVc] at hQ3 hN3
                  have n4 : W1.cell? ⟨bm, 4, none⟩ = some (.slice na1 zn nc1) := by rw [hzn]; exact hN1.ns.cell 4 _ rfl
                  have nb4 : Vb.cell? ⟨bm, 4, none⟩ = some (.slice na1 zn nc1) := by rw [hzn]; exact hD.sb.cell 4 _ rfl
                  have nbf := hD.sb.free 4
                  have c13 := (HCH.out W1 ga gc gl hQ1).2.2.2.2.2.1
                  have c13b := (HCH.out Vb ga gc gl hD.qb).2.2.2.2.2.1
                  have kk1 := (HCH.out Vc ga gc gl hQ3).1
                  have hst3 : stepS s pt = ⟨!decide (e1 ≠ 0), ⟨nst, nss, npp, nfr, nzs ++ zs⟩, if decide (e1 ≠ 0) = true then s.got ++ [⟨nst, nss, npp, nfr, nzs ++ zs⟩] else s.got⟩ := by
                    unfold stepS
                    rw [← hnow, HG.out.2.2.2.2.2.2.2.1, HG.out.2.2.2.2.2.2.2.2.2.1]
                  have hhc : hi2 ≤ Vc.heap.size := by
                    rw [hVc]
                    simp only [World.setCell, Array.size_modify]
                    have h1 : W1.drew.heap.size ≤ Vb.heap.size := by
                      have := hD.sb.lt
                      exact hD.le
                    exact Nat.le_trans hhw h1
                  have HV := (show Hid _ from hVc)
                  have HT := (show Hid _ from And.intro hQ3 (And.intro hN3 (And.intro hst3 hhc)))
                  clear hnow hQ1 hN1 hQ1d hN1d hob hD hVc hQ3 hN3 hzn hst3 hhc hhw
                  go_wp2_with fail
                  refine wp_region_stage mixedX [7, 9] (fun stgN W => match stgN with | 0 => W = W1.drew | 1 => W = Vb | _ => W = Vc) (fun W => W.cell? ⟨bm, 4, none⟩ = some (.slice na1 zn nc1) ∧ W.cell? ⟨gch, i * 14 + 13, none⟩ = some (.slice ya pn yc)) [(140, .pointer (some ⟨bm, 4, none⟩)), (141, .slice na1 zn nc1), (142, .slice (some ⟨gch, 0, none⟩) yn cc), (143, .int .i64 (i : Nat)), (144, .pointer (some ⟨gch, i * 14, none⟩)), (145, .pointer (some ⟨gch, i * 14 + 13, none⟩)), (146, .slice ya pn yc), (147, .slice na2 (zn + pn) nc2), (148, .pointer (some ⟨bm, 4, none⟩))] ?Z2 ?hZ2 (by kernel_rfl) (by kernel_rfl) (by kernel_rfl) (by kernel_rfl) (by kernel_rfl) ?h02 ?hS2 (.inl (by kernel_rfl)) ?hops2 ?he2 (by kernel_rfl) (by decide)
                  case hZ2 => simp only [List.foldl_cons, List.foldl_nil, List.setIfInBounds_toArray, List.set_cons_zero, List.set_cons_succ]; rfl
                  case h02 => rfl
                  case hS2 =>
                    intro k W hk hW
                    have hk : k < 2 := hk
                    obtain rfl | rfl : k = 0 ∨ k = 1 := by omega
                    · have hW : W = W1.drew := hW; rw [hW]; exact ⟨n4, c13⟩
                    · have hW : W = Vb := hW; rw [hW]; exact ⟨nb4, c13b⟩
                  case hops2 =>
                    refine ⟨?_, ?_, ?_, ?_, ?_, ?_, ?_, ?_, ?_, ?_, trivial⟩
                    · exact stg_val (by rfl) (by rfl) (fun W hW => by obtain ⟨y0, y1⟩ := hW; go_simp; (try with_reducible rfl); (try omega))
                    · exact stg_val (by rfl) (by rfl) (fun W hW => by obtain ⟨y0, y1⟩ := hW; go_simp; (try with_reducible rfl); (try omega))
                    · exact stg_val (by rfl) (by rfl) (fun W hW => by obtain ⟨y0, y1⟩ := hW; go_simp; (try with_reducible rfl); (try omega))
                    · exact stg_val (by rfl) (by rfl) (fun W hW => by obtain ⟨y0, y1⟩ := hW; go_simp; (try with_reducible rfl); (try omega))
                    · exact stg_val (by rfl) (by rfl) (fun W hW => by obtain ⟨y0, y1⟩ := hW; go_simp; (try with_reducible rfl); (try omega))
                    · exact stg_val (by rfl) (by rfl) (fun W hW => by obtain ⟨y0, y1⟩ := hW; go_simp; (try with_reducible rfl); (try omega))
                    · exact stg_val (by rfl) (by rfl) (fun W hW => by obtain ⟨y0, y1⟩ := hW; go_simp; (try with_reducible rfl); (try omega))
                    · exact stg_run (by rfl) (by rfl) (fun W hW => by have hW : W = W1.drew := hW; subst hW; exact ⟨Vb, run_appX rfl rfl rfl rfl hrun, rfl⟩)
                    · exact stg_val (by rfl) (by rfl) (fun W hW => by obtain ⟨y0, y1⟩ := hW; go_simp; (try with_reducible rfl); (try omega))
                    · exact stg_skip (by rfl) (by rfl) rfl (fun W hW => by have hW : W = Vb := hW; subst hW; refine ⟨Vc, ?_, rfl⟩; rw [HV.out]; go_simp; try rfl)
                  case he2 =>
                  intro W9 hW9
                  have hW9' : W9 = Vc := hW9
                  rw [hW9']
                  clear hW9 hW9' W9 n4 nb4 nbf c13 c13b hrun
                  by_cases hz1' : e1 = 0
                  · obtain rfl : e1 = 0 := hz1'
                    have HFI : Hid (CvS w Bg q c0 z bm nx P wa wc wl j2 lo2 hi2 (some ⟨gch, 0, none⟩) cc ys (j + (i + 1)) (.slice ga gl.length gc) Vc) := by
                      show CvS _ _ _ _ _ _ _ _ _ _ _ _ _ _ _ _ _ _ _ _
                      refine ⟨⟨ga, gc, gl, na2, nc2, rfl, HT.out.1, ?_, ?_⟩, HT.out.2.2.2⟩
                      · rw [HG.out.2.2.1, HT.out.2.2.1]
                        exact HT.out.2.1
                      · rw [HG.out.2.2.1, HT.out.2.2.1]
                        exact HG.out.2.1
                    go_wp2
                    go_roundw
                    case rel => exact ⟨i + 1, A2, by omega, by go_num, rfl, HG.out.2.2.2.2.2.2.2.2.2.2.2.2, HFI.out⟩
                    case measure => simp [intOf]; omega
                  · have hz1b : ((e1 : Int) == 0) = false := by simp; exact hz1'
                    have hz1c : ¬ (e1 : Int) = 0 := by omega
                    obtain ⟨n2, hn2⟩ : ∃ m, m = (nzs ++ zs).length := ⟨_, rfl⟩
                    obtain ⟨g7, c7, Vd, hE⟩ := CvN.fin HT.out.1 HT.out.2.1 HG.out.2.2.2.2.1 _ rfl
                    have happ : (Builtin.append_ #[33, 33] 33 #[.slice ga gl.length gc, .slice (some ⟨Vc.heap.size, 0, none⟩) 1 1]).run Try.prog (Vc.alloc (.cells #[.int .u16 (nst : Nat), .int .u16 (nss : Nat), .int .u32 (npp : Nat), .bool nfr, .slice na2 n2 nc2] 38)) = .ok (.slice (some ⟨g7, 0, none⟩) (gl.length + 1) c7) Vd := by rw [hn2]; exact hE.run _
                    have r0 : Vc.cell? ⟨bm, 0, none⟩ = some (.int .u16 (nst : Nat)) := HT.out.2.1.ns.cell 0 _ rfl
                    have r1 : Vc.cell? ⟨bm, 1, none⟩ = some (.int .u16 (nss : Nat)) := HT.out.2.1.ns.cell 1 _ rfl
                    have r2 : Vc.cell? ⟨bm, 2, none⟩ = some (.int .u32 (npp : Nat)) := HT.out.2.1.ns.cell 2 _ rfl
                    have r3 : Vc.cell? ⟨bm, 3, none⟩ = some (.bool nfr) := HT.out.2.1.ns.cell 3 _ rfl
                    have r4 : Vc.cell? ⟨bm, 4, none⟩ = some (.slice na2 n2 nc2) := by rw [hn2]; exact HT.out.2.1.ns.cell 4 _ rfl
                    have hed : decide (e1 ≠ 0) = true := decide_eq_true hz1'
                    have HFI : Hid (CvS w Bg q c0 z bm nx P wa wc wl j2 lo2 hi2 (some ⟨gch, 0, none⟩) cc ys (j + (i + 1)) (.slice (some ⟨g7, 0, none⟩) (gl.length + 1) c7) Vd) := by
                      show CvS _ _ _ _ _ _ _ _ _ _ _ _ _ _ _ _ _ _ _ _
                      refine ⟨⟨_, _, _, na2, nc2, by rw [List.length_append]; rfl, hE.qe, ?_, ?_⟩, Nat.le_trans HT.out.2.2.2 hE.le⟩
                      · rw [HG.out.2.2.1, HT.out.2.2.1, hed]
                        exact hE.ne
                      · rw [HG.out.2.2.1, HT.out.2.2.1, hed, List.map_append, HG.out.2.1]
                        rfl
                    clear hz1' hn2 hE hed
                    go_wp2_with (at_builtin; refine app_eqP rfl _ _ rfl rfl rfl rfl happ ?_)
                    go_roundw
                    case rel => exact ⟨i + 1, A2, by omega, by go_num, rfl, HG.out.2.2.2.2.2.2.2.2.2.2.2.2, HFI.out⟩
                    case measure => simp [intOf]; omega
              · have hie : i = yn := by omega
                have gl1 : ¬ (i : Int) < (yn : Int) := by omega
                have hA' : A = (first + min (16 * (t + 1)) P.length) % 4294967296 := by
                  have h1 := HY.out.2.2.1
                  have h2 := HY.out.2.2.2.2
                  have h3 := HJ.out.1
                  rw [hA]
                  congr 2
                  omega
                have HA' := (show Hid _ from hA')
                have hS' : CvS w Bg q c0 z bm nx P wa wc wl (min (16 * (t + 1)) P.length) lo2 hi2 (some ⟨gch, 0, none⟩) cc ys (min (16 * (t + 1)) P.length) u10 wr := by
                  have h1 := HY.out.2.2.1
                  have h2 := HY.out.2.2.2.2
                  have h3 := HJ.out.1
                  have e1 : min (16 * (t + 1)) P.length = j2 := by omega
                  rw [e1, ← h1, ← hie]
                  rw [← h1, ← hie] at hS
                  exact hS
                have HS' := (show Hid _ from hS')
                have ht2 : 16 * (t + 1) < P.length + 16 := by
                  have h1 := HY.out.2.2.1
                  have h2 := HY.out.2.2.2.2
                  have h3 := HJ.out.1
                  omega
                have HT2 := (show Hid _ from ht2)
                clear hS hS' hA hA' ht2 hie hlt
                go_wp2
                go_roundw
                case rel => exact ⟨t + 1, _, lo2, hi2, _, cc, ys, A, by go_num, rfl, HT2.out, rfl, HA'.out, HS'.out⟩
                case measure => simp [intOf]; omega
      · go_wp2
        rw [← HW5.out, ← HBM.out.1]
        go_loopw [10, 14, 16] (fun gv at' tn wr2 => ∃ (t j lo hi : Nat) (ca : Option Addr) (cc : Nat) (ys : List PcA) (A : Nat), tn = .int .i64 (t : Nat) ∧ j = min (16 * t) P.length ∧ 16 * t < P.length + 16 ∧ at' = .int .u32 (A : Nat) ∧ A = (first + j) % 4294967296 ∧ CvS w Bg q c0 z bm nx P wa wc wl j lo hi ca cc ys j gv wr2) (fun _ _ u _ => 9000 - (intOf u).toNat)
        case atStart => exact ⟨0, 0, 0, 0, none, 0, [], first, rfl, by omega, by omega, rfl, HF1.out, HS0.out⟩
        case round =>
          obtain ⟨t, j, lo, hi, ca, cc, ys, A, rfl, hj, ht, rfl, hA, hS⟩ := hrel
          have gt9 : (t : Int) < 9000 := by omega
          obtain ⟨wy, hwy⟩ : ∃ wy, wy = t % 2 := ⟨_, rfl⟩
          have hwm : (t : Int) % 2 = (wy : Int) := by omega
          have hwm2 : Int.tmod (t : Int) 2 = (wy : Int) := by rw [Int.tmod_eq_emod_of_nonneg (by omega)]; exact hwm
          have hse := hS.send (fun p hp => (HP.out.2.2.2 p hp).1) (by omega) wy (by omega)
          have HSE := (show Hid _ from hse)
          have HJ := (show Hid _ from And.intro hj (And.intro ht hA))
          clear hse hS hwy hj ht hA
          go_wp2_with fail
          refine Calls.mono HSE.out ?_
          clear HSE
          rintro e w6 ⟨ca, cc, ys, rfl, hys, hS6⟩
          obtain ⟨yn, hyn⟩ : ∃ m, m = ys.length := ⟨_, rfl⟩
          have hyl : yn = min (j + 16) P.length - j := by
            rw [hyn]
            have := congrArg List.length hys
            rw [List.length_map, List.length_drop, List.length_take] at this
            omega
          have hjP : j ≤ P.length := by have := HJ.out.1; omega
          rw [← hyn]
          have g16 : ¬ (yn : Int) > 16 := by omega
          by_cases hy0 : yn = 0
          · have hjj : j = P.length := by omega
            obtain ⟨⟨ga, gc, gl, na, nc, rfl, hq, hn, hg⟩, _⟩ := hS6
            have hgW : gl.map MgD.toW = wl.map MgD.toW := by rw [hg, hjj, HP.out.2.2.1, HWM.out.1]
            have hgl : gl.length = wl.length := by simpa using congrArg List.length hgW
            have HSM := (show Hid _ from fun W (hW : Below w6.heap.size w6 W) => samemsgs_yes (hq.below hW).gt (by rw [hgl]; exact (hq.below hW).wt) hgW (fun x hx => ((hq.below hW).gd x hx).sl (data_le hgW hq.gd (fun u hu => (hq.wd u hu).1) x hx)) (fun x hx => ((hq.below hW).wd x hx).1) (by have := HWM.out.2; omega))
            have HB6 := (show Hid _ from hq.bl)
            have HGL := (show Hid _ from hgl)
            obtain rfl : yn = 0 := hy0
            clear hgW hgl hq hn hg hys hyn hyl hjj hjP
            go_wp2_with fail
            refine Calls.mono (live14_any w6) ?_
            rintro e w7 ⟨rfl, hb7⟩
            have HS7 := (show Hid _ from HSM.out w7 hb7)
            have HB7 : Hid (Below w.heap.size w w7) := HB6.out.trans (hb7.mono HB6.out.size)
            clear hb7 HSM HB6
            go_wp2_with fail
            rw [← HGL.out]
            refine Calls.mono HS7.out ?_
            rintro e w8 ⟨rfl, hb8⟩
            have HB8 : Hid (Below w.heap.size w w8) := HB7.out.trans (hb8.mono HB7.out.size)
            clear hb8 HS7 HB7
            go_wp2
            go_ret
            exact ⟨rfl, HB8.out⟩
          · have hy0' : ((yn : Int) == 0) = false := by simp; exact hy0
            have hy0'' : ¬ (yn : Int) = 0 := by omega
            obtain ⟨gch, hca, hcc⟩ : ∃ g, ca = some ⟨g, 0, none⟩ ∧ yn ≤ cc := by
              obtain ⟨⟨ga, gc, gl, na, nc, _, hq, _, _⟩, _⟩ := hS6
              obtain ⟨y, hy⟩ : ∃ y, ys[0]? = some y := ⟨_, List.getElem?_eq_getElem (by omega)⟩
              obtain ⟨g, h1, h2, _⟩ := hq.chunk hy
              exact ⟨g, h1, by omega⟩
            subst hca
            obtain ⟨j2, hj2⟩ : ∃ j2, j2 = min (j + 16) P.length := ⟨_, rfl⟩
            obtain ⟨lo2, hlo2⟩ : ∃ l, l = wr.heap.size := ⟨_, rfl⟩
            obtain ⟨hi2, hhi2⟩ : ∃ l, l = w6.heap.size := ⟨_, rfl⟩
            rw [← hj2, ← hlo2, ← hhi2] at hS6
            rw [← hj2] at hys hyl
            have hjy : j + yn = j2 := by omega
            have hj2P : j2 ≤ P.length := by omega
            have hAt : A = (first + (j + 0)) % 4294967296 := HJ.out.2.2
            have HA0 := (show Hid _ from hAt)
            have HS6 := (show Hid _ from hS6)
            have HY := (show Hid _ from And.intro hys (And.intro hyn (And.intro hjy (And.intro hj2P hj2))))
            clear hS6 hys hyn hyl hjP hj2 hlo2 hhi2 hjy hj2P hAt hwm hwm2
            go_wp2
            go_loopw [10, 14, 19] (fun gv at' iv wr3 => ∃ (i A : Nat), i ≤ yn ∧ iv = .int .i64 (i : Nat) ∧ at' = .int .u32 (A : Nat) ∧ A = (first + (j + i)) % 4294967296 ∧ CvS w Bg q c0 z bm nx P wa wc wl j2 lo2 hi2 (some ⟨gch, 0, none⟩) cc ys (j + i) gv wr3) (fun _ _ u _ => yn - (intOf u).toNat)
            case atStart => exact ⟨0, A, by omega, rfl, rfl, HA0.out, HS6.out⟩
            case round =>
              obtain ⟨i, A, hi, rfl, rfl, hA, hS⟩ := hrel
              by_cases hlt : i < yn
              · have gl1 : (i : Int) < (yn : Int) := by omega
                have gl0 : (0 : Int) ≤ (i : Int) := by omega
                obtain ⟨hys, hyn, hjy, hj2P, _⟩ := HY.out
                obtain ⟨y, hyi⟩ : ∃ y, ys[i]? = some y := ⟨_, List.getElem?_eq_getElem (by omega)⟩
                have hpi : P[j + i]? = some y.1 := by
                  have h1 := congrArg (fun l : List Pc => l[i]?) hys
                  simp only [List.getElem?_map, hyi, Option.map_some, List.getElem?_drop] at h1
                  rw [List.getElem?_take_of_lt (by omega)] at h1
                  exact h1.symm
                have hpt := HP.out.1 _ _ hpi
                have hp0 := HP.out.2.2.2 y.1 (List.mem_of_getElem? hpi)
                have hgd := scN_good HP.out.2.1 hpi
                obtain ⟨⟨tt, f, st, ss, pp, zs, is, wz, ms⟩, ya, yc⟩ := y
                obtain ⟨pt, hpt0⟩ : ∃ pt : Pc, pt = ⟨tt, f, st, ss, pp, zs, is, wz, ms⟩ := ⟨_, rfl⟩
                obtain ⟨pn, hpn⟩ : ∃ m, m = zs.length := ⟨_, rfl⟩
                dsimp only at hpi hpt hp0 hgd
                have hc1 := HC1.out
                have htt : tt = A := by rw [hpt, hA]; unfold addV; omega
                subst htt
                obtain ⟨A2, hA2⟩ : ∃ a, a = (tt + 1) % 4294967296 := ⟨_, rfl⟩
                have hwA : IntKind.u32.wrap ((tt : Int) + 1) = (A2 : Int) := by rw [IntKind.wrap_u32]; omega
                have hA3 : A2 = (first + (j + (i + 1))) % 4294967296 := by omega
                obtain ⟨⟨ga, gc, gl, na, nc, rfl, hq, hn, hg⟩, hhi⟩ := hS
                obtain ⟨e2, he2⟩ : ∃ e, e = f &&& 2 := ⟨_, rfl⟩
                obtain ⟨e4, he4⟩ : ∃ e, e = f &&& 4 := ⟨_, rfl⟩
                obtain ⟨e1, he1⟩ : ∃ e, e = f &&& 1 := ⟨_, rfl⟩
                have hf8 := hp0.2.1
                have hb2 : bits BinOp.and IntKind.u8 (f : Int) 2 = (e2 : Int) := by rw [he2]; exact bitsA2 hf8
                have hb4 : bits BinOp.and IntKind.u8 (f : Int) 4 = (e4 : Int) := by rw [he4]; exact bitsA4 hf8
                have hb1 : bits BinOp.and IntKind.u8 (f : Int) 1 = (e1 : Int) := by rw [he1]; exact bitsA1 hf8
                obtain ⟨fb, hfb⟩ : ∃ b, b = decide (e4 ≠ 0) := ⟨_, rfl⟩
                have hfb2 : ((e4 : Int) != 0) = fb := by rw [hfb]; by_cases h : e4 = 0 <;> simp [h]
                have HCH := (show Hid _ from fun (W : World) (ga : Option Addr) (gc : Nat) (gl : List MgD) (h : CvQ w Bg q c0 z bm nx P wa wc wl j2 lo2 hi2 (some ⟨gch, 0, none⟩) cc ys ga gc gl W) => (show W.cell? ⟨gch, i * 14 + 1, none⟩ = some (.int .u8 (f : Nat)) ∧ W.cell? ⟨gch, i * 14 + 2, none⟩ = some (.int .u32 (tt : Nat)) ∧ W.cell? ⟨gch, i * 14 + 3, none⟩ = some (.int .u16 (st : Nat)) ∧ W.cell? ⟨gch, i * 14 + 4, none⟩ = some (.int .u16 (ss : Nat)) ∧ W.cell? ⟨gch, i * 14 + 5, none⟩ = some (.int .u32 (pp : Nat)) ∧ W.cell? ⟨gch, i * 14 + 13, none⟩ = some (.slice ya pn yc) ∧ OwnB W lo2 ya pn yc zs from by
                  obtain ⟨g9, h1, _, h3, h4⟩ := h.chunk hyi
                  injection h1 with h1
                  injection h1 with h1
                  subst h1
                  rw [hpn]
                  exact ⟨h3 1 _ rfl, h3 2 _ rfl, h3 3 _ rfl, h3 4 _ rfl, h3 5 _ rfl, h3 13 _ rfl, h4⟩))
                obtain ⟨k1, k2, k3, k4, k5, k13, _⟩ := HCH.out wr ga gc gl hq
                obtain ⟨s, hs⟩ : ∃ s, s = scN P (j + i) := ⟨_, rfl⟩
                have hstep : scN P (j + (i + 1)) = stepS s pt := by rw [hs, hpt0]; exact scN_succ hpi
                rw [← hs] at hn hg hgd
                have hzl : s.now.zs.length ≤ 64 * 8192 := by
                  rw [hs]
                  have := scN_zs_le P (fun p hp => (HP.out.2.2.2 p hp).2.2) (j + i)
                  omega
                have hglen : gl.length ≤ 100000 := by
                  have h1 := congrArg List.length hg
                  rw [List.length_map] at h1
                  have h2 := scN_got_le P (j + i)
                  rw [← hs] at h2
                  omega
                have hbg : bgn pt = decide (e2 ≠ 0) := by rw [he2, hpt0]; rfl
                have hfi : fin pt = decide (e1 ≠ 0) := by rw [he1, hpt0]; rfl
                have hfr : frB pt = fb := by rw [hfb, he4, hpt0]; rfl
                rw [← hpt0] at hgd
                have HG := (show Hid _ from And.intro hgd (And.intro hg (And.intro hstep (And.intro hzl (And.intro hglen (And.intro hhi (And.intro hbg (And.intro hfi (And.intro hfr (And.intro hpt0 (And.intro hpn (And.intro hp0 hA3))))))))))))
                have HQN := (show Hid _ from And.intro hq hn)
                have hyc : (yn : Int) ≤ (cc : Int) := by omega
                clear hgd hg hstep hzl hglen hhi hbg hfi hfr hpt0 hpn hp0 hA3 hq hn hs hA hA2 he1 he2 he4 hfb hf8 hys hyn hjy hj2P hyi hpi hpt hc1 hlt
                by_cases hb : e2 = 0
                · obtain rfl : e2 = 0 := hb
                  obtain ⟨now1, na1, nc1, hnow, hQ1, hN1⟩ : ∃ now1 na1 nc1, now1 = nowS s pt ∧ CvQ w Bg q c0 z bm nx P wa wc wl j2 lo2 hi2 (some ⟨gch, 0, none⟩) cc ys ga gc gl wr ∧ CvN w Bg bm lo2 hi2 gl true now1 na1 nc1 wr := by
                    refine ⟨s.now, na, nc, ?_, HQN.out.1, ?_⟩
                    · unfold nowS
                      rw [HG.out.2.2.2.2.2.2.1]
                      rfl
                    · have h1 := HG.out.1
                      rw [HG.out.2.2.2.2.2.2.1] at h1
                      rcases h1 with h1 | h1
                      · exact absurd h1 (by decide)
                      · have h2 := HQN.out.2
                        rw [h1] at h2
                        exact h2
                  obtain ⟨W1, hW1⟩ : ∃ W, W = wr := ⟨_, rfl⟩
                  subst hW1
                  have hhw : hi2 ≤ W1.heap.size := HG.out.2.2.2.2.2.1
                  obtain ⟨nst, nss, npp, nfr, nzs⟩ := now1
                  obtain ⟨zn, hzn⟩ : ∃ m, m = nzs.length := ⟨_, rfl⟩
                  have hzn2 : zn + pn ≤ 1000000 := by
                    have h1 := HG.out.2.2.2.1
                    have h2 := HG.out.2.2.2.2.2.2.2.2.2.2.2.1.2.2
                    have h3 := HG.out.2.2.2.2.2.2.2.2.2.2.1
                    have h4 : nzs.length ≤ s.now.zs.length := by
                      have h5 : nzs = (nowS s pt).zs := congrArg Wm.zs hnow
                      rw [h5]
                      unfold nowS
                      split
                      · exact Nat.zero_le _
                      · exact Nat.le_refl _
                    omega
                  have hQ1d := hQ1.below (Below.refl _ _).drew
                  have hN1d := hN1.below (Below.refl _ _).drew
                  have hob := (HCH.out W1.drew ga gc gl hQ1d).2.2.2.2.2.2
                  obtain ⟨na2, nc2, Vb, hD⟩ := CvN.data hQ1d hN1d hhw (hob.sl (by omega)) (by show nzs.length + pn ≤ _; omega)
                  obtain ⟨Vc, hVc⟩ : ∃ Vc, Vc = Vb.setCell ⟨bm, 4, none⟩ (.slice na2 (zn + pn) nc2) := ⟨_, rfl⟩
                  have hrun : (Builtin.append_ #[36, 36] 36 #[.slice na1 zn nc1, .slice ya pn yc]).run Try.prog W1.drew = .ok (.slice na2 (zn + pn) nc2) Vb := by rw [hzn]; exact hD.run _
                  have hQ3 := hD.qd
                  have hN3 := hD.nd
                  dsimp only at hQ3 hN3
                  rw [← hzn, ← hVc] at hQ3 hN3
                  have n4 : W1.cell? ⟨bm, 4, none⟩ = some (.slice na1 zn nc1) := by rw [hzn]; exact hN1.ns.cell 4 _ rfl
                  have nb4 : Vb.cell? ⟨bm, 4, none⟩ = some (.slice na1 zn nc1) := by rw [hzn]; exact hD.sb.cell 4 _ rfl
                  have nbf := hD.sb.free 4
                  have c13 := (HCH.out W1 ga gc gl hQ1).2.2.2.2.2.1
                  have c13b := (HCH.out Vb ga gc gl hD.qb).2.2.2.2.2.1
                  have kk1 := (HCH.out Vc ga gc gl hQ3).1
                  have hst3 : stepS s pt = ⟨!decide (e1 ≠ 0), ⟨nst, nss, npp, nfr, nzs ++ zs⟩, if decide (e1 ≠ 0) = true then s.got ++ [⟨nst, nss, npp, nfr, nzs ++ zs⟩] else s.got⟩ := by
                    unfold stepS
                    rw [← hnow, HG.out.2.2.2.2.2.2.2.1, HG.out.2.2.2.2.2.2.2.2.2.1]
                  have hhc : hi2 ≤ Vc.heap.size := by
                    rw [hVc]
                    simp only [World.setCell, Array.size_modify]
                    have h1 : W1.drew.heap.size ≤ Vb.heap.size := by
                      have := hD.sb.lt
                      exact hD.le
                    exact Nat.le_trans hhw h1
                  have HV := (show Hid _ from hVc)
                  have HT := (show Hid _ from And.intro hQ3 (And.intro hN3 (And.intro hst3 hhc)))
                  clear hnow hQ1 hN1 hQ1d hN1d hob hD hVc hQ3 hN3 hzn hst3 hhc hhw
                  go_wp2_with fail
                  refine wp_region_stage mixedX [7, 9] (fun stgN W => match stgN with | 0 => W = W1.drew | 1 => W = Vb | _ => W = Vc) (fun W => W.cell? ⟨bm, 4, none⟩ = some (.slice na1 zn nc1) ∧ W.cell? ⟨gch, i * 14 + 13, none⟩ = some (.slice ya pn yc)) [(140, .pointer (some ⟨bm, 4, none⟩)), (141, .slice na1 zn nc1), (142, .slice (some ⟨gch, 0, none⟩) yn cc), (143, .int .i64 (i : Nat)), (144, .pointer (some ⟨gch, i * 14, none⟩)), (145, .pointer (some ⟨gch, i * 14 + 13, none⟩)), (146, .slice ya pn yc), (147, .slice na2 (zn + pn) nc2), (148, .pointer (some ⟨bm, 4, none⟩))] ?Z4 ?hZ4 (by kernel_rfl) (by kernel_rfl) (by kernel_rfl) (by kernel_rfl) (by kernel_rfl) ?h04 ?hS4 (.inl (by kernel_rfl)) ?hops4 ?he4 (by kernel_rfl) (by decide)
                  case hZ4 => simp only [List.foldl_cons, List.foldl_nil, List.setIfInBounds_toArray, List.set_cons_zero, List.set_cons_succ]; rfl
                  case h04 => rfl
                  case hS4 =>
                    intro k W hk hW
                    have hk : k < 2 := hk
                    obtain rfl | rfl : k = 0 ∨ k = 1 := by omega
                    · have hW : W = W1.drew := hW; rw [hW]; exact ⟨n4, c13⟩
                    · have hW : W = Vb := hW; rw [hW]; exact ⟨nb4, c13b⟩
                  case hops4 =>
                    refine ⟨?_, ?_, ?_, ?_, ?_, ?_, ?_, ?_, ?_, ?_, trivial⟩
                    · exact stg_val (by rfl) (by rfl) (fun W hW => by obtain ⟨y0, y1⟩ := hW; go_simp; (try with_reducible rfl); (try omega))
                    · exact stg_val (by rfl) (by rfl) (fun W hW => by obtain ⟨y0, y1⟩ := hW; go_simp; (try with_reducible rfl); (try omega))
                    · exact stg_val (by rfl) (by rfl) (fun W hW => by obtain ⟨y0, y1⟩ := hW; go_simp; (try with_reducible rfl); (try omega))
                    · exact stg_val (by rfl) (by rfl) (fun W hW => by obtain ⟨y0, y1⟩ := hW; go_simp; (try with_reducible rfl); (try omega))
                    · exact stg_val (by rfl) (by rfl) (fun W hW => by obtain ⟨y0, y1⟩ := hW; go_simp; (try with_reducible rfl); (try omega))
                    · exact stg_val (by rfl) (by rfl) (fun W hW => by obtain ⟨y0, y1⟩ := hW; go_simp; (try with_reducible rfl); (try omega))
                    · exact stg_val (by rfl) (by rfl) (fun W hW => by obtain ⟨y0, y1⟩ := hW; go_simp; (try with_reducible rfl); (try omega))
                    · exact stg_run (by rfl) (by rfl) (fun W hW => by have hW : W = W1.drew := hW; subst hW; exact ⟨Vb, run_appX rfl rfl rfl rfl hrun, rfl⟩)
                    · exact stg_val (by rfl) (by rfl) (fun W hW => by obtain ⟨y0, y1⟩ := hW; go_simp; (try with_reducible rfl); (try omega))
                    · exact stg_skip (by rfl) (by rfl) rfl (fun W hW => by have hW : W = Vb := hW; subst hW; refine ⟨Vc, ?_, rfl⟩; rw [HV.out]; go_simp; try rfl)
                  case he4 =>
                  intro W9 hW9
                  have hW9' : W9 = Vc := hW9
                  rw [hW9']
                  clear hW9 hW9' W9 n4 nb4 nbf c13 c13b hrun
                  by_cases hz1' : e1 = 0
                  · obtain rfl : e1 = 0 := hz1'
                    have HFI : Hid (CvS w Bg q c0 z bm nx P wa wc wl j2 lo2 hi2 (some ⟨gch, 0, none⟩) cc ys (j + (i + 1)) (.slice ga gl.length gc) Vc) := by
                      show CvS _ _ _ _ _ _ _ _ _ _ _ _ _ _ _ _ _ _ _ _
                      refine ⟨⟨ga, gc, gl, na2, nc2, rfl, HT.out.1, ?_, ?_⟩, HT.out.2.2.2⟩
                      · rw [HG.out.2.2.1, HT.out.2.2.1]
                        exact HT.out.2.1
                      · rw [HG.out.2.2.1, HT.out.2.2.1]
                        exact HG.out.2.1
                    go_wp2
                    go_roundw
                    case rel => exact ⟨i + 1, A2, by omega, by go_num, rfl, HG.out.2.2.2.2.2.2.2.2.2.2.2.2, HFI.out⟩
                    case measure => simp [intOf]; omega
                  · have hz1b : ((e1 : Int) == 0) = false := by simp; exact hz1'
                    have hz1c : ¬ (e1 : Int) = 0 := by omega
                    obtain ⟨n2, hn2⟩ : ∃ m, m = (nzs ++ zs).length := ⟨_, rfl⟩
                    obtain ⟨g7, c7, Vd, hE⟩ := CvN.fin HT.out.1 HT.out.2.1 HG.out.2.2.2.2.1 _ rfl
                    have happ : (Builtin.append_ #[33, 33] 33 #[.slice ga gl.length gc, .slice (some ⟨Vc.heap.size, 0, none⟩) 1 1]).run Try.prog (Vc.alloc (.cells #[.int .u16 (nst : Nat), .int .u16 (nss : Nat), .int .u32 (npp : Nat), .bool nfr, .slice na2 n2 nc2] 38)) = .ok (.slice (some ⟨g7, 0, none⟩) (gl.length + 1) c7) Vd := by rw [hn2]; exact hE.run _
                    have r0 : Vc.cell? ⟨bm, 0, none⟩ = some (.int .u16 (nst : Nat)) := HT.out.2.1.ns.cell 0 _ rfl
                    have r1 : Vc.cell? ⟨bm, 1, none⟩ = some (.int .u16 (nss : Nat)) := HT.out.2.1.ns.cell 1 _ rfl
                    have r2 : Vc.cell? ⟨bm, 2, none⟩ = some (.int .u32 (npp : Nat)) := HT.out.2.1.ns.cell 2 _ rfl
                    have r3 : Vc.cell? ⟨bm, 3, none⟩ = some (.bool nfr) := HT.out.2.1.ns.cell 3 _ rfl
                    have r4 : Vc.cell? ⟨bm, 4, none⟩ = some (.slice na2 n2 nc2) := by rw [hn2]; exact HT.out.2.1.ns.cell 4 _ rfl
                    have hed : decide (e1 ≠ 0) = true := decide_eq_true hz1'
                    have HFI : Hid (CvS w Bg q c0 z bm nx P wa wc wl j2 lo2 hi2 (some ⟨gch, 0, none⟩) cc ys (j + (i + 1)) (.slice (some ⟨g7, 0, none⟩) (gl.length + 1) c7) Vd) := by
                      show CvS _ _ _ _ _ _ _ _ _ _ _ _ _ _ _ _ _ _ _ _
                      refine ⟨⟨_, _, _, na2, nc2, by rw [List.length_append]; rfl, hE.qe, ?_, ?_⟩, Nat.le_trans HT.out.2.2.2 hE.le⟩
                      · rw [HG.out.2.2.1, HT.out.2.2.1, hed]
                        exact hE.ne
                      · rw [HG.out.2.2.1, HT.out.2.2.1, hed, List.map_append, HG.out.2.1]
                        rfl
                    clear hz1' hn2 hE hed
                    go_wp2_with (at_builtin; refine app_eqP rfl _ _ rfl rfl rfl rfl happ ?_)
                    go_roundw
                    case rel => exact ⟨i + 1, A2, by omega, by go_num, rfl, HG.out.2.2.2.2.2.2.2.2.2.2.2.2, HFI.out⟩
                    case measure => simp [intOf]; omega
                · have hb' : ((e2 : Int) == 0) = false := by simp; exact hb
                  have hb'' : ¬ (e2 : Int) = 0 := by omega
                  have hB1 : bgn pt = true := by rw [HG.out.2.2.2.2.2.2.1]; exact decide_eq_true hb
                  have HB1 := (show Hid _ from hB1)
                  clear hB1 hb
                  have hns := HQN.out.2.ns
                  have v0 := hns.cell 0 _ rfl
                  have v1 := hns.cell 1 _ rfl
                  have v2 := hns.cell 2 _ rfl
                  have v3 := hns.cell 3 _ rfl
                  have v4 := hns.cell 4 _ rfl
                  have w0 := hns.free 0
                  have w1' := hns.free 1
                  have w2' := hns.free 2
                  have w3' := hns.free 3
                  have w4' := hns.free 4
                  obtain ⟨Wx, hWx⟩ : ∃ W, W = ((((wr.drew.setCell ⟨bm, 0, none⟩ (.int .u16 (st : Nat))).setCell ⟨bm, 1, none⟩ (.int .u16 (ss : Nat))).setCell ⟨bm, 2, none⟩ (.int .u32 (pp : Nat))).setCell ⟨bm, 3, none⟩ (.bool fb)).setCell ⟨bm, 4, none⟩ (.slice none 0 0) := ⟨_, rfl⟩
                  have HBG : Hid (CvQ w Bg q c0 z bm nx P wa wc wl j2 lo2 hi2 (some ⟨gch, 0, none⟩) cc ys ga gc gl (((((wr.drew.setCell ⟨bm, 0, none⟩ (.int .u16 (st : Nat))).setCell ⟨bm, 1, none⟩ (.int .u16 (ss : Nat))).setCell ⟨bm, 2, none⟩ (.int .u32 (pp : Nat))).setCell ⟨bm, 3, none⟩ (.bool fb)).setCell ⟨bm, 4, none⟩ (.slice none 0 0)) ∧ CvN w Bg bm lo2 hi2 gl true ⟨st, ss, pp, fb, []⟩ none 0 (((((wr.drew.setCell ⟨bm, 0, none⟩ (.int .u16 (st : Nat))).setCell ⟨bm, 1, none⟩ (.int .u16 (ss : Nat))).setCell ⟨bm, 2, none⟩ (.int .u32 (pp : Nat))).setCell ⟨bm, 3, none⟩ (.bool fb)).setCell ⟨bm, 4, none⟩ (.slice none 0 0)) ∧ hi2 ≤ (((((wr.drew.setCell ⟨bm, 0, none⟩ (.int .u16 (st : Nat))).setCell ⟨bm, 1, none⟩ (.int .u16 (ss : Nat))).setCell ⟨bm, 2, none⟩ (.int .u32 (pp : Nat))).setCell ⟨bm, 3, none⟩ (.bool fb)).setCell ⟨bm, 4, none⟩ (.slice none 0 0)).heap.size) := by
                    have hqd := HQN.out.1.below (Below.refl _ _).drew
                    have hnd := HQN.out.2.below (Below.refl _ _).drew
                    refine ⟨hqd.box hnd.nt (((((Fr.setCell (fun b => b = bm) _ ⟨bm, 0, none⟩ _ rfl).trans (Fr.setCell _ _ ⟨bm, 1, none⟩ _ rfl)).trans (Fr.setCell _ _ ⟨bm, 2, none⟩ _ rfl)).trans (Fr.setCell _ _ ⟨bm, 3, none⟩ _ rfl)).trans (Fr.setCell _ _ ⟨bm, 4, none⟩ _ rfl)), CvN.begin st ss pp fb (((((hnd.nt.setCell _ _).setCell _ _).setCell _ _).setCell _ _).setCell _ _) ?_, by have := HG.out.2.2.2.2.2.1; simpa [World.setCell] using this⟩
                    exact ((((hnd.ns.putQ (j := 0) (by show 0 < 5; decide) (.int .u16 (st : Nat))).putQ (j := 1) (by show 1 < 5; decide) (.int .u16 (ss : Nat))).putQ (j := 2) (by show 2 < 5; decide) (.int .u32 (pp : Nat))).putQ (j := 3) (by show 3 < 5; decide) (.bool fb)).putQ (j := 4) (by show 4 < 5; decide) (.slice none 0 0)
                  clear hns hWx Wx
                  go_wp2_with fail
                  refine wp_region_stage mixedX [23] (fun stgN W => match stgN with | 0 => W = wr.drew | _ => CvQ w Bg q c0 z bm nx P wa wc wl j2 lo2 hi2 (some ⟨gch, 0, none⟩) cc ys ga gc gl W ∧ CvN w Bg bm lo2 hi2 gl true ⟨st, ss, pp, fb, []⟩ none 0 W ∧ hi2 ≤ W.heap.size) (fun W => W.cell? ⟨gch, i * 14 + 1, none⟩ = some (.int .u8 (f : Nat)) ∧ W.cell? ⟨gch, i * 14 + 3, none⟩ = some (.int .u16 (st : Nat)) ∧ W.cell? ⟨gch, i * 14 + 4, none⟩ = some (.int .u16 (ss : Nat)) ∧ W.cell? ⟨gch, i * 14 + 5, none⟩ = some (.int .u32 (pp : Nat))) [(117, .slice (some ⟨gch, 0, none⟩) yn cc), (118, .int .i64 (i : Nat)), (119, .pointer (some ⟨gch, i * 14, none⟩)), (120, .pointer (some ⟨gch, i * 14 + 3, none⟩)), (121, .int .u16 (st : Nat)), (122, .slice (some ⟨gch, 0, none⟩) yn cc), (123, .int .i64 (i : Nat)), (124, .pointer (some ⟨gch, i * 14, none⟩)), (125, .pointer (some ⟨gch, i * 14 + 4, none⟩)), (126, .int .u16 (ss : Nat)), (127, .slice (some ⟨gch, 0, none⟩) yn cc), (128, .int .i64 (i : Nat)), (129, .pointer (some ⟨gch, i * 14, none⟩)), (130, .pointer (some ⟨gch, i * 14 + 5, none⟩)), (131, .int .u32 (pp : Nat)), (132, .slice (some ⟨gch, 0, none⟩) yn cc), (133, .int .i64 (i : Nat)), (134, .pointer (some ⟨gch, i * 14, none⟩)), (135, .pointer (some ⟨gch, i * 14 + 1, none⟩)), (136, .int .u8 (f : Nat)), (137, .int .u8 (e4 : Nat)), (138, .bool fb), (139, .agg #[.int .u16 (st : Nat), .int .u16 (ss : Nat), .int .u32 (pp : Nat), .bool fb, .slice none 0 0])] ?Z6 ?hZ6 (by kernel_rfl) (by kernel_rfl) (by kernel_rfl) (by kernel_rfl) (by kernel_rfl) ?h06 ?hS6 (.inl (by kernel_rfl)) ?hops6 ?he6 (by kernel_rfl) (by decide)
                  case hZ6 => simp only [List.foldl_cons, List.foldl_nil, List.setIfInBounds_toArray, List.set_cons_zero, List.set_cons_succ]; rfl
                  case h06 => rfl
                  case hS6 =>
                    intro k W hk hW
                    have hk : k < 1 := hk
                    obtain rfl : k = 0 := by omega
                    · have hW : W = wr.drew := hW; rw [hW]; exact ⟨k1, k3, k4, k5⟩
                  case hops6 =>
                    refine ⟨?_, ?_, ?_, ?_, ?_, ?_, ?_, ?_, ?_, ?_, ?_, ?_, ?_, ?_, ?_, ?_, ?_, ?_, ?_, ?_, ?_, ?_, ?_, ?_, trivial⟩
                    · exact stg_val (by rfl) (by rfl) (fun W hW => by obtain ⟨y1, y3, y4, y5⟩ := hW; go_simp; (try with_reducible rfl); (try omega))
                    · exact stg_val (by rfl) (by rfl) (fun W hW => by obtain ⟨y1, y3, y4, y5⟩ := hW; go_simp; (try with_reducible rfl); (try omega))
                    · exact stg_val (by rfl) (by rfl) (fun W hW => by obtain ⟨y1, y3, y4, y5⟩ := hW; go_simp; (try with_reducible rfl); (try omega))
                    · exact stg_val (by rfl) (by rfl) (fun W hW => by obtain ⟨y1, y3, y4, y5⟩ := hW; go_simp; (try with_reducible rfl); (try omega))
                    · exact stg_val (by rfl) (by rfl) (fun W hW => by obtain ⟨y1, y3, y4, y5⟩ := hW; go_simp; (try with_reducible rfl); (try omega))
                    · exact stg_val (by rfl) (by rfl) (fun W hW => by obtain ⟨y1, y3, y4, y5⟩ := hW; go_simp; (try with_reducible rfl); (try omega))
                    · exact stg_val (by rfl) (by rfl) (fun W hW => by obtain ⟨y1, y3, y4, y5⟩ := hW; go_simp; (try with_reducible rfl); (try omega))
                    · exact stg_val (by rfl) (by rfl) (fun W hW => by obtain ⟨y1, y3, y4, y5⟩ := hW; go_simp; (try with_reducible rfl); (try omega))
                    · exact stg_val (by rfl) (by rfl) (fun W hW => by obtain ⟨y1, y3, y4, y5⟩ := hW; go_simp; (try with_reducible rfl); (try omega))
                    · exact stg_val (by rfl) (by rfl) (fun W hW => by obtain ⟨y1, y3, y4, y5⟩ := hW; go_simp; (try with_reducible rfl); (try omega))
                    · exact stg_val (by rfl) (by rfl) (fun W hW => by obtain ⟨y1, y3, y4, y5⟩ := hW; go_simp; (try with_reducible rfl); (try omega))
                    · exact stg_val (by rfl) (by rfl) (fun W hW => by obtain ⟨y1, y3, y4, y5⟩ := hW; go_simp; (try with_reducible rfl); (try omega))
                    · exact stg_val (by rfl) (by rfl) (fun W hW => by obtain ⟨y1, y3, y4, y5⟩ := hW; go_simp; (try with_reducible rfl); (try omega))
                    · exact stg_val (by rfl) (by rfl) (fun W hW => by obtain ⟨y1, y3, y4, y5⟩ := hW; go_simp; (try with_reducible rfl); (try omega))
                    · exact stg_val (by rfl) (by rfl) (fun W hW => by obtain ⟨y1, y3, y4, y5⟩ := hW; go_simp; (try with_reducible rfl); (try omega))
                    · exact stg_val (by rfl) (by rfl) (fun W hW => by obtain ⟨y1, y3, y4, y5⟩ := hW; go_simp; (try with_reducible rfl); (try omega))
                    · exact stg_val (by rfl) (by rfl) (fun W hW => by obtain ⟨y1, y3, y4, y5⟩ := hW; go_simp; (try with_reducible rfl); (try omega))
                    · exact stg_val (by rfl) (by rfl) (fun W hW => by obtain ⟨y1, y3, y4, y5⟩ := hW; go_simp; (try with_reducible rfl); (try omega))
                    · exact stg_val (by rfl) (by rfl) (fun W hW => by obtain ⟨y1, y3, y4, y5⟩ := hW; go_simp; (try with_reducible rfl); (try omega))
                    · exact stg_val (by rfl) (by rfl) (fun W hW => by obtain ⟨y1, y3, y4, y5⟩ := hW; go_simp; (try with_reducible rfl); (try omega))
                    · exact stg_val (by rfl) (by rfl) (fun W hW => by obtain ⟨y1, y3, y4, y5⟩ := hW; go_simp; (try with_reducible rfl); (try omega))
                    · exact stg_val (by rfl) (by rfl) (fun W hW => by obtain ⟨y1, y3, y4, y5⟩ := hW; go_simp; (try with_reducible rfl); (try omega))
                    · exact stg_val (by rfl) (by rfl) (fun W hW => by obtain ⟨y1, y3, y4, y5⟩ := hW; go_simp; (try with_reducible rfl); (try omega))
                    · exact stg_skip (by rfl) (by rfl) rfl (fun W hW => by have hW : W = wr.drew := hW; subst hW; exact ⟨_, (by go_simp), HBG.out⟩)
                  case he6 =>
                  intro W1 hW1
                  have hW1' : CvQ w Bg q c0 z bm nx P wa wc wl j2 lo2 hi2 (some ⟨gch, 0, none⟩) cc ys ga gc gl W1 ∧ CvN w Bg bm lo2 hi2 gl true ⟨st, ss, pp, fb, []⟩ none 0 W1 ∧ hi2 ≤ W1.heap.size := hW1
                  clear hW1 v0 v1 v2 v3 v4 w0 w1' w2' w3' w4' HBG k1 k2 k3 k4 k5 k13
                  obtain ⟨now1, na1, nc1, hnow, hQ1, hN1⟩ : ∃ now1 na1 nc1, now1 = nowS s pt ∧ CvQ w Bg q c0 z bm nx P wa wc wl j2 lo2 hi2 (some ⟨gch, 0, none⟩) cc ys ga gc gl W1 ∧ CvN w Bg bm lo2 hi2 gl true now1 na1 nc1 W1 := by
                    refine ⟨_, _, _, ?_, hW1'.1, hW1'.2.1⟩
                    unfold nowS
                    rw [HB1.out, if_pos rfl, HG.out.2.2.2.2.2.2.2.2.1, HG.out.2.2.2.2.2.2.2.2.2.1]
                  have hhw : hi2 ≤ W1.heap.size := hW1'.2.2
                  clear hW1'
                  obtain ⟨nst, nss, npp, nfr, nzs⟩ := now1
                  obtain ⟨zn, hzn⟩ : ∃ m, m = nzs.length := ⟨_, rfl⟩
                  have hzn2 : zn + pn ≤ 1000000 := by
                    have h1 := HG.out.2.2.2.1
                    have h2 := HG.out.2.2.2.2.2.2.2.2.2.2.2.1.2.2
                    have h3 := HG.out.2.2.2.2.2.2.2.2.2.2.1
                    have h4 : nzs.length ≤ s.now.zs.length := by
                      have h5 : nzs = (nowS s pt).zs := congrArg Wm.zs hnow
                      rw [h5]
                      unfold nowS
                      split
                      · exact Nat.zero_le _
                      · exact Nat.le_refl _
                    omega
                  have hQ1d := hQ1.below (Below.refl _ _).drew
                  have hN1d := hN1.below (Below.refl _ _).drew
                  have hob := (HCH.out W1.drew ga gc gl hQ1d).2.2.2.2.2.2
                  obtain ⟨na2, nc2, Vb, hD⟩ := CvN.data hQ1d hN1d hhw (hob.sl (by omega)) (by show nzs.length + pn ≤ _; omega)
                  obtain ⟨Vc, hVc⟩ : ∃ Vc, Vc = Vb.setCell ⟨bm, 4, none⟩ (.slice na2 (zn + pn) nc2) := ⟨_, rfl⟩
                  have hrun : (Builtin.append_ #[36, 36] 36 #[.slice na1 zn nc1, .slice ya pn yc]).run Try.prog W1.drew = .ok (.slice na2 (zn + pn) nc2) Vb := by rw [hzn]; exact hD.run _
                  have hQ3 := hD.qd
                  have hN3 := hD.nd
                  dsimp only at hQ3 hN3
                  rw [← hzn, ← hVc] at hQ3 hN3
                  have n4 : W1.cell? ⟨bm, 4, none⟩ = some (.slice na1 zn nc1) := by rw [hzn]; exact hN1.ns.cell 4 _ rfl
                  have nb4 : Vb.cell? ⟨bm, 4, none⟩ = some (.slice na1 zn nc1) := by rw [hzn]; exact hD.sb.cell 4 _ rfl
                  have nbf := hD.sb.free 4
                  have c13 := (HCH.out W1 ga gc gl hQ1).2.2.2.2.2.1
                  have c13b := (HCH.out Vb ga gc gl hD.qb).2.2.2.2.2.1
                  have kk1 := (HCH.out Vc ga gc gl hQ3).1
                  have hst3 : stepS s pt = ⟨!decide (e1 ≠ 0), ⟨nst, nss, npp, nfr, nzs ++ zs⟩, if decide (e1 ≠ 0) = true then s.got ++ [⟨nst, nss, npp, nfr, nzs ++ zs⟩] else s.got⟩ := by
                    unfold stepS
                    rw [← hnow, HG.out.2.2.2.2.2.2.2.1, HG.out.2.2.2.2.2.2.2.2.2.1]
                  have hhc : hi2 ≤ Vc.heap.size := by
                    rw [hVc]
                    simp only [World.setCell, Array.size_modify]
                    have h1 : W1.drew.heap.size ≤ Vb.heap.size := by
                      have := hD.sb.lt
                      exact hD.le
                    exact Nat.le_trans hhw h1
                  have HV := (show Hid _ from hVc)
                  have HT := (show Hid _ from And.intro hQ3 (And.intro hN3 (And.intro hst3 hhc)))
                  clear hnow hQ1 hN1 hQ1d hN1d hob hD hVc hQ3 hN3 hzn hst3 hhc hhw
                  go_wp2_with fail
                  refine wp_region_stage mixedX [7, 9] (fun stgN W => match stgN with | 0 => W = W1.drew | 1 => W = Vb | _ => W = Vc) (fun W => W.cell? ⟨bm, 4, none⟩ = some (.slice na1 zn nc1) ∧ W.cell? ⟨gch, i * 14 + 13, none⟩ = some (.slice ya pn yc)) [(140, .pointer (some ⟨bm, 4, none⟩)), (141, .slice na1 zn nc1), (142, .slice (some ⟨gch, 0, none⟩) yn cc), (143, .int .i64 (i : Nat)), (144, .pointer (some ⟨gch, i * 14, none⟩)), (145, .pointer (some ⟨gch, i * 14 + 13, none⟩)), (146, .slice ya pn yc), (147, .slice na2 (zn + pn) nc2), (148, .pointer (some ⟨bm, 4, none⟩))] ?Z5 ?hZ5 (by kernel_rfl) (by kernel_rfl) (by kernel_rfl) (by kernel_rfl) (by kernel_rfl) ?h05 ?hS5 (.inl (by kernel_rfl)) ?hops5 ?he5 (by kernel_rfl) (by decide)
                  case hZ5 => simp only [List.foldl_cons, List.foldl_nil, List.setIfInBounds_toArray, List.set_cons_zero, List.set_cons_succ]; rfl
                  case h05 => rfl
                  case hS5 =>
                    intro k W hk hW
                    have hk : k < 2 := hk
                    obtain rfl | rfl : k = 0 ∨ k = 1 := by omega
                    · have hW : W = W1.drew := hW; rw [hW]; exact ⟨n4, c13⟩
                    · have hW : W = Vb := hW; rw [hW]; exact ⟨nb4, c13b⟩
                  case hops5 =>
                    refine ⟨?_, ?_, ?_, ?_, ?_, ?_, ?_, ?_, ?_, ?_, trivial⟩
                    · exact stg_val (by rfl) (by rfl) (fun W hW => by obtain ⟨y0, y1⟩ := hW; go_simp; (try with_reducible rfl); (try omega))
                    · exact stg_val (by rfl) (by rfl) (fun W hW => by obtain ⟨y0, y1⟩ := hW; go_simp; (try with_reducible rfl); (try omega))
                    · exact stg_val (by rfl) (by rfl) (fun W hW => by obtain ⟨y0, y1⟩ := hW; go_simp; (try with_reducible rfl); (try omega))
                    · exact stg_val (by rfl) (by rfl) (fun W hW => by obtain ⟨y0, y1⟩ := hW; go_simp; (try with_reducible rfl); (try omega))
                    · exact stg_val (by rfl) (by rfl) (fun W hW => by obtain ⟨y0, y1⟩ := hW; go_simp; (try with_reducible rfl); (try omega))
                    · exact stg_val (by rfl) (by rfl) (fun W hW => by obtain ⟨y0, y1⟩ := hW; go_simp; (try with_reducible rfl); (try omega))
                    · exact stg_val (by rfl) (by rfl) (fun W hW => by obtain ⟨y0, y1⟩ := hW; go_simp; (try with_reducible rfl); (try omega))
                    · exact stg_run (by rfl) (by rfl) (fun W hW => by have hW : W = W1.drew := hW; subst hW; exact ⟨Vb, run_appX rfl rfl rfl rfl hrun, rfl⟩)
                    · exact stg_val (by rfl) (by rfl) (fun W hW => by obtain ⟨y0, y1⟩ := hW; go_simp; (try with_reducible rfl); (try omega))
                    · exact stg_skip (by rfl) (by rfl) rfl (fun W hW => by have hW : W = Vb := hW; subst hW; refine ⟨Vc, ?_, rfl⟩; rw [HV.out]; go_simp; try rfl)
                  case he5 =>
                  intro W9 hW9
                  have hW9' : W9 = Vc := hW9
                  rw [hW9']
                  clear hW9 hW9' W9 n4 nb4 nbf c13 c13b hrun
                  by_cases hz1' : e1 = 0
                  · obtain rfl : e1 = 0 := hz1'
                    have HFI : Hid (CvS w Bg q c0 z bm nx P wa wc wl j2 lo2 hi2 (some ⟨gch, 0, none⟩) cc ys (j + (i + 1)) (.slice ga gl.length gc) Vc) := by
                      show CvS _ _ _ _ _ _ _ _ _ _ _ _ _ _ _ _ _ _ _ _
                      refine ⟨⟨ga, gc, gl, na2, nc2, rfl, HT.out.1, ?_, ?_⟩, HT.out.2.2.2⟩
                      · rw [HG.out.2.2.1, HT.out.2.2.1]
                        exact HT.out.2.1
                      · rw [HG.out.2.2.1, HT.out.2.2.1]
                        exact HG.out.2.1
                    go_wp2
                    go_roundw
                    case rel => exact ⟨i + 1, A2, by omega, by go_num, rfl, HG.out.2.2.2.2.2.2.2.2.2.2.2.2, HFI.out⟩
                    case measure => simp [intOf]; omega
                  · have hz1b : ((e1 : Int) == 0) = false := by simp; exact hz1'
                    have hz1c : ¬ (e1 : Int) = 0 := by omega
                    obtain ⟨n2, hn2⟩ : ∃ m, m = (nzs ++ zs).length := ⟨_, rfl⟩
                    obtain ⟨g7, c7, Vd, hE⟩ := CvN.fin HT.out.1 HT.out.2.1 HG.out.2.2.2.2.1 _ rfl
                    have happ : (Builtin.append_ #[33, 33] 33 #[.slice ga gl.length gc, .slice (some ⟨Vc.heap.size, 0, none⟩) 1 1]).run Try.prog (Vc.alloc (.cells #[.int .u16 (nst : Nat), .int .u16 (nss : Nat), .int .u32 (npp : Nat), .bool nfr, .slice na2 n2 nc2] 38)) = .ok (.slice (some ⟨g7, 0, none⟩) (gl.length + 1) c7) Vd := by rw [hn2]; exact hE.run _
                    have r0 : Vc.cell? ⟨bm, 0, none⟩ = some (.int .u16 (nst : Nat)) := HT.out.2.1.ns.cell 0 _ rfl
                    have r1 : Vc.cell? ⟨bm, 1, none⟩ = some (.int .u16 (nss : Nat)) := HT.out.2.1.ns.cell 1 _ rfl
                    have r2 : Vc.cell? ⟨bm, 2, none⟩ = some (.int .u32 (npp : Nat)) := HT.out.2.1.ns.cell 2 _ rfl
                    have r3 : Vc.cell? ⟨bm, 3, none⟩ = some (.bool nfr) := HT.out.2.1.ns.cell 3 _ rfl
                    have r4 : Vc.cell? ⟨bm, 4, none⟩ = some (.slice na2 n2 nc2) := by rw [hn2]; exact HT.out.2.1.ns.cell 4 _ rfl
                    have hed : decide (e1 ≠ 0) = true := decide_eq_true hz1'
                    have HFI : Hid (CvS w Bg q c0 z bm nx P wa wc wl j2 lo2 hi2 (some ⟨gch, 0, none⟩) cc ys (j + (i + 1)) (.slice (some ⟨g7, 0, none⟩) (gl.length + 1) c7) Vd) := by
                      show CvS _ _ _ _ _ _ _ _ _ _ _ _ _ _ _ _ _ _ _ _
                      refine ⟨⟨_, _, _, na2, nc2, by rw [List.length_append]; rfl, hE.qe, ?_, ?_⟩, Nat.le_trans HT.out.2.2.2 hE.le⟩
                      · rw [HG.out.2.2.1, HT.out.2.2.1, hed]
                        exact hE.ne
                      · rw [HG.out.2.2.1, HT.out.2.2.1, hed, List.map_append, HG.out.2.1]
                        rfl
                    clear hz1' hn2 hE hed
                    go_wp2_with (at_builtin; refine app_eqP rfl _ _ rfl rfl rfl rfl happ ?_)
                    go_roundw
                    case rel => exact ⟨i + 1, A2, by omega, by go_num, rfl, HG.out.2.2.2.2.2.2.2.2.2.2.2.2, HFI.out⟩
                    case measure => simp [intOf]; omega
              · have hie : i = yn := by omega
                have gl1 : ¬ (i : Int) < (yn : Int) := by omega
                have hA' : A = (first + min (16 * (t + 1)) P.length) % 4294967296 := by
                  have h1 := HY.out.2.2.1
                  have h2 := HY.out.2.2.2.2
                  have h3 := HJ.out.1
                  rw [hA]
                  congr 2
                  omega
                have HA' := (show Hid _ from hA')
                have hS' : CvS w Bg q c0 z bm nx P wa wc wl (min (16 * (t + 1)) P.length) lo2 hi2 (some ⟨gch, 0, none⟩) cc ys (min (16 * (t + 1)) P.length) u10 wr := by
                  have h1 := HY.out.2.2.1
                  have h2 := HY.out.2.2.2.2
                  have h3 := HJ.out.1
                  have e1 : min (16 * (t + 1)) P.length = j2 := by omega
                  rw [e1, ← h1, ← hie]
                  rw [← h1, ← hie] at hS
                  exact hS
                have HS' := (show Hid _ from hS')
                have ht2 : 16 * (t + 1) < P.length + 16 := by
                  have h1 := HY.out.2.2.1
                  have h2 := HY.out.2.2.2.2
                  have h3 := HJ.out.1
                  omega
                have HT2 := (show Hid _ from ht2)
                clear hS hS' hA hA' ht2 hie hlt
                go_wp2
                go_roundw
                case rel => exact ⟨t + 1, _, lo2, hi2, _, cc, ys, A, by go_num, rfl, HT2.out, rfl, HA'.out, HS'.out⟩
                case measure => simp [intOf]; omega
end Go.Proofs.Ytconfmjgoipejaa
namespace Go.Proofs.Ytconfmjgoipejaa.outqCuts
open Go.ChangeShapes Go.WideShapes Go.ChangeAt Go.RowKit
open Go.ChangeMaps (open_string shut_string)
set_option linter.unusedVariables false
theorem own : ownKnob Try.prog.godebug = none := by kernel_rfl
theorem laidOut : laidOutB Try.prog = true := by kernel_rfl


set_option maxRecDepth 100000 in
theorem lifted (os : Os) (started : os.Started) (H : Type) (enc : TypeId × Value → H) :
    ReturnsInHanded {} Try.checked os 4 .any (Rows.outqCutsSpec.pre6 enc Try.prog Try.f4 Rows.outqCutsRow.domain false) (Rows.outqCutsSpec.post enc Try.prog Try.f4 false true false false) := by
  refine returnsInHanded_of_change_sized (C := Try.checked) own started (by kernel_rfl) Try.func4
    (ChangeSpec.witness6 (enc := enc) (C := Try.checked) false ⟨#[], #[.int .u32 0, .int .u8 0, .slice none 0 0], []⟩ 8 (by kernel_rfl) (by kernel_rfl) (by kernel_rfl) (by kernel_rfl)) ?_
  intro W base args ds gs before hval0 hW hcnd hsz0 _
  have hval : ∀ (j : Nat) t v, Try.f4.params[j]? = some t → args[j]? = some v → Value.okWide Try.prog W .any base t v := hval0
  have hsz : (DataW.weightsEach Try.prog (Try.f4.params.toList ++ Rows.outqCutsSpec.plain.varTypes Try.prog) (ds ++ gs)).all (· ≤ reachBytes) = true := hsz0
  clear hsz0
  have hW' := hW
  obtain ⟨p, q, hA0, hV, rfl, hfz, hnd⟩ := hW
  have hA : DataW.TrodAll enc Try.prog W 0 (fun _ => true) true Try.f4.params.toList args.toList ds p := hA0
  rw [Try.params4] at hA hval hsz
  obtain ⟨v0, vs0, d0, ds0, p0, q0, hargs, rfl, rfl, h0, r0⟩ := trodAll_cons hA
  obtain ⟨v1, vs1, d1, ds1, p1, q1, rfl, rfl, rfl, h1, r1⟩ := trodAll_cons r0
  obtain ⟨v2, vs2, d2, ds2, p2, q2, rfl, rfl, rfl, h2, r2⟩ := trodAll_cons r1
  obtain ⟨rfl, rfl, rfl⟩ := trodAll_nil r2
  obtain rfl : args = #[v0, v1, v2] := by cases args; simp_all
  obtain ⟨rfl, rfl⟩ := trodVars_none hV
  obtain ⟨x0, rfl, rfl, rfl, w0⟩ := open_int Try.underlying22 (hval 0 22 v0 rfl rfl) h0
  obtain ⟨m0, rfl⟩ : ∃ m : Nat, x0 = (m : Int) := ⟨x0.toNat, by have := bounds_u32 w0; omega⟩
  have b0 : m0 < 4294967296 := by have := bounds_u32 w0; omega
  obtain ⟨x1, rfl, rfl, rfl, w1⟩ := open_int Try.underlying5 (hval 1 5 v1 rfl rfl) h1
  obtain ⟨m1, rfl⟩ : ∃ m : Nat, x1 = (m : Int) := ⟨x1.toNat, by have := bounds_u8 w1; omega⟩
  have b1 : m1 < 256 := by have := bounds_u8 w1; omega
  obtain ⟨a2, len2, cap2, rfl⟩ := okWide_slice Try.underlying33 (hval 2 33 v2 rfl rfl)
  have k2 := h2
  have lt2 : ∀ x ∈ p2, x.block < W.heap.size := by obtain ⟨m, hm⟩ := k2; exact DataW.trod_lt m _ _ _ hm
  obtain ⟨z2, w2⟩ : ∃ dd, SlMg W a2 len2 cap2 dd := by
    clear k2 lt2
    obtain ⟨fuel, hf⟩ := h2
    exact SlMg.open hf (fun q hq => by
      have := List.all_eq_true.1 hsz q (DataW.weights_mem_each (j := 2) (t := 33) (d := d2) rfl rfl q hq)
      simpa using this)
  clear hA0 hval0 hsz
  refine (walk_OutqCuts m0 m1 a2 len2 cap2 z2 W b0 b1 w2).mono fun e W' ⟨he, bel⟩ => ?_
  subst he
  exact ⟨_, rfl, _, _, _, [], _, [], hW', trodAll_mk1 (shut_bool Try.underlying4 _), (trodAll_cons_mk (shut_int Try.underlying22 w0) (trodAll_cons_mk (shut_int Try.underlying5 w1) (trodAll_cons_mk (Below.trod laidOut (by kernel_rfl) (of_decide_eq_true (by kernel_rfl)) k2 bel lt2) trodAll_mk0))), rfl, bel.frame _, fun h => by cases h⟩
theorem over : Rows.outqCutsRow.holds Try.pinned (OpenSpec.ofChange Rows.outqCutsSpec) :=
  OpenClaim.holds_of_wide 4 Try.f4 rfl rfl rfl rfl rfl rfl rfl ⟨rfl, rfl, rfl, rfl, rfl⟩ rfl rfl rfl rfl rfl (by kernel_rfl) Try.func4 (by kernel_rfl)
    (of_decide_eq_true (by kernel_rfl)) (by unfold Func.isWrapper; first | (rw [if_pos (by decide +kernel)]; kernel_rfl) | (rw [if_neg (by decide +kernel)]; exact ⟨rfl, rfl⟩))
    (fun os started H enc _ => lifted os started H enc)
end Go.Proofs.Ytconfmjgoipejaa.outqCuts
namespace Go.Proofs.Ytconfmjgoipejaa
theorem OutqCuts_holds : Rows.OutqCutsSaid := outqCuts.over
#print axioms OutqCuts_holds
end Go.Proofs.Ytconfmjgoipejaa
