/-
  Whatever the input, trunklinelaw13.StreamsPrefix answers true and leaves what it was handed as it was.
  (The statement is Rows.StreamsPrefixSaid; no condition of our own.)
-/
import Derived.Test.YtjaheelgcjafcaaQ3
import Derived.Test.YtjaheelgcjafcaaRows
import Derived.ProofKit
import Derived.OpenShut
import Derived.ShutString
import Derived.ChangeOld
import Derived.SizedLaws
namespace Go.Proofs.Ytjaheelgcjafcaa
open Go.RowKit Go.MapKept Go.Maps
theorem zero_i8 (w : World) : (zeroValue 56).run Try.prog w = .ok (.agg #[.int .i64 0, .int .i64 0, .int .i64 0, .int .i64 0, .int .i64 0, .int .i64 0, .int .i64 0, .int .i64 0]) w := by kernel_rfl
/-- What stands ahead of the piece i. -/
structure PfS (W1 : World) (M N i : Nat) (mg : Nat → Mg) (o : Nat → Nat) (pd : Nat → Pd) (f : Nat → Nat) (I L : List Nat) (wr : World) : Prop where
  od : OdI W1 (W1.heap.size + 3) W1.heap.size (W1.heap.size + 1) (W1.heap.size + 2) (W1.heap.size + 5) 7 M N i mg o pd f (fun g => g = W1.heap.size + 4 ∨ g = W1.heap.size + 5) I wr
  nx : Stc wr (W1.heap.size + 4) (ntL .i64 mg L)
theorem PfS.below {W1 w w' : World} {M N i : Nat} {mg : Nat → Mg} {o : Nat → Nat} {pd : Nat → Pd} {f : Nat → Nat} {I L : List Nat} (h : PfS W1 M N i mg o pd f I L w) (hb : Below w.heap.size w w') : PfS W1 M N i mg o pd f I L w' := ⟨h.od.below hb, h.nx.below hb⟩
set_option linter.unusedVariables false in
set_option maxRecDepth 100000 in
set_option maxHeartbeats 16000000 in
theorem walk_StreamsPrefix (la : Option Addr) (ln lc : Nat) (dd : List SeD) (pa : Option Addr) (pn pc : Nat) (ps : List Nat) (cm : Nat) (w : World) (hs : SlSe w la ln lc dd) (hp : Sl w pa pn pc ps) (hcm : cm < 256) :
    Calls Try.prog 5 #[.slice la ln lc, .slice pa pn pc, .int .u8 (cm : Nat)] w fun e w' => e = .returned (.bool true) ∧ Below w.heap.size w w' := by
  have HCT := (show Hid _ from cut_any la ln lc dd 7 3 w hs (by decide) (by decide) (by decide) (fun m a c t0 w a1 a2 a3 a4 a5 => pieces_any m a c t0 3 w a1 a2 a3 (by decide) (by decide) a4 a5))
  have HPS := (show Hid _ from hp)
  clear hs hp
  go_enter Try.func5, Try.ntmps5
  go_wp2_with fail
  refine Calls.mono HCT.out ?_
  clear HCT
  rintro e W1 hCP
  obtain ⟨M, N, ma, mc, ca, cc, mg, o, pd, rfl, hC⟩ := hCP.ex
  have hN128 := hC.ct.F.n128
  have hMN := hC.ct.F.MN
  have HC := (show Hid _ from hC)
  have HNW := (show Hid _ from snew_ok 8 W1 (by decide) (by decide))
  clear hCP hC
  go_wp2_with fail
  refine Calls.mono HNW.out ?_
  clear HNW
  rintro e w2 ⟨rfl, hw2⟩
  have hsm2 := SmW.new 8 (by decide) (by decide) hw2
  have hb2 : Below W1.heap.size W1 w2 := by rw [hw2]; exact (((((Below.refl _ _).alloc (Nat.le_refl _) _).alloc (by simp) _).alloc (by simp; omega) _).alloc (by simp; omega) _)
  have hz2 : w2.heap.size = W1.heap.size + 4 := by rw [hw2]; simp
  obtain ⟨w3, hw3⟩ : ∃ w3, w3 = w2.alloc (.cells #[.int .i64 0, .int .i64 0, .int .i64 0, .int .i64 0, .int .i64 0, .int .i64 0, .int .i64 0, .int .i64 0] 56) := ⟨_, rfl⟩
  have hb3 : Below w2.heap.size w2 w3 := by rw [hw3]; exact (Below.refl _ _).alloc (Nat.le_refl _) _
  have hz3 : w3.heap.size = W1.heap.size + 5 := by rw [hw3]; simp [hz2]
  have hst3 := Stc.new w2 [.int .i64 0, .int .i64 0, .int .i64 0, .int .i64 0, .int .i64 0, .int .i64 0, .int .i64 0, .int .i64 0] 56 w3 hw3
  rw [hz2] at hst3
  have hz8 := zero_i8 w2
  have hb13 : Below W1.heap.size W1 w3 := hb2.trans (hb3.mono hb2.size)
  have hsm3 := hsm2.below hb3
  have HSH := (show Hid _ from shuffled_any N pa pn pc ps w3 (HPS.out.below (HC.out.bel.trans (hb13.mono HC.out.bel.size))) (by omega))
  have HM3 := (show Hid _ from And.intro hsm3 (And.intro hst3 (And.intro hb13 hz3)))
  clear hsm2 hb2 hw2 hb3 hst3 hb13 hsm3 hz3
  go_wp2_with fail
  rw [← hw3]
  clear hw3 hz8 hz2
  refine Calls.mono HSH.out ?_
  clear HSH
  rintro e w4 hSP
  obtain ⟨f, he, hrw, hpm⟩ := hSP.ex
  have hb4 := hSP.bel
  obtain ⟨hsm3, hst3, hb13, hz3⟩ := HM3.out
  rw [hz3] at he hrw
  subst he
  have HF0 : Hid (PfS W1 M N 0 mg o pd f [] [] w4) := by
    have h45 : w4.heap.size > W1.heap.size + 5 := by have := hrw.lt; omega
    refine ⟨⟨⟨⟨List.replicate 8 0, [], []⟩, fun _ => false, _, _, hsm3.below hb4, Iv.start HC.out.ct.F 7, fun j => ⟨fun e => (by cases e), fun ⟨i', a, _⟩ => (by omega)⟩, Nat.zero_le _, fun g _ e => e⟩, fun g hg => by rcases hg with e | e <;> (subst e; omega), .inr rfl, hrw, hb13.trans (hb4.mono hb13.size), by omega⟩, hst3.below hb4⟩
  have HPM := (show Hid _ from hpm)
  clear hSP hb4 hsm3 hst3 hb13 hz3 hrw hpm HM3
  go_wp2
  go_loopw [13] (fun u13 wr => ∃ (i : Nat) (I : List Nat), i ≤ N ∧ u13 = .int .i64 (i : Nat) ∧ PfS W1 M N i mg o pd f I I wr) (fun u13 _ => N - (intOf u13).toNat)
  case atStart => exact ⟨0, [], by omega, rfl, HF0.out⟩
  case round =>
    obtain ⟨i, I, hiN, rfl, hF⟩ := hrel
    have HF := (show Hid _ from hF)
    clear hF HF0
    by_cases hlt : i < N
    · have hlt1 : (i : Int) < (N : Int) := by omega
      by_cases hci : i < cm
      · have hci1 : (i : Int) < (cm : Int) := by omega
        obtain ⟨cb, ad, hca, hcb, hcN, hrg1, hob⟩ := HC.out.cs.getK (by omega)
        subst hca
        have hr5 := HF.out.od.rw_.cell i hlt
        have hfi := HPM.out.lt hlt
        have hfi1 : (f i : Int) < (N : Int) := by omega
        have hrg : wr.rangeAt cb (f i * 14) (ckJ 7 pd ad (f i)).cells := fun i' u hu => (HF.out.od.bel.cell (p := ⟨cb, f i * 14 + i', none⟩) hcb).trans (hrg1 (f i) hfi i' u hu)
        have HAD := (show Hid _ from fun v hv => od_add HC.out HF.out.od HPM.out hlt ad hob v hv)
        have HNX := (show Hid _ from HF.out.nx)
        obtain ⟨cs, hcs⟩ : ∃ cs, cs = (ckJ 7 pd ad (f i)).cells := ⟨_, rfl⟩
        have hcl : cs.length = 14 := by rw [hcs]; rfl
        rw [← hcs] at hrg
        have HCS : Hid (∀ v, v = .agg cs.toArray → v = (ckJ 7 pd ad (f i)).val) := fun v hv => ck_val _ v (by rw [hv, hcs])
        clear hcs hrg1 hob HF
        generalize f i = fi at *
        go_wp2_with (first | (refine wpList_load_mid rfl 47 _ rfl cb (fi * 14) rfl cs _ hrg Try.underlying47 rfl (ch_size _ hcl) ?_) | fail)
        refine (HAD.out _ (HCS.out _ rfl)).mono ?_
        clear HAD HCS hrg hcl hr5 hfi hfi1
        rintro e w5 ⟨ta, tc, B, J, rfl, hms, hB, hod, hfr⟩
        have hnx5 := HNX.out.fr hfr (by omega)
        obtain ⟨tn, htn⟩ : ∃ tn, tn = J.length := ⟨_, rfl⟩
        rw [← htn] at hms ⊢
        have hB4 : W1.heap.size + 4 < B := Nat.lt_of_lt_of_le HNX.out.lt hB
        have HF5 : Hid (PfS W1 M N (i + 1) mg o pd f (I ++ J) (I ++ J.take 0) w5 ∧ MsgsW w5 B ta tn tc (J.map mg)) := ⟨⟨hod, by rw [List.take_zero, List.append_nil]; exact hnx5⟩, hms⟩
        have htn48 : tn ≤ 9223372036854775807 := by
          obtain ⟨xs, _, h2, _⟩ := hms.ex
          have := OwnG.cap h2
          unfold maxLen at this
          omega
        have HTN := (show Hid _ from htn)
        clear hms hod hfr hnx5 HNX hB htn
        go_wp2
        go_loopw [16] (fun u16 wr => ∃ k : Nat, k ≤ tn ∧ u16 = .int .i64 (k : Nat) ∧ PfS W1 M N (i + 1) mg o pd f (I ++ J) (I ++ J.take k) wr ∧ MsgsW wr B ta tn tc (J.map mg)) (fun u16 _ => tn - (intOf u16).toNat)
        case atStart => exact ⟨0, by omega, rfl, HF5.out⟩
        case round =>
          obtain ⟨k, hktn, rfl, hF, hms⟩ := hrel
          have HF := (show Hid _ from And.intro hF hms)
          clear hF HF5
          by_cases hk : k < tn
          · have hk1 : (k : Int) < (tn : Int) := by omega
            obtain ⟨x, hx⟩ : ∃ x, J[k]? = some x := ⟨_, List.getElem?_eq_getElem (by have := HTN.out; omega)⟩
            obtain ⟨s, A, _, _, _, hI, _⟩ := HF.out.1.od.ex
            have hxM : x < M := (hI.t2 x (List.mem_append_right _ (List.mem_of_getElem? hx))).1
            have hx8 := HC.out.ct.F.st8 x hxM
            have hxz := (HC.out.mb x hxM).2.2
            have htake : I ++ J.take (k + 1) = (I ++ J.take k) ++ [x] := by rw [List.take_add_one, hx, List.append_assoc]; rfl
            obtain ⟨tg, xa, xc, rfl, htg1, htg2, htc, hcell, hsx⟩ := hms.getK (k := k) (m := mg x) (by rw [List.getElem?_map, hx]; rfl) (by omega)
            have e3 := hcell 3 _ rfl
            have e0 := hcell 0 _ rfl
            rw [Nat.add_zero] at e0
            cases hfr : (mg x).fr with
            | true =>
              rw [hfr] at e3
              have HN : Hid (PfS W1 M N (i + 1) mg o pd f (I ++ J) (I ++ J.take (k + 1)) wr) := ⟨HF.out.1.od, by rw [htake, nt_free hfr]; exact HF.out.1.nx⟩
              have HMS := (show Hid _ from hms)
              clear hI hcell hsx hms htake e0
              go_wp2
              go_roundw
              case rel => exact ⟨k + 1, by omega, by go_num, HN.out, HMS.out⟩
              case measure => simp [intOf]; omega
            | false =>
              have hss := tld_next hI hx hfr hx8
              have hss128 := HC.out.ct.F.sb x hxM
              have e1 := hcell 1 _ rfl
              have e2 := hcell 2 _ rfl
              have e4 := hcell 4 _ rfl
              rw [hfr] at e3
              obtain ⟨xst, hxst⟩ : ∃ xst, xst = (mg x).st := ⟨_, rfl⟩
              obtain ⟨q, hq⟩ : ∃ q, q = (mg x).ss := ⟨_, rfl⟩
              have q0 := HF.out.1.nx.cell (mg x).st _ (nt_at .i64 mg (I ++ J.take k) (mg x).st hx8)
              rw [← hss, ← hq, ← hxst] at q0
              have q0f := HF.out.1.nx.free xst
              rw [← hxst] at e0 hx8
              rw [← hq] at e1 hss128
              obtain ⟨xpp, hxpp⟩ : ∃ xpp, xpp = (mg x).pp := ⟨_, rfl⟩
              obtain ⟨xn, hxn⟩ : ∃ xn, xn = (mg x).zs.length := ⟨_, rfl⟩
              rw [← hxpp] at e2
              rw [← hxn] at e4
              obtain ⟨wk, hwk⟩ : ∃ wk, wk = wr := ⟨_, rfl⟩
              subst hwk
              have hXB : W1.heap.size + 4 < wk.heap.size := HF.out.1.nx.lt
              -- behind the inner loop
              have HNEXT : Hid (∀ V, Below wk.heap.size wk V → PfS W1 M N (i + 1) mg o pd f (I ++ J) (I ++ J.take (k + 1)) (V.setCell ⟨W1.heap.size + 4, xst, none⟩ (.int .i64 ((q + 1 : Nat) : Int))) ∧ MsgsW (V.setCell ⟨W1.heap.size + 4, xst, none⟩ (.int .i64 ((q + 1 : Nat) : Int))) B (some ⟨tg, 0, none⟩) tn tc (J.map mg)) := fun V hV => by
                have hf := Fr.setCell (fun g => g = W1.heap.size + 4) V ⟨W1.heap.size + 4, xst, none⟩ (.int .i64 ((q + 1 : Nat) : Int)) rfl
                refine ⟨⟨(HF.out.1.od.below hV).turn (.inl rfl) (by omega) (by omega) hf, ?_⟩, (hms.below hV).fr hf (fun g h1 _ e => by omega)⟩
                rw [htake, nt_turn hfr (by rw [← hxst]; exact hx8) (.int .i64 ((q + 1 : Nat) : Int)) (by rw [← hss, ← hq]), ← hxst]
                exact (HF.out.1.nx.below hV).set xst _
              have HX := (show Hid _ from And.intro hxM (And.intro hxst (And.intro hq (And.intro hxpp (And.intro hxn hfr)))))
              have HE : Hid (∀ V, Below wk.heap.size wk V → V.cell? ⟨tg, k * 5, none⟩ = some (.int .u16 (xst : Nat)) ∧ V.cell? ⟨tg, k * 5 + 1, none⟩ = some (.int .u16 (q : Nat)) ∧ V.cell? ⟨tg, k * 5 + 2, none⟩ = some (.int .u32 (xpp : Nat)) ∧ V.cell? ⟨tg, k * 5 + 3, none⟩ = some (.bool false) ∧ V.cell? ⟨tg, k * 5 + 4, none⟩ = some (.slice xa xn xc) ∧ V.cell? ⟨W1.heap.size + 4, xst, none⟩ = some (.int .i64 (q : Nat))) := fun V hV =>
                ⟨(hV.cell (p := ⟨tg, k * 5, none⟩) htg2).trans e0, (hV.cell (p := ⟨tg, k * 5 + 1, none⟩) htg2).trans e1, (hV.cell (p := ⟨tg, k * 5 + 2, none⟩) htg2).trans e2, (hV.cell (p := ⟨tg, k * 5 + 3, none⟩) htg2).trans e3, (hV.cell (p := ⟨tg, k * 5 + 4, none⟩) htg2).trans e4, (hV.cell (p := ⟨W1.heap.size + 4, xst, none⟩) hXB).trans q0⟩
              have HSX : Hid (∀ V, Below wk.heap.size wk V → Sl V xa (mg x).zs.length xc (mg x).zs) := fun V hV => hsx.below hV
              have HBW1 : Hid (Below W1.heap.size W1 wk) := HF.out.1.od.bel
              clear hms hsx hcell htake hI hss hxst hq hxpp hxn hfr HF hx q0 e0 e1 e2 e4
              have hs0 := (rfl : cntM mg xst 0 = 0)
              go_wp2
              clear e3
              go_loopw [17, 18] (fun u17 u18 wr => ∃ j : Nat, j ≤ M ∧ u17 = .int .i64 (cntM mg xst j : Nat) ∧ u18 = .int .i64 (j : Nat) ∧ Below wk.heap.size wk wr) (fun _ u18 _ => M - (intOf u18).toNat)
              case atStart => exact ⟨0, by omega, rfl, rfl, Below.refl _ _⟩
              case round =>
                obtain ⟨j, hjM, rfl, rfl, hbw⟩ := hrel
                have HBW := (show Hid _ from hbw)
                clear hbw
                by_cases hj : j < M
                · have hj1 : (j : Int) < (M : Int) := by omega
                  obtain ⟨mb, ja, jc, hma, hmb1, hmb2, hmc, hcj, hsj⟩ := HC.out.ms.getK hj
                  subst hma
                  have hcnb := cntM_le mg xst j
                  obtain ⟨cn, hcn⟩ : ∃ cn, cn = cntM mg xst j := ⟨_, rfl⟩
                  rw [← hcn] at hcnb
                  obtain ⟨jst, hjst⟩ : ∃ jst, jst = (mg j).st := ⟨_, rfl⟩
                  obtain ⟨jss, hjss⟩ : ∃ jss, jss = (mg j).ss := ⟨_, rfl⟩
                  obtain ⟨jpp, hjpp⟩ : ∃ jpp, jpp = (mg j).pp := ⟨_, rfl⟩
                  obtain ⟨jn, hjn⟩ : ∃ jn, jn = (mg j).zs.length := ⟨_, rfl⟩
                  rw [← hcn]
                  cases hjf : (mg j).fr with
                  | true =>
                    have HLT : Hid (jst = (mg j).st ∧ jss = (mg j).ss ∧ jpp = (mg j).pp ∧ jn = (mg j).zs.length ∧ (mg j).fr = true) := ⟨hjst, hjss, hjpp, hjn, hjf⟩
                    have HKC : Hid (∀ V, Below wk.heap.size wk V → V.cell? ⟨mb, j * 5, none⟩ = some (.int .u16 (jst : Nat)) ∧ V.cell? ⟨mb, j * 5 + 1, none⟩ = some (.int .u16 (jss : Nat)) ∧ V.cell? ⟨mb, j * 5 + 2, none⟩ = some (.int .u32 (jpp : Nat)) ∧ V.cell? ⟨mb, j * 5 + 3, none⟩ = some (.bool true) ∧ V.cell? ⟨mb, j * 5 + 4, none⟩ = some (.slice ja jn jc) ∧ V.cell? ⟨tg, k * 5, none⟩ = some (.int .u16 (xst : Nat)) ∧ V.cell? ⟨tg, k * 5 + 1, none⟩ = some (.int .u16 (q : Nat)) ∧ V.cell? ⟨tg, k * 5 + 2, none⟩ = some (.int .u32 (xpp : Nat)) ∧ V.cell? ⟨tg, k * 5 + 3, none⟩ = some (.bool false) ∧ V.cell? ⟨tg, k * 5 + 4, none⟩ = some (.slice xa xn xc) ∧ V.cell? ⟨W1.heap.size + 4, xst, none⟩ = some (.int .i64 (q : Nat))) := fun V hV => by
                      have hb1 : Below W1.heap.size W1 V := HBW1.out.trans (hV.mono HBW1.out.size)
                      have hc := fun i' u hu => (hb1.cell (p := ⟨mb, j * 5 + i', none⟩) hmb2).trans (hcj i' u hu)
                      obtain ⟨l1, l2, l3, l4, l5⟩ := HLT.out
                      have c0 := hc 0 _ rfl
                      have c1 := hc 1 _ rfl
                      have c2 := hc 2 _ rfl
                      have c3 := hc 3 _ rfl
                      have c4 := hc 4 _ rfl
                      rw [Nat.add_zero, ← l1] at c0
                      rw [← l2] at c1
                      rw [← l3] at c2
                      rw [l5] at c3
                      rw [← l4] at c4
                      obtain ⟨x0, x1, x2, x3, x4, x5⟩ := HE.out V hV
                      exact ⟨c0, c1, c2, c3, c4, x0, x1, x2, x3, x4, x5⟩
                    have HCN : Hid (cntM mg xst (j + 1) = cn) := by show _ = _; rw [cntM, if_neg (by rw [hjf]; rintro ⟨e, _⟩; cases e), hcn]; rfl
                    clear hjst hjss hjpp hjn hjf hcj hsj hcn
                    go_wp2_with fail
                    refine wp_region_fixW mixedX (fun V => Below wk.heap.size wk V) [(81, .slice (some ⟨mb, 0, none⟩) M mc), (82, .int .i64 (j : Nat)), (83, .pointer (some ⟨mb, j * 5, none⟩)), (84, .pointer (some ⟨mb, j * 5 + 3, none⟩)), (85, .bool true), (86, .bool true), (87, undef), (88, undef), (89, undef), (90, undef), (91, undef), (92, undef), (93, undef), (94, undef), (95, undef), (96, undef), (97, undef), (98, .bool true)] ?Z1 ?hZ1 (by kernel_rfl) (by kernel_rfl) (by kernel_rfl) (by kernel_rfl) ?h01 ?hops1 ?he1
                    case hZ1 => simp only [List.foldl_cons, List.foldl_nil, List.setIfInBounds_toArray, List.set_cons_zero, List.set_cons_succ]; rfl
                    case h01 => exact HBW.out.drew
                    case hops1 =>
                      refine ⟨?_, ?_, ?_, ?_, ?_, ?_, ?_, ?_, ?_, ?_, ?_, ?_, ?_, ?_, ?_, ?_, ?_, ?_, trivial⟩
                      · exact fix_val (by rfl) (fun W hW => by have hc := HKC.out W hW; obtain ⟨d0, d1, d2, d3, d4, e0, e1, e2, e3, e4, q0⟩ := hc; go_simp; (try with_reducible rfl); (try omega))
                      · exact fix_val (by rfl) (fun W hW => by have hc := HKC.out W hW; obtain ⟨d0, d1, d2, d3, d4, e0, e1, e2, e3, e4, q0⟩ := hc; go_simp; (try with_reducible rfl); (try omega))
                      · exact fix_val (by rfl) (fun W hW => by have hc := HKC.out W hW; obtain ⟨d0, d1, d2, d3, d4, e0, e1, e2, e3, e4, q0⟩ := hc; go_simp; (try with_reducible rfl); (try omega))
                      · exact fix_val (by rfl) (fun W hW => by have hc := HKC.out W hW; obtain ⟨d0, d1, d2, d3, d4, e0, e1, e2, e3, e4, q0⟩ := hc; go_simp; (try with_reducible rfl); (try omega))
                      · exact fix_val (by rfl) (fun W hW => by have hc := HKC.out W hW; obtain ⟨d0, d1, d2, d3, d4, e0, e1, e2, e3, e4, q0⟩ := hc; go_simp; (try with_reducible rfl); (try omega))
                      · exact fix_val (by rfl) (fun W hW => by have hc := HKC.out W hW; obtain ⟨d0, d1, d2, d3, d4, e0, e1, e2, e3, e4, q0⟩ := hc; go_simp; (try with_reducible rfl); (try omega))
                      · exact fix_off (by rfl) (fun d hd => by cases hd; rfl)
                      · exact fix_off (by rfl) (fun d hd => by cases hd; rfl)
                      · exact fix_off (by rfl) (fun d hd => by cases hd; rfl)
                      · exact fix_off (by rfl) (fun d hd => by cases hd; rfl)
                      · exact fix_off (by rfl) (fun d hd => by cases hd; rfl)
                      · exact fix_off (by rfl) (fun d hd => by cases hd; rfl)
                      · exact fix_off (by rfl) (fun d hd => by cases hd; rfl)
                      · exact fix_off (by rfl) (fun d hd => by cases hd; rfl)
                      · exact fix_off (by rfl) (fun d hd => by cases hd; rfl)
                      · exact fix_off (by rfl) (fun d hd => by cases hd; rfl)
                      · exact fix_off (by rfl) (fun d hd => by cases hd; rfl)
                      · exact fix_val (by rfl) (fun W hW => by have hc := HKC.out W hW; obtain ⟨d0, d1, d2, d3, d4, e0, e1, e2, e3, e4, q0⟩ := hc; go_simp; (try with_reducible rfl); (try omega))
                    case he1 =>
                    intro V hV
                    have HV := (show Hid _ from hV)
                    clear hV HKC
                    go_wp2
                    go_roundw
                    case rel => exact ⟨j + 1, by omega, congrArg (Value.int .i64) (by have := HCN.out; omega), by go_num, HV.out⟩
                    case measure => simp [intOf]; omega
                  | false =>
                    by_cases hse : (mg j).st = xst
                    · have hjs2 : xst = (mg j).st := hse.symm
                      have HLT : Hid (xst = (mg j).st ∧ jss = (mg j).ss ∧ jpp = (mg j).pp ∧ jn = (mg j).zs.length ∧ (mg j).fr = false) := ⟨hjs2, hjss, hjpp, hjn, hjf⟩
                      have HKC : Hid (∀ V, Below wk.heap.size wk V → V.cell? ⟨mb, j * 5, none⟩ = some (.int .u16 (xst : Nat)) ∧ V.cell? ⟨mb, j * 5 + 1, none⟩ = some (.int .u16 (jss : Nat)) ∧ V.cell? ⟨mb, j * 5 + 2, none⟩ = some (.int .u32 (jpp : Nat)) ∧ V.cell? ⟨mb, j * 5 + 3, none⟩ = some (.bool false) ∧ V.cell? ⟨mb, j * 5 + 4, none⟩ = some (.slice ja jn jc) ∧ V.cell? ⟨tg, k * 5, none⟩ = some (.int .u16 (xst : Nat)) ∧ V.cell? ⟨tg, k * 5 + 1, none⟩ = some (.int .u16 (q : Nat)) ∧ V.cell? ⟨tg, k * 5 + 2, none⟩ = some (.int .u32 (xpp : Nat)) ∧ V.cell? ⟨tg, k * 5 + 3, none⟩ = some (.bool false) ∧ V.cell? ⟨tg, k * 5 + 4, none⟩ = some (.slice xa xn xc) ∧ V.cell? ⟨W1.heap.size + 4, xst, none⟩ = some (.int .i64 (q : Nat))) := fun V hV => by
                        have hb1 : Below W1.heap.size W1 V := HBW1.out.trans (hV.mono HBW1.out.size)
                        have hc := fun i' u hu => (hb1.cell (p := ⟨mb, j * 5 + i', none⟩) hmb2).trans (hcj i' u hu)
                        obtain ⟨l1, l2, l3, l4, l5⟩ := HLT.out
                        have c0 := hc 0 _ rfl
                        have c1 := hc 1 _ rfl
                        have c2 := hc 2 _ rfl
                        have c3 := hc 3 _ rfl
                        have c4 := hc 4 _ rfl
                        rw [Nat.add_zero, ← l1] at c0
                        rw [← l2] at c1
                        rw [← l3] at c2
                        rw [l5] at c3
                        rw [← l4] at c4
                        obtain ⟨x0, x1, x2, x3, x4, x5⟩ := HE.out V hV
                        exact ⟨c0, c1, c2, c3, c4, x0, x1, x2, x3, x4, x5⟩
                      have HCN : Hid (cntM mg xst (j + 1) = cn + 1) := by show _ = _; rw [cntM, if_pos ⟨hjf, hse⟩, hcn]
                      have HSS : Hid (jss = cn) := by show _ = _; rw [hjss, HC.out.ct.cn j hj, if_neg (by rw [hjf]; decide), hse, hcn]
                      have HSJ := (show Hid _ from hsj)
                      clear hjst hjss hjpp hjn hjf hcj hsj hcn hse hjs2 jst
                      by_cases hcq : cn = q
                      · subst hcq
                        have HSM : Hid (∀ V, Below wk.heap.size wk V → Calls Try.prog 15 #[.agg #[.int .u16 (xst : Nat), .int .u16 (jss : Nat), .int .u32 (jpp : Nat), .bool false, .slice ja jn jc], .agg #[.int .u16 (xst : Nat), .int .u16 (cn : Nat), .int .u32 (xpp : Nat), .bool false, .slice xa xn xc]] V fun e w' => e = .returned (.bool true) ∧ Below wk.heap.size wk w') := fun V hV => by
                          obtain ⟨l1, l2, l3, l4, l5⟩ := HLT.out
                          obtain ⟨y1, y2, y3, y4, y5, y6⟩ := HX.out
                          have hjx : j = x := HC.out.ct.F.uni j x hj y1 l5 y6 (by rw [← l1, y2]) (by rw [← l2, HSS.out, y3])
                          have hb1 : Below W1.heap.size W1 V := HBW1.out.trans (hV.mono HBW1.out.size)
                          have hbV : Below w.heap.size w V := HC.out.bel.trans (hb1.mono HC.out.bel.size)
                          have := samemsg_any (mg j) (mg x) ja xa jc xc V (HSJ.out.below hbV) (HSX.out V hV) (.agg #[.int .u16 (xst : Nat), .int .u16 (jss : Nat), .int .u32 (jpp : Nat), .bool false, .slice ja jn jc]) (.agg #[.int .u16 (xst : Nat), .int .u16 (cn : Nat), .int .u32 (xpp : Nat), .bool false, .slice xa xn xc]) (by unfold Mg.v; rw [← l1, ← l2, ← l3, ← l4, l5]) (by unfold Mg.v; rw [← y2, ← y3, ← y4, ← y5, y6])
                          rw [decide_eq_true (by rw [hjx])] at this
                          refine this.mono ?_
                          rintro e w' ⟨rfl, hb⟩
                          exact ⟨rfl, hV.trans (hb.mono hV.size)⟩
                        go_wp2_with fail
                        refine wp_region_fixW mixedX (fun V => Below wk.heap.size wk V) [(81, .slice (some ⟨mb, 0, none⟩) M mc), (82, .int .i64 (j : Nat)), (83, .pointer (some ⟨mb, j * 5, none⟩)), (84, .pointer (some ⟨mb, j * 5 + 3, none⟩)), (85, .bool false), (86, .bool false), (87, .slice (some ⟨mb, 0, none⟩) M mc), (88, .int .i64 (j : Nat)), (89, .pointer (some ⟨mb, j * 5, none⟩)), (90, .pointer (some ⟨mb, j * 5, none⟩)), (91, .int .u16 (xst : Nat)), (92, .slice (some ⟨tg, 0, none⟩) tn tc), (93, .int .i64 (k : Nat)), (94, .pointer (some ⟨tg, k * 5, none⟩)), (95, .pointer (some ⟨tg, k * 5, none⟩)), (96, .int .u16 (xst : Nat)), (97, .bool false), (98, .bool false)] ?Z2 ?hZ2 (by kernel_rfl) (by kernel_rfl) (by kernel_rfl) (by kernel_rfl) ?h02 ?hops2 ?he2
                        case hZ2 => simp only [List.foldl_cons, List.foldl_nil, List.setIfInBounds_toArray, List.set_cons_zero, List.set_cons_succ]; rfl
                        case h02 => exact HBW.out.drew
                        case hops2 =>
                          refine ⟨?_, ?_, ?_, ?_, ?_, ?_, ?_, ?_, ?_, ?_, ?_, ?_, ?_, ?_, ?_, ?_, ?_, ?_, trivial⟩
                          · exact fix_val (by rfl) (fun W hW => by have hc := HKC.out W hW; obtain ⟨d0, d1, d2, d3, d4, e0, e1, e2, e3, e4, q0⟩ := hc; go_simp; (try with_reducible rfl); (try omega))
                          · exact fix_val (by rfl) (fun W hW => by have hc := HKC.out W hW; obtain ⟨d0, d1, d2, d3, d4, e0, e1, e2, e3, e4, q0⟩ := hc; go_simp; (try with_reducible rfl); (try omega))
                          · exact fix_val (by rfl) (fun W hW => by have hc := HKC.out W hW; obtain ⟨d0, d1, d2, d3, d4, e0, e1, e2, e3, e4, q0⟩ := hc; go_simp; (try with_reducible rfl); (try omega))
                          · exact fix_val (by rfl) (fun W hW => by have hc := HKC.out W hW; obtain ⟨d0, d1, d2, d3, d4, e0, e1, e2, e3, e4, q0⟩ := hc; go_simp; (try with_reducible rfl); (try omega))
                          · exact fix_val (by rfl) (fun W hW => by have hc := HKC.out W hW; obtain ⟨d0, d1, d2, d3, d4, e0, e1, e2, e3, e4, q0⟩ := hc; go_simp; (try with_reducible rfl); (try omega))
                          · exact fix_val (by rfl) (fun W hW => by have hc := HKC.out W hW; obtain ⟨d0, d1, d2, d3, d4, e0, e1, e2, e3, e4, q0⟩ := hc; go_simp; (try with_reducible rfl); (try omega))
                          · exact fix_val (by rfl) (fun W hW => by have hc := HKC.out W hW; obtain ⟨d0, d1, d2, d3, d4, e0, e1, e2, e3, e4, q0⟩ := hc; go_simp; (try with_reducible rfl); (try omega))
                          · exact fix_val (by rfl) (fun W hW => by have hc := HKC.out W hW; obtain ⟨d0, d1, d2, d3, d4, e0, e1, e2, e3, e4, q0⟩ := hc; go_simp; (try with_reducible rfl); (try omega))
                          · exact fix_val (by rfl) (fun W hW => by have hc := HKC.out W hW; obtain ⟨d0, d1, d2, d3, d4, e0, e1, e2, e3, e4, q0⟩ := hc; go_simp; (try with_reducible rfl); (try omega))
                          · exact fix_val (by rfl) (fun W hW => by have hc := HKC.out W hW; obtain ⟨d0, d1, d2, d3, d4, e0, e1, e2, e3, e4, q0⟩ := hc; go_simp; (try with_reducible rfl); (try omega))
                          · exact fix_val (by rfl) (fun W hW => by have hc := HKC.out W hW; obtain ⟨d0, d1, d2, d3, d4, e0, e1, e2, e3, e4, q0⟩ := hc; go_simp; (try with_reducible rfl); (try omega))
                          · exact fix_val (by rfl) (fun W hW => by have hc := HKC.out W hW; obtain ⟨d0, d1, d2, d3, d4, e0, e1, e2, e3, e4, q0⟩ := hc; go_simp; (try with_reducible rfl); (try omega))
                          · exact fix_val (by rfl) (fun W hW => by have hc := HKC.out W hW; obtain ⟨d0, d1, d2, d3, d4, e0, e1, e2, e3, e4, q0⟩ := hc; go_simp; (try with_reducible rfl); (try omega))
                          · exact fix_val (by rfl) (fun W hW => by have hc := HKC.out W hW; obtain ⟨d0, d1, d2, d3, d4, e0, e1, e2, e3, e4, q0⟩ := hc; go_simp; (try with_reducible rfl); (try omega))
                          · exact fix_val (by rfl) (fun W hW => by have hc := HKC.out W hW; obtain ⟨d0, d1, d2, d3, d4, e0, e1, e2, e3, e4, q0⟩ := hc; go_simp; (try with_reducible rfl); (try omega))
                          · exact fix_val (by rfl) (fun W hW => by have hc := HKC.out W hW; obtain ⟨d0, d1, d2, d3, d4, e0, e1, e2, e3, e4, q0⟩ := hc; go_simp; (try with_reducible rfl); (try omega))
                          · exact fix_val (by rfl) (fun W hW => by have hc := HKC.out W hW; obtain ⟨d0, d1, d2, d3, d4, e0, e1, e2, e3, e4, q0⟩ := hc; go_simp; (try with_reducible rfl); (try omega))
                          · exact fix_val (by rfl) (fun W hW => by have hc := HKC.out W hW; obtain ⟨d0, d1, d2, d3, d4, e0, e1, e2, e3, e4, q0⟩ := hc; go_simp; (try with_reducible rfl); (try omega))
                        case he2 =>
                        intro V hV
                        have HBV := (show Hid _ from hV)
                        clear hV
                        go_wp2_with fail
                        refine wp_region_fixW mixedX (fun V => Below wk.heap.size wk V) [(99, .int .i64 (cn : Nat)), (100, .slice (some ⟨tg, 0, none⟩) tn tc), (101, .int .i64 (k : Nat)), (102, .pointer (some ⟨tg, k * 5, none⟩)), (103, .pointer (some ⟨tg, k * 5, none⟩)), (104, .int .u16 (xst : Nat)), (105, .pointer (some ⟨(W1.heap.size + 4), xst, none⟩)), (106, .int .i64 (cn : Nat)), (107, .bool true), (108, .bool true), (109, .slice (some ⟨mb, 0, none⟩) M mc), (110, .int .i64 (j : Nat)), (111, .pointer (some ⟨mb, j * 5, none⟩)), (112, .agg #[.int .u16 (xst : Nat), .int .u16 (jss : Nat), .int .u32 (jpp : Nat), .bool false, .slice ja jn jc]), (113, .slice (some ⟨tg, 0, none⟩) tn tc), (114, .int .i64 (k : Nat)), (115, .pointer (some ⟨tg, k * 5, none⟩)), (116, .agg #[.int .u16 (xst : Nat), .int .u16 (cn : Nat), .int .u32 (xpp : Nat), .bool false, .slice xa xn xc]), (117, .bool true), (118, .bool false), (119, .bool false)] ?Z3 ?hZ3 (by kernel_rfl) (by kernel_rfl) (by kernel_rfl) (by kernel_rfl) ?h03 ?hops3 ?he3
                        case hZ3 => simp only [List.foldl_cons, List.foldl_nil, List.setIfInBounds_toArray, List.set_cons_zero, List.set_cons_succ]; rfl
                        case h03 => exact HBV.out.drew
                        case hops3 =>
                          refine ⟨?_, ?_, ?_, ?_, ?_, ?_, ?_, ?_, ?_, ?_, ?_, ?_, ?_, ?_, ?_, ?_, ?_, ?_, ?_, ?_, ?_, trivial⟩
                          · exact fix_val (by rfl) (fun W hW => by have hc := HKC.out W hW; obtain ⟨d0, d1, d2, d3, d4, e0, e1, e2, e3, e4, q0⟩ := hc; go_simp; (try with_reducible rfl); (try omega))
                          · exact fix_val (by rfl) (fun W hW => by have hc := HKC.out W hW; obtain ⟨d0, d1, d2, d3, d4, e0, e1, e2, e3, e4, q0⟩ := hc; go_simp; (try with_reducible rfl); (try omega))
                          · exact fix_val (by rfl) (fun W hW => by have hc := HKC.out W hW; obtain ⟨d0, d1, d2, d3, d4, e0, e1, e2, e3, e4, q0⟩ := hc; go_simp; (try with_reducible rfl); (try omega))
                          · exact fix_val (by rfl) (fun W hW => by have hc := HKC.out W hW; obtain ⟨d0, d1, d2, d3, d4, e0, e1, e2, e3, e4, q0⟩ := hc; go_simp; (try with_reducible rfl); (try omega))
                          · exact fix_val (by rfl) (fun W hW => by have hc := HKC.out W hW; obtain ⟨d0, d1, d2, d3, d4, e0, e1, e2, e3, e4, q0⟩ := hc; go_simp; (try with_reducible rfl); (try omega))
                          · exact fix_val (by rfl) (fun W hW => by have hc := HKC.out W hW; obtain ⟨d0, d1, d2, d3, d4, e0, e1, e2, e3, e4, q0⟩ := hc; go_simp; (try with_reducible rfl); (try omega))
                          · exact fix_val (by rfl) (fun W hW => by have hc := HKC.out W hW; obtain ⟨d0, d1, d2, d3, d4, e0, e1, e2, e3, e4, q0⟩ := hc; go_simp; (try with_reducible rfl); (try omega))
                          · exact fix_val (by rfl) (fun W hW => by have hc := HKC.out W hW; obtain ⟨d0, d1, d2, d3, d4, e0, e1, e2, e3, e4, q0⟩ := hc; go_simp; (try with_reducible rfl); (try omega))
                          · exact fix_val (by rfl) (fun W hW => by have hc := HKC.out W hW; obtain ⟨d0, d1, d2, d3, d4, e0, e1, e2, e3, e4, q0⟩ := hc; go_simp; (try with_reducible rfl); (try omega))
                          · exact fix_val (by rfl) (fun W hW => by have hc := HKC.out W hW; obtain ⟨d0, d1, d2, d3, d4, e0, e1, e2, e3, e4, q0⟩ := hc; go_simp; (try with_reducible rfl); (try omega))
                          · exact fix_val (by rfl) (fun W hW => by have hc := HKC.out W hW; obtain ⟨d0, d1, d2, d3, d4, e0, e1, e2, e3, e4, q0⟩ := hc; go_simp; (try with_reducible rfl); (try omega))
                          · exact fix_val (by rfl) (fun W hW => by have hc := HKC.out W hW; obtain ⟨d0, d1, d2, d3, d4, e0, e1, e2, e3, e4, q0⟩ := hc; go_simp; (try with_reducible rfl); (try omega))
                          · exact fix_val (by rfl) (fun W hW => by have hc := HKC.out W hW; obtain ⟨d0, d1, d2, d3, d4, e0, e1, e2, e3, e4, q0⟩ := hc; go_simp; (try with_reducible rfl); (try omega))
                          · exact fix_val (by rfl) (fun W hW => by have hc := HKC.out W hW; obtain ⟨d0, d1, d2, d3, d4, e0, e1, e2, e3, e4, q0⟩ := hc; go_simp; (try with_reducible rfl); (try omega))
                          · exact fix_val (by rfl) (fun W hW => by have hc := HKC.out W hW; obtain ⟨d0, d1, d2, d3, d4, e0, e1, e2, e3, e4, q0⟩ := hc; go_simp; (try with_reducible rfl); (try omega))
                          · exact fix_val (by rfl) (fun W hW => by have hc := HKC.out W hW; obtain ⟨d0, d1, d2, d3, d4, e0, e1, e2, e3, e4, q0⟩ := hc; go_simp; (try with_reducible rfl); (try omega))
                          · exact fix_val (by rfl) (fun W hW => by have hc := HKC.out W hW; obtain ⟨d0, d1, d2, d3, d4, e0, e1, e2, e3, e4, q0⟩ := hc; go_simp; (try with_reducible rfl); (try omega))
                          · exact fix_val (by rfl) (fun W hW => by have hc := HKC.out W hW; obtain ⟨d0, d1, d2, d3, d4, e0, e1, e2, e3, e4, q0⟩ := hc; go_simp; (try with_reducible rfl); (try omega))
                          · exact fix_call (vs := [.agg #[.int .u16 (xst : Nat), .int .u16 (jss : Nat), .int .u32 (jpp : Nat), .bool false, .slice ja jn jc], .agg #[.int .u16 (xst : Nat), .int .u16 (cn : Nat), .int .u32 (xpp : Nat), .bool false, .slice xa xn xc]]) (by rfl) rfl (by rfl) Try.func15 (by rfl) (by rfl) (fun W hW => by exact HSM.out W hW)
                          · exact fix_val (by rfl) (fun W hW => by have hc := HKC.out W hW; obtain ⟨d0, d1, d2, d3, d4, e0, e1, e2, e3, e4, q0⟩ := hc; go_simp; (try with_reducible rfl); (try omega))
                          · exact fix_val (by rfl) (fun W hW => by have hc := HKC.out W hW; obtain ⟨d0, d1, d2, d3, d4, e0, e1, e2, e3, e4, q0⟩ := hc; go_simp; (try with_reducible rfl); (try omega))
                        case he3 =>
                        intro V2 hV
                        have HV := (show Hid _ from hV)
                        clear hV HKC HSM
                        go_wp2
                        go_roundw
                        case rel => exact ⟨j + 1, by omega, congrArg (Value.int .i64) (by have := HCN.out; omega), by go_num, HV.out⟩
                        case measure => simp [intOf]; omega
                      · have hcq1 : ¬ (cn : Int) = (q : Int) := by omega
                        go_wp2_with fail
                        refine wp_region_fixW mixedX (fun V => Below wk.heap.size wk V) [(81, .slice (some ⟨mb, 0, none⟩) M mc), (82, .int .i64 (j : Nat)), (83, .pointer (some ⟨mb, j * 5, none⟩)), (84, .pointer (some ⟨mb, j * 5 + 3, none⟩)), (85, .bool false), (86, .bool false), (87, .slice (some ⟨mb, 0, none⟩) M mc), (88, .int .i64 (j : Nat)), (89, .pointer (some ⟨mb, j * 5, none⟩)), (90, .pointer (some ⟨mb, j * 5, none⟩)), (91, .int .u16 (xst : Nat)), (92, .slice (some ⟨tg, 0, none⟩) tn tc), (93, .int .i64 (k : Nat)), (94, .pointer (some ⟨tg, k * 5, none⟩)), (95, .pointer (some ⟨tg, k * 5, none⟩)), (96, .int .u16 (xst : Nat)), (97, .bool false), (98, .bool false)] ?Z4 ?hZ4 (by kernel_rfl) (by kernel_rfl) (by kernel_rfl) (by kernel_rfl) ?h04 ?hops4 ?he4
                        case hZ4 => simp only [List.foldl_cons, List.foldl_nil, List.setIfInBounds_toArray, List.set_cons_zero, List.set_cons_succ]; rfl
                        case h04 => exact HBW.out.drew
                        case hops4 =>
                          refine ⟨?_, ?_, ?_, ?_, ?_, ?_, ?_, ?_, ?_, ?_, ?_, ?_, ?_, ?_, ?_, ?_, ?_, ?_, trivial⟩
                          · exact fix_val (by rfl) (fun W hW => by have hc := HKC.out W hW; obtain ⟨d0, d1, d2, d3, d4, e0, e1, e2, e3, e4, q0⟩ := hc; go_simp; (try with_reducible rfl); (try omega))
                          · exact fix_val (by rfl) (fun W hW => by have hc := HKC.out W hW; obtain ⟨d0, d1, d2, d3, d4, e0, e1, e2, e3, e4, q0⟩ := hc; go_simp; (try with_reducible rfl); (try omega))
                          · exact fix_val (by rfl) (fun W hW => by have hc := HKC.out W hW; obtain ⟨d0, d1, d2, d3, d4, e0, e1, e2, e3, e4, q0⟩ := hc; go_simp; (try with_reducible rfl); (try omega))
                          · exact fix_val (by rfl) (fun W hW => by have hc := HKC.out W hW; obtain ⟨d0, d1, d2, d3, d4, e0, e1, e2, e3, e4, q0⟩ := hc; go_simp; (try with_reducible rfl); (try omega))
                          · exact fix_val (by rfl) (fun W hW => by have hc := HKC.out W hW; obtain ⟨d0, d1, d2, d3, d4, e0, e1, e2, e3, e4, q0⟩ := hc; go_simp; (try with_reducible rfl); (try omega))
                          · exact fix_val (by rfl) (fun W hW => by have hc := HKC.out W hW; obtain ⟨d0, d1, d2, d3, d4, e0, e1, e2, e3, e4, q0⟩ := hc; go_simp; (try with_reducible rfl); (try omega))
                          · exact fix_val (by rfl) (fun W hW => by have hc := HKC.out W hW; obtain ⟨d0, d1, d2, d3, d4, e0, e1, e2, e3, e4, q0⟩ := hc; go_simp; (try with_reducible rfl); (try omega))
                          · exact fix_val (by rfl) (fun W hW => by have hc := HKC.out W hW; obtain ⟨d0, d1, d2, d3, d4, e0, e1, e2, e3, e4, q0⟩ := hc; go_simp; (try with_reducible rfl); (try omega))
                          · exact fix_val (by rfl) (fun W hW => by have hc := HKC.out W hW; obtain ⟨d0, d1, d2, d3, d4, e0, e1, e2, e3, e4, q0⟩ := hc; go_simp; (try with_reducible rfl); (try omega))
                          · exact fix_val (by rfl) (fun W hW => by have hc := HKC.out W hW; obtain ⟨d0, d1, d2, d3, d4, e0, e1, e2, e3, e4, q0⟩ := hc; go_simp; (try with_reducible rfl); (try omega))
                          · exact fix_val (by rfl) (fun W hW => by have hc := HKC.out W hW; obtain ⟨d0, d1, d2, d3, d4, e0, e1, e2, e3, e4, q0⟩ := hc; go_simp; (try with_reducible rfl); (try omega))
                          · exact fix_val (by rfl) (fun W hW => by have hc := HKC.out W hW; obtain ⟨d0, d1, d2, d3, d4, e0, e1, e2, e3, e4, q0⟩ := hc; go_simp; (try with_reducible rfl); (try omega))
                          · exact fix_val (by rfl) (fun W hW => by have hc := HKC.out W hW; obtain ⟨d0, d1, d2, d3, d4, e0, e1, e2, e3, e4, q0⟩ := hc; go_simp; (try with_reducible rfl); (try omega))
                          · exact fix_val (by rfl) (fun W hW => by have hc := HKC.out W hW; obtain ⟨d0, d1, d2, d3, d4, e0, e1, e2, e3, e4, q0⟩ := hc; go_simp; (try with_reducible rfl); (try omega))
                          · exact fix_val (by rfl) (fun W hW => by have hc := HKC.out W hW; obtain ⟨d0, d1, d2, d3, d4, e0, e1, e2, e3, e4, q0⟩ := hc; go_simp; (try with_reducible rfl); (try omega))
                          · exact fix_val (by rfl) (fun W hW => by have hc := HKC.out W hW; obtain ⟨d0, d1, d2, d3, d4, e0, e1, e2, e3, e4, q0⟩ := hc; go_simp; (try with_reducible rfl); (try omega))
                          · exact fix_val (by rfl) (fun W hW => by have hc := HKC.out W hW; obtain ⟨d0, d1, d2, d3, d4, e0, e1, e2, e3, e4, q0⟩ := hc; go_simp; (try with_reducible rfl); (try omega))
                          · exact fix_val (by rfl) (fun W hW => by have hc := HKC.out W hW; obtain ⟨d0, d1, d2, d3, d4, e0, e1, e2, e3, e4, q0⟩ := hc; go_simp; (try with_reducible rfl); (try omega))
                        case he4 =>
                        intro V hV
                        have HBV := (show Hid _ from hV)
                        clear hV
                        go_wp2_with fail
                        refine wp_region_fixW mixedX (fun V => Below wk.heap.size wk V) [(99, .int .i64 (cn : Nat)), (100, .slice (some ⟨tg, 0, none⟩) tn tc), (101, .int .i64 (k : Nat)), (102, .pointer (some ⟨tg, k * 5, none⟩)), (103, .pointer (some ⟨tg, k * 5, none⟩)), (104, .int .u16 (xst : Nat)), (105, .pointer (some ⟨(W1.heap.size + 4), xst, none⟩)), (106, .int .i64 (q : Nat)), (107, .bool false), (108, .bool false), (109, undef), (110, undef), (111, undef), (112, undef), (113, undef), (114, undef), (115, undef), (116, undef), (117, undef), (118, undef), (119, .bool false)] ?Z5 ?hZ5 (by kernel_rfl) (by kernel_rfl) (by kernel_rfl) (by kernel_rfl) ?h05 ?hops5 ?he5
                        case hZ5 => simp only [List.foldl_cons, List.foldl_nil, List.setIfInBounds_toArray, List.set_cons_zero, List.set_cons_succ]; rfl
                        case h05 => exact HBV.out.drew
                        case hops5 =>
                          refine ⟨?_, ?_, ?_, ?_, ?_, ?_, ?_, ?_, ?_, ?_, ?_, ?_, ?_, ?_, ?_, ?_, ?_, ?_, ?_, ?_, ?_, trivial⟩
                          · exact fix_val (by rfl) (fun W hW => by have hc := HKC.out W hW; obtain ⟨d0, d1, d2, d3, d4, e0, e1, e2, e3, e4, q0⟩ := hc; go_simp; (try with_reducible rfl); (try omega))
                          · exact fix_val (by rfl) (fun W hW => by have hc := HKC.out W hW; obtain ⟨d0, d1, d2, d3, d4, e0, e1, e2, e3, e4, q0⟩ := hc; go_simp; (try with_reducible rfl); (try omega))
                          · exact fix_val (by rfl) (fun W hW => by have hc := HKC.out W hW; obtain ⟨d0, d1, d2, d3, d4, e0, e1, e2, e3, e4, q0⟩ := hc; go_simp; (try with_reducible rfl); (try omega))
                          · exact fix_val (by rfl) (fun W hW => by have hc := HKC.out W hW; obtain ⟨d0, d1, d2, d3, d4, e0, e1, e2, e3, e4, q0⟩ := hc; go_simp; (try with_reducible rfl); (try omega))
                          · exact fix_val (by rfl) (fun W hW => by have hc := HKC.out W hW; obtain ⟨d0, d1, d2, d3, d4, e0, e1, e2, e3, e4, q0⟩ := hc; go_simp; (try with_reducible rfl); (try omega))
                          · exact fix_val (by rfl) (fun W hW => by have hc := HKC.out W hW; obtain ⟨d0, d1, d2, d3, d4, e0, e1, e2, e3, e4, q0⟩ := hc; go_simp; (try with_reducible rfl); (try omega))
                          · exact fix_val (by rfl) (fun W hW => by have hc := HKC.out W hW; obtain ⟨d0, d1, d2, d3, d4, e0, e1, e2, e3, e4, q0⟩ := hc; go_simp; (try with_reducible rfl); (try omega))
                          · exact fix_val (by rfl) (fun W hW => by have hc := HKC.out W hW; obtain ⟨d0, d1, d2, d3, d4, e0, e1, e2, e3, e4, q0⟩ := hc; go_simp; (try with_reducible rfl); (try omega))
                          · exact fix_val (by rfl) (fun W hW => by have hc := HKC.out W hW; obtain ⟨d0, d1, d2, d3, d4, e0, e1, e2, e3, e4, q0⟩ := hc; go_simp; (try with_reducible rfl); (try omega))
                          · exact fix_val (by rfl) (fun W hW => by have hc := HKC.out W hW; obtain ⟨d0, d1, d2, d3, d4, e0, e1, e2, e3, e4, q0⟩ := hc; go_simp; (try with_reducible rfl); (try omega))
                          · exact fix_off (by rfl) (fun d hd => by cases hd; rfl)
                          · exact fix_off (by rfl) (fun d hd => by cases hd; rfl)
                          · exact fix_off (by rfl) (fun d hd => by cases hd; rfl)
                          · exact fix_off (by rfl) (fun d hd => by cases hd; rfl)
                          · exact fix_off (by rfl) (fun d hd => by cases hd; rfl)
                          · exact fix_off (by rfl) (fun d hd => by cases hd; rfl)
                          · exact fix_off (by rfl) (fun d hd => by cases hd; rfl)
                          · exact fix_off (by rfl) (fun d hd => by cases hd; rfl)
                          · exact fix_off (by rfl) (fun d hd => by cases hd; rfl)
                          · exact fix_off (by rfl) (fun d hd => by cases hd; rfl)
                          · exact fix_val (by rfl) (fun W hW => by have hc := HKC.out W hW; obtain ⟨d0, d1, d2, d3, d4, e0, e1, e2, e3, e4, q0⟩ := hc; go_simp; (try with_reducible rfl); (try omega))
                        case he5 =>
                        intro V2 hV
                        have HV := (show Hid _ from hV)
                        clear hV HKC
                        go_wp2
                        go_roundw
                        case rel => exact ⟨j + 1, by omega, congrArg (Value.int .i64) (by have := HCN.out; omega), by go_num, HV.out⟩
                        case measure => simp [intOf]; omega
                    · have hse1 : ¬ (jst : Int) = (xst : Int) := by rw [hjst]; omega
                      have HLT : Hid (jst = (mg j).st ∧ jss = (mg j).ss ∧ jpp = (mg j).pp ∧ jn = (mg j).zs.length ∧ (mg j).fr = false) := ⟨hjst, hjss, hjpp, hjn, hjf⟩
                      have HKC : Hid (∀ V, Below wk.heap.size wk V → V.cell? ⟨mb, j * 5, none⟩ = some (.int .u16 (jst : Nat)) ∧ V.cell? ⟨mb, j * 5 + 1, none⟩ = some (.int .u16 (jss : Nat)) ∧ V.cell? ⟨mb, j * 5 + 2, none⟩ = some (.int .u32 (jpp : Nat)) ∧ V.cell? ⟨mb, j * 5 + 3, none⟩ = some (.bool false) ∧ V.cell? ⟨mb, j * 5 + 4, none⟩ = some (.slice ja jn jc) ∧ V.cell? ⟨tg, k * 5, none⟩ = some (.int .u16 (xst : Nat)) ∧ V.cell? ⟨tg, k * 5 + 1, none⟩ = some (.int .u16 (q : Nat)) ∧ V.cell? ⟨tg, k * 5 + 2, none⟩ = some (.int .u32 (xpp : Nat)) ∧ V.cell? ⟨tg, k * 5 + 3, none⟩ = some (.bool false) ∧ V.cell? ⟨tg, k * 5 + 4, none⟩ = some (.slice xa xn xc) ∧ V.cell? ⟨W1.heap.size + 4, xst, none⟩ = some (.int .i64 (q : Nat))) := fun V hV => by
                        have hb1 : Below W1.heap.size W1 V := HBW1.out.trans (hV.mono HBW1.out.size)
                        have hc := fun i' u hu => (hb1.cell (p := ⟨mb, j * 5 + i', none⟩) hmb2).trans (hcj i' u hu)
                        obtain ⟨l1, l2, l3, l4, l5⟩ := HLT.out
                        have c0 := hc 0 _ rfl
                        have c1 := hc 1 _ rfl
                        have c2 := hc 2 _ rfl
                        have c3 := hc 3 _ rfl
                        have c4 := hc 4 _ rfl
                        rw [Nat.add_zero, ← l1] at c0
                        rw [← l2] at c1
                        rw [← l3] at c2
                        rw [l5] at c3
                        rw [← l4] at c4
                        obtain ⟨x0, x1, x2, x3, x4, x5⟩ := HE.out V hV
                        exact ⟨c0, c1, c2, c3, c4, x0, x1, x2, x3, x4, x5⟩
                      have HCN : Hid (cntM mg xst (j + 1) = cn) := by show _ = _; rw [cntM, if_neg (by rintro ⟨_, e⟩; exact hse e), hcn]; rfl
                      clear hjst hjss hjpp hjn hjf hcj hsj hcn hse
                      go_wp2_with fail
                      refine wp_region_fixW mixedX (fun V => Below wk.heap.size wk V) [(81, .slice (some ⟨mb, 0, none⟩) M mc), (82, .int .i64 (j : Nat)), (83, .pointer (some ⟨mb, j * 5, none⟩)), (84, .pointer (some ⟨mb, j * 5 + 3, none⟩)), (85, .bool false), (86, .bool false), (87, .slice (some ⟨mb, 0, none⟩) M mc), (88, .int .i64 (j : Nat)), (89, .pointer (some ⟨mb, j * 5, none⟩)), (90, .pointer (some ⟨mb, j * 5, none⟩)), (91, .int .u16 (jst : Nat)), (92, .slice (some ⟨tg, 0, none⟩) tn tc), (93, .int .i64 (k : Nat)), (94, .pointer (some ⟨tg, k * 5, none⟩)), (95, .pointer (some ⟨tg, k * 5, none⟩)), (96, .int .u16 (xst : Nat)), (97, .bool true), (98, .bool true)] ?Z6 ?hZ6 (by kernel_rfl) (by kernel_rfl) (by kernel_rfl) (by kernel_rfl) ?h06 ?hops6 ?he6
                      case hZ6 => simp only [List.foldl_cons, List.foldl_nil, List.setIfInBounds_toArray, List.set_cons_zero, List.set_cons_succ]; rfl
                      case h06 => exact HBW.out.drew
                      case hops6 =>
                        refine ⟨?_, ?_, ?_, ?_, ?_, ?_, ?_, ?_, ?_, ?_, ?_, ?_, ?_, ?_, ?_, ?_, ?_, ?_, trivial⟩
                        · exact fix_val (by rfl) (fun W hW => by have hc := HKC.out W hW; obtain ⟨d0, d1, d2, d3, d4, e0, e1, e2, e3, e4, q0⟩ := hc; go_simp; (try with_reducible rfl); (try omega))
                        · exact fix_val (by rfl) (fun W hW => by have hc := HKC.out W hW; obtain ⟨d0, d1, d2, d3, d4, e0, e1, e2, e3, e4, q0⟩ := hc; go_simp; (try with_reducible rfl); (try omega))
                        · exact fix_val (by rfl) (fun W hW => by have hc := HKC.out W hW; obtain ⟨d0, d1, d2, d3, d4, e0, e1, e2, e3, e4, q0⟩ := hc; go_simp; (try with_reducible rfl); (try omega))
                        · exact fix_val (by rfl) (fun W hW => by have hc := HKC.out W hW; obtain ⟨d0, d1, d2, d3, d4, e0, e1, e2, e3, e4, q0⟩ := hc; go_simp; (try with_reducible rfl); (try omega))
                        · exact fix_val (by rfl) (fun W hW => by have hc := HKC.out W hW; obtain ⟨d0, d1, d2, d3, d4, e0, e1, e2, e3, e4, q0⟩ := hc; go_simp; (try with_reducible rfl); (try omega))
                        · exact fix_val (by rfl) (fun W hW => by have hc := HKC.out W hW; obtain ⟨d0, d1, d2, d3, d4, e0, e1, e2, e3, e4, q0⟩ := hc; go_simp; (try with_reducible rfl); (try omega))
                        · exact fix_val (by rfl) (fun W hW => by have hc := HKC.out W hW; obtain ⟨d0, d1, d2, d3, d4, e0, e1, e2, e3, e4, q0⟩ := hc; go_simp; (try with_reducible rfl); (try omega))
                        · exact fix_val (by rfl) (fun W hW => by have hc := HKC.out W hW; obtain ⟨d0, d1, d2, d3, d4, e0, e1, e2, e3, e4, q0⟩ := hc; go_simp; (try with_reducible rfl); (try omega))
                        · exact fix_val (by rfl) (fun W hW => by have hc := HKC.out W hW; obtain ⟨d0, d1, d2, d3, d4, e0, e1, e2, e3, e4, q0⟩ := hc; go_simp; (try with_reducible rfl); (try omega))
                        · exact fix_val (by rfl) (fun W hW => by have hc := HKC.out W hW; obtain ⟨d0, d1, d2, d3, d4, e0, e1, e2, e3, e4, q0⟩ := hc; go_simp; (try with_reducible rfl); (try omega))
                        · exact fix_val (by rfl) (fun W hW => by have hc := HKC.out W hW; obtain ⟨d0, d1, d2, d3, d4, e0, e1, e2, e3, e4, q0⟩ := hc; go_simp; (try with_reducible rfl); (try omega))
                        · exact fix_val (by rfl) (fun W hW => by have hc := HKC.out W hW; obtain ⟨d0, d1, d2, d3, d4, e0, e1, e2, e3, e4, q0⟩ := hc; go_simp; (try with_reducible rfl); (try omega))
                        · exact fix_val (by rfl) (fun W hW => by have hc := HKC.out W hW; obtain ⟨d0, d1, d2, d3, d4, e0, e1, e2, e3, e4, q0⟩ := hc; go_simp; (try with_reducible rfl); (try omega))
                        · exact fix_val (by rfl) (fun W hW => by have hc := HKC.out W hW; obtain ⟨d0, d1, d2, d3, d4, e0, e1, e2, e3, e4, q0⟩ := hc; go_simp; (try with_reducible rfl); (try omega))
                        · exact fix_val (by rfl) (fun W hW => by have hc := HKC.out W hW; obtain ⟨d0, d1, d2, d3, d4, e0, e1, e2, e3, e4, q0⟩ := hc; go_simp; (try with_reducible rfl); (try omega))
                        · exact fix_val (by rfl) (fun W hW => by have hc := HKC.out W hW; obtain ⟨d0, d1, d2, d3, d4, e0, e1, e2, e3, e4, q0⟩ := hc; go_simp; (try with_reducible rfl); (try omega))
                        · exact fix_val (by rfl) (fun W hW => by have hc := HKC.out W hW; obtain ⟨d0, d1, d2, d3, d4, e0, e1, e2, e3, e4, q0⟩ := hc; go_simp; (try with_reducible rfl); (try omega))
                        · exact fix_val (by rfl) (fun W hW => by have hc := HKC.out W hW; obtain ⟨d0, d1, d2, d3, d4, e0, e1, e2, e3, e4, q0⟩ := hc; go_simp; (try with_reducible rfl); (try omega))
                      case he6 =>
                      intro V hV
                      have HV := (show Hid _ from hV)
                      clear hV HKC
                      go_wp2
                      go_roundw
                      case rel => exact ⟨j + 1, by omega, congrArg (Value.int .i64) (by have := HCN.out; omega), by go_num, HV.out⟩
                      case measure => simp [intOf]; omega
                · have hj1 : ¬ (j : Int) < (M : Int) := by omega
                  have HN := (show Hid _ from HNEXT.out wr HBW.out)
                  obtain ⟨e0, _, _, _, _, q0⟩ := HE.out wr HBW.out
                  have q0f2 : wr.frozen? ⟨W1.heap.size + 4, xst, none⟩ = false := ((Fr.of_below (P := fun _ => False) HBW.out).frozen ⟨W1.heap.size + 4, xst, none⟩ hXB (fun e => e)).trans q0f
                  go_wp2
                  go_roundw
                  case rel => exact ⟨k + 1, by omega, by go_num, HN.out⟩
                  case measure => simp [intOf]; omega
          · have hk1 : ¬ (k : Int) < (tn : Int) := by omega
            have HN : Hid (PfS W1 M N (i + 1) mg o pd f (I ++ J) (I ++ J) wr) := by
              have e : J.take k = J := List.take_of_length_le (by have := HTN.out; omega)
              have := HF.out.1
              rw [e] at this
              exact this
            clear HF hms
            go_wp2
            go_roundw
            case rel => exact ⟨i + 1, I ++ J, by omega, by go_num, HN.out⟩
            case measure => simp [intOf]; omega
      · have hci1 : ¬ (i : Int) < (cm : Int) := by omega
        go_wp2_with fail
        refine Calls.mono (live13_any wr) ?_
        rintro e w5 ⟨rfl, hb5⟩
        have HF5 : Hid (Below w.heap.size w w5) := (HC.out.bel.trans (HF.out.od.bel.mono HC.out.bel.size)).trans (hb5.mono (Nat.le_trans HC.out.bel.size HF.out.od.bel.size))
        clear HF hb5
        go_wp2
        go_ret
        exact ⟨rfl, HF5.out⟩
    · have hlt1 : ¬ (i : Int) < (N : Int) := by omega
      go_wp2_with fail
      refine Calls.mono (live13_any wr) ?_
      rintro e w5 ⟨rfl, hb5⟩
      have HF5 : Hid (Below w.heap.size w w5) := (HC.out.bel.trans (HF.out.od.bel.mono HC.out.bel.size)).trans (hb5.mono (Nat.le_trans HC.out.bel.size HF.out.od.bel.size))
      clear HF hb5
      go_wp2
      go_ret
      exact ⟨rfl, HF5.out⟩
end Go.Proofs.Ytjaheelgcjafcaa
namespace Go.Proofs.Ytjaheelgcjafcaa.streamsPrefix
open Go.ChangeShapes Go.WideShapes Go.ChangeAt Go.RowKit
open Go.ChangeMaps (open_string shut_string)
set_option linter.unusedVariables false
theorem own : ownKnob Try.prog.godebug = none := by kernel_rfl
theorem laidOut : laidOutB Try.prog = true := by kernel_rfl
theorem bytes_uint8 : Try.prog.bytesOf 5 = 1 := by kernel_rfl

set_option maxRecDepth 100000 in
theorem lifted (os : Os) (started : os.Started) (H : Type) (enc : TypeId × Value → H) :
    ReturnsInHanded {} Try.checked os 5 .any (Rows.streamsPrefixSpec.pre6 enc Try.prog Try.f5 Rows.streamsPrefixRow.domain false) (Rows.streamsPrefixSpec.post enc Try.prog Try.f5 false true false false) := by
  refine returnsInHanded_of_change_sized (C := Try.checked) own started (by kernel_rfl) Try.func5
    (ChangeSpec.witness6 (enc := enc) (C := Try.checked) false ⟨#[], #[.slice none 0 0, .slice none 0 0, .int .u8 0], []⟩ 8 (by kernel_rfl) (by kernel_rfl) (by kernel_rfl) (by kernel_rfl)) ?_
  intro W base args ds gs before hval0 hW hcnd hsz0 _
  have hval : ∀ (j : Nat) t v, Try.f5.params[j]? = some t → args[j]? = some v → Value.okWide Try.prog W .any base t v := hval0
  have hsz : (DataW.weightsEach Try.prog (Try.f5.params.toList ++ Rows.streamsPrefixSpec.plain.varTypes Try.prog) (ds ++ gs)).all (· ≤ reachBytes) = true := hsz0
  clear hsz0
  have hW' := hW
  obtain ⟨p, q, hA0, hV, rfl, hfz, hnd⟩ := hW
  have hA : DataW.TrodAll enc Try.prog W 0 (fun _ => true) true Try.f5.params.toList args.toList ds p := hA0
  rw [Try.params5] at hA hval hsz
  obtain ⟨v0, vs0, d0, ds0, p0, q0, hargs, rfl, rfl, h0, r0⟩ := trodAll_cons hA
  obtain ⟨v1, vs1, d1, ds1, p1, q1, rfl, rfl, rfl, h1, r1⟩ := trodAll_cons r0
  obtain ⟨v2, vs2, d2, ds2, p2, q2, rfl, rfl, rfl, h2, r2⟩ := trodAll_cons r1
  obtain ⟨rfl, rfl, rfl⟩ := trodAll_nil r2
  obtain rfl : args = #[v0, v1, v2] := by cases args; simp_all
  obtain ⟨rfl, rfl⟩ := trodVars_none hV
  obtain ⟨a0, len0, cap0, rfl⟩ := okWide_slice Try.underlying29 (hval 0 29 v0 rfl rfl)
  have k0 := h0
  have lt0 : ∀ x ∈ p0, x.block < W.heap.size := by obtain ⟨m, hm⟩ := k0; exact DataW.trod_lt m _ _ _ hm
  obtain ⟨z0, w0⟩ : ∃ dd, SlSe W a0 len0 cap0 dd := by
    clear k0 lt0
    obtain ⟨fuel, hf⟩ := h0
    exact SlSe.open hf (fun q hq => by
      have := List.all_eq_true.1 hsz q (DataW.weights_mem_each (j := 0) (t := 29) (d := d0) rfl rfl q hq)
      simpa using this)
  obtain ⟨a1, len1, cap1, rfl⟩ := okWide_slice Try.underlying31 (hval 1 31 v1 rfl rfl)
  have k1 := h1
  have lt1 : ∀ x ∈ p1, x.block < W.heap.size := by obtain ⟨m, hm⟩ := k1; exact DataW.trod_lt m _ _ _ hm
  obtain ⟨z1, w1⟩ : ∃ zs, SlK .u8 256 W a1 len1 cap1 zs ∧ cap1 * 1 ≤ 140737488351232 := by
    clear k1 lt1
    obtain ⟨fuel, hf⟩ := h1
    rcases open_ints Try.underlying31 Try.underlying5 (by kernel_rfl) hf with ⟨hcs, _⟩ | ⟨x, l, c, zs, hcs, _, hl, hm, hz, hx, hcell, hwz⟩
    · simp [Value.cells] at hcs
      obtain ⟨rfl, rfl, rfl⟩ := hcs
      exact ⟨[], SlK.nil _ _ _ (by omega), by omega⟩
    · simp [Value.cells] at hcs
      obtain ⟨rfl, rfl, rfl⟩ := hcs
      obtain ⟨rfl, rfl⟩ := Prod.mk.inj hx
      have hw := sized_slice hsz (j := 1) (t := 31) (e := 5) rfl rfl Try.underlying31
      have hz' : zs.length = cap1 := by simpa using hz
      rw [bytes_uint8] at hw
      simp only [lits, List.length_map, List.length_take, List.length_drop, reachBytes] at hw
      exact ⟨_, SlK.of_ints (by omega) (fun z hz => by have := bounds_u8 hz; omega) hl hm hz' (by omega) hcell hwz, by omega⟩
  obtain ⟨x2, rfl, rfl, rfl, w2⟩ := open_int Try.underlying5 (hval 2 5 v2 rfl rfl) h2
  obtain ⟨m2, rfl⟩ : ∃ m : Nat, x2 = (m : Int) := ⟨x2.toNat, by have := bounds_u8 w2; omega⟩
  have b2 : m2 < 256 := by have := bounds_u8 w2; omega
  clear hA0 hval0 hsz
  refine (walk_StreamsPrefix a0 len0 cap0 z0 a1 len1 cap1 z1 m2 W w0 w1.1 b2).mono fun e W' ⟨he, bel⟩ => ?_
  subst he
  exact ⟨_, rfl, _, _, _, [], _, [], hW', trodAll_mk1 (shut_bool Try.underlying4 _), (trodAll_cons_mk (Below.trod laidOut (by kernel_rfl) (of_decide_eq_true (by kernel_rfl)) k0 bel lt0) (trodAll_cons_mk (Below.trod laidOut (by kernel_rfl) (of_decide_eq_true (by kernel_rfl)) k1 bel lt1) (trodAll_cons_mk (shut_int Try.underlying5 w2) trodAll_mk0))), rfl, bel.frame _, fun h => by cases h⟩
theorem over : Rows.streamsPrefixRow.holds Try.pinned (OpenSpec.ofChange Rows.streamsPrefixSpec) :=
  OpenClaim.holds_of_wide 5 Try.f5 rfl rfl rfl rfl rfl rfl rfl ⟨rfl, rfl, rfl, rfl, rfl⟩ rfl rfl rfl rfl rfl (by kernel_rfl) Try.func5 (by kernel_rfl)
    (of_decide_eq_true (by kernel_rfl)) (by unfold Func.isWrapper; first | (rw [if_pos (by decide +kernel)]; kernel_rfl) | (rw [if_neg (by decide +kernel)]; exact ⟨rfl, rfl⟩))
    (fun os started H enc _ => lifted os started H enc)
end Go.Proofs.Ytjaheelgcjafcaa.streamsPrefix
namespace Go.Proofs.Ytjaheelgcjafcaa
theorem StreamsPrefix_holds : Rows.StreamsPrefixSaid := streamsPrefix.over
#print axioms StreamsPrefix_holds
end Go.Proofs.Ytjaheelgcjafcaa
