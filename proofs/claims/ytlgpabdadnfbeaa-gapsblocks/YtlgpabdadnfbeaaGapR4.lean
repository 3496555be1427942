/- The reference's tracker: Add of a number that is taken. -/
import Derived.Test.YtlgpabdadnfbeaaGapR3
namespace Go.Proofs.Ytlgpabdadnfbeaa
open Go.RowKit
def farLen (w : World) (p : Nat) : Nat := match w.cell? ⟨p, 1, none⟩ with | some (.slice _ n _) => n | _ => 0
set_option maxRecDepth 100000 in
set_option maxHeartbeats 8000000 in
theorem radd_ok (B p : Nat) (fb db : Option Nat) (cum : Nat) (S : Nat → Bool) (ds : List Nat) (t : Nat) (w : World) (h : RTk w B p fb db cum (farN S) ds) (ht : t < 4294967296) (hv : hasV cum S t = false) (hf : ¬ 256 < aheadV 4294967296 cum t) (hout : ∀ n, ¬ (1 ≤ n ∧ n ≤ 256) → S n = false) :
    Calls Try.prog 38 #[.pointer (some ⟨p, 0, none⟩), .int .u32 t] w fun e w' => e = .returned (.int .i64 0) ∧ ∃ fb', RTk w' B p fb' db (addC cum S t) (farN (addS cum S t)) ds ∧ Fr (fun k => k = p) w w' ∧ Fresh w fb fb' := by
  have ha := rahead32 cum t h.cumlt ht w
  have hh := fun W (hT : RTk W B p fb db cum (farN S) ds) => rhas_any B p fb db cum (farN S) ds t W hT ht
  have hv2 := hasV_mem cum S t
  rw [hv] at hv2
  change false = (decide (aheadV 4294967296 cum t ≤ 0) || anyV (farN S) (aheadV 4294967296 cum t)) at hv2
  rw [← hv2] at hh
  have hE0 : addE cum S t = 0 := by unfold addE; rw [hv, if_neg Bool.false_ne_true, if_neg hf]
  obtain ⟨m, hm, hm1, hm2, hSm⟩ : ∃ m : Nat, aheadV 4294967296 cum t = (m : Int) ∧ 1 ≤ m ∧ m ≤ 256 ∧ S m = false := by
    unfold hasV at hv
    generalize aheadV 4294967296 cum t = x at *
    have h1 : ¬ x ≤ 0 := fun e => by rw [decide_eq_true e, Bool.true_or] at hv; cases hv
    obtain ⟨m, rfl⟩ : ∃ m : Nat, x = (m : Int) := ⟨x.toNat, by omega⟩
    rw [decide_eq_false h1, Bool.false_or, decide_eq_true (by omega), Bool.true_and, Int.toNat_natCast] at hv
    exact ⟨m, rfl, by omega, by omega, hv⟩
  have HC : Hid (addC cum S t = (cum + lead (putS S m)) % 4294967296) := by show _ = _; unfold addC; rw [hE0, if_pos rfl, hm, Int.toNat_natCast]
  have HS : Hid (addS cum S t = onS (putS S m) (lead (putS S m))) := by show _ = _; unfold addS; rw [hE0, if_pos rfl, hm, Int.toNat_natCast]
  have HOUT : Hid (∀ n, 256 < n → putS S m n = false) := fun n hn => by unfold putS; rw [hout n (by omega), decide_eq_false (by omega)]; rfl
  have HP0 : Hid (putS S m 0 = false) := by show _ = _; unfold putS; rw [hout 0 (by omega), decide_eq_false (by omega)]; rfl
  have HCL : Hid (cum < 4294967296) := h.cumlt
  have hc0 := h.c0
  rw [hm] at ha hf
  obtain ⟨F, hF⟩ : ∃ F, F = farN S := ⟨_, rfl⟩
  rw [← hF] at h hh
  have HF := (show Hid _ from hF)
  have hFl : Hid (F.length ≤ 256) := by show _ ≤ _; rw [hF]; exact farN_len S
  clear hv hv2 hF hm hE0
  go_enter Try.func38, Try.ntmps38
  go_wp2_with fail
  refine ha.mono ?_
  rintro e w1 ⟨er, rfl, hb1⟩
  have h1 := h.below hb1
  clear hc0 ha
  go_wp2_with fail
  refine (hh _ h1).mono ?_
  rintro e w2 ⟨rfl, hb2⟩
  have h2 := h1.below hb2
  have hB2 : Below w.heap.size w w2 := hb1.trans (hb2.mono hb1.size)
  clear hh h1 hb1 hb2
  obtain ⟨a, n, c, hc1, hs, hfb⟩ := h2.far
  have hl := hs.len
  have hcap := hs.cap
  have hnz := hs.nz
  have hn256 : n ≤ 256 := by rw [← hl]; exact hFl.out
  have hE := own_emptyI w2
  have hlt2 := h2.lt
  go_wp2
  go_loopw [7, 8] (fun v i wr => ∃ (k : Nat) (a1 : Option Addr) (c1 : Nat), k ≤ n ∧ i = .int .i64 k ∧ v = .slice a1 k c1 ∧ OwnI wr w2.heap.size a1 k c1 (F.take k) ∧ Below w2.heap.size w2 wr ∧ ∀ j, j < k → F.getD j 0 < m) (fun _ i _ => n - (intOf i).toNat)
  case atStart => exact ⟨0, _, 0, by omega, rfl, rfl, hE, (Below.refl _ _).alloc (Nat.le_refl _) _, fun j hj => by omega⟩
  case round =>
    obtain ⟨k, a1, c1, hk, rfl, rfl, ho, hbel, hall⟩ := hrel
    clear hE
    have hcw := (hbel.cell (p := ⟨p, 1, none⟩) h2.lt).trans hc1
    by_cases hkn : k < n
    · rcases hs.at_ with h0 | ⟨g, off, rfl, hlt, hcell⟩
      · omega
      have hc := (hbel.cell (p := ⟨g, off + k, none⟩) hlt).trans (hcell k hkn)
      have hx := hs.bnd k
      have hk1 : (k : Int) < (n : Int) := by omega
      by_cases hltm : F.getD k 0 < m
      · have HA : Hid (∀ j, j < k + 1 → F.getD j 0 < m) := fun j hj => by
          by_cases e : j = k
          · subst e; exact hltm
          · exact hall j (by omega)
        have HTK : Hid (F.take (k + 1) = F.take k ++ [F.getD k 0]) := take_snocN F k (by omega)
        have hltm' : ((F.getD k 0 : Nat) : Int) < (m : Int) := by omega
        clear hcell hall
        generalize F.getD k 0 = x at *
        have hsz := hbel.size
        go_wp2_with (at_builtin; go_must (refine app_listI rfl _ _ rfl w2.heap.size a1 k c1 _ rfl (ho.alloc _) _ 1 1 [x] rfl (i64_oneB _ _ x hx _ rfl) (by omega) (by simp; omega) ?_))
        intro a4 c4 w4 ho4 hg4
        have hb4 : Below w2.heap.size w2 w4 := (hbel.alloc hsz _).trans ((ho.alloc _).up hg4 (by simp; omega))
        clear hg4 ho hbel hcw hc
        go_wp2
        go_roundw
        case rel => exact ⟨k + 1, a4, c4, by omega, by go_num, rfl, by rw [HTK.out]; exact ho4, hb4, HA.out⟩
        case measure => simp [intOf]; omega
      · have hge : k = n ∨ ¬ F.getD k 0 < m := .inr hltm
        have hltm' : ¬ ((F.getD k 0 : Nat) : Int) < (m : Int) := by omega
        clear hcell
        obtain ⟨y, hy⟩ : ∃ y, y = F.getD k 0 := ⟨_, rfl⟩
        rw [← hy] at hc hltm' hx
        clear hy hltm
        have hoq := ho
        have hbq := hbel
        clear ho hbel
        have hzq := hbq.size
        have hsq := hs.below hbq
        have hcwq := (hbq.cell (p := ⟨p, 1, none⟩) h2.lt).trans hc1
        have hfrq := (hbq.frozen (p := ⟨p, 1, none⟩) h2.lt).trans (h2.free 1)
        have HPUT : Hid (farN (putS S m) = F.take k ++ m :: F.drop k) := by
          show _ = _
          rw [HF.out]
          exact (farN_put S m k hm1 hm2 hSm (by rw [← HF.out]; exact hall) (by rw [← HF.out]; omega) (by rw [← HF.out]; exact hge.imp (fun e => by omega) id)).trans (by simp)
        obtain ⟨a', hrun, hdrop⟩ := slice_dropI _ n c k hk hcap hnz
        clear hge hall
        go_wp2_with (at_builtin; go_must (refine app_listI rfl _ _ rfl w2.heap.size a1 k c1 _ rfl (hoq.alloc _) _ 1 1 [m] rfl (i64_oneB _ _ m (by omega) _ rfl) (by omega) (by simp; omega) ?_))
        intro a3 c3 w3 ho3 hg3
        have hb3 : Below w2.heap.size w2 w3 := (hbq.alloc hzq _).trans ((hoq.alloc _).up hg3 (by simp; omega))
        have hz3 := hb3.size
        have hs3 := hs.below hb3
        have hcw3 := (hb3.cell (p := ⟨p, 1, none⟩) h2.lt).trans hc1
        clear hg3 hoq hbq hsq hcwq hfrq
        go_wp2_with (at_builtin; go_must (refine app_listI rfl _ _ rfl w2.heap.size a3 (k + 1) c3 _ rfl ho3 a' (n - k) (c - k) (F.drop k) rfl (hdrop _ _ hs3) (by omega) hz3 ?_))
        intro a4 c4 w4 ho4 hg4
        have hb4 : Below w2.heap.size w2 w4 := hb3.trans (ho3.up hg4 hz3)
        have hcw4 := (hb4.cell (p := ⟨p, 1, none⟩) h2.lt).trans hc1
        have hfr4 := (hb4.frozen (p := ⟨p, 1, none⟩) h2.lt).trans (h2.free 1)
        have ho4 : OwnI w4 w2.heap.size a4 (k + 1 + (n - k)) c4 (farN (putS S m)) := by rw [HPUT.out]; first | exact ho4 | (rw [List.append_assoc] at ho4; exact ho4)
        obtain ⟨K1, K2, K3⟩ := h2.farred hb4 ho4 (by omega)
        clear hg4 ho3 hb3 hs3 hcw3 hrun hdrop ho4 HPUT hb4
        go_wp2
        go_loopw [] (fun wr => ∃ (j : Nat) (fj : Option Nat), j ≤ 256 ∧ RTk wr B p fj db ((cum + j) % 4294967296) (farN (onS (putS S m) j)) ds ∧ Fr (fun k => k = p) w2 wr ∧ (∀ k, fj = some k → w2.heap.size ≤ k) ∧ ∀ i, 1 ≤ i → i ≤ j → putS S m i = true) (fun wr => farLen wr p)
        case atStart => exact ⟨0, _, by omega, by rw [onS_zero _ HP0.out, show (cum + 0) % 4294967296 = cum from Nat.mod_eq_of_lt HCL.out]; exact K1, K2, K3, fun i h1 h2 => by omega⟩
        case round =>
          obtain ⟨j, fj, hj, hT, hFr, hfj, hlow⟩ := hrel
          clear K1 K2 K3 hcw4 hfr4
          have hTlt := hT.lt
          obtain ⟨aj, nj, cj, hcj, hsj, hbj⟩ := hT.far
          have hlj := hsj.len
          have hcc0 := hT.c0
          have hfr0 := hT.free 0
          have hfr1 := hT.free 1
          have hcapj := hsj.cap
          have HM : Hid (farLen wr p = nj) := by show _ = _; unfold farLen; rw [hcj]
          have HN : Hid (nj ≤ 256) := by show _ ≤ _; rw [← hlj]; exact farN_len _
          by_cases hS1 : putS S m (j + 1) = true
          · have hon : onS (putS S m) j 1 = true := by unfold onS; rw [if_neg (by omega), Nat.add_comm]; exact hS1
            have h257 : onS (putS S m) j 257 = false := by unfold onS; rw [if_neg (by omega)]; exact HOUT.out _ (by omega)
            have HNEXT : Hid (farN (onS (putS S m) (j + 1)) = ((farN (onS (putS S m) j)).drop 1).map (· - 1)) := by
              show _ = _
              rw [← onS_succ]; exact farN_on _ hon h257
            have hj2 : Hid (j + 1 ≤ 256) := by
              show _ ≤ _
              rcases Nat.lt_or_ge 256 (j + 1) with e | e
              · rw [HOUT.out _ e] at hS1; cases hS1
              · exact e
            have HLOW : Hid (∀ i, 1 ≤ i → i ≤ j + 1 → putS S m i = true) := fun i h1 h2 => by
              by_cases e : i = j + 1
              · rw [e]; exact hS1
              · exact hlow i h1 (by omega)
            obtain ⟨tl, htl⟩ := farN_head _ hon
            have HT := (show Hid _ from hT)
            have hbnd := hsj.bnd
            have hge1 : ∀ i, i < nj → 1 ≤ (farN (onS (putS S m) j)).getD i 0 := fun i hi => by
              have hmem : (farN (onS (putS S m) j)).getD i 0 ∈ farN (onS (putS S m) j) := by
                rw [List.getD_eq_getElem?_getD, List.getElem?_eq_getElem (by omega)]; exact List.getElem_mem _
              exact ((farN_mem _ _).1 hmem).1
            have h0v : (farN (onS (putS S m) j)).getD 0 0 = 1 := by rw [htl]; rfl
            have hnj : 0 < nj := by rw [← hlj, htl]; simp
            clear hT hlow htl hon h257 hS1
            generalize farN (onS (putS S m) j) = G at *
            rcases hsj.at_ with h0 | ⟨g, off, rfl, hltg, hcell⟩
            · omega
            have hcg0 := hcell 0 hnj
            rw [h0v, Nat.add_zero] at hcg0
            have hnj' : (0 : Int) < (nj : Int) := by omega
            have HMj := HM
            obtain ⟨cj, hcj2⟩ : ∃ cj, cj = (cum + j) % 4294967296 := ⟨_, rfl⟩
            rw [← hcj2] at HT hcc0
            have HCJ : Hid ((cj + 1) % 4294967296 = (cum + (j + 1)) % 4294967296) := by show _ = _; omega
            clear hcj2
            obtain ⟨W0, hW0⟩ : ∃ W0, W0 = wr := ⟨_, rfl⟩
            subst hW0
            obtain ⟨L, hL⟩ : ∃ L : Nat → List Nat, ∀ t, L t = ((G.drop 1).take t).map (· - 1) := ⟨_, fun _ => rfl⟩
            have HL := (show Hid _ from hL)
            have hoE : OwnI (W0.alloc (.cells #[] 3)) W0.heap.size (some ⟨W0.heap.size, 0, none⟩) 0 0 (L 0) := by rw [hL]; exact own_emptyI W0
            clear hL
            have hn9 : nj ≤ 256 := HN.out
            have hbE : Below W0.heap.size W0 (W0.alloc (.cells #[] 3)) := (Below.refl _ _).alloc (Nat.le_refl _) _
            go_wp2
            go_loopw [10, 11] (fun v iv wi => ∃ (t : Nat) (a1 : Option Addr) (c1 : Nat), t + 1 ≤ nj ∧ iv = .int .i64 ((t : Int) + 1) ∧ v = .slice a1 t c1 ∧ OwnI wi W0.heap.size a1 t c1 (L t) ∧ Below W0.heap.size W0 wi) (fun _ iv _ => nj - (intOf iv).toNat)
            case atStart => exact ⟨0, _, 0, by omega, rfl, rfl, hoE, hbE⟩
            case round =>
              obtain ⟨t2, a2, c2, ht2, rfl, rfl, ho2, hb2⟩ := hrel
              clear hoE hbE
              have hcp2 := (hb2.cell (p := ⟨p, 1, none⟩) hTlt).trans hcj
              have hz2 := hb2.size
              by_cases hin2 : t2 + 1 < nj
              · have hcg := (hb2.cell (p := ⟨g, off + (t2 + 1), none⟩) hltg).trans (hcell (t2 + 1) hin2)
                have hg1 := hge1 (t2 + 1) hin2
                have hbd := hbnd (t2 + 1)
                have HTK2 : Hid (L (t2 + 1) = L t2 ++ [G.getD (t2 + 1) 0 - 1]) := by
                  show _ = _
                  rw [HL.out, HL.out, take_snocN (G.drop 1) t2 (by simp; omega), List.map_append]
                  congr 1
                  simp [List.getD_eq_getElem?_getD]
                obtain ⟨z, hz⟩ : ∃ z, G.getD (t2 + 1) 0 = z + 1 := ⟨G.getD (t2 + 1) 0 - 1, by omega⟩
                rw [hz] at hcg HTK2 hbd
                rw [Nat.add_sub_cancel] at HTK2
                have hi4 : (t2 : Int) + 1 < (nj : Int) := by omega
                have hi5 : (0 : Int) ≤ (t2 : Int) + 1 := by omega
                clear hz hg1
                go_wp2_with (at_builtin; go_must (refine app_listI rfl _ _ rfl W0.heap.size a2 t2 c2 _ rfl (ho2.alloc _) _ 1 1 [z] rfl (i64_oneB _ _ z (by omega) _ rfl) (by have := HN.out; omega) (by simp; omega) ?_))
                intro a4 c4 w4 ho4 hg4
                have hb4 : Below W0.heap.size W0 w4 := (hb2.alloc hz2 _).trans ((ho2.alloc _).up hg4 (by simp; omega))
                clear hg4 ho2 hb2 hcp2 hcg
                go_wp2
                go_roundw
                case rel => exact ⟨t2 + 1, a4, c4, by omega, by go_num, rfl, by rw [HTK2.out]; exact ho4, hb4⟩
                case measure => simp [intOf]; omega
              · have HG : Hid (L t2 = (G.drop 1).map (· - 1)) := by
                  show _ = _
                  rw [HL.out, List.take_of_length_le (by simp; omega)]
                rw [HG.out] at ho2
                rw [← HNEXT.out] at ho2
                obtain ⟨k1, k2, k3⟩ := HT.out.farred hb2 ho2 (by have := HN.out; omega)
                obtain ⟨cn, hcn⟩ : ∃ cn : Nat, ((cj : Int) + 1) % 4294967296 = (cn : Int) := ⟨(cj + 1) % 4294967296, by omega⟩
                have hcnl : cn < 4294967296 := by omega
                have HCN : Hid (cn = (cum + (j + 1)) % 4294967296) := by show _ = _; rw [← HCJ.out]; omega
                have HK1 := (show Hid _ from k1.cummed cn hcnl)
                have HK2 : Hid (Fr (fun k => k = p) w2 ((wr.setCell ⟨p, 1, none⟩ (.slice a2 t2 c2)).setCell ⟨p, 0, none⟩ (.int .u32 ((cn : Nat) : Int)))) := (hFr.trans k2).trans (Fr.setCell _ _ _ _ rfl)
                have HK3 : Hid (∀ k, blockOf a2 = some k → w2.heap.size ≤ k) := fun k hk => Nat.le_trans hFr.size (k3 k hk)
                have hcc2 := (hb2.cell (p := ⟨p, 0, none⟩) hTlt).trans hcc0
                have hf02 := (hb2.frozen (p := ⟨p, 0, none⟩) hTlt).trans hfr0
                have hf12 := (hb2.frozen (p := ⟨p, 1, none⟩) hTlt).trans hfr1
                have hi4 : ¬ (t2 : Int) + 1 < (nj : Int) := by omega
                have HLN : Hid (farLen ((wr.setCell ⟨p, 1, none⟩ (.slice a2 t2 c2)).setCell ⟨p, 0, none⟩ (.int .u32 ((cn : Nat) : Int))) p = t2) := by
                  show _ = _
                  unfold farLen
                  rw [World.cell?_setCell_other _ _ _ _ (by intro e2; injection e2 with _ e3; omega), World.cell?_setCell_same' _ _ _ (by rw [hcp2]; rfl)]
                clear k1 k2 k3 ho2 hb2 HG
                go_wp2
                go_roundw
                case rel => exact ⟨j + 1, _, hj2.out, by rw [← HCN.out]; exact HK1.out, HK2.out, HK3.out, HLOW.out⟩
                case measure => rw [HLN.out, HMj.out]; omega
          · have hS1f : putS S m (j + 1) = false := by cases h : putS S m (j + 1) with
              | true => exact absurd h hS1
              | false => rfl
            have HLD : Hid (lead (putS S m) = j) := lead_of _ j hj hlow hS1f
            have hnh := farN_nohead (onS (putS S m) j) (by unfold onS; rw [if_neg (by omega), Nat.add_comm]; exact hS1f)
            have HT := (show Hid _ from hT)
            have HFr := (show Hid _ from hFr)
            clear hT hlow hS1 hS1f hFr
            obtain ⟨G, hG⟩ : ∃ G, G = farN (onS (putS S m) j) := ⟨_, rfl⟩
            rw [← hG] at hlj hsj hnh
            clear hG
            by_cases hnj : nj = 0
            · subst hnj
              go_wp2
              go_ret
              exact ⟨rfl, fj, by rw [HC.out, HS.out, HLD.out]; exact HT.out, (Fr.of_below hB2).trans HFr.out, fun k hk => .inr (Nat.le_trans hB2.size (hfj k hk))⟩
            · rcases hsj.at_ with h0 | ⟨g, off, rfl, hltg, hcell⟩
              · omega
              have hcg0 := hcell 0 (by omega)
              rw [Nat.add_zero] at hcg0
              have hv0 : ((G.getD 0 0 : Nat) : Int) ≠ 1 := by
                rcases hnh with e | e
                · rw [e] at hlj; simp at hlj; omega
                · omega
              clear hcell hnh
              generalize G.getD 0 0 = v0 at *
              have hv1 : ((v0 : Int) == 1) = false := by simp; omega
              have hnj' : (0 : Int) < (nj : Int) := by omega
              go_wp2
              go_ret
              exact ⟨rfl, fj, by rw [HC.out, HS.out, HLD.out]; exact HT.out, (Fr.of_below hB2).trans HFr.out, fun k hk => .inr (Nat.le_trans hB2.size (hfj k hk))⟩
    · have hge : k = n ∨ ¬ F.getD k 0 < m := .inl (by omega)
      have hk1 : ¬ (k : Int) < (n : Int) := by omega
      have hoq := ho
      have hbq := hbel
      clear ho hbel
      have hzq := hbq.size
      have hsq := hs.below hbq
      have hcwq := (hbq.cell (p := ⟨p, 1, none⟩) h2.lt).trans hc1
      have hfrq := (hbq.frozen (p := ⟨p, 1, none⟩) h2.lt).trans (h2.free 1)
      have HPUT : Hid (farN (putS S m) = F.take k ++ m :: F.drop k) := by
        show _ = _
        rw [HF.out]
        exact (farN_put S m k hm1 hm2 hSm (by rw [← HF.out]; exact hall) (by rw [← HF.out]; omega) (by rw [← HF.out]; exact hge.imp (fun e => by omega) id)).trans (by simp)
      obtain ⟨a', hrun, hdrop⟩ := slice_dropI _ n c k hk hcap hnz
      clear hge hall
      go_wp2_with (at_builtin; go_must (refine app_listI rfl _ _ rfl w2.heap.size a1 k c1 _ rfl (hoq.alloc _) _ 1 1 [m] rfl (i64_oneB _ _ m (by omega) _ rfl) (by omega) (by simp; omega) ?_))
      intro a3 c3 w3 ho3 hg3
      have hb3 : Below w2.heap.size w2 w3 := (hbq.alloc hzq _).trans ((hoq.alloc _).up hg3 (by simp; omega))
      have hz3 := hb3.size
      have hs3 := hs.below hb3
      have hcw3 := (hb3.cell (p := ⟨p, 1, none⟩) h2.lt).trans hc1
      clear hg3 hoq hbq hsq hcwq hfrq
      go_wp2_with (at_builtin; go_must (refine app_listI rfl _ _ rfl w2.heap.size a3 (k + 1) c3 _ rfl ho3 a' (n - k) (c - k) (F.drop k) rfl (hdrop _ _ hs3) (by omega) hz3 ?_))
      intro a4 c4 w4 ho4 hg4
      have hb4 : Below w2.heap.size w2 w4 := hb3.trans (ho3.up hg4 hz3)
      have hcw4 := (hb4.cell (p := ⟨p, 1, none⟩) h2.lt).trans hc1
      have hfr4 := (hb4.frozen (p := ⟨p, 1, none⟩) h2.lt).trans (h2.free 1)
      have ho4 : OwnI w4 w2.heap.size a4 (k + 1 + (n - k)) c4 (farN (putS S m)) := by rw [HPUT.out]; first | exact ho4 | (rw [List.append_assoc] at ho4; exact ho4)
      obtain ⟨K1, K2, K3⟩ := h2.farred hb4 ho4 (by omega)
      clear hg4 ho3 hb3 hs3 hcw3 hrun hdrop ho4 HPUT hb4
      go_wp2
      go_loopw [] (fun wr => ∃ (j : Nat) (fj : Option Nat), j ≤ 256 ∧ RTk wr B p fj db ((cum + j) % 4294967296) (farN (onS (putS S m) j)) ds ∧ Fr (fun k => k = p) w2 wr ∧ (∀ k, fj = some k → w2.heap.size ≤ k) ∧ ∀ i, 1 ≤ i → i ≤ j → putS S m i = true) (fun wr => farLen wr p)
      case atStart => exact ⟨0, _, by omega, by rw [onS_zero _ HP0.out, show (cum + 0) % 4294967296 = cum from Nat.mod_eq_of_lt HCL.out]; exact K1, K2, K3, fun i h1 h2 => by omega⟩
      case round =>
        obtain ⟨j, fj, hj, hT, hFr, hfj, hlow⟩ := hrel
        clear K1 K2 K3 hcw4 hfr4
        have hTlt := hT.lt
        obtain ⟨aj, nj, cj, hcj, hsj, hbj⟩ := hT.far
        have hlj := hsj.len
        have hcc0 := hT.c0
        have hfr0 := hT.free 0
        have hfr1 := hT.free 1
        have hcapj := hsj.cap
        have HM : Hid (farLen wr p = nj) := by show _ = _; unfold farLen; rw [hcj]
        have HN : Hid (nj ≤ 256) := by show _ ≤ _; rw [← hlj]; exact farN_len _
        by_cases hS1 : putS S m (j + 1) = true
        · have hon : onS (putS S m) j 1 = true := by unfold onS; rw [if_neg (by omega), Nat.add_comm]; exact hS1
          have h257 : onS (putS S m) j 257 = false := by unfold onS; rw [if_neg (by omega)]; exact HOUT.out _ (by omega)
          have HNEXT : Hid (farN (onS (putS S m) (j + 1)) = ((farN (onS (putS S m) j)).drop 1).map (· - 1)) := by
            show _ = _
            rw [← onS_succ]; exact farN_on _ hon h257
          have hj2 : Hid (j + 1 ≤ 256) := by
            show _ ≤ _
            rcases Nat.lt_or_ge 256 (j + 1) with e | e
            · rw [HOUT.out _ e] at hS1; cases hS1
            · exact e
          have HLOW : Hid (∀ i, 1 ≤ i → i ≤ j + 1 → putS S m i = true) := fun i h1 h2 => by
            by_cases e : i = j + 1
            · rw [e]; exact hS1
            · exact hlow i h1 (by omega)
          obtain ⟨tl, htl⟩ := farN_head _ hon
          have HT := (show Hid _ from hT)
          have hbnd := hsj.bnd
          have hge1 : ∀ i, i < nj → 1 ≤ (farN (onS (putS S m) j)).getD i 0 := fun i hi => by
            have hmem : (farN (onS (putS S m) j)).getD i 0 ∈ farN (onS (putS S m) j) := by
              rw [List.getD_eq_getElem?_getD, List.getElem?_eq_getElem (by omega)]; exact List.getElem_mem _
            exact ((farN_mem _ _).1 hmem).1
          have h0v : (farN (onS (putS S m) j)).getD 0 0 = 1 := by rw [htl]; rfl
          have hnj : 0 < nj := by rw [← hlj, htl]; simp
          clear hT hlow htl hon h257 hS1
          generalize farN (onS (putS S m) j) = G at *
          rcases hsj.at_ with h0 | ⟨g, off, rfl, hltg, hcell⟩
          · omega
          have hcg0 := hcell 0 hnj
          rw [h0v, Nat.add_zero] at hcg0
          have hnj' : (0 : Int) < (nj : Int) := by omega
          have HMj := HM
          obtain ⟨cj, hcj2⟩ : ∃ cj, cj = (cum + j) % 4294967296 := ⟨_, rfl⟩
          rw [← hcj2] at HT hcc0
          have HCJ : Hid ((cj + 1) % 4294967296 = (cum + (j + 1)) % 4294967296) := by show _ = _; omega
          clear hcj2
          obtain ⟨W0, hW0⟩ : ∃ W0, W0 = wr := ⟨_, rfl⟩
          subst hW0
          obtain ⟨L, hL⟩ : ∃ L : Nat → List Nat, ∀ t, L t = ((G.drop 1).take t).map (· - 1) := ⟨_, fun _ => rfl⟩
          have HL := (show Hid _ from hL)
          have hoE : OwnI (W0.alloc (.cells #[] 3)) W0.heap.size (some ⟨W0.heap.size, 0, none⟩) 0 0 (L 0) := by rw [hL]; exact own_emptyI W0
          clear hL
          have hn9 : nj ≤ 256 := HN.out
          have hbE : Below W0.heap.size W0 (W0.alloc (.cells #[] 3)) := (Below.refl _ _).alloc (Nat.le_refl _) _
          go_wp2
          go_loopw [10, 11] (fun v iv wi => ∃ (t : Nat) (a1 : Option Addr) (c1 : Nat), t + 1 ≤ nj ∧ iv = .int .i64 ((t : Int) + 1) ∧ v = .slice a1 t c1 ∧ OwnI wi W0.heap.size a1 t c1 (L t) ∧ Below W0.heap.size W0 wi) (fun _ iv _ => nj - (intOf iv).toNat)
          case atStart => exact ⟨0, _, 0, by omega, rfl, rfl, hoE, hbE⟩
          case round =>
            obtain ⟨t2, a2, c2, ht2, rfl, rfl, ho2, hb2⟩ := hrel
            clear hoE hbE
            have hcp2 := (hb2.cell (p := ⟨p, 1, none⟩) hTlt).trans hcj
            have hz2 := hb2.size
            by_cases hin2 : t2 + 1 < nj
            · have hcg := (hb2.cell (p := ⟨g, off + (t2 + 1), none⟩) hltg).trans (hcell (t2 + 1) hin2)
              have hg1 := hge1 (t2 + 1) hin2
              have hbd := hbnd (t2 + 1)
              have HTK2 : Hid (L (t2 + 1) = L t2 ++ [G.getD (t2 + 1) 0 - 1]) := by
                show _ = _
                rw [HL.out, HL.out, take_snocN (G.drop 1) t2 (by simp; omega), List.map_append]
                congr 1
                simp [List.getD_eq_getElem?_getD]
              obtain ⟨z, hz⟩ : ∃ z, G.getD (t2 + 1) 0 = z + 1 := ⟨G.getD (t2 + 1) 0 - 1, by omega⟩
              rw [hz] at hcg HTK2 hbd
              rw [Nat.add_sub_cancel] at HTK2
              have hi4 : (t2 : Int) + 1 < (nj : Int) := by omega
              have hi5 : (0 : Int) ≤ (t2 : Int) + 1 := by omega
              clear hz hg1
              go_wp2_with (at_builtin; go_must (refine app_listI rfl _ _ rfl W0.heap.size a2 t2 c2 _ rfl (ho2.alloc _) _ 1 1 [z] rfl (i64_oneB _ _ z (by omega) _ rfl) (by have := HN.out; omega) (by simp; omega) ?_))
              intro a4 c4 w4 ho4 hg4
              have hb4 : Below W0.heap.size W0 w4 := (hb2.alloc hz2 _).trans ((ho2.alloc _).up hg4 (by simp; omega))
              clear hg4 ho2 hb2 hcp2 hcg
              go_wp2
              go_roundw
              case rel => exact ⟨t2 + 1, a4, c4, by omega, by go_num, rfl, by rw [HTK2.out]; exact ho4, hb4⟩
              case measure => simp [intOf]; omega
            · have HG : Hid (L t2 = (G.drop 1).map (· - 1)) := by
                show _ = _
                rw [HL.out, List.take_of_length_le (by simp; omega)]
              rw [HG.out] at ho2
              rw [← HNEXT.out] at ho2
              obtain ⟨k1, k2, k3⟩ := HT.out.farred hb2 ho2 (by have := HN.out; omega)
              obtain ⟨cn, hcn⟩ : ∃ cn : Nat, ((cj : Int) + 1) % 4294967296 = (cn : Int) := ⟨(cj + 1) % 4294967296, by omega⟩
              have hcnl : cn < 4294967296 := by omega
              have HCN : Hid (cn = (cum + (j + 1)) % 4294967296) := by show _ = _; rw [← HCJ.out]; omega
              have HK1 := (show Hid _ from k1.cummed cn hcnl)
              have HK2 : Hid (Fr (fun k => k = p) w2 ((wr.setCell ⟨p, 1, none⟩ (.slice a2 t2 c2)).setCell ⟨p, 0, none⟩ (.int .u32 ((cn : Nat) : Int)))) := (hFr.trans k2).trans (Fr.setCell _ _ _ _ rfl)
              have HK3 : Hid (∀ k, blockOf a2 = some k → w2.heap.size ≤ k) := fun k hk => Nat.le_trans hFr.size (k3 k hk)
              have hcc2 := (hb2.cell (p := ⟨p, 0, none⟩) hTlt).trans hcc0
              have hf02 := (hb2.frozen (p := ⟨p, 0, none⟩) hTlt).trans hfr0
              have hf12 := (hb2.frozen (p := ⟨p, 1, none⟩) hTlt).trans hfr1
              have hi4 : ¬ (t2 : Int) + 1 < (nj : Int) := by omega
              have HLN : Hid (farLen ((wr.setCell ⟨p, 1, none⟩ (.slice a2 t2 c2)).setCell ⟨p, 0, none⟩ (.int .u32 ((cn : Nat) : Int))) p = t2) := by
                show _ = _
                unfold farLen
                rw [World.cell?_setCell_other _ _ _ _ (by intro e2; injection e2 with _ e3; omega), World.cell?_setCell_same' _ _ _ (by rw [hcp2]; rfl)]
              clear k1 k2 k3 ho2 hb2 HG
              go_wp2
              go_roundw
              case rel => exact ⟨j + 1, _, hj2.out, by rw [← HCN.out]; exact HK1.out, HK2.out, HK3.out, HLOW.out⟩
              case measure => rw [HLN.out, HMj.out]; omega
        · have hS1f : putS S m (j + 1) = false := by cases h : putS S m (j + 1) with
            | true => exact absurd h hS1
            | false => rfl
          have HLD : Hid (lead (putS S m) = j) := lead_of _ j hj hlow hS1f
          have hnh := farN_nohead (onS (putS S m) j) (by unfold onS; rw [if_neg (by omega), Nat.add_comm]; exact hS1f)
          have HT := (show Hid _ from hT)
          have HFr := (show Hid _ from hFr)
          clear hT hlow hS1 hS1f hFr
          obtain ⟨G, hG⟩ : ∃ G, G = farN (onS (putS S m) j) := ⟨_, rfl⟩
          rw [← hG] at hlj hsj hnh
          clear hG
          by_cases hnj : nj = 0
          · subst hnj
            go_wp2
            go_ret
            exact ⟨rfl, fj, by rw [HC.out, HS.out, HLD.out]; exact HT.out, (Fr.of_below hB2).trans HFr.out, fun k hk => .inr (Nat.le_trans hB2.size (hfj k hk))⟩
          · rcases hsj.at_ with h0 | ⟨g, off, rfl, hltg, hcell⟩
            · omega
            have hcg0 := hcell 0 (by omega)
            rw [Nat.add_zero] at hcg0
            have hv0 : ((G.getD 0 0 : Nat) : Int) ≠ 1 := by
              rcases hnh with e | e
              · rw [e] at hlj; simp at hlj; omega
              · omega
            clear hcell hnh
            generalize G.getD 0 0 = v0 at *
            have hv1 : ((v0 : Int) == 1) = false := by simp; omega
            have hnj' : (0 : Int) < (nj : Int) := by omega
            go_wp2
            go_ret
            exact ⟨rfl, fj, by rw [HC.out, HS.out, HLD.out]; exact HT.out, (Fr.of_below hB2).trans HFr.out, fun k hk => .inr (Nat.le_trans hB2.size (hfj k hk))⟩
end Go.Proofs.Ytlgpabdadnfbeaa
