/- trunklinelaw14.OutqEnds: the walk, but for two ways of the loop over what was sent. -/
import Derived.Test.YtconfmjgoipejaaKH
import Derived.Test.YtconfmjgoipejaaKL
import Derived.Test.YtconfmjgoipejaaKI
import Derived.Test.YtconfmjgoipejaaRgX
import Derived.Deep.CutBlock
import Derived.Deep.CutRange
namespace Go.Proofs.Ytconfmjgoipejaa
open Go.RowKit Go.Shelf
set_option maxRecDepth 100000 in
set_option maxHeartbeats 8000000 in
/-- The two goals that are left (their texts are what the walk comes to), and the walk given them. -/
noncomputable def walkK : PSigma fun G0 : Prop => PSigma fun G1 : Prop => Hid G0 → Hid G1 → ∀ (first : Nat) (a : Option Addr) (n c : Nat) (dd : List MgD) (ta : Option Addr) (tn tc : Nat) (ts : List Bool) (w : World), first < 4294967296 → SlMg w a n c dd → SlBo w ta tn tc ts → Calls Try.prog 5 #[.int .u32 (first : Nat), .slice a n c, .slice ta tn tc] w fun e w' => e = .returned (.bool true) ∧ Below w.heap.size w w' := by
  apply PSigma.mk
  case snd =>
  apply PSigma.mk
  case snd =>
    intro h0 h1
    intro first a n c dd ta tn tc ts w hf hd ht
    have hnew := onew_ok first 8 9 w hf (by decide) (by decide) (by decide) (by decide)
    obtain ⟨c0, hc0⟩ : ∃ c, c = addV 4294967296 first (-1) := ⟨_, rfl⟩
    have hc1 : c0 = (first + 4294967295) % 4294967296 := by rw [hc0]; unfold addV; omega
    have hc2 : c0 < 4294967296 := by omega
    rw [← hc0] at hnew
    have HC1 := (show Hid _ from hc1)
    have HD := (show Hid _ from hd)
    have HT := (show Hid _ from ht)
    have hnn : n ≤ 281474976710656 := hd.small
    have htn : tn ≤ 281474976710656 := ht.small
    clear hc0 hc1 hd ht
    go_enter Try.func5, Try.ntmps5
    go_wp2_with fail
    refine Calls.mono hnew ?_
    rintro e w1 hN
    obtain ⟨q, rfl, hq⟩ := OwQ.new hN
    have HV0 : Hid (∃ D L nx Ws, CvV w D q c0 L nx Ws 0 w1) := ⟨_, _, _, [], hq, rfl, by decide, fun i => by
        rw [List.getD_eq_getElem?_getD, List.getElem?_replicate]
        split <;> decide, hN.bel, by decide, by decide⟩
    clear hN hq hnew
    go_upto_block 0 with fail
    go_cut [9] from 39 to 61 (fun u9 wc => ∃ k : Nat, k ≤ 15 ∧ ∃ D L nx Ws, CvV w D q c0 L nx Ws k wc)
    case first =>
      go_wp2_with fail
      go_loopw [9] (fun i wr => ∃ k : Nat, k ≤ n ∧ k ≤ 15 ∧ i = .int .i64 (k : Nat) ∧ ∃ D L nx Ws, CvV w D q c0 L nx Ws k wr) (fun i _ => 15 - (intOf i).toNat)
      case atStart => exact ⟨0, by omega, by omega, rfl, HV0.out⟩
      case round =>
        obtain ⟨k, hkn, hk15, rfl, D, L, nx, Ws, hI⟩ := hrel
        by_cases hlt : k < n ∧ k < 15
        · obtain ⟨hk1, hk2⟩ := hlt
          have g1 : (k : Int) < (n : Int) := by omega
          have g2 : (k : Int) < 15 := by omega
          have g0 : (0 : Int) ≤ (k : Int) := by omega
          obtain ⟨b, off, rfl, hbl, hcl⟩ := HD.out.at_.resolve_left (by omega)
          obtain ⟨y, hy⟩ : ∃ y, dd[k]? = some y := ⟨_, List.getElem?_eq_getElem (by rw [HD.out.len]; exact hk1)⟩
          have hyw := HD.out.wf y (List.mem_of_getElem? hy)
          have hbelw := hI.bl
          have hcy : ∀ j v, y.vals[j]? = some v → wr.cell? ⟨b, off + k * 5 + j, none⟩ = some v := fun j v hv => (hbelw.cell (p := ⟨b, off + k * 5 + j, none⟩) hbl).trans (hcl k y hy j v hv)
          have hcap := HD.out.cap
          have hll := hI.ll
          have hsm := hI.sm
          have hL1 : L.length ≤ 100000 := by omega
          have hS1 : sumL L L.length ≤ 100000 := by omega
          have hdN : y.daN ≤ 140737488351232 := Nat.le_trans hyw.2.2.2.1.cap hyw.2.2.2.2
          have k0 : wr.cell? ⟨b, off + k * 5, none⟩ = some (.int .u16 (y.st : Nat)) := hcy 0 _ rfl
          have k1 : wr.cell? ⟨b, off + k * 5 + 1, none⟩ = some (.int .u16 (y.ss : Nat)) := hcy 1 _ rfl
          have k2 : wr.cell? ⟨b, off + k * 5 + 2, none⟩ = some (.int .u32 (y.pp : Nat)) := hcy 2 _ rfl
          have k3 : wr.cell? ⟨b, off + k * 5 + 3, none⟩ = some (.bool y.fr) := hcy 3 _ rfl
          have k4 : wr.cell? ⟨b, off + k * 5 + 4, none⟩ = some (.slice y.daA y.daN y.daC) := hcy 4 _ rfl
          by_cases h100 : y.daN ≤ 100
          · have g100 : (y.daN : Int) ≤ 100 := by omega
            by_cases hg : mpE nx.length y.st y.daN (sumL L L.length) = 0
            · have hyb : ∀ b o s, y.daA = some ⟨b, o, s⟩ → b < w.heap.size := fun b o s e => by
                have hd0 : 0 < y.daN := by
                  have hgd := hg
                  unfold mpE at hgd
                  split at hgd
                  · omega
                  · split at hgd <;> omega
                obtain ⟨b9, o9, e9, hl9, _⟩ := hyw.2.2.2.1.at_.resolve_left (by omega)
                rw [e9] at e
                injection e with e
                injection e with e _ _
                omega
              have hpu := push_own hI.qu hL1 hS1 hc2 (by decide) (by decide) hI.nl y.st y.ss y.pp y.fr hyw.1 (hyw.2.2.2.1.below hI.bl) (fun b o s e => ⟨Nat.lt_of_lt_of_le (hyb b o s e) hI.bl.size, .inl (hyb b o s e)⟩) hg
              have HPU := (show Hid _ from hpu)
              have HST := (show Hid _ from fun e W4 hp => hI.push hyw h100 (e := e) (W4 := W4) hp)
              clear hpu hI hyb hg hcy hbelw hcl hyw hll hsm hL1 hS1
              obtain ⟨st, ss, pp, fr, da, dn, dc, zs⟩ := y
              dsimp only at k0 k1 k2 k3 k4 hdN g100 h100
              go_wp2_with fail
              refine Calls.mono HPU.out ?_
              rintro e W4 hp
              have HS4 := (show Hid _ from HST.out _ W4 hp)
              have hex := hp.ex
              subst hex
              clear hp HST HPU k0 k1 k2 k3 k4
              go_wp2
              go_roundw
              case rel => exact ⟨k + 1, by omega, by omega, by go_num, HS4.out⟩
              case measure => simp [intOf]; omega
            · have hpu := push_no_own hI.qu hL1 hS1 y.st y.ss y.pp y.fr y.daA y.daN y.daC hyw.1 hdN hg
              have HPU := (show Hid _ from hpu)
              have HI := (show Hid _ from hI)
              clear hpu hI hg hcy hbelw hcl hyw hll hsm hL1 hS1
              obtain ⟨st, ss, pp, fr, da, dn, dc, zs⟩ := y
              dsimp only at k0 k1 k2 k3 k4 hdN g100 h100
              go_wp2_with fail
              refine Calls.mono HPU.out ?_
              rintro e W4 ⟨rfl, hb4⟩
              have HS4 := (show Hid _ from HI.out.keep hb4)
              clear hb4 HPU k0 k1 k2 k3 k4
              go_wp2
              go_roundw
              case rel => exact ⟨k + 1, by omega, by omega, by go_num, _, _, _, _, HS4.out⟩
              case measure => simp [intOf]; omega
          · have g100 : ¬ (y.daN : Int) ≤ 100 := by omega
            have HS4 := (show Hid _ from hI.keep (Below.refl _ _))
            clear hI hcy hbelw hcl hyw hll hsm hL1 hS1
            obtain ⟨st, ss, pp, fr, da, dn, dc, zs⟩ := y
            dsimp only at k0 k1 k2 k3 k4 hdN g100 h100
            go_wp2
            go_roundw
            case rel => exact ⟨k + 1, by omega, by omega, by go_num, _, _, _, _, HS4.out⟩
            case measure => simp [intOf]; omega
        · have hcase : ¬ (k : Int) < (n : Int) ∨ ((k : Int) < (n : Int) ∧ ¬ (k : Int) < 15) := by omega
          have HI := (show Hid _ from hI)
          clear hI
          rcases hcase with g1 | ⟨g1, g2⟩
          · go_wp2
            go_meet
            exact ⟨k, hk15, D, L, nx, Ws, HI.out⟩
          · go_wp2
            go_meet
            exact ⟨k, hk15, D, L, nx, Ws, HI.out⟩
    case rest =>
      · obtain ⟨k, hk15, D, L, nx, Ws, hI⟩ := hcut
        obtain ⟨wr, hwr⟩ : ∃ x, x = wc := ⟨_, rfl⟩
        subst hwr
        obtain ⟨P, hP⟩ : ∃ P, P = cutsW c0 9 0 Ws := ⟨_, rfl⟩
        have hPL : L.length = P.length := by rw [hP, ← hI.pc, List.length_map]
        have h180 : P.length ≤ 180 := by have := hI.ll; omega
        have hP9 : ∀ i p, P[i]? = some p → p.t = addV 4294967296 c0 ((i + 1 : Nat) : Int) ∧ p.zs.length ≤ 9 := fun i p hp => by
          rw [hP] at hp
          obtain ⟨h1, _, _, _, _, h2⟩ := cutsW_t c0 9 Ws 0 i p hp
          exact ⟨by rw [h1, Nat.zero_add], h2⟩
        have hE0 : EnS P 0 (fun _ => false) L := by rw [hP]; exact EnS.start hI.pc
        have hL1 : L.length ≤ 100000 := by omega
        have hS1 : sumL L L.length ≤ 100000 := by have := hI.sm; omega
        have hmk1 : ∀ w, (Instr.makeSlice 50 (.int .i64 ((P.length : Int) + 1)) (.int .i64 ((P.length : Int) + 1))).run Try.prog w = .ok (.slice (some ⟨w.heap.size, 0, none⟩) (P.length + 1) (P.length + 1)) (w.alloc (.cells (madeCells #[.bool false] (P.length + 1)) 4)) := fun w => mkBo (P.length + 1) (by omega) w
        have hmk2 : ∀ w, (Instr.makeSlice 53 (.int .i64 (P.length : Int)) (.int .i64 (P.length : Int))).run Try.prog w = .ok (.slice (some ⟨w.heap.size, 0, none⟩) P.length P.length) (w.alloc (.cells (madeCells #[.string ⟨#[]⟩] P.length) 9)) := fun w => mkSt P.length (by omega) w
        have hle := left_own hI.qu hL1 hS1
        rw [hPL] at hle
        have HLE := (show Hid _ from hle)
        have HI := (show Hid _ from And.intro hI hE0)
        have HP9 := (show Hid _ from hP9)
        have HPL := (show Hid _ from hPL)
        clear hle hI hE0 hP9 hP hL1 hS1 hk15 HD HV0 hPL
        · skip
          · skip
            go_upto_if 64 with fail
            go_cut [2] from 39 (fun u2 wd => ∃ (tm : Nat) (tz : List Bool), u2 = .slice ta tm tc ∧ tm ≤ 300 ∧ SlBo w ta tm tc tz ∧ wr = wd)
            case first =>
              by_cases hbig : 300 < tn
              · have gb : (tn : Int) > 300 := by omega
                have hsl3 := slice_bo ta tn tc (by have := HT.out.cap; omega)
                go_wp2
                go_meet
                exact ⟨300, ts.take 300, rfl, by omega, HT.out.take hbig, rfl⟩
              · have gb : ¬ (tn : Int) > 300 := by omega
                go_wp2
                go_meet
                exact ⟨tn, ts, rfl, by omega, HT.out, rfl⟩
            obtain ⟨tm, tz, rfl, hbig, ht, rfl⟩ := hcut
            have HT := (show Hid _ from ht)
            clear ht
            go_wp2_with fail
            refine Calls.mono HLE.out ?_
            rintro e w3 ⟨rfl, hb3⟩
            obtain ⟨W4, hW4⟩ : ∃ W4, W4 = w3.alloc (.cells (madeCells #[.bool false] (P.length + 1)) 4) := ⟨_, rfl⟩
            obtain ⟨W5, hW5⟩ : ∃ W5, W5 = W4.alloc (.cells (madeCells #[.string ⟨#[]⟩] P.length) 9) := ⟨_, rfl⟩
            have b4 : Below w3.heap.size w3 W4 := by rw [hW4]; exact (Below.refl _ _).alloc (Nat.le_refl _) _
            have b5 : Below W4.heap.size W4 W5 := by rw [hW5]; exact (Below.refl _ _).alloc (Nat.le_refl _) _
            have b45 : Below w3.heap.size w3 W5 := b4.trans (b5.mono b4.size)
            have b35 : Below wr.heap.size wr W5 := hb3.trans (b45.mono hb3.size)
            obtain ⟨bc, hbc⟩ : ∃ b, b = w3.heap.size := ⟨_, rfl⟩
            have z4 : W4.heap.size = w3.heap.size + 1 := by rw [hW4]; simp
            obtain ⟨bd, hbd⟩ : ∃ b, b = w3.heap.size + 1 := ⟨_, rfl⟩
            have HE0 : Hid (EnT w q c0 bc bd nx P 0 0 W5) := ⟨0, fun _ => false, fun _ => ⟨#[]⟩, L, by
                unfold enM
                rw [if_pos (by decide)]
                split <;> omega, by omega, HI.out.2, fun _ _ => rfl, ⟨_, by rw [Nat.add_zero, Nat.mod_eq_of_lt hc2]; exact HI.out.1.qu.below b35⟩,
                by rw [hbc]; exact (RoW.made w3 (.bool false) 4 (P.length + 1) W4 hW4).below b5, by rw [hbd, ← z4]; exact RoW.made W4 (.string ⟨#[]⟩) 9 P.length W5 hW5,
                fun _ _ _ => .inl rfl, HI.out.1.bl.trans (b35.mono HI.out.1.bl.size), by rw [hbc]; exact Nat.le_trans HI.out.1.bl.size hb3.size, by rw [hbd, ← z4]; exact Nat.le_trans HI.out.1.bl.size (Nat.le_trans hb3.size b4.size)⟩
            have HW4 := (show Hid _ from hW4)
            have HW5 := (show Hid _ from hW5)
            have HBC := (show Hid _ from And.intro hbc hbd)
            clear hb3 hW4 hW5 b4 b5 b45 b35 hbc hbd z4 HI HLE
            go_wp2
            rw [← HW4.out, ← HW5.out, ← HBC.out.2, ← HBC.out.1]
            clear HW4 HW5 HBC hmk1 hmk2
            go_loopw [14, 15] (fun kv tv wr2 => ∃ (t k : Nat), tv = .int .i64 (t : Nat) ∧ kv = .int .i64 (k : Nat) ∧ EnT w q c0 bc bd nx P t k wr2) (fun _ u _ => 2000 - (intOf u).toNat)
            case atStart => exact ⟨0, 0, rfl, rfl, HE0.out⟩
            case round =>
              obtain ⟨t, kk, rfl, rfl, ⟨g, cm, d, L2, hM, hk, hE, hov, hW⟩⟩ := hrel
              have ht3 : (t : Int) < 2000 := by omega
              have hlen := hE.len
              have hz9 : ∀ x ∈ L2, x.1.zs.length ≤ 9 := fun x hx => by
                obtain ⟨i, hi⟩ := List.getElem?_of_mem hx
                obtain ⟨p, hp⟩ := hE.pc hi
                rw [(hE.at_ i x p hi hp).2.1]
                exact (HP9.out _ p hp).2
              have hS9 := sumL_nine hz9
              have hL2 : L2.length ≤ 100000 := by omega
              have hS2 : sumL L2 L2.length ≤ 100000 := by omega
              obtain ⟨D2, hq2⟩ := hW.qu
              have hleft := left_own hq2 hL2 hS2
              have HLF := (show Hid _ from hleft)
              obtain ⟨cu, hcu⟩ : ∃ x, x = (c0 + g) % 4294967296 := ⟨_, rfl⟩
              by_cases hl0 : L2.length = 0
              · have hnil : L2 = [] := List.length_eq_zero_iff.1 hl0
                subst hnil
                have hgP : g = P.length := by simpa using hlen
                have hF0 := fun (W : World) (hb : Below wr.heap.size wr W) => flight_own (hq2.below hb) hL2 hS2 0
                have hF1 := fun (W : World) (hb : Below wr.heap.size wr W) => flight_own (hq2.below hb) hL2 hS2 1
                have hCu := fun (W : World) (hb : Below wr.heap.size wr W) => cum_own (hq2.below hb)
                have hbl := hW.bl
                have u1 : IntKind.u32.wrap (P.length : Int) = (P.length : Int) := by rw [IntKind.wrap_u32]; omega
                obtain ⟨v, hv⟩ : ∃ v, v = (first + P.length) % 4294967296 := ⟨_, rfl⟩
                have u2 : IntKind.u32.wrap ((first : Int) + (P.length : Int)) = (v : Int) := by rw [hv, IntKind.wrap_u32]; omega
                have u3 : IntKind.u32.wrap ((v : Int) - 1) = (((c0 + g) % 4294967296 : Nat) : Int) := by rw [hv, HC1.out, hgP, IntKind.wrap_u32]; omega
                rw [← hcu] at u3 hCu
                have HF := (show Hid _ from And.intro hF0 (And.intro hF1 (And.intro hCu hbl)))
                clear hF0 hF1 hCu hleft hW hq2 hE hov hM hk hz9 hS9 hL2 hS2 hv hbl
                go_wp2_with fail
                refine Calls.mono HLF.out ?_
                rintro e w6 ⟨rfl, hb6⟩
                clear HLF
                go_wp2_with fail
                refine Calls.mono (live14_any w6) ?_
                rintro e w7 ⟨rfl, hb7⟩
                have hb67 := hb6.trans (hb7.mono hb6.size)
                clear hb6 hb7
                go_wp2_with fail
                refine Calls.mono (HF.out.1 w7 hb67) ?_
                rintro e w8 ⟨rfl, hb8⟩
                have hb68 := hb67.trans (hb8.mono hb67.size)
                clear hb67 hb8
                go_wp2_with fail
                refine Calls.mono (HF.out.2.1 w8 hb68) ?_
                rintro e w9 ⟨rfl, hb9⟩
                have hb69 := hb68.trans (hb9.mono hb68.size)
                clear hb68 hb9
                go_wp2_with fail
                refine Calls.mono (HF.out.2.2.1 w9 hb69) ?_
                rintro e w10 ⟨rfl, hb10⟩
                have hb610 := hb69.trans (hb10.mono hb69.size)
                have HB : Hid (Below w.heap.size w w10) := HF.out.2.2.2.trans (hb610.mono HF.out.2.2.2.size)
                clear hb69 hb10 hb610 HF
                go_wp2
                go_ret
                exact ⟨rfl, HB.out⟩
              · have hgl : g < P.length := by omega
                obtain ⟨wy, hwy⟩ : ∃ wy, wy = t % 2 := ⟨_, rfl⟩
                have hwm : (t : Int) % 2 = (wy : Int) := by omega
                have hwm2 : Int.tmod (t : Int) 2 = (wy : Int) := by rw [Int.tmod_eq_emod_of_nonneg (by omega)]; exact hwm
                have hwy2 : wy < 2 := by omega
                have hl0' : ((L2.length : Int) == 0) = false := by simp; exact fun e => hl0 (by rw [e]; rfl)
                have hl0'' : ¬ (L2.length : Int) = 0 := by omega
                have hse := fun (W : World) (hb : Below wr.heap.size wr W) => send_own (hq2.below hb) hL2 hS2 wy 50 100 hwy2 (by omega)
                have HSE := (show Hid _ from hse)
                rw [← hcu] at hW
                have HR := (show Hid _ from And.intro hW (And.intro hE (And.intro hov (And.intro hM (And.intro hk (And.intro hz9 hwy2))))))
                have HCU := (show Hid _ from hcu)
                clear hse hleft hW hq2 hE hov hM hk hz9 hS9 hL2 hS2 hwy hcu hwy2 HE0
                go_wp2_with fail
                refine Calls.mono HLF.out ?_
                rintro e w6 ⟨rfl, hb6⟩
                have HSE6 := (show Hid _ from HSE.out w6 hb6)
                have HW6 := (show Hid _ from HR.out.1.below hb6)
                clear HLF HSE hb6
                go_wp2_with fail
                refine Calls.mono HSE6.out ?_
                rintro e w7 ⟨⟨sa, sc, ys, rfl, hct, hcd, hys⟩, hq7, hf7⟩
                obtain ⟨K, hK⟩ : ∃ K, K = sndK L2 50 100 (airL L2 2) := ⟨_, rfl⟩
                obtain ⟨M, hMd⟩ : ∃ M, M = mapTo (sndF wy) L2 K := ⟨_, rfl⟩
                obtain ⟨lo, hlo⟩ : ∃ lo, lo = w6.heap.size := ⟨_, rfl⟩
                obtain ⟨yn, hyn⟩ : ∃ m, m = ys.length := ⟨_, rfl⟩
                have hyl : yn = ((L2.take K).filter dueB).length := by
                  have := congrArg List.length hys
                  rw [List.length_map, List.length_map] at this
                  rw [hyn, hK]
                  exact this
                have hy180 : yn ≤ 180 := by
                  rw [hyl]
                  refine Nat.le_trans (List.length_filter_le _ _) ?_
                  rw [List.length_take]
                  omega
                rw [← hyn]
                have hW7 : EnW w q cu bc bd nx P cm d M w7 := by
                  rw [hMd, hK, HCU.out]
                  exact HW6.out.call hf7 ⟨_, hq7⟩
                have HL0 : Hid (EnL w q cu bc bd nx P g cm L2 M K c0 kk lo sa sc ys 0 cm d w7) := EnL.start hW7 HR.out.2.2.1 (by rw [hlo]; exact ⟨hct, hcd⟩)
                rw [← hK] at hys
                have HY := (show Hid _ from And.intro hys (And.intro hyn (And.intro hyl (And.intro hK hMd))))
                have hkk : kk ≤ 360000 := by have := HR.out.2.2.2.2.1; omega
                clear HSE6 HW6 hct hcd hys hq7 hf7 hK hMd hlo hyn hyl hW7
                go_wp2
                go_loopw [14, 20] (fun kv iv wr3 => ∃ i : Nat, i ≤ yn ∧ kv = .int .i64 ((kk + i : Nat) : Int) ∧ iv = .int .i64 (i : Nat) ∧ ∃ ci d, EnL w q cu bc bd nx P g cm L2 M K c0 kk lo sa sc ys i ci d wr3) (fun _ u _ => yn - (intOf u).toNat)
                case atStart => exact ⟨0, by omega, rfl, rfl, _, _, HL0.out⟩
                case round =>
                  obtain ⟨i, hiy, rfl, rfl, ci, dt, hL⟩ := hrel
                  by_cases hi : i < yn
                  · obtain ⟨y, hy⟩ : ∃ y, ys[i]? = some y := ⟨_, List.getElem?_eq_getElem (by have := HY.out.2.1; omega)⟩
                    obtain ⟨A, p, hgA, hAP, hpA, hyz, hyt, hsn⟩ := ends_one HR.out.2.1 HP9.out HY.out.1 hy
                    obtain ⟨gch, rfl, _, hgch, hsc, c2, c13⟩ := hL.hc.at_ hy
                    have hyn2 : yn ≤ sc := by have := HY.out.2.1; omega
                    have hob := hL.hc.cd y (List.mem_of_getElem? hy)
                    have hp9 := (HP9.out A p hpA).2
                    have cd := hL.hw.dt.cl A hAP
                    have cc := hL.hw.cm.cl A (by omega)
                    have fd := hL.hw.dt.fz A
                    have fc := hL.hw.cm.fz A
                    have hdk := hL.hw.dk A p hpA
                    have hHY := (show Hid _ from And.intro hy (And.intro hpA (And.intro hgA (And.intro hsn hyt))))
                    have HL := (show Hid _ from hL)
                    obtain ⟨⟨tt, ff, st, ss, pp, zs, is, wz, ms⟩, ya, yc⟩ := y
                    obtain rfl : zs = p.zs := hyz
                    obtain ⟨pn, hpn⟩ : ∃ m, m = p.zs.length := ⟨_, rfl⟩
                    dsimp only at c2 c13 hyt hob
                    rw [← hpn] at c13 hob hp9
                    have uA : IntKind.u32.wrap ((tt : Int) - (first : Int)) = (A : Int) := ends_at HC1.out hf (by omega) hyt
                    have a0 : ¬ (A : Int) < 0 := by omega
                    have a1 : ¬ (A : Int) ≥ (P.length : Int) := by omega
                    have a2 : (A : Int) < (P.length : Int) := by omega
                    have a3 : (0 : Int) ≤ (A : Int) := by omega
                    have a4 : (A : Int) < (P.length : Int) + 1 := by omega
                    have i0 : (0 : Int) ≤ (i : Int) := by omega
                    have i1 : (i : Int) < (yn : Int) := by omega
                    have hsl := hob.sl (by omega)
                    have cv := conv_str hsl
                    have HSL := (show Hid _ from And.intro hsl hpn)
                    clear hob hsl hgA hsn hyt hpA hy hL hpn
                    by_cases hd0 : dt A = ⟨#[]⟩
                    · clear h1; (repeat revert ‹_›); intro h0; exact h0.out
                    · clear h0; (repeat revert ‹_›); intro h1; exact h1.out
                  · clear h0 h1
                    obtain rfl : i = yn := by omega
                    have i1 : ¬ (i : Int) < (i : Int) := by omega
                    obtain ⟨m, hmP, hm1, hm2⟩ := first_no ci P.length hL.ov
                    have hgm := HR.out.2.1.before hL.em hm2
                    obtain ⟨tS, htS⟩ : ∃ x, x = (c0 + m) % 4294967296 := ⟨_, rfl⟩
                    have v1 : IntKind.u32.wrap (m : Int) = (m : Int) := by rw [IntKind.wrap_u32]; omega
                    obtain ⟨v, hv⟩ : ∃ v, v = (first + m) % 4294967296 := ⟨_, rfl⟩
                    have v2 : IntKind.u32.wrap ((first : Int) + (m : Int)) = (v : Int) := by rw [hv, IntKind.wrap_u32]; omega
                    have v3 : IntKind.u32.wrap ((v : Int) - 1) = (tS : Int) := by rw [hv, htS, HC1.out, IntKind.wrap_u32]; omega
                    have HEM := (show Hid _ from And.intro hL.em (And.intro hL.ov (And.intro hm1 (And.intro hm2 (And.intro htS hgm)))))
                    have HAL := (show Hid _ from fun h => EnL.all (by rw [← HY.out.2.1]; exact hL) HR.out.2.1 HP9.out HY.out.1 h)
                    have HW0 := (show Hid _ from hL.hw)
                    clear hL hm1 hm2 htS hv hi hgm HL0
                    go_wp2
                    go_loopw [22] (fun cv wr4 => ∃ x : Nat, x ≤ m ∧ cv = .int .i64 (x : Nat) ∧ EnW w q cu bc bd nx P ci dt M wr4) (fun u _ => m + 1 - (intOf u).toNat)
                    case atStart => exact ⟨0, by omega, rfl, HW0.out⟩
                    case round =>
                      obtain ⟨x, hxm, rfl, hW4⟩ := hrel
                      have cc := hW4.cm.cl x (by omega)
                      have x0 : (0 : Int) ≤ (x : Int) := by omega
                      have x1 : (x : Int) < (P.length : Int) + 1 := by omega
                      have HW4 := (show Hid _ from hW4)
                      by_cases hxl : x < m
                      · rw [HEM.out.2.2.1 x hxl] at cc
                        clear hW4
                        go_wp2
                        go_roundw
                        case rel => exact ⟨x + 1, by omega, by go_num, HW4.out⟩
                        case measure => simp [intOf]; omega
                      · obtain rfl : m = x := by omega
                        rw [HEM.out.2.2.2.1] at cc
                        obtain ⟨W8, hW8⟩ : ∃ W8, W8 = wr.alloc (.cells #[.int .u8 3, .int .u8 0, .int .u32 (tS : Nat), .int .u16 0, .int .u16 0, .int .u32 0, .int .u32 0, .int .u32 0, .int .u16 0, .int .u16 0, .slice none 0 0, .slice none 0 0, .slice none 0 0, .slice none 0 0] 47) := ⟨_, rfl⟩
                        have b8 : Below wr.heap.size wr W8 := by rw [hW8]; exact (Below.refl _ _).alloc (Nat.le_refl _) _
                        obtain ⟨bx, hbx⟩ : ∃ b, b = wr.heap.size := ⟨_, rfl⟩
                        have HK0 : Hid (EnK w q cu bc bd nx P ci dt M bx tS m 0 none 0 W8) := ⟨HW4.out.below b8, by rw [hbx, hW8]; exact ⟨_, _, World.alloc_heap_new wr _⟩, by rw [hbx]; exact Stc.new wr (skV tS none 0 0) 47 W8 hW8, OwnG.nil _ _, by rw [hbx]; exact HW4.out.bl.size⟩
                        have HW8 := (show Hid _ from And.intro hW8 hbx)
                        clear hW4 b8 hW8 hbx
                        go_wp2
                        rw [← HW8.out.1, ← HW8.out.2]
                        clear HW8 cc HW4 hxl hxm x0 x1
                        go_loopw [24] (fun av wr5 => ∃ (j : Nat) (ba : Option Addr) (bk : Nat), m + j ≤ P.length ∧ (blks ci m j).length ≤ 16 ∧ av = .int .i64 ((m + j : Nat) : Int) ∧ EnK w q cu bc bd nx P ci dt M bx tS m j ba bk wr5) (fun u _ => P.length - (intOf u).toNat)
                        case atStart => exact ⟨0, none, 0, by omega, Nat.zero_le _, rfl, HK0.out⟩
                        case round =>
                          obtain ⟨j, ba, bk, hjP, hb16, rfl, hK⟩ := hrel
                          obtain ⟨bn, hbn⟩ : ∃ b, b = (blks ci m j).length := ⟨_, rfl⟩
                          have c10 : wr.cell? ⟨bx, 10, none⟩ = some (.slice ba bn bk) := by rw [hbn]; exact hK.sx.cell 10 _ rfl
                          have f10 := hK.sx.free 10
                          by_cases hlt : m + j < P.length ∧ bn < 16
                          · obtain ⟨hlt1, hlt2⟩ := hlt
                            have g1 : (m : Int) + (j : Int) < (P.length : Int) := by omega
                            have g2 : (bn : Int) < 16 := by omega
                            have g0 : (0 : Int) ≤ (m : Int) + (j : Int) := by omega
                            have g4 : (m : Int) + (j : Int) < (P.length : Int) + 1 := by omega
                            have cc5 := hK.hw.cm.cl (m + j) (by omega)
                            cases hcj : ci (m + j) with
                            | true =>
                              rw [hcj] at cc5
                              have e1 : (m : Int) + (j : Int) - (m : Int) = (j : Int) := by omega
                              have e2 : IntKind.u16.wrap ((j : Int) + 1) = (j : Int) + 1 := by rw [IntKind.wrap_u16]; omega
                              obtain ⟨Va, hVa⟩ : ∃ Va, Va = wr.alloc (.cells #[.int .u16 ((j + 1 : Nat) : Int), .int .u16 ((j + 1 : Nat) : Int)] 55) := ⟨_, rfl⟩
                              obtain ⟨g5, c5, Vb, hrun, hsb, hel, hK2⟩ := hK.push hcj (by omega) Va hVa
                              have cb10 : Vb.cell? ⟨bx, 10, none⟩ = some (.slice ba bn bk) := by rw [hbn]; exact hsb.cell 10 _ rfl
                              have fb10 := hsb.free 10
                              rw [← hbn] at hrun hel hK2
                              have happ := hrun 43
                              rw [hVa, show (((j + 1 : Nat)) : Int) = (j : Int) + 1 from by omega] at happ
                              have HK2 := (show Hid _ from And.intro hK2 hel)
                              clear hrun hK2 hel hsb hK hVa hbn
                              go_wp2_with (at_builtin; refine app_eqE rfl _ _ rfl rfl rfl rfl happ ?_)
                              go_roundw
                              case rel => exact ⟨j + 1, _, _, by omega, by rw [HK2.out.2]; omega, by go_num, HK2.out.1⟩
                              case measure => simp [intOf]; omega
                            | false =>
                              rw [hcj] at cc5
                              have hK2 := hK.skip hcj
                              have hel : (blks ci m (j + 1)).length = (blks ci m j).length := by
                                show (if ci (m + j) = true then _ else _ : List (Nat × Nat)).length = _
                                rw [if_neg (by rw [hcj]; decide)]
                              have HK2 := (show Hid _ from And.intro hK2 hel)
                              clear hK hK2 hel
                              go_wp2
                              go_roundw
                              case rel => exact ⟨j + 1, _, _, by omega, by rw [HK2.out.2]; omega, by go_num, HK2.out.1⟩
                              case measure => simp [intOf]; omega
                          · rcases (show ¬ m + j < P.length ∨ (m + j < P.length ∧ bn = 16) by omega) with h1 | ⟨h1, h2⟩
                            · have g1 : ¬ (m : Int) + (j : Int) < (P.length : Int) := by omega
                              have hend : m + j = P.length ∨ (blks ci m j).length = 16 := .inl (by omega)
                              clear h1 hlt
                              have hA := ends_ack HR.out.2.1 HEM.out.1 HEM.out.2.1 HR.out.2.2.2.2.2.2 HEM.out.2.2.1 HEM.out.2.2.2.1 (show m ≤ P.length by omega) hb16 hend
                              have hsk := ends_sack hK HY.out.2.2.2.2 hA.1 hA.2.1 hA.2.2 hb16 HCU.out HEM.out.2.2.2.2.1 HEM.out.2.2.2.2.2 hjP h180 HR.out.2.2.2.2.2.1
                              have q0 : wr.cell? ⟨bx, 0, none⟩ = some (.int .u8 3) := hK.sx.cell 0 _ rfl
                              have q1 : wr.cell? ⟨bx, 1, none⟩ = some (.int .u8 0) := hK.sx.cell 1 _ rfl
                              have q2 : wr.cell? ⟨bx, 2, none⟩ = some (.int .u32 (tS : Nat)) := hK.sx.cell 2 _ rfl
                              have q3 : wr.cell? ⟨bx, 3, none⟩ = some (.int .u16 0) := hK.sx.cell 3 _ rfl
                              have q4 : wr.cell? ⟨bx, 4, none⟩ = some (.int .u16 0) := hK.sx.cell 4 _ rfl
                              have q5 : wr.cell? ⟨bx, 5, none⟩ = some (.int .u32 0) := hK.sx.cell 5 _ rfl
                              have q6 : wr.cell? ⟨bx, 6, none⟩ = some (.int .u32 0) := hK.sx.cell 6 _ rfl
                              have q7 : wr.cell? ⟨bx, 7, none⟩ = some (.int .u32 0) := hK.sx.cell 7 _ rfl
                              have q8 : wr.cell? ⟨bx, 8, none⟩ = some (.int .u16 0) := hK.sx.cell 8 _ rfl
                              have q9 : wr.cell? ⟨bx, 9, none⟩ = some (.int .u16 0) := hK.sx.cell 9 _ rfl
                              have q11 : wr.cell? ⟨bx, 11, none⟩ = some (.slice none 0 0) := hK.sx.cell 11 _ rfl
                              have q12 : wr.cell? ⟨bx, 12, none⟩ = some (.slice none 0 0) := hK.sx.cell 12 _ rfl
                              have q13 : wr.cell? ⟨bx, 13, none⟩ = some (.slice none 0 0) := hK.sx.cell 13 _ rfl
                              rw [← hbn] at hsk
                              have HSK := (show Hid _ from hsk)
                              have HA := (show Hid _ from hA.1)
                              clear hsk hA hK hbn f10 hend hb16
                              go_wp2_with fail
                              refine Calls.mono HSK.out ?_
                              rintro e W9 ⟨⟨x9, y9, u9, v9, rfl⟩, hW9⟩
                              clear HSK q0 q1 q2 q3 q4 q5 q6 q7 q8 q9 c10 q11 q12 q13
                              have HW10 : Hid (EnW w q tS bc bd nx P ci dt (skM (blks ci m j) (m - g) M) (W9.alloc (.cells #[.int .i64 (x9 : Nat), .int .i64 (y9 : Nat), .bool u9, .bool v9] 58))) := hW9.below ((Below.refl _ _).alloc (Nat.le_refl _) _)
                              obtain ⟨W10, hW10⟩ : ∃ W10, W10 = W9.alloc (.cells #[.int .i64 (x9 : Nat), .int .i64 (y9 : Nat), .bool u9, .bool v9] 58) := ⟨_, rfl⟩
                              rw [← hW10] at HW10
                              clear hW9
                              by_cases hi0 : i = 0
                              · have e0 : ((i : Int) == 0) = true := by rw [hi0]; rfl
                                have HX1 := (show Hid _ from ends_exp HW10.out (by have := HA.out.next.len; rw [HY.out.2.2.2.2]; omega) 0 (by decide) (by decide))
                                go_wp2_with fail
                                rw [← hW10]
                                refine Calls.mono HX1.out ?_
                                rintro e W11 ⟨⟨x11, rfl⟩, hW11⟩
                                have HX2 := (show Hid _ from ends_exp hW11 (by rw [List.length_map]; have := HA.out.next.len; rw [HY.out.2.2.2.2]; omega) 1 (by decide) (by decide))
                                clear hW11 HX1 hW10
                                go_wp2_with fail
                                refine Calls.mono HX2.out ?_
                                rintro e W12 ⟨⟨x12, rfl⟩, hW12⟩
                                have HT2 : Hid (EnT w q c0 bc bd nx P (t + 1) (kk + i) W12) := ends_turn HA.out (fun p hp => by obtain ⟨a, ha⟩ := List.getElem?_of_mem hp; exact (HP9.out a p ha).2) HY.out.2.2.2.1 hgl HY.out.2.2.1 HAL.out HR.out.2.2.2.1 HR.out.2.2.2.2.1 hy180 HEM.out.2.2.2.2.2 HEM.out.2.1 HEM.out.2.2.2.2.1 (by unfold turnL; rw [if_pos hi0, HY.out.2.2.2.2]; rfl) hW12
                                clear hW12 HX2
                                go_wp2
                                go_roundw
                                case rel => exact ⟨t + 1, kk + i, by go_num, by go_num, HT2.out⟩
                                case measure => simp [intOf]; omega
                              · have e0 : ((i : Int) == 0) = false := by simpa using hi0
                                have e1 : ¬ (i : Int) = 0 := by omega
                                have HT2 : Hid (EnT w q c0 bc bd nx P (t + 1) (kk + i) W10) := ends_turn HA.out (fun p hp => by obtain ⟨a, ha⟩ := List.getElem?_of_mem hp; exact (HP9.out a p ha).2) HY.out.2.2.2.1 hgl HY.out.2.2.1 HAL.out HR.out.2.2.2.1 HR.out.2.2.2.2.1 hy180 HEM.out.2.2.2.2.2 HEM.out.2.1 HEM.out.2.2.2.2.1 (by unfold turnL; rw [if_neg hi0, HY.out.2.2.2.2]) HW10.out
                                go_wp2
                                rw [← hW10]
                                go_roundw
                                case rel => exact ⟨t + 1, kk + i, by go_num, by go_num, HT2.out⟩
                                case measure => simp [intOf]; omega
                            · have g1 : (m : Int) + (j : Int) < (P.length : Int) := by omega
                              have g2 : ¬ (bn : Int) < 16 := by omega
                              have hend : m + j = P.length ∨ (blks ci m j).length = 16 := .inr (by omega)
                              clear h1 h2 hlt
                              have hA := ends_ack HR.out.2.1 HEM.out.1 HEM.out.2.1 HR.out.2.2.2.2.2.2 HEM.out.2.2.1 HEM.out.2.2.2.1 (show m ≤ P.length by omega) hb16 hend
                              have hsk := ends_sack hK HY.out.2.2.2.2 hA.1 hA.2.1 hA.2.2 hb16 HCU.out HEM.out.2.2.2.2.1 HEM.out.2.2.2.2.2 hjP h180 HR.out.2.2.2.2.2.1
                              have q0 : wr.cell? ⟨bx, 0, none⟩ = some (.int .u8 3) := hK.sx.cell 0 _ rfl
                              have q1 : wr.cell? ⟨bx, 1, none⟩ = some (.int .u8 0) := hK.sx.cell 1 _ rfl
                              have q2 : wr.cell? ⟨bx, 2, none⟩ = some (.int .u32 (tS : Nat)) := hK.sx.cell 2 _ rfl
                              have q3 : wr.cell? ⟨bx, 3, none⟩ = some (.int .u16 0) := hK.sx.cell 3 _ rfl
                              have q4 : wr.cell? ⟨bx, 4, none⟩ = some (.int .u16 0) := hK.sx.cell 4 _ rfl
                              have q5 : wr.cell? ⟨bx, 5, none⟩ = some (.int .u32 0) := hK.sx.cell 5 _ rfl
                              have q6 : wr.cell? ⟨bx, 6, none⟩ = some (.int .u32 0) := hK.sx.cell 6 _ rfl
                              have q7 : wr.cell? ⟨bx, 7, none⟩ = some (.int .u32 0) := hK.sx.cell 7 _ rfl
                              have q8 : wr.cell? ⟨bx, 8, none⟩ = some (.int .u16 0) := hK.sx.cell 8 _ rfl
                              have q9 : wr.cell? ⟨bx, 9, none⟩ = some (.int .u16 0) := hK.sx.cell 9 _ rfl
                              have q11 : wr.cell? ⟨bx, 11, none⟩ = some (.slice none 0 0) := hK.sx.cell 11 _ rfl
                              have q12 : wr.cell? ⟨bx, 12, none⟩ = some (.slice none 0 0) := hK.sx.cell 12 _ rfl
                              have q13 : wr.cell? ⟨bx, 13, none⟩ = some (.slice none 0 0) := hK.sx.cell 13 _ rfl
                              rw [← hbn] at hsk
                              have HSK := (show Hid _ from hsk)
                              have HA := (show Hid _ from hA.1)
                              clear hsk hA hK hbn f10 hend hb16
                              go_wp2_with fail
                              refine Calls.mono HSK.out ?_
                              rintro e W9 ⟨⟨x9, y9, u9, v9, rfl⟩, hW9⟩
                              clear HSK q0 q1 q2 q3 q4 q5 q6 q7 q8 q9 c10 q11 q12 q13
                              have HW10 : Hid (EnW w q tS bc bd nx P ci dt (skM (blks ci m j) (m - g) M) (W9.alloc (.cells #[.int .i64 (x9 : Nat), .int .i64 (y9 : Nat), .bool u9, .bool v9] 58))) := hW9.below ((Below.refl _ _).alloc (Nat.le_refl _) _)
                              obtain ⟨W10, hW10⟩ : ∃ W10, W10 = W9.alloc (.cells #[.int .i64 (x9 : Nat), .int .i64 (y9 : Nat), .bool u9, .bool v9] 58) := ⟨_, rfl⟩
                              rw [← hW10] at HW10
                              clear hW9
                              by_cases hi0 : i = 0
                              · have e0 : ((i : Int) == 0) = true := by rw [hi0]; rfl
                                have HX1 := (show Hid _ from ends_exp HW10.out (by have := HA.out.next.len; rw [HY.out.2.2.2.2]; omega) 0 (by decide) (by decide))
                                go_wp2_with fail
                                rw [← hW10]
                                refine Calls.mono HX1.out ?_
                                rintro e W11 ⟨⟨x11, rfl⟩, hW11⟩
                                have HX2 := (show Hid _ from ends_exp hW11 (by rw [List.length_map]; have := HA.out.next.len; rw [HY.out.2.2.2.2]; omega) 1 (by decide) (by decide))
                                clear hW11 HX1 hW10
                                go_wp2_with fail
                                refine Calls.mono HX2.out ?_
                                rintro e W12 ⟨⟨x12, rfl⟩, hW12⟩
                                have HT2 : Hid (EnT w q c0 bc bd nx P (t + 1) (kk + i) W12) := ends_turn HA.out (fun p hp => by obtain ⟨a, ha⟩ := List.getElem?_of_mem hp; exact (HP9.out a p ha).2) HY.out.2.2.2.1 hgl HY.out.2.2.1 HAL.out HR.out.2.2.2.1 HR.out.2.2.2.2.1 hy180 HEM.out.2.2.2.2.2 HEM.out.2.1 HEM.out.2.2.2.2.1 (by unfold turnL; rw [if_pos hi0, HY.out.2.2.2.2]; rfl) hW12
                                clear hW12 HX2
                                go_wp2
                                go_roundw
                                case rel => exact ⟨t + 1, kk + i, by go_num, by go_num, HT2.out⟩
                                case measure => simp [intOf]; omega
                              · have e0 : ((i : Int) == 0) = false := by simpa using hi0
                                have e1 : ¬ (i : Int) = 0 := by omega
                                have HT2 : Hid (EnT w q c0 bc bd nx P (t + 1) (kk + i) W10) := ends_turn HA.out (fun p hp => by obtain ⟨a, ha⟩ := List.getElem?_of_mem hp; exact (HP9.out a p ha).2) HY.out.2.2.2.1 hgl HY.out.2.2.1 HAL.out HR.out.2.2.2.1 HR.out.2.2.2.2.1 hy180 HEM.out.2.2.2.2.2 HEM.out.2.1 HEM.out.2.2.2.2.1 (by unfold turnL; rw [if_neg hi0, HY.out.2.2.2.2]) HW10.out
                                go_wp2
                                rw [← hW10]
                                go_roundw
                                case rel => exact ⟨t + 1, kk + i, by go_num, by go_num, HT2.out⟩
                                case measure => simp [intOf]; omega
end Go.Proofs.Ytconfmjgoipejaa
