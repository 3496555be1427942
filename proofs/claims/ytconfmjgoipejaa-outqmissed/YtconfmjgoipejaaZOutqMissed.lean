/-
  Whatever the input, trunklinelaw14.OutqMissed answers true and leaves what it was handed as it was.
  (The statement is Rows.OutqMissedSaid; no condition of our own.)
-/
import Derived.Test.YtconfmjgoipejaaKH
import Derived.Test.YtconfmjgoipejaaKJ
import Derived.Test.YtconfmjgoipejaaRows
import Derived.ProofKit
import Derived.OpenShut
import Derived.ShutString
import Derived.ChangeOld
import Derived.SizedLaws
namespace Go.Proofs.Ytconfmjgoipejaa
open Go.RowKit Go.Shelf
structure MisI (w : World) (B q c0 k n : Nat) (W : World) : Prop where
  ex : ∃ L D, OwQ B D q L c0 1 [1] W ∧ L.map (·.1) = misS c0 k n
  bel : Below w.heap.size w W
theorem own_bel {B : Nat} {w W W' : World} (hb : Below w.heap.size w W) (hB : w.heap.size ≤ B) (hf : Fr (qT B W) W W') : Below w.heap.size w W' := hb.trans (Fr.below hf _ hb.size (fun _ hk => Nat.le_trans hB hk.1))
set_option maxRecDepth 100000 in
set_option maxHeartbeats 8000000 in
theorem walk_OutqMissed (first x : Nat) (w : World) (hf : first < 4294967296) (hx : x < 256) :
    Calls Try.prog 6 #[.int .u32 (first : Nat), .int .u8 (x : Nat)] w fun e w' => e = .returned (.bool true) ∧ Below w.heap.size w w' := by
  have hnew := onew_ok first 1 1 w hf (by decide) (by decide) (by decide) (by decide)
  obtain ⟨k, hk⟩ : ∃ k, k = 1 + x % 9 := ⟨_, rfl⟩
  have hk1 : 1 ≤ k := by omega
  have hk9 : k ≤ 9 := by omega
  have hkx : 1 + (x : Int) % 9 = (k : Int) := by omega
  have hmk : ∀ w, (Instr.makeSlice 36 (.int .i64 ((k : Int) + 2)) (.int .i64 ((k : Int) + 2))).run Try.prog w = .ok (.slice (some ⟨w.heap.size, 0, none⟩) (k + 2) (k + 2)) (w.alloc (.cells (madeCells #[.int .u8 0] (k + 2)) 5)) := fun w => mkn (k + 2) (by omega) w
  obtain ⟨c0, hc0⟩ : ∃ c, c = addV 4294967296 first (-1) := ⟨_, rfl⟩
  have hc1 : c0 = (first + 4294967295) % 4294967296 := by rw [hc0]; unfold addV; omega
  have hc2 : c0 < 4294967296 := by omega
  rw [← hc0] at hnew
  have hwc : IntKind.u32.wrap ((first : Int) - 1) = (c0 : Int) := by rw [hc1, IntKind.wrap_u32]; omega
  have HC1 := (show Hid _ from hc1)
  clear hk hc0 hc1
  go_enter Try.func6, Try.ntmps6
  go_wp2_with fail
  refine Calls.mono hnew ?_
  rintro e w1 hN
  obtain ⟨q, rfl, hq⟩ := OwQ.new hN
  have hb1 := hN.bel
  obtain ⟨w2, hw2⟩ : ∃ w2, w2 = w1.alloc (.cells (madeCells #[.int .u8 0] (k + 2)) 5) := ⟨_, rfl⟩
  have b2 : Below w1.heap.size w1 w2 := by rw [hw2]; exact (Below.refl _ _).alloc (Nat.le_refl _) _
  have o2 : OwnB w2 w1.heap.size (some ⟨w1.heap.size, 0, none⟩) (k + 2) (k + 2) (List.replicate (k + 2) 0) := by rw [hw2]; exact own_full w1 (k + 2) (by omega)
  have hcm : cntN (k + 2) 1 = k + 2 := by unfold cntN; omega
  have hpu := push_own (hq.below b2) (by decide) (by decide) hc2 (by decide) (by decide) (fun i => by
    rcases i with _ | i
    · decide
    · simp) 0 0 0 false (by decide) (o2.sl (by omega)) (fun b o s e => by
    injection e with e
    injection e with e1 _ _
    subst e1
    exact ⟨(o2.bt _ rfl).lt, .inr ⟨_, o2.bt _ rfl, by decide, by decide, by decide⟩⟩) (by
    have e : sumL ([] : List PcA) ([] : List PcA).length = 0 := rfl
    unfold mpE
    rw [e, List.length_replicate, if_neg (by omega), if_neg (by omega), if_neg (by omega)])
  have HPU := (show Hid _ from hpu)
  have HW2 := (show Hid _ from hw2)
  have HB2 : Hid (Below w.heap.size w w2) := hb1.trans (b2.mono hb1.size)
  clear hN hq hnew hpu hw2 b2 o2 hcm hb1
  go_wp2_with fail
  rw [← HW2.out]
  refine Calls.mono HPU.out ?_
  clear HPU HW2 hmk
  rintro e w3 ⟨rfl, ⟨M, hq3, hM⟩, hf3⟩
  have hM2 : M.map (·.1) = misZ c0 k := hM.trans (mis_push c0 hk1 hk9)
  have hMl : M.length = k + 2 := by
    have := congrArg List.length hM2
    simpa [misZ] using this
  have hal : M.map (·.1) = (upL (misZ c0 k)).map (·.1) := by rw [hM2, upL_fst]
  have hq3' : OwQ w.heap.size w3.heap.size q M c0 1 [1] w3 := hq3
  have hsum : ∀ L : List PcA, L.map (·.1) = misZ c0 k ∨ (∃ n, L.map (·.1) = misS c0 k n) → sumL L L.length ≤ 100000 := fun L hL => by
    rw [sumL_all]
    have h1 : L.map (fun x => x.1.zs.length) = (L.map (·.1)).map (fun p => p.zs.length) := by rw [List.map_map]; rfl
    rw [h1]
    have h2 : ∀ (f : Nat → Pc) (m : Nat), (∀ j, (f j).zs.length = 1) → (((List.range m).map f).map (fun p => p.zs.length)).sum = m := fun f m hf => by
      rw [List.map_map]
      induction m with
      | zero => rfl
      | succ m ih => rw [List.range_succ, List.map_append, List.sum_append, ih]; simp [hf]
    rcases hL with e | ⟨n, e⟩
    · rw [e, misZ, h2 _ _ (fun j => rfl)]; omega
    · rw [e, misS, h2 _ _ (fun j => rfl)]; omega
  have hse := send_own hq3' (by omega) (hsum M (.inl hM2)) 0 (k + 1) 1000 (by decide) (by omega)
  have HB3 : Hid (Below w.heap.size w w3) := own_bel HB2.out (Nat.le_refl _) hf3
  have HSE := (show Hid _ from hse)
  have HM := (show Hid _ from And.intro hal hMl)
  have HSU := (show Hid _ from hsum)
  clear hse hq3 hq3' hM hM2 hMl hal hf3 hsum HB2
  go_wp2_with fail
  refine Calls.mono HSE.out ?_
  clear HSE
  rintro e w4 ⟨⟨sa, sc, ys, rfl, -, -, hys⟩, hq4, hf4⟩
  have hair : airL M 2 = airL (upL (misZ c0 k)) 2 := airL_al HM.out.1 2
  have hK : sndK M (k + 1) 1000 (airL M 2) = k + 1 := by rw [hair, sndK_al HM.out.1]; exact mis_K c0 hk1 hk9
  rw [hK] at hq4 hys
  have hyl : ys.length = k + 1 := by
    have h1 := congrArg List.length hys
    rw [List.length_map, List.length_map] at h1
    have h2 := congrArg List.length (filt_al (al_take HM.out.1 (k + 1)))
    rw [List.length_map, List.length_map] at h2
    rw [h1, h2]
    exact mis_out c0 hk1 hk9
  have hm4 : (mapTo (sndF 0) M (k + 1)).map (·.1) = misS c0 k 0 := (mapTo_al (sndF_al 0) HM.out.1 (k + 1)).trans (mis_sent c0 hk1 hk9)
  rw [hyl]
  have hI4 : MisI w w.heap.size q c0 k 0 w4 := ⟨⟨_, _, hq4, hm4⟩, own_bel HB3.out (Nat.le_refl _) hf4⟩
  have HI4 := (show Hid _ from hI4)
  clear hq4 hf4 hys hair hK hyl hm4 hI4 HM HB3
  go_wp2
  go_loopw [10, 11] (fun fs i wr => ∃ n : Nat, n ≤ k ∧ i = .int .i64 (n : Nat) ∧ fs = .int .i64 ((if 3 ≤ n then 1 else 0 : Nat) : Int) ∧ MisI w w.heap.size q c0 k n wr) (fun _ i _ => k - (intOf i).toNat)
  case atStart => exact ⟨0, by omega, rfl, rfl, HI4.out⟩
  case round =>
    obtain ⟨n, hn, rfl, rfl, hI⟩ := hrel
    obtain ⟨fs, hfs⟩ : ∃ f : Nat, f = if 3 ≤ n then 1 else 0 := ⟨_, rfl⟩
    rw [← hfs]
    obtain ⟨⟨L, D, hq, hL⟩, hbel⟩ := hI
    have hal : L.map (·.1) = (upL (misS c0 k n)).map (·.1) := by rw [hL, upL_fst]
    have hLl : L.length = k + 2 := by
      have := congrArg List.length hL
      simpa [misS] using this
    by_cases hlt : n < k
    · have hst := mis_step c0 hk1 hk9 hlt
      unfold misOk at hst
      simp only [Prod.mk.injEq] at hst
      obtain ⟨s1, s2, s3, s4⟩ := hst
      have e1 := (skB_al 0 [(2, 2 + n)] 0 hal).trans s1
      have e2 := (skFast_al [(2, 2 + n)] 0 hal).trans s2
      have e3 := (skM_al [(2, 2 + n)] 0 hal).trans s3
      have e4 := (topL_al hal).trans s4
      obtain ⟨b1, hb1⟩ : ∃ b, b = skB 1 [(2, 2 + n)] 0 L := ⟨_, rfl⟩
      have hmem : ∀ x ∈ L, x.1.wy = 0 ∧ x.1.ms ≤ 3 := fun y hy => by
        have h1 : y.1 ∈ misS c0 k n := by rw [← hL]; exact List.mem_map_of_mem hy
        obtain ⟨j, _, hj⟩ := List.mem_map.1 h1
        rw [← hj]
        refine ⟨rfl, ?_⟩
        show (if j = 0 then min n 3 else 0) ≤ 3
        split <;> omega
      obtain ⟨m, hm⟩ : ∃ m, m = 2 + n := ⟨_, rfl⟩
      rw [← hm] at e1 e2 e3 hb1
      have hw16 : IntKind.u16.wrap (2 + (n : Int)) = (m : Int) := by rw [IntKind.wrap_u16]; omega
      obtain ⟨w4, hw4⟩ : ∃ w4, w4 = wr.alloc (.cells #[.int .u16 2, .int .u16 (m : Nat)] 55) := ⟨_, rfl⟩
      have b4 : Below wr.heap.size wr w4 := by rw [hw4]; exact (Below.refl _ _).alloc (Nat.le_refl _) _
      have s4' := Stc.new wr [.int .u16 2, .int .u16 (m : Nat)] 55 w4 hw4
      have hbl : BlR w4 (some ⟨wr.heap.size, 0, none⟩) 1 1 [(2, m)] := by
        refine ⟨rfl, Nat.le_refl _, by decide, .inr ⟨wr.heap.size, 0, rfl, s4'.lt, fun i p hp => ?_⟩⟩
        rcases i with _ | i
        · injection hp with hp
          subst hp
          exact ⟨by show 2 < 65536; decide, by show m < 65536; omega, s4'.cell 0 _ rfl, s4'.cell 1 _ rfl⟩
        · simp at hp
      have hsk := sack_own (hq.below b4) (by omega) (HSU.out L (.inr ⟨n, hL⟩)) (fun y hy _ => by rw [(hmem y hy).1]; decide) (fun y hy => by have := (hmem y hy).2; omega) hc2 c0 0 hc2 (by unfold aheadV upV; omega) (by omega) hbl (fun b o s e => by
        injection e with e
        injection e with e _ _
        subst e
        exact ⟨55, ⟨_, _, by rw [hw4]; exact World.alloc_heap_new wr _⟩, by decide, by decide, by decide⟩) (by decide) (fun p hp => by
        rw [e4]
        obtain rfl := List.mem_singleton.1 hp
        dsimp only
        omega)
      have HSK := (show Hid _ from hsk)
      have HW4 := (show Hid _ from hw4)
      have HB4 : Hid (Below w.heap.size w w4) := hbel.trans (b4.mono hbel.size)
      have HE := (show Hid _ from And.intro e1 (And.intro e2 (And.intro e3 hb1)))
      have hn0 : (n : Int) < (k : Int) := by omega
      clear hm hsk hw4 b4 s4' hbl hq hal hLl hbel hmem e1 e2 e3 e4 s1 s2 s3 s4 hb1
      go_wp2_with fail
      rw [← HW4.out]
      refine Calls.mono HSK.out ?_
      rintro e w5 ⟨rfl, hq5, hf5⟩
      rw [HE.out.1, HE.out.2.1, ← HE.out.2.2.2, show decide (0 < 0) = false from rfl]
      have HI5 : Hid (∀ W, Below w5.heap.size w5 W → MisI w w.heap.size q c0 k (n + 1) W) := fun W hW => by
        have hbb := own_bel HB4.out (Nat.le_refl _) hf5
        exact ⟨⟨_, _, hq5.below hW, HE.out.2.2.1⟩, hbb.trans (hW.mono hbb.size)⟩
      clear hq5 hf5 HSK HW4 HB4 HE hL
      by_cases hn2 : n = 2
      · subst hn2
        obtain rfl : fs = 0 := hfs
        clear hw16
        go_wp2
        go_roundw
        case rel => exact ⟨3, by omega, by go_num, rfl, HI5.out _ ((Below.refl _ _).alloc (Nat.le_refl _) _)⟩
        case measure => simp [intOf]; omega
      · have hd2 : decide (n = 2) = false := decide_eq_false hn2
        rw [hd2]
        have hf3 : fs = if 3 ≤ n + 1 then 1 else 0 := by
          rw [hfs]
          by_cases h3 : 3 ≤ n
          · rw [if_pos h3, if_pos (by omega)]
          · rw [if_neg h3, if_neg (by omega)]
        have HF3 := (show Hid _ from hf3)
        clear hf3 hfs hw16 hn2
        go_wp2
        go_roundw
        case rel => exact ⟨n + 1, by omega, by go_num, by rw [HF3.out], HI5.out _ ((Below.refl _ _).alloc (Nat.le_refl _) _)⟩
        case measure => simp [intOf]; omega
    · have hnk : n = k := by omega
      have hlt2 : ¬ (n : Int) < (k : Int) := by omega
      rw [hnk] at hL hal hfs
      have hse := send_own hq (by omega) (HSU.out L (.inr ⟨k, hL⟩)) 1 1000 20 (by decide) (by decide)
      have HSE := (show Hid _ from hse)
      have HL := (show Hid _ from And.intro hal (mis_end c0 hk1 hk9))
      have HBL := (show Hid _ from hbel)
      have HFS := (show Hid _ from hfs)
      clear hse hal hL hbel hfs hq hLl hlt hn hnk
      go_wp2_with fail
      refine Calls.mono HSE.out ?_
      rintro e w5 ⟨⟨sa2, sc2, ys2, rfl, how, -, hys⟩, -, hf5⟩
      have hK : sndK L 1000 20 (airL L 2) = sndK (upL (misS c0 k k)) 1000 20 (airL (upL (misS c0 k k)) 2) := by rw [airL_al HL.out.1, sndK_al HL.out.1]
      obtain ⟨T, hT⟩ : ∃ T, T = misT c0 (if 3 ≤ k then 0 else k + 1) := ⟨_, rfl⟩
      have hy1 : ys2.map (fun x => x.1.t) = [T] := by
        have h1 := congrArg (List.map Pc.t) hys
        rw [hK] at h1
        have h2 := congrArg (List.map Pc.t) (filt_al (al_take HL.out.1 (sndK (upL (misS c0 k k)) 1000 20 (airL (upL (misS c0 k k)) 2))))
        have h3 := HL.out.2
        simp only [List.map_map] at h1 h2
        rw [hT, ← h3]
        exact h1.trans h2
      obtain ⟨y, rfl, hyt⟩ : ∃ y, ys2 = [y] ∧ y.1.t = T := by
        match ys2, hy1 with
        | [y], h => exact ⟨y, rfl, by simpa using h⟩
        | [], h => simp at h
        | _ :: _ :: _, h => simp at h
      obtain ⟨g, rfl, hg, hgl, _, _, hcl, _⟩ := OwnG.at_ how chQ_len (by show 0 < 1; decide)
      have c2 : w5.cell? ⟨g, 2, none⟩ = some (.int .u32 (y.1.t : Nat)) := hcl 0 _ rfl 2 _ rfl
      rw [hyt] at c2
      have HC2 : Hid (∀ V, Below w5.heap.size w5 V → V.cell? ⟨g, 2, none⟩ = some (.int .u32 (T : Nat)) ∧ Below w.heap.size w V) := fun V hV => by
        have hbb := own_bel HBL.out (Nat.le_refl _) hf5
        exact ⟨(hV.cell (p := ⟨g, 2, none⟩) hgl).trans c2, hbb.trans (hV.mono hbb.size)⟩
      clear hK hy1 hyt how hg hgl hcl c2 hys hf5 HSE HL HBL
      have hc1 := HC1.out
      have hwk0 : IntKind.u32.wrap (k : Int) = (k : Int) := by rw [IntKind.wrap_u32]; omega
      obtain ⟨a1, ha1⟩ : ∃ a, a = (first + k) % 4294967296 := ⟨_, rfl⟩
      have hw1 : IntKind.u32.wrap ((first : Int) + (k : Int)) = (a1 : Int) := by rw [IntKind.wrap_u32]; omega
      obtain ⟨a2, ha2⟩ : ∃ a, a = (a1 + 1) % 4294967296 := ⟨_, rfl⟩
      have hw2 : IntKind.u32.wrap ((a1 : Int) + 1) = (a2 : Int) := by rw [IntKind.wrap_u32]; omega
      by_cases h3 : 3 ≤ k
      · have g3 : (3 : Int) ≤ (k : Int) := by omega
        have hTe : T = first := by rw [hT, if_pos h3]; unfold misT addV; omega
        obtain rfl : fs = 1 := by rw [HFS.out, if_pos h3]
        rw [hTe] at HC2
        clear hT hTe ha1 ha2 h3 HFS hc1
        go_wp2_with fail
        refine Calls.mono (live14_any w5) ?_
        rintro e w6 ⟨rfl, hb6⟩
        obtain ⟨c2, hbf⟩ := HC2.out w6 hb6
        have HBF := (show Hid _ from hbf)
        clear hbf hb6 HC2
        go_wp2
        go_ret
        exact ⟨rfl, HBF.out⟩
      · have g3 : ¬ (3 : Int) ≤ (k : Int) := by omega
        have hTe : T = a2 := by rw [hT, if_neg h3]; unfold misT addV; omega
        obtain rfl : fs = 0 := by rw [HFS.out, if_neg h3]
        rw [hTe] at HC2
        clear hT hTe ha1 ha2 h3 HFS hc1
        go_wp2_with fail
        refine Calls.mono (live14_any w5) ?_
        rintro e w6 ⟨rfl, hb6⟩
        obtain ⟨c2, hbf⟩ := HC2.out w6 hb6
        have HBF := (show Hid _ from hbf)
        clear hbf hb6 HC2
        go_wp2
        go_ret
        exact ⟨rfl, HBF.out⟩
end Go.Proofs.Ytconfmjgoipejaa
namespace Go.Proofs.Ytconfmjgoipejaa.outqMissed
open Go.ChangeShapes Go.WideShapes Go.ChangeAt Go.RowKit
open Go.ChangeMaps (open_string shut_string)
set_option linter.unusedVariables false
theorem own : ownKnob Try.prog.godebug = none := by kernel_rfl
theorem laidOut : laidOutB Try.prog = true := by kernel_rfl


set_option maxRecDepth 100000 in
theorem lifted (os : Os) (started : os.Started) (H : Type) (enc : TypeId × Value → H) :
    ReturnsInHanded {} Try.checked os 6 .any (Rows.outqMissedSpec.pre6 enc Try.prog Try.f6 Rows.outqMissedRow.domain false) (Rows.outqMissedSpec.post enc Try.prog Try.f6 false true false false) := by
  refine returnsInHanded_of_change_sized (C := Try.checked) own started (by kernel_rfl) Try.func6
    (ChangeSpec.witness6 (enc := enc) (C := Try.checked) false ⟨#[], #[.int .u32 0, .int .u8 0], []⟩ 8 (by kernel_rfl) (by kernel_rfl) (by kernel_rfl) (by kernel_rfl)) ?_
  intro W base args ds gs before hval0 hW hcnd hsz0 _
  have hval : ∀ (j : Nat) t v, Try.f6.params[j]? = some t → args[j]? = some v → Value.okWide Try.prog W .any base t v := hval0
  have hsz : (DataW.weightsEach Try.prog (Try.f6.params.toList ++ Rows.outqMissedSpec.plain.varTypes Try.prog) (ds ++ gs)).all (· ≤ reachBytes) = true := hsz0
  clear hsz0
  have hW' := hW
  obtain ⟨p, q, hA0, hV, rfl, hfz, hnd⟩ := hW
  have hA : DataW.TrodAll enc Try.prog W 0 (fun _ => true) true Try.f6.params.toList args.toList ds p := hA0
  rw [Try.params6] at hA hval hsz
  obtain ⟨v0, vs0, d0, ds0, p0, q0, hargs, rfl, rfl, h0, r0⟩ := trodAll_cons hA
  obtain ⟨v1, vs1, d1, ds1, p1, q1, rfl, rfl, rfl, h1, r1⟩ := trodAll_cons r0
  obtain ⟨rfl, rfl, rfl⟩ := trodAll_nil r1
  obtain rfl : args = #[v0, v1] := by cases args; simp_all
  obtain ⟨rfl, rfl⟩ := trodVars_none hV
  obtain ⟨x0, rfl, rfl, rfl, w0⟩ := open_int Try.underlying22 (hval 0 22 v0 rfl rfl) h0
  obtain ⟨m0, rfl⟩ : ∃ m : Nat, x0 = (m : Int) := ⟨x0.toNat, by have := bounds_u32 w0; omega⟩
  have b0 : m0 < 4294967296 := by have := bounds_u32 w0; omega
  obtain ⟨x1, rfl, rfl, rfl, w1⟩ := open_int Try.underlying5 (hval 1 5 v1 rfl rfl) h1
  obtain ⟨m1, rfl⟩ : ∃ m : Nat, x1 = (m : Int) := ⟨x1.toNat, by have := bounds_u8 w1; omega⟩
  have b1 : m1 < 256 := by have := bounds_u8 w1; omega
  clear hA0 hval0 hsz
  refine (walk_OutqMissed m0 m1 W b0 b1).mono fun e W' ⟨he, bel⟩ => ?_
  subst he
  exact ⟨_, rfl, _, _, _, [], _, [], hW', trodAll_mk1 (shut_bool Try.underlying4 _), (trodAll_cons_mk (shut_int Try.underlying22 w0) (trodAll_cons_mk (shut_int Try.underlying5 w1) trodAll_mk0)), rfl, bel.frame _, fun h => by cases h⟩
theorem over : Rows.outqMissedRow.holds Try.pinned (OpenSpec.ofChange Rows.outqMissedSpec) :=
  OpenClaim.holds_of_wide 6 Try.f6 rfl rfl rfl rfl rfl rfl rfl ⟨rfl, rfl, rfl, rfl, rfl⟩ rfl rfl rfl rfl rfl (by kernel_rfl) Try.func6 (by kernel_rfl)
    (of_decide_eq_true (by kernel_rfl)) (by unfold Func.isWrapper; first | (rw [if_pos (by decide +kernel)]; kernel_rfl) | (rw [if_neg (by decide +kernel)]; exact ⟨rfl, rfl⟩))
    (fun os started H enc _ => lifted os started H enc)
end Go.Proofs.Ytconfmjgoipejaa.outqMissed
namespace Go.Proofs.Ytconfmjgoipejaa
theorem OutqMissed_holds : Rows.OutqMissedSaid := outqMissed.over
#print axioms OutqMissed_holds
end Go.Proofs.Ytconfmjgoipejaa
