/-
  Whatever the input, trunklinelaw12.ChunkChecks answers true and leaves what it was handed as it was.
  (The statement is Rows.ChunkChecksCardSaid; no condition of our own; the listed tables are tied to the program's text.)
-/
import Derived.Test.YtifdfkkjmjabnaaDoorKC
import Derived.Test.YtifdfkkjmjabnaaDoorKB
import Derived.Test.YtifdfkkjmjabnaaDoorRows
import Derived.Test.YtifdfkkjmjabnaaDoorCards
import Derived.Test.YtifdfkkjmjabnaaDoorTie
import Derived.ProofKit
import Derived.LaidMore
import Derived.Lay
import Derived.OpenShut
import Derived.ShutString
import Derived.ChangeOld
import Derived.SizedLaws
import Derived.Stop.Joined
import Derived.SevenTiedAt
namespace Go.Proofs.YtifdfkkjmjabnaaDoor
open Go.RowKit
set_option linter.unusedVariables false in
set_option maxRecDepth 100000 in
set_option maxHeartbeats 8000000 in
theorem walk_ChunkChecks (x : ChQ) (w : World) (h : x.Wf w) (hN : NW w) :
    Calls Tryd.prog 3 #[.agg x.vals.toArray] w fun e w' => e = .returned (.bool true) ∧ Below w.heap.size w w' := by
  obtain ⟨cs, hcs⟩ : ∃ cs, cs = x.vals := ⟨_, rfl⟩
  have hcl : cs.length = 14 := by rw [hcs]; rfl
  obtain ⟨E, hE⟩ : ∃ E, E = chkOf x.ck := ⟨_, rfl⟩
  obtain ⟨Z, hZ⟩ : ∃ Z : Int, Z = (if chkOf x.ck = 0 then ((spcN x.cd : Nat) : Int) else 0) := ⟨_, rfl⟩
  obtain ⟨W1, hW1⟩ : ∃ W1, W1 = w.alloc (.cells cs.toArray 29) := ⟨_, rfl⟩
  have b1 : Below w.heap.size w W1 := by rw [hW1]; exact (Below.refl _ _).alloc (Nat.le_refl _) _
  have s1 := Stc.new w cs 29 W1 hW1
  have hwf := fun V (hV : Below W1.heap.size W1 V) => ChQ.wf_below h (b1.trans (hV.mono b1.size))
  have HRG : Hid (∀ V, Below W1.heap.size W1 V → V.rangeAt w.heap.size 0 cs) := fun V hV j u hu => by
    have := (s1.below hV).cell j u hu
    rw [Nat.zero_add]
    exact this
  have HLV := (show Hid _ from fun V (hV : Below W1.heap.size W1 V) => live12_nw V (NW.below hN (b1.trans (hV.mono b1.size))))
  have HCK := (show Hid _ from fun V (hV : Below W1.heap.size W1 V) => check_all x.ck V (ChQ.ckW (hwf V hV)) (.agg x.vals.toArray) rfl)
  have HRC := (show Hid _ from fun V (hV : Below W1.heap.size W1 V) => rcheck_any (hwf V hV) (.agg x.vals.toArray) rfl)
  have HSZ := (show Hid _ from fun V (hV : Below W1.heap.size W1 V) => size_any (hwf V hV) (.agg x.vals.toArray) rfl)
  have HRS := (show Hid _ from fun V (hV : Below W1.heap.size W1 V) => rsize_any (hwf V hV) (.agg x.vals.toArray) rfl)
  rw [← hcs] at HCK HRC HSZ HRS ⊢
  rw [← hE] at HCK HRC
  rw [← hZ] at HSZ HRS
  have HB1 := (show Hid _ from b1)
  clear hcs hE hZ hwf s1 b1 h hN
  go_enter Tryd.func3, Tryd.ntmps3
  go_wp2_with fail
  rw [← hW1]
  clear hW1
  refine wp_region_fixW mixedX (fun V => Below W1.heap.size W1 V) [(3, .bool true), (4, .bool true), (5, .agg cs.toArray), (6, .int .i64 E), (7, .agg cs.toArray), (8, .int .i64 E), (9, .bool true), (10, .bool true), (11, .bool true), (12, .agg cs.toArray), (13, .int .i64 Z), (14, .agg cs.toArray), (15, .int .i64 Z), (16, .bool true), (17, .bool true), (2, .bool true)] ?Z1 ?hZ1 (by kernel_rfl) (by kernel_rfl) (by kernel_rfl) (by kernel_rfl) ?h01 ?hops1 ?he1
  case hZ1 => simp only [List.foldl_cons, List.foldl_nil, List.setIfInBounds_toArray, List.set_cons_zero, List.set_cons_succ]; rfl
  case h01 => exact (Below.refl _ _).drew
  case hops1 =>
    refine ⟨?_, ?_, ?_, ?_, ?_, ?_, ?_, ?_, ?_, ?_, ?_, ?_, ?_, ?_, ?_, ?_, trivial⟩
    · exact fix_call (vs := []) (by rfl) rfl (by rfl) Tryd.func9 (by rfl) (by rfl) (fun W hW => by exact ((HLV.out W hW)).mono (fun e V h => ⟨h.1, hW.trans (h.2.mono hW.size)⟩))
    · exact fix_val (by rfl) (fun W hW => by go_simp; (try with_reducible rfl); (try omega))
    · exact fix_load (by rfl) 29 (.tmp 1) rfl w.heap.size 0 rfl cs _ (fun W hW => (HRG.out W hW)) Tryd.underlying29 rfl (ch_size14R _ hcl) rfl
    · exact fix_call (vs := [.agg cs.toArray]) (by rfl) rfl (by rfl) Tryd.func10 (by rfl) (by rfl) (fun W hW => by exact ((HCK.out W hW)).mono (fun e V h => ⟨h.1, hW.trans (h.2.mono hW.size)⟩))
    · exact fix_load (by rfl) 29 (.tmp 1) rfl w.heap.size 0 rfl cs _ (fun W hW => (HRG.out W hW)) Tryd.underlying29 rfl (ch_size14R _ hcl) rfl
    · exact fix_call (vs := [.agg cs.toArray]) (by rfl) rfl (by rfl) Tryd.func11 (by rfl) (by rfl) (fun W hW => by exact ((HRC.out W hW)).mono (fun e V h => ⟨h.1, hW.trans (h.2.mono hW.size)⟩))
    · exact fix_val (by rfl) (fun W hW => by go_simp; (try with_reducible rfl); (try omega))
    · exact fix_val (by rfl) (fun W hW => by go_simp; (try with_reducible rfl); (try omega))
    · exact fix_val (by rfl) (fun W hW => by go_simp; (try with_reducible rfl); (try omega))
    · exact fix_load (by rfl) 29 (.tmp 1) rfl w.heap.size 0 rfl cs _ (fun W hW => (HRG.out W hW)) Tryd.underlying29 rfl (ch_size14R _ hcl) rfl
    · exact fix_call (vs := [.agg cs.toArray]) (by rfl) rfl (by rfl) Tryd.func12 (by rfl) (by rfl) (fun W hW => by exact ((HSZ.out W hW)).mono (fun e V h => ⟨h.1, hW.trans (h.2.mono hW.size)⟩))
    · exact fix_load (by rfl) 29 (.tmp 1) rfl w.heap.size 0 rfl cs _ (fun W hW => (HRG.out W hW)) Tryd.underlying29 rfl (ch_size14R _ hcl) rfl
    · exact fix_call (vs := [.agg cs.toArray]) (by rfl) rfl (by rfl) Tryd.func13 (by rfl) (by rfl) (fun W hW => by exact ((HRS.out W hW)).mono (fun e V h => ⟨h.1, hW.trans (h.2.mono hW.size)⟩))
    · exact fix_val (by rfl) (fun W hW => by go_simp; (try with_reducible rfl); (try omega))
    · exact fix_val (by rfl) (fun W hW => by go_simp; (try with_reducible rfl); (try omega))
    · exact fix_val (by rfl) (fun W hW => by go_simp; (try with_reducible rfl); (try omega))
  case he1 =>

  intro V hV
  have HV : Hid (Below w.heap.size w V) := HB1.out.trans (hV.mono HB1.out.size)
  clear hV HRG HLV HCK HRC HSZ HRS HB1
  go_wp2
  go_ret
  exact ⟨rfl, HV.out⟩
end Go.Proofs.YtifdfkkjmjabnaaDoor
namespace Go.Proofs.YtifdfkkjmjabnaaDoor.chunkChecks
theorem of_laid {W : World} (h : laidMetH Tryd.prog Rows.chunkChecksRow.laid W) : NW W := by
  rw [MakeChecks.laidMetH_plain _ _ _ (by kernel_rfl)] at h
  exact nw_of_laid h
end Go.Proofs.YtifdfkkjmjabnaaDoor.chunkChecks
namespace Go.Proofs.YtifdfkkjmjabnaaDoor.chunkChecks
open Go.ChangeShapes Go.WideShapes Go.ChangeAt Go.RowKit
open Go.ChangeMaps (open_string shut_string)
set_option linter.unusedVariables false
theorem own : ownKnob Tryd.prog.godebug = none := by kernel_rfl
theorem laidOut : laidOutB Tryd.prog = true := by kernel_rfl
set_option maxRecDepth 100000 in
set_option maxHeartbeats 1000000 in
theorem lifted (os : Os) (started : os.Started) (H : Type) (enc : TypeId × Value → H) :
    ReturnsInHanded {} Tryd.checked os 3 .any (fun w args => (Rows.chunkChecksSpec.pre enc Tryd.prog Tryd.f3 [] false w args ∧ laidMetH Tryd.prog Rows.chunkChecksRow.laid w) ∧ sizedMet enc Tryd.prog Tryd.f3 (OpenSpec.ofChange Rows.chunkChecksSpec) false w args)
      (Rows.chunkChecksSpec.post enc Tryd.prog Tryd.f3 false true false false) := by
  refine returnsInHanded_of_change_and (C := Tryd.checked) (X := fun w _ => laidMetH Tryd.prog Rows.chunkChecksRow.laid w) (fun _ _ _ hh h => h.of_heap hh) own started (by kernel_rfl) Tryd.func3
    (ChangeSpec.witness_shaped (enc := enc) (C := Tryd.checked) (os := os) (X := fun w _ => laidMetH Tryd.prog Rows.chunkChecksRow.laid w) false (World.laidAll Tryd.prog os Rows.chunkChecksRow.laid) #[.agg #[.int .u8 0, .int .u8 0, .int .u32 0, .int .u16 0, .int .u16 0, .int .u32 0, .int .u32 0, .int .u32 0, .int .u16 0, .int .u16 0, .slice none 0 0, .slice none 0 0, .slice none 0 0, .slice none 0 0]] 8 (World.laidAll_os _ _ _)
      (World.shaped_of_ZipB (by kernel_rfl) (by kernel_rfl)) (by kernel_rfl) (by kernel_rfl) (by kernel_rfl)
      (by rw [MakeChecks.laidMetH_plain _ _ _ (by kernel_rfl)]; exact laidMet_laidAll _ (by kernel_rfl) (by kernel_rfl))) ?_
  intro W base args ds gs before hval0 hW _ hsz0 hL _
  have hsz : (DataW.weightsEach Tryd.prog (Tryd.f3.params.toList ++ Rows.chunkChecksSpec.plain.varTypes Tryd.prog) (ds ++ gs)).all (· ≤ reachBytes) = true := hsz0
  clear hsz0
  have hval : ∀ (j : Nat) t v, Tryd.f3.params[j]? = some t → args[j]? = some v → Value.okWide Tryd.prog W .any base t v := hval0
  have hW' := hW
  obtain ⟨p, q, hA0, hV, rfl, hfz, hnd⟩ := hW
  have hA : DataW.TrodAll enc Tryd.prog W 0 (fun _ => true) true Tryd.f3.params.toList args.toList ds p := hA0
  rw [Tryd.params3] at hA hval hsz
  obtain ⟨v0, vs0, d0, ds0, p0, q0, hargs, rfl, rfl, h0, r0⟩ := trodAll_cons hA
  obtain ⟨rfl, rfl, rfl⟩ := trodAll_nil r0
  obtain rfl : args = #[v0] := by cases args; simp_all
  obtain ⟨rfl, rfl⟩ := trodVars_none hV
  have k0 := h0
  have lt0 : ∀ x ∈ p0, x.block < W.heap.size := by obtain ⟨m, hm⟩ := k0; exact DataW.trod_lt m _ _ _ hm
  obtain ⟨x0, rfl, w0⟩ := SlCq.openV (hval 0 29 v0 rfl rfl) h0 (fun q hq => by
    have := List.all_eq_true.1 hsz q (DataW.weights_mem_each (j := 0) (t := 29) (d := d0) rfl rfl q hq)
    simpa using this)
  clear hA0 hval0 hsz
  refine (walk_ChunkChecks x0 W w0 (of_laid hL)).mono fun e W' ⟨he, bel⟩ => ?_
  subst he
  exact ⟨_, rfl, _, _, _, [], _, [], hW', trodAll_mk1 (shut_bool Tryd.underlying4 _), (trodAll_cons_mk (Below.trod laidOut (by kernel_rfl) (of_decide_eq_true (by kernel_rfl)) k0 bel lt0) trodAll_mk0), rfl, bel.frame _, fun h => by cases h⟩
theorem over : Rows.chunkChecksRow.holds Tryd.pinned (OpenSpec.ofChange Rows.chunkChecksSpec) :=
  OpenClaim.holds_of_wide 3 Tryd.f3 rfl rfl rfl rfl rfl rfl rfl ⟨rfl, rfl, rfl, rfl, rfl⟩ rfl rfl rfl rfl rfl (by kernel_rfl) Tryd.func3 (by kernel_rfl)
    (of_decide_eq_true (by kernel_rfl)) (by unfold Func.isWrapper; first | (rw [if_pos (by decide +kernel)]; kernel_rfl) | (rw [if_neg (by decide +kernel)]; exact ⟨rfl, rfl⟩))
    (fun os started H enc _ => lifted os started H enc)
end Go.Proofs.YtifdfkkjmjabnaaDoor.chunkChecks
namespace Go.Proofs.YtifdfkkjmjabnaaDoor
theorem ChunkChecks_holds : Rows.ChunkChecksCardSaid :=
  Claim7.holds_tied_plain_at .later [] [.data] true (true, Rows.chunkChecksCard.stood.harness.2) true
    chunkChecks.over (fun _ h => by cases h) (by kernel_rfl) (fun _ h => by cases h) chunkChecks_row_tie rfl ⟨rfl, rfl⟩ (by kernel_rfl) rfl
    (fun f fn hf hfn => by
      obtain rfl : f = 3 := Option.some.inj ((show Tryd.prog.funcNamed Rows.chunkChecksRow.func = some 3 by kernel_rfl).symm.trans hf) |>.symm
      obtain rfl : fn = Tryd.f3 := (Option.some.inj (Tryd.func3.symm.trans hfn)).symm
      exact ⟨by kernel_rfl, fun j t ht => by
        rw [Tryd.params3] at ht
        have hm : t ∈ [29] := by simpa using Array.mem_of_getElem? ht
        have hall : ([29].all fun u => !Tryd.prog.wantsStandIn u) = true := by kernel_rfl
        exact (show Tryd.prog.wantsStandIn t = false by simpa using List.all_eq_true.1 hall t hm)⟩)
    (by kernel_rfl)
#print axioms ChunkChecks_holds
end Go.Proofs.YtifdfkkjmjabnaaDoor
