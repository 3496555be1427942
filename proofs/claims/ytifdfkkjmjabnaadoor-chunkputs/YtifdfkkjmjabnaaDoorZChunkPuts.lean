/-
  Whatever the input, trunklinelaw12.ChunkPuts answers true and leaves what it was handed as it was.
  (The statement is Rows.ChunkPutsCardSaid; no condition of our own; the listed tables are tied to the program's text.)
-/
import Derived.Test.YtifdfkkjmjabnaaDoorKD
import Derived.Test.YtifdfkkjmjabnaaDoorKA
import Derived.Test.YtifdfkkjmjabnaaDoorKB
import Derived.Test.YtifdfkkjmjabnaaDoorRows
import Derived.Test.YtifdfkkjmjabnaaDoorCards
import Derived.Test.YtifdfkkjmjabnaaDoorTie
import Derived.ProofKit
import Derived.LaidMore
import Derived.Lay
import Derived.OpenShut
import Derived.ShutString
import Derived.ChangeOld
import Derived.SizedLaws
import Derived.Stop.Joined
import Derived.SevenTiedAt
import Derived.Test.YtifdfkkjmjabnaaDoorStHead
namespace Go.Proofs.YtifdfkkjmjabnaaDoor
open Go.RowKit
theorem ptQ_le (f t g : Nat) (dd : List ChQ) : (ptQ f t g dd).length ≤ 1480 := by
  by_cases h : mbQ dd = 0
  · have hP := ptOk (f := f) (t := t) (g := g) h
    have h1 := hP.big
    have h2 := hP.small
    rw [hP.val, stampV_len _ (by omega)]
    exact h1
  · unfold ptQ
    rw [if_neg h]
    simp
set_option linter.unusedVariables false in
set_option maxRecDepth 100000 in
set_option maxHeartbeats 8000000 in
theorem walk_ChunkPuts (f t g : Nat) (a : Option Addr) (n c : Nat) (dd : List ChQ) (w : World) (hf : f < 65536) (ht : t < 65536) (hg : g < 4294967296) (hR : SlCq w a n c dd) (hN : NW w) :
    Calls Tryd.prog 4 #[.agg #[.int .u16 (f : Nat), .int .u16 (t : Nat), .int .u32 (g : Nat)], .slice a n c] w fun e w' => e = .returned (.bool true) ∧ Below w.heap.size w w' := by
  obtain ⟨W1, hW1⟩ : ∃ W1, W1 = w.alloc (.cells #[.int .u16 (f : Nat), .int .u16 (t : Nat), .int .u32 (g : Nat)] 36) := ⟨_, rfl⟩
  have b1 : Below w.heap.size w W1 := by rw [hW1]; exact (Below.refl _ _).alloc (Nat.le_refl _) _
  have s1 := Stc.new w [.int .u16 (f : Nat), .int .u16 (t : Nat), .int .u32 (g : Nat)] 36 W1 hW1
  have HP := (show Hid _ from put_row (hR.below b1) f t g hf ht hg)
  have HRP := (show Hid _ from fun V (hV : Below w.heap.size w V) => rput_row (hR.below hV) f t g hf ht hg)
  have HB1 : Hid (Below w.heap.size w W1 ∧ Stc W1 w.heap.size [.int .u16 (f : Nat), .int .u16 (t : Nat), .int .u32 (g : Nat)]) := ⟨b1, s1⟩
  have HLV := (show Hid _ from fun W (hW : Below w.heap.size w W) => live12_nw W (hN.below hW))
  have HW1 := (show Hid _ from hW1)
  have hle := ptQ_le f t g dd
  generalize ptQ f t g dd = V at *
  generalize mbQ dd = E at *
  obtain ⟨l, hl⟩ : ∃ l, l = V.length := ⟨_, rfl⟩
  have HL := (show Hid _ from hl)
  have hl2 : l ≤ 1480 := by omega
  clear b1 s1 hR hN hW1 hl hle
  go_enter Tryd.func4, Tryd.ntmps4
  go_wp2_with fail
  rw [← HW1.out]
  refine Calls.mono HP.out ?_
  clear HP HW1
  rintro e w3 hR
  obtain ⟨pa, pc, rfl, ho⟩ := hR.ex
  have hb3 : Below w.heap.size w w3 := HB1.out.1.trans (hR.bel.mono HB1.out.1.size)
  have s3 := HB1.out.2.below hR.bel
  rw [← HL.out] at ho ⊢
  have c0 := s3.cell 0 _ rfl
  have c1 := s3.cell 1 _ rfl
  have c2 := s3.cell 2 _ rfl
  have HO := (show Hid _ from And.intro ho hb3)
  have HN := (show Hid _ from HRP.out w3 hb3)
  clear HRP hR ho hb3 s3 HB1
  go_wp2_with fail
  refine Calls.mono HN.out ?_
  clear HN c0 c1 c2
  rintro e w4 hR
  obtain ⟨pa2, pc2, rfl, ho2⟩ := hR.ex
  rw [← HL.out] at ho2 ⊢
  have hb4 : Below w.heap.size w w4 := HO.out.2.trans (hR.bel.mono HO.out.2.size)
  have HO4 := (show Hid _ from And.intro (HO.out.1.below hR.bel) (And.intro ho2 hb4))
  have HN := (show Hid _ from HLV.out w4 hb4)
  clear hR ho2 hb4 HO HLV
  go_wp2_with fail
  refine Calls.mono HN.out ?_
  clear HN
  rintro e w5 ⟨rfl, b5⟩
  have k1 := conv_str ((HO4.out.1.below b5).sl (by omega))
  have k2 := conv_str ((HO4.out.2.1.below b5).sl (by omega))
  have HB5 : Hid (Below w.heap.size w w5) := HO4.out.2.2.trans (b5.mono HO4.out.2.2.size)
  clear b5 HO4
  go_wp2
  go_ret
  exact ⟨rfl, HB5.out⟩
end Go.Proofs.YtifdfkkjmjabnaaDoor
namespace Go.Proofs.YtifdfkkjmjabnaaDoor.chunkPuts
theorem of_laid {W : World} (h : laidMetH Tryd.prog Rows.chunkPutsRow.laid W) : NW W := by
  rw [MakeChecks.laidMetH_plain _ _ _ (by kernel_rfl)] at h
  exact nw_of_laid h
end Go.Proofs.YtifdfkkjmjabnaaDoor.chunkPuts
namespace Go.Proofs.YtifdfkkjmjabnaaDoor.chunkPuts
open Go.ChangeShapes Go.WideShapes Go.ChangeAt Go.RowKit
open Go.ChangeMaps (open_string shut_string)
set_option linter.unusedVariables false
theorem own : ownKnob Tryd.prog.godebug = none := by kernel_rfl
theorem laidOut : laidOutB Tryd.prog = true := by kernel_rfl
set_option maxRecDepth 100000 in
set_option maxHeartbeats 1000000 in
theorem lifted (os : Os) (started : os.Started) (H : Type) (enc : TypeId × Value → H) :
    ReturnsInHanded {} Tryd.checked os 4 .any (fun w args => (Rows.chunkPutsSpec.pre enc Tryd.prog Tryd.f4 [] false w args ∧ laidMetH Tryd.prog Rows.chunkPutsRow.laid w) ∧ sizedMet enc Tryd.prog Tryd.f4 (OpenSpec.ofChange Rows.chunkPutsSpec) false w args)
      (Rows.chunkPutsSpec.post enc Tryd.prog Tryd.f4 false true false false) := by
  refine returnsInHanded_of_change_and (C := Tryd.checked) (X := fun w _ => laidMetH Tryd.prog Rows.chunkPutsRow.laid w) (fun _ _ _ hh h => h.of_heap hh) own started (by kernel_rfl) Tryd.func4
    (ChangeSpec.witness_shaped (enc := enc) (C := Tryd.checked) (os := os) (X := fun w _ => laidMetH Tryd.prog Rows.chunkPutsRow.laid w) false (World.laidAll Tryd.prog os Rows.chunkPutsRow.laid) #[.agg #[.int .u16 0, .int .u16 0, .int .u32 0], .slice none 0 0] 8 (World.laidAll_os _ _ _)
      (World.shaped_of_ZipB (by kernel_rfl) (by kernel_rfl)) (by kernel_rfl) (by kernel_rfl) (by kernel_rfl)
      (by rw [MakeChecks.laidMetH_plain _ _ _ (by kernel_rfl)]; exact laidMet_laidAll _ (by kernel_rfl) (by kernel_rfl))) ?_
  intro W base args ds gs before hval0 hW _ hsz0 hL _
  have hsz : (DataW.weightsEach Tryd.prog (Tryd.f4.params.toList ++ Rows.chunkPutsSpec.plain.varTypes Tryd.prog) (ds ++ gs)).all (· ≤ reachBytes) = true := hsz0
  clear hsz0
  have hval : ∀ (j : Nat) t v, Tryd.f4.params[j]? = some t → args[j]? = some v → Value.okWide Tryd.prog W .any base t v := hval0
  have hW' := hW
  obtain ⟨p, q, hA0, hV, rfl, hfz, hnd⟩ := hW
  have hA : DataW.TrodAll enc Tryd.prog W 0 (fun _ => true) true Tryd.f4.params.toList args.toList ds p := hA0
  rw [Tryd.params4] at hA hval hsz
  obtain ⟨v0, vs0, d0, ds0, p0, q0, hargs, rfl, rfl, h0, r0⟩ := trodAll_cons hA
  obtain ⟨v1, vs1, d1, ds1, p1, q1, rfl, rfl, rfl, h1, r1⟩ := trodAll_cons r0
  obtain ⟨rfl, rfl, rfl⟩ := trodAll_nil r1
  obtain rfl : args = #[v0, v1] := by cases args; simp_all
  obtain ⟨rfl, rfl⟩ := trodVars_none hV
  have k0 := h0
  have lt0 : ∀ x ∈ p0, x.block < W.heap.size := by obtain ⟨m, hm⟩ := k0; exact DataW.trod_lt m _ _ _ hm
  obtain ⟨x0_0, x0_1, x0_2, rfl, b0_0, b0_1, b0_2⟩ := StHead.open_ (hval 0 36 v0 rfl rfl) h0 (fun q hq => by
    have := List.all_eq_true.1 hsz q (DataW.weights_mem_each (j := 0) (t := 36) (d := d0) rfl rfl q hq)
    simpa using this)
  obtain ⟨a1, len1, cap1, rfl⟩ := okWide_slice Tryd.underlying37 (hval 1 37 v1 rfl rfl)
  have k1 := h1
  have lt1 : ∀ x ∈ p1, x.block < W.heap.size := by obtain ⟨m, hm⟩ := k1; exact DataW.trod_lt m _ _ _ hm
  obtain ⟨z1, w1⟩ : ∃ dd, SlCq W a1 len1 cap1 dd := by
    clear k1 lt1
    obtain ⟨fuel, hf⟩ := h1
    exact SlCq.open hf (fun q hq => by
      have := List.all_eq_true.1 hsz q (DataW.weights_mem_each (j := 1) (t := 37) (d := d1) rfl rfl q hq)
      simpa using this)
  clear hA0 hval0 hsz
  refine (walk_ChunkPuts x0_0 x0_1 x0_2 a1 len1 cap1 z1 W b0_0 b0_1 b0_2 w1 (of_laid hL)).mono fun e W' ⟨he, bel⟩ => ?_
  subst he
  exact ⟨_, rfl, _, _, _, [], _, [], hW', trodAll_mk1 (shut_bool Tryd.underlying4 _), (trodAll_cons_mk (Below.trod laidOut (by kernel_rfl) (of_decide_eq_true (by kernel_rfl)) k0 bel lt0) (trodAll_cons_mk (Below.trod laidOut (by kernel_rfl) (of_decide_eq_true (by kernel_rfl)) k1 bel lt1) trodAll_mk0)), rfl, bel.frame _, fun h => by cases h⟩
theorem over : Rows.chunkPutsRow.holds Tryd.pinned (OpenSpec.ofChange Rows.chunkPutsSpec) :=
  OpenClaim.holds_of_wide 4 Tryd.f4 rfl rfl rfl rfl rfl rfl rfl ⟨rfl, rfl, rfl, rfl, rfl⟩ rfl rfl rfl rfl rfl (by kernel_rfl) Tryd.func4 (by kernel_rfl)
    (of_decide_eq_true (by kernel_rfl)) (by unfold Func.isWrapper; first | (rw [if_pos (by decide +kernel)]; kernel_rfl) | (rw [if_neg (by decide +kernel)]; exact ⟨rfl, rfl⟩))
    (fun os started H enc _ => lifted os started H enc)
end Go.Proofs.YtifdfkkjmjabnaaDoor.chunkPuts
namespace Go.Proofs.YtifdfkkjmjabnaaDoor
theorem ChunkPuts_holds : Rows.ChunkPutsCardSaid :=
  Claim7.holds_tied_plain_at .later [] [.data] true (true, Rows.chunkPutsCard.stood.harness.2) true
    chunkPuts.over (fun _ h => by cases h) (by kernel_rfl) (fun _ h => by cases h) chunkPuts_row_tie rfl ⟨rfl, rfl⟩ (by kernel_rfl) rfl
    (fun f fn hf hfn => by
      obtain rfl : f = 4 := Option.some.inj ((show Tryd.prog.funcNamed Rows.chunkPutsRow.func = some 4 by kernel_rfl).symm.trans hf) |>.symm
      obtain rfl : fn = Tryd.f4 := (Option.some.inj (Tryd.func4.symm.trans hfn)).symm
      exact ⟨by kernel_rfl, fun j t ht => by
        rw [Tryd.params4] at ht
        have hm : t ∈ [36, 37] := by simpa using Array.mem_of_getElem? ht
        have hall : ([36, 37].all fun u => !Tryd.prog.wantsStandIn u) = true := by kernel_rfl
        exact (show Tryd.prog.wantsStandIn t = false by simpa using List.all_eq_true.1 hall t hm)⟩)
    (by kernel_rfl)
#print axioms ChunkPuts_holds
end Go.Proofs.YtifdfkkjmjabnaaDoor
