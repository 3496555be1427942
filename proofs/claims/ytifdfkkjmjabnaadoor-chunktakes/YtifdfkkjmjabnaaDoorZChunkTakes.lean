/-
  Whatever the input, trunklinelaw12.ChunkTakes answers true and leaves what it was handed as it was.
  (The statement is Rows.ChunkTakesCardSaid; no condition of our own; the listed tables are tied to the program's text.)
-/
import Derived.Test.YtifdfkkjmjabnaaDoorKG
import Derived.Test.YtifdfkkjmjabnaaDoorKB
import Derived.Test.YtifdfkkjmjabnaaDoorRows
import Derived.Test.YtifdfkkjmjabnaaDoorCards
import Derived.Test.YtifdfkkjmjabnaaDoorTie
import Derived.ProofKit
import Derived.LaidMore
import Derived.Lay
import Derived.OpenShut
import Derived.ShutString
import Derived.ChangeOld
import Derived.SizedLaws
import Derived.Stop.Joined
import Derived.SevenTiedAt
namespace Go.Proofs.YtifdfkkjmjabnaaDoor
open Go.RowKit
/-- What both readers answer. -/
structure TkU (w : World) (f t g n : Nat) (er : Int) (C : List CD) (e : Ending) (w' : World) : Prop where
  ex : ∃ la lc, e = .returned (.tuple #[.agg #[.int .u16 (f : Nat), .int .u16 (t : Nat), .int .u32 (g : Nat)], .slice la n lc, .int .i64 er]) ∧ ChsL w' la n lc C
  bel : Below w.heap.size w w'
theorem TkU.of {zs : List Nat} (hbnd : ∀ i, zs.getD i 0 < 256) : ∃ f t g n er C, ∀ w e w', TkX w zs e w' → TkU w f t g n er C e w' := by
  cases hr : takR zs with
  | error er =>
    refine ⟨0, 0, 0, 0, er, [], fun w e w' hX => ?_⟩
    obtain ⟨rfl, hb⟩ := hX.no er hr
    exact ⟨⟨none, 0, rfl, ⟨rfl, by omega, by omega, .inl rfl⟩⟩, hb⟩
  | ok C =>
    have hg := takR_good hbnd hr
    refine ⟨numB (zs.take 2), numB ((zs.drop 2).take 2), numB ((zs.drop 4).take 4), C.length, 0, C, fun w e w' hX => ?_⟩
    have hY := hX.ok C hr
    obtain ⟨la, lc, rfl, hcs⟩ := hY.ex
    have := hg.le
    exact ⟨⟨la, lc, rfl, hcs.chsL (by omega) (fun d hd => ⟨_, (hg.ok d hd).cd⟩)⟩, hY.bel⟩
set_option linter.unusedVariables false in
set_option maxRecDepth 100000 in
set_option maxHeartbeats 8000000 in
theorem walk_ChunkTakes (a : Option Addr) (m c : Nat) (zs : List Nat) (w : World) (hs : Sl w a m c zs ∧ c * 1 ≤ 140737488351232) (hN : NW w) :
    Calls Tryd.prog 5 #[.slice a m c] w fun e w' => e = .returned (.bool true) ∧ Below w.heap.size w w' := by
  obtain ⟨f, t, g, n, er, C, hU⟩ := TkU.of hs.1.bnd
  have HT1 : Hid (Calls Tryd.prog 16 #[.slice a m c] w (TkU w f t g n er C)) := Calls.mono (takeX hs.1) (fun e V hP => hU w e V hP)
  have HT2 : Hid (∀ W, Below w.heap.size w W → Calls Tryd.prog 17 #[.slice a m c] W (TkU W f t g n er C)) := fun W hW => Calls.mono (rtakeX (hs.1.below hW)) (fun e V hP => hU W e V hP)
  have HLV := (show Hid _ from fun W (hW : Below w.heap.size w W) => live12_nw W (hN.below hW))
  have hz3 := zero_head
  clear hs hN hU
  go_enter Tryd.func5, Tryd.ntmps5
  go_wp2_with fail
  refine Calls.mono HT1.out ?_
  clear HT1
  rintro e w1 hX
  obtain ⟨la, lc, rfl, hcs⟩ := hX.ex
  have hb1 := hX.bel
  obtain ⟨W2, hW2⟩ : ∃ W2, W2 = w1.alloc (.cells #[.int .u16 (f : Nat), .int .u16 (t : Nat), .int .u32 (g : Nat)] 36) := ⟨_, rfl⟩
  have b2 : Below w1.heap.size w1 W2 := by rw [hW2]; exact (Below.refl _ _).alloc (Nat.le_refl _) _
  have s2 := Stc.new w1 [.int .u16 (f : Nat), .int .u16 (t : Nat), .int .u32 (g : Nat)] 36 W2 hW2
  have hb2 : Below w.heap.size w W2 := hb1.trans (b2.mono hb1.size)
  have HN := (show Hid _ from HT2.out W2 hb2)
  have HB2 : Hid (Below w.heap.size w W2 ∧ Stc W2 w1.heap.size [.int .u16 (f : Nat), .int .u16 (t : Nat), .int .u32 (g : Nat)] ∧ ChsL W2 la n lc C) := ⟨hb2, s2, hcs.below b2⟩
  clear hX hcs hb1 b2 s2 hb2 HT2
  go_wp2_with fail
  rw [← hW2]
  clear hW2
  refine Calls.mono HN.out ?_
  clear HN
  rintro e w4 hX
  obtain ⟨lb, ld, rfl, hcs⟩ := hX.ex
  have hb4 : Below w.heap.size w w4 := HB2.out.1.trans (hX.bel.mono HB2.out.1.size)
  obtain ⟨W5, hW5⟩ : ∃ W5, W5 = w4.alloc (.cells #[.int .u16 (f : Nat), .int .u16 (t : Nat), .int .u32 (g : Nat)] 36) := ⟨_, rfl⟩
  have b5 : Below w4.heap.size w4 W5 := by rw [hW5]; exact (Below.refl _ _).alloc (Nat.le_refl _) _
  have s5 := Stc.new w4 [.int .u16 (f : Nat), .int .u16 (t : Nat), .int .u32 (g : Nat)] 36 W5 hW5
  have hb5 : Below w.heap.size w W5 := hb4.trans (b5.mono hb4.size)
  have HB5 : Hid (Below w.heap.size w W5 ∧ Stc W5 w1.heap.size [.int .u16 (f : Nat), .int .u16 (t : Nat), .int .u32 (g : Nat)] ∧ Stc W5 w4.heap.size [.int .u16 (f : Nat), .int .u16 (t : Nat), .int .u32 (g : Nat)] ∧ ChsL W5 la n lc C ∧ ChsL W5 lb n ld C) :=
    ⟨hb5, (HB2.out.2.1.below hX.bel).below b5, s5, (HB2.out.2.2.below hX.bel).below b5, hcs.below b5⟩
  have HN := (show Hid _ from HLV.out W5 hb5)
  clear hX hcs hb4 b5 s5 hb5 HB2 HLV
  go_wp2_with fail
  rw [← hW5]
  clear hW5 hz3
  refine Calls.mono HN.out ?_
  clear HN
  rintro e w6 ⟨rfl, b6⟩
  have hb6 : Below w.heap.size w w6 := HB5.out.1.trans (b6.mono HB5.out.1.size)
  have t1 := HB5.out.2.1.below b6
  have t2 := HB5.out.2.2.1.below b6
  have HSA := (show Hid _ from sameAll_yes (HB5.out.2.2.2.1.below b6) (HB5.out.2.2.2.2.below b6))
  have c0 := t1.cell 0 _ rfl
  have c1 := t1.cell 1 _ rfl
  have c2 := t1.cell 2 _ rfl
  have d0 := t2.cell 0 _ rfl
  have d1 := t2.cell 1 _ rfl
  have d2 := t2.cell 2 _ rfl
  have HB6 := (show Hid _ from hb6)
  clear t1 t2 hb6 b6 HB5
  go_wp2_with fail
  refine Calls.mono HSA.out ?_
  clear HSA c0 c1 c2 d0 d1 d2
  rintro e w7 ⟨rfl, b7⟩
  have HB7 : Hid (Below w.heap.size w w7) := HB6.out.trans (b7.mono HB6.out.size)
  clear b7
  go_wp2
  go_ret
  exact ⟨rfl, HB7.out⟩
end Go.Proofs.YtifdfkkjmjabnaaDoor
namespace Go.Proofs.YtifdfkkjmjabnaaDoor.chunkTakes
theorem of_laid {W : World} (h : laidMetH Tryd.prog Rows.chunkTakesRow.laid W) : NW W := by
  rw [MakeChecks.laidMetH_plain _ _ _ (by kernel_rfl)] at h
  exact nw_of_laid h
end Go.Proofs.YtifdfkkjmjabnaaDoor.chunkTakes
namespace Go.Proofs.YtifdfkkjmjabnaaDoor.chunkTakes
open Go.ChangeShapes Go.WideShapes Go.ChangeAt Go.RowKit
open Go.ChangeMaps (open_string shut_string)
set_option linter.unusedVariables false
theorem own : ownKnob Tryd.prog.godebug = none := by kernel_rfl
theorem laidOut : laidOutB Tryd.prog = true := by kernel_rfl
theorem bytes_uint8 : Tryd.prog.bytesOf 5 = 1 := by kernel_rfl
set_option maxRecDepth 100000 in
set_option maxHeartbeats 1000000 in
theorem lifted (os : Os) (started : os.Started) (H : Type) (enc : TypeId × Value → H) :
    ReturnsInHanded {} Tryd.checked os 5 .any (fun w args => (Rows.chunkTakesSpec.pre enc Tryd.prog Tryd.f5 [] false w args ∧ laidMetH Tryd.prog Rows.chunkTakesRow.laid w) ∧ sizedMet enc Tryd.prog Tryd.f5 (OpenSpec.ofChange Rows.chunkTakesSpec) false w args)
      (Rows.chunkTakesSpec.post enc Tryd.prog Tryd.f5 false true false false) := by
  refine returnsInHanded_of_change_and (C := Tryd.checked) (X := fun w _ => laidMetH Tryd.prog Rows.chunkTakesRow.laid w) (fun _ _ _ hh h => h.of_heap hh) own started (by kernel_rfl) Tryd.func5
    (ChangeSpec.witness_shaped (enc := enc) (C := Tryd.checked) (os := os) (X := fun w _ => laidMetH Tryd.prog Rows.chunkTakesRow.laid w) false (World.laidAll Tryd.prog os Rows.chunkTakesRow.laid) #[.slice none 0 0] 8 (World.laidAll_os _ _ _)
      (World.shaped_of_ZipB (by kernel_rfl) (by kernel_rfl)) (by kernel_rfl) (by kernel_rfl) (by kernel_rfl)
      (by rw [MakeChecks.laidMetH_plain _ _ _ (by kernel_rfl)]; exact laidMet_laidAll _ (by kernel_rfl) (by kernel_rfl))) ?_
  intro W base args ds gs before hval0 hW _ hsz0 hL _
  have hsz : (DataW.weightsEach Tryd.prog (Tryd.f5.params.toList ++ Rows.chunkTakesSpec.plain.varTypes Tryd.prog) (ds ++ gs)).all (· ≤ reachBytes) = true := hsz0
  clear hsz0
  have hval : ∀ (j : Nat) t v, Tryd.f5.params[j]? = some t → args[j]? = some v → Value.okWide Tryd.prog W .any base t v := hval0
  have hW' := hW
  obtain ⟨p, q, hA0, hV, rfl, hfz, hnd⟩ := hW
  have hA : DataW.TrodAll enc Tryd.prog W 0 (fun _ => true) true Tryd.f5.params.toList args.toList ds p := hA0
  rw [Tryd.params5] at hA hval hsz
  obtain ⟨v0, vs0, d0, ds0, p0, q0, hargs, rfl, rfl, h0, r0⟩ := trodAll_cons hA
  obtain ⟨rfl, rfl, rfl⟩ := trodAll_nil r0
  obtain rfl : args = #[v0] := by cases args; simp_all
  obtain ⟨rfl, rfl⟩ := trodVars_none hV
  obtain ⟨a0, len0, cap0, rfl⟩ := okWide_slice Tryd.underlying27 (hval 0 27 v0 rfl rfl)
  have k0 := h0
  have lt0 : ∀ x ∈ p0, x.block < W.heap.size := by obtain ⟨m, hm⟩ := k0; exact DataW.trod_lt m _ _ _ hm
  obtain ⟨z0, w0⟩ : ∃ zs, SlK .u8 256 W a0 len0 cap0 zs ∧ cap0 * 1 ≤ 140737488351232 := by
    clear k0 lt0
    obtain ⟨fuel, hf⟩ := h0
    rcases open_ints Tryd.underlying27 Tryd.underlying5 (by kernel_rfl) hf with ⟨hcs, _⟩ | ⟨x, l, c, zs, hcs, _, hl, hm, hz, hx, hcell, hwz⟩
    · simp [Value.cells] at hcs
      obtain ⟨rfl, rfl, rfl⟩ := hcs
      exact ⟨[], SlK.nil _ _ _ (by omega), by omega⟩
    · simp [Value.cells] at hcs
      obtain ⟨rfl, rfl, rfl⟩ := hcs
      obtain ⟨rfl, rfl⟩ := Prod.mk.inj hx
      have hw := sized_slice hsz (j := 0) (t := 27) (e := 5) rfl rfl Tryd.underlying27
      have hz' : zs.length = cap0 := by simpa using hz
      rw [bytes_uint8] at hw
      simp only [lits, List.length_map, List.length_take, List.length_drop, reachBytes] at hw
      exact ⟨_, SlK.of_ints (by omega) (fun z hz => by have := bounds_u8 hz; omega) hl hm hz' (by omega) hcell hwz, by omega⟩
  clear hA0 hval0 hsz
  refine (walk_ChunkTakes a0 len0 cap0 z0 W w0 (of_laid hL)).mono fun e W' ⟨he, bel⟩ => ?_
  subst he
  exact ⟨_, rfl, _, _, _, [], _, [], hW', trodAll_mk1 (shut_bool Tryd.underlying4 _), (trodAll_cons_mk (Below.trod laidOut (by kernel_rfl) (of_decide_eq_true (by kernel_rfl)) k0 bel lt0) trodAll_mk0), rfl, bel.frame _, fun h => by cases h⟩
theorem over : Rows.chunkTakesRow.holds Tryd.pinned (OpenSpec.ofChange Rows.chunkTakesSpec) :=
  OpenClaim.holds_of_wide 5 Tryd.f5 rfl rfl rfl rfl rfl rfl rfl ⟨rfl, rfl, rfl, rfl, rfl⟩ rfl rfl rfl rfl rfl (by kernel_rfl) Tryd.func5 (by kernel_rfl)
    (of_decide_eq_true (by kernel_rfl)) (by unfold Func.isWrapper; first | (rw [if_pos (by decide +kernel)]; kernel_rfl) | (rw [if_neg (by decide +kernel)]; exact ⟨rfl, rfl⟩))
    (fun os started H enc _ => lifted os started H enc)
end Go.Proofs.YtifdfkkjmjabnaaDoor.chunkTakes
namespace Go.Proofs.YtifdfkkjmjabnaaDoor
theorem ChunkTakes_holds : Rows.ChunkTakesCardSaid :=
  Claim7.holds_tied_plain_at .later [] [.data] true (true, Rows.chunkTakesCard.stood.harness.2) true
    chunkTakes.over (fun _ h => by cases h) (by kernel_rfl) (fun _ h => by cases h) chunkTakes_row_tie rfl ⟨rfl, rfl⟩ (by kernel_rfl) rfl
    (fun f fn hf hfn => by
      obtain rfl : f = 5 := Option.some.inj ((show Tryd.prog.funcNamed Rows.chunkTakesRow.func = some 5 by kernel_rfl).symm.trans hf) |>.symm
      obtain rfl : fn = Tryd.f5 := (Option.some.inj (Tryd.func5.symm.trans hfn)).symm
      exact ⟨by kernel_rfl, fun j t ht => by
        rw [Tryd.params5] at ht
        have hm : t ∈ [27] := by simpa using Array.mem_of_getElem? ht
        have hall : ([27].all fun u => !Tryd.prog.wantsStandIn u) = true := by kernel_rfl
        exact (show Tryd.prog.wantsStandIn t = false by simpa using List.all_eq_true.1 hall t hm)⟩)
    (by kernel_rfl)
#print axioms ChunkTakes_holds
end Go.Proofs.YtifdfkkjmjabnaaDoor
