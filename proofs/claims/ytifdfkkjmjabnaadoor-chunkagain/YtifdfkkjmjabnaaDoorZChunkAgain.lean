/-
  Whatever the input, trunklinelaw12.ChunkAgain answers true and leaves what it was handed as it was.
  (The statement is Rows.ChunkAgainCardSaid; no condition of our own; the listed tables are tied to the program's text.)
-/
import Derived.Test.YtifdfkkjmjabnaaDoorKF
import Derived.Test.YtifdfkkjmjabnaaDoorKB
import Derived.Test.YtifdfkkjmjabnaaDoorRows
import Derived.Test.YtifdfkkjmjabnaaDoorCards
import Derived.Test.YtifdfkkjmjabnaaDoorTie
import Derived.ProofKit
import Derived.LaidMore
import Derived.Lay
import Derived.OpenShut
import Derived.ShutString
import Derived.ChangeOld
import Derived.SizedLaws
import Derived.Stop.Joined
import Derived.SevenTiedAt
namespace Go.Proofs.YtifdfkkjmjabnaaDoor
open Go.RowKit
set_option linter.unusedVariables false in
set_option maxRecDepth 100000 in
set_option maxHeartbeats 8000000 in
theorem walk_ChunkAgain (a : Option Addr) (m c : Nat) (zs : List Nat) (w : World) (hs : Sl w a m c zs ∧ c * 1 ≤ 140737488351232) (hN : NW w) :
    Calls Tryd.prog 8 #[.slice a m c] w fun e w' => e = .returned (.bool true) ∧ Below w.heap.size w w' := by
  have hl := hs.1.len
  have hbnd := hs.1.bnd
  have HT := (show Hid _ from takeX hs.1)
  have HLV := (show Hid _ from fun W (hW : Below w.heap.size w W) => live12_nw W (hN.below hW))
  have hz3 := zero_head
  clear hs hN
  cases hr : takR zs with
  | error er =>
    have hne := takR_err hr
    have g1 : (er != 0) = true := by simpa using hne
    have HR := (show Hid _ from hr)
    clear hr hne hbnd hl
    go_enter Tryd.func8, Tryd.ntmps8
    go_wp2_with fail
    refine Calls.mono HT.out ?_
    clear HT
    rintro e w1 hX
    obtain ⟨rfl, hb1⟩ := hX.no er HR.out
    obtain ⟨W2, hW2⟩ : ∃ W2, W2 = w1.alloc (.cells #[.int .u16 0, .int .u16 0, .int .u32 0] 36) := ⟨_, rfl⟩
    have b2 : Below w1.heap.size w1 W2 := by rw [hW2]; exact (Below.refl _ _).alloc (Nat.le_refl _) _
    have s2 := Stc.new w1 [.int .u16 0, .int .u16 0, .int .u32 0] 36 W2 hW2
    have hb2 : Below w.heap.size w W2 := hb1.trans (b2.mono hb1.size)
    have HN := (show Hid _ from HLV.out W2 hb2)
    have HS := (show Hid _ from And.intro s2 hb2)
    clear hX hb1 b2 s2 hb2 HLV HR
    go_wp2_with fail
    rw [← hW2]
    clear hW2
    refine Calls.mono HN.out ?_
    clear HN
    rintro e w3 ⟨rfl, b3⟩
    have s3 := HS.out.1.below b3
    have k0 := s3.cell 0 _ rfl
    have k1 := s3.cell 1 _ rfl
    have k2 := s3.cell 2 _ rfl
    have HB : Hid (Below w.heap.size w w3) := HS.out.2.trans (b3.mono HS.out.2.size)
    clear s3 b3 HS
    go_wp2
    go_ret
    exact ⟨rfl, HB.out⟩
  | ok C =>
    have hg := takR_good hbnd hr
    have HG := (show Hid _ from hg)
    have HR := (show Hid _ from hr)
    have hn32 := hg.le
    have n1 := numB_take (take_bnd hbnd 2) 2
    have hf : numB (zs.take 2) < 65536 := numB_take hbnd 2 (by have := hg.sum; omega)
    have ht : numB ((zs.drop 2).take 2) < 65536 := numB_take (drop_bnd hbnd 2) 2 (by have := hg.sum; rw [List.length_drop]; omega)
    have hgg : numB ((zs.drop 4).take 4) < 4294967296 := numB_take (drop_bnd hbnd 4) 4 (by have := hg.sum; rw [List.length_drop]; omega)
    have hok : ∀ C', takR zs = .ok C' → C' = C := fun C' e => by rw [hr] at e; injection e with e; exact e.symm
    have HT2 : Hid (Calls Tryd.prog 16 #[.slice a m c] w (TkC w (numB (zs.take 2)) (numB ((zs.drop 2).take 2)) (numB ((zs.drop 4).take 4)) C.length C)) := Calls.mono HT.out (fun e V hP => hP.ok C hr)
    generalize numB (zs.take 2) = f at *
    generalize numB ((zs.drop 2).take 2) = t at *
    generalize numB ((zs.drop 4).take 4) = g at *
    obtain ⟨n, hn⟩ : ∃ n, n = C.length := ⟨_, rfl⟩
    rw [← hn] at HT2 hn32
    have HN0 := (show Hid _ from hn)
    have hz1480 := hg.len
    clear hr hok n1 hbnd HT hg hn HR
    go_enter Tryd.func8, Tryd.ntmps8
    go_wp2_with fail
    refine Calls.mono HT2.out ?_
    clear HT2
    rintro e w1 hX
    obtain ⟨la, lc, rfl, hcs⟩ := hX.ex
    have hb1 := hX.bel
    obtain ⟨W2, hW2⟩ : ∃ W2, W2 = w1.alloc (.cells #[.int .u16 (f : Nat), .int .u16 (t : Nat), .int .u32 (g : Nat)] 36) := ⟨_, rfl⟩
    have b2 : Below w1.heap.size w1 W2 := by rw [hW2]; exact (Below.refl _ _).alloc (Nat.le_refl _) _
    have s2 := Stc.new w1 [.int .u16 (f : Nat), .int .u16 (t : Nat), .int .u32 (g : Nat)] 36 W2 hW2
    have hb2 : Below w.heap.size w W2 := hb1.trans (b2.mono hb1.size)
    obtain ⟨dd, hdd, hdc⟩ := hcs.slCq (by omega) HG.out.ok
    have hdd2 := hdd.below b2
    obtain ⟨hmb, hsum⟩ := again_ok (hdc ▸ HG.out) hdd
    have hP := ptOk (f := f) (t := t) (g := g) hmb
    have hL12 : 12 ≤ (hdB f t g ++ catL (cvQ dd)).length := by have := hP.small; omega
    have hsl : (ptQ f t g dd).length = (hdB f t g ++ catL (cvQ dd)).length := by rw [hP.val, stampV_len _ hL12]
    have HPT := (show Hid _ from put_row hdd2 f t g hf ht hgg)
    rw [hmb, hP.val] at HPT
    obtain ⟨L, hL⟩ : ∃ L, L = (hdB f t g ++ catL (cvQ dd)).length := ⟨_, rfl⟩
    have h16 := hP.small
    have h14 := hP.big
    have hle := hP.le
    have hLz : L ≤ m := by rw [hL, hP.len, ← hl]; exact hsum
    rw [← hL] at h16 h14
    have HSL : Hid ((stampV (hdB f t g ++ catL (cvQ dd))).length = L) := by show _ = _; rw [stampV_len _ hL12, hL]
    have hok := cv_ok hdd.wf hP.ok
    have HOK : Hid (∀ d ∈ C, ∃ vz, CdB d vz) := fun d hd => ⟨_, (HG.out.ok d hd).cd⟩
    have HL : Hid (stampV (hdB f t g ++ catL (cvQ dd)) = stampV (hdB f t g ++ catL (cvQ dd))) := rfl
    have hcl : (cvQ dd).length = n := by unfold cvQ; rw [List.length_map]; exact hdd.len
    have hcm : (cvQ dd).map (·.1) = C := by unfold cvQ; rw [List.map_map]; exact hdc
    have HTK : Hid (∀ W pa pc, Sl W (some ⟨pa, 0, none⟩) L pc (stampV (hdB f t g ++ catL (cvQ dd))) → Calls Tryd.prog 16 #[.slice (some ⟨pa, 0, none⟩) L pc] W (TkC W f t g n C)) := fun W pa pc hsl9 => by
      have k := take_put f t g hf ht hgg (cvQ dd) hsl9 (by omega) (by omega) (by rw [hcl]; omega) hok
      rw [hcl, hcm] at k
      exact k
    have HB2 : Hid (Below w.heap.size w W2 ∧ Stc W2 w1.heap.size [.int .u16 (f : Nat), .int .u16 (t : Nat), .int .u32 (g : Nat)] ∧ ChsL W2 la n lc C) := ⟨hb2, s2, (hcs.chsL (by omega) HOK.out).below b2⟩
    have hLi : (L : Int) ≤ (m : Int) := by omega
    clear hX hcs hb1 b2 s2 hb2 hdd hdd2 hmb hsum hP hL12 hsl hL hok hcl hcm HL hdc hle hl
    have c0 := HB2.out.2.1.cell 0 _ rfl
    have c1 := HB2.out.2.1.cell 1 _ rfl
    have c2 := HB2.out.2.1.cell 2 _ rfl
    go_wp2_with fail
    rw [← hW2]
    clear hW2
    refine Calls.mono HPT.out ?_
    clear HPT c0 c1 c2
    rintro e w3 hR
    obtain ⟨pa, pc, he, ho⟩ := hR.ex
    rw [HSL.out] at he ho
    subst he
    obtain ⟨q, hq⟩ : ∃ q, pa = some ⟨q, 0, none⟩ := by
      rcases ho.own.2 with ⟨_, h0⟩ | ⟨g, cap, cur, hv, _⟩
      · omega
      · injection hv with e1
        exact ⟨g, e1⟩
    subst hq
    have hsl := ho.sl (by omega)
    have HN := (show Hid _ from HTK.out w3 q pc hsl)
    have hb3 : Below w.heap.size w w3 := HB2.out.1.trans (hR.bel.mono HB2.out.1.size)
    have HB3 : Hid (Below w.heap.size w w3 ∧ Stc w3 w1.heap.size [.int .u16 (f : Nat), .int .u16 (t : Nat), .int .u32 (g : Nat)] ∧ ChsL w3 la n lc C) := ⟨hb3, HB2.out.2.1.below hR.bel, HB2.out.2.2.below hR.bel⟩
    clear HTK hsl hb3 hR ho HB2 HSL
    go_wp2_with fail
    refine Calls.mono HN.out ?_
    clear HN
    rintro e w4 hX
    obtain ⟨lb, ld, rfl, hcs⟩ := hX.ex
    have hb4 : Below w.heap.size w w4 := HB3.out.1.trans (hX.bel.mono HB3.out.1.size)
    obtain ⟨W5, hW5⟩ : ∃ W5, W5 = w4.alloc (.cells #[.int .u16 (f : Nat), .int .u16 (t : Nat), .int .u32 (g : Nat)] 36) := ⟨_, rfl⟩
    have b5 : Below w4.heap.size w4 W5 := by rw [hW5]; exact (Below.refl _ _).alloc (Nat.le_refl _) _
    have s5 := Stc.new w4 [.int .u16 (f : Nat), .int .u16 (t : Nat), .int .u32 (g : Nat)] 36 W5 hW5
    have hb5 : Below w.heap.size w W5 := hb4.trans (b5.mono hb4.size)
    have HB5 : Hid (Below w.heap.size w W5 ∧ Stc W5 w1.heap.size [.int .u16 (f : Nat), .int .u16 (t : Nat), .int .u32 (g : Nat)] ∧ Stc W5 w4.heap.size [.int .u16 (f : Nat), .int .u16 (t : Nat), .int .u32 (g : Nat)] ∧ ChsL W5 la n lc C ∧ ChsL W5 lb n ld C) :=
      ⟨hb5, (HB3.out.2.1.below hX.bel).below b5, s5, (HB3.out.2.2.below hX.bel).below b5, (hcs.chsL (by omega) HOK.out).below b5⟩
    have HN := (show Hid _ from HLV.out W5 hb5)
    clear hX hcs hb4 b5 s5 hb5 HB3 HLV
    go_wp2_with fail
    rw [← hW5]
    clear hW5
    refine Calls.mono HN.out ?_
    clear HN
    rintro e w6 ⟨rfl, b6⟩
    have hb6 : Below w.heap.size w w6 := HB5.out.1.trans (b6.mono HB5.out.1.size)
    have t1 := HB5.out.2.1.below b6
    have t2 := HB5.out.2.2.1.below b6
    have HSA := (show Hid _ from sameAll_yes (HB5.out.2.2.2.1.below b6) (HB5.out.2.2.2.2.below b6))
    have c0 := t1.cell 0 _ rfl
    have c1 := t1.cell 1 _ rfl
    have c2 := t1.cell 2 _ rfl
    have d0 := t2.cell 0 _ rfl
    have d1 := t2.cell 1 _ rfl
    have d2 := t2.cell 2 _ rfl
    have HB6 := (show Hid _ from hb6)
    clear t1 t2 hb6 b6 HB5
    go_wp2_with fail
    refine Calls.mono HSA.out ?_
    clear HSA c0 c1 c2 d0 d1 d2
    rintro e w7 ⟨rfl, b7⟩
    have HB7 : Hid (Below w.heap.size w w7) := HB6.out.trans (b7.mono HB6.out.size)
    clear b7
    go_wp2
    go_ret
    exact ⟨rfl, HB7.out⟩
end Go.Proofs.YtifdfkkjmjabnaaDoor
namespace Go.Proofs.YtifdfkkjmjabnaaDoor.chunkAgain
theorem of_laid {W : World} (h : laidMetH Tryd.prog Rows.chunkAgainRow.laid W) : NW W := by
  rw [MakeChecks.laidMetH_plain _ _ _ (by kernel_rfl)] at h
  exact nw_of_laid h
end Go.Proofs.YtifdfkkjmjabnaaDoor.chunkAgain
namespace Go.Proofs.YtifdfkkjmjabnaaDoor.chunkAgain
open Go.ChangeShapes Go.WideShapes Go.ChangeAt Go.RowKit
open Go.ChangeMaps (open_string shut_string)
set_option linter.unusedVariables false
theorem own : ownKnob Tryd.prog.godebug = none := by kernel_rfl
theorem laidOut : laidOutB Tryd.prog = true := by kernel_rfl
theorem bytes_uint8 : Tryd.prog.bytesOf 5 = 1 := by kernel_rfl
set_option maxRecDepth 100000 in
set_option maxHeartbeats 1000000 in
theorem lifted (os : Os) (started : os.Started) (H : Type) (enc : TypeId × Value → H) :
    ReturnsInHanded {} Tryd.checked os 8 .any (fun w args => (Rows.chunkAgainSpec.pre enc Tryd.prog Tryd.f8 [] false w args ∧ laidMetH Tryd.prog Rows.chunkAgainRow.laid w) ∧ sizedMet enc Tryd.prog Tryd.f8 (OpenSpec.ofChange Rows.chunkAgainSpec) false w args)
      (Rows.chunkAgainSpec.post enc Tryd.prog Tryd.f8 false true false false) := by
  refine returnsInHanded_of_change_and (C := Tryd.checked) (X := fun w _ => laidMetH Tryd.prog Rows.chunkAgainRow.laid w) (fun _ _ _ hh h => h.of_heap hh) own started (by kernel_rfl) Tryd.func8
    (ChangeSpec.witness_shaped (enc := enc) (C := Tryd.checked) (os := os) (X := fun w _ => laidMetH Tryd.prog Rows.chunkAgainRow.laid w) false (World.laidAll Tryd.prog os Rows.chunkAgainRow.laid) #[.slice none 0 0] 8 (World.laidAll_os _ _ _)
      (World.shaped_of_ZipB (by kernel_rfl) (by kernel_rfl)) (by kernel_rfl) (by kernel_rfl) (by kernel_rfl)
      (by rw [MakeChecks.laidMetH_plain _ _ _ (by kernel_rfl)]; exact laidMet_laidAll _ (by kernel_rfl) (by kernel_rfl))) ?_
  intro W base args ds gs before hval0 hW _ hsz0 hL _
  have hsz : (DataW.weightsEach Tryd.prog (Tryd.f8.params.toList ++ Rows.chunkAgainSpec.plain.varTypes Tryd.prog) (ds ++ gs)).all (· ≤ reachBytes) = true := hsz0
  clear hsz0
  have hval : ∀ (j : Nat) t v, Tryd.f8.params[j]? = some t → args[j]? = some v → Value.okWide Tryd.prog W .any base t v := hval0
  have hW' := hW
  obtain ⟨p, q, hA0, hV, rfl, hfz, hnd⟩ := hW
  have hA : DataW.TrodAll enc Tryd.prog W 0 (fun _ => true) true Tryd.f8.params.toList args.toList ds p := hA0
  rw [Tryd.params8] at hA hval hsz
  obtain ⟨v0, vs0, d0, ds0, p0, q0, hargs, rfl, rfl, h0, r0⟩ := trodAll_cons hA
  obtain ⟨rfl, rfl, rfl⟩ := trodAll_nil r0
  obtain rfl : args = #[v0] := by cases args; simp_all
  obtain ⟨rfl, rfl⟩ := trodVars_none hV
  obtain ⟨a0, len0, cap0, rfl⟩ := okWide_slice Tryd.underlying27 (hval 0 27 v0 rfl rfl)
  have k0 := h0
  have lt0 : ∀ x ∈ p0, x.block < W.heap.size := by obtain ⟨m, hm⟩ := k0; exact DataW.trod_lt m _ _ _ hm
  obtain ⟨z0, w0⟩ : ∃ zs, SlK .u8 256 W a0 len0 cap0 zs ∧ cap0 * 1 ≤ 140737488351232 := by
    clear k0 lt0
    obtain ⟨fuel, hf⟩ := h0
    rcases open_ints Tryd.underlying27 Tryd.underlying5 (by kernel_rfl) hf with ⟨hcs, _⟩ | ⟨x, l, c, zs, hcs, _, hl, hm, hz, hx, hcell, hwz⟩
    · simp [Value.cells] at hcs
      obtain ⟨rfl, rfl, rfl⟩ := hcs
      exact ⟨[], SlK.nil _ _ _ (by omega), by omega⟩
    · simp [Value.cells] at hcs
      obtain ⟨rfl, rfl, rfl⟩ := hcs
      obtain ⟨rfl, rfl⟩ := Prod.mk.inj hx
      have hw := sized_slice hsz (j := 0) (t := 27) (e := 5) rfl rfl Tryd.underlying27
      have hz' : zs.length = cap0 := by simpa using hz
      rw [bytes_uint8] at hw
      simp only [lits, List.length_map, List.length_take, List.length_drop, reachBytes] at hw
      exact ⟨_, SlK.of_ints (by omega) (fun z hz => by have := bounds_u8 hz; omega) hl hm hz' (by omega) hcell hwz, by omega⟩
  clear hA0 hval0 hsz
  refine (walk_ChunkAgain a0 len0 cap0 z0 W w0 (of_laid hL)).mono fun e W' ⟨he, bel⟩ => ?_
  subst he
  exact ⟨_, rfl, _, _, _, [], _, [], hW', trodAll_mk1 (shut_bool Tryd.underlying4 _), (trodAll_cons_mk (Below.trod laidOut (by kernel_rfl) (of_decide_eq_true (by kernel_rfl)) k0 bel lt0) trodAll_mk0), rfl, bel.frame _, fun h => by cases h⟩
theorem over : Rows.chunkAgainRow.holds Tryd.pinned (OpenSpec.ofChange Rows.chunkAgainSpec) :=
  OpenClaim.holds_of_wide 8 Tryd.f8 rfl rfl rfl rfl rfl rfl rfl ⟨rfl, rfl, rfl, rfl, rfl⟩ rfl rfl rfl rfl rfl (by kernel_rfl) Tryd.func8 (by kernel_rfl)
    (of_decide_eq_true (by kernel_rfl)) (by unfold Func.isWrapper; first | (rw [if_pos (by decide +kernel)]; kernel_rfl) | (rw [if_neg (by decide +kernel)]; exact ⟨rfl, rfl⟩))
    (fun os started H enc _ => lifted os started H enc)
end Go.Proofs.YtifdfkkjmjabnaaDoor.chunkAgain
namespace Go.Proofs.YtifdfkkjmjabnaaDoor
theorem ChunkAgain_holds : Rows.ChunkAgainCardSaid :=
  Claim7.holds_tied_plain_at .later [] [.data] true (true, Rows.chunkAgainCard.stood.harness.2) true
    chunkAgain.over (fun _ h => by cases h) (by kernel_rfl) (fun _ h => by cases h) chunkAgain_row_tie rfl ⟨rfl, rfl⟩ (by kernel_rfl) rfl
    (fun f fn hf hfn => by
      obtain rfl : f = 8 := Option.some.inj ((show Tryd.prog.funcNamed Rows.chunkAgainRow.func = some 8 by kernel_rfl).symm.trans hf) |>.symm
      obtain rfl : fn = Tryd.f8 := (Option.some.inj (Tryd.func8.symm.trans hfn)).symm
      exact ⟨by kernel_rfl, fun j t ht => by
        rw [Tryd.params8] at ht
        have hm : t ∈ [27] := by simpa using Array.mem_of_getElem? ht
        have hall : ([27].all fun u => !Tryd.prog.wantsStandIn u) = true := by kernel_rfl
        exact (show Tryd.prog.wantsStandIn t = false by simpa using List.all_eq_true.1 hall t hm)⟩)
    (by kernel_rfl)
#print axioms ChunkAgain_holds
end Go.Proofs.YtifdfkkjmjabnaaDoor
