/-
  Whatever the input, trunklinelaw12.ChunkBack answers true and leaves what it was handed as it was.
  (The statement is Rows.ChunkBackCardSaid; no condition of our own; the listed tables are tied to the program's text.)
-/
import Derived.Test.YtifdfkkjmjabnaaDoorKB
import Derived.Test.YtifdfkkjmjabnaaDoorRows
import Derived.Test.YtifdfkkjmjabnaaDoorCards
import Derived.Test.YtifdfkkjmjabnaaDoorTie
import Derived.ProofKit
import Derived.LaidMore
import Derived.Lay
import Derived.OpenShut
import Derived.ShutString
import Derived.ChangeOld
import Derived.SizedLaws
import Derived.Stop.Joined
import Derived.SevenTiedAt
import Derived.Test.YtifdfkkjmjabnaaDoorStHead
namespace Go.Proofs.YtifdfkkjmjabnaaDoor
open Go.RowKit
set_option linter.unusedVariables false in
set_option maxRecDepth 100000 in
set_option maxHeartbeats 8000000 in
theorem walk_ChunkBack (f t g : Nat) (a : Option Addr) (n c : Nat) (dd : List ChQ) (w : World) (hf : f < 65536) (ht : t < 65536) (hg : g < 4294967296) (hR : SlCq w a n c dd) (hN : NW w) :
    Calls Tryd.prog 6 #[.agg #[.int .u16 (f : Nat), .int .u16 (t : Nat), .int .u32 (g : Nat)], .slice a n c] w fun e w' => e = .returned (.bool true) ∧ Below w.heap.size w w' := by
  obtain ⟨W1, hW1⟩ : ∃ W1, W1 = w.alloc (.cells #[.int .u16 (f : Nat), .int .u16 (t : Nat), .int .u32 (g : Nat)] 36) := ⟨_, rfl⟩
  have b1 : Below w.heap.size w W1 := by rw [hW1]; exact (Below.refl _ _).alloc (Nat.le_refl _) _
  have s1 := Stc.new w [.int .u16 (f : Nat), .int .u16 (t : Nat), .int .u32 (g : Nat)] 36 W1 hW1
  have hlen := hR.len
  have hcap := hR.cap
  have hsml := hR.small
  have HP := (show Hid _ from put_row (hR.below b1) f t g hf ht hg)
  have HB1 : Hid (Below w.heap.size w W1 ∧ Stc W1 w.heap.size [.int .u16 (f : Nat), .int .u16 (t : Nat), .int .u32 (g : Nat)]) := ⟨b1, s1⟩
  have HR := (show Hid _ from hR)
  have HLV := (show Hid _ from fun W (hW : Below w.heap.size w W) => live12_nw W (hN.below hW))
  have HW1 := (show Hid _ from hW1)
  clear b1 s1 hR hN hW1
  go_enter Tryd.func6, Tryd.ntmps6
  go_wp2_with fail
  rw [← HW1.out]
  refine Calls.mono HP.out ?_
  clear HP
  rintro e w3 hR
  obtain ⟨pa, pc, rfl, ho⟩ := hR.ex
  have hb3 : Below w.heap.size w w3 := HB1.out.1.trans (hR.bel.mono HB1.out.1.size)
  have s3 := HB1.out.2.below hR.bel
  by_cases hE : mbQ dd = 0
  · have hP := ptOk (f := f) (t := t) (g := g) hE
    rw [hE] at *
    have hL12 : 12 ≤ (hdB f t g ++ catL (cvQ dd)).length := by have := hP.small; omega
    have hsl : (ptQ f t g dd).length = (hdB f t g ++ catL (cvQ dd)).length := by rw [hP.val, stampV_len _ hL12]
    rw [hsl] at ho ⊢
    rw [hP.val] at ho
    obtain ⟨L, hL⟩ : ∃ L, L = (hdB f t g ++ catL (cvQ dd)).length := ⟨_, rfl⟩
    have h16 := hP.small
    have h1480 := hP.big
    have hle := hP.le
    rw [← hL] at ho h16 h1480 ⊢
    have hs := ho.sl (by omega)
    obtain ⟨q, hq⟩ : ∃ q, pa = some ⟨q, 0, none⟩ := by
      rcases ho.own.2 with ⟨_, h0⟩ | ⟨g, cap, cur, hv, _⟩
      · omega
      · injection hv with e1
        exact ⟨g, e1⟩
    subst hq
    have hcl : (cvQ dd).length = dd.length := by unfold cvQ; simp
    have hcm : (cvQ dd).map (·.1) = dd.map ChQ.cd := by unfold cvQ; simp
    have hok := cv_ok HR.out.wf hP.ok
    have HTK := (show Hid _ from take_put f t g hf ht hg (cvQ dd) hs (by omega) (by omega) (by rw [hcl]; exact hle) hok)
    rw [hcl, hcm, hlen] at HTK
    have HOK : Hid (∀ d ∈ dd.map ChQ.cd, ∃ vz, CdB d vz) := by
      show ∀ _, _
      rw [← hcm]
      intro d hd
      obtain ⟨x, hx, rfl⟩ := List.mem_map.1 hd
      exact ⟨_, (hok x hx).1⟩
    have HSM : Hid (12 + sumS (fun j => spcN (dd.getD j default).cd) n = L) := by show _ = _; rw [hL, hP.len, hlen]
    have HCK := (show Hid _ from hP.ok)
    have HB3 : Hid (Below w.heap.size w w3 ∧ Stc w3 w.heap.size [.int .u16 (f : Nat), .int .u16 (t : Nat), .int .u32 (g : Nat)]) := ⟨hb3, s3⟩
    have HF4 : Hid (L % 4 = 0) := by
      show _ = _
      have := sumS_four (S := fun j => spcN (dd.getD j default).cd) n (fun j _ => spcN_four _)
      have h2 := HSM.out
      omega
    have hn32 : n ≤ 32 := by omega
    have hz3 := zero_head
    clear hsl hP hL hs ho hR hcl hcm hok hL12 hb3 s3 hE HW1
    go_wp2_with fail
    refine Calls.mono HTK.out ?_
    clear HTK
    rintro e w4 hT
    obtain ⟨la, lc, rfl, hcs⟩ := hT.ex
    have hb4 : Below w.heap.size w w4 := HB3.out.1.trans (hT.bel.mono HB3.out.1.size)
    obtain ⟨W5, hW5⟩ : ∃ W5, W5 = w4.alloc (.cells #[.int .u16 (f : Nat), .int .u16 (t : Nat), .int .u32 (g : Nat)] 36) := ⟨_, rfl⟩
    have b5 : Below w4.heap.size w4 W5 := by rw [hW5]; exact (Below.refl _ _).alloc (Nat.le_refl _) _
    have s5 := Stc.new w4 [.int .u16 (f : Nat), .int .u16 (t : Nat), .int .u32 (g : Nat)] 36 W5 hW5
    have HS5 : Hid (Stc W5 w4.heap.size [.int .u16 (f : Nat), .int .u16 (t : Nat), .int .u32 (g : Nat)] ∧ Stc W5 w.heap.size [.int .u16 (f : Nat), .int .u16 (t : Nat), .int .u32 (g : Nat)] ∧ Below w.heap.size w W5 ∧ ChsL W5 la n lc (dd.map ChQ.cd)) :=
      ⟨s5, (HB3.out.2.below hT.bel).below b5, hb4.trans (b5.mono hb4.size), (hcs.chsL (by omega) HOK.out).below b5⟩
    clear hT hcs hb4 b5 s5 HB3
    go_wp2
    rw [← hW5]
    clear hW5 hz3
    have HBR0 : Hid (Below W5.heap.size W5 W5) := Below.refl _ _
    go_loopw [10, 11] (fun u10 u11 wr => ∃ i : Nat, i ≤ n ∧ u11 = .int .i64 (i : Nat) ∧ u10 = .int .i64 ((12 + sumS (fun j => spcN (dd.getD j default).cd) i : Nat) : Int) ∧ Below W5.heap.size W5 wr) (fun _ u _ => n - (intOf u).toNat)
    case atStart => exact ⟨0, by omega, rfl, rfl, HBR0.out⟩
    case round =>
      obtain ⟨i, hin, rfl, rfl, hbr⟩ := hrel
      have HBR := (show Hid _ from hbr)
      have hsum := sumS_mono (S := fun j => spcN (dd.getD j default).cd) hin
      have hsumL := HSM.out
      clear hbr HBR0
      by_cases hlt : i < n
      · have hlt1 : (i : Int) < (n : Int) := by omega
        obtain ⟨b, off, rfl, hbl, hrow⟩ : ∃ b off, a = some ⟨b, off, none⟩ ∧ b < w.heap.size ∧ ∀ i x, dd[i]? = some x → ∀ j v, x.vals[j]? = some v → w.cell? ⟨b, off + i * 14 + j, none⟩ = some v := HR.out.at_.resolve_left (by omega)
        have hdi := getD_q (dd := dd) (j := i) (by omega)
        have hm := List.mem_of_getElem? hdi
        have hwr : Below w.heap.size w wr := HS5.out.2.2.1.trans (HBR.out.mono HS5.out.2.2.1.size)
        have hrg : wr.rangeAt b (off + i * 14) (dd.getD i default).vals := fun j u hu => (hwr.cell (p := ⟨b, off + i * 14 + j, none⟩) hbl).trans (hrow i _ hdi j u hu)
        have HSZ := (show Hid _ from size_one ((HR.out.below hwr).wf _ hm) (HCK.out _ hm))
        have HSS : Hid (sumS (fun j => spcN (dd.getD j default).cd) (i + 1) = sumS (fun j => spcN (dd.getD j default).cd) i + spcN (dd.getD i default).cd) := rfl
        have hsum2 := sumS_mono (S := fun j => spcN (dd.getD j default).cd) (show i + 1 ≤ n by omega)
        rw [HSS.out] at hsum2
        have hcl := (chq_one (dd.getD i default)).1
        have hi14 := ch_size14 _ hcl
        generalize (dd.getD i default).vals = cs at *
        generalize spcN (dd.getD i default).cd = si at *
        generalize hsg : sumS (fun j => spcN (dd.getD j default).cd) i = sg at *
        have HSG := (show Hid _ from hsg)
        clear hsg hrow hwr hm hdi
        go_wp2_with (first | (refine wpList_load_mid rfl 29 _ rfl b (off + i * 14) rfl cs _ hrg Tryd.underlying29 rfl hi14 ?_) | fail)
        refine Calls.mono HSZ.out ?_
        clear HSZ hrg
        rintro e w6 ⟨rfl, b6⟩
        have HB6 : Hid (Below W5.heap.size W5 w6) := HBR.out.trans (b6.mono HBR.out.size)
        clear b6 HBR
        go_wp2
        go_roundw
        case rel => exact ⟨i + 1, by omega, by go_num, congrArg (Value.int .i64) (by have := HSS.out; omega), HB6.out⟩
        case measure => simp [intOf]; omega
      · have hlt1 : ¬ (i : Int) < (n : Int) := by omega
        have hien : i = n := by omega
        subst hien
        rw [HSM.out]
        clear hsum hsumL hlt
        have hwr : Below w.heap.size w wr := HS5.out.2.2.1.trans (HBR.out.mono HS5.out.2.2.1.size)
        have HB6 := (show Hid _ from hwr)
        clear hwr
        go_wp2_with fail
        refine Calls.mono (HLV.out wr HB6.out) ?_
        rintro e w7 ⟨rfl, b7⟩
        have hb57 : Below W5.heap.size W5 w7 := HBR.out.trans (b7.mono HBR.out.size)
        have hb7 : Below w.heap.size w w7 := HB6.out.trans (b7.mono HB6.out.size)
        have HSA := (show Hid _ from sameAll_yes ((HR.out.below hb7).chsL) (HS5.out.2.2.2.below hb57))
        have t1 := HS5.out.1.below hb57
        have t2 := HS5.out.2.1.below hb57
        have c0 := t1.cell 0 _ rfl
        have c1 := t1.cell 1 _ rfl
        have c2 := t1.cell 2 _ rfl
        have d0 := t2.cell 0 _ rfl
        have d1 := t2.cell 1 _ rfl
        have d2 := t2.cell 2 _ rfl
        have HB7 := (show Hid _ from hb7)
        clear b7 hb57 hb7 t1 t2 HB6 HBR HLV
        go_wp2_with fail
        refine Calls.mono HSA.out ?_
        clear HSA c0 c1 c2 d0 d1 d2
        rintro e w8 ⟨rfl, b8⟩
        have HB8 : Hid (Below w.heap.size w w8) := HB7.out.trans (b8.mono HB7.out.size)
        have h4 : (L : Int).tmod 4 = 0 := by rw [Int.tmod_eq_emod_of_nonneg (by omega)]; have := HF4.out; omega
        clear b8
        go_wp2
        go_ret
        exact ⟨rfl, HB8.out⟩
  · have HB3 : Hid (Below w.heap.size w w3) := hb3
    have HLV3 := (show Hid _ from HLV.out w3 hb3)
    have gE : ¬ mbQ dd = 0 := hE
    have h0 : (ptQ f t g dd).length = 0 := by unfold ptQ; rw [if_neg hE]; rfl
    rw [h0] at *
    clear hE ho hR hb3 s3 h0
    generalize mbQ dd = me at *
    have g1 : (me != 0) = true := by simpa using gE
    go_wp2_with fail
    refine Calls.mono HLV3.out ?_
    rintro e w7 ⟨rfl, b7⟩
    have HB7 : Hid (Below w.heap.size w w7) := HB3.out.trans (b7.mono HB3.out.size)
    clear b7 HLV3
    go_wp2
    go_ret
    exact ⟨by first | rfl | simp [gE], HB7.out⟩
end Go.Proofs.YtifdfkkjmjabnaaDoor
namespace Go.Proofs.YtifdfkkjmjabnaaDoor.chunkBack
theorem of_laid {W : World} (h : laidMetH Tryd.prog Rows.chunkBackRow.laid W) : NW W := by
  rw [MakeChecks.laidMetH_plain _ _ _ (by kernel_rfl)] at h
  exact nw_of_laid h
end Go.Proofs.YtifdfkkjmjabnaaDoor.chunkBack
namespace Go.Proofs.YtifdfkkjmjabnaaDoor.chunkBack
open Go.ChangeShapes Go.WideShapes Go.ChangeAt Go.RowKit
open Go.ChangeMaps (open_string shut_string)
set_option linter.unusedVariables false
theorem own : ownKnob Tryd.prog.godebug = none := by kernel_rfl
theorem laidOut : laidOutB Tryd.prog = true := by kernel_rfl
set_option maxRecDepth 100000 in
set_option maxHeartbeats 1000000 in
theorem lifted (os : Os) (started : os.Started) (H : Type) (enc : TypeId × Value → H) :
    ReturnsInHanded {} Tryd.checked os 6 .any (fun w args => (Rows.chunkBackSpec.pre enc Tryd.prog Tryd.f6 [] false w args ∧ laidMetH Tryd.prog Rows.chunkBackRow.laid w) ∧ sizedMet enc Tryd.prog Tryd.f6 (OpenSpec.ofChange Rows.chunkBackSpec) false w args)
      (Rows.chunkBackSpec.post enc Tryd.prog Tryd.f6 false true false false) := by
  refine returnsInHanded_of_change_and (C := Tryd.checked) (X := fun w _ => laidMetH Tryd.prog Rows.chunkBackRow.laid w) (fun _ _ _ hh h => h.of_heap hh) own started (by kernel_rfl) Tryd.func6
    (ChangeSpec.witness_shaped (enc := enc) (C := Tryd.checked) (os := os) (X := fun w _ => laidMetH Tryd.prog Rows.chunkBackRow.laid w) false (World.laidAll Tryd.prog os Rows.chunkBackRow.laid) #[.agg #[.int .u16 0, .int .u16 0, .int .u32 0], .slice none 0 0] 8 (World.laidAll_os _ _ _)
      (World.shaped_of_ZipB (by kernel_rfl) (by kernel_rfl)) (by kernel_rfl) (by kernel_rfl) (by kernel_rfl)
      (by rw [MakeChecks.laidMetH_plain _ _ _ (by kernel_rfl)]; exact laidMet_laidAll _ (by kernel_rfl) (by kernel_rfl))) ?_
  intro W base args ds gs before hval0 hW _ hsz0 hL _
  have hsz : (DataW.weightsEach Tryd.prog (Tryd.f6.params.toList ++ Rows.chunkBackSpec.plain.varTypes Tryd.prog) (ds ++ gs)).all (· ≤ reachBytes) = true := hsz0
  clear hsz0
  have hval : ∀ (j : Nat) t v, Tryd.f6.params[j]? = some t → args[j]? = some v → Value.okWide Tryd.prog W .any base t v := hval0
  have hW' := hW
  obtain ⟨p, q, hA0, hV, rfl, hfz, hnd⟩ := hW
  have hA : DataW.TrodAll enc Tryd.prog W 0 (fun _ => true) true Tryd.f6.params.toList args.toList ds p := hA0
  rw [Tryd.params6] at hA hval hsz
  obtain ⟨v0, vs0, d0, ds0, p0, q0, hargs, rfl, rfl, h0, r0⟩ := trodAll_cons hA
  obtain ⟨v1, vs1, d1, ds1, p1, q1, rfl, rfl, rfl, h1, r1⟩ := trodAll_cons r0
  obtain ⟨rfl, rfl, rfl⟩ := trodAll_nil r1
  obtain rfl : args = #[v0, v1] := by cases args; simp_all
  obtain ⟨rfl, rfl⟩ := trodVars_none hV
  have k0 := h0
  have lt0 : ∀ x ∈ p0, x.block < W.heap.size := by obtain ⟨m, hm⟩ := k0; exact DataW.trod_lt m _ _ _ hm
  obtain ⟨x0_0, x0_1, x0_2, rfl, b0_0, b0_1, b0_2⟩ := StHead.open_ (hval 0 36 v0 rfl rfl) h0 (fun q hq => by
    have := List.all_eq_true.1 hsz q (DataW.weights_mem_each (j := 0) (t := 36) (d := d0) rfl rfl q hq)
    simpa using this)
  obtain ⟨a1, len1, cap1, rfl⟩ := okWide_slice Tryd.underlying37 (hval 1 37 v1 rfl rfl)
  have k1 := h1
  have lt1 : ∀ x ∈ p1, x.block < W.heap.size := by obtain ⟨m, hm⟩ := k1; exact DataW.trod_lt m _ _ _ hm
  obtain ⟨z1, w1⟩ : ∃ dd, SlCq W a1 len1 cap1 dd := by
    clear k1 lt1
    obtain ⟨fuel, hf⟩ := h1
    exact SlCq.open hf (fun q hq => by
      have := List.all_eq_true.1 hsz q (DataW.weights_mem_each (j := 1) (t := 37) (d := d1) rfl rfl q hq)
      simpa using this)
  clear hA0 hval0 hsz
  refine (walk_ChunkBack x0_0 x0_1 x0_2 a1 len1 cap1 z1 W b0_0 b0_1 b0_2 w1 (of_laid hL)).mono fun e W' ⟨he, bel⟩ => ?_
  subst he
  exact ⟨_, rfl, _, _, _, [], _, [], hW', trodAll_mk1 (shut_bool Tryd.underlying4 _), (trodAll_cons_mk (Below.trod laidOut (by kernel_rfl) (of_decide_eq_true (by kernel_rfl)) k0 bel lt0) (trodAll_cons_mk (Below.trod laidOut (by kernel_rfl) (of_decide_eq_true (by kernel_rfl)) k1 bel lt1) trodAll_mk0)), rfl, bel.frame _, fun h => by cases h⟩
theorem over : Rows.chunkBackRow.holds Tryd.pinned (OpenSpec.ofChange Rows.chunkBackSpec) :=
  OpenClaim.holds_of_wide 6 Tryd.f6 rfl rfl rfl rfl rfl rfl rfl ⟨rfl, rfl, rfl, rfl, rfl⟩ rfl rfl rfl rfl rfl (by kernel_rfl) Tryd.func6 (by kernel_rfl)
    (of_decide_eq_true (by kernel_rfl)) (by unfold Func.isWrapper; first | (rw [if_pos (by decide +kernel)]; kernel_rfl) | (rw [if_neg (by decide +kernel)]; exact ⟨rfl, rfl⟩))
    (fun os started H enc _ => lifted os started H enc)
end Go.Proofs.YtifdfkkjmjabnaaDoor.chunkBack
namespace Go.Proofs.YtifdfkkjmjabnaaDoor
theorem ChunkBack_holds : Rows.ChunkBackCardSaid :=
  Claim7.holds_tied_plain_at .later [] [.data] true (true, Rows.chunkBackCard.stood.harness.2) true
    chunkBack.over (fun _ h => by cases h) (by kernel_rfl) (fun _ h => by cases h) chunkBack_row_tie rfl ⟨rfl, rfl⟩ (by kernel_rfl) rfl
    (fun f fn hf hfn => by
      obtain rfl : f = 6 := Option.some.inj ((show Tryd.prog.funcNamed Rows.chunkBackRow.func = some 6 by kernel_rfl).symm.trans hf) |>.symm
      obtain rfl : fn = Tryd.f6 := (Option.some.inj (Tryd.func6.symm.trans hfn)).symm
      exact ⟨by kernel_rfl, fun j t ht => by
        rw [Tryd.params6] at ht
        have hm : t ∈ [36, 37] := by simpa using Array.mem_of_getElem? ht
        have hall : ([36, 37].all fun u => !Tryd.prog.wantsStandIn u) = true := by kernel_rfl
        exact (show Tryd.prog.wantsStandIn t = false by simpa using List.all_eq_true.1 hall t hm)⟩)
    (by kernel_rfl)
#print axioms ChunkBack_holds
end Go.Proofs.YtifdfkkjmjabnaaDoor
