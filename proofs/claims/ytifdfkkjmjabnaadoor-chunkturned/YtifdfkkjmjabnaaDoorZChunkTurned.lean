/-
  Whatever the input, trunklinelaw12.ChunkTurned answers true and leaves what it was handed as it was.
  (The statement is Rows.ChunkTurnedCardSaid; no condition of our own; the listed tables are tied to the program's text.)
-/
import Derived.Test.YtifdfkkjmjabnaaDoorKB
import Derived.Test.YtifdfkkjmjabnaaDoorKA
import Derived.RegionTactic
import Derived.Test.YtifdfkkjmjabnaaDoorRows
import Derived.Test.YtifdfkkjmjabnaaDoorCards
import Derived.Test.YtifdfkkjmjabnaaDoorTie
import Derived.ProofKit
import Derived.LaidMore
import Derived.Lay
import Derived.OpenShut
import Derived.ShutString
import Derived.ChangeOld
import Derived.SizedLaws
import Derived.Stop.Joined
import Derived.SevenTiedAt
import Derived.Test.YtifdfkkjmjabnaaDoorStHead
namespace Go.Proofs.YtifdfkkjmjabnaaDoor
open Go.RowKit
theorem from_modT (p n : Nat) (h : 12 < n) : ∃ m : Nat, m < n - 12 ∧ ((p : Int)).tmod ((n : Int) - 12) = (m : Int) := by
  rw [Int.tmod_eq_emod_of_nonneg (by omega)]
  have h2 := Int.emod_nonneg (p : Int) (show (n : Int) - 12 ≠ 0 by omega)
  have h3 := Int.emod_lt_of_pos (p : Int) (show 0 < (n : Int) - 12 by omega)
  exact ⟨((p : Int) % ((n : Int) - 12)).toNat, by omega, by omega⟩
theorem xor88T (x y : Nat) (hx : x < 256) (hy : y < 256) : bits .xor .u8 (x : Int) (y : Int) = ((x ^^^ y : Nat) : Int) := u8_xor_nat x y hx hy
/-- What Take answers to bytes that were turned. -/
structure TkT (w : World) (t : Bool) (e : Ending) (w' : World) : Prop where
  ex : ∃ n1 n2 n3 la n lc er, e = .returned (.tuple #[.agg #[.int .u16 n1, .int .u16 n2, .int .u32 n3], .slice la n lc, .int .i64 er]) ∧ (er == 5) = t ∧ ((n : Int) == 0) = t
  bel : Below w.heap.size w w'
theorem take_turned {w : World} {b off m c f t g : Nat} {dd : List ChQ} {X : List Nat} {tt : Bool} (hf : f < 65536) (ht : t < 65536) (hg : g < 4294967296) (W0 : World) (hw : ∀ x ∈ dd, x.Wf W0) (hP : PtOk f t g dd) (hs : Sl w (some ⟨b, off, none⟩) m c X) (hm : m = (hdB f t g ++ catL (cvQ dd)).length)
    (h1 : stampedB X = !tt) (h2 : tt = false → X = stampV (hdB f t g ++ catL (cvQ dd))) : Calls Tryd.prog 16 #[.slice (some ⟨b, off, none⟩) m c] w (TkT w tt) := by
  have h16 := hP.small
  have h14 := hP.big
  cases tt with
  | true =>
    refine (take_sum hs (by omega) (by omega) h1).mono ?_
    rintro e w' ⟨rfl, hb⟩
    exact ⟨⟨_, _, _, _, _, _, _, rfl, rfl, rfl⟩, hb⟩
  | false =>
    rw [h2 rfl] at hs
    have hl : (cvQ dd).length = dd.length := by unfold cvQ; simp
    refine (take_put f t g hf ht hg (cvQ dd) hs (by omega) (by omega) (by rw [hl]; exact hP.le) (cv_ok hw hP.ok)).mono ?_
    rintro e w' ⟨⟨la, lc, rfl, _⟩, hb⟩
    refine ⟨⟨_, _, _, _, _, _, _, rfl, rfl, ?_⟩, hb⟩
    have := hP.one
    show (((cvQ dd).length : Int) == 0) = false
    rw [beq_eq_false_iff_ne]
    omega
set_option linter.unusedVariables false in
set_option maxRecDepth 100000 in
set_option maxHeartbeats 8000000 in
theorem walk_ChunkTurned (f t g : Nat) (a : Option Addr) (n c : Nat) (dd : List ChQ) (y0 y1 y2 y3 y4 : Nat) (w : World) (hf : f < 65536) (ht : t < 65536) (hg : g < 4294967296) (hR : SlCq w a n c dd) (hy0 : y0 < 256) (hy1 : y1 < 256) (hy2 : y2 < 256) (hy3 : y3 < 256) (hy4 : y4 < 256) (hN : NW w) :
    Calls Tryd.prog 7 #[.agg #[.int .u16 (f : Nat), .int .u16 (t : Nat), .int .u32 (g : Nat)], .slice a n c, .agg #[.int .u8 (y0 : Nat), .int .u8 (y1 : Nat), .int .u8 (y2 : Nat), .int .u8 (y3 : Nat), .int .u8 (y4 : Nat)]] w fun e w' => e = .returned (.bool true) ∧ Below w.heap.size w w' := by
  obtain ⟨W1, hW1⟩ : ∃ W1, W1 = w.alloc (.cells #[.int .u16 (f : Nat), .int .u16 (t : Nat), .int .u32 (g : Nat)] 36) := ⟨_, rfl⟩
  have b1 : Below w.heap.size w W1 := by rw [hW1]; exact (Below.refl _ _).alloc (Nat.le_refl _) _
  have s1 := Stc.new w [.int .u16 (f : Nat), .int .u16 (t : Nat), .int .u32 (g : Nat)] 36 W1 hW1
  have z1 : W1.heap.size = w.heap.size + 1 := by rw [hW1]; simp
  obtain ⟨W2, hW2⟩ : ∃ W2, W2 = W1.alloc (.cells #[.int .u8 (y0 : Nat), .int .u8 (y1 : Nat), .int .u8 (y2 : Nat), .int .u8 (y3 : Nat), .int .u8 (y4 : Nat)] 45) := ⟨_, rfl⟩
  have b2 : Below W1.heap.size W1 W2 := by rw [hW2]; exact (Below.refl _ _).alloc (Nat.le_refl _) _
  have s2 := Stc.new W1 [.int .u8 (y0 : Nat), .int .u8 (y1 : Nat), .int .u8 (y2 : Nat), .int .u8 (y3 : Nat), .int .u8 (y4 : Nat)] 45 W2 hW2
  have s1' := s1.below b2
  have hb2 : Below w.heap.size w W2 := b1.trans (b2.mono b1.size)
  have c0 := s1'.cell 0 _ rfl
  have c1 := s1'.cell 1 _ rfl
  have c2 := s1'.cell 2 _ rfl
  have HP := (show Hid _ from put_row (hR.below hb2) f t g hf ht hg)
  have hcells : ∀ i, i < 5 → W2.cell? ⟨w.heap.size + 1, i, none⟩ = some (.int .u8 ([y0, y1, y2, y3, y4].getD i 0 : Nat)) := by
    intro i hi
    rw [← z1]
    rcases (show i = 0 ∨ i = 1 ∨ i = 2 ∨ i = 3 ∨ i = 4 by omega) with rfl | rfl | rfl | rfl | rfl
    · exact s2.cell 0 _ rfl
    · exact s2.cell 1 _ rfl
    · exact s2.cell 2 _ rfl
    · exact s2.cell 3 _ rfl
    · exact s2.cell 4 _ rfl
  have HC := (show Hid _ from hcells)
  have hlt2 : w.heap.size + 1 < W2.heap.size := by rw [← z1]; exact s2.lt
  have HB2 : Hid (Below w.heap.size w W2 ∧ w.heap.size + 1 < W2.heap.size) := ⟨hb2, hlt2⟩
  have HW := (show Hid _ from hR.wf)
  have HLV := (show Hid _ from fun W (hW : Below w.heap.size w W) => live12_nw W (hN.below hW))
  have HW1 := (show Hid _ from And.intro hW1 z1)
  have HW2 := (show Hid _ from hW2)
  have hbs : ∀ i, [y0, y1, y2, y3, y4].getD i 0 < 256 := getD_bnd _ (by simp; omega)
  clear b1 s1 b2 s2 s1' hb2 hR hN hcells hlt2 hW1 hW2 z1
  go_enter Tryd.func7, Tryd.ntmps7
  go_wp2_with fail
  rw [← HW1.out.1, ← HW2.out]
  refine Calls.mono HP.out ?_
  clear HP c0 c1 c2
  rintro e w3 hR
  obtain ⟨pa, pc, rfl, ho⟩ := hR.ex
  have hb3 : Below w.heap.size w w3 := HB2.out.1.trans (hR.bel.mono HB2.out.1.size)
  have hlt3 : w.heap.size + 1 < w3.heap.size := Nat.lt_of_lt_of_le HB2.out.2 hR.bel.size
  have hcells3 : ∀ i, i < 5 → w3.cell? ⟨w.heap.size + 1, i, none⟩ = some (.int .u8 ([y0, y1, y2, y3, y4].getD i 0 : Nat)) := fun i hi => (hR.bel.cell (p := ⟨w.heap.size + 1, i, none⟩) HB2.out.2).trans (HC.out i hi)
  by_cases hE : mbQ dd = 0
  · have hP := ptOk (f := f) (t := t) (g := g) hE
    rw [hE] at *
    have hL12 : 12 ≤ (hdB f t g ++ catL (cvQ dd)).length := by have := hP.small; omega
    have hsl : (ptQ f t g dd).length = (hdB f t g ++ catL (cvQ dd)).length := by rw [hP.val, stampV_len _ hL12]
    have HB3 : Hid (Below w.heap.size w w3) := hb3
    rw [hsl] at ho ⊢
    rw [hP.val] at ho
    obtain ⟨L, hL⟩ : ∃ L, L = (hdB f t g ++ catL (cvQ dd)).length := ⟨_, rfl⟩
    have h16 := hP.small
    have h1480 := hP.big
    have HPO := (show Hid _ from hP)
    have hHL := (show Hid _ from hL)
    rw [← hL] at ho h16 h1480 hL12 ⊢
    obtain ⟨zs, hzs⟩ : ∃ zs, zs = hdB f t g ++ catL (cvQ dd) := ⟨_, rfl⟩
    have HZS := (show Hid _ from hzs)
    rw [← hzs] at ho hL
    have HZL : Hid (zs.length = L) := hL.symm
    have ho2 : OwnB w3 (w.heap.size + 2) pa L pc (stampV zs) := ho.base HB2.out.2
    have HSL : Hid ((stampV zs).length = L) := by show _ = _; rw [stampV_len zs (by have := HZL.out; omega)]; exact HZL.out
    clear hsl hP hL hzs ho hR HC hb3
    have h12n : ¬ (L : Int) ≤ 12 := by omega
    have hnz : (L : Int) - 12 ≠ 0 := by omega
    have cb4 := hcells3 4 (by omega)
    have e4 : [y0, y1, y2, y3, y4].getD 4 0 = y4 := rfl
    rw [e4] at cb4
    obtain ⟨m, hm, hmod⟩ := from_modT y4 L (by omega)
    obtain ⟨q, hq⟩ : ∃ q, pa = some ⟨q, 0, none⟩ := by
      rcases ho2.own.2 with ⟨_, h0⟩ | ⟨g, cap, cur, hv, _⟩
      · omega
      · injection hv with e1
        exact ⟨g, e1⟩
    subst hq
    have hgl := (ho2.own.lt q rfl).1
    have HC3 := (show Hid _ from hcells3)
    clear hcells3 e4
    generalize hbs5 : [y0, y1, y2, y3, y4] = bs at *
    clear hbs5
    go_wp2
    go_loopw [10, 11] (fun vt i wr => ∃ (j : Nat) (X : List Nat), j ≤ 4 ∧ 12 + m + j ≤ L ∧ i = .int .i64 j ∧ vt = .bool (tb bs j) ∧ OwnB wr (w.heap.size + 2) (some ⟨q, 0, none⟩) L pc X ∧ Turned (stampV zs) X (12 + m) j bs ∧ Below (w.heap.size + 2) w3 wr) (fun _ i _ => 4 - (intOf i).toNat)
    case atStart => exact ⟨0, stampV zs, by omega, by omega, rfl, rfl, ho2, ⟨rfl, fun q _ => by rw [if_neg (by omega)]⟩, Below.refl _ _⟩
    case round =>
      obtain ⟨j, X, hj, hjn, rfl, rfl, hown, hT, hbel⟩ := hrel
      by_cases hgo : j < 4 ∧ 12 + m + j < L
      · obtain ⟨hj4, hjn2⟩ := hgo
        have hc := hown.cell (12 + m + j) hjn2
        have hf := hown.free (12 + m + j)
        have hby := (hbel.cell (p := ⟨w.heap.size + 1, j, none⟩) (by show w.heap.size + 1 < _; omega)).trans (HC3.out j (by omega))
        have hx := hown.bnd (12 + m + j)
        have hy := hbs j
        have HT2 := (show Hid _ from turned_step (stampV zs) X bs (12 + m) j hT (by rw [HSL.out]; exact hjn2))
        have HTB : Hid (tb bs (j + 1) = (tb bs j || (bs.getD j 0 != 0))) := rfl
        have hx2 := xor_u8 _ _ hx hy
        have HX := (show Hid _ from xor88T _ _ hx hy)
        have hst := (show Hid _ from hown.store (12 + m + j) _ hx2)
        generalize X.getD (12 + m + j) 0 = x at *
        generalize bs.getD j 0 = y at *
        generalize tb bs j = tv at *
        have hlt1 : (12 : Int) + (m : Int) + (j : Int) < (L : Int) := by omega
        have hj4i : (j : Int) < 4 := by omega
        clear hT
        by_cases hyy : y = 0
        · have hyz : ((y : Int) != 0) = false := by simp; omega
          have HYY := (show Hid _ from hyy)
          clear hyy
          cases tv
          all_goals
            go_wp2_with fail
            go_region
            all_goals
              go_wp2
              go_roundw
              case rel =>
                refine ⟨j + 1, X.set (12 + m + j) (x ^^^ y), by omega, by omega, by go_num, by rw [HTB.out]; simp [HYY.out], ?_, HT2.out, ?_⟩
                · rw [HX.out]
                  exact hst.out.below (Below.refl _ _).drew
                · exact (hbel.setCell (p := ⟨q, 12 + m + j, none⟩) hgl _).drew
              case measure => simp [intOf]; omega
        · have hyz : ((y : Int) != 0) = true := by simp; omega
          cases tv
          all_goals
            go_wp2_with fail
            go_region
            all_goals
              go_wp2
              go_roundw
              case rel =>
                refine ⟨j + 1, X.set (12 + m + j) (x ^^^ y), by omega, by omega, by go_num, by rw [HTB.out]; simp [hyy], ?_, HT2.out, ?_⟩
                · rw [HX.out]
                  exact hst.out.below (Below.refl _ _).drew
                · exact (hbel.setCell (p := ⟨q, 12 + m + j, none⟩) hgl _).drew
              case measure => simp [intOf]; omega
      · have hTT := turned_told zs X bs (12 + m) j (by rw [HZL.out]; omega) (by omega) hj (by rw [HZL.out]; exact hjn) hT hbs hown.bnd
        have hb4 : Below w.heap.size w wr := HB3.out.trans (hbel.mono (by omega))
        have hs4 := hown.sl (by omega)
        have HTK := (show Hid _ from take_turned (X := X) (tt := tb bs j) hf ht hg w HW.out HPO.out hs4 hHL.out hTT (fun e => by
          rw [← HZS.out]
          exact turned_same (stampV zs) X bs (12 + m) j hT (tb_false bs j e)))
        have HB4 := (show Hid _ from hb4)
        clear hown hT hbel hTT hs4 hb4
        generalize tb bs j = tv at *
        have hz3 := zero_head
        by_cases hj4 : j < 4
        · have hd : decide ((12 : Int) + (m : Int) + (j : Int) < (L : Int)) = false := by simp; omega
          have hnlt : ¬ (12 : Int) + (m : Int) + (j : Int) < (L : Int) := by omega
          go_wp2_with fail
          refine Calls.mono HTK.out ?_
          clear HTK
          rintro e w5 hK
          obtain ⟨n1, n2, n3, la, nn, lc, er, rfl, he1, he2⟩ := hK.ex
          have HB5 : Hid (Below w.heap.size w w5) := HB4.out.trans (hK.bel.mono HB4.out.size)
          clear hK
          have HB6 : Hid (Below w.heap.size w (w5.alloc (.cells #[.int .u16 n1, .int .u16 n2, .int .u32 n3] 36))) := HB5.out.alloc HB5.out.size _
          have HLV6 := (show Hid _ from HLV.out _ HB6.out)
          go_wp2_with fail
          refine Calls.mono HLV6.out ?_
          clear HLV6
          rintro e w7 ⟨rfl, b7⟩
          have HB7 : Hid (Below w.heap.size w w7) := HB6.out.trans (b7.mono HB6.out.size)
          clear b7 HB6
          cases tv
          all_goals
            go_wp2
            go_ret
            exact ⟨rfl, HB7.out⟩
        · have hnj : ¬ (j : Int) < 4 := by omega
          go_wp2_with fail
          refine Calls.mono HTK.out ?_
          clear HTK
          rintro e w5 hK
          obtain ⟨n1, n2, n3, la, nn, lc, er, rfl, he1, he2⟩ := hK.ex
          have HB5 : Hid (Below w.heap.size w w5) := HB4.out.trans (hK.bel.mono HB4.out.size)
          clear hK
          have HB6 : Hid (Below w.heap.size w (w5.alloc (.cells #[.int .u16 n1, .int .u16 n2, .int .u32 n3] 36))) := HB5.out.alloc HB5.out.size _
          have HLV6 := (show Hid _ from HLV.out _ HB6.out)
          go_wp2_with fail
          refine Calls.mono HLV6.out ?_
          clear HLV6
          rintro e w7 ⟨rfl, b7⟩
          have HB7 : Hid (Below w.heap.size w w7) := HB6.out.trans (b7.mono HB6.out.size)
          clear b7 HB6
          cases tv
          all_goals
            go_wp2
            go_ret
            exact ⟨rfl, HB7.out⟩
  · have HB3 : Hid (Below w.heap.size w w3) := hb3
    have HLV3 := (show Hid _ from HLV.out w3 hb3)
    have gE : ¬ mbQ dd = 0 := hE
    clear hE ho hR HC hb3 hcells3
    generalize mbQ dd = me at *
    generalize (ptQ f t g dd).length = pl at *
    have g1 : (me != 0) = true := by simpa using gE
    go_wp2_with fail
    refine Calls.mono HLV3.out ?_
    rintro e w7 ⟨rfl, b7⟩
    have HB7 : Hid (Below w.heap.size w w7) := HB3.out.trans (b7.mono HB3.out.size)
    clear b7 HLV3
    go_wp2
    go_ret
    exact ⟨by first | rfl | simp [gE], HB7.out⟩
end Go.Proofs.YtifdfkkjmjabnaaDoor
namespace Go.Proofs.YtifdfkkjmjabnaaDoor.chunkTurned
theorem of_laid {W : World} (h : laidMetH Tryd.prog Rows.chunkTurnedRow.laid W) : NW W := by
  rw [MakeChecks.laidMetH_plain _ _ _ (by kernel_rfl)] at h
  exact nw_of_laid h
end Go.Proofs.YtifdfkkjmjabnaaDoor.chunkTurned
namespace Go.Proofs.YtifdfkkjmjabnaaDoor.chunkTurned
open Go.ChangeShapes Go.WideShapes Go.ChangeAt Go.RowKit
open Go.ChangeMaps (open_string shut_string)
set_option linter.unusedVariables false
theorem own : ownKnob Tryd.prog.godebug = none := by kernel_rfl
theorem laidOut : laidOutB Tryd.prog = true := by kernel_rfl
theorem cells_arr2 : Tryd.prog.cellsOf 45 = 5 := by kernel_rfl
theorem array5L {cs : Array Value} (h : cs.size = 5) : ∃ e0 e1 e2 e3 e4, cs = #[e0, e1, e2, e3, e4] := by
  obtain ⟨cl⟩ := cs
  match cl, h with
  | [e0, e1, e2, e3, e4], _ => exact ⟨e0, e1, e2, e3, e4, rfl⟩
theorem cells_el2 : Tryd.prog.cellsOf 5 = 1 := by kernel_rfl
set_option maxRecDepth 100000 in
set_option maxHeartbeats 1000000 in
theorem lifted (os : Os) (started : os.Started) (H : Type) (enc : TypeId × Value → H) :
    ReturnsInHanded {} Tryd.checked os 7 .any (fun w args => (Rows.chunkTurnedSpec.pre enc Tryd.prog Tryd.f7 [] false w args ∧ laidMetH Tryd.prog Rows.chunkTurnedRow.laid w) ∧ sizedMet enc Tryd.prog Tryd.f7 (OpenSpec.ofChange Rows.chunkTurnedSpec) false w args)
      (Rows.chunkTurnedSpec.post enc Tryd.prog Tryd.f7 false true false false) := by
  refine returnsInHanded_of_change_and (C := Tryd.checked) (X := fun w _ => laidMetH Tryd.prog Rows.chunkTurnedRow.laid w) (fun _ _ _ hh h => h.of_heap hh) own started (by kernel_rfl) Tryd.func7
    (ChangeSpec.witness_shaped (enc := enc) (C := Tryd.checked) (os := os) (X := fun w _ => laidMetH Tryd.prog Rows.chunkTurnedRow.laid w) false (World.laidAll Tryd.prog os Rows.chunkTurnedRow.laid) #[.agg #[.int .u16 0, .int .u16 0, .int .u32 0], .slice none 0 0, .agg #[.int .u8 0, .int .u8 0, .int .u8 0, .int .u8 0, .int .u8 0]] 8 (World.laidAll_os _ _ _)
      (World.shaped_of_ZipB (by kernel_rfl) (by kernel_rfl)) (by kernel_rfl) (by kernel_rfl) (by kernel_rfl)
      (by rw [MakeChecks.laidMetH_plain _ _ _ (by kernel_rfl)]; exact laidMet_laidAll _ (by kernel_rfl) (by kernel_rfl))) ?_
  intro W base args ds gs before hval0 hW _ hsz0 hL _
  have hsz : (DataW.weightsEach Tryd.prog (Tryd.f7.params.toList ++ Rows.chunkTurnedSpec.plain.varTypes Tryd.prog) (ds ++ gs)).all (· ≤ reachBytes) = true := hsz0
  clear hsz0
  have hval : ∀ (j : Nat) t v, Tryd.f7.params[j]? = some t → args[j]? = some v → Value.okWide Tryd.prog W .any base t v := hval0
  have hW' := hW
  obtain ⟨p, q, hA0, hV, rfl, hfz, hnd⟩ := hW
  have hA : DataW.TrodAll enc Tryd.prog W 0 (fun _ => true) true Tryd.f7.params.toList args.toList ds p := hA0
  rw [Tryd.params7] at hA hval hsz
  obtain ⟨v0, vs0, d0, ds0, p0, q0, hargs, rfl, rfl, h0, r0⟩ := trodAll_cons hA
  obtain ⟨v1, vs1, d1, ds1, p1, q1, rfl, rfl, rfl, h1, r1⟩ := trodAll_cons r0
  obtain ⟨v2, vs2, d2, ds2, p2, q2, rfl, rfl, rfl, h2, r2⟩ := trodAll_cons r1
  obtain ⟨rfl, rfl, rfl⟩ := trodAll_nil r2
  obtain rfl : args = #[v0, v1, v2] := by cases args; simp_all
  obtain ⟨rfl, rfl⟩ := trodVars_none hV
  have k0 := h0
  have lt0 : ∀ x ∈ p0, x.block < W.heap.size := by obtain ⟨m, hm⟩ := k0; exact DataW.trod_lt m _ _ _ hm
  obtain ⟨x0_0, x0_1, x0_2, rfl, b0_0, b0_1, b0_2⟩ := StHead.open_ (hval 0 36 v0 rfl rfl) h0 (fun q hq => by
    have := List.all_eq_true.1 hsz q (DataW.weights_mem_each (j := 0) (t := 36) (d := d0) rfl rfl q hq)
    simpa using this)
  obtain ⟨a1, len1, cap1, rfl⟩ := okWide_slice Tryd.underlying37 (hval 1 37 v1 rfl rfl)
  have k1 := h1
  have lt1 : ∀ x ∈ p1, x.block < W.heap.size := by obtain ⟨m, hm⟩ := k1; exact DataW.trod_lt m _ _ _ hm
  obtain ⟨z1, w1⟩ : ∃ dd, SlCq W a1 len1 cap1 dd := by
    clear k1 lt1
    obtain ⟨fuel, hf⟩ := h1
    exact SlCq.open hf (fun q hq => by
      have := List.all_eq_true.1 hsz q (DataW.weights_mem_each (j := 1) (t := 37) (d := d1) rfl rfl q hq)
      simpa using this)
  have k2 := h2
  have lt2 : ∀ x ∈ p2, x.block < W.heap.size := by obtain ⟨m, hm⟩ := k2; exact DataW.trod_lt m _ _ _ hm
  obtain ⟨x2_0, x2_1, x2_2, x2_3, x2_4, rfl, w2_0, w2_1, w2_2, w2_3, w2_4⟩ : ∃ x2_0 x2_1 x2_2 x2_3 x2_4 : Int, v2 = .agg #[.int .u8 x2_0, .int .u8 x2_1, .int .u8 x2_2, .int .u8 x2_3, .int .u8 x2_4] ∧ (Lit.int .u8 x2_0).wf = true ∧ (Lit.int .u8 x2_1).wf = true ∧ (Lit.int .u8 x2_2).wf = true ∧ (Lit.int .u8 x2_3).wf = true ∧ (Lit.int .u8 x2_4).wf = true := by
    clear k2 lt2
    obtain ⟨cs, rfl, hcs, _⟩ : ∃ cs, v2 = .agg cs ∧ cs.size = Tryd.prog.cellsOf 45 ∧ Row.okWide Tryd.prog W .any base 45 cs := by
      have := hval 2 45 v2 rfl rfl
      simpa [Value.okWide, Tryd.underlying45] using this
    rw [cells_arr2] at hcs
    obtain ⟨e0, e1, e2, e3, e4, rfl⟩ := array5L hcs
    obtain ⟨fuel, hf⟩ := h2
    obtain ⟨xs, m, _, _, _, hxl, hel⟩ := DataW.trod_array Tryd.underlying45 hf
    have g0 := hel 0 (by omega)
    rw [cells_el2, List.getElem?_eq_getElem (show 0 < xs.length by omega)] at g0
    obtain ⟨i0, q0, _, wi0⟩ := DataW.trod_int Tryd.underlying5 g0
    simp [Value.cells] at q0
    subst q0
    have g1 := hel 1 (by omega)
    rw [cells_el2, List.getElem?_eq_getElem (show 1 < xs.length by omega)] at g1
    obtain ⟨i1, q1, _, wi1⟩ := DataW.trod_int Tryd.underlying5 g1
    simp [Value.cells] at q1
    subst q1
    have g2 := hel 2 (by omega)
    rw [cells_el2, List.getElem?_eq_getElem (show 2 < xs.length by omega)] at g2
    obtain ⟨i2, q2, _, wi2⟩ := DataW.trod_int Tryd.underlying5 g2
    simp [Value.cells] at q2
    subst q2
    have g3 := hel 3 (by omega)
    rw [cells_el2, List.getElem?_eq_getElem (show 3 < xs.length by omega)] at g3
    obtain ⟨i3, q3, _, wi3⟩ := DataW.trod_int Tryd.underlying5 g3
    simp [Value.cells] at q3
    subst q3
    have g4 := hel 4 (by omega)
    rw [cells_el2, List.getElem?_eq_getElem (show 4 < xs.length by omega)] at g4
    obtain ⟨i4, q4, _, wi4⟩ := DataW.trod_int Tryd.underlying5 g4
    simp [Value.cells] at q4
    subst q4
    exact ⟨i0, i1, i2, i3, i4, rfl, wi0, wi1, wi2, wi3, wi4⟩
  obtain ⟨m2_0, rfl⟩ : ∃ m : Nat, x2_0 = (m : Int) := ⟨x2_0.toNat, by have := bounds_u8 w2_0; omega⟩
  have b2_0 : m2_0 < 256 := by have := bounds_u8 w2_0; omega
  obtain ⟨m2_1, rfl⟩ : ∃ m : Nat, x2_1 = (m : Int) := ⟨x2_1.toNat, by have := bounds_u8 w2_1; omega⟩
  have b2_1 : m2_1 < 256 := by have := bounds_u8 w2_1; omega
  obtain ⟨m2_2, rfl⟩ : ∃ m : Nat, x2_2 = (m : Int) := ⟨x2_2.toNat, by have := bounds_u8 w2_2; omega⟩
  have b2_2 : m2_2 < 256 := by have := bounds_u8 w2_2; omega
  obtain ⟨m2_3, rfl⟩ : ∃ m : Nat, x2_3 = (m : Int) := ⟨x2_3.toNat, by have := bounds_u8 w2_3; omega⟩
  have b2_3 : m2_3 < 256 := by have := bounds_u8 w2_3; omega
  obtain ⟨m2_4, rfl⟩ : ∃ m : Nat, x2_4 = (m : Int) := ⟨x2_4.toNat, by have := bounds_u8 w2_4; omega⟩
  have b2_4 : m2_4 < 256 := by have := bounds_u8 w2_4; omega
  clear hA0 hval0 hsz
  refine (walk_ChunkTurned x0_0 x0_1 x0_2 a1 len1 cap1 z1 m2_0 m2_1 m2_2 m2_3 m2_4 W b0_0 b0_1 b0_2 w1 b2_0 b2_1 b2_2 b2_3 b2_4 (of_laid hL)).mono fun e W' ⟨he, bel⟩ => ?_
  subst he
  exact ⟨_, rfl, _, _, _, [], _, [], hW', trodAll_mk1 (shut_bool Tryd.underlying4 _), (trodAll_cons_mk (Below.trod laidOut (by kernel_rfl) (of_decide_eq_true (by kernel_rfl)) k0 bel lt0) (trodAll_cons_mk (Below.trod laidOut (by kernel_rfl) (of_decide_eq_true (by kernel_rfl)) k1 bel lt1) (trodAll_cons_mk (Below.trod laidOut (by kernel_rfl) (of_decide_eq_true (by kernel_rfl)) k2 bel lt2) trodAll_mk0))), rfl, bel.frame _, fun h => by cases h⟩
theorem over : Rows.chunkTurnedRow.holds Tryd.pinned (OpenSpec.ofChange Rows.chunkTurnedSpec) :=
  OpenClaim.holds_of_wide 7 Tryd.f7 rfl rfl rfl rfl rfl rfl rfl ⟨rfl, rfl, rfl, rfl, rfl⟩ rfl rfl rfl rfl rfl (by kernel_rfl) Tryd.func7 (by kernel_rfl)
    (of_decide_eq_true (by kernel_rfl)) (by unfold Func.isWrapper; first | (rw [if_pos (by decide +kernel)]; kernel_rfl) | (rw [if_neg (by decide +kernel)]; exact ⟨rfl, rfl⟩))
    (fun os started H enc _ => lifted os started H enc)
end Go.Proofs.YtifdfkkjmjabnaaDoor.chunkTurned
namespace Go.Proofs.YtifdfkkjmjabnaaDoor
theorem ChunkTurned_holds : Rows.ChunkTurnedCardSaid :=
  Claim7.holds_tied_plain_at .later [] [.data] true (true, Rows.chunkTurnedCard.stood.harness.2) true
    chunkTurned.over (fun _ h => by cases h) (by kernel_rfl) (fun _ h => by cases h) chunkTurned_row_tie rfl ⟨rfl, rfl⟩ (by kernel_rfl) rfl
    (fun f fn hf hfn => by
      obtain rfl : f = 7 := Option.some.inj ((show Tryd.prog.funcNamed Rows.chunkTurnedRow.func = some 7 by kernel_rfl).symm.trans hf) |>.symm
      obtain rfl : fn = Tryd.f7 := (Option.some.inj (Tryd.func7.symm.trans hfn)).symm
      exact ⟨by kernel_rfl, fun j t ht => by
        rw [Tryd.params7] at ht
        have hm : t ∈ [36, 37, 45] := by simpa using Array.mem_of_getElem? ht
        have hall : ([36, 37, 45].all fun u => !Tryd.prog.wantsStandIn u) = true := by kernel_rfl
        exact (show Tryd.prog.wantsStandIn t = false by simpa using List.all_eq_true.1 hall t hm)⟩)
    (by kernel_rfl)
#print axioms ChunkTurned_holds
end Go.Proofs.YtifdfkkjmjabnaaDoor
