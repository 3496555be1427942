/- What the reference's Mac answers. -/
import Derived.Test.YtmikhnaffhheoaaDoorSpan
import Derived.Test.YtmikhnaffhheoaaDoorNum
import Derived.Test.YtmikhnaffhheoaaDoorZ4
import Derived.Test.YtmikhnaffhheoaaDoorWork
import Derived.Test.YtmikhnaffhheoaaDoorHSum1
import Derived.Test.YtmikhnaffhheoaaDoorHKey
import Derived.Test.YtmikhnaffhheoaaDoorHMac
namespace Go.Proofs.YtmikhnaffhheoaaDoor
open Go.RowKit
theorem sl_mid {w : World} {b off n c : Nat} {zs : List Nat} (hs : Sl w (some ⟨b, off, none⟩) n c zs) (p k : Nat) (h : p + k ≤ n) (hk : 0 < k) : Sl w (some ⟨b, off + p, none⟩) k (c - p) ((zs.drop p).take k) := by
  have hlt := hs.lt b off (by omega) rfl
  obtain ⟨hl, hcap, hroom, hsm, hnz, hb, hat⟩ := hs
  refine ⟨by simp; omega, by omega, by omega, by omega, (fun h => by cases h), mid_bnd zs p k hb, .inr ⟨b, off + p, rfl, hlt, fun i hi => ?_⟩⟩
  rcases hat with h0 | ⟨b', off', e, _, hcell⟩
  · omega
  · injection e with e
    injection e with e1 e2
    subst e1 e2
    rw [mid_getD zs p k i hi, Nat.add_assoc]
    exact hcell (p + i) (by omega)
theorem sl_zero (w : World) (x : Addr) (c : Nat) (hc : c ≤ maxLen) : Sl w (some x) 0 c [] :=
  ⟨rfl, Nat.zero_le _, hc, by omega, (fun h => by cases h), fun i => by simp, .inl rfl⟩
end Go.Proofs.YtmikhnaffhheoaaDoor
namespace Go.Proofs.YtmikhnaffhheoaaDoor
open Go.RowKit
theorem OwnU.store {w : World} {B g n c : Nat} {zs : List Nat} (h : OwnU w B (some ⟨g, 0, none⟩) n c zs) (j x : Nat) (hx : x < 4294967296) : OwnU (w.setCell ⟨g, j, none⟩ (.int .u32 (x : Nat))) B (some ⟨g, 0, none⟩) n c (zs.set j x) := by
  refine ⟨by rw [List.length_set]; exact h.len, ?_, fun i => ?_⟩
  · have := h.own.stored j (.int .u32 (x : Nat))
    have e : valsU (zs.set j x) = (valsU zs).set j (.int .u32 (x : Nat)) := by simp [valsU, List.map_set]
    rw [e]
    exact this.1
  · simp only [List.getD_eq_getElem?_getD, List.getElem?_set]
    split
    · split
      · exact hx
      · exact Nat.zero_lt_succ _
    · have := h.bnd i
      rw [List.getD_eq_getElem?_getD] at this
      exact this
theorem OwnU.cell {w : World} {B g n c : Nat} {zs : List Nat} (h : OwnU w B (some ⟨g, 0, none⟩) n c zs) (j : Nat) (hj : j < n) : w.cell? ⟨g, j, none⟩ = some (.int .u32 (zs.getD j 0 : Nat)) := by
  rw [h.own.cellAt j (by omega), vals_atU zs j (by rw [h.len]; exact hj)]
theorem OwnU.free {w : World} {B g n c : Nat} {zs : List Nat} (h : OwnU w B (some ⟨g, 0, none⟩) n c zs) (j : Nat) : w.frozen? ⟨g, j, none⟩ = false := h.own.frozenAt j
/-- What stands while the blocks are worked in. -/
structure RS (w0 : World) (aA : Option Addr) (cA : Nat) (all : List Nat) (gk gl : Nat) (lv : List Nat) (W : World) : Prop where
  sA : Sl W aA all.length cA all
  sK : SlU W (some ⟨gk, 0, none⟩) 64 64 kW
  oL : OwnU W w0.heap.size (some ⟨gl, 0, none⟩) 8 8 lv
  rR : Arr8 W w0.heap.size w0.heap.size 32 (outL [] 0)
  bel : Below w0.heap.size w0 W
theorem RS.next {w0 : World} {aA : Option Addr} {cA : Nat} {all : List Nat} {gk gl : Nat} {lv : List Nat} {W W' : World} (h : RS w0 aA cA all gk gl lv W) (hb : Below W.heap.size W W') : RS w0 aA cA all gk gl lv W' :=
  ⟨h.sA.below hb, h.sK.below hb, h.oL.below hb, h.rR.below hb, h.bel.trans (hb.mono h.bel.size)⟩
theorem slice_lhB (b off n c p k : Nat) (lo hi : Int) (hlo : lo = (p : Int)) (hhi : hi = ((p + k : Nat) : Int)) (h : p + k ≤ c) (hk : 0 < k) (w : World) : (Instr.slice 22 (.slice (some ⟨b, off, none⟩) n c) (some (.int .i64 lo)) (some (.int .i64 hi)) none).run Tryd.prog w = .ok (.slice (some ⟨b, off + p, none⟩) k (c - p)) w := by
  subst hlo hhi
  rw [run_slice_lh w 22 _ n c und8 .i64 .i64 p ((p + k : Nat) : Int) (by omega) (by omega) (by omega), size8]
  simp only [Result.andThen, sliced, Int.toNat_natCast]
  rw [if_neg (by omega)]
  simp [Addr.add]
theorem slU_8 (w : World) (t : TypeId) (x0 x1 x2 x3 x4 x5 x6 x7 : Nat) (h0 : x0 < 4294967296) (h1 : x1 < 4294967296) (h2 : x2 < 4294967296) (h3 : x3 < 4294967296) (h4 : x4 < 4294967296) (h5 : x5 < 4294967296) (h6 : x6 < 4294967296) (h7 : x7 < 4294967296) :
    SlU (w.alloc (.cells #[.int .u32 (x0 : Nat), .int .u32 (x1 : Nat), .int .u32 (x2 : Nat), .int .u32 (x3 : Nat), .int .u32 (x4 : Nat), .int .u32 (x5 : Nat), .int .u32 (x6 : Nat), .int .u32 (x7 : Nat)] t)) (some ⟨w.heap.size, 0, none⟩) 8 8 [x0, x1, x2, x3, x4, x5, x6, x7] :=
  slU_new w t [x0, x1, x2, x3, x4, x5, x6, x7] (by simp; omega) (by simp)
theorem SlK.setOther {k : IntKind} {M : Nat} {w : World} {b off n c : Nat} {zs : List Nat} (h : SlK k M w (some ⟨b, off, none⟩) n c zs) (g o : Nat) (v : Value) (hne : b ≠ g) : SlK k M (w.setCell ⟨g, o, none⟩ v) (some ⟨b, off, none⟩) n c zs := by
  refine ⟨h.len, h.cap, h.room, h.small, h.nz, h.bnd, ?_⟩
  rcases h.at_ with h0 | ⟨b', off', e, hlt, hc⟩
  · exact .inl h0
  · injection e with e
    injection e with e1 e2
    subst e1 e2
    refine .inr ⟨b, off, rfl, by simpa [World.setCell] using hlt, fun i hi => ?_⟩
    rw [World.cell?_setCell_other _ _ _ _ (by intro e2; injection e2 with e3 _; exact hne e3.symm)]
    exact hc i hi
theorem RS.store {w0 : World} {gA oA : Nat} {cA : Nat} {all : List Nat} {gk gl : Nat} {lv : List Nat} {W : World} (h : RS w0 (some ⟨gA, oA, none⟩) cA all gk gl lv W) (h1 : gA ≠ gl) (h2 : gk ≠ gl) (h3 : w0.heap.size < gl) (j x : Nat) (hx : x < 4294967296) : RS w0 (some ⟨gA, oA, none⟩) cA all gk gl (lv.set j x) (W.setCell ⟨gl, j, none⟩ (.int .u32 (x : Nat))) :=
  ⟨h.sA.setOther gl j _ h1, h.sK.setOther gl j _ h2, h.oL.store j x hx, h.rR.fr (Fr.setCell (fun k => k = gl) _ _ _ rfl) (by omega), h.bel.setCell (p := ⟨gl, j, none⟩) (by show w0.heap.size ≤ gl; omega) _⟩
theorem mixL_set (v R : List Nat) (j x : Nat) (hx : x = (v.getD j 0 + R.getD j 0) % 4294967296) : (mixL v R j).set j x = mixL v R (j + 1) := by
  apply List.ext_getElem
  · simp [mixL]
  · intro i h1 h2
    have hi8 : i < 8 := by simpa [mixL] using h2
    have e1 := mixL_get v R (j + 1) i hi8
    rw [List.getD_eq_getElem?_getD, List.getElem?_eq_getElem h2, Option.getD_some] at e1
    rw [e1, List.getElem_set]
    split
    · rename_i e; subst e; rw [if_pos (by omega), hx]
    · rename_i e
      have e2 := mixL_get v R j i hi8
      rw [List.getD_eq_getElem?_getD, List.getElem?_eq_getElem (by simpa [mixL] using hi8), Option.getD_some] at e2
      rw [e2]
      by_cases e3 : i < j
      · rw [if_pos e3, if_pos (by omega)]
      · rw [if_neg e3, if_neg (by omega)]
def outB (v : List Nat) (i : Nat) : List Nat := (List.range 32).map fun j => if j < i then v.getD (j / 4) 0 / 256 ^ (3 - j % 4) % 256 else 0
theorem outB_len (v : List Nat) (i : Nat) : (outB v i).length = 32 := by simp [outB]
theorem outB_get (v : List Nat) (i j : Nat) : (outB v i).getD j 0 = if j < 32 then (if j < i then v.getD (j / 4) 0 / 256 ^ (3 - j % 4) % 256 else 0) else 0 := by
  by_cases hj : j < 32
  · rw [if_pos hj]; simp [outB, List.getD_eq_getElem?_getD, hj]
  · rw [if_neg hj, List.getD_eq_getElem?_getD, List.getElem?_eq_none (by simp [outB]; omega)]; rfl
theorem outB_all (v : List Nat) : outB v 32 = bytesW v := by
  unfold outB bytesW
  apply List.map_congr_left
  intro j hj
  rw [if_pos (List.mem_range.1 hj)]
theorem outB_zero (v : List Nat) : outB v 0 = List.replicate 32 0 := by
  rw [List.eq_replicate_iff]
  refine ⟨outB_len v 0, fun x hx => ?_⟩
  obtain ⟨j, _, rfl⟩ := List.mem_map.1 hx
  rfl
theorem z32_vals : z32.toList = vals (List.replicate 32 0) := by kernel_rfl
set_option maxRecDepth 100000 in
set_option maxHeartbeats 8000000 in
theorem rsum_any (a : Option Addr) (n c : Nat) (zs : List Nat) (w : World) (h : Sl w a n c zs) (hn : n ≤ 140737488355200) :
    Calls Tryd.prog 41 #[.slice a n c] w fun e w' => e = .returned (.agg (vals (shaN zs)).toArray) ∧ Below w.heap.size w w' := by
  obtain ⟨w0, hw0⟩ : ∃ w0, w0 = w.alloc (.cells z32 66) := ⟨_, rfl⟩
  have hb0 : Below w.heap.size w w0 := by rw [hw0]; exact (Below.refl _ _).alloc (Nat.le_refl _) _
  have hR0 := arr32_new w [] w0 hw0
  have hl := h.len
  go_enter Tryd.func41, Tryd.ntmps41
  go_wp2_with fail
  change Calls _ _ _ (w.alloc (.cells z32 66)) _
  rw [← hw0]
  clear hw0
  refine (whole_any a n c zs w0 (h.below hb0) hn).mono ?_
  rintro e w1 ⟨⟨aA, cA, rfl, hA⟩, hb1⟩
  have hR1 := hR0.below hb1
  have hbel1 : Below w.heap.size w w1 := hb0.trans (hb1.mono hb0.size)
  have HLN : Hid ((whole zs).length = n + padN n) := by
    show _ = _
    have hp : 9 ≤ padN n := by unfold padN; split <;> omega
    unfold whole endB
    simp [nbE, hl]
    omega
  have hpl := padN_le n
  have hAs : Sl w1 aA (whole zs).length cA (whole zs) := hA.sl (by rw [HLN.out]; omega)
  have HgA : Hid (∀ g o, aA = some ⟨g, o, none⟩ → g < w1.heap.size) := fun g o e => hAs.lt g o (by rw [HLN.out]; have hp : 9 ≤ padN n := (by unfold padN; split <;> omega); omega) e
  clear hA hR0 hb0 hb1
  go_wp2_with fail
  refine (roots_any w1).mono ?_
  rintro e w2 ⟨rfl, hK2, hb2⟩
  have hR2 := hR1.below hb2
  have hA2 := hAs.below hb2
  have hbel2 : Below w.heap.size w w2 := hbel1.trans (hb2.mono hbel1.size)
  obtain ⟨w3, hw3⟩ : ∃ w3, w3 = w2.alloc (.cells (iW.map fun z => Value.int .u32 (z : Nat)).toArray 37) := ⟨_, rfl⟩
  have hb3 : Below w2.heap.size w2 w3 := by rw [hw3]; exact (Below.refl _ _).alloc (Nat.le_refl _) _
  have hL3 : OwnU w3 w2.heap.size (some ⟨w2.heap.size, 0, none⟩) 8 8 iW := by rw [hw3]; exact ownU_new w2 iW (by decide) (by decide)
  have hRS : RS w aA cA (whole zs) w1.heap.size w2.heap.size iW w3 := ⟨hA2.below hb3, hK2.below hb3, hL3.base hbel2.size, hR2.below hb3, hbel2.trans (hb3.mono hbel2.size)⟩
  have hgl : w.heap.size < w2.heap.size := hR2.lt
  have hgk : w1.heap.size < w2.heap.size := hK2.lt _ _ (by omega) rfl
  clear hR1 hAs hbel1 hK2 hb2 hR2 hA2 hbel2 hb3 hL3
  go_wp2_with fail
  change Code.wp _ _ _ _ (w2.alloc (.cells (iW.map fun z => Value.int .u32 (z : Nat)).toArray 37))
  rw [← hw3]
  clear hw3
  obtain ⟨all, hall⟩ : ∃ all, all = whole zs := ⟨_, rfl⟩
  rw [← hall] at hRS HLN ⊢
  have HALL := (show Hid _ from hall)
  obtain ⟨KN, hKN⟩ : ∃ KN, KN = all.length / 64 := ⟨_, rfl⟩
  have hK64 : all.length = 64 * KN := by
    have := HLN.out
    have h9 := hpl
    rw [hKN]
    unfold padN at this
    split at this <;> omega
  have HKN := (show Hid _ from hKN)
  have hLb : all.length ≤ 140737488355328 := by rw [HLN.out]; have := hpl; omega
  have HK64 := (show Hid _ from hK64)
  clear hall hKN hK64
  go_loopw [6] (fun iv wr => ∃ (k q : Nat), k ≤ KN ∧ Hid (q = 64 * k) ∧ iv = .int .i64 (q : Nat) ∧ RS w aA cA all w1.heap.size w2.heap.size (compTo all k) wr) (fun iv _ => all.length - (intOf iv).toNat)
  case atStart => exact ⟨0, 0, by omega, (show _ = _ from rfl), rfl, hRS⟩
  case round =>
    obtain ⟨k, q, hk, HQ, rfl, hS⟩ := hrel
    clear hRS
    by_cases hkK : k < KN
    · have hqL : q + 64 ≤ all.length := by have := HK64.out; have := HQ.out; omega
      rcases hS.sA.at_ with h0 | ⟨gA, oA, rfl, hltA, hcA⟩
      · omega
      have hcapA := hS.sA.cap
      have hgA : gA < w1.heap.size := HgA.out gA oA rfl
      have hmid := sl_mid hS.sA q 64 (by omega) (by omega)
      have hlen64 : ((all.drop q).take 64).length = 64 := hmid.len
      obtain ⟨blk, hblk⟩ : ∃ blk, blk = (all.drop q).take 64 := ⟨_, rfl⟩
      rw [← hblk] at hmid hlen64
      have HB : Hid (compTo all (k + 1) = comp (compTo all k) blk) := by show _ = _; rw [hblk, HQ.out]; rfl
      obtain ⟨lv, hlv⟩ : ∃ lv, lv = compTo all k := ⟨_, rfl⟩
      rw [← hlv] at hS HB
      clear hblk hlv hcA
      have hwq : IntKind.i64.wrap ((q : Int) + 64) = (q : Int) + 64 := by rw [IntKind.wrap_i64]; omega
      have hsl := fun W => slice_lhB gA oA all.length cA q 64 (q : Int) ((q : Int) + 64) rfl (by omega) (by omega) (by omega) W
      have hqi : (q : Int) < (all.length : Int) := by omega
      have hsc := rsched_any gA (oA + q) (cA - q) blk wr hmid
      have hbb := hmid.bnd
      have hwl := schedTo_len blk 64
      obtain ⟨ws, hws⟩ : ∃ ws, ws = schedTo blk 64 := ⟨_, rfl⟩
      have HWB : Hid (∀ i, ws.getD i 0 < 4294967296) := by intro i; rw [hws]; exact schedTo_bnd blk hbb 64 i
      rw [← hws] at hsc hwl
      have HCO : Hid (comp lv blk = addL lv (rndTo lv ws 64)) := by show _ = _; rw [hws]; rfl
      clear hws hmid hbb
      go_wp2_with fail
      refine hsc.mono ?_
      rintro e w4 ⟨⟨aw, cw, rfl, hW4⟩, hb4⟩
      rw [hwl] at hW4 ⊢
      have hS4 := hS.next hb4
      have hsW4 := hW4.sl (by omega)
      have ho := own_emptyU w4
      have hlvs := (hS4.oL.sl (by omega)).below ((Below.refl _ _).alloc (Nat.le_refl _) (.cells #[] 37))
      clear hsc hW4 hb4 hS hsl
      go_wp2_with (at_builtin; go_must (refine app_listU rfl _ _ rfl w4.heap.size _ 0 0 [] rfl ho _ 8 8 lv rfl hlvs (by omega) (by simp) ?_))
      intro a5 c5 w5 ho5 hg5
      have hb5 : Below w4.heap.size w4 w5 := ((Below.refl _ _).alloc (Nat.le_refl _) _).trans (ho.up hg5 (by simp))
      have hS5 := hS4.next hb5
      have hsW5 := hsW4.below hb5
      have hV5 : SlU w5 a5 8 c5 lv := by have := ho5.sl (by omega); simpa using this
      have HO5 : Hid (∀ g, (Value.slice a5 8 c5).ownBlock = some g → w4.heap.size ≤ g) := fun g hg => (ho5.own.lt g (by simpa using hg)).1
      have HgL : Hid (w2.heap.size < w4.heap.size) := (hS4.oL.own.lt w2.heap.size rfl).2
      clear hg5 ho hlvs ho5 hb5 hsW4 hS4
      go_wp2_with fail
      rcases hsW5.at_ with h0 | ⟨gw, ow, rfl, hltw, hcw⟩
      · omega
      rcases hV5.at_ with h0 | ⟨gv0, ov0, rfl, hltv0, hcv0⟩
      · omega
      have hlvl := hS5.oL.len
      have hlvb := hS5.oL.bnd
      have hgv0 : w2.heap.size < gv0 := Nat.lt_of_lt_of_le HgL.out (HO5.out gv0 rfl)
      clear hcw hcv0
      obtain ⟨wA, hwA⟩ : ∃ wA, wA = wr := ⟨_, rfl⟩
      subst hwA
      go_loopw [8, 9] (fun vv iv wr => ∃ (i gv ov cv : Nat), i ≤ 64 ∧ w2.heap.size < gv ∧ iv = .int .i64 i ∧ vv = .slice (some ⟨gv, ov, none⟩) 8 cv ∧ SlU wr (some ⟨gv, ov, none⟩) 8 cv (rndTo lv ws i) ∧ SlU wr (some ⟨gw, ow, none⟩) 64 cw ws ∧ RS w (some ⟨gA, oA, none⟩) cA all w1.heap.size w2.heap.size lv wr) (fun _ iv _ => 64 - (intOf iv).toNat)
      case atStart => exact ⟨0, gv0, ov0, c5, by omega, hgv0, rfl, rfl, hV5, hsW5, hS5⟩
      case round =>
        obtain ⟨i, gv, ov, cv, hi, hgv, rfl, rfl, hV, hsW, hS⟩ := hrel
        clear hV5 hsW5 hS5
        by_cases hi64 : i < 64
        · rcases hV.at_ with h0 | ⟨gv', ov', hgo, hltv, hcv⟩
          · omega
          injection hgo with hgo
          injection hgo with e1 e2
          subst e1 e2
          have cl0 := hcv 0 (by omega)
          have cl1 := hcv 1 (by omega)
          have cl2 := hcv 2 (by omega)
          have cl3 := hcv 3 (by omega)
          have cl4 := hcv 4 (by omega)
          have cl5 := hcv 5 (by omega)
          have cl6 := hcv 6 (by omega)
          have cl7 := hcv 7 (by omega)
          rw [Nat.add_zero] at cl0
          have hck : wr.cell? ⟨w1.heap.size, i, none⟩ = some (.int .u32 (kW.getD i 0 : Nat)) := by
            rcases hS.sK.at_ with h0 | ⟨g', o', hgo, _, hc⟩
            · omega
            injection hgo with hgo
            injection hgo with e1 e2
            have := hc i hi64
            rw [← e1, ← e2, Nat.zero_add] at this
            exact this
          have hcw : wr.cell? ⟨gw, ow + i, none⟩ = some (.int .u32 (ws.getD i 0 : Nat)) := by
            rcases hsW.at_ with h0 | ⟨g', o', hgo, _, hc⟩
            · omega
            injection hgo with hgo
            injection hgo with e1 e2
            have := hc i hi64
            rw [← e1, ← e2] at this
            exact this
          have hkl := kW_lt i
          have hxl := HWB.out i
          clear hcv hV
          have HRN : Hid (rndTo lv ws (i + 1) = rndN (rndTo lv ws i) (kW.getD i 0) (ws.getD i 0)) := rfl
          have hb0 := rndTo_bnd lv ws hlvb i 0
          have hb1 := rndTo_bnd lv ws hlvb i 1
          have hb2 := rndTo_bnd lv ws hlvb i 2
          have hb3 := rndTo_bnd lv ws hlvb i 3
          have hb4 := rndTo_bnd lv ws hlvb i 4
          have hb5 := rndTo_bnd lv ws hlvb i 5
          have hb6 := rndTo_bnd lv ws hlvb i 6
          have hb7 := rndTo_bnd lv ws hlvb i 7
          generalize rndTo lv ws i = R at *
          generalize kW.getD i 0 = K at *
          generalize ws.getD i 0 = X at *
          obtain ⟨T, hT⟩ : ∃ T, T = tN R K X := ⟨_, rfl⟩
          obtain ⟨U, hU⟩ : ∃ U, U = uN R := ⟨_, rfl⟩
          have HRR : Hid (rndN R K X = [(T + U) % 4294967296, R.getD 0 0, R.getD 1 0, R.getD 2 0, (R.getD 3 0 + T) % 4294967296, R.getD 4 0, R.getD 5 0, R.getD 6 0]) := by show _ = _; rw [hT, hU]; rfl
          unfold tN at hT
          unfold uN at hU
          obtain ⟨a0, ha0⟩ : ∃ x, x = R.getD 0 0 := ⟨_, rfl⟩
          obtain ⟨b0, hb0'⟩ : ∃ x, x = R.getD 1 0 := ⟨_, rfl⟩
          obtain ⟨c0, hc0⟩ : ∃ x, x = R.getD 2 0 := ⟨_, rfl⟩
          obtain ⟨d0, hd0⟩ : ∃ x, x = R.getD 3 0 := ⟨_, rfl⟩
          obtain ⟨e0, he0⟩ : ∃ x, x = R.getD 4 0 := ⟨_, rfl⟩
          obtain ⟨f0, hf0⟩ : ∃ x, x = R.getD 5 0 := ⟨_, rfl⟩
          obtain ⟨g0, hg0⟩ : ∃ x, x = R.getD 6 0 := ⟨_, rfl⟩
          obtain ⟨h0, hh0⟩ : ∃ x, x = R.getD 7 0 := ⟨_, rfl⟩
          rw [← ha0, ← hb0', ← hc0] at hU
          rw [← he0, ← hf0, ← hg0, ← hh0] at hT
          rw [← ha0, ← hb0', ← hc0, ← hd0, ← he0, ← hf0, ← hg0] at HRR
          rw [← ha0] at hb0
          rw [← hb0'] at hb1
          rw [← hc0] at hb2
          rw [← hd0] at hb3
          rw [← he0] at hb4
          rw [← hf0] at hb5
          rw [← hg0] at hb6
          rw [← hh0] at hb7
          rw [← ha0] at cl0
          rw [← hb0'] at cl1
          rw [← hc0] at cl2
          rw [← hd0] at cl3
          rw [← he0] at cl4
          rw [← hf0] at cl5
          rw [← hg0] at cl6
          rw [← hh0] at cl7
          clear ha0 hb0' hc0 hd0 he0 hf0 hg0 hh0
          have hr6 := fun W => rturn_at e0 6 W hb4 (by omega) (by omega)
          have hr11 := fun W => rturn_at e0 11 W hb4 (by omega) (by omega)
          have hr25 := fun W => rturn_at e0 25 W hb4 (by omega) (by omega)
          have hr2 := fun W => rturn_at a0 2 W hb0 (by omega) (by omega)
          have hr13 := fun W => rturn_at a0 13 W hb0 (by omega) (by omega)
          have hr22 := fun W => rturn_at a0 22 W hb0 (by omega) (by omega)
          have l6 := rotN_lt e0 6 hb4
          have l11 := rotN_lt e0 11 hb4
          have l25 := rotN_lt e0 25 hb4
          have l2 := rotN_lt a0 2 hb0
          have l13 := rotN_lt a0 13 hb0
          have l22 := rotN_lt a0 22 hb0
          unfold b1N at hT
          unfold b0N at hU
          generalize rotN e0 6 = r6 at *
          generalize rotN e0 11 = r11 at *
          generalize rotN e0 25 = r25 at *
          generalize rotN a0 2 = r2 at *
          generalize rotN a0 13 = r13 at *
          generalize rotN a0 22 = r22 at *
          have x1 := u32_xor_nat r6 r11 l6 l11
          have lx1 := xor_lt32 r6 r11 l6 l11
          generalize r6 ^^^ r11 = X1 at *
          have x2 := u32_xor_nat X1 r25 lx1 l25
          have lx2 := xor_lt32 X1 r25 lx1 l25
          generalize X1 ^^^ r25 = X2 at *
          have n1 := u32_and_nat e0 f0 hb4 hb5
          have ln1 := and_lt32 e0 f0 hb5
          generalize e0 &&& f0 = N1 at *
          have nt := not32 e0 hb4
          have n2 := u32_and_nat (4294967295 - e0) g0 (by omega) hb6
          have ln2 := and_lt32 (4294967295 - e0) g0 hb6
          generalize (4294967295 - e0) &&& g0 = N2 at *
          have n3 := u32_xor_nat N1 N2 ln1 ln2
          have ln3 := xor_lt32 N1 N2 ln1 ln2
          generalize N1 ^^^ N2 = N3 at *
          obtain ⟨ne, hne⟩ : ∃ ne, ne = 4294967295 - e0 := ⟨_, rfl⟩
          rw [← hne] at nt n2
          have HNE1 : Hid ((4294967295 : Int) - (e0 : Int) = (ne : Int)) := by show _ = _; omega
          clear hne
          have y1 := u32_xor_nat r2 r13 l2 l13
          have ly1 := xor_lt32 r2 r13 l2 l13
          generalize r2 ^^^ r13 = Y1 at *
          have y2 := u32_xor_nat Y1 r22 ly1 l22
          have ly2 := xor_lt32 Y1 r22 ly1 l22
          generalize Y1 ^^^ r22 = Y2 at *
          have m1 := u32_and_nat a0 b0 hb0 hb1
          have lm1 := and_lt32 a0 b0 hb1
          generalize a0 &&& b0 = M1 at *
          have m2 := u32_and_nat a0 c0 hb0 hb2
          have lm2 := and_lt32 a0 c0 hb2
          generalize a0 &&& c0 = M2 at *
          have m3 := u32_and_nat b0 c0 hb1 hb2
          have lm3 := and_lt32 b0 c0 hb2
          generalize b0 &&& c0 = M3 at *
          have m4 := u32_xor_nat M1 M2 lm1 lm2
          have lm4 := xor_lt32 M1 M2 lm1 lm2
          generalize M1 ^^^ M2 = M4 at *
          have m5 := u32_xor_nat M4 M3 lm4 lm3
          have lm5 := xor_lt32 M4 M3 lm4 lm3
          generalize M4 ^^^ M3 = M5 at *
          obtain ⟨s1, hs1⟩ : ∃ s1 : Nat, IntKind.u32.wrap ((h0 : Int) + X2) = (s1 : Int) := ⟨(h0 + X2) % 4294967296, by rw [IntKind.wrap_u32]; omega⟩
          obtain ⟨s2, hs2⟩ : ∃ s2 : Nat, IntKind.u32.wrap ((s1 : Int) + N3) = (s2 : Int) := ⟨(s1 + N3) % 4294967296, by rw [IntKind.wrap_u32]; omega⟩
          obtain ⟨s3, hs3⟩ : ∃ s3 : Nat, IntKind.u32.wrap ((s2 : Int) + K) = (s3 : Int) := ⟨(s2 + K) % 4294967296, by rw [IntKind.wrap_u32]; omega⟩
          have hs4 : IntKind.u32.wrap ((s3 : Int) + X) = (T : Int) := by
            have e1 := hs1
            have e2 := hs2
            have e3 := hs3
            rw [IntKind.wrap_u32] at e1 e2 e3 ⊢
            omega
          have hu1 : IntKind.u32.wrap ((Y2 : Int) + M5) = (U : Int) := by rw [IntKind.wrap_u32]; omega
          obtain ⟨NE, hNE⟩ : ∃ NE : Nat, NE = (d0 + T) % 4294967296 := ⟨_, rfl⟩
          obtain ⟨NA, hNA⟩ : ∃ NA : Nat, NA = (T + U) % 4294967296 := ⟨_, rfl⟩
          rw [← hNE, ← hNA] at HRR
          have hu2 : IntKind.u32.wrap ((d0 : Int) + T) = (NE : Int) := by rw [IntKind.wrap_u32]; omega
          have hu3 : IntKind.u32.wrap ((T : Int) + U) = (NA : Int) := by rw [IntKind.wrap_u32]; omega
          have HTe : Hid (((s1 : Int) + N3 + K + X) % 4294967296 = (T : Int)) := by
            show _ = _
            have e2 := hs2
            have e3 := hs3
            have e4 := hs4
            rw [IntKind.wrap_u32] at e2 e3 e4
            omega
          have HNAe : Hid (((T : Int) + U) % 4294967296 = (NA : Int)) := by show _ = _; omega
          have HNEe : Hid (((d0 : Int) + T) % 4294967296 = (NE : Int)) := by show _ = _; omega
          have hne1 : (4294967295 : Int) - (e0 : Int) = (ne : Int) := HNE1.out
          have hne2 : IntKind.u32.wrap ((4294967295 : Int) - (e0 : Int)) = (ne : Int) := by rw [hne1, IntKind.wrap_u32]; omega
          clear hT hU hNE hNA nt
          have hi1 : (i : Int) < 64 := by omega
          go_wp2_with fail
          go_quiet ((go_at_call 54; first | exact Calls.quiet_of (hr6 _ _ _ (by rfl) (by rfl)) | exact Calls.quiet_of (hr11 _ _ _ (by rfl) (by rfl)) | exact Calls.quiet_of (hr25 _ _ _ (by rfl) (by rfl))))
          all_goals
            obtain ⟨w6, hw6⟩ : ∃ w6, w6 = wr.drewN nq := ⟨_, rfl⟩
            rw [← hw6]
            have hb6 : Below wr.heap.size wr w6 := by rw [hw6]; simp only [World.drewN]; exact ⟨rfl, rfl, rfl, Nat.le_refl _, fun k _ => rfl⟩
            clear hw6
            have hS6 := hS.next hb6
            have hsW6 := hsW.below hb6
            have cl0 := keepcR hb6 cl0
            have cl1 := keepcR hb6 cl1
            have cl2 := keepcR hb6 cl2
            have cl3 := keepcR hb6 cl3
            have cl4 := keepcR hb6 cl4
            have cl5 := keepcR hb6 cl5
            have cl6 := keepcR hb6 cl6
            clear hS hsW hb6 hr6 hr11 hr25 hck hcw cl7
            go_wp2_with fail
            go_quiet ((go_at_call 54; first | exact Calls.quiet_of (hr2 _ _ _ (by rfl) (by rfl)) | exact Calls.quiet_of (hr13 _ _ _ (by rfl) (by rfl)) | exact Calls.quiet_of (hr22 _ _ _ (by rfl) (by rfl))))
            all_goals
              obtain ⟨w7, hw7⟩ : ∃ w7, w7 = w6.drewN nq := ⟨_, rfl⟩
              rw [← hw7]
              have hb7 : Below w6.heap.size w6 w7 := by rw [hw7]; simp only [World.drewN]; exact ⟨rfl, rfl, rfl, Nat.le_refl _, fun k _ => rfl⟩
              clear hw7
              have hS7 := hS6.next hb7
              have hsW7 := hsW6.below hb7
              have cl0 := keepcR hb7 cl0
              have cl1 := keepcR hb7 cl1
              have cl2 := keepcR hb7 cl2
              have cl3 := keepcR hb7 cl3
              have cl4 := keepcR hb7 cl4
              have cl5 := keepcR hb7 cl5
              have cl6 := keepcR hb7 cl6
              clear hS6 hsW6 hb7 hr2 hr13 hr22
              have HTU : Hid (T < 4294967296 ∧ NA < 4294967296 ∧ NE < 4294967296) := by
                have e1 := HTe.out
                have e2 := HNAe.out
                have e3 := HNEe.out
                exact ⟨by omega, by omega, by omega⟩
              go_wp2_with fail
              go_region_held3 (fun w' => w'.cell? ⟨gv, ov, none⟩ = some (.int .u32 (a0 : Nat)) ∧ w'.cell? ⟨gv, ov + 1, none⟩ = some (.int .u32 (b0 : Nat)) ∧ w'.cell? ⟨gv, ov + 2, none⟩ = some (.int .u32 (c0 : Nat)) ∧ w'.cell? ⟨gv, ov + 3, none⟩ = some (.int .u32 (d0 : Nat)) ∧ w'.cell? ⟨gv, ov + 4, none⟩ = some (.int .u32 (e0 : Nat)) ∧ w'.cell? ⟨gv, ov + 5, none⟩ = some (.int .u32 (f0 : Nat)) ∧ w'.cell? ⟨gv, ov + 6, none⟩ = some (.int .u32 (g0 : Nat))) (go_keep) (fail)
              all_goals
                have HV8 := (show Hid _ from slU_8 w7.drew 37 NA a0 b0 c0 NE e0 f0 g0 HTU.out.2.1 hb0 hb1 hb2 HTU.out.2.2 hb4 hb5 hb6)
                have HS8 := (show Hid _ from hS7.next (((Below.refl _ _).drew).alloc (Nat.le_refl _) (.cells #[.int .u32 (NA : Nat), .int .u32 (a0 : Nat), .int .u32 (b0 : Nat), .int .u32 (c0 : Nat), .int .u32 (NE : Nat), .int .u32 (e0 : Nat), .int .u32 (f0 : Nat), .int .u32 (g0 : Nat)] 37)))
                have HW8 := (show Hid _ from hsW7.below (((Below.refl _ _).drew).alloc (Nat.le_refl _) (.cells #[.int .u32 (NA : Nat), .int .u32 (a0 : Nat), .int .u32 (b0 : Nat), .int .u32 (c0 : Nat), .int .u32 (NE : Nat), .int .u32 (e0 : Nat), .int .u32 (f0 : Nat), .int .u32 (g0 : Nat)] 37)))
                have HG8 : Hid (w2.heap.size < w7.heap.size) := (hS7.oL.own.lt w2.heap.size rfl).2
                go_wp2
                go_roundw
                case rel => exact ⟨i + 1, w7.heap.size, 0, 8, by omega, HG8.out, by go_num, rfl, by rw [HRN.out, HRR.out]; exact HV8.out, HW8.out, HS8.out⟩
                case measure => simp [intOf]; omega
        · have e64 : i = 64 := by omega
          have hi1 : ¬ (i : Int) < 64 := by omega
          rw [e64] at hV
          have hrb := rndTo_bnd lv ws hlvb 64
          obtain ⟨R, hR⟩ : ∃ R, R = rndTo lv ws 64 := ⟨_, rfl⟩
          rw [← hR] at hV hrb HCO
          have HMX : Hid (compTo all (k + 1) = mixL lv R 8) := by show _ = _; rw [HB.out, HCO.out, mixL_all]
          have hS0 : RS w (some ⟨gA, oA, none⟩) cA all w1.heap.size w2.heap.size (mixL lv R 0) wr := by rw [mixL_zero lv R hlvl]; exact hS
          clear hR e64 hsW hS hi
          go_wp2_with fail
          obtain ⟨wB, hwB⟩ : ∃ wB, wB = wr := ⟨_, rfl⟩
          subst hwB
          go_loopw [12] (fun iv wr => ∃ j : Nat, j ≤ 8 ∧ iv = .int .i64 j ∧ RS w (some ⟨gA, oA, none⟩) cA all w1.heap.size w2.heap.size (mixL lv R j) wr ∧ SlU wr (some ⟨gv, ov, none⟩) 8 cv R) (fun iv _ => 8 - (intOf iv).toNat)
          case atStart => exact ⟨0, by omega, rfl, hS0, hV⟩
          case round =>
            obtain ⟨j, hj, rfl, hSj, hVj⟩ := hrel
            clear hS0 hV
            by_cases hj8 : j < 8
            · have hcj := hSj.oL.cell j hj8
              have hfj := hSj.oL.free j
              have hvj : (mixL lv R j).getD j 0 = lv.getD j 0 := by rw [mixL_get lv R j j hj8, if_neg (by omega)]
              rw [hvj] at hcj
              have hcv : wr.cell? ⟨gv, ov + j, none⟩ = some (.int .u32 (R.getD j 0 : Nat)) := by
                rcases hVj.at_ with h0 | ⟨g', o', hgo, _, hc⟩
                · omega
                injection hgo with hgo
                injection hgo with e1 e2
                have := hc j hj8
                rw [← e1, ← e2] at this
                exact this
              have hb1 := hlvb j
              have hb2 := hrb j
              obtain ⟨x, hx⟩ : ∃ x, x = (lv.getD j 0 + R.getD j 0) % 4294967296 := ⟨_, rfl⟩
              have hxl : x < 4294967296 := by rw [hx]; exact Nat.mod_lt _ (by omega)
              have HN2 := (show Hid _ from hSj.store (by omega) (by omega) hgl j x hxl)
              rw [mixL_set lv R j x hx] at HN2
              have HV2 := (show Hid _ from hVj.setOther w2.heap.size j (.int .u32 (x : Nat)) (by omega))
              have hwx : IntKind.u32.wrap (((lv.getD j 0 : Nat) : Int) + (R.getD j 0 : Nat)) = (x : Int) := by rw [IntKind.wrap_u32]; omega
              have hwx2 : (((lv.getD j 0 : Nat) : Int) + (R.getD j 0 : Nat)) % 4294967296 = (x : Int) := by omega
              generalize lv.getD j 0 = V at *
              generalize R.getD j 0 = RJ at *
              clear hx hSj hVj hvj
              have hj1 : (j : Int) < 8 := by omega
              go_wp2_with fail
              go_region
              all_goals
                go_wp2
                go_roundw
                case rel => exact ⟨j + 1, by omega, by go_num, by first | exact HN2.out.next (Below.refl _ _).drew | exact HN2.out, by first | exact HV2.out.below (Below.refl _ _).drew | exact HV2.out⟩
                case measure => simp [intOf]; omega
            · have e8 : j = 8 := by omega
              have hj1 : ¬ (j : Int) < 8 := by omega
              rw [e8, ← HMX.out] at hSj
              clear e8
              go_wp2
              go_roundw
              case rel => exact ⟨k + 1, q + 64, by omega, (show _ = _ from by have := HQ.out; omega), by go_num, hSj⟩
              case measure => simp [intOf]; omega
    · have ek : k = KN := by omega
      have hki : ¬ (q : Int) < (all.length : Int) := by have := HK64.out; have := HQ.out; omega
      rw [ek] at hS
      obtain ⟨v, hv⟩ : ∃ v, v = compTo all KN := ⟨_, rfl⟩
      rw [← hv] at hS
      have HSH : Hid (shaN zs = bytesW v) := by show _ = _; unfold shaN; rw [← HALL.out, ← HKN.out, hv]
      have hvb := hS.oL.bnd
      clear ek hv hk hkK
      obtain ⟨zc, hzc⟩ : ∃ zc, zc = z32.toList := ⟨_, rfl⟩
      have hzl : zc.length = 32 := by rw [hzc]; rfl
      have hone : ∀ u ∈ zc, u.oneCell' = true := by rw [hzc, z32_vals]; exact vals_one _
      have HZ : Hid (zc.toArray = z32) := by show _ = _; rw [hzc]
      have hTN := arr32_new wr [] (wr.alloc (.cells z32 66)) rfl
      have hbN : Below wr.heap.size wr (wr.alloc (.cells z32 66)) := (Below.refl _ _).alloc (Nat.le_refl _) _
      have hthN : (wr.alloc (.cells z32 66)).there wr.heap.size 0 zc.toArray.size := by rw [show zc.toArray.size = 32 from hzl]; exact hTN.there
      have hi32 : (Tryd.prog.info? 66).map (·.size) = some zc.toArray.size := by rw [show zc.toArray.size = 32 from hzl]; kernel_rfl
      obtain ⟨w4, hw4⟩ : ∃ w4, w4 = (wr.alloc (.cells z32 66)).setCells wr.heap.size 0 zc := ⟨_, rfl⟩
      have hO4 : Arr8 w4 wr.heap.size wr.heap.size 32 (outB v 0) := by
        rw [hw4, hzc, z32_vals, outB_zero]
        have := hTN.copied 0 (List.replicate 32 0) (fun i => by rw [List.getD_eq_getElem?_getD, List.getElem?_replicate]; split <;> simp) (by simp)
        rwa [lay_full _ _ (by rw [outL_len, List.length_replicate])] at this
      have hb4 : Below wr.heap.size wr w4 := by rw [hw4]; exact Below.setCells hbN _ _ _ (Nat.le_refl _)
      clear hzc hTN hbN
      go_wp2_with (refine wpList_store_mid rfl 66 _ _ rfl wr.heap.size 0 zc.toArray rfl (by rw [HZ.out]; rfl) hthN hi32 (all_oneCell_toArray hone) ?_; change wpList _ _ _ _ _ ((wr.alloc (.cells z32 66)).setCells wr.heap.size 0 zc); rw [← hw4]; clear hw4)
      obtain ⟨wS, hwS⟩ : ∃ wS, wS = wr := ⟨_, rfl⟩
      subst hwS
      have hwz : w.heap.size < wS.heap.size := hS.rR.lt
      go_loopw [14] (fun iv wr => ∃ j : Nat, j ≤ 32 ∧ iv = .int .i64 j ∧ Arr8 wr wS.heap.size wS.heap.size 32 (outB v j) ∧ Below wS.heap.size wS wr) (fun iv _ => 32 - (intOf iv).toNat)
      case atStart => exact ⟨0, by omega, rfl, hO4, hb4⟩
      case round =>
        obtain ⟨j, hj, rfl, hO, hbS⟩ := hrel
        clear hO4 hb4
        have hSj := hS.next hbS
        by_cases hj32 : j < 32
        · obtain ⟨d, hd⟩ : ∃ d, d = j / 4 := ⟨_, rfl⟩
          obtain ⟨r, hr⟩ : ∃ r, r = 3 - j % 4 := ⟨_, rfl⟩
          have hd8 : d < 8 := by omega
          have hcd := hSj.oL.cell d hd8
          have hcj := hO.cell j hj32
          have hfj := hO.free j
          have hVb := hvb d
          have hxl : v.getD d 0 / 256 ^ r % 256 < 256 := Nat.mod_lt _ (by omega)
          have HST := (show Hid _ from hO.store j (v.getD d 0 / 256 ^ r % 256) hj32 hxl (outB v (j + 1)) (outB_len v _) (fun i => by
            rw [outB_get, outB_get]
            by_cases e : i = j
            · subst e; rw [if_pos rfl, if_pos hj32, if_pos (by omega), hd, hr]
            · rw [if_neg e]
              by_cases e2 : i < 32
              · rw [if_pos e2, if_pos e2]
                by_cases e3 : i < j
                · rw [if_pos e3, if_pos (by omega)]
                · rw [if_neg e3, if_neg (by omega)]
              · rw [if_neg e2, if_neg e2]))
          have HBS : Hid (∀ x : Value, Below wS.heap.size wS (wr.setCell ⟨wS.heap.size, j, none⟩ x)) := fun x => hbS.setCell (p := ⟨wS.heap.size, j, none⟩) (Nat.le_refl _) x
          have hbv : ((v.getD d 0 : Nat) : Int) / 2 ^ (8 * r) % 256 = ((v.getD d 0 / 256 ^ r % 256 : Nat) : Int) := byte_at _ r
          have hm1 : (3 : Int) - (j : Int) % 4 = (r : Int) := by omega
          have hm2 : IntKind.i64.wrap ((3 : Int) - (j : Int) % 4) = (r : Int) := by rw [IntKind.wrap_i64]; omega
          have hm3 : IntKind.i64.wrap (8 * (r : Int)) = ((8 * r : Nat) : Int) := by rw [IntKind.wrap_i64]; omega
          have hdi : (j : Int) / 4 = (d : Int) := by omega
          have hd1 : (d : Int) < 8 := by omega
          have hj1 : (j : Int) < 32 := by omega
          generalize v.getD d 0 / 256 ^ r % 256 = bv at *
          generalize v.getD d 0 = V at *
          have HB2 := (show Hid _ from HBS.out (.int .u8 (bv : Nat)))
          clear hO hSj hd hr HBS hbS
          go_wp2
          go_roundw
          case rel => exact ⟨j + 1, by omega, by go_num, HST.out, HB2.out⟩
          case measure => simp [intOf]; omega
        · have ej : j = 32 := by omega
          have hj1 : ¬ (j : Int) < 32 := by omega
          rw [ej, outB_all, ← HSH.out] at hO
          obtain ⟨cs, hcs⟩ : ∃ cs, cs = vals (shaN zs) := ⟨_, rfl⟩
          have hcl : cs.length = 32 := by rw [hcs]; simp [vals, shaN_len]
          have hone2 : ∀ u ∈ cs, u.oneCell' = true := by rw [hcs]; exact vals_one _
          have hrg : wr.rangeAt wS.heap.size 0 cs := by rw [hcs]; exact hO.range
          have hth := hSj.rR.there
          have HE : Hid (cs = vals (shaN zs)) := hcs
          have hi64 : (Tryd.prog.info? 66).map (·.size) = some cs.length := by rw [hcl]; kernel_rfl
          have hi642 : (Tryd.prog.info? 66).map (·.size) = some cs.toArray.size := hi64
          have hth2 : wr.there w.heap.size 0 cs.toArray.size := by rw [show cs.toArray.size = 32 from hcl]; exact hth
          have hrg2 : (wr.setCells w.heap.size 0 cs).rangeAt w.heap.size 0 cs := World.rangeAt_setCells_same _ _ _ _ (by rw [hcl]; exact hth)
          have HBF : Hid (Below w.heap.size w (wr.setCells w.heap.size 0 cs)) := Below.setCells hSj.bel _ _ _ (Nat.le_refl _)
          clear hcs hO hSj hbS ej hth
          go_wp2_with (first | (refine wpList_load_mid rfl 66 _ rfl wS.heap.size 0 rfl cs _ hrg Tryd.underlying66 rfl hi64 ?_) | (refine wpList_store_mid rfl 66 _ _ rfl w.heap.size 0 cs.toArray rfl rfl hth2 hi642 (all_oneCell_toArray hone2) ?_))
          try simp only [Exit.inBlock, Exit.then]
          refine bodyPost_ret (results_cell_mid rfl _ _ w.heap.size 0 cs _ rfl hrg2 Tryd.underlying66 rfl hi64) rfl ?_
          exact ⟨by rw [HE.out], HBF.out⟩
end Go.Proofs.YtmikhnaffhheoaaDoor
namespace Go.Proofs.YtmikhnaffhheoaaDoor
open Go.RowKit
theorem keyB_eq (ks L : List Nat) (h : L = if 64 < ks.length then shaN ks else ks) : keyB ks = L ++ List.replicate (64 - L.length) 0 := by
  unfold keyB
  split at h
  · rename_i h2; rw [if_pos h2, h, shaN_len]
  · rename_i h2; rw [if_neg h2, h]
set_option maxRecDepth 100000 in
set_option maxHeartbeats 8000000 in
theorem rmac_short (a : Option Addr) (n c : Nat) (ks : List Nat) (a2 : Option Addr) (n2 c2 : Nat) (zs : List Nat) (w : World) (h : Sl w a n c ks) (h2 : Sl w a2 n2 c2 zs) (hn : n ≤ 140737488355000) (hn2 : n2 ≤ 140737488355000) (h64 : n ≤ 64) :
    Calls Tryd.prog 28 #[.slice a n c, .slice a2 n2 c2] w fun e w' => e = .returned (.agg (vals (macN ks zs)).toArray) ∧ Below w.heap.size w w' := by
  obtain ⟨w0, hw0⟩ : ∃ w0, w0 = w.alloc (.cells z32 66) := ⟨_, rfl⟩
  have hb0 : Below w.heap.size w w0 := by rw [hw0]; exact (Below.refl _ _).alloc (Nat.le_refl _) _
  have hR0 := arr32_new w [] w0 hw0
  have hl := h.len
  have hz0 : w0.heap.size = w.heap.size + 1 := by rw [hw0]; simp
  have ho := own_empty w0
  have hoe := ho
  rw [hz0] at ho
  have h0 := h.below hb0
  have h20 := h2.below hb0
  have HZ0 := (show Hid _ from hz0)
  clear hz0
  go_enter Tryd.func28, Tryd.ntmps28
  go_wp2_with (at_builtin; go_must (change wpList _ _ _ _ _ ((w.alloc (.cells z32 66)).alloc (.cells #[] 5)); rw [← hw0]; clear hw0; refine app_list rfl _ _ rfl (w.heap.size + 1) _ 0 0 [] rfl ho _ n c ks rfl (h0.below ((Below.refl _ _).alloc (Nat.le_refl _) _)) (by omega) (by have := HZ0.out; simp; omega) ?_))
  intro a1 c1 w1 ho1 hg1
  have ho1' : OwnB w1 w0.heap.size a1 n c1 ks := by rw [HZ0.out]; simpa using ho1
  have hb1 : Below w0.heap.size w0 w1 := ((Below.refl _ _).alloc (Nat.le_refl _) _).trans (by rw [HZ0.out]; exact ho.up hg1 (by have := HZ0.out; simp; omega))
  clear hg1 ho ho1 hoe
  have g64 : ¬ (64 : Int) < (n : Int) := by omega
  obtain ⟨L, hL⟩ : ∃ L, L = ks := ⟨_, rfl⟩
  have HLL : Hid (L = if 64 < ks.length then shaN ks else ks) := by show _ = _; rw [if_neg (by omega)]; exact hL
  rw [← hL] at ho1' hl
  have hL64 : L.length ≤ 64 := by omega
  clear hL
  subst hl
  obtain ⟨a3, ha3⟩ : ∃ a3, a3 = a1 := ⟨_, rfl⟩
  obtain ⟨c3, hc3⟩ : ∃ c3, c3 = c1 := ⟨_, rfl⟩
  obtain ⟨w3, hw3⟩ : ∃ w3, w3 = w1 := ⟨_, rfl⟩
  subst ha3 hc3 hw3
  have ho3 := ho1'
  have hb3 := hb1
  clear ho1' hb1
  go_wp2_with fail
  go_loopw [5] (fun lv wr => ∃ (m : Nat) (a4 : Option Addr) (c4 : Nat), L.length ≤ m ∧ m ≤ 64 ∧ lv = .slice a4 m c4 ∧ OwnB wr w0.heap.size a4 m c4 (L ++ List.replicate (m - L.length) 0) ∧ Below w0.heap.size w0 wr) (fun lv _ => 64 - lenV lv)
  case atStart => exact ⟨L.length, a3, c3, Nat.le_refl _, hL64, rfl, by rw [Nat.sub_self]; simpa using ho3, hb3⟩
  case round =>
    obtain ⟨m, a4, c4, hm1, hm2, rfl, ho4, hb4⟩ := hrel
    clear ho3 hb3
    by_cases hm64 : m < 64
    · have hmi : (m : Int) < 64 := by omega
      have hz4 := hb4.size
      go_wp2_with (at_builtin; go_must (refine app_list rfl _ _ rfl w0.heap.size _ _ c4 _ rfl (ho4.alloc _) _ 1 1 [0] rfl (sl_new wr 5 (0, 0) [0] rfl (by decide) _ rfl) (by omega) (by simp; omega) ?_))
      intro a5 c5 w5 ho5 hg5
      have hb5 : Below w0.heap.size w0 w5 := (hb4.alloc hz4 _).trans ((ho4.alloc _).up hg5 (by simp; omega))
      clear hg5
      go_wp2
      go_roundw
      case rel => exact ⟨m + 1, a5, c5, by omega, by omega, rfl, by rw [show m + 1 - L.length = (m - L.length) + 1 from by omega, List.replicate_succ', ← List.append_assoc]; simpa using ho5, hb5⟩
      case measure => simp [lenV]; omega
    · have em : m = 64 := by omega
      subst em
      have HK : Hid (keyB ks = L ++ List.replicate (64 - L.length) 0) := keyB_eq ks L HLL.out
      rw [← HK.out] at ho4
      obtain ⟨K, hK⟩ : ∃ K, K = keyB ks := ⟨_, rfl⟩
      rw [← hK] at ho4
      have HKK := (show Hid _ from hK)
      have hkl : K.length = 64 := by rw [hK]; exact keyB_len ks
      have hform : ∃ g, a4 = some ⟨g, 0, none⟩ := by
        rcases ho4.own.2 with ⟨_, h00⟩ | ⟨g, cap, cur, hv, _⟩
        · omega
        · injection hv with e1
          exact ⟨g, e1⟩
      obtain ⟨gK, rfl⟩ := hform
      clear hK hm1 hm2
      have hin0 : OwnB ((wr.alloc (.cells #[] 5)).alloc (.cells #[] 5)) w0.heap.size (some ⟨wr.heap.size, 0, none⟩) 0 0 [] := ((own_empty wr).alloc _).base hb4.size
      have hout0 : OwnB ((wr.alloc (.cells #[] 5)).alloc (.cells #[] 5)) w0.heap.size (some ⟨wr.heap.size + 1, 0, none⟩) 0 0 [] := by
        have := own_empty (wr.alloc (.cells #[] 5))
        rw [show (wr.alloc (.cells #[] 5)).heap.size = wr.heap.size + 1 by simp] at this
        exact this.base (by have := hb4.size; omega)
      have hlong0 := (ho4.alloc (.cells #[] 5)).alloc (.cells #[] 5)
      have hgKlt : gK < wr.heap.size := (ho4.own.lt gK rfl).2
      have hb60 : Below w0.heap.size w0 ((wr.alloc (.cells #[] 5)).alloc (.cells #[] 5)) := (hb4.alloc hb4.size _).alloc (by have := hb4.size; simp; omega) _
      have ap1 : Apart (some ⟨wr.heap.size, 0, none⟩) 0 0 (some ⟨wr.heap.size + 1, 0, none⟩) 0 0 := fun g h1 h2 => by simp [Value.ownBlock] at h1 h2; omega
      have ap2 : Apart (some ⟨wr.heap.size, 0, none⟩) 0 0 (some ⟨gK, 0, none⟩) 64 c4 := fun g h1 h2 => by simp [Value.ownBlock] at h1 h2; omega
      have ap3 : Apart (some ⟨wr.heap.size + 1, 0, none⟩) 0 0 (some ⟨gK, 0, none⟩) 64 c4 := fun g h1 h2 => by simp [Value.ownBlock] at h1 h2; omega
      clear ho4 hb4
      go_wp2_with fail
      obtain ⟨wA, hwA⟩ : ∃ wA, wA = wr := ⟨_, rfl⟩
      subst hwA
      go_loopw [7, 8, 9] (fun vi vo iv wr => ∃ (i : Nat) (ai : Option Addr) (ci : Nat) (ao : Option Addr) (co : Nat), i ≤ 64 ∧ iv = .int .i64 i ∧ vi = .slice ai i ci ∧ vo = .slice ao i co ∧ OwnB wr w0.heap.size ai i ci ((K.take i).map (· ^^^ 54)) ∧ OwnB wr w0.heap.size ao i co ((K.take i).map (· ^^^ 92)) ∧ OwnB wr w0.heap.size (some ⟨gK, 0, none⟩) 64 c4 K ∧ Apart ai i ci ao i co ∧ Apart ai i ci (some ⟨gK, 0, none⟩) 64 c4 ∧ Apart ao i co (some ⟨gK, 0, none⟩) 64 c4 ∧ Below w0.heap.size w0 wr) (fun _ _ iv _ => 64 - (intOf iv).toNat)
      case atStart => exact ⟨0, _, 0, _, 0, by omega, rfl, rfl, rfl, hin0, hout0, hlong0, ap1, ap2, ap3, hb60⟩
      case round =>
        obtain ⟨i, ai, ci, ao, co, hi, rfl, rfl, rfl, hin, hout, hlong, q1, q2, q3, hb6⟩ := hrel
        clear hin0 hout0 hlong0 ap1 ap2 ap3 hb60
        by_cases hi64 : i < 64
        · have hc := hlong.cell i hi64
          have hxb := hlong.bnd i
          have HT : Hid (K.take (i + 1) = K.take i ++ [K.getD i 0]) := take_snocN K i (by omega)
          generalize K.getD i 0 = x at *
          have hx1 := u8_xor_nat x 54 hxb (by omega)
          have hx2 := u8_xor_nat x 92 hxb (by omega)
          rw [show ((54 : Nat) : Int) = 54 from rfl] at hx1
          rw [show ((92 : Nat) : Int) = 92 from rfl] at hx2
          have hl1 := xor_lt8 x 54 hxb (by omega)
          have hl2 := xor_lt8 x 92 hxb (by omega)
          have HA1 : Hid ((K.take (i + 1)).map (· ^^^ 54) = (K.take i).map (· ^^^ 54) ++ [x ^^^ 54]) := by show _ = _; rw [HT.out]; simp
          have HA2 : Hid ((K.take (i + 1)).map (· ^^^ 92) = (K.take i).map (· ^^^ 92) ++ [x ^^^ 92]) := by show _ = _; rw [HT.out]; simp
          generalize x ^^^ 54 = y1 at *
          generalize x ^^^ 92 = y2 at *
          have hii : (i : Int) < 64 := by omega
          have hz6 := hb6.size
          go_wp2_with (at_builtin; go_must (refine app_list2 rfl _ _ rfl w0.heap.size ai i ci _ rfl (hin.alloc _) _ 1 1 [y1] rfl (sl_one wr 5 _ y1 (by first | rfl | exact hx1) hl1) (by omega) (by simp; omega) ?_))
          intro aj cj w7 hin7 hg7 hn7
          have hout7 := (hout.alloc (.cells #[.int .u8 (y1 : Nat)] 5)).kept hg7 q1.keep
          have hlong7 := (hlong.alloc (.cells #[.int .u8 (y1 : Nat)] 5)).kept hg7 q2.keep
          have r1 : Apart aj (i + 1) cj ao i co := q1.next hout (by simp) hn7
          have r2 : Apart aj (i + 1) cj (some ⟨gK, 0, none⟩) 64 c4 := q2.next hlong (by simp) hn7
          have hb7 : Below w0.heap.size w0 w7 := (hb6.alloc hz6 _).trans ((hin.alloc _).up hg7 (by simp; omega))
          have hc7 := hlong7.cell i hi64
          have HC : Hid (K.getD i 0 = x) := by
            show _ = _
            have h1 := hlong.cell i hi64
            rw [hc] at h1
            injection h1 with h1
            injection h1 with _ h1
            omega
          rw [HC.out] at hc7
          have hz7 := hb7.size
          clear hg7 hn7 hin hout hlong q1 q2 hb6 hc
          go_wp2_with (at_builtin; go_must (refine app_list2 rfl _ _ rfl w0.heap.size ao i co _ rfl (hout7.alloc _) _ 1 1 [y2] rfl (sl_one w7 5 _ y2 (by first | rfl | exact hx2) hl2) (by omega) (by simp; omega) ?_))
          intro ap cp w8 hout8 hg8 hn8
          have hin8 := (hin7.alloc (.cells #[.int .u8 (y2 : Nat)] 5)).kept hg8 r1.symm.keep
          have hlong8 := (hlong7.alloc (.cells #[.int .u8 (y2 : Nat)] 5)).kept hg8 q3.keep
          have s1 : Apart ap (i + 1) cp aj (i + 1) cj := r1.symm.next hin7 (by simp) hn8
          have s3 : Apart ap (i + 1) cp (some ⟨gK, 0, none⟩) 64 c4 := q3.next hlong7 (by simp) hn8
          have hb8 : Below w0.heap.size w0 w8 := (hb7.alloc hz7 _).trans ((hout7.alloc _).up hg8 (by simp; omega))
          clear hg8 hn8 hout7 hlong7 hc7
          go_wp2
          go_roundw
          case rel => exact ⟨i + 1, aj, cj, ap, cp, by omega, by go_num, rfl, rfl, by rw [HA1.out, List.map_take]; exact hin8, by rw [HA2.out, List.map_take]; exact hout8, hlong8, s1.symm, r2, s3, hb8⟩
          case measure => simp [intOf]; omega
        · have ei : i = 64 := by omega
          subst ei
          have HT : Hid (K.take 64 = K) := by show _ = _; rw [← hkl]; exact List.take_length
          rw [HT.out] at hin hout
          have h26 := h20.below hb6
          clear hi hi64 q2 q3 hlong
          have hz6 := hb6.size
          obtain ⟨I, hI⟩ : ∃ I, I = K.map (· ^^^ 54) := ⟨_, rfl⟩
          obtain ⟨O, hO⟩ : ∃ O, O = K.map (· ^^^ 92) := ⟨_, rfl⟩
          rw [← hI] at hin
          rw [← hO] at hout
          have hol : O.length = 64 := hout.len
          have HMAC : Hid (macN ks zs = shaN (O ++ shaN (I ++ zs))) := by show _ = _; rw [hO, hI, HKK.out]; rfl
          clear hI hO
          go_wp2_with (at_builtin; go_must (refine app_list rfl _ _ rfl w0.heap.size ai 64 ci I rfl hin _ n2 c2 zs rfl h26 (by omega) hz6 ?_))
          intro a7 c7 w7 ho7 hg7
          have hout7 := hout.kept hg7 q1.keep
          have hb7 : Below w0.heap.size w0 w7 := hb6.trans (hin.up hg7 hz6)
          have hs7 := ho7.sl (by omega)
          clear hg7 ho7 hin hout q1 hb6 h26
          go_wp2_with fail
          refine (rsum_any a7 (64 + n2) c7 (I ++ zs) w7 hs7 (by omega)).mono ?_
          rintro e w8 ⟨rfl, hb78⟩
          have hout8 := hout7.below hb78
          have hb8 : Below w0.heap.size w0 w8 := hb7.trans (hb78.mono hb7.size)
          clear hout7 hb7 hb78 hs7
          obtain ⟨J, hJ⟩ : ∃ J, J = shaN (I ++ zs) := ⟨_, rfl⟩
          have hJl : J.length = 32 := by rw [hJ]; exact shaN_len _
          have hJb : ∀ i, J.getD i 0 < 256 := by rw [hJ]; exact shaN_bnd _
          rw [← hJ] at HMAC ⊢
          clear hJ
          obtain ⟨jc, hjc⟩ : ∃ jc, jc = vals J := ⟨_, rfl⟩
          rw [← hjc]
          have hjcl : jc.length = 32 := by rw [hjc]; simp [vals, hJl]
          have hone2 : ∀ u ∈ jc, u.oneCell' = true := by rw [hjc]; exact vals_one _
          have hTB := arr32_new w8 [] (w8.alloc (.cells z32 66)) rfl
          have hbB : Below w8.heap.size w8 (w8.alloc (.cells z32 66)) := (Below.refl _ _).alloc (Nat.le_refl _) _
          have hthB : (w8.alloc (.cells z32 66)).there w8.heap.size 0 jc.toArray.size := by rw [show jc.toArray.size = 32 from hjcl]; exact hTB.there
          have hi32 : (Tryd.prog.info? 66).map (·.size) = some jc.toArray.size := by rw [show jc.toArray.size = 32 from hjcl]; kernel_rfl
          obtain ⟨w9, hw9⟩ : ∃ w9, w9 = (w8.alloc (.cells z32 66)).setCells w8.heap.size 0 jc := ⟨_, rfl⟩
          have hI9 : Arr8 w9 w8.heap.size w8.heap.size 32 J := by
            rw [hw9, hjc]
            have := hTB.copied 0 J hJb (by rw [hJl]; omega)
            rwa [lay_full _ _ (by rw [outL_len, hJl])] at this
          have hb89 : Below w8.heap.size w8 w9 := by rw [hw9]; exact Below.setCells hbB _ _ _ (Nat.le_refl _)
          have hout9 := hout8.below hb89
          have hb9 : Below w0.heap.size w0 w9 := hb8.trans (hb89.mono hb8.size)
          have hs9 := (hI9.slB (by omega)).1
          have hz9 := hb9.size
          clear hjc hTB hbB hb89 hout8 hb8 hI9
          go_wp2_with (first | (refine wpList_store_mid rfl 66 _ _ rfl w8.heap.size 0 jc.toArray rfl rfl hthB hi32 (all_oneCell_toArray hone2) ?_; change wpList _ _ _ _ _ ((w8.alloc (.cells z32 66)).setCells w8.heap.size 0 jc); rw [← hw9]; clear hw9) | (at_builtin; go_must (refine app_list rfl _ _ rfl w0.heap.size ao 64 co O rfl hout9 _ 32 32 J rfl hs9 (by omega) hz9 ?_)))
          intro aa ca wa hoa hga
          have hba : Below w0.heap.size w0 wa := hb9.trans (hout9.up hga hz9)
          have hsa := hoa.sl (by omega)
          clear hga hoa hout9 hb9 hs9
          go_wp2_with fail
          refine (rsum_any aa (64 + 32) ca (O ++ J) wa hsa (by omega)).mono ?_
          rintro e wb ⟨rfl, hbab⟩
          have hbb : Below w0.heap.size w0 wb := hba.trans (hbab.mono hba.size)
          have hRb := hR0.below hbb
          have hbel : Below w.heap.size w wb := hb0.trans (hbb.mono hb0.size)
          rw [← HMAC.out]
          obtain ⟨cs, hcs⟩ : ∃ cs, cs = vals (macN ks zs) := ⟨_, rfl⟩
          have hcl : cs.length = 32 := by rw [hcs]; simp [vals, macN, shaN_len]
          have hone3 : ∀ u ∈ cs, u.oneCell' = true := by rw [hcs]; exact vals_one _
          have HCS : Hid (cs = vals (macN ks zs)) := hcs
          rw [← hcs]
          have hth := hRb.there
          have hi64 : (Tryd.prog.info? 66).map (·.size) = some cs.length := by rw [hcl]; kernel_rfl
          have hi642 : (Tryd.prog.info? 66).map (·.size) = some cs.toArray.size := hi64
          have hth2 : wb.there w.heap.size 0 cs.toArray.size := by rw [show cs.toArray.size = 32 from hcl]; exact hth
          have hrg2 : (wb.setCells w.heap.size 0 cs).rangeAt w.heap.size 0 cs := World.rangeAt_setCells_same _ _ _ _ (by rw [hcl]; exact hth)
          have HBF : Hid (Below w.heap.size w (wb.setCells w.heap.size 0 cs)) := Below.setCells hbel _ _ _ (Nat.le_refl _)
          clear hcs hRb hbel hbb hba hbab hsa hth
          go_wp2_with (refine wpList_store_mid rfl 66 _ _ rfl w.heap.size 0 cs.toArray rfl rfl hth2 hi642 (all_oneCell_toArray hone3) ?_)
          try simp only [Exit.inBlock, Exit.then]
          refine bodyPost_ret (results_cell_mid rfl _ _ w.heap.size 0 cs _ rfl hrg2 Tryd.underlying66 rfl hi64) rfl ?_
          exact ⟨by rw [HCS.out], HBF.out⟩
end Go.Proofs.YtmikhnaffhheoaaDoor
namespace Go.Proofs.YtmikhnaffhheoaaDoor
open Go.RowKit
set_option maxRecDepth 100000 in
set_option maxHeartbeats 8000000 in
theorem rmac_long (a : Option Addr) (n c : Nat) (ks : List Nat) (a2 : Option Addr) (n2 c2 : Nat) (zs : List Nat) (w : World) (h : Sl w a n c ks) (h2 : Sl w a2 n2 c2 zs) (hn : n ≤ 140737488355000) (hn2 : n2 ≤ 140737488355000) (h64 : 64 < n) :
    Calls Tryd.prog 28 #[.slice a n c, .slice a2 n2 c2] w fun e w' => e = .returned (.agg (vals (macN ks zs)).toArray) ∧ Below w.heap.size w w' := by
  obtain ⟨w0, hw0⟩ : ∃ w0, w0 = w.alloc (.cells z32 66) := ⟨_, rfl⟩
  have hb0 : Below w.heap.size w w0 := by rw [hw0]; exact (Below.refl _ _).alloc (Nat.le_refl _) _
  have hR0 := arr32_new w [] w0 hw0
  have hl := h.len
  have hz0 : w0.heap.size = w.heap.size + 1 := by rw [hw0]; simp
  have ho := own_empty w0
  have hoe := ho
  rw [hz0] at ho
  have h0 := h.below hb0
  have h20 := h2.below hb0
  have HZ0 := (show Hid _ from hz0)
  clear hz0
  go_enter Tryd.func28, Tryd.ntmps28
  go_wp2_with (at_builtin; go_must (change wpList _ _ _ _ _ ((w.alloc (.cells z32 66)).alloc (.cells #[] 5)); rw [← hw0]; clear hw0; refine app_list rfl _ _ rfl (w.heap.size + 1) _ 0 0 [] rfl ho _ n c ks rfl (h0.below ((Below.refl _ _).alloc (Nat.le_refl _) _)) (by omega) (by have := HZ0.out; simp; omega) ?_))
  intro a1 c1 w1 ho1 hg1
  have ho1' : OwnB w1 w0.heap.size a1 n c1 ks := by rw [HZ0.out]; simpa using ho1
  have hb1 : Below w0.heap.size w0 w1 := ((Below.refl _ _).alloc (Nat.le_refl _) _).trans (by rw [HZ0.out]; exact ho.up hg1 (by have := HZ0.out; simp; omega))
  clear hg1 ho ho1 hoe
  have g64 : (64 : Int) < (n : Int) := by omega
  have hs1 := ho1'.sl (by omega)
  go_wp2_with fail
  refine (rsum_any a1 n c1 ks w1 hs1 (by omega)).mono ?_
  rintro e w2 ⟨rfl, hb2⟩
  have hb02 : Below w0.heap.size w0 w2 := hb1.trans (hb2.mono hb1.size)
  clear ho1' hb1 hb2 hs1
  obtain ⟨ic, hic⟩ : ∃ ic, ic = vals (shaN ks) := ⟨_, rfl⟩
  rw [← hic]
  have hicl : ic.length = 32 := by rw [hic]; simp [vals, shaN_len]
  have hone1 : ∀ u ∈ ic, u.oneCell' = true := by rw [hic]; exact vals_one _
  have hTB := arr32_new w2 [] (w2.alloc (.cells z32 66)) rfl
  have hbB : Below w2.heap.size w2 (w2.alloc (.cells z32 66)) := (Below.refl _ _).alloc (Nat.le_refl _) _
  have hthB : (w2.alloc (.cells z32 66)).there w2.heap.size 0 ic.toArray.size := by rw [show ic.toArray.size = 32 from hicl]; exact hTB.there
  have hi32 : (Tryd.prog.info? 66).map (·.size) = some ic.toArray.size := by rw [show ic.toArray.size = 32 from hicl]; kernel_rfl
  obtain ⟨wq, hwq⟩ : ∃ wq, wq = (w2.alloc (.cells z32 66)).setCells w2.heap.size 0 ic := ⟨_, rfl⟩
  have hIq : Arr8 wq w2.heap.size w2.heap.size 32 (shaN ks) := by
    rw [hwq, hic]
    have := hTB.copied 0 (shaN ks) (shaN_bnd ks) (by rw [shaN_len]; omega)
    rwa [lay_full _ _ (by rw [outL_len, shaN_len])] at this
  have hb2q : Below w2.heap.size w2 wq := by rw [hwq]; exact Below.setCells hbB _ _ _ (Nat.le_refl _)
  have hb0q : Below w0.heap.size w0 wq := hb02.trans (hb2q.mono hb02.size)
  have hsq := (hIq.slB (by omega)).1
  have hoq := own_empty wq
  clear hic hTB hbB hb2q hb02 hIq
  go_wp2_with (first | (refine wpList_store_mid rfl 66 _ _ rfl w2.heap.size 0 ic.toArray rfl rfl hthB hi32 (all_oneCell_toArray hone1) ?_; change wpList _ _ _ _ _ ((w2.alloc (.cells z32 66)).setCells w2.heap.size 0 ic); rw [← hwq]; clear hwq) | (at_builtin; go_must (refine app_list rfl _ _ rfl wq.heap.size _ 0 0 [] rfl hoq _ 32 32 (shaN ks) rfl (hsq.below ((Below.refl _ _).alloc (Nat.le_refl _) _)) (by omega) (by simp) ?_)))
  intro a3 c3 w3 ho3' hg3
  have ho3 : OwnB w3 w0.heap.size a3 32 c3 (shaN ks) := by have := ho3'.base hb0q.size; simpa using this
  have hb3 : Below w0.heap.size w0 w3 := hb0q.trans ((((Below.refl _ _).alloc (Nat.le_refl _) _).trans (hoq.up hg3 (by simp))).mono hb0q.size)
  obtain ⟨L, hL⟩ : ∃ L, L = shaN ks := ⟨_, rfl⟩
  have HLL : Hid (L = if 64 < ks.length then shaN ks else ks) := by show _ = _; rw [if_pos (by omega)]; exact hL
  have hLn : L.length = 32 := by rw [hL]; exact shaN_len _
  have hL64 : L.length ≤ 64 := by omega
  rw [← hL] at ho3
  rw [show (32 : Nat) = L.length from hLn.symm] at ho3
  have HLn := (show Hid _ from hLn)
  clear hL hg3 hoq ho3' hb0q hsq hthB hi32 hone1 hLn
  go_wp2_with fail
  rw [show (32 : Nat) = L.length from HLn.out.symm]
  go_loopw [5] (fun lv wr => ∃ (m : Nat) (a4 : Option Addr) (c4 : Nat), L.length ≤ m ∧ m ≤ 64 ∧ lv = .slice a4 m c4 ∧ OwnB wr w0.heap.size a4 m c4 (L ++ List.replicate (m - L.length) 0) ∧ Below w0.heap.size w0 wr) (fun lv _ => 64 - lenV lv)
  case atStart => exact ⟨L.length, a3, c3, Nat.le_refl _, hL64, rfl, by rw [Nat.sub_self]; simpa using ho3, hb3⟩
  case round =>
    obtain ⟨m, a4, c4, hm1, hm2, rfl, ho4, hb4⟩ := hrel
    clear ho3 hb3
    by_cases hm64 : m < 64
    · have hmi : (m : Int) < 64 := by omega
      have hz4 := hb4.size
      go_wp2_with (at_builtin; go_must (refine app_list rfl _ _ rfl w0.heap.size _ _ c4 _ rfl (ho4.alloc _) _ 1 1 [0] rfl (sl_new wr 5 (0, 0) [0] rfl (by decide) _ rfl) (by omega) (by simp; omega) ?_))
      intro a5 c5 w5 ho5 hg5
      have hb5 : Below w0.heap.size w0 w5 := (hb4.alloc hz4 _).trans ((ho4.alloc _).up hg5 (by simp; omega))
      clear hg5
      go_wp2
      go_roundw
      case rel => exact ⟨m + 1, a5, c5, by omega, by omega, rfl, by rw [show m + 1 - L.length = (m - L.length) + 1 from by omega, List.replicate_succ', ← List.append_assoc]; simpa using ho5, hb5⟩
      case measure => simp [lenV]; omega
    · have em : m = 64 := by omega
      subst em
      have HK : Hid (keyB ks = L ++ List.replicate (64 - L.length) 0) := keyB_eq ks L HLL.out
      rw [← HK.out] at ho4
      obtain ⟨K, hK⟩ : ∃ K, K = keyB ks := ⟨_, rfl⟩
      rw [← hK] at ho4
      have HKK := (show Hid _ from hK)
      have hkl : K.length = 64 := by rw [hK]; exact keyB_len ks
      have hform : ∃ g, a4 = some ⟨g, 0, none⟩ := by
        rcases ho4.own.2 with ⟨_, h00⟩ | ⟨g, cap, cur, hv, _⟩
        · omega
        · injection hv with e1
          exact ⟨g, e1⟩
      obtain ⟨gK, rfl⟩ := hform
      clear hK hm1 hm2
      have hin0 : OwnB ((wr.alloc (.cells #[] 5)).alloc (.cells #[] 5)) w0.heap.size (some ⟨wr.heap.size, 0, none⟩) 0 0 [] := ((own_empty wr).alloc _).base hb4.size
      have hout0 : OwnB ((wr.alloc (.cells #[] 5)).alloc (.cells #[] 5)) w0.heap.size (some ⟨wr.heap.size + 1, 0, none⟩) 0 0 [] := by
        have := own_empty (wr.alloc (.cells #[] 5))
        rw [show (wr.alloc (.cells #[] 5)).heap.size = wr.heap.size + 1 by simp] at this
        exact this.base (by have := hb4.size; omega)
      have hlong0 := (ho4.alloc (.cells #[] 5)).alloc (.cells #[] 5)
      have hgKlt : gK < wr.heap.size := (ho4.own.lt gK rfl).2
      have hb60 : Below w0.heap.size w0 ((wr.alloc (.cells #[] 5)).alloc (.cells #[] 5)) := (hb4.alloc hb4.size _).alloc (by have := hb4.size; simp; omega) _
      have ap1 : Apart (some ⟨wr.heap.size, 0, none⟩) 0 0 (some ⟨wr.heap.size + 1, 0, none⟩) 0 0 := fun g h1 h2 => by simp [Value.ownBlock] at h1 h2; omega
      have ap2 : Apart (some ⟨wr.heap.size, 0, none⟩) 0 0 (some ⟨gK, 0, none⟩) 64 c4 := fun g h1 h2 => by simp [Value.ownBlock] at h1 h2; omega
      have ap3 : Apart (some ⟨wr.heap.size + 1, 0, none⟩) 0 0 (some ⟨gK, 0, none⟩) 64 c4 := fun g h1 h2 => by simp [Value.ownBlock] at h1 h2; omega
      clear ho4 hb4
      go_wp2_with fail
      obtain ⟨wA, hwA⟩ : ∃ wA, wA = wr := ⟨_, rfl⟩
      subst hwA
      go_loopw [7, 8, 9] (fun vi vo iv wr => ∃ (i : Nat) (ai : Option Addr) (ci : Nat) (ao : Option Addr) (co : Nat), i ≤ 64 ∧ iv = .int .i64 i ∧ vi = .slice ai i ci ∧ vo = .slice ao i co ∧ OwnB wr w0.heap.size ai i ci ((K.take i).map (· ^^^ 54)) ∧ OwnB wr w0.heap.size ao i co ((K.take i).map (· ^^^ 92)) ∧ OwnB wr w0.heap.size (some ⟨gK, 0, none⟩) 64 c4 K ∧ Apart ai i ci ao i co ∧ Apart ai i ci (some ⟨gK, 0, none⟩) 64 c4 ∧ Apart ao i co (some ⟨gK, 0, none⟩) 64 c4 ∧ Below w0.heap.size w0 wr) (fun _ _ iv _ => 64 - (intOf iv).toNat)
      case atStart => exact ⟨0, _, 0, _, 0, by omega, rfl, rfl, rfl, hin0, hout0, hlong0, ap1, ap2, ap3, hb60⟩
      case round =>
        obtain ⟨i, ai, ci, ao, co, hi, rfl, rfl, rfl, hin, hout, hlong, q1, q2, q3, hb6⟩ := hrel
        clear hin0 hout0 hlong0 ap1 ap2 ap3 hb60
        by_cases hi64 : i < 64
        · have hc := hlong.cell i hi64
          have hxb := hlong.bnd i
          have HT : Hid (K.take (i + 1) = K.take i ++ [K.getD i 0]) := take_snocN K i (by omega)
          generalize K.getD i 0 = x at *
          have hx1 := u8_xor_nat x 54 hxb (by omega)
          have hx2 := u8_xor_nat x 92 hxb (by omega)
          rw [show ((54 : Nat) : Int) = 54 from rfl] at hx1
          rw [show ((92 : Nat) : Int) = 92 from rfl] at hx2
          have hl1 := xor_lt8 x 54 hxb (by omega)
          have hl2 := xor_lt8 x 92 hxb (by omega)
          have HA1 : Hid ((K.take (i + 1)).map (· ^^^ 54) = (K.take i).map (· ^^^ 54) ++ [x ^^^ 54]) := by show _ = _; rw [HT.out]; simp
          have HA2 : Hid ((K.take (i + 1)).map (· ^^^ 92) = (K.take i).map (· ^^^ 92) ++ [x ^^^ 92]) := by show _ = _; rw [HT.out]; simp
          generalize x ^^^ 54 = y1 at *
          generalize x ^^^ 92 = y2 at *
          have hii : (i : Int) < 64 := by omega
          have hz6 := hb6.size
          go_wp2_with (at_builtin; go_must (refine app_list2 rfl _ _ rfl w0.heap.size ai i ci _ rfl (hin.alloc _) _ 1 1 [y1] rfl (sl_one wr 5 _ y1 (by first | rfl | exact hx1) hl1) (by omega) (by simp; omega) ?_))
          intro aj cj w7 hin7 hg7 hn7
          have hout7 := (hout.alloc (.cells #[.int .u8 (y1 : Nat)] 5)).kept hg7 q1.keep
          have hlong7 := (hlong.alloc (.cells #[.int .u8 (y1 : Nat)] 5)).kept hg7 q2.keep
          have r1 : Apart aj (i + 1) cj ao i co := q1.next hout (by simp) hn7
          have r2 : Apart aj (i + 1) cj (some ⟨gK, 0, none⟩) 64 c4 := q2.next hlong (by simp) hn7
          have hb7 : Below w0.heap.size w0 w7 := (hb6.alloc hz6 _).trans ((hin.alloc _).up hg7 (by simp; omega))
          have hc7 := hlong7.cell i hi64
          have HC : Hid (K.getD i 0 = x) := by
            show _ = _
            have h1 := hlong.cell i hi64
            rw [hc] at h1
            injection h1 with h1
            injection h1 with _ h1
            omega
          rw [HC.out] at hc7
          have hz7 := hb7.size
          clear hg7 hn7 hin hout hlong q1 q2 hb6 hc
          go_wp2_with (at_builtin; go_must (refine app_list2 rfl _ _ rfl w0.heap.size ao i co _ rfl (hout7.alloc _) _ 1 1 [y2] rfl (sl_one w7 5 _ y2 (by first | rfl | exact hx2) hl2) (by omega) (by simp; omega) ?_))
          intro ap cp w8 hout8 hg8 hn8
          have hin8 := (hin7.alloc (.cells #[.int .u8 (y2 : Nat)] 5)).kept hg8 r1.symm.keep
          have hlong8 := (hlong7.alloc (.cells #[.int .u8 (y2 : Nat)] 5)).kept hg8 q3.keep
          have s1 : Apart ap (i + 1) cp aj (i + 1) cj := r1.symm.next hin7 (by simp) hn8
          have s3 : Apart ap (i + 1) cp (some ⟨gK, 0, none⟩) 64 c4 := q3.next hlong7 (by simp) hn8
          have hb8 : Below w0.heap.size w0 w8 := (hb7.alloc hz7 _).trans ((hout7.alloc _).up hg8 (by simp; omega))
          clear hg8 hn8 hout7 hlong7 hc7
          go_wp2
          go_roundw
          case rel => exact ⟨i + 1, aj, cj, ap, cp, by omega, by go_num, rfl, rfl, by rw [HA1.out, List.map_take]; exact hin8, by rw [HA2.out, List.map_take]; exact hout8, hlong8, s1.symm, r2, s3, hb8⟩
          case measure => simp [intOf]; omega
        · have ei : i = 64 := by omega
          subst ei
          have HT : Hid (K.take 64 = K) := by show _ = _; rw [← hkl]; exact List.take_length
          rw [HT.out] at hin hout
          have h26 := h20.below hb6
          clear hi hi64 q2 q3 hlong
          have hz6 := hb6.size
          obtain ⟨I, hI⟩ : ∃ I, I = K.map (· ^^^ 54) := ⟨_, rfl⟩
          obtain ⟨O, hO⟩ : ∃ O, O = K.map (· ^^^ 92) := ⟨_, rfl⟩
          rw [← hI] at hin
          rw [← hO] at hout
          have hol : O.length = 64 := hout.len
          have HMAC : Hid (macN ks zs = shaN (O ++ shaN (I ++ zs))) := by show _ = _; rw [hO, hI, HKK.out]; rfl
          clear hI hO
          go_wp2_with (at_builtin; go_must (refine app_list rfl _ _ rfl w0.heap.size ai 64 ci I rfl hin _ n2 c2 zs rfl h26 (by omega) hz6 ?_))
          intro a7 c7 w7 ho7 hg7
          have hout7 := hout.kept hg7 q1.keep
          have hb7 : Below w0.heap.size w0 w7 := hb6.trans (hin.up hg7 hz6)
          have hs7 := ho7.sl (by omega)
          clear hg7 ho7 hin hout q1 hb6 h26
          go_wp2_with fail
          refine (rsum_any a7 (64 + n2) c7 (I ++ zs) w7 hs7 (by omega)).mono ?_
          rintro e w8 ⟨rfl, hb78⟩
          have hout8 := hout7.below hb78
          have hb8 : Below w0.heap.size w0 w8 := hb7.trans (hb78.mono hb7.size)
          clear hout7 hb7 hb78 hs7
          obtain ⟨J, hJ⟩ : ∃ J, J = shaN (I ++ zs) := ⟨_, rfl⟩
          have hJl : J.length = 32 := by rw [hJ]; exact shaN_len _
          have hJb : ∀ i, J.getD i 0 < 256 := by rw [hJ]; exact shaN_bnd _
          rw [← hJ] at HMAC ⊢
          clear hJ
          obtain ⟨jc, hjc⟩ : ∃ jc, jc = vals J := ⟨_, rfl⟩
          rw [← hjc]
          have hjcl : jc.length = 32 := by rw [hjc]; simp [vals, hJl]
          have hone2 : ∀ u ∈ jc, u.oneCell' = true := by rw [hjc]; exact vals_one _
          have hTB := arr32_new w8 [] (w8.alloc (.cells z32 66)) rfl
          have hbB : Below w8.heap.size w8 (w8.alloc (.cells z32 66)) := (Below.refl _ _).alloc (Nat.le_refl _) _
          have hthB : (w8.alloc (.cells z32 66)).there w8.heap.size 0 jc.toArray.size := by rw [show jc.toArray.size = 32 from hjcl]; exact hTB.there
          have hi32 : (Tryd.prog.info? 66).map (·.size) = some jc.toArray.size := by rw [show jc.toArray.size = 32 from hjcl]; kernel_rfl
          obtain ⟨w9, hw9⟩ : ∃ w9, w9 = (w8.alloc (.cells z32 66)).setCells w8.heap.size 0 jc := ⟨_, rfl⟩
          have hI9 : Arr8 w9 w8.heap.size w8.heap.size 32 J := by
            rw [hw9, hjc]
            have := hTB.copied 0 J hJb (by rw [hJl]; omega)
            rwa [lay_full _ _ (by rw [outL_len, hJl])] at this
          have hb89 : Below w8.heap.size w8 w9 := by rw [hw9]; exact Below.setCells hbB _ _ _ (Nat.le_refl _)
          have hout9 := hout8.below hb89
          have hb9 : Below w0.heap.size w0 w9 := hb8.trans (hb89.mono hb8.size)
          have hs9 := (hI9.slB (by omega)).1
          have hz9 := hb9.size
          clear hjc hTB hbB hb89 hout8 hb8 hI9
          go_wp2_with (first | (refine wpList_store_mid rfl 66 _ _ rfl w8.heap.size 0 jc.toArray rfl rfl hthB hi32 (all_oneCell_toArray hone2) ?_; change wpList _ _ _ _ _ ((w8.alloc (.cells z32 66)).setCells w8.heap.size 0 jc); rw [← hw9]; clear hw9) | (at_builtin; go_must (refine app_list rfl _ _ rfl w0.heap.size ao 64 co O rfl hout9 _ 32 32 J rfl hs9 (by omega) hz9 ?_)))
          intro aa ca wa hoa hga
          have hba : Below w0.heap.size w0 wa := hb9.trans (hout9.up hga hz9)
          have hsa := hoa.sl (by omega)
          clear hga hoa hout9 hb9 hs9
          go_wp2_with fail
          refine (rsum_any aa (64 + 32) ca (O ++ J) wa hsa (by omega)).mono ?_
          rintro e wb ⟨rfl, hbab⟩
          have hbb : Below w0.heap.size w0 wb := hba.trans (hbab.mono hba.size)
          have hRb := hR0.below hbb
          have hbel : Below w.heap.size w wb := hb0.trans (hbb.mono hb0.size)
          rw [← HMAC.out]
          obtain ⟨cs, hcs⟩ : ∃ cs, cs = vals (macN ks zs) := ⟨_, rfl⟩
          have hcl : cs.length = 32 := by rw [hcs]; simp [vals, macN, shaN_len]
          have hone3 : ∀ u ∈ cs, u.oneCell' = true := by rw [hcs]; exact vals_one _
          have HCS : Hid (cs = vals (macN ks zs)) := hcs
          rw [← hcs]
          have hth := hRb.there
          have hi64 : (Tryd.prog.info? 66).map (·.size) = some cs.length := by rw [hcl]; kernel_rfl
          have hi642 : (Tryd.prog.info? 66).map (·.size) = some cs.toArray.size := hi64
          have hth2 : wb.there w.heap.size 0 cs.toArray.size := by rw [show cs.toArray.size = 32 from hcl]; exact hth
          have hrg2 : (wb.setCells w.heap.size 0 cs).rangeAt w.heap.size 0 cs := World.rangeAt_setCells_same _ _ _ _ (by rw [hcl]; exact hth)
          have HBF : Hid (Below w.heap.size w (wb.setCells w.heap.size 0 cs)) := Below.setCells hbel _ _ _ (Nat.le_refl _)
          clear hcs hRb hbel hbb hba hbab hsa hth
          go_wp2_with (refine wpList_store_mid rfl 66 _ _ rfl w.heap.size 0 cs.toArray rfl rfl hth2 hi642 (all_oneCell_toArray hone3) ?_)
          try simp only [Exit.inBlock, Exit.then]
          refine bodyPost_ret (results_cell_mid rfl _ _ w.heap.size 0 cs _ rfl hrg2 Tryd.underlying66 rfl hi64) rfl ?_
          exact ⟨by rw [HCS.out], HBF.out⟩
theorem rmac_any (a : Option Addr) (n c : Nat) (ks : List Nat) (a2 : Option Addr) (n2 c2 : Nat) (zs : List Nat) (w : World) (h : Sl w a n c ks) (h2 : Sl w a2 n2 c2 zs) (hn : n ≤ 140737488355000) (hn2 : n2 ≤ 140737488355000) :
    Calls Tryd.prog 28 #[.slice a n c, .slice a2 n2 c2] w fun e w' => e = .returned (.agg (vals (macN ks zs)).toArray) ∧ Below w.heap.size w w' := by
  by_cases h64 : 64 < n
  · exact rmac_long a n c ks a2 n2 c2 zs w h h2 hn hn2 h64
  · exact rmac_short a n c ks a2 n2 c2 zs w h h2 hn hn2 (by omega)
end Go.Proofs.YtmikhnaffhheoaaDoor
