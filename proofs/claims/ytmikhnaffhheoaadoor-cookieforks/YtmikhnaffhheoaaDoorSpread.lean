/- What hash.spread answers: the 64 words of a block. -/
import Derived.Test.YtmikhnaffhheoaaDoorRot
import Derived.Test.YtmikhnaffhheoaaDoorNum
import Derived.Deep.QuietTactic
import Derived.BigQuiet
import Derived.Deep.MidRow
namespace Go.Proofs.YtmikhnaffhheoaaDoor
open Go.RowKit
/-- A block of 64 bytes as it lies in a world. -/
structure Blk (w : World) (p o : Nat) (b : List Nat) : Prop where
  len : b.length = 64
  bnd : ∀ i, b.getD i 0 < 256
  lt : p < w.heap.size
  cell : ∀ i, i < 64 → w.cell? ⟨p, o + i, none⟩ = some (.int .u8 (b.getD i 0 : Nat))
theorem Blk.sl {w : World} {p o : Nat} {b : List Nat} (h : Blk w p o b) : Sl w (some ⟨p, o, none⟩) 64 64 b :=
  ⟨h.len, Nat.le_refl _, by unfold maxLen; omega, by omega, fun e => (by cases e), h.bnd, .inr ⟨p, o, rfl, h.lt, h.cell⟩⟩
theorem Blk.below {w w' : World} {p o : Nat} {b : List Nat} (h : Blk w p o b) (hb : Below w.heap.size w w') : Blk w' p o b :=
  ⟨h.len, h.bnd, Nat.lt_of_lt_of_le h.lt hb.size, fun i hi => (hb.cell (p := ⟨p, o + i, none⟩) h.lt).trans (h.cell i hi)⟩
/-- An array of 64 words of the call's own. -/
structure Wds (w : World) (B tb : Nat) (ws : List Nat) : Prop where
  base : B ≤ tb
  lt : tb < w.heap.size
  len : ws.length = 64
  bnd : ∀ i, ws.getD i 0 < 4294967296
  cell : ∀ i, i < 64 → w.cell? ⟨tb, i, none⟩ = some (.int .u32 (ws.getD i 0 : Nat))
  free : ∀ i, w.frozen? ⟨tb, i, none⟩ = false
theorem Wds.store {w : World} {B tb : Nat} {ws : List Nat} (h : Wds w B tb ws) (i x : Nat) (hi : i < 64) (hx : x < 4294967296) : Wds (w.setCell ⟨tb, i, none⟩ (.int .u32 (x : Nat))) B tb (ws.set i x) := by
  have hl := h.len
  have hg : ∀ j, (ws.set i x).getD j 0 = if j = i then x else ws.getD j 0 := by
    intro j
    by_cases e : j = i
    · subst e; simp [List.getD_eq_getElem?_getD, hl, hi]
    · rw [if_neg e]; simp [List.getD_eq_getElem?_getD, List.getElem?_set_ne (Ne.symm e)]
  refine ⟨h.base, by simp [World.setCell]; exact h.lt, by simp [hl], fun j => ?_, fun j hj => ?_, fun j => by rw [World.frozen?_setCell]; exact h.free j⟩
  · rw [hg]; split
    · exact hx
    · exact h.bnd j
  · rw [hg]
    by_cases e : j = i
    · subst e
      rw [if_pos rfl]
      exact World.cell?_setCell_same' _ _ _ (by rw [h.cell j hi]; rfl)
    · rw [if_neg e, World.cell?_setCell_other _ _ _ _ (by intro e2; injection e2 with _ e3; omega)]
      exact h.cell j hj
theorem Wds.below {w w' : World} {B tb : Nat} {ws : List Nat} (h : Wds w B tb ws) (hb : Below w.heap.size w w') : Wds w' B tb ws :=
  ⟨h.base, Nat.lt_of_lt_of_le h.lt hb.size, h.len, h.bnd, fun i hi => (hb.cell (p := ⟨tb, i, none⟩) h.lt).trans (h.cell i hi), fun i => (hb.frozen (p := ⟨tb, i, none⟩) h.lt).trans (h.free i)⟩
theorem Wds.apart {w : World} {B tb : Nat} {ws : List Nat} (h : Wds w B tb ws) {g i : Nat} (hg : g ≠ tb) (v : Value) : Wds (w.setCell ⟨g, i, none⟩ v) B tb ws :=
  ⟨h.base, by simp [World.setCell]; exact h.lt, h.len, h.bnd, fun j hj => by rw [World.cell?_setCell_other _ _ _ _ (by intro e2; injection e2 with e3; omega)]; exact h.cell j hj, fun j => by rw [World.frozen?_setCell]; exact h.free j⟩
def z64 : Array Value := #[.int .u32 0, .int .u32 0, .int .u32 0, .int .u32 0, .int .u32 0, .int .u32 0, .int .u32 0, .int .u32 0, .int .u32 0, .int .u32 0, .int .u32 0, .int .u32 0, .int .u32 0, .int .u32 0, .int .u32 0, .int .u32 0, .int .u32 0, .int .u32 0, .int .u32 0, .int .u32 0, .int .u32 0, .int .u32 0, .int .u32 0, .int .u32 0, .int .u32 0, .int .u32 0, .int .u32 0, .int .u32 0, .int .u32 0, .int .u32 0, .int .u32 0, .int .u32 0, .int .u32 0, .int .u32 0, .int .u32 0, .int .u32 0, .int .u32 0, .int .u32 0, .int .u32 0, .int .u32 0, .int .u32 0, .int .u32 0, .int .u32 0, .int .u32 0, .int .u32 0, .int .u32 0, .int .u32 0, .int .u32 0, .int .u32 0, .int .u32 0, .int .u32 0, .int .u32 0, .int .u32 0, .int .u32 0, .int .u32 0, .int .u32 0, .int .u32 0, .int .u32 0, .int .u32 0, .int .u32 0, .int .u32 0, .int .u32 0, .int .u32 0, .int .u32 0]
theorem z64_rep : z64 = Array.replicate 64 (.int .u32 0) := by kernel_rfl
theorem z64_at (i : Nat) (hi : i < 64) : z64[i]? = some (.int .u32 0) := by rw [z64_rep]; simp [hi]
theorem results_cell_mid {fn : Func} {p : Tmp} {ty : TypeId} (h : fn.results = #[.cell p ty]) (tmps : Array Value) (w : World) (g o : Nat) (cs : List Value) (d : TypeDesc)
    (hp : tmps.getD p undef = .pointer (some ⟨g, o, none⟩)) (hc : w.rangeAt g o cs) (hu : Tryd.prog.underlying ty = some d) (hd : d.isRow = true) (hi : (Tryd.prog.info? ty).map (·.size) = some cs.length) :
    (results fn tmps).run Tryd.prog w = .ok (.agg cs.toArray) w := by
  have hp' : tmps[p]?.getD undef = .pointer (some ⟨g, o, none⟩) := by simpa using hp
  simp [results, h, hp', asAddr, run_loadVar_mid w g o ty cs d hc hu hd hi]
def wordsV (ws : List Nat) : List Value := ws.map fun z => Value.int .u32 (z : Nat)
theorem words_one (ws : List Nat) : ∀ v ∈ wordsV ws, v.oneCell' = true := by
  intro v hv
  obtain ⟨z, _, rfl⟩ := List.mem_map.1 hv
  rfl
theorem Wds.range {w : World} {B tb : Nat} {ws : List Nat} (h : Wds w B tb ws) : w.rangeAt tb 0 (wordsV ws) := by
  intro j v hv
  have hj : j < ws.length := by have := (List.getElem?_eq_some_iff.1 hv).1; simpa [wordsV] using this
  rw [Nat.zero_add, h.cell j (by rw [← h.len]; exact hj), ← hv]
  simp [wordsV, List.getD_eq_getElem?_getD, hj]
theorem Wds.there {w : World} {B tb : Nat} {ws : List Nat} (h : Wds w B tb ws) : w.there tb 0 64 := by
  intro j hj
  rw [Nat.zero_add]
  exact ⟨by rw [h.cell j hj]; rfl, h.free j⟩
theorem Wds.celen {w : World} {B tb : Nat} {ws : List Nat} (h : Wds w B tb ws) : (wordsV ws).length = 64 := by simp [wordsV, h.len]
theorem Below.setCells {B : Nat} {a w : World} (h : Below B a w) (b : Nat) : ∀ (vs : List Value) (o : Nat), B ≤ b → Below B a (w.setCells b o vs) := by
  intro vs
  induction vs generalizing w with
  | nil => intro o _; exact h
  | cons v t ih => intro o hb; exact ih (h.setCell (p := ⟨b, o, none⟩) hb v) (o + 1) hb
/-- The first k words are there, the others are 0. -/
def wsAt (b : List Nat) (k : Nat) : List Nat := schedTo b k ++ List.replicate (64 - k) 0
theorem wsAt_step (b : List Nat) (k : Nat) (hk : k < 64) : (wsAt b k).set k (if k < 16 then be4 b k else nextW (schedTo b k) k) = wsAt b (k + 1) := by
  unfold wsAt
  have hl := schedTo_len b k
  rw [List.set_append, if_neg (by omega), hl, Nat.sub_self, show 64 - k = (64 - (k + 1)) + 1 from by omega, List.replicate_succ, List.set_cons_zero]
  simp [schedTo]
theorem wsAt_get (b : List Nat) (k j : Nat) (hj : j < k) : (wsAt b k).getD j 0 = (schedTo b k).getD j 0 := by
  unfold wsAt
  have hl := schedTo_len b k
  simp [List.getD_eq_getElem?_getD, List.getElem?_append_left (show j < (schedTo b k).length by omega)]
theorem wsAt_next (b : List Nat) (t : Nat) (ht : t < 48) : wsAt b (t + 16 + 1) = (wsAt b (t + 16)).set (t + 16) (((wsAt b (t + 16)).getD t 0 + s0N ((wsAt b (t + 16)).getD (t + 1) 0) + (wsAt b (t + 16)).getD (t + 9) 0 + s1N ((wsAt b (t + 16)).getD (t + 14) 0)) % 4294967296) := by
  have h := wsAt_step b (t + 16) (by omega)
  rw [if_neg (by omega)] at h
  have hN : nextW (schedTo b (t + 16)) (t + 16) = ((wsAt b (t + 16)).getD t 0 + s0N ((wsAt b (t + 16)).getD (t + 1) 0) + (wsAt b (t + 16)).getD (t + 9) 0 + s1N ((wsAt b (t + 16)).getD (t + 14) 0)) % 4294967296 := by
    have e1 := wsAt_get b (t + 16) t (by omega)
    have e2 := wsAt_get b (t + 16) (t + 1) (by omega)
    have e3 := wsAt_get b (t + 16) (t + 9) (by omega)
    have e4 := wsAt_get b (t + 16) (t + 14) (by omega)
    generalize (wsAt b (t + 16)) = L at *
    generalize (schedTo b (t + 16)) = K at *
    unfold nextW
    rw [show t + 16 - 16 = t from by omega, show t + 16 - 15 = t + 1 from by omega, show t + 16 - 7 = t + 9 from by omega, show t + 16 - 2 = t + 14 from by omega, e1, e2, e3, e4]
  rw [← h, hN]
theorem wsAt_64 (b : List Nat) : wsAt b 64 = schedTo b 64 := by unfold wsAt; simp
theorem be4_num (b : List Nat) (hl : b.length = 64) (i : Nat) (hi : i < 16) : numV b ((i : Int) * 4) 4 = be4 b i := by
  have hp : ((i : Int) * 4).toNat = 4 * i := by omega
  have he : nspanE b.length ((i : Int) * 4) 4 = 0 := by
    rw [hl]; unfold nspanE spanE
    rw [if_neg (by omega)]
    split
    · omega
    · split <;> omega
  unfold numV
  rw [if_pos he, hp]
  have hg : ∀ j, b.getD (4 * i + j) 0 = (b.drop (4 * i)).getD j 0 := fun j => by simp [List.getD_eq_getElem?_getD]
  have hdl : (b.drop (4 * i)).length = 64 - 4 * i := by simp [hl]
  unfold be4
  have h0 := hg 0
  rw [Nat.add_zero] at h0
  rw [h0, hg 1, hg 2, hg 3]
  generalize b.drop (4 * i) = l at *
  match l, hdl with
  | x0 :: x1 :: x2 :: x3 :: t, _ =>
    show numB [x0, x1, x2, x3] = _
    simp [numB]
    omega
  | [], h => simp at h; omega
  | [_], h => simp at h; omega
  | [_, _], h => simp at h; omega
  | [_, _, _], h => simp at h; omega
theorem be4_lt (b : List Nat) (hb : ∀ i, b.getD i 0 < 256) (i : Nat) : be4 b i < 4294967296 := by
  have h0 := hb (4 * i)
  have h1 := hb (4 * i + 1)
  have h2 := hb (4 * i + 2)
  have h3 := hb (4 * i + 3)
  unfold be4
  omega
theorem wds_new (w : World) (b : List Nat) (W : World) (hW : W = w.alloc (.cells z64 109)) : Wds W w.heap.size w.heap.size (wsAt b 0) := by
  have hcell : ∀ i, W.cell? ⟨w.heap.size, i, none⟩ = z64[i]? := fun i => by rw [hW, World.cell?_alloc_mark]
  have hfree : ∀ i, W.frozen? ⟨w.heap.size, i, none⟩ = false := by
    intro i
    have hh : W.heap[w.heap.size]? = some (.cells z64 109) := by
      rw [hW]
      show (w.heap.push _)[w.heap.size]? = _
      simp
    unfold World.frozen?
    dsimp only
    rw [hh]
    simp
  have hz : ∀ i, (wsAt b 0).getD i 0 = 0 := fun i => by
    show ([] ++ List.replicate (64 - 0) 0).getD i 0 = 0
    rw [List.nil_append, List.getD_eq_getElem?_getD, List.getElem?_replicate]
    split <;> rfl
  refine ⟨Nat.le_refl _, by rw [hW]; simp, by simp [wsAt, schedTo], fun i => by rw [hz]; omega, fun i hi => ?_, hfree⟩
  rw [hcell, hz, z64_at i hi]; rfl
set_option maxRecDepth 100000 in
set_option maxHeartbeats 4000000 in
theorem spread_any (p o : Nat) (b : List Nat) (w : World) (h : Blk w p o b) :
    Calls Tryd.prog 62 #[.pointer (some ⟨p, o, none⟩)] w fun e w' => e = .returned (.agg (wordsV (schedTo b 64)).toArray) ∧ Below w.heap.size w w' := by
  go_enter Tryd.func62, Tryd.ntmps62
  go_wp2_with fail
  obtain ⟨w0, hw0⟩ : ∃ w0, w0 = w.alloc (.cells z64 109) := ⟨_, rfl⟩
  obtain ⟨W, hW⟩ : ∃ W, W = w0.alloc (.cells z64 109) := ⟨_, rfl⟩
  have hb0 : Below w.heap.size w w0 := by rw [hw0]; exact (Below.refl _ _).alloc (Nat.le_refl _) _
  have hbW0 : Below w0.heap.size w0 W := by rw [hW]; exact (Below.refl _ _).alloc (Nat.le_refl _) _
  have hbW : Below w.heap.size w W := hb0.trans (hbW0.mono hb0.size)
  have hz0 : w0.heap.size = w.heap.size + 1 := by rw [hw0]; simp
  have hT0 := wds_new w0 b W hW
  have hR0 : Wds W w.heap.size w.heap.size (wsAt b 0) := ((wds_new w b w0 hw0).below hbW0)
  have hsl0 := h.sl
  have hs0 := h.sl.below hbW
  have hbn := h.bnd
  have hbl := h.len
  change Code.wp _ _ _ _ ((w.alloc (.cells z64 109)).alloc (.cells z64 109))
  rw [← hw0, ← hW]
  rw [hz0] at hT0
  have hrz : w.heap.size < W.heap.size := hR0.lt
  clear hW hw0 hb0 hbW0 hz0 h
  go_loopw [14] (fun iv wr => ∃ i : Nat, i ≤ 16 ∧ iv = .int .i64 i ∧ Wds wr (w.heap.size + 1) (w.heap.size + 1) (wsAt b i) ∧ Wds wr w.heap.size w.heap.size (wsAt b 0) ∧ Below w.heap.size w wr) (fun iv _ => 16 - (intOf iv).toNat)
  case atStart => exact ⟨0, by omega, rfl, hT0, hR0, hbW⟩
  case round =>
    obtain ⟨i, hi, rfl, hT, hR, hbel⟩ := hrel
    clear hT0 hR0 hbW hs0
    have hsl := hsl0.below hbel
    by_cases hi16 : i < 16
    · have hn := num_any (some ⟨p, o, none⟩) 64 64 b ((i : Int) * 4) 4 wr hsl
      rw [be4_num b hbl i hi16] at hn
      have hlt := be4_lt b hbn i
      have hST : wsAt b (i + 1) = (wsAt b i).set i (be4 b i) := by have := wsAt_step b i (by omega); rw [if_pos hi16] at this; exact this.symm
      have HT2 := (show Hid _ from hT.store i (be4 b i) (by omega) hlt)
      rw [← hST] at HT2
      have hci := hT.cell i (by omega)
      have hfi := hT.free i
      generalize be4 b i = v at *
      have hvm : (v : Int) % 4294967296 = (v : Int) := by omega
      have hi1 : (i : Int) < 16 := by omega
      have hmul : IntKind.i64.wrap ((i : Int) * 4) = (i : Int) * 4 := by rw [IntKind.wrap_i64]; omega
      go_wp2_with fail
      refine hn.mono ?_
      rintro e w' ⟨rfl, rfl⟩
      have HR2 : Hid (Wds (w'.setCell ⟨w.heap.size + 1, i, none⟩ (.int .u32 (v : Nat))) w.heap.size w.heap.size (wsAt b 0)) := hR.apart (by omega) _
      have HB2 : Hid (Below w.heap.size w (w'.setCell ⟨w.heap.size + 1, i, none⟩ (.int .u32 (v : Nat)))) := hbel.setCell (p := ⟨w.heap.size + 1, i, none⟩) (by show w.heap.size ≤ w.heap.size + 1; omega) _
      clear hT hR hbel hsl hn
      go_wp2
      go_roundw
      case rel => exact ⟨i + 1, by omega, by go_num, HT2.out, HR2.out, HB2.out⟩
      case measure => simp [intOf]; omega
    · have e16 : i = 16 := by omega
      have hi1 : ¬ (i : Int) < 16 := by omega
      rw [e16] at hT
      clear hsl e16
      go_wp2
      go_loopw [8] (fun iv wr => ∃ t : Nat, t ≤ 48 ∧ iv = .int .i64 ((t : Int) + 16) ∧ Wds wr (w.heap.size + 1) (w.heap.size + 1) (wsAt b (t + 16)) ∧ Wds wr w.heap.size w.heap.size (wsAt b 0) ∧ Below w.heap.size w wr) (fun iv _ => 64 - (intOf iv).toNat)
      case atStart => exact ⟨0, by omega, rfl, hT, hR, hbel⟩
      case round =>
        obtain ⟨t, ht, rfl, hT2, hR2, hbel2⟩ := hrel
        clear hT hR hbel
        by_cases ht48 : t < 48
        · have hc1 := hT2.cell (t + 1) (by omega)
          have hc2 := hT2.cell (t + 14) (by omega)
          have hc3 := hT2.cell t (by omega)
          have hc4 := hT2.cell (t + 9) (by omega)
          have hc5 := hT2.cell (t + 16) (by omega)
          have hf5 := hT2.free (t + 16)
          have hb1 := hT2.bnd (t + 1)
          have hb2 := hT2.bnd (t + 14)
          have hb3 := hT2.bnd t
          have hb4 := hT2.bnd (t + 9)
          have hST := wsAt_next b t ht48
          obtain ⟨P, hP⟩ : ∃ P, P = (wsAt b (t + 16)).getD t 0 := ⟨_, rfl⟩
          rw [← hP] at hST hc3 hb3
          have HP := (show Hid _ from hP)
          clear hP
          obtain ⟨X, hX⟩ : ∃ X, X = (wsAt b (t + 16)).getD (t + 1) 0 := ⟨_, rfl⟩
          rw [← hX] at hST hc1 hb1
          have HX := (show Hid _ from hX)
          clear hX
          obtain ⟨Q, hQ⟩ : ∃ Q, Q = (wsAt b (t + 16)).getD (t + 9) 0 := ⟨_, rfl⟩
          rw [← hQ] at hST hc4 hb4
          have HQ := (show Hid _ from hQ)
          clear hQ
          obtain ⟨Y, hY⟩ : ∃ Y, Y = (wsAt b (t + 16)).getD (t + 14) 0 := ⟨_, rfl⟩
          rw [← hY] at hST hc2 hb2
          have HY := (show Hid _ from hY)
          clear hY
          have hr1 : ∀ w, Calls Tryd.prog 63 #[.int .u32 (X : Nat), .int .i64 7] w fun e w' => e = .returned (.int .u32 (rotN X 7 : Nat)) ∧ w' = w := fun w => turned_any X 7 w hb1 (by omega) (by omega)
          have hr2 : ∀ w, Calls Tryd.prog 63 #[.int .u32 (X : Nat), .int .i64 18] w fun e w' => e = .returned (.int .u32 (rotN X 18 : Nat)) ∧ w' = w := fun w => turned_any X 18 w hb1 (by omega) (by omega)
          have hr3 : ∀ w, Calls Tryd.prog 63 #[.int .u32 (Y : Nat), .int .i64 17] w fun e w' => e = .returned (.int .u32 (rotN Y 17 : Nat)) ∧ w' = w := fun w => turned_any Y 17 w hb2 (by omega) (by omega)
          have hr4 : ∀ w, Calls Tryd.prog 63 #[.int .u32 (Y : Nat), .int .i64 19] w fun e w' => e = .returned (.int .u32 (rotN Y 19 : Nat)) ∧ w' = w := fun w => turned_any Y 19 w hb2 (by omega) (by omega)
          have hE1 := u32_xor_nat (rotN X 7) (rotN X 18) (rotN_lt _ _ hb1) (rotN_lt _ _ hb1)
          have hE2 := u32_xor_nat (rotN X 7 ^^^ rotN X 18) (X / 8) (xor_lt32 _ _ (rotN_lt _ _ hb1) (rotN_lt _ _ hb1)) (by omega)
          have hE3 := u32_xor_nat (rotN Y 17) (rotN Y 19) (rotN_lt _ _ hb2) (rotN_lt _ _ hb2)
          have hE4 := u32_xor_nat (rotN Y 17 ^^^ rotN Y 19) (Y / 1024) (xor_lt32 _ _ (rotN_lt _ _ hb2) (rotN_lt _ _ hb2)) (by omega)
          have h8 : X / 8 = X >>> 3 := by rw [Nat.shiftRight_eq_div_pow]
          have h10 : Y / 1024 = Y >>> 10 := by rw [Nat.shiftRight_eq_div_pow]
          have hS0 : (rotN X 7 ^^^ rotN X 18) ^^^ (X / 8) = s0N X := by rw [h8]; rfl
          have hS1 : (rotN Y 17 ^^^ rotN Y 19) ^^^ (Y / 1024) = s1N Y := by rw [h10]; rfl
          have hl0 := s0N_lt X hb1
          have hl1 := s1N_lt Y hb2
          rw [hS0] at hE2
          rw [hS1] at hE4
          clear h8 h10 hS0 hS1
          generalize rotN X 7 ^^^ rotN X 18 = E1 at *
          generalize rotN Y 17 ^^^ rotN Y 19 = E3 at *
          generalize rotN X 7 = A1 at *
          generalize rotN X 18 = A2 at *
          generalize rotN Y 17 = A3 at *
          generalize rotN Y 19 = A4 at *
          generalize s0N X = S0 at *
          generalize s1N Y = S1 at *
          rw [show ((X / 8 : Nat) : Int) = (X : Int) / 8 from by omega] at hE2
          rw [show ((Y / 1024 : Nat) : Int) = (Y : Int) / 1024 from by omega] at hE4
          have ht1 : (t : Int) + 16 < 64 := by omega
          obtain ⟨N, hN⟩ : ∃ N, N = (P + S0 + Q + S1) % 4294967296 := ⟨_, rfl⟩
          rw [← hN] at hST
          have HN := (show Hid _ from hN)
          have HST := (show Hid _ from hST)
          have hw15 : IntKind.i64.wrap ((t : Int) + 16 - 15) = (t : Int) + 1 := by rw [IntKind.wrap_i64]; omega
          have hw2 : IntKind.i64.wrap ((t : Int) + 16 - 2) = (t : Int) + 14 := by rw [IntKind.wrap_i64]; omega
          have hp1 : (0 : Int) ≤ (t : Int) + 1 := by omega
          have hp2 : (0 : Int) ≤ (t : Int) + 14 := by omega
          have hq1 : (t : Int) + 1 < 64 := by omega
          have hq2 : (t : Int) + 14 < 64 := by omega
          clear hN hST
          go_wp2_with fail
          go_quiet (fail)
          all_goals
            obtain ⟨w3, hw3⟩ : ∃ w3, w3 = wr.drewN nq := ⟨_, rfl⟩
            rw [← hw3]
            have hb3 : Below wr.heap.size wr w3 := by rw [hw3]; simp only [World.drewN]; exact ⟨rfl, rfl, rfl, Nat.le_refl _, fun k _ => rfl⟩
            clear hw3
            have hT3 := hT2.below hb3
            have hR3 := hR2.below hb3
            have hbel3 : Below w.heap.size w w3 := hbel2.trans (hb3.mono hbel2.size)
            clear hT2 hR2 hbel2 hb3 hc1 hc2 hc3 hc4 hc5 hf5
            go_wp2_with fail
            refine (hr1 _).mono ?_
            rintro e w' ⟨rfl, hw'⟩
            subst w'
            go_wp2_with fail
            refine (hr2 _).mono ?_
            rintro e w' ⟨rfl, hw'⟩
            subst w'
            go_wp2_with fail
            refine (hr3 _).mono ?_
            rintro e w' ⟨rfl, hw'⟩
            subst w'
            go_wp2_with fail
            refine (hr4 _).mono ?_
            rintro e w' ⟨rfl, hw'⟩
            subst w'
            have hc3 := hT3.cell t (by omega)
            have hc4 := hT3.cell (t + 9) (by omega)
            rw [← HP.out] at hc3
            rw [← HQ.out] at hc4
            have hc5 := hT3.cell (t + 16) (by omega)
            have hf5 := hT3.free (t + 16)
            have hw16 : IntKind.i64.wrap ((t : Int) + 16 - 16) = (t : Int) := by rw [IntKind.wrap_i64]; omega
            have hw7 : IntKind.i64.wrap ((t : Int) + 16 - 7) = (t : Int) + 9 := by rw [IntKind.wrap_i64]; omega
            have hq3 : (t : Int) < 64 := by omega
            have hq4 : (t : Int) + 9 < 64 := by omega
            have hp4 : (0 : Int) ≤ (t : Int) + 9 := by omega
            have hp5 : (0 : Int) ≤ (t : Int) + 16 := by omega
            obtain ⟨Z1, hZ1⟩ : ∃ Z1 : Nat, IntKind.u32.wrap ((P : Int) + S0) = (Z1 : Int) := ⟨(P + S0) % 4294967296, by rw [IntKind.wrap_u32]; omega⟩
            obtain ⟨Z2, hZ2⟩ : ∃ Z2 : Nat, IntKind.u32.wrap ((Z1 : Int) + Q) = (Z2 : Int) := ⟨(Z1 + Q) % 4294967296, by rw [IntKind.wrap_u32]; omega⟩
            have hZ3 : IntKind.u32.wrap ((Z2 : Int) + S1) = (N : Int) := by
              have h1 := hZ1
              have h2 := hZ2
              rw [IntKind.wrap_u32] at h1 h2 ⊢
              have := HN.out
              omega
            have HT3 := (show Hid _ from hT3.store (t + 16) N (by omega) (by have := HN.out; omega))
            rw [← HST.out] at HT3
            have HR3 : Hid (Wds (w3.setCell ⟨w.heap.size + 1, t + 16, none⟩ (.int .u32 (N : Nat))) w.heap.size w.heap.size (wsAt b 0)) := hR3.apart (by omega) _
            have HB3 : Hid (Below w.heap.size w (w3.setCell ⟨w.heap.size + 1, t + 16, none⟩ (.int .u32 (N : Nat)))) := hbel3.setCell (p := ⟨w.heap.size + 1, t + 16, none⟩) (by show w.heap.size ≤ w.heap.size + 1; omega) _
            clear hr1 hr2 hr3 hr4 hT3 hR3 hbel3 hw15 hw2 hp1 hp2 hq1 hq2
            go_wp2_with fail
            go_region
            all_goals
              go_wp2
              go_roundw
              case rel => exact ⟨t + 1, by omega, by go_num, by first | exact HT3.out.below (Below.refl _ _).drew | exact HT3.out, by first | exact HR3.out.below (Below.refl _ _).drew | exact HR3.out, by first | exact HB3.out.drew | exact HB3.out⟩
              case measure => simp [intOf]; omega
        · have et : t + 16 = 64 := by omega
          rw [et, wsAt_64] at hT2
          have ht1 : ¬ (t : Int) + 16 < 64 := by omega
          clear et ht
          have hrg := hT2.range
          have hth := hR2.there
          have hcl := hT2.celen
          have hone := words_one (schedTo b 64)
          obtain ⟨cs, hcs⟩ : ∃ cs, cs = wordsV (schedTo b 64) := ⟨_, rfl⟩
          rw [← hcs] at hrg hcl hone
          have hi64 : (Tryd.prog.info? 109).map (·.size) = some cs.length := by rw [hcl]; kernel_rfl
          have HE : Hid (cs = wordsV (schedTo b 64)) := hcs
          have hth2 : wr.there w.heap.size 0 cs.toArray.size := by rw [show cs.toArray.size = 64 from hcl]; exact hth
          have hi642 : (Tryd.prog.info? 109).map (·.size) = some cs.toArray.size := hi64
          have hrg2 : (wr.setCells w.heap.size 0 cs).rangeAt w.heap.size 0 cs := World.rangeAt_setCells_same _ _ _ _ (by rw [hcl]; exact hth)
          have HB : Hid (Below w.heap.size w (wr.setCells w.heap.size 0 cs)) := Below.setCells hbel2 _ _ _ (Nat.le_refl _)
          clear hcs hT2 hR2 hbel2 hcl hth
          go_wp2_with (first | (refine wpList_load_mid rfl 109 _ rfl (w.heap.size + 1) 0 rfl cs _ hrg Tryd.underlying109 rfl hi64 ?_) | (refine wpList_store_mid rfl 109 _ _ rfl w.heap.size 0 cs.toArray rfl rfl hth2 hi642 (all_oneCell_toArray hone) ?_))
          try simp only [Exit.inBlock, Exit.then]
          refine bodyPost_ret (results_cell_mid rfl _ _ w.heap.size 0 cs _ rfl hrg2 Tryd.underlying109 rfl hi64) rfl ?_
          exact ⟨by rw [HE.out], HB.out⟩
end Go.Proofs.YtmikhnaffhheoaaDoor
