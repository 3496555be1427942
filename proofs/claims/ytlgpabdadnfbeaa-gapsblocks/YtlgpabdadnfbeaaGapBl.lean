/- What Blocks of a tracker answers. -/
import Derived.Test.YtlgpabdadnfbeaaGapTop
import Derived.Test.YtlgpabdadnfbeaaSpanM
import Derived.Test.YtlgpabdadnfbeaaOwnQ
import Derived.Maps.AppendAt
import Derived.RangeFuncWrites
namespace Go.Proofs.Ytlgpabdadnfbeaa
open Go.RowKit Go.Shelf
attribute [local go_sem] Oper.semAt_some
def blkStep (ps : List (Nat × Nat)) (last n : Nat) : List (Nat × Nat) := if ps.length = 0 ∨ n ≠ last + 1 then ps ++ [(n, n)] else setLast ps n
/-- The runs of steps, as the code makes them. -/
def blkP (pre : List Stp) : List (Nat × Nat) := (pre.foldl (fun s x => (blkStep s.1 s.2 x.1, x.1)) (([], 0) : List (Nat × Nat) × Nat)).1
theorem blk_two (pre : List Stp) : (pre.foldl (fun s x => (blkStep s.1 s.2 x.1, x.1)) (([], 0) : List (Nat × Nat) × Nat)).2 = lastS pre := by
  rw [← List.reverse_reverse pre]
  cases pre.reverse with
  | nil => rfl
  | cons x t => rw [List.reverse_cons, List.foldl_append, lastS_snoc]; rfl
theorem blkP_snoc (pre : List Stp) (x : Stp) : blkP (pre ++ [x]) = blkStep (blkP pre) (lastS pre) x.1 := by
  unfold blkP
  rw [List.foldl_append]
  rw [← blk_two]
  rfl
theorem blkStep_grow (ps : List (Nat × Nat)) (last n : Nat) (h : 17 ≤ ps.length) : 17 ≤ (blkStep ps last n).length ∧ (blkStep ps last n).take 16 = ps.take 16 := by
  unfold blkStep
  split
  · simp; exact ⟨by omega, by rw [List.take_append_of_le_length (by omega)]⟩
  · rw [setLast_len]
    refine ⟨h, ?_⟩
    unfold setLast
    rw [List.take_set, List.set_eq_of_length_le (by simp; omega)]
theorem blk_take (pre : List Stp) (x : Stp) (h16 : (blkP pre).length = 16) (hb : (blkP pre).length = 0 ∨ x.1 ≠ lastS pre + 1) (rest : List Stp) : 17 ≤ (blkP (pre ++ [x] ++ rest)).length ∧ (blkP (pre ++ [x] ++ rest)).take 16 = blkP pre := by
  rw [← List.reverse_reverse rest]
  induction rest.reverse with
  | nil =>
    rw [List.reverse_nil, List.append_nil, blkP_snoc]
    unfold blkStep
    rw [if_pos hb]
    simp
    exact ⟨by omega, by rw [← h16, List.take_left]⟩
  | cons y t ih =>
    rw [List.reverse_cons, ← List.append_assoc, blkP_snoc]
    obtain ⟨h1, h2⟩ := blkStep_grow _ (lastS (pre ++ [x] ++ t.reverse)) y.1 ih.1
    exact ⟨h1, h2.trans ih.2⟩
theorem OwnQ.keepO {w w' : World} {B : Nat} {a : Option Addr} {n c : Nat} {ps : List (Nat × Nat)} {row : Option Nat} (h : OwnQ w B a n c ps) (hg : w.grownBy w' row) (hr : ∀ r, row = some r → ∃ o : Obj, w.heap[r]? = some o ∧ o.isCells = false) : OwnQ w' B a n c ps := by
  refine h.kept hg ?_
  cases hb : (Value.slice a n c).ownBlock with
  | none => exact .inl rfl
  | some g =>
    refine .inr fun e => ?_
    obtain ⟨o, ho, hc⟩ := hr g e.symm
    rcases h.own.2 with ⟨hv, _⟩ | ⟨g', cap, cur, hv, _, hh, _⟩
    · rw [hv] at hb; cases hb
    · rw [hv] at hb
      cases hb
      rw [hh] at ho
      cases ho
      cases hc
theorem OwnQ.fr {P : Nat → Prop} {w w' : World} {B : Nat} {a : Option Addr} {n c : Nat} {ps : List (Nat × Nat)} (h : OwnQ w B a n c ps) (hf : Fr P w w') (hp : ∀ k, B ≤ k → ¬ P k) : OwnQ w' B a n c ps := by
  obtain ⟨h1, h2, h4⟩ := h
  have h0 := h2
  obtain ⟨h2, h3⟩ := h2
  refine ⟨h1, ⟨h2, ?_⟩, h4⟩
  rcases h3 with h3 | ⟨g, cap, cur, hv, hb, hh, hr⟩
  · exact .inl h3
  · have hg : (Value.slice a n c).ownBlock = some g := by rw [hv]; rfl
    refine .inr ⟨g, cap, cur, hv, hb, ?_, hr⟩
    rw [hf.block g ((h0.lt g hg).2) (hp g hb)]
    exact hh
/-- Between two rounds: the runs, the last number, in their boxes. -/
def BlkI (w : World) (pre : List Stp) (W : World) : Prop := ∃ a c, W.cell? ⟨w.heap.size, 0, none⟩ = some (.slice a (blkP pre).length c) ∧ W.frozen? ⟨w.heap.size, 0, none⟩ = false ∧
  W.cell? ⟨w.heap.size + 1, 0, none⟩ = some (.int .i64 (lastS pre : Nat)) ∧ W.frozen? ⟨w.heap.size + 1, 0, none⟩ = false ∧ OwnQ W (w.heap.size + 3) a (blkP pre).length c (blkP pre) ∧ (blkP pre).length ≤ 16 ∧ w.heap.size + 3 ≤ W.heap.size
theorem BlkI.keep {w : World} {pre : List Stp} {A B : World} {row : Option Nat} (h : BlkI w pre A) (hg : A.grownBy B row) (hr : ∀ r, row = some r → ∃ o : Obj, A.heap[r]? = some o ∧ o.isCells = false) : BlkI w pre B := by
  obtain ⟨a, c, k0, f0, k1, f1, ho, h16, h3⟩ := h
  exact ⟨a, c, cell_kept k0 hg hr, (frozen_kept k0 hg hr).trans f0, cell_kept k1 hg hr, (frozen_kept k1 hg hr).trans f1, ho.keepO hg hr, h16, Nat.le_trans h3 hg.size⟩
theorem news_at (W : World) (n : Nat) : ∀ (j : Nat) (u : Value), (valsQ [(n, n)])[j]? = some u → (W.alloc (.cells #[.int .u16 (n : Nat), .int .u16 (n : Nat)] 33)).cell? ((⟨W.heap.size, 0, none⟩ : Addr).add j) = some u := by
  intro j u hj
  rcases j with _ | _ | j
  · have e : (valsQ [(n, n)])[0]? = some (.int .u16 (n : Nat)) := rfl
    rw [e] at hj
    cases hj
    have := cell_new2 W #[.int .u16 (n : Nat), .int .u16 (n : Nat)] 33 W.heap.size rfl (i := 0)
    exact this
  · have e : (valsQ [(n, n)])[1]? = some (.int .u16 (n : Nat)) := rfl
    rw [e] at hj
    cases hj
    have := cell_new2 W #[.int .u16 (n : Nat), .int .u16 (n : Nat)] 33 W.heap.size rfl (i := 1)
    exact this
  · have e : (valsQ [(n, n)])[j + 1 + 1]? = none := by simp [valsQ]
    rw [e] at hj
    cases hj
theorem app_after (w W w1 : World) (a : Option Addr) (m c : Nat) (R : List (Nat × Nat)) (n g' cap' : Nat) (ho : OwnQ W (w.heap.size + 3) a m c R) (hw3 : w.heap.size + 3 ≤ W.heap.size) (hn : n ≤ 256)
    (hown' : w1.ownsRow (w.heap.size + 3) 33 2 (.slice (some ⟨g', 0, none⟩) (m + 1) cap') (m + 1) (valsQ R ++ valsQ [(n, n)])) (hgrow : (W.alloc (.cells #[.int .u16 (n : Nat), .int .u16 (n : Nat)] 33)).grownBy w1 (Value.slice a m c).ownBlock)
    {la : Int} (k0 : W.cell? ⟨w.heap.size, 0, none⟩ = some (.slice a m c)) (f0 : W.frozen? ⟨w.heap.size, 0, none⟩ = false) (k1 : W.cell? ⟨w.heap.size + 1, 0, none⟩ = some (.int .i64 la)) (f1 : W.frozen? ⟨w.heap.size + 1, 0, none⟩ = false) :
    OwnQ w1 (w.heap.size + 3) (some ⟨g', 0, none⟩) (m + 1) cap' (R ++ [(n, n)]) ∧ w1.cell? ⟨w.heap.size, 0, none⟩ = some (.slice a m c) ∧ w1.frozen? ⟨w.heap.size, 0, none⟩ = false ∧ w1.cell? ⟨w.heap.size + 1, 0, none⟩ = some (.int .i64 la) ∧ w1.frozen? ⟨w.heap.size + 1, 0, none⟩ = false ∧
      (∀ v, W.cell? ⟨w.heap.size + 2, 0, none⟩ = some v → w1.cell? ⟨w.heap.size + 2, 0, none⟩ = some v) ∧ Below (w.heap.size + 3) W w1 ∧ KeepsOthers W w1 ∧ w.heap.size + 3 ≤ g' ∧ w1.cell? ⟨g', m * 2 + 1, none⟩ = some (.int .u16 (n : Nat)) ∧ (∀ o, w1.frozen? ⟨g', o, none⟩ = false) := by
  have hq1 : OwnQ w1 (w.heap.size + 3) (some ⟨g', 0, none⟩) (m + 1) cap' (R ++ [(n, n)]) := ⟨by simp [ho.len], by rw [valsQ_app]; exact hown', fun q hq => by
    rcases List.mem_append.1 hq with hq | hq
    · exact ho.bnd q hq
    · simp at hq; subst hq; exact ⟨by show n < _; omega, by show n < _; omega⟩⟩
  have hat := hq1.at_ (by omega)
  have hb1 : Below (w.heap.size + 3) W w1 := ((Below.refl _ _).alloc hw3 _).grown hgrow (by simp; omega) (fun k hk => (ho.own.lt k hk).1)
  refine ⟨hq1, (hb1.cell (p := ⟨w.heap.size, 0, none⟩) (by show w.heap.size < _; omega)).trans k0, (hb1.frozen (p := ⟨w.heap.size, 0, none⟩) (by show w.heap.size < _; omega)).trans f0,
    (hb1.cell (p := ⟨w.heap.size + 1, 0, none⟩) (by show w.heap.size + 1 < _; omega)).trans k1, (hb1.frozen (p := ⟨w.heap.size + 1, 0, none⟩) (by show w.heap.size + 1 < _; omega)).trans f1,
    fun v hv => (hb1.cell (p := ⟨w.heap.size + 2, 0, none⟩) (by show w.heap.size + 2 < _; omega)).trans hv, hb1, ?_, (hown'.lt g' rfl).1, ?_, ?_⟩
  · refine (KeepsOthers.alloc _ _).trans (KeepsOthers.of_grownBy hgrow (fun j o hj hjo => ?_))
    rcases ho.own.2 with ⟨hv, _⟩ | ⟨g, cap, cur, hv, _, hh, _⟩
    · rw [hv] at hj; cases hj
    · have hlt := (ho.own.lt j hj).2
      rw [hv] at hj
      cases hj
      rw [Below.heap_alloc _ _ _ hlt, hh] at hjo
      cases hjo
      rfl
  · obtain ⟨g2, hge, _, _, _, _, hcl, _⟩ := hat
    cases hge
    rw [(hcl m (by omega)).2]
    have : (R ++ [(n, n)]).getD m (0, 0) = (n, n) := by
      rw [List.getD_eq_getElem?_getD, ← ho.len, List.getElem?_concat_length]
      rfl
    rw [this]
  · obtain ⟨g2, hge, _, _, _, _, _, hfr⟩ := hat
    cases hge
    exact hfr
theorem blk_end {w W W1 : World} {g' cap' j n : Nat} {la : Int} {R1 : List (Nat × Nat)} {pre : List Stp} {x : Stp} (hq : OwnQ W1 (w.heap.size + 3) (some ⟨g', 0, none⟩) (j + 1) cap' R1) (h0 : W1.cell? ⟨w.heap.size, 0, none⟩ = some (.slice (some ⟨g', 0, none⟩) (j + 1) cap')) (f0 : W1.frozen? ⟨w.heap.size, 0, none⟩ = false)
    (h1 : W1.cell? ⟨w.heap.size + 1, 0, none⟩ = some (.int .i64 la)) (f1 : W1.frozen? ⟨w.heap.size + 1, 0, none⟩ = false) (hK : KeepsOthers W W1) (hB : Below w.heap.size W W1) (hc2 : ∀ v, W.cell? ⟨w.heap.size + 2, 0, none⟩ = some v → W1.cell? ⟨w.heap.size + 2, 0, none⟩ = some v)
    (h16 : j + 1 ≤ 16) (hn : n ≤ 256) (hg : w.heap.size + 3 ≤ g') (hR : blkP (pre ++ [x]) = R1.set j ((R1.getD j (0, 0)).1, n)) (hL : lastS (pre ++ [x]) = n) (hBw : Below w.heap.size w W) (h3 : w.heap.size + 3 ≤ W.heap.size) :
    KeepsOthers W ((W1.setCell ⟨g', j * 2 + 1, none⟩ (.int .u16 (n : Nat))).setCell ⟨w.heap.size + 1, 0, none⟩ (.int .i64 (n : Nat))) ∧ KpT w.heap.size (w.heap.size + 2) W ((W1.setCell ⟨g', j * 2 + 1, none⟩ (.int .u16 (n : Nat))).setCell ⟨w.heap.size + 1, 0, none⟩ (.int .i64 (n : Nat))) ∧
    BlkI w (pre ++ [x]) ((W1.setCell ⟨g', j * 2 + 1, none⟩ (.int .u16 (n : Nat))).setCell ⟨w.heap.size + 1, 0, none⟩ (.int .i64 (n : Nat))) ∧ Below w.heap.size w ((W1.setCell ⟨g', j * 2 + 1, none⟩ (.int .u16 (n : Nat))).setCell ⟨w.heap.size + 1, 0, none⟩ (.int .i64 (n : Nat))) := by
  have hB2 : Below w.heap.size W ((W1.setCell ⟨g', j * 2 + 1, none⟩ (.int .u16 (n : Nat))).setCell ⟨w.heap.size + 1, 0, none⟩ (.int .i64 (n : Nat))) := (hB.setCell (p := ⟨g', j * 2 + 1, none⟩) (by show w.heap.size ≤ g'; omega) _).setCell (p := ⟨w.heap.size + 1, 0, none⟩) (by show w.heap.size ≤ w.heap.size + 1; omega) _
  have hl := hq.len
  have hlen : (blkP (pre ++ [x])).length = j + 1 := by rw [hR]; simp [hl]
  have hst := (hq.store j n (by omega) (by omega)).fr (Fr.setCell (fun k => k = w.heap.size + 1) (W1.setCell ⟨g', j * 2 + 1, none⟩ (.int .u16 (n : Nat))) ⟨w.heap.size + 1, 0, none⟩ (.int .i64 (n : Nat)) rfl) (fun k hk e => by omega)
  refine ⟨(hK.trans (KeepsOthers.setCell _ _ _)).trans (KeepsOthers.setCell _ _ _), ⟨hB2, fun v hv => ?_⟩, ⟨some ⟨g', 0, none⟩, cap', ?_, ?_, ?_, ?_, ?_, by omega, Nat.le_trans h3 hB2.size⟩, hBw.trans hB2⟩
  · rw [World.cell?_setCell_other _ _ _ _ (by intro e2; injection e2 with e3; omega), World.cell?_setCell_other _ _ _ _ (by intro e2; injection e2 with e3; omega)]
    exact hc2 v hv
  · rw [World.cell?_setCell_other _ _ _ _ (by intro e2; injection e2 with e3; omega), World.cell?_setCell_other _ _ _ _ (by intro e2; injection e2 with e3; omega), hlen]
    exact h0
  · rw [World.frozen?_setCell, World.frozen?_setCell]; exact f0
  · rw [hL]
    refine World.cell?_setCell_same' _ _ _ ?_
    rw [World.cell?_setCell_other _ _ _ _ (by intro e2; injection e2 with e3; omega), h1]
    rfl
  · rw [World.frozen?_setCell, World.frozen?_setCell]; exact f1
  · rw [hlen, hR]; exact hst
theorem blk_end2 {w W w1 : World} {a : Option Addr} {c g' cap' m n : Nat} {la : Int} {R : List (Nat × Nat)} {pre : List Stp} {x : Stp} (hq : OwnQ w1 (w.heap.size + 3) (some ⟨g', 0, none⟩) (m + 1) cap' (R ++ [(n, n)])) (h0 : w1.cell? ⟨w.heap.size, 0, none⟩ = some (.slice a m c)) (f0 : w1.frozen? ⟨w.heap.size, 0, none⟩ = false)
    (h1 : w1.cell? ⟨w.heap.size + 1, 0, none⟩ = some (.int .i64 la)) (f1 : w1.frozen? ⟨w.heap.size + 1, 0, none⟩ = false) (hK : KeepsOthers W w1) (hB : Below (w.heap.size + 3) W w1) (hc2 : ∀ v, W.cell? ⟨w.heap.size + 2, 0, none⟩ = some v → w1.cell? ⟨w.heap.size + 2, 0, none⟩ = some v)
    (hm : R.length = m) (h16 : m + 1 ≤ 16) (hn : n ≤ 256) (hg : w.heap.size + 3 ≤ g') (hR : blkP (pre ++ [x]) = R ++ [(n, n)]) (hL : lastS (pre ++ [x]) = n) (hBw : Below w.heap.size w W) (h3 : w.heap.size + 3 ≤ W.heap.size) :
    KeepsOthers W (((w1.setCell ⟨w.heap.size, 0, none⟩ (.slice (some ⟨g', 0, none⟩) (m + 1) cap')).setCell ⟨g', m * 2 + 1, none⟩ (.int .u16 (n : Nat))).setCell ⟨w.heap.size + 1, 0, none⟩ (.int .i64 (n : Nat))) ∧ KpT w.heap.size (w.heap.size + 2) W (((w1.setCell ⟨w.heap.size, 0, none⟩ (.slice (some ⟨g', 0, none⟩) (m + 1) cap')).setCell ⟨g', m * 2 + 1, none⟩ (.int .u16 (n : Nat))).setCell ⟨w.heap.size + 1, 0, none⟩ (.int .i64 (n : Nat))) ∧
    BlkI w (pre ++ [x]) (((w1.setCell ⟨w.heap.size, 0, none⟩ (.slice (some ⟨g', 0, none⟩) (m + 1) cap')).setCell ⟨g', m * 2 + 1, none⟩ (.int .u16 (n : Nat))).setCell ⟨w.heap.size + 1, 0, none⟩ (.int .i64 (n : Nat))) ∧ Below w.heap.size w (((w1.setCell ⟨w.heap.size, 0, none⟩ (.slice (some ⟨g', 0, none⟩) (m + 1) cap')).setCell ⟨g', m * 2 + 1, none⟩ (.int .u16 (n : Nat))).setCell ⟨w.heap.size + 1, 0, none⟩ (.int .i64 (n : Nat))) := by
  refine blk_end (W1 := w1.setCell ⟨w.heap.size, 0, none⟩ (.slice (some ⟨g', 0, none⟩) (m + 1) cap')) (la := la) (R1 := R ++ [(n, n)]) (hq.fr (Fr.setCell (fun k => k = w.heap.size) _ _ _ rfl) (fun k hk e => by omega)) (World.cell?_setCell_same' _ _ _ (by rw [h0]; rfl)) (by rw [World.frozen?_setCell]; exact f0) ?_ (by rw [World.frozen?_setCell]; exact f1) (hK.trans (KeepsOthers.setCell _ _ _))
    ((hB.mono (show w.heap.size ≤ w.heap.size + 3 by omega)).setCell (p := ⟨w.heap.size, 0, none⟩) (Nat.le_refl _) _) (fun v hv => ?_) h16 hn hg ?_ hL hBw h3
  · rw [World.cell?_setCell_other _ _ _ _ (by intro e2; injection e2 with e3; omega)]; exact h1
  · rw [World.cell?_setCell_other _ _ _ _ (by intro e2; injection e2 with e3; omega)]; exact hc2 v hv
  · rw [hR, ← hm, List.getD_eq_getElem?_getD, List.getElem?_concat_length]
    simp
set_option maxRecDepth 100000 in
set_option maxHeartbeats 2000000 in
theorem blocks_in (B p : Nat) (db : Option Nat) (cum : Nat) (S : Nat → Bool) (ds : List Nat) (w : World) (h : Trk w B p db cum S ds) :
    CallsIn Fence.wide 3 Try.prog 11 #[.pointer (some ⟨p, 0, none⟩)] w fun e w' => ∃ a c, e = .returned (.slice a ((blkP (farTo S 256)).take 16).length c) ∧ OwnQ w' w.heap.size a ((blkP (farTo S 256)).take 16).length c ((blkP (farTo S 256)).take 16) ∧ Below w.heap.size w w' := by
  obtain ⟨ws, hw, hb⟩ := h.win
  refine callsIn_of_wp_marks Try.func11 rfl trivial ?_ rfl
  simp only [Try.ntmps11, List.size_toArray, List.length_cons, List.length_nil, Nat.reduceAdd, Nat.reduceSub, Array.replicate_succ, Array.replicate_zero, List.push_toArray, List.append_toArray, List.nil_append, List.cons_append]
  gi_wp2_with (refine ⟨trivial, ?_⟩; gi_at_call 27; refine (callsIn_wide.2 (steps_any p _)).mono ?_; rintro e w' ⟨rfl, rfl⟩)
  obtain ⟨w0, hw0⟩ : ∃ w0, (((w.alloc (.cells #[.slice none 0 0] 30)).alloc (.cells #[.int .i64 0] 3)).alloc (.cells #[.pointer (some ⟨p, 0, none⟩)] 24)) = w0 := ⟨_, rfl⟩
  have hz0 : w0.heap.size = w.heap.size + 3 := by rw [← hw0]; simp
  have hB0 : Below w.heap.size w w0 := by rw [← hw0]; exact (((Below.refl _ w).alloc (Nat.le_refl _) _).alloc (by simp) _).alloc (by simp; omega) _
  have hA1 : Below (w.heap.size + 1) (w.alloc (.cells #[.slice none 0 0] 30)) w0 := by rw [← hw0]; exact ((Below.refl _ _).alloc (by simp) _).alloc (by simp) _
  have hA2 : Below (w.heap.size + 2) ((w.alloc (.cells #[.slice none 0 0] 30)).alloc (.cells #[.int .i64 0] 3)) w0 := by rw [← hw0]; exact (Below.refl _ _).alloc (by simp) _
  have hc0 : w0.cell? ⟨w.heap.size, 0, none⟩ = some (.slice none 0 0) := by
    rw [hA1.cell (p := ⟨w.heap.size, 0, none⟩) (by show w.heap.size < _; omega), cell_new2 w _ _ _ rfl]; rfl
  have hf0 : w0.frozen? ⟨w.heap.size, 0, none⟩ = false := by
    rw [hA1.frozen (p := ⟨w.heap.size, 0, none⟩) (by show w.heap.size < _; omega)]; exact frozen_new2 w _ _ _ rfl
  have hc1 : w0.cell? ⟨w.heap.size + 1, 0, none⟩ = some (.int .i64 0) := by
    rw [hA2.cell (p := ⟨w.heap.size + 1, 0, none⟩) (by show w.heap.size + 1 < _; omega), cell_new2 _ _ _ _ (by simp)]; rfl
  have hf1 : w0.frozen? ⟨w.heap.size + 1, 0, none⟩ = false := by
    rw [hA2.frozen (p := ⟨w.heap.size + 1, 0, none⟩) (by show w.heap.size + 1 < _; omega)]; exact frozen_new2 _ _ _ _ (by simp)
  have hbt : w0.cell? ⟨w.heap.size + 2, 0, none⟩ = some (.pointer (some ⟨p, 0, none⟩)) := by
    rw [← hw0, cell_new2 _ _ _ _ (by simp)]; rfl
  rw [hw0]
  clear hw0 hA1 hA2
  have hpl : p < w.heap.size := h.lt
  refine wpIn_rangeFunc_ownF rfl (by omega) (gf := 43) (lb := #[.pointer (some ⟨w.heap.size + 1 + 1, 0, none⟩)]) rfl trivial (enters_of Try.func43 (by kernel_rfl) rfl)
    (steps_stops 2 (by omega) (w.heap.size + 2) w.heap.size p cum ws S w0 h.cumlt h.lt hb hbt (by omega) (by omega) ((hB0.cell (p := ⟨p, 0, none⟩) h.lt).trans h.c0) (hw.below hB0 h.lt))
    KpT.trans (KpT.put (by omega)) (Below.refl _ _) (fun _ => rfl)
    (fun pre W => BlkI w pre W ∧ Below w.heap.size w W)
    (fun c pre W => (c = .exit 0 ∧ ∃ pre' x, pre = pre' ++ [x] ∧ (blkP pre').length = 16 ∧ ((blkP pre').length = 0 ∨ x.1 ≠ lastS pre' + 1) ∧ BlkI w pre' W) ∧ Below w.heap.size w W)
    (OwnFrom.and (Own.from (fun s A B row hs hg hr => hs.keep hg hr) _) (ownFrom_below (Nat.le_refl _) (by omega)))
    (fun c => OwnFrom.and (Own.from (fun s A B row hs hg hr => ⟨hs.1, by
      obtain ⟨pre', x, h1, h2, h3, h4⟩ := hs.2
      exact ⟨pre', x, h1, h2, h3, h4.keep hg hr⟩⟩) _) (ownFrom_below (Nat.le_refl _) (by omega)))
    ⟨⟨none, 0, hc0, hf0, hc1, hf1, OwnQ.nil _ _, by simp [blkP], by omega⟩, hB0⟩
    (fun x => { tmps := #[.pointer (some ⟨p, 0, none⟩), undef, .slice none 0 0, .pointer (some ⟨w.heap.size, 0, none⟩), .pointer (some ⟨w.heap.size + 1, 0, none⟩), .int .i64 (x.1 : Nat), undef, .pointer (some ⟨p, 0, none⟩), .bool false, .pointer (some ⟨p, 0, none⟩), .func (.func 43) #[] #[.pointer (some ⟨w.heap.size + 1 + 1, 0, none⟩)], .int .i64 (x.1 : Nat), undef, undef, undef, undef, undef, undef, undef, undef, undef, undef, undef, undef, undef, undef, undef, undef, undef, undef, undef, undef, undef, undef, undef, undef, undef, undef, undef, undef, undef, undef, undef, undef, undef, undef], defers := [] }) ?assign ?body ?done ?stop
  case assign =>
    intro l x W K hK
    unfold encS
    gi_wp2
    exact hK
  case body =>
    rintro l pre x W ⟨⟨a, c, k0, f0, k1, f1, ho, h16, hw3'⟩, hB⟩ _
    have HSN := (show Hid _ from blkP_snoc pre x)
    have HLS := (show Hid _ from lastS_snoc pre x)
    obtain ⟨hx1, hx2⟩ := x.2
    obtain ⟨n, hn⟩ : ∃ n, n = x.1 := ⟨_, rfl⟩
    obtain ⟨R, hR⟩ : ∃ R, R = blkP pre := ⟨_, rfl⟩
    obtain ⟨la, hla⟩ : ∃ la, la = lastS pre := ⟨_, rfl⟩
    have hla2 := lastS_le pre
    rw [← hn] at HSN HLS hx1 hx2
    rw [← hR] at HSN k0 ho h16
    rw [← hla] at HSN k1 hla2
    rw [← hn]
    have HN := (show Hid _ from hn)
    have HR := (show Hid _ from hR)
    have HLA := (show Hid _ from hla)
    clear hn hR hla
    have hsz := hB.size
    have hu : (n : Int) % 65536 = n := by omega
    have hw3 : w.heap.size + 3 ≤ W.heap.size := hw3'
    obtain ⟨m, hm⟩ : ∃ m, m = R.length := ⟨_, rfl⟩
    rw [← hm] at k0 ho h16
    have HM := (show Hid _ from hm)
    clear hm
    by_cases hm0 : m = 0
    · subst hm0
      obtain rfl : R = [] := List.eq_nil_of_length_eq_zero HM.out.symm
      clear HM
      obtain ⟨i0, hi, hz0', hz1, hz2⟩ := info_parts own_infoQ
      gi_wp2_with (gi_at_builtin; go_must (refine wpListIn_append_own _ rfl _ _ 30 rfl (w.heap.size + 3) 33 i0 (.agg #[.int .u16 0, .int .u16 0]) 2 4 Try.underlying30 hi hz0' hz1 hz2 rfl (by decide) _ 0 (valsQ []) rfl ((ho.alloc _).own) ⟨W.heap.size, 0, none⟩ 1 1 (valsQ [(n, n)]) rfl rfl (news_at W n) (valsQ_one _) (by unfold maxLen; omega) (by omega) (by simp; omega) ?_); go_must (intro v' w1 hown' hgrow _; obtain ⟨g', cap', rfl⟩ := ownsRow_succ hown'; obtain ⟨hq1, hc01, hf01, hc11, hf11, hcb1, hb1, hk1, hg1, hla1, hfl1⟩ := app_after w W w1 a 0 c [] n g' cap' ho hw3 hx2 hown' hgrow k0 f0 k1 f1; have hd1 : ¬ g' = w.heap.size := (by omega); have hd2 : ¬ w.heap.size = g' := (by omega); have hd3 : ¬ g' = w.heap.size + 1 := (by omega); have hd4 : ¬ w.heap.size + 1 = g' := (by omega); clear hown' hgrow))
      exact blk_end2 (m := 0) (R := []) hq1 hc01 hf01 hc11 hf11 hk1 hb1 hcb1 rfl (by omega) hx2 hg1 (by rw [HSN.out]; rfl) HLS.out hB hw3
    · have hl0 : ((m : Int) == 0) = false := beq_eq_false_iff_ne.2 (by omega)
      by_cases hxl : n = la + 1
      · obtain ⟨j, rfl⟩ : ∃ j, m = j + 1 := ⟨m - 1, by omega⟩
        obtain ⟨g, rfl, hg1, _, hnc, hcm, hcl, hfr⟩ := ho.at_ (by omega)
        have hlast := (hcl j (by omega)).2
        have hfrl := hfr (j * 2 + 1)
        have hd1 : ¬ g = w.heap.size := by omega
        have hd2 : ¬ w.heap.size = g := by omega
        have hd3 : ¬ g = w.heap.size + 1 := by omega
        have hd4 : ¬ w.heap.size + 1 = g := by omega
        have HX : Hid (blkP (pre ++ [x]) = R.set j ((R.getD j (0, 0)).1, n)) := by
          show _ = _
          rw [HSN.out]
          unfold blkStep
          rw [if_neg (by rw [← HM.out]; omega)]
          unfold setLast
          rw [← HM.out]
          rfl
        have hne : ((n : Int) != (la : Int) + 1) = false := by rw [bne_eq_false_iff_eq]; omega
        have hj0 : (((j : Int) + 1) == 0) = false := beq_eq_false_iff_ne.2 (by omega)
        clear hl0 hm0
        have HO := (show Hid _ from ho)
        clear hcl hfr hxl ho
        gi_wp2
        exact blk_end (j := j) (W1 := W) HO.out k0 f0 k1 f1 (KeepsOthers.refl _) (Below.refl _ _) (fun v hv => hv) h16 hx2 hg1 HX.out HLS.out hB hw3
      · have hne : ((n : Int) == (la : Int) + 1) = false := beq_eq_false_iff_ne.2 (by omega)
        by_cases h17 : m = 16
        · have H17 : Hid ((blkP pre).length = 16 ∧ ((blkP pre).length = 0 ∨ x.1 ≠ lastS pre + 1)) := by
            show _ ∧ _
            rw [← HR.out, ← HM.out, ← HN.out, ← HLA.out]
            exact ⟨h17, .inr hxl⟩
          have HI : Hid (BlkI w pre W) := ⟨a, c, by rw [← HR.out, ← HM.out]; exact k0, f0, by rw [← HLA.out]; exact k1, f1, by rw [← HR.out, ← HM.out]; exact ho, by rw [← HR.out, ← HM.out]; exact h16, hw3⟩
          subst h17
          clear ho HM
          gi_wp2
          exact ⟨KeepsOthers.refl _, ⟨rfl, pre, x, rfl, H17.out.1, H17.out.2, HI.out⟩, hB⟩
        · have hl16 : ((m : Int) == 16) = false := beq_eq_false_iff_ne.2 (by omega)
          have hm15 : m < 16 := by omega
          obtain ⟨i0, hi, hz0', hz1, hz2⟩ := info_parts own_infoQ
          gi_wp2_with (gi_at_builtin; go_must (refine wpListIn_append_own _ rfl _ _ 30 rfl (w.heap.size + 3) 33 i0 (.agg #[.int .u16 0, .int .u16 0]) 2 4 Try.underlying30 hi hz0' hz1 hz2 rfl (by decide) _ m (valsQ R) rfl ((ho.alloc _).own) ⟨W.heap.size, 0, none⟩ 1 1 (valsQ [(n, n)]) rfl rfl (news_at W n) (valsQ_one _) (by unfold maxLen; omega) (by omega) (by simp; omega) ?_); go_must (intro v' w1 hown' hgrow _; obtain ⟨g', cap', rfl⟩ := ownsRow_succ hown'; obtain ⟨hq1, hc01, hf01, hc11, hf11, hcb1, hb1, hk1, hg1, hla1, hfl1⟩ := app_after w W w1 a m c R n g' cap' ho hw3 hx2 hown' hgrow k0 f0 k1 f1; have hd1 : ¬ g' = w.heap.size := (by omega); have hd2 : ¬ w.heap.size = g' := (by omega); have hd3 : ¬ g' = w.heap.size + 1 := (by omega); have hd4 : ¬ w.heap.size + 1 = g' := (by omega); clear hown' hgrow))
          exact blk_end2 (m := m) (R := R) hq1 hc01 hf01 hc11 hf11 hk1 hb1 hcb1 HM.out.symm (by omega) hx2 hg1 (by rw [HSN.out]; unfold blkStep; rw [if_pos (.inr hxl)]) HLS.out hB hw3
  case done =>
    rintro D ys W hD rfl ⟨⟨a, c, k0, f0, k1, f1, ho, h16, _⟩, hB⟩ hK
    have HT : Hid ((blkP (farTo S 256)).take 16 = blkP (farTo S 256)) := by show _ = _; exact List.take_of_length_le (by omega)
    gi_wp2
    refine ⟨by simp, .inl ⟨_, _, rfl, run_takeDeferred hK, ?_⟩⟩
    refine ⟨_, results_tmp rfl _ _ _, a, c, by rw [HT.out]; rfl, ?_, hB.trans (belowK_b (w := w) (Nat.le_refl _) W D _ _ (by omega) hK rfl rfl)⟩
    rw [HT.out]
    exact (ho.keepO (grownBy_putObj' _ D _) (fun r e => by cases e; exact ⟨_, hK, rfl⟩)).base (by omega)
  case stop =>
    rintro D cd pre W hD hpre ⟨⟨rfl, pre', x, rfl, h17, hbg, a, c, k0, f0, k1, f1, ho, h16, _⟩, hB⟩ hK
    obtain ⟨rest, hrest⟩ := hpre
    have HT : Hid ((blkP (farTo S 256)).take 16 = blkP pre') := by show _ = _; rw [← hrest]; exact (blk_take pre' x h17 hbg rest).2
    clear h17
    gi_wp2
    refine ⟨by simp, .inl ⟨_, _, rfl, run_takeDeferred hK, ?_⟩⟩
    refine ⟨_, results_tmp rfl _ _ _, a, c, by rw [HT.out]; rfl, ?_, hB.trans (belowK_b (w := w) (Nat.le_refl _) W D _ _ (by omega) hK rfl rfl)⟩
    rw [HT.out]
    exact (ho.keepO (grownBy_putObj' _ D _) (fun r e => by cases e; exact ⟨_, hK, rfl⟩)).base (by omega)
end Go.Proofs.Ytlgpabdadnfbeaa
