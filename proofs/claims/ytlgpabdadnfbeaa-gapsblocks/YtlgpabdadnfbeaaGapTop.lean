/- What Top of a tracker answers. -/
import Derived.Test.YtlgpabdadnfbeaaGapI
namespace Go.Proofs.Ytlgpabdadnfbeaa
open Go.RowKit Go.Shelf
attribute [local go_sem] Oper.semAt_some
theorem KpT.trans {n₀ Bt : Nat} {A B C : World} (h : KpT n₀ Bt A B) (k : KpT n₀ Bt B C) : KpT n₀ Bt A C := ⟨h.1.trans k.1, fun v hv => k.2 v (h.2 v hv)⟩
theorem KpT.put {n₀ Bt : Nat} {w : World} (hn : n₀ ≤ w.heap.size) (W : World) (l : Nat) (o o' : Obj) (hl : w.heap.size ≤ l) (ho : W.heap[l]? = some o) (hc : o.isCells = false) (hk : o.isWalk = false) : KpT n₀ Bt W (W.putObj l o') :=
  ⟨belowK_b hn W l o o' hl ho hc hk, fun v hv => cell_kept hv (grownBy_putObj' W l o') (fun r e => by cases e; exact ⟨o, ho, hc⟩)⟩
theorem steps_stops (n : Nat) (hn : 1 ≤ n) (Bt n₀ p cum : Nat) (ws : List Nat) (S : Nat → Bool) (w : World) (hcl : cum < 4294967296) (hp : p < n₀) (hS : ∀ n, 1 ≤ n → n ≤ 256 → S n = bitW ws ((cum + n) % 256))
    (hB : w.cell? ⟨Bt, 0, none⟩ = some (.pointer (some ⟨p, 0, none⟩))) (hBt : Bt < w.heap.size) (hn0 : n₀ ≤ w.heap.size) (hc : w.cell? ⟨p, 0, none⟩ = some (.int .u32 cum)) (hw : Win w p 1 ws) :
    SeqStopsK Fence.wide n Try.prog 43 #[.pointer (some ⟨Bt, 0, none⟩)] encS (KpT n₀ Bt) (fun xs => xs = farTo S 256) (fun pre => pre <+: farTo S 256) 256 w :=
  fun l J Jx W hW hJ _ hY h0 => steps1_in n hn l Bt n₀ p cum ws S hcl hp J Jx hS (fun xs A A' hj hb => by
      exact hJ xs A A' none hj ⟨hb.os, hb.tape, hb.output, hb.size, fun k hk _ => hb.block k hk⟩ (fun r e => by cases e)) hY W
    ((hW.cell (p := ⟨Bt, 0, none⟩) hBt).trans hB) (Nat.lt_of_lt_of_le hBt hW.size) (Nat.le_trans hn0 hW.size) ((hW.cell (p := ⟨p, 0, none⟩) (Nat.lt_of_lt_of_le hp hn0)).trans hc) (hw.below hW (Nat.lt_of_lt_of_le hp hn0)) h0
set_option maxHeartbeats 400000 in
theorem steps_any (p : Nat) (w : World) : Calls Try.prog 27 #[.pointer (some ⟨p, 0, none⟩)] w fun e w' => e = .returned (.func (.func 43) #[] #[.pointer (some ⟨w.heap.size, 0, none⟩)]) ∧ w' = w.alloc (.cells #[.pointer (some ⟨p, 0, none⟩)] 24) := by
  go_enter Try.func27, Try.ntmps27
  go_wp2
  go_ret
  exact ⟨rfl, rfl⟩
theorem frozen_new2 (w : World) (cs : Array Value) (t : TypeId) (B : Nat) (hB : w.heap.size = B) {i : Nat} : (w.alloc (.cells cs t)).frozen? ⟨B, i, none⟩ = false := by
  subst hB
  have hh : (w.alloc (.cells cs t)).heap[w.heap.size]? = some (.cells cs t) := by
    show (w.heap.push _)[w.heap.size]? = _
    simp
  unfold World.frozen?
  dsimp only
  rw [hh]
  simp
/-- The last one, 0 if there is none. -/
def lastS (pre : List Stp) : Nat := (pre.getLast?.map (·.1)).getD 0
theorem lastS_snoc (pre : List Stp) (x : Stp) : lastS (pre ++ [x]) = x.1 := by simp [lastS]
theorem lastS_le (pre : List Stp) : lastS pre ≤ 256 := by
  unfold lastS
  cases h : pre.getLast? with
  | none => simp
  | some x => simpa using x.2.2
set_option maxRecDepth 100000 in
set_option maxHeartbeats 2000000 in
theorem top_in (B p : Nat) (db : Option Nat) (cum : Nat) (S : Nat → Bool) (ds : List Nat) (w : World) (h : Trk w B p db cum S ds) :
    CallsIn Fence.wide 3 Try.prog 14 #[.pointer (some ⟨p, 0, none⟩)] w fun e w' => e = .returned (.int .u32 (addV 4294967296 cum (lastS (farTo S 256) : Nat) : Nat)) ∧ Below w.heap.size w w' := by
  obtain ⟨ws, hw, hb⟩ := h.win
  refine callsIn_of_wp_marks Try.func14 rfl trivial ?_ rfl
  simp only [Try.ntmps14, List.size_toArray, List.length_cons, List.length_nil, Nat.reduceAdd, Nat.reduceSub, Array.replicate_succ, Array.replicate_zero, List.push_toArray, List.append_toArray, List.nil_append, List.cons_append]
  gi_wp2_with (refine ⟨trivial, ?_⟩; gi_at_call 27; refine (callsIn_wide.2 (steps_any p _)).mono ?_; rintro e w' ⟨rfl, rfl⟩)
  obtain ⟨w0, hw0⟩ : ∃ w0, ((w.alloc (.cells #[.int .i64 0] 3)).alloc (.cells #[.pointer (some ⟨p, 0, none⟩)] 24)) = w0 := ⟨_, rfl⟩
  have hs2 : ((w.alloc (.cells #[.int .i64 0] 3)).alloc (.cells #[.pointer (some ⟨p, 0, none⟩)] 24)).cell? ⟨w.heap.size, 0, none⟩ = some (.int .i64 0) := by
    rw [(((Below.refl _ (w.alloc (.cells #[.int .i64 0] 3))).alloc (Nat.le_refl _) _).cell (p := ⟨w.heap.size, 0, none⟩) (by show w.heap.size < _; simp)), cell_new2 w _ _ _ rfl]; rfl
  have hf2 : ((w.alloc (.cells #[.int .i64 0] 3)).alloc (.cells #[.pointer (some ⟨p, 0, none⟩)] 24)).frozen? ⟨w.heap.size, 0, none⟩ = false := by
    rw [(((Below.refl _ (w.alloc (.cells #[.int .i64 0] 3))).alloc (Nat.le_refl _) _).frozen (p := ⟨w.heap.size, 0, none⟩) (by show w.heap.size < _; simp))]
    exact frozen_new2 w _ _ _ rfl
  have hbt : ((w.alloc (.cells #[.int .i64 0] 3)).alloc (.cells #[.pointer (some ⟨p, 0, none⟩)] 24)).cell? ⟨w.heap.size + 1, 0, none⟩ = some (.pointer (some ⟨p, 0, none⟩)) := by
    rw [cell_new2 _ _ _ _ (by simp)]; rfl
  have hB0 : Below w.heap.size w ((w.alloc (.cells #[.int .i64 0] 3)).alloc (.cells #[.pointer (some ⟨p, 0, none⟩)] 24)) := ((Below.refl _ w).alloc (Nat.le_refl _) _).alloc (by simp) _
  have hz0 : ((w.alloc (.cells #[.int .i64 0] 3)).alloc (.cells #[.pointer (some ⟨p, 0, none⟩)] 24)).heap.size = w.heap.size + 2 := by simp
  rw [hw0] at hbt hs2 hf2 hB0 hz0
  rw [hw0]
  clear hw0
  refine wpIn_rangeFunc_ownF rfl (by omega) (gf := 43) (lb := #[.pointer (some ⟨w.heap.size + 1, 0, none⟩)]) rfl trivial (enters_of Try.func43 (by kernel_rfl) rfl)
    (steps_stops 2 (by omega) (w.heap.size + 1) w.heap.size p cum ws S w0 h.cumlt h.lt hb hbt (by omega) (by omega) ((hB0.cell (p := ⟨p, 0, none⟩) h.lt).trans h.c0) (hw.below hB0 h.lt))
    KpT.trans (KpT.put (by omega)) (Below.refl _ _) (fun _ => rfl)
    (fun pre W => (W.cell? ⟨w.heap.size, 0, none⟩ = some (.int .i64 (lastS pre : Nat)) ∧ W.frozen? ⟨w.heap.size, 0, none⟩ = false) ∧ Below w.heap.size w W)
    (fun _ _ _ => False)
    (OwnFrom.and (Own.from (fun s A B row hs hg hr => ⟨cell_kept hs.1 hg hr, (frozen_kept hs.1 hg hr).trans hs.2⟩) _) (ownFrom_below (Nat.le_refl _) (by omega)))
    (fun _ _ _ _ _ hs _ _ => hs)
    ⟨⟨hs2, hf2⟩, hB0⟩
    (fun x => { tmps := #[.pointer (some ⟨p, 0, none⟩), undef, .int .u32 0, .pointer (some ⟨w.heap.size, 0, none⟩), .int .i64 (x.1 : Nat), .pointer (some ⟨p, 0, none⟩), .bool false, .pointer (some ⟨p, 0, none⟩), .func (.func 43) #[] #[.pointer (some ⟨w.heap.size + 1, 0, none⟩)], .int .i64 (x.1 : Nat), undef, undef, undef, undef, undef, undef, undef], defers := [] }) ?assign ?body ?done ?stop
  case assign =>
    intro l x W K hK
    unfold encS
    gi_wp2
    exact hK
  case body =>
    rintro l pre x W ⟨⟨hc, hf⟩, hB⟩ _
    gi_wp2
    refine ⟨KeepsOthers.setCell _ _ _, ⟨(Below.refl w.heap.size W).setCell (p := ⟨w.heap.size, 0, none⟩) (Nat.le_refl _) _, fun v hv => ?_⟩, ⟨by rw [lastS_snoc]; exact World.cell?_setCell_same' _ _ _ (by rw [hc]; rfl), by rw [World.frozen?_setCell]; exact hf⟩, hB.setCell (p := ⟨w.heap.size, 0, none⟩) (Nat.le_refl _) _⟩
    rw [World.cell?_setCell_other _ _ _ _ (by intro e2; injection e2 with e3; omega)]
    exact hv
  case done =>
    rintro D ys W hD rfl ⟨⟨hc, _⟩, hB⟩ hK
    have hcp := (hB.cell (p := ⟨p, 0, none⟩) h.lt).trans h.c0
    have hle := lastS_le (farTo S 256)
    have hon := fun W => onward_any cum ((lastS (farTo S 256) : Nat) : Int) h.cumlt W
    obtain ⟨r, hr⟩ : ∃ r, r = addV 4294967296 cum ((lastS (farTo S 256) : Nat) : Int) := ⟨_, rfl⟩
    rw [← hr] at hon
    have HR := (show Hid _ from hr)
    clear hr
    generalize lastS (farTo S 256) = ls at hc hle hon
    have hmx : Try.prog.follows .mixedOrders = true := by kernel_rfl
    gi_wp2
    first | (go_must (gi_region_with_o (refine ⟨trivial, ?_⟩; gi_at_call 30; refine (callsIn_wide.2 (hon _)).mono ?_; rintro e w1 ⟨rfl, hb0⟩; have hb1 : Below W.heap.size W w1 := ⟨hb0.os, hb0.tape, hb0.output, hb0.size, hb0.block⟩; clear hb0))) | fail
    all_goals
      gi_wp2
      have hDl : D < W.heap.size := (Array.getElem?_eq_some_iff.1 hK).1
      have hK1 := (hb1.block D hDl).trans hK
      have hBw := hB.trans (hb1.mono hB.size)
      refine ⟨by simp, .inl ⟨_, _, rfl, run_takeDeferred hK1, ?_⟩⟩
      exact ⟨_, results_tmp rfl _ _ _, by rw [← HR.out]; rfl, hBw.trans (belowK_b (w := w) (Nat.le_refl _) w1 D _ _ (by omega) hK1 rfl rfl)⟩
  case stop =>
    rintro D c pre W _ _ h _
    exact h.elim
theorem top_any (B p : Nat) (db : Option Nat) (cum : Nat) (S : Nat → Bool) (ds : List Nat) (w : World) (h : Trk w B p db cum S ds) :
    Calls Try.prog 14 #[.pointer (some ⟨p, 0, none⟩)] w fun e w' => e = .returned (.int .u32 (addV 4294967296 cum (lastS (farTo S 256) : Nat) : Nat)) ∧ Below w.heap.size w w' :=
  callsIn_wide.1 (top_in B p db cum S ds w h)
end Go.Proofs.Ytlgpabdadnfbeaa
