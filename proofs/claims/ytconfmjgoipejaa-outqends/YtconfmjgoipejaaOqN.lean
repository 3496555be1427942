/- outq: New, inAir. -/
import Derived.Test.YtconfmjgoipejaaOqY
import Derived.Deep.OwnRows
import Derived.Deep.RegionWith
namespace Go.Proofs.Ytconfmjgoipejaa
open Go.RowKit Go.Shelf
theorem u16_infoQ : (Try.prog.info? 34).map (fun i => (i.zero, i.size, i.bytes)) = some (some (.int .u16 0), 1, 2) := by kernel_rfl
set_option maxRecDepth 100000 in
theorem mk16Q (c : Nat) (hc : c ≤ 64) (w : World) : (Instr.makeSlice 68 (.int .i64 (c : Int)) (.int .i64 (c : Int))).run Try.prog w = .ok (.slice (some ⟨w.heap.size, 0, none⟩) c c) (w.alloc (.cells (madeCells #[.int .u16 0] c) 34)) :=
  run_make_row' 68 34 (.int .u16 0) 2 Try.underlying68 u16_infoQ rfl .i64 .i64 c (by omega) (by omega) w
theorem onew_bad (first : Nat) (outs size : Int) (w : World) (h : outs < 1 ∨ 8 < outs ∨ size < 1 ∨ 1452 < size) :
    Calls Try.prog 8 #[.int .u32 (first : Nat), .int .i64 outs, .int .i64 size] w fun e w' => e = .returned (.tuple #[.pointer none, .int .i64 2]) ∧ Below w.heap.size w w' := by
  by_cases h1 : outs < 1
  · go_enter Try.func8, Try.ntmps8
    go_wp2
    go_ret2
    exact ⟨rfl, Below.refl _ _⟩
  by_cases h2 : outs > 8
  · go_enter Try.func8, Try.ntmps8
    go_wp2
    go_ret2
    exact ⟨rfl, Below.refl _ _⟩
  by_cases h3 : size < 1
  · go_enter Try.func8, Try.ntmps8
    go_wp2
    go_ret2
    exact ⟨rfl, Below.refl _ _⟩
  have h4 : size > 1452 := by omega
  go_enter Try.func8, Try.ntmps8
  go_wp2
  go_ret2
  exact ⟨rfl, Below.refl _ _⟩
theorem row_newQ (w : World) (outs : Nat) (X : World) (hX : X = w.alloc (.cells (madeCells #[.int .u16 0] outs) 34)) : BT X w.heap.size 34 ∧ (∀ i, i < outs → X.cell? ⟨w.heap.size, i, none⟩ = some (.int .u16 0)) ∧ ∀ i, X.frozen? ⟨w.heap.size, i, none⟩ = false := by
  have hh : X.heap[w.heap.size]? = some (.cells (madeCells #[.int .u16 0] outs) 34) := by rw [hX]; exact World.alloc_heap_new w _
  refine ⟨⟨_, (0, 0), hh⟩, fun i hi => ?_, fun i => ?_⟩
  · rw [hX, World.cell?_alloc_mark]
    simp [madeCells, hi, Nat.mod_one]
  · unfold World.frozen?
    dsimp only
    rw [hh]
    simp
theorem new_qQ (X : World) (nb cum size outs : Nat) (h1 : BT X nb 34) (h2 : ∀ i, i < outs → X.cell? ⟨nb, i, none⟩ = some (.int .u16 0)) (h3 : ∀ i, X.frozen? ⟨nb, i, none⟩ = false) (V : World) (hV : V = X.alloc (.cells #[.int .u32 (cum : Nat), .int .i64 (size : Nat), .slice (some ⟨nb, 0, none⟩) outs outs, .slice none 0 0] 71)) :
    QuW V X.heap.size nb none 0 [] cum size (List.replicate outs 0) := by
  have hh : V.heap[X.heap.size]? = some (.cells #[.int .u32 (cum : Nat), .int .i64 (size : Nat), .slice (some ⟨nb, 0, none⟩) outs outs, .slice none 0 0] 71) := by rw [hV]; exact World.alloc_heap_new X _
  have hb : Below X.heap.size X V := by rw [hV]; exact (Below.refl _ _).alloc (Nat.le_refl _) _
  have hc : ∀ i v, [.int .u32 (cum : Nat), .int .i64 (size : Nat), .slice (some ⟨nb, 0, none⟩) outs outs, Value.slice none 0 0][i]? = some v → V.cell? ⟨X.heap.size, i, none⟩ = some v := fun i v hv => by
    rw [hV, World.cell?_alloc_mark]
    simpa using hv
  refine ⟨⟨_, (0, 0), hh⟩, h1.below hb, hc 0 _ rfl, hc 1 _ rfl, ?_, hc 3 _ rfl, fun i => ?_, fun i hi => ?_, fun i => ?_, OwnG.nil _ _, fun x hx => (by cases hx)⟩
  · rw [List.length_replicate]; exact hc 2 _ rfl
  · unfold World.frozen?
    dsimp only
    rw [hh]
    simp
  · rw [List.length_replicate] at hi
    rw [hb.cell (p := ⟨nb, i, none⟩) h1.lt, h2 i hi, List.getD_eq_getElem?_getD, List.getElem?_replicate, if_pos hi]
    rfl
  · have e : V.heap[nb]? = X.heap[nb]? := hb.block nb h1.lt
    have := h3 i
    unfold World.frozen? at this ⊢
    dsimp only at this ⊢
    rw [e]
    exact this
structure NewP (w : World) (cum size outs : Nat) (e : Ending) (w' : World) : Prop where
  ex : ∃ q nb, e = .returned (.tuple #[.pointer (some ⟨q, 0, none⟩), .int .i64 0]) ∧ QuW w' q nb none 0 [] cum size (List.replicate outs 0) ∧ w.heap.size ≤ q ∧ w.heap.size ≤ nb
  bel : Below w.heap.size w w'
set_option maxRecDepth 100000 in
set_option maxHeartbeats 4000000 in
theorem onew_ok (first outs size : Nat) (w : World) (hf : first < 4294967296) (h1 : 1 ≤ outs) (h2 : outs ≤ 8) (h3 : 1 ≤ size) (h4 : size ≤ 1452) :
    Calls Try.prog 8 #[.int .u32 (first : Nat), .int .i64 (outs : Nat), .int .i64 (size : Nat)] w (NewP w (addV 4294967296 first (-1)) size outs) := by
  have g1 : ¬ (outs : Int) < 1 := by omega
  have g2 : ¬ (outs : Int) > 8 := by omega
  have g3 : ¬ (size : Int) < 1 := by omega
  have g4 : ¬ (size : Int) > 1452 := by omega
  have hmk := mk16Q outs (by omega)
  have HON := (show Hid _ from fun W => onward_any first (-1) W hf _ _ rfl rfl)
  go_enter Try.func8, Try.ntmps8
  go_wp2_with fail
  go_region_with (first | (refine Calls.mono (HON.out _) ?_; rintro e w1 ⟨rfl, b1⟩) | fail)
  all_goals
    go_wp2
    go_ret2
  · obtain ⟨X, hX⟩ : ∃ X, X = w1.alloc (.cells (madeCells #[.int .u16 0] outs) 34) := ⟨_, rfl⟩
    obtain ⟨V, hV⟩ : ∃ V, V = X.alloc (.cells #[.int .u32 (addV 4294967296 first (-1) : Nat), .int .i64 (size : Nat), .slice (some ⟨w1.heap.size, 0, none⟩) outs outs, .slice none 0 0] 71) := ⟨_, rfl⟩
    obtain ⟨n1, n2, n3⟩ := row_newQ w1 outs X hX
    have hq := new_qQ X w1.heap.size (addV 4294967296 first (-1)) size outs n1 n2 n3 V hV
    have zX : X.heap.size = w1.heap.size + 1 := by rw [hX]; simp
    have bX : Below w.heap.size w1 X := by rw [hX]; exact (Below.refl _ _).alloc b1.size _
    have bV : Below w.heap.size X V := by rw [hV]; exact (Below.refl _ _).alloc (by have := b1.size; have : w.heap.size ≤ w1.heap.size := b1.size; omega) _
    have hsz : w.heap.size ≤ w1.heap.size := b1.size
    rw [zX] at hq
    rw [← hX, ← hV]
    refine ⟨⟨w1.heap.size + 1, w1.heap.size, rfl, ?_, by omega, hsz⟩, ?_⟩
    · first | exact hq | exact hq.below (Below.refl _ _).drew
    · have hb0 : Below w.heap.size w w1 := (show Below w.heap.size w w.drew from (Below.refl _ _).drew).trans b1
      first | exact (hb0.trans bX).trans bV | exact ((hb0.trans bX).trans bV).drew
  · obtain ⟨X, hX⟩ : ∃ X, X = w.alloc (.cells (madeCells #[.int .u16 0] outs) 34) := ⟨_, rfl⟩
    rw [← hX] at b1
    obtain ⟨n1, n2, n3⟩ := row_newQ w outs X hX
    have hb1 : Below X.heap.size X w1 := (show Below X.heap.size X X.drew from (Below.refl _ _).drew).trans b1
    obtain ⟨V, hV⟩ : ∃ V, V = w1.alloc (.cells #[.int .u32 (addV 4294967296 first (-1) : Nat), .int .i64 (size : Nat), .slice (some ⟨w.heap.size, 0, none⟩) outs outs, .slice none 0 0] 71) := ⟨_, rfl⟩
    have hq := new_qQ w1 w.heap.size (addV 4294967296 first (-1)) size outs (n1.below hb1) (fun i hi => (hb1.cell (p := ⟨w.heap.size, i, none⟩) n1.lt).trans (n2 i hi)) (fun i => by
      have e : w1.heap[w.heap.size]? = X.heap[w.heap.size]? := hb1.block _ n1.lt
      have := n3 i
      unfold World.frozen? at this ⊢
      dsimp only at this ⊢
      rw [e]
      exact this) V hV
    have zX : X.heap.size = w.heap.size + 1 := by rw [hX]; simp
    have hs1 := hb1.size
    have bX : Below w.heap.size w X := by rw [hX]; exact (Below.refl _ _).alloc (Nat.le_refl _) _
    have bV : Below w.heap.size w1 V := by rw [hV]; exact (Below.refl _ _).alloc (by omega) _
    rw [← hV]
    refine ⟨⟨w1.heap.size, w.heap.size, rfl, ?_, by omega, Nat.le_refl _⟩, ?_⟩
    · first | exact hq | exact hq.below (Below.refl _ _).drew
    · have hb0 : Below w.heap.size w w1 := bX.trans (hb1.mono (by omega))
      first | exact hb0.trans bV | exact (hb0.trans bV).drew
end Go.Proofs.Ytconfmjgoipejaa
