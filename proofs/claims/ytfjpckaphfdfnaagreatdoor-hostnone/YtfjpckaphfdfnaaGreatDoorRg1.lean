/- What ring.New, ahead, Give and Take do. -/
import Derived.Test.YtfjpckaphfdfnaaGreatDoorRgM
import Derived.Deep.OwnRows
import Derived.Deep.RegionHeld3
import Derived.Deep.QuietTactic
import Derived.BigQuiet
namespace Go.Proofs.YtfjpckaphfdfnaaGreatDoor
open Go.RowKit
theorem rg_info : (Tryz.prog.info? 24).map (fun i => (i.zero, i.size, i.bytes)) = some (some (.slice none 0 0), 1, 24) := by kernel_rfl
theorem mkr (c : Nat) (hc : c ≤ 64) (w : World) : (Instr.makeSlice 115 (.int .i64 (c : Int)) (.int .i64 (c : Int))).run Tryz.prog w = .ok (.slice (some ⟨w.heap.size, 0, none⟩) c c) (w.alloc (.cells (madeCells #[.slice none 0 0] c) 24)) :=
  run_make_row' 115 24 (.slice none 0 0) 24 Tryz.underlying115 rg_info rfl .i64 .i64 c (by omega) (by omega) w
theorem made_at (c i : Nat) (hi : i < c) : (madeCells #[Value.slice none 0 0] c)[i]? = some (.slice none 0 0) := by
  simp [madeCells, hi, Nat.mod_one]
theorem free_new (w : World) (cs : Array Value) (t : TypeId) (i : Nat) : (w.alloc (.cells cs t)).frozen? ⟨w.heap.size, i, none⟩ = false := by
  have hh : (w.alloc (.cells cs t)).heap[w.heap.size]? = some (.cells cs t) := by
    show (w.heap.push _)[w.heap.size]? = _
    simp
  unfold World.frozen?
  dsimp only
  rw [hh]
  simp
theorem Rng.setX {w : World} {B : Nat} {X : Nat → Prop} {p g N gv tk d : Nat} {rs : List (Nat × List Nat)} (h : Rng w B X p g N gv tk d rs) (Y : Nat → Prop) (hp : Y p) (hg : Y g) (hl : ∀ k, Y k → k < w.heap.size) (hr : ∀ x ∈ rs, ¬ Y x.1) : Rng w B Y p g N gv tk d rs :=
  ⟨h.bp, h.bg, hp, hg, hl, h.ne, h.n1, h.n64, h.gvl, h.sum, h.c0, h.c1, h.c2, h.c3, h.c4, h.free, h.gfree, h.there, fun j b zs hj => ⟨hr (b, zs) (List.mem_of_getElem? hj), (h.row j b zs hj).2⟩⟩
theorem Rng.below {w w' : World} {B : Nat} {X : Nat → Prop} {p g N gv tk d : Nat} {rs : List (Nat × List Nat)} (h : Rng w B X p g N gv tk d rs) (hb : Below w.heap.size w w') : Rng w' B X p g N gv tk d rs :=
  h.fr (Fr.of_below (P := fun _ => False) hb) (fun h => h) (fun h => h) (fun _ _ h => h)
theorem Rng.rebase {w : World} {B B' : Nat} {X : Nat → Prop} {p g N gv tk d : Nat} {rs : List (Nat × List Nat)} (h : Rng w B X p g N gv tk d rs) (hB : B' ≤ B) : Rng w B' X p g N gv tk d rs :=
  ⟨Nat.le_trans hB h.bp, Nat.le_trans hB h.bg, h.xp, h.xg, h.xlt, h.ne, h.n1, h.n64, h.gvl, h.sum, h.c0, h.c1, h.c2, h.c3, h.c4, h.free, h.gfree, h.there, fun j b zs hj => by
    obtain ⟨h1, h2, h3, c, h4, h5⟩ := h.row j b zs hj
    exact ⟨h1, h2, h3, c, h4, h5.base hB⟩⟩
theorem rnew_no (n : Int) (w : World) (h : n < 1 ∨ 64 < n) : Calls Tryz.prog 129 #[.int .i64 n] w fun e w' => e = .returned (.tuple #[.pointer none, .int .i64 2]) ∧ Below w.heap.size w w' := by
  go_enter Tryz.func129, Tryz.ntmps129
  by_cases h1 : n < 1
  · go_wp2
    go_ret2
    exact ⟨rfl, Below.refl _ _⟩
  · have h2 : 64 < n := by omega
    go_wp2
    go_ret2
    exact ⟨rfl, Below.refl _ _⟩
set_option maxHeartbeats 1000000 in
theorem rnew_any (N : Nat) (w : World) (h1 : 1 ≤ N) (h2 : N ≤ 64) : Calls Tryz.prog 129 #[.int .i64 (N : Int)] w fun e w' => ∃ p, e = .returned (.tuple #[.pointer (some ⟨p, 0, none⟩), .int .i64 0]) ∧ (∃ g, Rng w' w.heap.size (fun k => k = p ∨ k = g) p g N 0 0 0 []) ∧ Below w.heap.size w w' := by
  have hm := fun w => mkr N h2 w
  have a1 : ¬ (N : Int) < 1 := by omega
  have a2 : ¬ (64 : Int) < N := by omega
  go_enter Tryz.func129, Tryz.ntmps129
  go_wp2
  go_ret2
  have hb1 : Below w.heap.size w (w.alloc (.cells (madeCells #[.slice none 0 0] N) 24)) := (Below.refl _ _).alloc (Nat.le_refl _) _
  obtain ⟨w1, hw1⟩ : ∃ w1, w1 = w.alloc (.cells (madeCells #[.slice none 0 0] N) 24) := ⟨_, rfl⟩
  have hz1 : w1.heap.size = w.heap.size + 1 := by rw [hw1]; simp
  have hg1 : ∀ i, i < N → w1.cell? ⟨w.heap.size, i, none⟩ = some (.slice none 0 0) := fun i hi => by rw [hw1, World.cell?_alloc_mark]; exact made_at N i hi
  have hgf1 : ∀ i, w1.frozen? ⟨w.heap.size, i, none⟩ = false := fun i => by rw [hw1]; exact free_new _ _ _ _
  rw [← hw1] at hb1 ⊢
  clear hw1
  have hb2 : Below w1.heap.size w1 (w1.alloc (.cells #[.slice (some ⟨w.heap.size, 0, none⟩) N N, .int .i64 0, .int .i64 0, .int .i64 0, .int .i64 0] 154)) := (Below.refl _ _).alloc (Nat.le_refl _) _
  have hc : ∀ i, (w1.alloc (.cells #[.slice (some ⟨w.heap.size, 0, none⟩) N N, .int .i64 0, .int .i64 0, .int .i64 0, .int .i64 0] 154)).cell? ⟨w1.heap.size, i, none⟩ = (#[.slice (some ⟨w.heap.size, 0, none⟩) N N, .int .i64 0, .int .i64 0, .int .i64 0, .int .i64 0] : Array Value)[i]? := fun i => by rw [World.cell?_alloc_mark]
  refine ⟨w1.heap.size, by simp [hz1], ⟨w.heap.size, by omega, by omega, .inl rfl, .inr rfl, fun k hk => by simp <;> omega, by omega, h1, h2, by omega, by simp, hc 0, hc 1, hc 2, hc 3, hc 4, fun i => free_new _ _ _ _, fun i => ?_, fun i hi => ⟨none, 0, 0, ?_⟩, fun j b zs hj => by simp at hj⟩, hb1.trans (hb2.mono hb1.size)⟩
  · rw [hb2.frozen (p := ⟨w.heap.size, i, none⟩) (by show w.heap.size < _; omega)]; exact hgf1 i
  · rw [hb2.cell (p := ⟨w.heap.size, i, none⟩) (by show w.heap.size < _; omega)]; exact hg1 i hi
theorem tmod_nat (a b N : Nat) : Int.tmod ((a : Int) + (b : Int)) (N : Int) = (((a + b) % N : Nat) : Int) := by
  rw [Int.tmod_eq_emod_of_nonneg (by omega)]; simp
set_option maxHeartbeats 1000000 in
theorem ahead_any (p g N gv s : Nat) (w : World) (h0 : w.cell? ⟨p, 0, none⟩ = some (.slice (some ⟨g, 0, none⟩) N N)) (h1 : w.cell? ⟨p, 1, none⟩ = some (.int .i64 (gv : Nat))) (hN : 1 ≤ N) (hN2 : N ≤ 64) (hgv : gv < N) (hs : s ≤ 1000) (v : Value) (hv : v = .int .i64 (s : Nat)) :
    Calls Tryz.prog 98 #[.pointer (some ⟨p, 0, none⟩), v] w fun e w' => e = .returned (.int .i64 ((gv + s) % N : Nat)) ∧ ∃ q, w' = w.drewN q := by
  subst hv
  have hq : ¬ (N : Int) = 0 := by omega
  have ht := tmod_nat gv s N
  have hml : (gv + s) % N < N := Nat.mod_lt _ hN
  generalize (gv + s) % N = r at *
  go_enter Tryz.func98, Tryz.ntmps98
  go_wp2
  go_quiet (fail)
  all_goals
    go_wp2
    go_ret
    exact ⟨rfl, _, rfl⟩
end Go.Proofs.YtfjpckaphfdfnaaGreatDoor
