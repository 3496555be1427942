/- What the function that cookie.Seal hands to each does: a number more stands in the row. -/
import Derived.Test.YtmikhnaffhheoaaDoorOwnN
import Derived.Test.YtmikhnaffhheoaaDoorFrM
import Derived.Outline
import Derived.WalkLawsBesides
import Derived.Deep.OwnRows
import Derived.Deep.DeepMust
import Derived.Deep.RegionWith
namespace Go.Proofs.YtmikhnaffhheoaaDoor
open Go.RowKit
/-- The row of numbers in its variable nb; B: what is above it is the row's. -/
structure NbS (B nb : Nat) (ps : List (Nat × Nat)) (w : World) : Prop where
  lt : nb < B
  Bw : B ≤ w.heap.size
  row : ∃ a c, w.cell? ⟨nb, 0, none⟩ = some (.slice a ps.length c) ∧ OwnN w B a ps.length c ps
  free : w.frozen? ⟨nb, 0, none⟩ = false
structure NbP (B nb : Nat) (ps : List (Nat × Nat)) (v : Nat) (w : World) (e : Ending) (w' : World) : Prop where
  ans : e = .returned (.int .u64 (v : Nat))
  st : NbS B nb ps w'
  fr : Fr (fun b => b = nb ∨ B ≤ b) w w'
set_option maxRecDepth 100000 in
set_option maxHeartbeats 1000000 in
theorem visitL_any (B nb : Nat) (ps : List (Nat × Nat)) (v k : Nat) (w : World) (h : NbS B nb ps w) (hv : v < 18446744073709551616) (hk : k ≤ 8) (hl : ps.length ≤ 1000) :
    Calls Tryd.prog 20 #[.int .u64 (v : Nat), .int .i64 (k : Nat), .pointer (some ⟨nb, 0, none⟩)] w fun e w' => NbP B nb (ps ++ [(v, k)]) v w e w' := by
  obtain ⟨hlt, hBw, ⟨a, c, hrow, hown⟩, hfree⟩ := h
  obtain ⟨n, hn⟩ : ∃ n, n = ps.length := ⟨_, rfl⟩
  rw [← hn] at hrow hown hl
  have HN := (show Hid _ from hn)
  have hlw : nb < w.heap.size := by omega
  obtain ⟨W, hW⟩ : ∃ W, W = w.alloc (.cells #[.int .u64 (v : Nat), .int .i64 (k : Nat)] 63) := ⟨_, rfl⟩
  have bW : Below w.heap.size w W := by rw [hW]; exact (Below.refl _ _).alloc (Nat.le_refl _) _
  have hownW := hown.below bW
  have c0 : W.cell? ⟨w.heap.size, 0, none⟩ = some (.int .u64 (v : Nat)) := by rw [hW, World.cell?_alloc_mark]; rfl
  have c1 : W.cell? ⟨w.heap.size, 1, none⟩ = some (.int .i64 (k : Nat)) := by rw [hW, World.cell?_alloc_mark]; rfl
  have HW := (show Hid _ from hW)
  have hzW : W.heap.size = w.heap.size + 1 := by rw [hW]; simp
  have hnbW : W.cell? ⟨nb, 0, none⟩ = some (.slice a n c) := (bW.cell (p := ⟨nb, 0, none⟩) hlw).trans hrow
  have hfrW : W.frozen? ⟨nb, 0, none⟩ = false := (bW.frozen (p := ⟨nb, 0, none⟩) hlw).trans hfree
  clear hn hW
  go_enter Tryd.func20, Tryd.ntmps20
  go_wp2_with (at_builtin; rw [← HW.out]; go_must (refine app_listN rfl _ _ rfl B a n c ps rfl hownW w.heap.size v k rfl c0 c1 hv hk (by omega) (by omega) ?_))
  intro a2 c2 w2 o2 g2
  have hne : ∀ g, (Value.slice a n c).ownBlock = some g → B ≤ g := fun g hg => (hownW.own.lt g hg).1
  have hnb2 : w2.cell? ⟨nb, 0, none⟩ = some (.slice a n c) := by
    rw [World.cell?_of_block (a := ⟨nb, 0, none⟩) (g2.block nb (by omega) (fun e => by have := hne nb e.symm; omega))]
    exact hnbW
  have hfr2 : w2.frozen? ⟨nb, 0, none⟩ = false := by
    rw [World.frozen?_of_block (a := ⟨nb, 0, none⟩) (g2.block nb (by omega) (fun e => by have := hne nb e.symm; omega))]
    exact hfrW
  have f1 : Fr (fun b => b = nb ∨ B ≤ b) w w2 := (Fr.of_below bW).trans (Fr.grown g2 (fun k hk => .inr (hne k hk)))
  have hz2 := g2.size
  have hOwn3 : OwnN (w2.setCell ⟨nb, 0, none⟩ (.slice a2 (n + 1) c2)) B a2 (n + 1) c2 (ps ++ [(v, k)]) := by
    have hgs : w2.grownBy (w2.setCell ⟨nb, 0, none⟩ (.slice a2 (n + 1) c2)) (some nb) := (Fr.setCell (fun b => b = nb) w2 ⟨nb, 0, none⟩ _ rfl) |> fun h => ⟨h.os, h.tape, h.output, h.size, fun k hk hn => h.block k hk (fun e => hn (by rw [e]))⟩
    refine o2.kept hgs ?_
    cases hq : (Value.slice a2 (n + 1) c2).ownBlock with
    | none => exact .inl rfl
    | some q => exact .inr (fun e => by have := (o2.own.lt q hq).1; injection e with e; omega)
  have HS : Hid (NbS B nb (ps ++ [(v, k)]) (w2.setCell ⟨nb, 0, none⟩ (.slice a2 (n + 1) c2))) := by
    refine ⟨hlt, by simp [World.setCell]; omega, ⟨a2, c2, ?_, ?_⟩, by rw [World.frozen?_setCell]; exact hfr2⟩
    · rw [List.length_append, ← HN.out]
      exact World.cell?_setCell_same' _ _ _ (by rw [hnb2]; rfl)
    · rw [List.length_append, ← HN.out]
      exact hOwn3
  have HF : Hid (Fr (fun b => b = nb ∨ B ≤ b) w (w2.setCell ⟨nb, 0, none⟩ (.slice a2 (n + 1) c2))) := f1.trans (Fr.setCell _ _ _ _ (.inl rfl))
  clear hOwn3 f1 o2 g2 hownW hown c0 c1 hnbW hfrW
  go_wp2
  go_ret
  exact ⟨rfl, HS.out, HF.out⟩
end Go.Proofs.YtmikhnaffhheoaaDoor
