/- What chunk.Check answers, in letters. -/
import Derived.Test.YtlgfbcfogcmdbaaDoorCh8
namespace Go.Proofs.YtlgfbcfogcmdbaaDoor
open Go.RowKit
set_option linter.unusedVariables false in
set_option linter.unusedSimpArgs false in
set_option maxRecDepth 100000 in
set_option maxHeartbeats 2000000 in
theorem check_not (k f : Nat) (c2 c3 c4 c5 c6 c7 c8 c9 c10 c11 c12 c13 e2 e3 e4 e5 e6 e7 e8 e9 e10 e11 e12 e13 V A B : Value) (w : World)
    (hv : ∀ W v, v = .agg #[.int .u8 (k : Nat), .int .u8 (f : Nat), c2, c3, c4, c5, c6, c7, c8, c9, c10, c11, c12, c13] → Calls Tryd.prog 26 #[v] W fun e w' => e = .returned V ∧ Below W.heap.size W w')
    (hs : ∀ W v, v = .agg #[.int .u8 (k : Nat), .int .u8 (f : Nat), c2, c3, c4, c5, c6, c7, c8, c9, c10, c11, c12, c13] → Calls Tryd.prog 41 #[v] W fun e w' => e = .returned A ∧ Below W.heap.size W w')
    (hc : ∀ W v1 v2 v3, v1 = .int .u8 (k : Nat) → v2 = .int .u8 (f : Nat) → v3 = V → Calls Tryd.prog 42 #[v1, v2, v3] W fun e w' => e = .returned (.agg #[.int .u8 (k : Nat), .int .u8 (f : Nat), e2, e3, e4, e5, e6, e7, e8, e9, e10, e11, e12, e13]) ∧ Below W.heap.size W w')
    (ht : ∀ W v, v = .agg #[.int .u8 (k : Nat), .int .u8 (f : Nat), e2, e3, e4, e5, e6, e7, e8, e9, e10, e11, e12, e13] → Calls Tryd.prog 41 #[v] W fun e w' => e = .returned B ∧ Below W.heap.size W w')
    (hg : ∀ W, (eqGuard .neq 86 (.tmp 7) (.tmp 14) A B).run Tryd.prog W = .ok () W) (hq : ∀ W, (binOp .neq 86 A B).run Tryd.prog W = .ok (.bool true) W) :
    Calls Tryd.prog 24 #[.agg #[.int .u8 (k : Nat), .int .u8 (f : Nat), c2, c3, c4, c5, c6, c7, c8, c9, c10, c11, c12, c13]] w fun e w' => e = .returned (.int .i64 2) ∧ Below w.heap.size w w' := by
  have HS : Hid (∀ W, Below (w.alloc (.cells #[.int .u8 (k : Nat), .int .u8 (f : Nat), c2, c3, c4, c5, c6, c7, c8, c9, c10, c11, c12, c13] 32)).heap.size (w.alloc (.cells #[.int .u8 (k : Nat), .int .u8 (f : Nat), c2, c3, c4, c5, c6, c7, c8, c9, c10, c11, c12, c13] 32)) W → W.cell? ⟨w.heap.size, 0, none⟩ = some (.int .u8 (k : Nat)) ∧ W.cell? ⟨w.heap.size, 1, none⟩ = some (.int .u8 (f : Nat)) ∧ W.cell? ⟨w.heap.size, 2, none⟩ = some (c2) ∧ W.cell? ⟨w.heap.size, 3, none⟩ = some (c3) ∧ W.cell? ⟨w.heap.size, 4, none⟩ = some (c4) ∧ W.cell? ⟨w.heap.size, 5, none⟩ = some (c5) ∧ W.cell? ⟨w.heap.size, 6, none⟩ = some (c6) ∧ W.cell? ⟨w.heap.size, 7, none⟩ = some (c7) ∧ W.cell? ⟨w.heap.size, 8, none⟩ = some (c8) ∧ W.cell? ⟨w.heap.size, 9, none⟩ = some (c9) ∧ W.cell? ⟨w.heap.size, 10, none⟩ = some (c10) ∧ W.cell? ⟨w.heap.size, 11, none⟩ = some (c11) ∧ W.cell? ⟨w.heap.size, 12, none⟩ = some (c12) ∧ W.cell? ⟨w.heap.size, 13, none⟩ = some (c13)) := by
    show ∀ _, _
    intro W hW
    have hst := (Stc.new w [.int .u8 (k : Nat), .int .u8 (f : Nat), c2, c3, c4, c5, c6, c7, c8, c9, c10, c11, c12, c13] 32 _ rfl).below hW
    exact ⟨hst.cell 0 _ rfl, hst.cell 1 _ rfl, hst.cell 2 _ rfl, hst.cell 3 _ rfl, hst.cell 4 _ rfl, hst.cell 5 _ rfl, hst.cell 6 _ rfl, hst.cell 7 _ rfl, hst.cell 8 _ rfl, hst.cell 9 _ rfl, hst.cell 10 _ rfl, hst.cell 11 _ rfl, hst.cell 12 _ rfl, hst.cell 13 _ rfl⟩
  go_enter Tryd.func24, Tryd.ntmps24
  go_wp2_with fail
  refine (hv _ _ rfl).mono ?_
  rintro e w1 ⟨rfl, hb1⟩
  have HB0 : Hid (∀ W, Below (w.alloc (.cells #[.int .u8 (k : Nat), .int .u8 (f : Nat), c2, c3, c4, c5, c6, c7, c8, c9, c10, c11, c12, c13] 32)).heap.size (w.alloc (.cells #[.int .u8 (k : Nat), .int .u8 (f : Nat), c2, c3, c4, c5, c6, c7, c8, c9, c10, c11, c12, c13] 32)) W → Below w.heap.size w W) := fun W hW => ((Below.refl _ _).alloc (Nat.le_refl _) _).trans (hW.mono (by simp))
  generalize hw0 : w.alloc (.cells #[.int .u8 (k : Nat), .int .u8 (f : Nat), c2, c3, c4, c5, c6, c7, c8, c9, c10, c11, c12, c13] 32) = w0 at *
  clear hv hw0
  obtain ⟨s0, s1, s2, s3, s4, s5, s6, s7, s8, s9, s10, s11, s12, s13⟩ := HS.out w1 hb1
  go_wp2_with fail
  have hB := blw_next hb1 (Below.refl _ _).drew
  clear hb1 s0 s1 s2 s3 s4 s5 s6 s7 s8 s9 s10 s11 s12 s13
  obtain ⟨d0, d1, d2, d3, d4, d5, d6, d7, d8, d9, d10, d11, d12, d13⟩ := HS.out _ hB
  refine wp_region_held_drew (S := (fun w' => w'.cell? ⟨w.heap.size, 0, none⟩ = some (.int .u8 (k : Nat)) ∧ w'.cell? ⟨w.heap.size, 1, none⟩ = some (.int .u8 (f : Nat)) ∧ w'.cell? ⟨w.heap.size, 2, none⟩ = some (c2) ∧ w'.cell? ⟨w.heap.size, 3, none⟩ = some (c3) ∧ w'.cell? ⟨w.heap.size, 4, none⟩ = some (c4) ∧ w'.cell? ⟨w.heap.size, 5, none⟩ = some (c5) ∧ w'.cell? ⟨w.heap.size, 6, none⟩ = some (c6) ∧ w'.cell? ⟨w.heap.size, 7, none⟩ = some (c7) ∧ w'.cell? ⟨w.heap.size, 8, none⟩ = some (c8) ∧ w'.cell? ⟨w.heap.size, 9, none⟩ = some (c9) ∧ w'.cell? ⟨w.heap.size, 10, none⟩ = some (c10) ∧ w'.cell? ⟨w.heap.size, 11, none⟩ = some (c11) ∧ w'.cell? ⟨w.heap.size, 12, none⟩ = some (c12) ∧ w'.cell? ⟨w.heap.size, 13, none⟩ = some (c13))) (by kernel_rfl) ?hS (fun hHeld => ?_)
  case hS => (first | exact HS.out _ hB | exact HS.out _ (blw_next hB (Below.refl _ _).drew) | fail)
  refine wpAnyH_take (i := 0) (v := ?v0) (by simp only [List.getElem?_toArray, List.getElem?_cons_succ, List.getElem?_cons_zero]; rfl) (by kernel_rfl) (by kernel_rfl) (by kernel_rfl) (by exact fun _ _ _ h => h) (Or.inl ⟨by rfl, ?hy0⟩) (by assumption) ?rest0
  case hy0 => (intro w hSw; (try dsimp only at hSw); go_simp; try with_reducible rfl)
  try simp only [Act.put, List.setIfInBounds_toArray, List.set_cons_zero, List.set_cons_succ]
  refine wpAnyH_take (i := 2) (v := ?v2) (by simp only [List.getElem?_toArray, List.getElem?_cons_succ, List.getElem?_cons_zero]; rfl) (by kernel_rfl) (by kernel_rfl) (by kernel_rfl) (by exact fun _ _ _ h => h) (Or.inl ⟨by rfl, ?hy2⟩) (by assumption) ?rest2
  case hy2 => (intro w hSw; (try dsimp only at hSw); go_simp; try with_reducible rfl)
  try simp only [Act.put, List.setIfInBounds_toArray, List.set_cons_zero, List.set_cons_succ]
  refine wpAnyH_take (i := 3) (v := ?v3) (by simp only [List.getElem?_toArray, List.getElem?_cons_succ, List.getElem?_cons_zero]; rfl) (by kernel_rfl) (by kernel_rfl) (by kernel_rfl) (by exact fun _ _ _ h => h) (Or.inl ⟨by rfl, ?hy3⟩) (by assumption) ?rest3
  case hy3 => (intro w hSw; (try dsimp only at hSw); go_simp; try with_reducible rfl)
  try simp only [Act.put, List.setIfInBounds_toArray, List.set_cons_zero, List.set_cons_succ]
  refine wpAnyH_take (i := 4) (v := ?v4) (by simp only [List.getElem?_toArray, List.getElem?_cons_succ, List.getElem?_cons_zero]; rfl) (by kernel_rfl) (by kernel_rfl) (by kernel_rfl) (by exact fun _ _ _ h => h) (Or.inl ⟨by rfl, ?hy4⟩) (by assumption) ?rest4
  case hy4 => (intro w hSw; (try dsimp only at hSw); go_simp; try with_reducible rfl)
  try simp only [Act.put, List.setIfInBounds_toArray, List.set_cons_zero, List.set_cons_succ]
  refine wpAnyH_take (i := 5) (v := ?v5) (by simp only [List.getElem?_toArray, List.getElem?_cons_succ, List.getElem?_cons_zero]; rfl) (by kernel_rfl) (by kernel_rfl) (by kernel_rfl) (by exact fun _ _ _ h => h) (Or.inl ⟨by rfl, ?hy5⟩) (by assumption) ?rest5
  case hy5 => (intro w hSw; (try dsimp only at hSw); go_simp; try with_reducible rfl)
  try simp only [Act.put, List.setIfInBounds_toArray, List.set_cons_zero, List.set_cons_succ]
  refine wpAnyH_take (i := 6) (v := ?v6) (by simp only [List.getElem?_toArray, List.getElem?_cons_succ, List.getElem?_cons_zero]; rfl) (by kernel_rfl) (by kernel_rfl) (by kernel_rfl) (by exact fun _ _ _ h => h) (Or.inl ⟨by rfl, ?hy6⟩) (by assumption) ?rest6
  case hy6 => (intro w hSw; (try dsimp only at hSw); go_simp; try with_reducible rfl)
  try simp only [Act.put, List.setIfInBounds_toArray, List.set_cons_zero, List.set_cons_succ]
  refine wpAnyH_ready (rs := [1]) (by kernel_rfl) (by simp) ?_
  refine AllReadyH.cons rfl (fun K hK => ?_) AllReadyH.nil
  go_simp
  refine (hs _ _ (by rfl)).mono ?_
  rintro e wa ⟨rfl, hx⟩
  have hB := blw_next (blw_next hB (by first | exact Below.refl _ _ | exact (Below.refl _ _).drew)) hx
  clear hx
  try go_wp2_with fail
  refine hK.out _ _ ?hS1 (fun hHeld2 => ?_)
  case hS1 => (first | exact HS.out _ hB | exact HS.out _ (blw_next hB (Below.refl _ _).drew) | fail)
  clear hK K
  clear hHeld
  have hHeld := hHeld2
  clear hHeld2
  refine wpAnyH_ready (rs := [7]) (by kernel_rfl) (by simp) ?_
  refine AllReadyH.cons rfl (fun K hK => ?_) AllReadyH.nil
  go_simp
  refine (hc _ _ _ _ (by rfl) (by rfl) (by rfl)).mono ?_
  rintro e wc ⟨rfl, hx⟩
  have hB := blw_next (blw_next hB (by first | exact Below.refl _ _ | exact (Below.refl _ _).drew)) hx
  clear hx
  try go_wp2_with fail
  refine hK.out _ _ ?hS7 (fun hHeld2 => ?_)
  case hS7 => (first | exact HS.out _ hB | exact HS.out _ (blw_next hB (Below.refl _ _).drew) | fail)
  clear hK K
  clear hHeld
  have hHeld := hHeld2
  clear hHeld2
  refine wpAnyH_ready (rs := [8]) (by kernel_rfl) (by simp) ?_
  refine AllReadyH.cons rfl (fun K hK => ?_) AllReadyH.nil
  go_simp
  refine (ht _ _ (by rfl)).mono ?_
  rintro e wb ⟨rfl, hx⟩
  have hB := blw_next (blw_next hB (by first | exact Below.refl _ _ | exact (Below.refl _ _).drew)) hx
  clear hx
  try go_wp2_with fail
  refine hK.out _ _ ?hS8 (fun hHeld2 => ?_)
  case hS8 => (first | exact HS.out _ hB | exact HS.out _ (blw_next hB (Below.refl _ _).drew) | fail)
  clear hK K
  clear hHeld
  have hHeld := hHeld2
  clear hHeld2
  refine wpAnyH_take (i := 9) (v := ?v9) (by simp only [List.getElem?_toArray, List.getElem?_cons_succ, List.getElem?_cons_zero]; rfl) (by kernel_rfl) (by kernel_rfl) (by kernel_rfl) (by exact fun _ _ _ h => h) (Or.inl ⟨by rfl, ?hy9⟩) (by assumption) ?rest9
  case hy9 => (intro w hSw; (try dsimp only at hSw); go_simp; try with_reducible rfl)
  try simp only [Act.put, List.setIfInBounds_toArray, List.set_cons_zero, List.set_cons_succ]
  refine wpAnyH_take (i := 10) (v := ?v10) (by simp only [List.getElem?_toArray, List.getElem?_cons_succ, List.getElem?_cons_zero]; rfl) (by kernel_rfl) (by kernel_rfl) (by kernel_rfl) (by exact fun _ _ _ h => h) (Or.inl ⟨by rfl, ?hy10⟩) (by assumption) ?rest10
  case hy10 => (intro w hSw; (try dsimp only at hSw); go_simp; try with_reducible rfl)
  try simp only [Act.put, List.setIfInBounds_toArray, List.set_cons_zero, List.set_cons_succ]
  refine wpAnyH_take (i := 11) (v := undef) (by simp only [List.getElem?_toArray, List.getElem?_cons_succ, List.getElem?_cons_zero]; rfl) (by kernel_rfl) (by kernel_rfl) (by kernel_rfl) (by exact fun _ _ _ h => h) (Or.inr ⟨by rfl, rfl⟩) (by assumption) ?_
  try simp only [Act.put, List.setIfInBounds_toArray, List.set_cons_zero, List.set_cons_succ]
  refine wpAnyH_take (i := 12) (v := undef) (by simp only [List.getElem?_toArray, List.getElem?_cons_succ, List.getElem?_cons_zero]; rfl) (by kernel_rfl) (by kernel_rfl) (by kernel_rfl) (by exact fun _ _ _ h => h) (Or.inr ⟨by rfl, rfl⟩) (by assumption) ?_
  try simp only [Act.put, List.setIfInBounds_toArray, List.set_cons_zero, List.set_cons_succ]
  refine wpAnyH_take (i := 13) (v := ?v13) (by simp only [List.getElem?_toArray, List.getElem?_cons_succ, List.getElem?_cons_zero]; rfl) (by kernel_rfl) (by kernel_rfl) (by kernel_rfl) (by exact fun _ _ _ h => h) (Or.inl ⟨by rfl, ?hy13⟩) (by assumption) ?rest13
  case hy13 => (intro w hSw; (try dsimp only at hSw); go_simp; try with_reducible rfl)
  try simp only [Act.put, List.setIfInBounds_toArray, List.set_cons_zero, List.set_cons_succ]
  refine wpAnyH_done (by kernel_rfl) ?_ _
  have HBL := (show Hid _ from HB0.out _ hB)
  clear hB HS HB0 hs ht hc hg hq
  go_wp2
  go_ret
  exact ⟨rfl, HBL.out⟩
end Go.Proofs.YtlgfbcfogcmdbaaDoor
