/- What chunk.Check answers, in letters. -/
import Derived.Test.YtlgfbcfogcmdbaaDoorCh7
namespace Go.Proofs.YtlgfbcfogcmdbaaDoor
open Go.RowKit
theorem blw_next {w0 W V : World} (h : Below w0.heap.size w0 W) (h2 : Below W.heap.size W V) : Below w0.heap.size w0 V := h.trans (h2.mono h.size)
set_option linter.unusedVariables false in
set_option maxRecDepth 100000 in
set_option maxHeartbeats 2000000 in
theorem check_lacks (k f : Nat) (c2 c3 c4 c5 c6 c7 c8 c9 c10 c11 c12 c13 e2 e3 e4 e5 e6 e7 e8 e9 e10 e11 e12 e13 V A B : Value) (w : World)
    (hv : ∀ W v, v = .agg #[.int .u8 (k : Nat), .int .u8 (f : Nat), c2, c3, c4, c5, c6, c7, c8, c9, c10, c11, c12, c13] → Calls Tryd.prog 26 #[v] W fun e w' => e = .returned V ∧ Below W.heap.size W w')
    (hs : ∀ W v, v = .agg #[.int .u8 (k : Nat), .int .u8 (f : Nat), c2, c3, c4, c5, c6, c7, c8, c9, c10, c11, c12, c13] → Calls Tryd.prog 41 #[v] W fun e w' => e = .returned A ∧ Below W.heap.size W w')
    (hc : ∀ W v1 v2 v3, v1 = .int .u8 (k : Nat) → v2 = .int .u8 (f : Nat) → v3 = V → Calls Tryd.prog 42 #[v1, v2, v3] W fun e w' => e = .returned (.agg #[.int .u8 (k : Nat), .int .u8 (f : Nat), e2, e3, e4, e5, e6, e7, e8, e9, e10, e11, e12, e13]) ∧ Below W.heap.size W w')
    (ht : ∀ W v, v = .agg #[.int .u8 (k : Nat), .int .u8 (f : Nat), e2, e3, e4, e5, e6, e7, e8, e9, e10, e11, e12, e13] → Calls Tryd.prog 41 #[v] W fun e w' => e = .returned B ∧ Below W.heap.size W w')
    (hg : ∀ W, (eqGuard .neq 86 (.tmp 7) (.tmp 14) A B).run Tryd.prog W = .ok () W) (hq : ∀ W, (binOp .neq 86 A B).run Tryd.prog W = .ok (.bool false) W)
    (hl : ∀ W v, v = V → Calls Tryd.prog 43 #[v] W fun e w' => e = .returned (.bool true) ∧ Below W.heap.size W w') :
    Calls Tryd.prog 24 #[.agg #[.int .u8 (k : Nat), .int .u8 (f : Nat), c2, c3, c4, c5, c6, c7, c8, c9, c10, c11, c12, c13]] w fun e w' => e = .returned (.int .i64 2) ∧ Below w.heap.size w w' := by
  have HS : Hid (∀ W, Below (w.alloc (.cells #[.int .u8 (k : Nat), .int .u8 (f : Nat), c2, c3, c4, c5, c6, c7, c8, c9, c10, c11, c12, c13] 32)).heap.size (w.alloc (.cells #[.int .u8 (k : Nat), .int .u8 (f : Nat), c2, c3, c4, c5, c6, c7, c8, c9, c10, c11, c12, c13] 32)) W → W.cell? ⟨w.heap.size, 0, none⟩ = some (.int .u8 (k : Nat)) ∧ W.cell? ⟨w.heap.size, 1, none⟩ = some (.int .u8 (f : Nat)) ∧ W.cell? ⟨w.heap.size, 2, none⟩ = some (c2) ∧ W.cell? ⟨w.heap.size, 3, none⟩ = some (c3) ∧ W.cell? ⟨w.heap.size, 4, none⟩ = some (c4) ∧ W.cell? ⟨w.heap.size, 5, none⟩ = some (c5) ∧ W.cell? ⟨w.heap.size, 6, none⟩ = some (c6) ∧ W.cell? ⟨w.heap.size, 7, none⟩ = some (c7) ∧ W.cell? ⟨w.heap.size, 8, none⟩ = some (c8) ∧ W.cell? ⟨w.heap.size, 9, none⟩ = some (c9) ∧ W.cell? ⟨w.heap.size, 10, none⟩ = some (c10) ∧ W.cell? ⟨w.heap.size, 11, none⟩ = some (c11) ∧ W.cell? ⟨w.heap.size, 12, none⟩ = some (c12) ∧ W.cell? ⟨w.heap.size, 13, none⟩ = some (c13)) := by
    show ∀ _, _
    intro W hW
    have hst := (Stc.new w [.int .u8 (k : Nat), .int .u8 (f : Nat), c2, c3, c4, c5, c6, c7, c8, c9, c10, c11, c12, c13] 32 _ rfl).below hW
    exact ⟨hst.cell 0 _ rfl, hst.cell 1 _ rfl, hst.cell 2 _ rfl, hst.cell 3 _ rfl, hst.cell 4 _ rfl, hst.cell 5 _ rfl, hst.cell 6 _ rfl, hst.cell 7 _ rfl, hst.cell 8 _ rfl, hst.cell 9 _ rfl, hst.cell 10 _ rfl, hst.cell 11 _ rfl, hst.cell 12 _ rfl, hst.cell 13 _ rfl⟩
  go_enter Tryd.func24, Tryd.ntmps24
  go_wp2_with fail
  refine (hv _ _ rfl).mono ?_
  rintro e w1 ⟨rfl, hb1⟩
  have HB0 : Hid (∀ W, Below (w.alloc (.cells #[.int .u8 (k : Nat), .int .u8 (f : Nat), c2, c3, c4, c5, c6, c7, c8, c9, c10, c11, c12, c13] 32)).heap.size (w.alloc (.cells #[.int .u8 (k : Nat), .int .u8 (f : Nat), c2, c3, c4, c5, c6, c7, c8, c9, c10, c11, c12, c13] 32)) W → Below w.heap.size w W) := fun W hW => ((Below.refl _ _).alloc (Nat.le_refl _) _).trans (hW.mono (by simp))
  generalize hw0 : w.alloc (.cells #[.int .u8 (k : Nat), .int .u8 (f : Nat), c2, c3, c4, c5, c6, c7, c8, c9, c10, c11, c12, c13] 32) = w0 at *
  clear hv hw0
  obtain ⟨s0, s1, s2, s3, s4, s5, s6, s7, s8, s9, s10, s11, s12, s13⟩ := HS.out w1 hb1
  go_wp2_with fail
  have hB := blw_next hb1 (Below.refl _ _).drew
  clear hb1 s0 s1 s2 s3 s4 s5 s6 s7 s8 s9 s10 s11 s12 s13
  obtain ⟨d0, d1, d2, d3, d4, d5, d6, d7, d8, d9, d10, d11, d12, d13⟩ := HS.out _ hB
  go_region_held3 (fun w' => w'.cell? ⟨w.heap.size, 0, none⟩ = some (.int .u8 (k : Nat)) ∧ w'.cell? ⟨w.heap.size, 1, none⟩ = some (.int .u8 (f : Nat)) ∧ w'.cell? ⟨w.heap.size, 2, none⟩ = some (c2) ∧ w'.cell? ⟨w.heap.size, 3, none⟩ = some (c3) ∧ w'.cell? ⟨w.heap.size, 4, none⟩ = some (c4) ∧ w'.cell? ⟨w.heap.size, 5, none⟩ = some (c5) ∧ w'.cell? ⟨w.heap.size, 6, none⟩ = some (c6) ∧ w'.cell? ⟨w.heap.size, 7, none⟩ = some (c7) ∧ w'.cell? ⟨w.heap.size, 8, none⟩ = some (c8) ∧ w'.cell? ⟨w.heap.size, 9, none⟩ = some (c9) ∧ w'.cell? ⟨w.heap.size, 10, none⟩ = some (c10) ∧ w'.cell? ⟨w.heap.size, 11, none⟩ = some (c11) ∧ w'.cell? ⟨w.heap.size, 12, none⟩ = some (c12) ∧ w'.cell? ⟨w.heap.size, 13, none⟩ = some (c13)) (first | exact HS.out _ (by assumption) | exact HS.out _ (blw_next (by assumption) (Below.refl _ _).drew) | fail) (first
    | (go_at_call 41; first
      | (refine (hs _ _ (by rfl)).mono ?_; rintro e wa ⟨rfl, hx⟩; have hB := blw_next (blw_next hB (by first | exact Below.refl _ _ | exact (Below.refl _ _).drew)) hx; obtain ⟨wa0, wa1, wa2, wa3, wa4, wa5, wa6, wa7, wa8, wa9, wa10, wa11, wa12, wa13⟩ := HS.out _ hB; clear hx)
      | (refine (ht _ _ (by rfl)).mono ?_; rintro e wb ⟨rfl, hx⟩; have hB := blw_next (blw_next hB (by first | exact Below.refl _ _ | exact (Below.refl _ _).drew)) hx; obtain ⟨wb0, wb1, wb2, wb3, wb4, wb5, wb6, wb7, wb8, wb9, wb10, wb11, wb12, wb13⟩ := HS.out _ hB; clear hx)
      | fail)
    | (go_at_call 42; refine (hc _ _ _ _ (by rfl) (by rfl) (by rfl)).mono ?_; rintro e wc ⟨rfl, hx⟩; have hB := blw_next (blw_next hB (by first | exact Below.refl _ _ | exact (Below.refl _ _).drew)) hx; obtain ⟨wc0, wc1, wc2, wc3, wc4, wc5, wc6, wc7, wc8, wc9, wc10, wc11, wc12, wc13⟩ := HS.out _ hB; clear hx)
    | (go_at_call 43; refine (hl _ _ (by rfl)).mono ?_; rintro e wd ⟨rfl, hx⟩; have hB := blw_next (blw_next hB (by first | exact Below.refl _ _ | exact (Below.refl _ _).drew)) hx; obtain ⟨wd0, wd1, wd2, wd3, wd4, wd5, wd6, wd7, wd8, wd9, wd10, wd11, wd12, wd13⟩ := HS.out _ hB; clear hx)
    | fail)
  have HBL := (show Hid _ from HB0.out _ hB)
  clear hB HS HB0 hs ht hc hg hq hl
  go_wp2
  go_ret
  exact ⟨rfl, HBL.out⟩
set_option linter.unusedVariables false in
set_option maxRecDepth 100000 in
set_option maxHeartbeats 2000000 in
theorem check_many (k f : Nat) (c2 c3 c4 c5 c6 c7 c8 c9 c10 c11 c12 c13 e2 e3 e4 e5 e6 e7 e8 e9 e10 e11 e12 e13 V A B : Value) (w : World)
    (hv : ∀ W v, v = .agg #[.int .u8 (k : Nat), .int .u8 (f : Nat), c2, c3, c4, c5, c6, c7, c8, c9, c10, c11, c12, c13] → Calls Tryd.prog 26 #[v] W fun e w' => e = .returned V ∧ Below W.heap.size W w')
    (hs : ∀ W v, v = .agg #[.int .u8 (k : Nat), .int .u8 (f : Nat), c2, c3, c4, c5, c6, c7, c8, c9, c10, c11, c12, c13] → Calls Tryd.prog 41 #[v] W fun e w' => e = .returned A ∧ Below W.heap.size W w')
    (hc : ∀ W v1 v2 v3, v1 = .int .u8 (k : Nat) → v2 = .int .u8 (f : Nat) → v3 = V → Calls Tryd.prog 42 #[v1, v2, v3] W fun e w' => e = .returned (.agg #[.int .u8 (k : Nat), .int .u8 (f : Nat), e2, e3, e4, e5, e6, e7, e8, e9, e10, e11, e12, e13]) ∧ Below W.heap.size W w')
    (ht : ∀ W v, v = .agg #[.int .u8 (k : Nat), .int .u8 (f : Nat), e2, e3, e4, e5, e6, e7, e8, e9, e10, e11, e12, e13] → Calls Tryd.prog 41 #[v] W fun e w' => e = .returned B ∧ Below W.heap.size W w')
    (hg : ∀ W, (eqGuard .neq 86 (.tmp 7) (.tmp 14) A B).run Tryd.prog W = .ok () W) (hq : ∀ W, (binOp .neq 86 A B).run Tryd.prog W = .ok (.bool false) W)
    (hl : ∀ W v, v = V → Calls Tryd.prog 43 #[v] W fun e w' => e = .returned (.bool false) ∧ Below W.heap.size W w')
    (hm : ∀ W v, v = V → Calls Tryd.prog 44 #[v] W fun e w' => e = .returned (.bool true) ∧ Below W.heap.size W w') :
    Calls Tryd.prog 24 #[.agg #[.int .u8 (k : Nat), .int .u8 (f : Nat), c2, c3, c4, c5, c6, c7, c8, c9, c10, c11, c12, c13]] w fun e w' => e = .returned (.int .i64 6) ∧ Below w.heap.size w w' := by
  have HS : Hid (∀ W, Below (w.alloc (.cells #[.int .u8 (k : Nat), .int .u8 (f : Nat), c2, c3, c4, c5, c6, c7, c8, c9, c10, c11, c12, c13] 32)).heap.size (w.alloc (.cells #[.int .u8 (k : Nat), .int .u8 (f : Nat), c2, c3, c4, c5, c6, c7, c8, c9, c10, c11, c12, c13] 32)) W → W.cell? ⟨w.heap.size, 0, none⟩ = some (.int .u8 (k : Nat)) ∧ W.cell? ⟨w.heap.size, 1, none⟩ = some (.int .u8 (f : Nat)) ∧ W.cell? ⟨w.heap.size, 2, none⟩ = some (c2) ∧ W.cell? ⟨w.heap.size, 3, none⟩ = some (c3) ∧ W.cell? ⟨w.heap.size, 4, none⟩ = some (c4) ∧ W.cell? ⟨w.heap.size, 5, none⟩ = some (c5) ∧ W.cell? ⟨w.heap.size, 6, none⟩ = some (c6) ∧ W.cell? ⟨w.heap.size, 7, none⟩ = some (c7) ∧ W.cell? ⟨w.heap.size, 8, none⟩ = some (c8) ∧ W.cell? ⟨w.heap.size, 9, none⟩ = some (c9) ∧ W.cell? ⟨w.heap.size, 10, none⟩ = some (c10) ∧ W.cell? ⟨w.heap.size, 11, none⟩ = some (c11) ∧ W.cell? ⟨w.heap.size, 12, none⟩ = some (c12) ∧ W.cell? ⟨w.heap.size, 13, none⟩ = some (c13)) := by
    show ∀ _, _
    intro W hW
    have hst := (Stc.new w [.int .u8 (k : Nat), .int .u8 (f : Nat), c2, c3, c4, c5, c6, c7, c8, c9, c10, c11, c12, c13] 32 _ rfl).below hW
    exact ⟨hst.cell 0 _ rfl, hst.cell 1 _ rfl, hst.cell 2 _ rfl, hst.cell 3 _ rfl, hst.cell 4 _ rfl, hst.cell 5 _ rfl, hst.cell 6 _ rfl, hst.cell 7 _ rfl, hst.cell 8 _ rfl, hst.cell 9 _ rfl, hst.cell 10 _ rfl, hst.cell 11 _ rfl, hst.cell 12 _ rfl, hst.cell 13 _ rfl⟩
  go_enter Tryd.func24, Tryd.ntmps24
  go_wp2_with fail
  refine (hv _ _ rfl).mono ?_
  rintro e w1 ⟨rfl, hb1⟩
  have HB0 : Hid (∀ W, Below (w.alloc (.cells #[.int .u8 (k : Nat), .int .u8 (f : Nat), c2, c3, c4, c5, c6, c7, c8, c9, c10, c11, c12, c13] 32)).heap.size (w.alloc (.cells #[.int .u8 (k : Nat), .int .u8 (f : Nat), c2, c3, c4, c5, c6, c7, c8, c9, c10, c11, c12, c13] 32)) W → Below w.heap.size w W) := fun W hW => ((Below.refl _ _).alloc (Nat.le_refl _) _).trans (hW.mono (by simp))
  generalize hw0 : w.alloc (.cells #[.int .u8 (k : Nat), .int .u8 (f : Nat), c2, c3, c4, c5, c6, c7, c8, c9, c10, c11, c12, c13] 32) = w0 at *
  clear hv hw0
  obtain ⟨s0, s1, s2, s3, s4, s5, s6, s7, s8, s9, s10, s11, s12, s13⟩ := HS.out w1 hb1
  go_wp2_with fail
  have hB := blw_next hb1 (Below.refl _ _).drew
  clear hb1 s0 s1 s2 s3 s4 s5 s6 s7 s8 s9 s10 s11 s12 s13
  obtain ⟨d0, d1, d2, d3, d4, d5, d6, d7, d8, d9, d10, d11, d12, d13⟩ := HS.out _ hB
  go_region_held3 (fun w' => w'.cell? ⟨w.heap.size, 0, none⟩ = some (.int .u8 (k : Nat)) ∧ w'.cell? ⟨w.heap.size, 1, none⟩ = some (.int .u8 (f : Nat)) ∧ w'.cell? ⟨w.heap.size, 2, none⟩ = some (c2) ∧ w'.cell? ⟨w.heap.size, 3, none⟩ = some (c3) ∧ w'.cell? ⟨w.heap.size, 4, none⟩ = some (c4) ∧ w'.cell? ⟨w.heap.size, 5, none⟩ = some (c5) ∧ w'.cell? ⟨w.heap.size, 6, none⟩ = some (c6) ∧ w'.cell? ⟨w.heap.size, 7, none⟩ = some (c7) ∧ w'.cell? ⟨w.heap.size, 8, none⟩ = some (c8) ∧ w'.cell? ⟨w.heap.size, 9, none⟩ = some (c9) ∧ w'.cell? ⟨w.heap.size, 10, none⟩ = some (c10) ∧ w'.cell? ⟨w.heap.size, 11, none⟩ = some (c11) ∧ w'.cell? ⟨w.heap.size, 12, none⟩ = some (c12) ∧ w'.cell? ⟨w.heap.size, 13, none⟩ = some (c13)) (first | exact HS.out _ (by assumption) | exact HS.out _ (blw_next (by assumption) (Below.refl _ _).drew) | fail) (first
    | (go_at_call 41; first
      | (refine (hs _ _ (by rfl)).mono ?_; rintro e wa ⟨rfl, hx⟩; have hB := blw_next (blw_next hB (by first | exact Below.refl _ _ | exact (Below.refl _ _).drew)) hx; obtain ⟨wa0, wa1, wa2, wa3, wa4, wa5, wa6, wa7, wa8, wa9, wa10, wa11, wa12, wa13⟩ := HS.out _ hB; clear hx)
      | (refine (ht _ _ (by rfl)).mono ?_; rintro e wb ⟨rfl, hx⟩; have hB := blw_next (blw_next hB (by first | exact Below.refl _ _ | exact (Below.refl _ _).drew)) hx; obtain ⟨wb0, wb1, wb2, wb3, wb4, wb5, wb6, wb7, wb8, wb9, wb10, wb11, wb12, wb13⟩ := HS.out _ hB; clear hx)
      | fail)
    | (go_at_call 42; refine (hc _ _ _ _ (by rfl) (by rfl) (by rfl)).mono ?_; rintro e wc ⟨rfl, hx⟩; have hB := blw_next (blw_next hB (by first | exact Below.refl _ _ | exact (Below.refl _ _).drew)) hx; obtain ⟨wc0, wc1, wc2, wc3, wc4, wc5, wc6, wc7, wc8, wc9, wc10, wc11, wc12, wc13⟩ := HS.out _ hB; clear hx)
    | (go_at_call 43; refine (hl _ _ (by rfl)).mono ?_; rintro e wd ⟨rfl, hx⟩; have hB := blw_next (blw_next hB (by first | exact Below.refl _ _ | exact (Below.refl _ _).drew)) hx; obtain ⟨wd0, wd1, wd2, wd3, wd4, wd5, wd6, wd7, wd8, wd9, wd10, wd11, wd12, wd13⟩ := HS.out _ hB; clear hx)
    | fail)
  have hBL := HB0.out _ hB
  clear hB HS HB0 hs ht hc hg hq hl
  go_wp2_with fail
  refine (hm _ _ rfl).mono ?_
  rintro e w5 ⟨rfl, h5⟩
  have HBL := (show Hid _ from blw_next hBL h5)
  clear hm hBL h5
  go_wp2
  go_ret
  exact ⟨rfl, HBL.out⟩
set_option linter.unusedVariables false in
set_option maxRecDepth 100000 in
set_option maxHeartbeats 2000000 in
theorem check_wide (k f : Nat) (c2 c3 c4 c5 c6 c7 c8 c9 c10 c11 c12 c13 e2 e3 e4 e5 e6 e7 e8 e9 e10 e11 e12 e13 V A B : Value) (w : World)
    (hv : ∀ W v, v = .agg #[.int .u8 (k : Nat), .int .u8 (f : Nat), c2, c3, c4, c5, c6, c7, c8, c9, c10, c11, c12, c13] → Calls Tryd.prog 26 #[v] W fun e w' => e = .returned V ∧ Below W.heap.size W w')
    (hs : ∀ W v, v = .agg #[.int .u8 (k : Nat), .int .u8 (f : Nat), c2, c3, c4, c5, c6, c7, c8, c9, c10, c11, c12, c13] → Calls Tryd.prog 41 #[v] W fun e w' => e = .returned A ∧ Below W.heap.size W w')
    (hc : ∀ W v1 v2 v3, v1 = .int .u8 (k : Nat) → v2 = .int .u8 (f : Nat) → v3 = V → Calls Tryd.prog 42 #[v1, v2, v3] W fun e w' => e = .returned (.agg #[.int .u8 (k : Nat), .int .u8 (f : Nat), e2, e3, e4, e5, e6, e7, e8, e9, e10, e11, e12, e13]) ∧ Below W.heap.size W w')
    (ht : ∀ W v, v = .agg #[.int .u8 (k : Nat), .int .u8 (f : Nat), e2, e3, e4, e5, e6, e7, e8, e9, e10, e11, e12, e13] → Calls Tryd.prog 41 #[v] W fun e w' => e = .returned B ∧ Below W.heap.size W w')
    (hg : ∀ W, (eqGuard .neq 86 (.tmp 7) (.tmp 14) A B).run Tryd.prog W = .ok () W) (hq : ∀ W, (binOp .neq 86 A B).run Tryd.prog W = .ok (.bool false) W)
    (hl : ∀ W v, v = V → Calls Tryd.prog 43 #[v] W fun e w' => e = .returned (.bool false) ∧ Below W.heap.size W w')
    (hm : ∀ W v, v = V → Calls Tryd.prog 44 #[v] W fun e w' => e = .returned (.bool false) ∧ Below W.heap.size W w')
    (n : Nat) (hn : 1468 < n) (hp : ∀ W v, v = V → Below w.heap.size w W → Calls Tryd.prog 25 #[v] W fun e w' => e = .returned (.int .i64 (n : Nat)) ∧ Below W.heap.size W w') :
    Calls Tryd.prog 24 #[.agg #[.int .u8 (k : Nat), .int .u8 (f : Nat), c2, c3, c4, c5, c6, c7, c8, c9, c10, c11, c12, c13]] w fun e w' => e = .returned (.int .i64 6) ∧ Below w.heap.size w w' := by
  have HS : Hid (∀ W, Below (w.alloc (.cells #[.int .u8 (k : Nat), .int .u8 (f : Nat), c2, c3, c4, c5, c6, c7, c8, c9, c10, c11, c12, c13] 32)).heap.size (w.alloc (.cells #[.int .u8 (k : Nat), .int .u8 (f : Nat), c2, c3, c4, c5, c6, c7, c8, c9, c10, c11, c12, c13] 32)) W → W.cell? ⟨w.heap.size, 0, none⟩ = some (.int .u8 (k : Nat)) ∧ W.cell? ⟨w.heap.size, 1, none⟩ = some (.int .u8 (f : Nat)) ∧ W.cell? ⟨w.heap.size, 2, none⟩ = some (c2) ∧ W.cell? ⟨w.heap.size, 3, none⟩ = some (c3) ∧ W.cell? ⟨w.heap.size, 4, none⟩ = some (c4) ∧ W.cell? ⟨w.heap.size, 5, none⟩ = some (c5) ∧ W.cell? ⟨w.heap.size, 6, none⟩ = some (c6) ∧ W.cell? ⟨w.heap.size, 7, none⟩ = some (c7) ∧ W.cell? ⟨w.heap.size, 8, none⟩ = some (c8) ∧ W.cell? ⟨w.heap.size, 9, none⟩ = some (c9) ∧ W.cell? ⟨w.heap.size, 10, none⟩ = some (c10) ∧ W.cell? ⟨w.heap.size, 11, none⟩ = some (c11) ∧ W.cell? ⟨w.heap.size, 12, none⟩ = some (c12) ∧ W.cell? ⟨w.heap.size, 13, none⟩ = some (c13)) := by
    show ∀ _, _
    intro W hW
    have hst := (Stc.new w [.int .u8 (k : Nat), .int .u8 (f : Nat), c2, c3, c4, c5, c6, c7, c8, c9, c10, c11, c12, c13] 32 _ rfl).below hW
    exact ⟨hst.cell 0 _ rfl, hst.cell 1 _ rfl, hst.cell 2 _ rfl, hst.cell 3 _ rfl, hst.cell 4 _ rfl, hst.cell 5 _ rfl, hst.cell 6 _ rfl, hst.cell 7 _ rfl, hst.cell 8 _ rfl, hst.cell 9 _ rfl, hst.cell 10 _ rfl, hst.cell 11 _ rfl, hst.cell 12 _ rfl, hst.cell 13 _ rfl⟩
  go_enter Tryd.func24, Tryd.ntmps24
  go_wp2_with fail
  refine (hv _ _ rfl).mono ?_
  rintro e w1 ⟨rfl, hb1⟩
  have HB0 : Hid (∀ W, Below (w.alloc (.cells #[.int .u8 (k : Nat), .int .u8 (f : Nat), c2, c3, c4, c5, c6, c7, c8, c9, c10, c11, c12, c13] 32)).heap.size (w.alloc (.cells #[.int .u8 (k : Nat), .int .u8 (f : Nat), c2, c3, c4, c5, c6, c7, c8, c9, c10, c11, c12, c13] 32)) W → Below w.heap.size w W) := fun W hW => ((Below.refl _ _).alloc (Nat.le_refl _) _).trans (hW.mono (by simp))
  generalize hw0 : w.alloc (.cells #[.int .u8 (k : Nat), .int .u8 (f : Nat), c2, c3, c4, c5, c6, c7, c8, c9, c10, c11, c12, c13] 32) = w0 at *
  clear hv hw0
  obtain ⟨s0, s1, s2, s3, s4, s5, s6, s7, s8, s9, s10, s11, s12, s13⟩ := HS.out w1 hb1
  go_wp2_with fail
  have hB := blw_next hb1 (Below.refl _ _).drew
  clear hb1 s0 s1 s2 s3 s4 s5 s6 s7 s8 s9 s10 s11 s12 s13
  obtain ⟨d0, d1, d2, d3, d4, d5, d6, d7, d8, d9, d10, d11, d12, d13⟩ := HS.out _ hB
  go_region_held3 (fun w' => w'.cell? ⟨w.heap.size, 0, none⟩ = some (.int .u8 (k : Nat)) ∧ w'.cell? ⟨w.heap.size, 1, none⟩ = some (.int .u8 (f : Nat)) ∧ w'.cell? ⟨w.heap.size, 2, none⟩ = some (c2) ∧ w'.cell? ⟨w.heap.size, 3, none⟩ = some (c3) ∧ w'.cell? ⟨w.heap.size, 4, none⟩ = some (c4) ∧ w'.cell? ⟨w.heap.size, 5, none⟩ = some (c5) ∧ w'.cell? ⟨w.heap.size, 6, none⟩ = some (c6) ∧ w'.cell? ⟨w.heap.size, 7, none⟩ = some (c7) ∧ w'.cell? ⟨w.heap.size, 8, none⟩ = some (c8) ∧ w'.cell? ⟨w.heap.size, 9, none⟩ = some (c9) ∧ w'.cell? ⟨w.heap.size, 10, none⟩ = some (c10) ∧ w'.cell? ⟨w.heap.size, 11, none⟩ = some (c11) ∧ w'.cell? ⟨w.heap.size, 12, none⟩ = some (c12) ∧ w'.cell? ⟨w.heap.size, 13, none⟩ = some (c13)) (first | exact HS.out _ (by assumption) | exact HS.out _ (blw_next (by assumption) (Below.refl _ _).drew) | fail) (first
    | (go_at_call 41; first
      | (refine (hs _ _ (by rfl)).mono ?_; rintro e wa ⟨rfl, hx⟩; have hB := blw_next (blw_next hB (by first | exact Below.refl _ _ | exact (Below.refl _ _).drew)) hx; obtain ⟨wa0, wa1, wa2, wa3, wa4, wa5, wa6, wa7, wa8, wa9, wa10, wa11, wa12, wa13⟩ := HS.out _ hB; clear hx)
      | (refine (ht _ _ (by rfl)).mono ?_; rintro e wb ⟨rfl, hx⟩; have hB := blw_next (blw_next hB (by first | exact Below.refl _ _ | exact (Below.refl _ _).drew)) hx; obtain ⟨wb0, wb1, wb2, wb3, wb4, wb5, wb6, wb7, wb8, wb9, wb10, wb11, wb12, wb13⟩ := HS.out _ hB; clear hx)
      | fail)
    | (go_at_call 42; refine (hc _ _ _ _ (by rfl) (by rfl) (by rfl)).mono ?_; rintro e wc ⟨rfl, hx⟩; have hB := blw_next (blw_next hB (by first | exact Below.refl _ _ | exact (Below.refl _ _).drew)) hx; obtain ⟨wc0, wc1, wc2, wc3, wc4, wc5, wc6, wc7, wc8, wc9, wc10, wc11, wc12, wc13⟩ := HS.out _ hB; clear hx)
    | (go_at_call 43; refine (hl _ _ (by rfl)).mono ?_; rintro e wd ⟨rfl, hx⟩; have hB := blw_next (blw_next hB (by first | exact Below.refl _ _ | exact (Below.refl _ _).drew)) hx; obtain ⟨wd0, wd1, wd2, wd3, wd4, wd5, wd6, wd7, wd8, wd9, wd10, wd11, wd12, wd13⟩ := HS.out _ hB; clear hx)
    | fail)
  have hBL := HB0.out _ hB
  clear hB HS HB0 hs ht hc hg hq hl
  have hn1 : (1468 : Int) < (n : Int) := by omega
  go_wp2_with fail
  refine (hm _ _ rfl).mono ?_
  rintro e w5 ⟨rfl, h5⟩
  have hBL := blw_next hBL h5
  clear hm h5
  go_wp2_with fail
  refine (hp _ _ rfl (by first | assumption | exact blw_next (by assumption) (Below.refl _ _).drew)).mono ?_
  rintro e w6 ⟨rfl, h6⟩
  have HBL := (show Hid _ from blw_next hBL h6)
  clear hp hBL h6
  go_wp2
  go_ret
  exact ⟨rfl, HBL.out⟩
set_option linter.unusedVariables false in
set_option maxRecDepth 100000 in
set_option maxHeartbeats 2000000 in
theorem check_fits (k f : Nat) (c2 c3 c4 c5 c6 c7 c8 c9 c10 c11 c12 c13 e2 e3 e4 e5 e6 e7 e8 e9 e10 e11 e12 e13 V A B : Value) (w : World)
    (hv : ∀ W v, v = .agg #[.int .u8 (k : Nat), .int .u8 (f : Nat), c2, c3, c4, c5, c6, c7, c8, c9, c10, c11, c12, c13] → Calls Tryd.prog 26 #[v] W fun e w' => e = .returned V ∧ Below W.heap.size W w')
    (hs : ∀ W v, v = .agg #[.int .u8 (k : Nat), .int .u8 (f : Nat), c2, c3, c4, c5, c6, c7, c8, c9, c10, c11, c12, c13] → Calls Tryd.prog 41 #[v] W fun e w' => e = .returned A ∧ Below W.heap.size W w')
    (hc : ∀ W v1 v2 v3, v1 = .int .u8 (k : Nat) → v2 = .int .u8 (f : Nat) → v3 = V → Calls Tryd.prog 42 #[v1, v2, v3] W fun e w' => e = .returned (.agg #[.int .u8 (k : Nat), .int .u8 (f : Nat), e2, e3, e4, e5, e6, e7, e8, e9, e10, e11, e12, e13]) ∧ Below W.heap.size W w')
    (ht : ∀ W v, v = .agg #[.int .u8 (k : Nat), .int .u8 (f : Nat), e2, e3, e4, e5, e6, e7, e8, e9, e10, e11, e12, e13] → Calls Tryd.prog 41 #[v] W fun e w' => e = .returned B ∧ Below W.heap.size W w')
    (hg : ∀ W, (eqGuard .neq 86 (.tmp 7) (.tmp 14) A B).run Tryd.prog W = .ok () W) (hq : ∀ W, (binOp .neq 86 A B).run Tryd.prog W = .ok (.bool false) W)
    (hl : ∀ W v, v = V → Calls Tryd.prog 43 #[v] W fun e w' => e = .returned (.bool false) ∧ Below W.heap.size W w')
    (hm : ∀ W v, v = V → Calls Tryd.prog 44 #[v] W fun e w' => e = .returned (.bool false) ∧ Below W.heap.size W w')
    (n : Nat) (hn : n ≤ 1468) (hp : ∀ W v, v = V → Below w.heap.size w W → Calls Tryd.prog 25 #[v] W fun e w' => e = .returned (.int .i64 (n : Nat)) ∧ Below W.heap.size W w') :
    Calls Tryd.prog 24 #[.agg #[.int .u8 (k : Nat), .int .u8 (f : Nat), c2, c3, c4, c5, c6, c7, c8, c9, c10, c11, c12, c13]] w fun e w' => e = .returned (.int .i64 0) ∧ Below w.heap.size w w' := by
  have HS : Hid (∀ W, Below (w.alloc (.cells #[.int .u8 (k : Nat), .int .u8 (f : Nat), c2, c3, c4, c5, c6, c7, c8, c9, c10, c11, c12, c13] 32)).heap.size (w.alloc (.cells #[.int .u8 (k : Nat), .int .u8 (f : Nat), c2, c3, c4, c5, c6, c7, c8, c9, c10, c11, c12, c13] 32)) W → W.cell? ⟨w.heap.size, 0, none⟩ = some (.int .u8 (k : Nat)) ∧ W.cell? ⟨w.heap.size, 1, none⟩ = some (.int .u8 (f : Nat)) ∧ W.cell? ⟨w.heap.size, 2, none⟩ = some (c2) ∧ W.cell? ⟨w.heap.size, 3, none⟩ = some (c3) ∧ W.cell? ⟨w.heap.size, 4, none⟩ = some (c4) ∧ W.cell? ⟨w.heap.size, 5, none⟩ = some (c5) ∧ W.cell? ⟨w.heap.size, 6, none⟩ = some (c6) ∧ W.cell? ⟨w.heap.size, 7, none⟩ = some (c7) ∧ W.cell? ⟨w.heap.size, 8, none⟩ = some (c8) ∧ W.cell? ⟨w.heap.size, 9, none⟩ = some (c9) ∧ W.cell? ⟨w.heap.size, 10, none⟩ = some (c10) ∧ W.cell? ⟨w.heap.size, 11, none⟩ = some (c11) ∧ W.cell? ⟨w.heap.size, 12, none⟩ = some (c12) ∧ W.cell? ⟨w.heap.size, 13, none⟩ = some (c13)) := by
    show ∀ _, _
    intro W hW
    have hst := (Stc.new w [.int .u8 (k : Nat), .int .u8 (f : Nat), c2, c3, c4, c5, c6, c7, c8, c9, c10, c11, c12, c13] 32 _ rfl).below hW
    exact ⟨hst.cell 0 _ rfl, hst.cell 1 _ rfl, hst.cell 2 _ rfl, hst.cell 3 _ rfl, hst.cell 4 _ rfl, hst.cell 5 _ rfl, hst.cell 6 _ rfl, hst.cell 7 _ rfl, hst.cell 8 _ rfl, hst.cell 9 _ rfl, hst.cell 10 _ rfl, hst.cell 11 _ rfl, hst.cell 12 _ rfl, hst.cell 13 _ rfl⟩
  go_enter Tryd.func24, Tryd.ntmps24
  go_wp2_with fail
  refine (hv _ _ rfl).mono ?_
  rintro e w1 ⟨rfl, hb1⟩
  have HB0 : Hid (∀ W, Below (w.alloc (.cells #[.int .u8 (k : Nat), .int .u8 (f : Nat), c2, c3, c4, c5, c6, c7, c8, c9, c10, c11, c12, c13] 32)).heap.size (w.alloc (.cells #[.int .u8 (k : Nat), .int .u8 (f : Nat), c2, c3, c4, c5, c6, c7, c8, c9, c10, c11, c12, c13] 32)) W → Below w.heap.size w W) := fun W hW => ((Below.refl _ _).alloc (Nat.le_refl _) _).trans (hW.mono (by simp))
  generalize hw0 : w.alloc (.cells #[.int .u8 (k : Nat), .int .u8 (f : Nat), c2, c3, c4, c5, c6, c7, c8, c9, c10, c11, c12, c13] 32) = w0 at *
  clear hv hw0
  obtain ⟨s0, s1, s2, s3, s4, s5, s6, s7, s8, s9, s10, s11, s12, s13⟩ := HS.out w1 hb1
  go_wp2_with fail
  have hB := blw_next hb1 (Below.refl _ _).drew
  clear hb1 s0 s1 s2 s3 s4 s5 s6 s7 s8 s9 s10 s11 s12 s13
  obtain ⟨d0, d1, d2, d3, d4, d5, d6, d7, d8, d9, d10, d11, d12, d13⟩ := HS.out _ hB
  go_region_held3 (fun w' => w'.cell? ⟨w.heap.size, 0, none⟩ = some (.int .u8 (k : Nat)) ∧ w'.cell? ⟨w.heap.size, 1, none⟩ = some (.int .u8 (f : Nat)) ∧ w'.cell? ⟨w.heap.size, 2, none⟩ = some (c2) ∧ w'.cell? ⟨w.heap.size, 3, none⟩ = some (c3) ∧ w'.cell? ⟨w.heap.size, 4, none⟩ = some (c4) ∧ w'.cell? ⟨w.heap.size, 5, none⟩ = some (c5) ∧ w'.cell? ⟨w.heap.size, 6, none⟩ = some (c6) ∧ w'.cell? ⟨w.heap.size, 7, none⟩ = some (c7) ∧ w'.cell? ⟨w.heap.size, 8, none⟩ = some (c8) ∧ w'.cell? ⟨w.heap.size, 9, none⟩ = some (c9) ∧ w'.cell? ⟨w.heap.size, 10, none⟩ = some (c10) ∧ w'.cell? ⟨w.heap.size, 11, none⟩ = some (c11) ∧ w'.cell? ⟨w.heap.size, 12, none⟩ = some (c12) ∧ w'.cell? ⟨w.heap.size, 13, none⟩ = some (c13)) (first | exact HS.out _ (by assumption) | exact HS.out _ (blw_next (by assumption) (Below.refl _ _).drew) | fail) (first
    | (go_at_call 41; first
      | (refine (hs _ _ (by rfl)).mono ?_; rintro e wa ⟨rfl, hx⟩; have hB := blw_next (blw_next hB (by first | exact Below.refl _ _ | exact (Below.refl _ _).drew)) hx; obtain ⟨wa0, wa1, wa2, wa3, wa4, wa5, wa6, wa7, wa8, wa9, wa10, wa11, wa12, wa13⟩ := HS.out _ hB; clear hx)
      | (refine (ht _ _ (by rfl)).mono ?_; rintro e wb ⟨rfl, hx⟩; have hB := blw_next (blw_next hB (by first | exact Below.refl _ _ | exact (Below.refl _ _).drew)) hx; obtain ⟨wb0, wb1, wb2, wb3, wb4, wb5, wb6, wb7, wb8, wb9, wb10, wb11, wb12, wb13⟩ := HS.out _ hB; clear hx)
      | fail)
    | (go_at_call 42; refine (hc _ _ _ _ (by rfl) (by rfl) (by rfl)).mono ?_; rintro e wc ⟨rfl, hx⟩; have hB := blw_next (blw_next hB (by first | exact Below.refl _ _ | exact (Below.refl _ _).drew)) hx; obtain ⟨wc0, wc1, wc2, wc3, wc4, wc5, wc6, wc7, wc8, wc9, wc10, wc11, wc12, wc13⟩ := HS.out _ hB; clear hx)
    | (go_at_call 43; refine (hl _ _ (by rfl)).mono ?_; rintro e wd ⟨rfl, hx⟩; have hB := blw_next (blw_next hB (by first | exact Below.refl _ _ | exact (Below.refl _ _).drew)) hx; obtain ⟨wd0, wd1, wd2, wd3, wd4, wd5, wd6, wd7, wd8, wd9, wd10, wd11, wd12, wd13⟩ := HS.out _ hB; clear hx)
    | fail)
  have hBL := HB0.out _ hB
  clear hB HS HB0 hs ht hc hg hq hl
  have hn1 : ¬ (1468 : Int) < (n : Int) := by omega
  go_wp2_with fail
  refine (hm _ _ rfl).mono ?_
  rintro e w5 ⟨rfl, h5⟩
  have hBL := blw_next hBL h5
  clear hm h5
  go_wp2_with fail
  refine (hp _ _ rfl (by first | assumption | exact blw_next (by assumption) (Below.refl _ _).drew)).mono ?_
  rintro e w6 ⟨rfl, h6⟩
  have HBL := (show Hid _ from blw_next hBL h6)
  clear hp hBL h6
  go_wp2
  go_ret
  exact ⟨rfl, HBL.out⟩
end Go.Proofs.YtlgfbcfogcmdbaaDoor
