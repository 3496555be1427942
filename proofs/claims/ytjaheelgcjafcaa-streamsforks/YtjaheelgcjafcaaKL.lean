/- streams: New and Next; Add of a chunk. -/
import Derived.Test.YtjaheelgcjafcaaKK
import Derived.Test.YtjaheelgcjafcaaKB
import Derived.ChangeKeysEq
import Derived.OwnWalk
import Derived.Test.YtjaheelgcjafcaaKG
import Derived.Test.YtjaheelgcjafcaaKJ
import Derived.Test.YtjaheelgcjafcaaKF
namespace Go.Proofs.Ytjaheelgcjafcaa
open Go.RowKit
set_option linter.unusedVariables false in
set_option linter.unusedSimpArgs false in
set_option maxRecDepth 100000 in
set_option maxHeartbeats 2000000 in
theorem check_not (k f : Nat) (c2 c3 c4 c5 c6 c7 c8 c9 c10 c11 c12 c13 e2 e3 e4 e5 e6 e7 e8 e9 e10 e11 e12 e13 V A B : Value) (w : World)
    (hv : ∀ W v, v = .agg #[.int .u8 (k : Nat), .int .u8 (f : Nat), c2, c3, c4, c5, c6, c7, c8, c9, c10, c11, c12, c13] → Calls Try.prog 52 #[v] W fun e w' => e = .returned V ∧ Below W.heap.size W w')
    (hs : ∀ W v, v = .agg #[.int .u8 (k : Nat), .int .u8 (f : Nat), c2, c3, c4, c5, c6, c7, c8, c9, c10, c11, c12, c13] → Calls Try.prog 53 #[v] W fun e w' => e = .returned A ∧ Below W.heap.size W w')
    (hc : ∀ W v1 v2 v3, v1 = .int .u8 (k : Nat) → v2 = .int .u8 (f : Nat) → v3 = V → Calls Try.prog 54 #[v1, v2, v3] W fun e w' => e = .returned (.agg #[.int .u8 (k : Nat), .int .u8 (f : Nat), e2, e3, e4, e5, e6, e7, e8, e9, e10, e11, e12, e13]) ∧ Below W.heap.size W w')
    (ht : ∀ W v, v = .agg #[.int .u8 (k : Nat), .int .u8 (f : Nat), e2, e3, e4, e5, e6, e7, e8, e9, e10, e11, e12, e13] → Calls Try.prog 53 #[v] W fun e w' => e = .returned B ∧ Below W.heap.size W w')
    (hg : ∀ W, (eqGuard .neq 116 (.tmp 7) (.tmp 14) A B).run Try.prog W = .ok () W) (hq : ∀ W, (binOp .neq 116 A B).run Try.prog W = .ok (.bool true) W) :
    Calls Try.prog 37 #[.agg #[.int .u8 (k : Nat), .int .u8 (f : Nat), c2, c3, c4, c5, c6, c7, c8, c9, c10, c11, c12, c13]] w fun e w' => e = .returned (.int .i64 2) ∧ Below w.heap.size w w' := by
  have HS : Hid (∀ W, Below (w.alloc (.cells #[.int .u8 (k : Nat), .int .u8 (f : Nat), c2, c3, c4, c5, c6, c7, c8, c9, c10, c11, c12, c13] 47)).heap.size (w.alloc (.cells #[.int .u8 (k : Nat), .int .u8 (f : Nat), c2, c3, c4, c5, c6, c7, c8, c9, c10, c11, c12, c13] 47)) W → W.cell? ⟨w.heap.size, 0, none⟩ = some (.int .u8 (k : Nat)) ∧ W.cell? ⟨w.heap.size, 1, none⟩ = some (.int .u8 (f : Nat)) ∧ W.cell? ⟨w.heap.size, 2, none⟩ = some (c2) ∧ W.cell? ⟨w.heap.size, 3, none⟩ = some (c3) ∧ W.cell? ⟨w.heap.size, 4, none⟩ = some (c4) ∧ W.cell? ⟨w.heap.size, 5, none⟩ = some (c5) ∧ W.cell? ⟨w.heap.size, 6, none⟩ = some (c6) ∧ W.cell? ⟨w.heap.size, 7, none⟩ = some (c7) ∧ W.cell? ⟨w.heap.size, 8, none⟩ = some (c8) ∧ W.cell? ⟨w.heap.size, 9, none⟩ = some (c9) ∧ W.cell? ⟨w.heap.size, 10, none⟩ = some (c10) ∧ W.cell? ⟨w.heap.size, 11, none⟩ = some (c11) ∧ W.cell? ⟨w.heap.size, 12, none⟩ = some (c12) ∧ W.cell? ⟨w.heap.size, 13, none⟩ = some (c13)) := by
    show ∀ _, _
    intro W hW
    have hst := (Stc.new w [.int .u8 (k : Nat), .int .u8 (f : Nat), c2, c3, c4, c5, c6, c7, c8, c9, c10, c11, c12, c13] 47 _ rfl).below hW
    exact ⟨hst.cell 0 _ rfl, hst.cell 1 _ rfl, hst.cell 2 _ rfl, hst.cell 3 _ rfl, hst.cell 4 _ rfl, hst.cell 5 _ rfl, hst.cell 6 _ rfl, hst.cell 7 _ rfl, hst.cell 8 _ rfl, hst.cell 9 _ rfl, hst.cell 10 _ rfl, hst.cell 11 _ rfl, hst.cell 12 _ rfl, hst.cell 13 _ rfl⟩
  go_enter Try.func37, Try.ntmps37
  go_wp2_with fail
  refine (hv _ _ rfl).mono ?_
  rintro e w1 ⟨rfl, hb1⟩
  have HB0 : Hid (∀ W, Below (w.alloc (.cells #[.int .u8 (k : Nat), .int .u8 (f : Nat), c2, c3, c4, c5, c6, c7, c8, c9, c10, c11, c12, c13] 47)).heap.size (w.alloc (.cells #[.int .u8 (k : Nat), .int .u8 (f : Nat), c2, c3, c4, c5, c6, c7, c8, c9, c10, c11, c12, c13] 47)) W → Below w.heap.size w W) := fun W hW => ((Below.refl _ _).alloc (Nat.le_refl _) _).trans (hW.mono (by simp))
  generalize hw0 : w.alloc (.cells #[.int .u8 (k : Nat), .int .u8 (f : Nat), c2, c3, c4, c5, c6, c7, c8, c9, c10, c11, c12, c13] 47) = w0 at *
  clear hv hw0
  obtain ⟨s0, s1, s2, s3, s4, s5, s6, s7, s8, s9, s10, s11, s12, s13⟩ := HS.out w1 hb1
  go_wp2_with fail
  have hB := blw_next hb1 (Below.refl _ _).drew
  clear hb1 s0 s1 s2 s3 s4 s5 s6 s7 s8 s9 s10 s11 s12 s13
  obtain ⟨d0, d1, d2, d3, d4, d5, d6, d7, d8, d9, d10, d11, d12, d13⟩ := HS.out _ hB
  refine wp_region_held_drew (S := (fun w' => w'.cell? ⟨w.heap.size, 0, none⟩ = some (.int .u8 (k : Nat)) ∧ w'.cell? ⟨w.heap.size, 1, none⟩ = some (.int .u8 (f : Nat)) ∧ w'.cell? ⟨w.heap.size, 2, none⟩ = some (c2) ∧ w'.cell? ⟨w.heap.size, 3, none⟩ = some (c3) ∧ w'.cell? ⟨w.heap.size, 4, none⟩ = some (c4) ∧ w'.cell? ⟨w.heap.size, 5, none⟩ = some (c5) ∧ w'.cell? ⟨w.heap.size, 6, none⟩ = some (c6) ∧ w'.cell? ⟨w.heap.size, 7, none⟩ = some (c7) ∧ w'.cell? ⟨w.heap.size, 8, none⟩ = some (c8) ∧ w'.cell? ⟨w.heap.size, 9, none⟩ = some (c9) ∧ w'.cell? ⟨w.heap.size, 10, none⟩ = some (c10) ∧ w'.cell? ⟨w.heap.size, 11, none⟩ = some (c11) ∧ w'.cell? ⟨w.heap.size, 12, none⟩ = some (c12) ∧ w'.cell? ⟨w.heap.size, 13, none⟩ = some (c13))) (by kernel_rfl) ?hS (fun hHeld => ?_)
  case hS => (first | exact HS.out _ hB | exact HS.out _ (blw_next hB (Below.refl _ _).drew) | fail)
  refine wpAnyH_take (i := 0) (v := ?v0) (by simp only [List.getElem?_toArray, List.getElem?_cons_succ, List.getElem?_cons_zero]; rfl) (by kernel_rfl) (by kernel_rfl) (by kernel_rfl) (by exact fun _ _ _ h => h) (Or.inl ⟨by rfl, ?hy0⟩) (by assumption) ?rest0
  case hy0 => (intro w hSw; (try dsimp only at hSw); go_simp; try with_reducible rfl)
  try simp only [Act.put, List.setIfInBounds_toArray, List.set_cons_zero, List.set_cons_succ]
  refine wpAnyH_take (i := 2) (v := ?v2) (by simp only [List.getElem?_toArray, List.getElem?_cons_succ, List.getElem?_cons_zero]; rfl) (by kernel_rfl) (by kernel_rfl) (by kernel_rfl) (by exact fun _ _ _ h => h) (Or.inl ⟨by rfl, ?hy2⟩) (by assumption) ?rest2
  case hy2 => (intro w hSw; (try dsimp only at hSw); go_simp; try with_reducible rfl)
  try simp only [Act.put, List.setIfInBounds_toArray, List.set_cons_zero, List.set_cons_succ]
  refine wpAnyH_take (i := 3) (v := ?v3) (by simp only [List.getElem?_toArray, List.getElem?_cons_succ, List.getElem?_cons_zero]; rfl) (by kernel_rfl) (by kernel_rfl) (by kernel_rfl) (by exact fun _ _ _ h => h) (Or.inl ⟨by rfl, ?hy3⟩) (by assumption) ?rest3
  case hy3 => (intro w hSw; (try dsimp only at hSw); go_simp; try with_reducible rfl)
  try simp only [Act.put, List.setIfInBounds_toArray, List.set_cons_zero, List.set_cons_succ]
  refine wpAnyH_take (i := 4) (v := ?v4) (by simp only [List.getElem?_toArray, List.getElem?_cons_succ, List.getElem?_cons_zero]; rfl) (by kernel_rfl) (by kernel_rfl) (by kernel_rfl) (by exact fun _ _ _ h => h) (Or.inl ⟨by rfl, ?hy4⟩) (by assumption) ?rest4
  case hy4 => (intro w hSw; (try dsimp only at hSw); go_simp; try with_reducible rfl)
  try simp only [Act.put, List.setIfInBounds_toArray, List.set_cons_zero, List.set_cons_succ]
  refine wpAnyH_take (i := 5) (v := ?v5) (by simp only [List.getElem?_toArray, List.getElem?_cons_succ, List.getElem?_cons_zero]; rfl) (by kernel_rfl) (by kernel_rfl) (by kernel_rfl) (by exact fun _ _ _ h => h) (Or.inl ⟨by rfl, ?hy5⟩) (by assumption) ?rest5
  case hy5 => (intro w hSw; (try dsimp only at hSw); go_simp; try with_reducible rfl)
  try simp only [Act.put, List.setIfInBounds_toArray, List.set_cons_zero, List.set_cons_succ]
  refine wpAnyH_take (i := 6) (v := ?v6) (by simp only [List.getElem?_toArray, List.getElem?_cons_succ, List.getElem?_cons_zero]; rfl) (by kernel_rfl) (by kernel_rfl) (by kernel_rfl) (by exact fun _ _ _ h => h) (Or.inl ⟨by rfl, ?hy6⟩) (by assumption) ?rest6
  case hy6 => (intro w hSw; (try dsimp only at hSw); go_simp; try with_reducible rfl)
  try simp only [Act.put, List.setIfInBounds_toArray, List.set_cons_zero, List.set_cons_succ]
  refine wpAnyH_ready (rs := [1]) (by kernel_rfl) (by simp) ?_
  refine AllReadyH.cons rfl (fun K hK => ?_) AllReadyH.nil
  go_simp
  refine (hs _ _ (by rfl)).mono ?_
  rintro e wa ⟨rfl, hx⟩
  have hB := blw_next (blw_next hB (by first | exact Below.refl _ _ | exact (Below.refl _ _).drew)) hx
  clear hx
  try go_wp2_with fail
  refine hK.out _ _ ?hS1 (fun hHeld2 => ?_)
  case hS1 => (first | exact HS.out _ hB | exact HS.out _ (blw_next hB (Below.refl _ _).drew) | fail)
  clear hK K
  clear hHeld
  have hHeld := hHeld2
  clear hHeld2
  refine wpAnyH_ready (rs := [7]) (by kernel_rfl) (by simp) ?_
  refine AllReadyH.cons rfl (fun K hK => ?_) AllReadyH.nil
  go_simp
  refine (hc _ _ _ _ (by rfl) (by rfl) (by rfl)).mono ?_
  rintro e wc ⟨rfl, hx⟩
  have hB := blw_next (blw_next hB (by first | exact Below.refl _ _ | exact (Below.refl _ _).drew)) hx
  clear hx
  try go_wp2_with fail
  refine hK.out _ _ ?hS7 (fun hHeld2 => ?_)
  case hS7 => (first | exact HS.out _ hB | exact HS.out _ (blw_next hB (Below.refl _ _).drew) | fail)
  clear hK K
  clear hHeld
  have hHeld := hHeld2
  clear hHeld2
  refine wpAnyH_ready (rs := [8]) (by kernel_rfl) (by simp) ?_
  refine AllReadyH.cons rfl (fun K hK => ?_) AllReadyH.nil
  go_simp
  refine (ht _ _ (by rfl)).mono ?_
  rintro e wb ⟨rfl, hx⟩
  have hB := blw_next (blw_next hB (by first | exact Below.refl _ _ | exact (Below.refl _ _).drew)) hx
  clear hx
  try go_wp2_with fail
  refine hK.out _ _ ?hS8 (fun hHeld2 => ?_)
  case hS8 => (first | exact HS.out _ hB | exact HS.out _ (blw_next hB (Below.refl _ _).drew) | fail)
  clear hK K
  clear hHeld
  have hHeld := hHeld2
  clear hHeld2
  refine wpAnyH_take (i := 9) (v := ?v9) (by simp only [List.getElem?_toArray, List.getElem?_cons_succ, List.getElem?_cons_zero]; rfl) (by kernel_rfl) (by kernel_rfl) (by kernel_rfl) (by exact fun _ _ _ h => h) (Or.inl ⟨by rfl, ?hy9⟩) (by assumption) ?rest9
  case hy9 => (intro w hSw; (try dsimp only at hSw); go_simp; try with_reducible rfl)
  try simp only [Act.put, List.setIfInBounds_toArray, List.set_cons_zero, List.set_cons_succ]
  refine wpAnyH_take (i := 10) (v := ?v10) (by simp only [List.getElem?_toArray, List.getElem?_cons_succ, List.getElem?_cons_zero]; rfl) (by kernel_rfl) (by kernel_rfl) (by kernel_rfl) (by exact fun _ _ _ h => h) (Or.inl ⟨by rfl, ?hy10⟩) (by assumption) ?rest10
  case hy10 => (intro w hSw; (try dsimp only at hSw); go_simp; try with_reducible rfl)
  try simp only [Act.put, List.setIfInBounds_toArray, List.set_cons_zero, List.set_cons_succ]
  refine wpAnyH_take (i := 11) (v := undef) (by simp only [List.getElem?_toArray, List.getElem?_cons_succ, List.getElem?_cons_zero]; rfl) (by kernel_rfl) (by kernel_rfl) (by kernel_rfl) (by exact fun _ _ _ h => h) (Or.inr ⟨by rfl, rfl⟩) (by assumption) ?_
  try simp only [Act.put, List.setIfInBounds_toArray, List.set_cons_zero, List.set_cons_succ]
  refine wpAnyH_take (i := 12) (v := undef) (by simp only [List.getElem?_toArray, List.getElem?_cons_succ, List.getElem?_cons_zero]; rfl) (by kernel_rfl) (by kernel_rfl) (by kernel_rfl) (by exact fun _ _ _ h => h) (Or.inr ⟨by rfl, rfl⟩) (by assumption) ?_
  try simp only [Act.put, List.setIfInBounds_toArray, List.set_cons_zero, List.set_cons_succ]
  refine wpAnyH_take (i := 13) (v := ?v13) (by simp only [List.getElem?_toArray, List.getElem?_cons_succ, List.getElem?_cons_zero]; rfl) (by kernel_rfl) (by kernel_rfl) (by kernel_rfl) (by exact fun _ _ _ h => h) (Or.inl ⟨by rfl, ?hy13⟩) (by assumption) ?rest13
  case hy13 => (intro w hSw; (try dsimp only at hSw); go_simp; try with_reducible rfl)
  try simp only [Act.put, List.setIfInBounds_toArray, List.set_cons_zero, List.set_cons_succ]
  refine wpAnyH_done (by kernel_rfl) ?_ _
  have HBL := (show Hid _ from HB0.out _ hB)
  clear hB HS HB0 hs ht hc hg hq
  go_wp2
  go_ret
  exact ⟨rfl, HBL.out⟩
end Go.Proofs.Ytjaheelgcjafcaa
namespace Go.Proofs.Ytjaheelgcjafcaa
open Go.RowKit
theorem eq4w (a b c d a2 b2 c2 d2 : Int) (w : World) : (Op.equalIn 9999 112 (.agg #[.int .u32 a, .int .u32 b, .int .u32 c, .int .u32 d]) (.agg #[.int .u32 a2, .int .u32 b2, .int .u32 c2, .int .u32 d2])).run Try.prog w = .ok (a == a2 && b == b2 && c == c2 && d == d2) w := by
  have hi0 : (Try.prog.info? 30).map (fun i => (i.zero, i.size, i.bytes)) = some (some (.int .u32 0), 1, 4) := by kernel_rfl
  obtain ⟨i, hi, hz0, hz1, hz2⟩ := info_parts hi0
  have hce : Try.prog.cellsOf 30 = 1 := by kernel_rfl
  have hag : ∀ w, (isAgg 30).run Try.prog w = .ok false w := fun w => by kernel_rfl
  rw [show (9999 : Nat) = 9997 + 1 + 1 from rfl, run_equalIn_array w (9997 + 1) _ _ Try.underlying112 hi, hce]
  by_cases h : a = a2 <;> by_cases h2 : b = b2 <;> by_cases h3 : c = c2 <;> by_cases h4 : d = d2 <;> simp [Op.eqItems, part, hag, List.range, List.range.loop, run_equalIn_int, Try.underlying30, h, h2, h3, h4]
theorem eq4h (a b c d a2 b2 c2 d2 : Int) (w : World) : (Op.equalIn 9999 113 (.agg #[.int .u16 a, .int .u16 b, .int .u16 c, .int .u16 d]) (.agg #[.int .u16 a2, .int .u16 b2, .int .u16 c2, .int .u16 d2])).run Try.prog w = .ok (a == a2 && b == b2 && c == c2 && d == d2) w := by
  have hi0 : (Try.prog.info? 42).map (fun i => (i.zero, i.size, i.bytes)) = some (some (.int .u16 0), 1, 2) := by kernel_rfl
  obtain ⟨i, hi, hz0, hz1, hz2⟩ := info_parts hi0
  have hce : Try.prog.cellsOf 42 = 1 := by kernel_rfl
  have hag : ∀ w, (isAgg 42).run Try.prog w = .ok false w := fun w => by kernel_rfl
  rw [show (9999 : Nat) = 9997 + 1 + 1 from rfl, run_equalIn_array w (9997 + 1) _ _ Try.underlying113 hi, hce]
  by_cases h : a = a2 <;> by_cases h2 : b = b2 <;> by_cases h3 : c = c2 <;> by_cases h4 : d = d2 <;> simp [Op.eqItems, part, hag, List.range, List.range.loop, run_equalIn_int, Try.underlying42, h, h2, h3, h4]
theorem eq4c (a b c d a2 b2 c2 d2 : Int) (w : World) : (Op.equalIn 9999 114 (.agg #[.int .i64 a, .int .i64 b, .int .i64 c, .int .i64 d]) (.agg #[.int .i64 a2, .int .i64 b2, .int .i64 c2, .int .i64 d2])).run Try.prog w = .ok (a == a2 && b == b2 && c == c2 && d == d2) w := by
  have hi0 : (Try.prog.info? 3).map (fun i => (i.zero, i.size, i.bytes)) = some (some (.int .i64 0), 1, 8) := by kernel_rfl
  obtain ⟨i, hi, hz0, hz1, hz2⟩ := info_parts hi0
  have hce : Try.prog.cellsOf 3 = 1 := by kernel_rfl
  have hag : ∀ w, (isAgg 3).run Try.prog w = .ok false w := fun w => by kernel_rfl
  rw [show (9999 : Nat) = 9997 + 1 + 1 from rfl, run_equalIn_array w (9997 + 1) _ _ Try.underlying114 hi, hce]
  by_cases h : a = a2 <;> by_cases h2 : b = b2 <;> by_cases h3 : c = c2 <;> by_cases h4 : d = d2 <;> simp [Op.eqItems, part, hag, List.range, List.range.loop, run_equalIn_int, Try.underlying3, h, h2, h3, h4]
set_option linter.unusedSimpArgs false in
set_option maxRecDepth 100000 in
theorem eq_shape (x0 x1 x2 x3 x4 x5 x6 x7 x8 x9 x10 x11 y0 y1 y2 y3 y4 y5 y6 y7 y8 y9 y10 y11 : Int) (w : World) : (Op.equalIn 10000 116 (.agg #[.int .u32 x0, .int .u32 x1, .int .u32 x2, .int .u32 x3, .int .u16 x4, .int .u16 x5, .int .u16 x6, .int .u16 x7, .int .i64 x8, .int .i64 x9, .int .i64 x10, .int .i64 x11]) (.agg #[.int .u32 y0, .int .u32 y1, .int .u32 y2, .int .u32 y3, .int .u16 y4, .int .u16 y5, .int .u16 y6, .int .u16 y7, .int .i64 y8, .int .i64 y9, .int .i64 y10, .int .i64 y11])).run Try.prog w = .ok ((x0 == y0 && x1 == y1 && x2 == y2 && x3 == y3) && (x4 == y4 && x5 == y5 && x6 == y6 && x7 == y7) && (x8 == y8 && x9 == y9 && x10 == y10 && x11 == y11)) w := by
  have px0 : ∀ w, (part 112 #[.int .u32 x0, .int .u32 x1, .int .u32 x2, .int .u32 x3, .int .u16 x4, .int .u16 x5, .int .u16 x6, .int .u16 x7, .int .i64 x8, .int .i64 x9, .int .i64 x10, .int .i64 x11] 0).run Try.prog w = .ok (.agg #[.int .u32 x0, .int .u32 x1, .int .u32 x2, .int .u32 x3]) w := fun w => by kernel_rfl
  have px1 : ∀ w, (part 113 #[.int .u32 x0, .int .u32 x1, .int .u32 x2, .int .u32 x3, .int .u16 x4, .int .u16 x5, .int .u16 x6, .int .u16 x7, .int .i64 x8, .int .i64 x9, .int .i64 x10, .int .i64 x11] 4).run Try.prog w = .ok (.agg #[.int .u16 x4, .int .u16 x5, .int .u16 x6, .int .u16 x7]) w := fun w => by kernel_rfl
  have px2 : ∀ w, (part 114 #[.int .u32 x0, .int .u32 x1, .int .u32 x2, .int .u32 x3, .int .u16 x4, .int .u16 x5, .int .u16 x6, .int .u16 x7, .int .i64 x8, .int .i64 x9, .int .i64 x10, .int .i64 x11] 8).run Try.prog w = .ok (.agg #[.int .i64 x8, .int .i64 x9, .int .i64 x10, .int .i64 x11]) w := fun w => by kernel_rfl
  have py0 : ∀ w, (part 112 #[.int .u32 y0, .int .u32 y1, .int .u32 y2, .int .u32 y3, .int .u16 y4, .int .u16 y5, .int .u16 y6, .int .u16 y7, .int .i64 y8, .int .i64 y9, .int .i64 y10, .int .i64 y11] 0).run Try.prog w = .ok (.agg #[.int .u32 y0, .int .u32 y1, .int .u32 y2, .int .u32 y3]) w := fun w => by kernel_rfl
  have py1 : ∀ w, (part 113 #[.int .u32 y0, .int .u32 y1, .int .u32 y2, .int .u32 y3, .int .u16 y4, .int .u16 y5, .int .u16 y6, .int .u16 y7, .int .i64 y8, .int .i64 y9, .int .i64 y10, .int .i64 y11] 4).run Try.prog w = .ok (.agg #[.int .u16 y4, .int .u16 y5, .int .u16 y6, .int .u16 y7]) w := fun w => by kernel_rfl
  have py2 : ∀ w, (part 114 #[.int .u32 y0, .int .u32 y1, .int .u32 y2, .int .u32 y3, .int .u16 y4, .int .u16 y5, .int .u16 y6, .int .u16 y7, .int .i64 y8, .int .i64 y9, .int .i64 y10, .int .i64 y11] 8).run Try.prog w = .ok (.agg #[.int .i64 y8, .int .i64 y9, .int .i64 y10, .int .i64 y11]) w := fun w => by kernel_rfl
  rw [show (10000 : Nat) = 9999 + 1 from rfl, run_equalIn_struct w 9999 _ _ _ (by kernel_rfl) (by kernel_rfl)]
  have hf : ((Try.prog.fieldsOf 116).toList.map (fun f => (f.name, f.type, f.offset))) = [("words", 112, 0), ("halves", 113, 4), ("counts", 114, 8)] := by kernel_rfl
  generalize (Try.prog.fieldsOf 116).toList = fs at *
  obtain ⟨f0, fs, rfl⟩ : ∃ f t, fs = f :: t := by
    cases fs with
    | nil => simp at hf
    | cons f t => exact ⟨f, t, rfl⟩
  obtain ⟨f1, fs, rfl⟩ : ∃ f t, fs = f :: t := by
    cases fs with
    | nil => simp at hf
    | cons f t => exact ⟨f, t, rfl⟩
  obtain ⟨f2, rfl⟩ : ∃ f, fs = [f] := by
    cases fs with
    | nil => simp at hf
    | cons f t =>
      cases t with
      | nil => exact ⟨f, rfl⟩
      | cons g t => simp at hf
  simp only [List.map_cons, List.map_nil, List.cons.injEq, Prod.mk.injEq, and_true] at hf
  obtain ⟨⟨n0, t0, o0⟩, ⟨n1, t1, o1⟩, ⟨n2, t2, o2⟩⟩ := hf
  simp only [Op.eqFields, n0, t0, o0, n1, t1, o1, n2, t2, o2, Sem.run_bind, Sem.run_ite, px0, px1, px2, py0, py1, py2, Result.andThen_ok, eq4w, eq4h, eq4c, Sem.run_pure]
  cases hA : (x0 == y0 && x1 == y1 && x2 == y2 && x3 == y3) <;> cases hB : (x4 == y4 && x5 == y5 && x6 == y6 && x7 == y7) <;> cases hC : (x8 == y8 && x9 == y9 && x10 == y10 && x11 == y11) <;> simp
theorem neq_shape (x0 x1 x2 x3 x4 x5 x6 x7 x8 x9 x10 x11 y0 y1 y2 y3 y4 y5 y6 y7 y8 y9 y10 y11 : Int) (w : World) : (binOp .neq 116 (.agg #[.int .u32 x0, .int .u32 x1, .int .u32 x2, .int .u32 x3, .int .u16 x4, .int .u16 x5, .int .u16 x6, .int .u16 x7, .int .i64 x8, .int .i64 x9, .int .i64 x10, .int .i64 x11]) (.agg #[.int .u32 y0, .int .u32 y1, .int .u32 y2, .int .u32 y3, .int .u16 y4, .int .u16 y5, .int .u16 y6, .int .u16 y7, .int .i64 y8, .int .i64 y9, .int .i64 y10, .int .i64 y11])).run Try.prog w = .ok (.bool (!((x0 == y0 && x1 == y1 && x2 == y2 && x3 == y3) && (x4 == y4 && x5 == y5 && x6 == y6 && x7 == y7) && (x8 == y8 && x9 == y9 && x10 == y10 && x11 == y11)))) w := by
  simp only [binOp, Op.equal, Sem.run_bind, Op.maxDepth, eq_shape, Result.andThen_ok, Sem.run_pure]
theorem guard_shape (x0 x1 x2 x3 x4 x5 x6 x7 x8 x9 x10 x11 y0 y1 y2 y3 y4 y5 y6 y7 y8 y9 y10 y11 : Int) (p q : Operand) (w : World) : (eqGuard .neq 116 p q (.agg #[.int .u32 x0, .int .u32 x1, .int .u32 x2, .int .u32 x3, .int .u16 x4, .int .u16 x5, .int .u16 x6, .int .u16 x7, .int .i64 x8, .int .i64 x9, .int .i64 x10, .int .i64 x11]) (.agg #[.int .u32 y0, .int .u32 y1, .int .u32 y2, .int .u32 y3, .int .u16 y4, .int .u16 y5, .int .u16 y6, .int .u16 y7, .int .i64 y8, .int .i64 y9, .int .i64 y10, .int .i64 y11])).run Try.prog w = .ok () w := by
  kernel_rfl
end Go.Proofs.Ytjaheelgcjafcaa
namespace Go.Proofs.Ytjaheelgcjafcaa
open Go.RowKit
/-- Check's number: are all that stand there told by the value; does it lack data; has it too many; how many bytes. -/
def chkN (q l m : Bool) (n : Nat) : Int := if q && !l then (if m || decide (1468 < n) then 6 else 0) else 2
set_option linter.unusedVariables false in
set_option maxRecDepth 100000 in
set_option maxHeartbeats 1000000 in
theorem check_data (kind flags tsn stream ssn ppid tag room outs ins : Nat) (b1 : Option Addr) (b2 b3 : Nat) (d1 : Option Addr) (d2 d3 : Nat) (p1 : Option Addr) (p2 p3 : Nat) (x1 : Option Addr) (x2 x3 : Nat) (w : World) (hk : kind = 0) (hx : x2 ≤ 281474976710656) :
    Calls Try.prog 37 #[.agg #[.int .u8 (kind : Nat), .int .u8 (flags : Nat), .int .u32 (tsn : Nat), .int .u16 (stream : Nat), .int .u16 (ssn : Nat), .int .u32 (ppid : Nat), .int .u32 (tag : Nat), .int .u32 (room : Nat), .int .u16 (outs : Nat), .int .u16 (ins : Nat), .slice b1 b2 b3, .slice d1 d2 d3, .slice p1 p2 p3, .slice x1 x2 x3]] w fun e w' => e = .returned (.int .i64 (chkN (decide (tag = 0 ∧ room = 0 ∧ outs = 0 ∧ ins = 0 ∧ b2 = 0 ∧ d2 = 0 ∧ p2 = 0)) (decide (x2 = 0)) false (4 + (12 + x2) + padN (12 + x2)))) ∧ Below w.heap.size w w' := by
  have hv := fun (W : World) (v : Value) (h : v = .agg #[.int .u8 (kind : Nat), .int .u8 (flags : Nat), .int .u32 (tsn : Nat), .int .u16 (stream : Nat), .int .u16 (ssn : Nat), .int .u32 (ppid : Nat), .int .u32 (tag : Nat), .int .u32 (room : Nat), .int .u16 (outs : Nat), .int .u16 (ins : Nat), .slice b1 b2 b3, .slice d1 d2 d3, .slice p1 p2 p3, .slice x1 x2 x3]) => (show Calls Try.prog 52 #[v] W fun e w' => e = .returned (.iface 134 (.agg #[.int .u32 (tsn : Nat), .int .u16 (stream : Nat), .int .u16 (ssn : Nat), .int .u32 (ppid : Nat), .slice x1 x2 x3])) ∧ Below W.heap.size W w' from h ▸ valueOf_data kind flags tsn stream ssn ppid tag room outs ins b1 b2 b3 d1 d2 d3 p1 p2 p3 x1 x2 x3 W hk)
  have hs := fun (W : World) (v : Value) (h : v = .agg #[.int .u8 (kind : Nat), .int .u8 (flags : Nat), .int .u32 (tsn : Nat), .int .u16 (stream : Nat), .int .u16 (ssn : Nat), .int .u32 (ppid : Nat), .int .u32 (tag : Nat), .int .u32 (room : Nat), .int .u16 (outs : Nat), .int .u16 (ins : Nat), .slice b1 b2 b3, .slice d1 d2 d3, .slice p1 p2 p3, .slice x1 x2 x3]) => shapeOf_any kind flags tsn stream ssn ppid tag room outs ins b1 b2 b3 d1 d2 d3 p1 p2 p3 x1 x2 x3 W v h
  have hc := fun (W : World) (v1 v2 v3 : Value) h1 h2 h3 => chunkOf_data kind flags tsn stream ssn ppid tag room outs ins b1 b2 b3 d1 d2 d3 p1 p2 p3 x1 x2 x3 W v1 v2 v3 h1 h2 h3
  have ht := fun (W : World) (v : Value) (h : v = .agg #[.int .u8 (kind : Nat), .int .u8 (flags : Nat), .int .u32 (tsn : Nat), .int .u16 (stream : Nat), .int .u16 (ssn : Nat), .int .u32 (ppid : Nat), .int .u32 0, .int .u32 0, .int .u16 0, .int .u16 0, .slice none 0 0, .slice none 0 0, .slice none 0 0, .slice x1 x2 x3]) => shapeOf_any kind flags tsn stream ssn ppid 0 0 0 0 none 0 0 none 0 0 none 0 0 x1 x2 x3 W v h
  have hl := fun (W : World) (v : Value) (h : v = .iface 134 (.agg #[.int .u32 (tsn : Nat), .int .u16 (stream : Nat), .int .u16 (ssn : Nat), .int .u32 (ppid : Nat), .slice x1 x2 x3])) => lacks_data kind flags tsn stream ssn ppid tag room outs ins b1 b2 b3 d1 d2 d3 p1 p2 p3 x1 x2 x3 W v h
  have hm := fun (W : World) (v : Value) (h : v = .iface 134 (.agg #[.int .u32 (tsn : Nat), .int .u16 (stream : Nat), .int .u16 (ssn : Nat), .int .u32 (ppid : Nat), .slice x1 x2 x3])) => many_data kind flags tsn stream ssn ppid tag room outs ins b1 b2 b3 d1 d2 d3 p1 p2 p3 x1 x2 x3 W v h
  have hg := fun (W : World) => guard_shape tsn ppid tag room stream ssn outs ins b2 d2 p2 x2 tsn ppid 0 0 stream ssn 0 0 0 0 0 x2 (.tmp 7) (.tmp 14) W
  have hq := fun (W : World) => neq_shape tsn ppid tag room stream ssn outs ins b2 d2 p2 x2 tsn ppid 0 0 stream ssn 0 0 0 0 0 x2 W
  by_cases hz : tag = 0 ∧ room = 0 ∧ outs = 0 ∧ ins = 0 ∧ b2 = 0 ∧ d2 = 0 ∧ p2 = 0
  · rw [decide_eq_true hz]
    have he : (!((((tsn : Nat) : Int) == ((tsn : Nat) : Int) && ((ppid : Nat) : Int) == ((ppid : Nat) : Int) && ((tag : Nat) : Int) == 0 && ((room : Nat) : Int) == 0) && (((stream : Nat) : Int) == ((stream : Nat) : Int) && ((ssn : Nat) : Int) == ((ssn : Nat) : Int) && ((outs : Nat) : Int) == 0 && ((ins : Nat) : Int) == 0) && (((b2 : Nat) : Int) == 0 && ((d2 : Nat) : Int) == 0 && ((p2 : Nat) : Int) == 0 && ((x2 : Nat) : Int) == ((x2 : Nat) : Int)))) = false := by
      obtain ⟨rfl, rfl, rfl, rfl, rfl, rfl, rfl⟩ := hz
      simp
    have hq2 := fun W => (hq W).trans (by rw [he])
    cases hL : ((decide (x2 = 0)) : Bool) with
    | true =>
      rw [hL] at hl
      exact check_lacks kind flags _ _ _ _ _ _ _ _ _ _ _ _ _ _ _ _ _ _ _ _ _ _ _ _  _ _ _ w hv hs hc ht hg hq2 hl
    | false =>
      rw [hL] at hl
      have hp := fun (W : World) (v : Value) (h : v = .iface 134 (.agg #[.int .u32 (tsn : Nat), .int .u16 (stream : Nat), .int .u16 (ssn : Nat), .int .u32 (ppid : Nat), .slice x1 x2 x3])) (hb : Below w.heap.size w W) => space_data _ _ _ _ x1 x2 x3 W hx v h
      by_cases hw : 1468 < 4 + (12 + x2) + padN (12 + x2)
      · rw [show chkN true false false (4 + (12 + x2) + padN (12 + x2)) = 6 by unfold chkN; rw [decide_eq_true hw]; rfl]
        exact check_wide kind flags _ _ _ _ _ _ _ _ _ _ _ _ _ _ _ _ _ _ _ _ _ _ _ _  _ _ _ w hv hs hc ht hg hq2 hl hm _ hw hp
      · rw [show chkN true false false (4 + (12 + x2) + padN (12 + x2)) = 0 by unfold chkN; rw [decide_eq_false hw]; rfl]
        exact check_fits kind flags _ _ _ _ _ _ _ _ _ _ _ _ _ _ _ _ _ _ _ _ _ _ _ _  _ _ _ w hv hs hc ht hg hq2 hl hm _ (Nat.le_of_not_lt hw) hp
  · rw [decide_eq_false hz]
    have he : (!((((tsn : Nat) : Int) == ((tsn : Nat) : Int) && ((ppid : Nat) : Int) == ((ppid : Nat) : Int) && ((tag : Nat) : Int) == 0 && ((room : Nat) : Int) == 0) && (((stream : Nat) : Int) == ((stream : Nat) : Int) && ((ssn : Nat) : Int) == ((ssn : Nat) : Int) && ((outs : Nat) : Int) == 0 && ((ins : Nat) : Int) == 0) && (((b2 : Nat) : Int) == 0 && ((d2 : Nat) : Int) == 0 && ((p2 : Nat) : Int) == 0 && ((x2 : Nat) : Int) == ((x2 : Nat) : Int)))) = true := by
      cases hb : ((((tsn : Nat) : Int) == ((tsn : Nat) : Int) && ((ppid : Nat) : Int) == ((ppid : Nat) : Int) && ((tag : Nat) : Int) == 0 && ((room : Nat) : Int) == 0) && (((stream : Nat) : Int) == ((stream : Nat) : Int) && ((ssn : Nat) : Int) == ((ssn : Nat) : Int) && ((outs : Nat) : Int) == 0 && ((ins : Nat) : Int) == 0) && (((b2 : Nat) : Int) == 0 && ((d2 : Nat) : Int) == 0 && ((p2 : Nat) : Int) == 0 && ((x2 : Nat) : Int) == ((x2 : Nat) : Int))) with
      | false => rfl
      | true =>
        exfalso
        simp at hb
        apply hz
        omega
    have hq2 := fun W => (hq W).trans (by rw [he])
    exact check_not kind flags _ _ _ _ _ _ _ _ _ _ _ _ _ _ _ _ _ _ _ _ _ _ _ _  _ _ _ w hv hs hc ht hg hq2
set_option linter.unusedVariables false in
set_option maxRecDepth 100000 in
set_option maxHeartbeats 1000000 in
theorem check_init (kind flags tsn stream ssn ppid tag room outs ins : Nat) (b1 : Option Addr) (b2 b3 : Nat) (d1 : Option Addr) (d2 d3 : Nat) (p1 : Option Addr) (p2 p3 : Nat) (x1 : Option Addr) (x2 x3 : Nat) (w : World) (hk : kind = 1 ∨ kind = 2) (ls : List Nat) (hps : Prs w p1 p2 p3 ls) :
    Calls Try.prog 37 #[.agg #[.int .u8 (kind : Nat), .int .u8 (flags : Nat), .int .u32 (tsn : Nat), .int .u16 (stream : Nat), .int .u16 (ssn : Nat), .int .u32 (ppid : Nat), .int .u32 (tag : Nat), .int .u32 (room : Nat), .int .u16 (outs : Nat), .int .u16 (ins : Nat), .slice b1 b2 b3, .slice d1 d2 d3, .slice p1 p2 p3, .slice x1 x2 x3]] w fun e w' => e = .returned (.int .i64 (chkN (decide (stream = 0 ∧ ssn = 0 ∧ ppid = 0 ∧ b2 = 0 ∧ d2 = 0 ∧ x2 = 0)) false (decide (16 < p2)) (4 + (16 + psz ls) + padN (16 + psz ls)))) ∧ Below w.heap.size w w' := by
  have hv := fun (W : World) (v : Value) (h : v = .agg #[.int .u8 (kind : Nat), .int .u8 (flags : Nat), .int .u32 (tsn : Nat), .int .u16 (stream : Nat), .int .u16 (ssn : Nat), .int .u32 (ppid : Nat), .int .u32 (tag : Nat), .int .u32 (room : Nat), .int .u16 (outs : Nat), .int .u16 (ins : Nat), .slice b1 b2 b3, .slice d1 d2 d3, .slice p1 p2 p3, .slice x1 x2 x3]) => (show Calls Try.prog 52 #[v] W fun e w' => e = .returned (.iface 137 (.agg #[.int .u32 (tag : Nat), .int .u32 (room : Nat), .int .u16 (outs : Nat), .int .u16 (ins : Nat), .int .u32 (tsn : Nat), .slice p1 p2 p3])) ∧ Below W.heap.size W w' from h ▸ valueOf_init kind flags tsn stream ssn ppid tag room outs ins b1 b2 b3 d1 d2 d3 p1 p2 p3 x1 x2 x3 W hk)
  have hs := fun (W : World) (v : Value) (h : v = .agg #[.int .u8 (kind : Nat), .int .u8 (flags : Nat), .int .u32 (tsn : Nat), .int .u16 (stream : Nat), .int .u16 (ssn : Nat), .int .u32 (ppid : Nat), .int .u32 (tag : Nat), .int .u32 (room : Nat), .int .u16 (outs : Nat), .int .u16 (ins : Nat), .slice b1 b2 b3, .slice d1 d2 d3, .slice p1 p2 p3, .slice x1 x2 x3]) => shapeOf_any kind flags tsn stream ssn ppid tag room outs ins b1 b2 b3 d1 d2 d3 p1 p2 p3 x1 x2 x3 W v h
  have hc := fun (W : World) (v1 v2 v3 : Value) h1 h2 h3 => chunkOf_init kind flags tsn stream ssn ppid tag room outs ins b1 b2 b3 d1 d2 d3 p1 p2 p3 x1 x2 x3 W v1 v2 v3 h1 h2 h3
  have ht := fun (W : World) (v : Value) (h : v = .agg #[.int .u8 (kind : Nat), .int .u8 (flags : Nat), .int .u32 (tsn : Nat), .int .u16 0, .int .u16 0, .int .u32 0, .int .u32 (tag : Nat), .int .u32 (room : Nat), .int .u16 (outs : Nat), .int .u16 (ins : Nat), .slice none 0 0, .slice none 0 0, .slice p1 p2 p3, .slice none 0 0]) => shapeOf_any kind flags tsn 0 0 0 tag room outs ins none 0 0 none 0 0 p1 p2 p3 none 0 0 W v h
  have hl := fun (W : World) (v : Value) (h : v = .iface 137 (.agg #[.int .u32 (tag : Nat), .int .u32 (room : Nat), .int .u16 (outs : Nat), .int .u16 (ins : Nat), .int .u32 (tsn : Nat), .slice p1 p2 p3])) => lacks_init kind flags tsn stream ssn ppid tag room outs ins b1 b2 b3 d1 d2 d3 p1 p2 p3 x1 x2 x3 W v h
  have hm := fun (W : World) (v : Value) (h : v = .iface 137 (.agg #[.int .u32 (tag : Nat), .int .u32 (room : Nat), .int .u16 (outs : Nat), .int .u16 (ins : Nat), .int .u32 (tsn : Nat), .slice p1 p2 p3])) => many_init kind flags tsn stream ssn ppid tag room outs ins b1 b2 b3 d1 d2 d3 p1 p2 p3 x1 x2 x3 W v h
  have hg := fun (W : World) => guard_shape tsn ppid tag room stream ssn outs ins b2 d2 p2 x2 tsn 0 tag room 0 0 outs ins 0 0 p2 0 (.tmp 7) (.tmp 14) W
  have hq := fun (W : World) => neq_shape tsn ppid tag room stream ssn outs ins b2 d2 p2 x2 tsn 0 tag room 0 0 outs ins 0 0 p2 0 W
  by_cases hz : stream = 0 ∧ ssn = 0 ∧ ppid = 0 ∧ b2 = 0 ∧ d2 = 0 ∧ x2 = 0
  · rw [decide_eq_true hz]
    have he : (!((((tsn : Nat) : Int) == ((tsn : Nat) : Int) && ((ppid : Nat) : Int) == 0 && ((tag : Nat) : Int) == ((tag : Nat) : Int) && ((room : Nat) : Int) == ((room : Nat) : Int)) && (((stream : Nat) : Int) == 0 && ((ssn : Nat) : Int) == 0 && ((outs : Nat) : Int) == ((outs : Nat) : Int) && ((ins : Nat) : Int) == ((ins : Nat) : Int)) && (((b2 : Nat) : Int) == 0 && ((d2 : Nat) : Int) == 0 && ((p2 : Nat) : Int) == ((p2 : Nat) : Int) && ((x2 : Nat) : Int) == 0))) = false := by
      obtain ⟨rfl, rfl, rfl, rfl, rfl, rfl⟩ := hz
      simp
    have hq2 := fun W => (hq W).trans (by rw [he])
    cases hM : ((decide (16 < p2)) : Bool) with
    | true =>
      rw [hM] at hm
      exact check_many kind flags _ _ _ _ _ _ _ _ _ _ _ _ _ _ _ _ _ _ _ _ _ _ _ _  _ _ _ w hv hs hc ht hg hq2 hl hm
    | false =>
      rw [hM] at hm
      have hp := fun (W : World) (v : Value) (h : v = .iface 137 (.agg #[.int .u32 (tag : Nat), .int .u32 (room : Nat), .int .u16 (outs : Nat), .int .u16 (ins : Nat), .int .u32 (tsn : Nat), .slice p1 p2 p3])) (hb : Below w.heap.size w W) => space_init _ _ _ _ _ p1 p2 p3 ls W (hps.below hb) (by simpa using hM) v h
      by_cases hw : 1468 < 4 + (16 + psz ls) + padN (16 + psz ls)
      · rw [show chkN true false false (4 + (16 + psz ls) + padN (16 + psz ls)) = 6 by unfold chkN; rw [decide_eq_true hw]; rfl]
        exact check_wide kind flags _ _ _ _ _ _ _ _ _ _ _ _ _ _ _ _ _ _ _ _ _ _ _ _  _ _ _ w hv hs hc ht hg hq2 hl hm _ hw hp
      · rw [show chkN true false false (4 + (16 + psz ls) + padN (16 + psz ls)) = 0 by unfold chkN; rw [decide_eq_false hw]; rfl]
        exact check_fits kind flags _ _ _ _ _ _ _ _ _ _ _ _ _ _ _ _ _ _ _ _ _ _ _ _  _ _ _ w hv hs hc ht hg hq2 hl hm _ (Nat.le_of_not_lt hw) hp
  · rw [decide_eq_false hz]
    have he : (!((((tsn : Nat) : Int) == ((tsn : Nat) : Int) && ((ppid : Nat) : Int) == 0 && ((tag : Nat) : Int) == ((tag : Nat) : Int) && ((room : Nat) : Int) == ((room : Nat) : Int)) && (((stream : Nat) : Int) == 0 && ((ssn : Nat) : Int) == 0 && ((outs : Nat) : Int) == ((outs : Nat) : Int) && ((ins : Nat) : Int) == ((ins : Nat) : Int)) && (((b2 : Nat) : Int) == 0 && ((d2 : Nat) : Int) == 0 && ((p2 : Nat) : Int) == ((p2 : Nat) : Int) && ((x2 : Nat) : Int) == 0))) = true := by
      cases hb : ((((tsn : Nat) : Int) == ((tsn : Nat) : Int) && ((ppid : Nat) : Int) == 0 && ((tag : Nat) : Int) == ((tag : Nat) : Int) && ((room : Nat) : Int) == ((room : Nat) : Int)) && (((stream : Nat) : Int) == 0 && ((ssn : Nat) : Int) == 0 && ((outs : Nat) : Int) == ((outs : Nat) : Int) && ((ins : Nat) : Int) == ((ins : Nat) : Int)) && (((b2 : Nat) : Int) == 0 && ((d2 : Nat) : Int) == 0 && ((p2 : Nat) : Int) == ((p2 : Nat) : Int) && ((x2 : Nat) : Int) == 0)) with
      | false => rfl
      | true =>
        exfalso
        simp at hb
        apply hz
        omega
    have hq2 := fun W => (hq W).trans (by rw [he])
    exact check_not kind flags _ _ _ _ _ _ _ _ _ _ _ _ _ _ _ _ _ _ _ _ _ _ _ _  _ _ _ w hv hs hc ht hg hq2
set_option linter.unusedVariables false in
set_option maxRecDepth 100000 in
set_option maxHeartbeats 1000000 in
theorem check_sack (kind flags tsn stream ssn ppid tag room outs ins : Nat) (b1 : Option Addr) (b2 b3 : Nat) (d1 : Option Addr) (d2 d3 : Nat) (p1 : Option Addr) (p2 p3 : Nat) (x1 : Option Addr) (x2 x3 : Nat) (w : World) (hk : kind = 3) (hbl : b2 ≤ 281474976710656) (hdl : d2 ≤ 281474976710656) :
    Calls Try.prog 37 #[.agg #[.int .u8 (kind : Nat), .int .u8 (flags : Nat), .int .u32 (tsn : Nat), .int .u16 (stream : Nat), .int .u16 (ssn : Nat), .int .u32 (ppid : Nat), .int .u32 (tag : Nat), .int .u32 (room : Nat), .int .u16 (outs : Nat), .int .u16 (ins : Nat), .slice b1 b2 b3, .slice d1 d2 d3, .slice p1 p2 p3, .slice x1 x2 x3]] w fun e w' => e = .returned (.int .i64 (chkN (decide (stream = 0 ∧ ssn = 0 ∧ ppid = 0 ∧ tag = 0 ∧ outs = 0 ∧ ins = 0 ∧ p2 = 0 ∧ x2 = 0)) false (decide (16 < b2 ∨ 16 < d2)) (4 + (12 + 4 * b2 + 4 * d2) + padN (12 + 4 * b2 + 4 * d2)))) ∧ Below w.heap.size w w' := by
  have hv := fun (W : World) (v : Value) (h : v = .agg #[.int .u8 (kind : Nat), .int .u8 (flags : Nat), .int .u32 (tsn : Nat), .int .u16 (stream : Nat), .int .u16 (ssn : Nat), .int .u32 (ppid : Nat), .int .u32 (tag : Nat), .int .u32 (room : Nat), .int .u16 (outs : Nat), .int .u16 (ins : Nat), .slice b1 b2 b3, .slice d1 d2 d3, .slice p1 p2 p3, .slice x1 x2 x3]) => (show Calls Try.prog 52 #[v] W fun e w' => e = .returned (.iface 139 (.agg #[.int .u32 (tsn : Nat), .int .u32 (room : Nat), .slice b1 b2 b3, .slice d1 d2 d3])) ∧ Below W.heap.size W w' from h ▸ valueOf_sack kind flags tsn stream ssn ppid tag room outs ins b1 b2 b3 d1 d2 d3 p1 p2 p3 x1 x2 x3 W hk)
  have hs := fun (W : World) (v : Value) (h : v = .agg #[.int .u8 (kind : Nat), .int .u8 (flags : Nat), .int .u32 (tsn : Nat), .int .u16 (stream : Nat), .int .u16 (ssn : Nat), .int .u32 (ppid : Nat), .int .u32 (tag : Nat), .int .u32 (room : Nat), .int .u16 (outs : Nat), .int .u16 (ins : Nat), .slice b1 b2 b3, .slice d1 d2 d3, .slice p1 p2 p3, .slice x1 x2 x3]) => shapeOf_any kind flags tsn stream ssn ppid tag room outs ins b1 b2 b3 d1 d2 d3 p1 p2 p3 x1 x2 x3 W v h
  have hc := fun (W : World) (v1 v2 v3 : Value) h1 h2 h3 => chunkOf_sack kind flags tsn stream ssn ppid tag room outs ins b1 b2 b3 d1 d2 d3 p1 p2 p3 x1 x2 x3 W v1 v2 v3 h1 h2 h3
  have ht := fun (W : World) (v : Value) (h : v = .agg #[.int .u8 (kind : Nat), .int .u8 (flags : Nat), .int .u32 (tsn : Nat), .int .u16 0, .int .u16 0, .int .u32 0, .int .u32 0, .int .u32 (room : Nat), .int .u16 0, .int .u16 0, .slice b1 b2 b3, .slice d1 d2 d3, .slice none 0 0, .slice none 0 0]) => shapeOf_any kind flags tsn 0 0 0 0 room 0 0 b1 b2 b3 d1 d2 d3 none 0 0 none 0 0 W v h
  have hl := fun (W : World) (v : Value) (h : v = .iface 139 (.agg #[.int .u32 (tsn : Nat), .int .u32 (room : Nat), .slice b1 b2 b3, .slice d1 d2 d3])) => lacks_sack kind flags tsn stream ssn ppid tag room outs ins b1 b2 b3 d1 d2 d3 p1 p2 p3 x1 x2 x3 W v h
  have hm := fun (W : World) (v : Value) (h : v = .iface 139 (.agg #[.int .u32 (tsn : Nat), .int .u32 (room : Nat), .slice b1 b2 b3, .slice d1 d2 d3])) => many_sack kind flags tsn stream ssn ppid tag room outs ins b1 b2 b3 d1 d2 d3 p1 p2 p3 x1 x2 x3 W v h
  have hg := fun (W : World) => guard_shape tsn ppid tag room stream ssn outs ins b2 d2 p2 x2 tsn 0 0 room 0 0 0 0 b2 d2 0 0 (.tmp 7) (.tmp 14) W
  have hq := fun (W : World) => neq_shape tsn ppid tag room stream ssn outs ins b2 d2 p2 x2 tsn 0 0 room 0 0 0 0 b2 d2 0 0 W
  by_cases hz : stream = 0 ∧ ssn = 0 ∧ ppid = 0 ∧ tag = 0 ∧ outs = 0 ∧ ins = 0 ∧ p2 = 0 ∧ x2 = 0
  · rw [decide_eq_true hz]
    have he : (!((((tsn : Nat) : Int) == ((tsn : Nat) : Int) && ((ppid : Nat) : Int) == 0 && ((tag : Nat) : Int) == 0 && ((room : Nat) : Int) == ((room : Nat) : Int)) && (((stream : Nat) : Int) == 0 && ((ssn : Nat) : Int) == 0 && ((outs : Nat) : Int) == 0 && ((ins : Nat) : Int) == 0) && (((b2 : Nat) : Int) == ((b2 : Nat) : Int) && ((d2 : Nat) : Int) == ((d2 : Nat) : Int) && ((p2 : Nat) : Int) == 0 && ((x2 : Nat) : Int) == 0))) = false := by
      obtain ⟨rfl, rfl, rfl, rfl, rfl, rfl, rfl, rfl⟩ := hz
      simp
    have hq2 := fun W => (hq W).trans (by rw [he])
    cases hM : ((decide (16 < b2 ∨ 16 < d2)) : Bool) with
    | true =>
      rw [hM] at hm
      exact check_many kind flags _ _ _ _ _ _ _ _ _ _ _ _ _ _ _ _ _ _ _ _ _ _ _ _  _ _ _ w hv hs hc ht hg hq2 hl hm
    | false =>
      rw [hM] at hm
      have hp := fun (W : World) (v : Value) (h : v = .iface 139 (.agg #[.int .u32 (tsn : Nat), .int .u32 (room : Nat), .slice b1 b2 b3, .slice d1 d2 d3])) (hb : Below w.heap.size w W) => space_sack _ _ b1 b2 b3 d1 d2 d3 W hbl hdl v h
      by_cases hw : 1468 < 4 + (12 + 4 * b2 + 4 * d2) + padN (12 + 4 * b2 + 4 * d2)
      · rw [show chkN true false false (4 + (12 + 4 * b2 + 4 * d2) + padN (12 + 4 * b2 + 4 * d2)) = 6 by unfold chkN; rw [decide_eq_true hw]; rfl]
        exact check_wide kind flags _ _ _ _ _ _ _ _ _ _ _ _ _ _ _ _ _ _ _ _ _ _ _ _  _ _ _ w hv hs hc ht hg hq2 hl hm _ hw hp
      · rw [show chkN true false false (4 + (12 + 4 * b2 + 4 * d2) + padN (12 + 4 * b2 + 4 * d2)) = 0 by unfold chkN; rw [decide_eq_false hw]; rfl]
        exact check_fits kind flags _ _ _ _ _ _ _ _ _ _ _ _ _ _ _ _ _ _ _ _ _ _ _ _  _ _ _ w hv hs hc ht hg hq2 hl hm _ (Nat.le_of_not_lt hw) hp
  · rw [decide_eq_false hz]
    have he : (!((((tsn : Nat) : Int) == ((tsn : Nat) : Int) && ((ppid : Nat) : Int) == 0 && ((tag : Nat) : Int) == 0 && ((room : Nat) : Int) == ((room : Nat) : Int)) && (((stream : Nat) : Int) == 0 && ((ssn : Nat) : Int) == 0 && ((outs : Nat) : Int) == 0 && ((ins : Nat) : Int) == 0) && (((b2 : Nat) : Int) == ((b2 : Nat) : Int) && ((d2 : Nat) : Int) == ((d2 : Nat) : Int) && ((p2 : Nat) : Int) == 0 && ((x2 : Nat) : Int) == 0))) = true := by
      cases hb : ((((tsn : Nat) : Int) == ((tsn : Nat) : Int) && ((ppid : Nat) : Int) == 0 && ((tag : Nat) : Int) == 0 && ((room : Nat) : Int) == ((room : Nat) : Int)) && (((stream : Nat) : Int) == 0 && ((ssn : Nat) : Int) == 0 && ((outs : Nat) : Int) == 0 && ((ins : Nat) : Int) == 0) && (((b2 : Nat) : Int) == ((b2 : Nat) : Int) && ((d2 : Nat) : Int) == ((d2 : Nat) : Int) && ((p2 : Nat) : Int) == 0 && ((x2 : Nat) : Int) == 0)) with
      | false => rfl
      | true =>
        exfalso
        simp at hb
        apply hz
        omega
    have hq2 := fun W => (hq W).trans (by rw [he])
    exact check_not kind flags _ _ _ _ _ _ _ _ _ _ _ _ _ _ _ _ _ _ _ _ _ _ _ _  _ _ _ w hv hs hc ht hg hq2
set_option linter.unusedVariables false in
set_option maxRecDepth 100000 in
set_option maxHeartbeats 1000000 in
theorem check_prms (kind flags tsn stream ssn ppid tag room outs ins : Nat) (b1 : Option Addr) (b2 b3 : Nat) (d1 : Option Addr) (d2 d3 : Nat) (p1 : Option Addr) (p2 p3 : Nat) (x1 : Option Addr) (x2 x3 : Nat) (w : World) (hk : kind = 4 ∨ kind = 5 ∨ kind = 6 ∨ kind = 9) (ls : List Nat) (hps : Prs w p1 p2 p3 ls) :
    Calls Try.prog 37 #[.agg #[.int .u8 (kind : Nat), .int .u8 (flags : Nat), .int .u32 (tsn : Nat), .int .u16 (stream : Nat), .int .u16 (ssn : Nat), .int .u32 (ppid : Nat), .int .u32 (tag : Nat), .int .u32 (room : Nat), .int .u16 (outs : Nat), .int .u16 (ins : Nat), .slice b1 b2 b3, .slice d1 d2 d3, .slice p1 p2 p3, .slice x1 x2 x3]] w fun e w' => e = .returned (.int .i64 (chkN (decide (tsn = 0 ∧ stream = 0 ∧ ssn = 0 ∧ ppid = 0 ∧ tag = 0 ∧ room = 0 ∧ outs = 0 ∧ ins = 0 ∧ b2 = 0 ∧ d2 = 0 ∧ x2 = 0)) false (decide (16 < p2)) (4 + (psz ls) + padN (psz ls)))) ∧ Below w.heap.size w w' := by
  have hv := fun (W : World) (v : Value) (h : v = .agg #[.int .u8 (kind : Nat), .int .u8 (flags : Nat), .int .u32 (tsn : Nat), .int .u16 (stream : Nat), .int .u16 (ssn : Nat), .int .u32 (ppid : Nat), .int .u32 (tag : Nat), .int .u32 (room : Nat), .int .u16 (outs : Nat), .int .u16 (ins : Nat), .slice b1 b2 b3, .slice d1 d2 d3, .slice p1 p2 p3, .slice x1 x2 x3]) => (show Calls Try.prog 52 #[v] W fun e w' => e = .returned (.iface 135 (.slice p1 p2 p3)) ∧ Below W.heap.size W w' from h ▸ valueOf_prms kind flags tsn stream ssn ppid tag room outs ins b1 b2 b3 d1 d2 d3 p1 p2 p3 x1 x2 x3 W hk)
  have hs := fun (W : World) (v : Value) (h : v = .agg #[.int .u8 (kind : Nat), .int .u8 (flags : Nat), .int .u32 (tsn : Nat), .int .u16 (stream : Nat), .int .u16 (ssn : Nat), .int .u32 (ppid : Nat), .int .u32 (tag : Nat), .int .u32 (room : Nat), .int .u16 (outs : Nat), .int .u16 (ins : Nat), .slice b1 b2 b3, .slice d1 d2 d3, .slice p1 p2 p3, .slice x1 x2 x3]) => shapeOf_any kind flags tsn stream ssn ppid tag room outs ins b1 b2 b3 d1 d2 d3 p1 p2 p3 x1 x2 x3 W v h
  have hc := fun (W : World) (v1 v2 v3 : Value) h1 h2 h3 => chunkOf_prms kind flags tsn stream ssn ppid tag room outs ins b1 b2 b3 d1 d2 d3 p1 p2 p3 x1 x2 x3 W v1 v2 v3 h1 h2 h3
  have ht := fun (W : World) (v : Value) (h : v = .agg #[.int .u8 (kind : Nat), .int .u8 (flags : Nat), .int .u32 0, .int .u16 0, .int .u16 0, .int .u32 0, .int .u32 0, .int .u32 0, .int .u16 0, .int .u16 0, .slice none 0 0, .slice none 0 0, .slice p1 p2 p3, .slice none 0 0]) => shapeOf_any kind flags 0 0 0 0 0 0 0 0 none 0 0 none 0 0 p1 p2 p3 none 0 0 W v h
  have hl := fun (W : World) (v : Value) (h : v = .iface 135 (.slice p1 p2 p3)) => lacks_prms kind flags tsn stream ssn ppid tag room outs ins b1 b2 b3 d1 d2 d3 p1 p2 p3 x1 x2 x3 W v h
  have hm := fun (W : World) (v : Value) (h : v = .iface 135 (.slice p1 p2 p3)) => many_prms kind flags tsn stream ssn ppid tag room outs ins b1 b2 b3 d1 d2 d3 p1 p2 p3 x1 x2 x3 W v h
  have hg := fun (W : World) => guard_shape tsn ppid tag room stream ssn outs ins b2 d2 p2 x2 0 0 0 0 0 0 0 0 0 0 p2 0 (.tmp 7) (.tmp 14) W
  have hq := fun (W : World) => neq_shape tsn ppid tag room stream ssn outs ins b2 d2 p2 x2 0 0 0 0 0 0 0 0 0 0 p2 0 W
  by_cases hz : tsn = 0 ∧ stream = 0 ∧ ssn = 0 ∧ ppid = 0 ∧ tag = 0 ∧ room = 0 ∧ outs = 0 ∧ ins = 0 ∧ b2 = 0 ∧ d2 = 0 ∧ x2 = 0
  · rw [decide_eq_true hz]
    have he : (!((((tsn : Nat) : Int) == 0 && ((ppid : Nat) : Int) == 0 && ((tag : Nat) : Int) == 0 && ((room : Nat) : Int) == 0) && (((stream : Nat) : Int) == 0 && ((ssn : Nat) : Int) == 0 && ((outs : Nat) : Int) == 0 && ((ins : Nat) : Int) == 0) && (((b2 : Nat) : Int) == 0 && ((d2 : Nat) : Int) == 0 && ((p2 : Nat) : Int) == ((p2 : Nat) : Int) && ((x2 : Nat) : Int) == 0))) = false := by
      obtain ⟨rfl, rfl, rfl, rfl, rfl, rfl, rfl, rfl, rfl, rfl, rfl⟩ := hz
      simp
    have hq2 := fun W => (hq W).trans (by rw [he])
    cases hM : ((decide (16 < p2)) : Bool) with
    | true =>
      rw [hM] at hm
      exact check_many kind flags _ _ _ _ _ _ _ _ _ _ _ _ _ _ _ _ _ _ _ _ _ _ _ _  _ _ _ w hv hs hc ht hg hq2 hl hm
    | false =>
      rw [hM] at hm
      have hp := fun (W : World) (v : Value) (h : v = .iface 135 (.slice p1 p2 p3)) (hb : Below w.heap.size w W) => space_prms p1 p2 p3 ls W (hps.below hb) (by simpa using hM) v h
      by_cases hw : 1468 < 4 + (psz ls) + padN (psz ls)
      · rw [show chkN true false false (4 + (psz ls) + padN (psz ls)) = 6 by unfold chkN; rw [decide_eq_true hw]; rfl]
        exact check_wide kind flags _ _ _ _ _ _ _ _ _ _ _ _ _ _ _ _ _ _ _ _ _ _ _ _  _ _ _ w hv hs hc ht hg hq2 hl hm _ hw hp
      · rw [show chkN true false false (4 + (psz ls) + padN (psz ls)) = 0 by unfold chkN; rw [decide_eq_false hw]; rfl]
        exact check_fits kind flags _ _ _ _ _ _ _ _ _ _ _ _ _ _ _ _ _ _ _ _ _ _ _ _  _ _ _ w hv hs hc ht hg hq2 hl hm _ (Nat.le_of_not_lt hw) hp
  · rw [decide_eq_false hz]
    have he : (!((((tsn : Nat) : Int) == 0 && ((ppid : Nat) : Int) == 0 && ((tag : Nat) : Int) == 0 && ((room : Nat) : Int) == 0) && (((stream : Nat) : Int) == 0 && ((ssn : Nat) : Int) == 0 && ((outs : Nat) : Int) == 0 && ((ins : Nat) : Int) == 0) && (((b2 : Nat) : Int) == 0 && ((d2 : Nat) : Int) == 0 && ((p2 : Nat) : Int) == ((p2 : Nat) : Int) && ((x2 : Nat) : Int) == 0))) = true := by
      cases hb : ((((tsn : Nat) : Int) == 0 && ((ppid : Nat) : Int) == 0 && ((tag : Nat) : Int) == 0 && ((room : Nat) : Int) == 0) && (((stream : Nat) : Int) == 0 && ((ssn : Nat) : Int) == 0 && ((outs : Nat) : Int) == 0 && ((ins : Nat) : Int) == 0) && (((b2 : Nat) : Int) == 0 && ((d2 : Nat) : Int) == 0 && ((p2 : Nat) : Int) == ((p2 : Nat) : Int) && ((x2 : Nat) : Int) == 0)) with
      | false => rfl
      | true =>
        exfalso
        simp at hb
        apply hz
        omega
    have hq2 := fun W => (hq W).trans (by rw [he])
    exact check_not kind flags _ _ _ _ _ _ _ _ _ _ _ _ _ _ _ _ _ _ _ _ _ _ _ _  _ _ _ w hv hs hc ht hg hq2
set_option linter.unusedVariables false in
set_option maxRecDepth 100000 in
set_option maxHeartbeats 1000000 in
theorem check_tsnv (kind flags tsn stream ssn ppid tag room outs ins : Nat) (b1 : Option Addr) (b2 b3 : Nat) (d1 : Option Addr) (d2 d3 : Nat) (p1 : Option Addr) (p2 p3 : Nat) (x1 : Option Addr) (x2 x3 : Nat) (w : World) (hk : kind = 7) :
    Calls Try.prog 37 #[.agg #[.int .u8 (kind : Nat), .int .u8 (flags : Nat), .int .u32 (tsn : Nat), .int .u16 (stream : Nat), .int .u16 (ssn : Nat), .int .u32 (ppid : Nat), .int .u32 (tag : Nat), .int .u32 (room : Nat), .int .u16 (outs : Nat), .int .u16 (ins : Nat), .slice b1 b2 b3, .slice d1 d2 d3, .slice p1 p2 p3, .slice x1 x2 x3]] w fun e w' => e = .returned (.int .i64 (chkN (decide (stream = 0 ∧ ssn = 0 ∧ ppid = 0 ∧ tag = 0 ∧ room = 0 ∧ outs = 0 ∧ ins = 0 ∧ b2 = 0 ∧ d2 = 0 ∧ p2 = 0 ∧ x2 = 0)) false false (8))) ∧ Below w.heap.size w w' := by
  have hv := fun (W : World) (v : Value) (h : v = .agg #[.int .u8 (kind : Nat), .int .u8 (flags : Nat), .int .u32 (tsn : Nat), .int .u16 (stream : Nat), .int .u16 (ssn : Nat), .int .u32 (ppid : Nat), .int .u32 (tag : Nat), .int .u32 (room : Nat), .int .u16 (outs : Nat), .int .u16 (ins : Nat), .slice b1 b2 b3, .slice d1 d2 d3, .slice p1 p2 p3, .slice x1 x2 x3]) => (show Calls Try.prog 52 #[v] W fun e w' => e = .returned (.iface 140 (.int .u32 (tsn : Nat))) ∧ Below W.heap.size W w' from h ▸ valueOf_tsnv kind flags tsn stream ssn ppid tag room outs ins b1 b2 b3 d1 d2 d3 p1 p2 p3 x1 x2 x3 W hk)
  have hs := fun (W : World) (v : Value) (h : v = .agg #[.int .u8 (kind : Nat), .int .u8 (flags : Nat), .int .u32 (tsn : Nat), .int .u16 (stream : Nat), .int .u16 (ssn : Nat), .int .u32 (ppid : Nat), .int .u32 (tag : Nat), .int .u32 (room : Nat), .int .u16 (outs : Nat), .int .u16 (ins : Nat), .slice b1 b2 b3, .slice d1 d2 d3, .slice p1 p2 p3, .slice x1 x2 x3]) => shapeOf_any kind flags tsn stream ssn ppid tag room outs ins b1 b2 b3 d1 d2 d3 p1 p2 p3 x1 x2 x3 W v h
  have hc := fun (W : World) (v1 v2 v3 : Value) h1 h2 h3 => chunkOf_tsnv kind flags tsn stream ssn ppid tag room outs ins b1 b2 b3 d1 d2 d3 p1 p2 p3 x1 x2 x3 W v1 v2 v3 h1 h2 h3
  have ht := fun (W : World) (v : Value) (h : v = .agg #[.int .u8 (kind : Nat), .int .u8 (flags : Nat), .int .u32 (tsn : Nat), .int .u16 0, .int .u16 0, .int .u32 0, .int .u32 0, .int .u32 0, .int .u16 0, .int .u16 0, .slice none 0 0, .slice none 0 0, .slice none 0 0, .slice none 0 0]) => shapeOf_any kind flags tsn 0 0 0 0 0 0 0 none 0 0 none 0 0 none 0 0 none 0 0 W v h
  have hl := fun (W : World) (v : Value) (h : v = .iface 140 (.int .u32 (tsn : Nat))) => lacks_tsnv kind flags tsn stream ssn ppid tag room outs ins b1 b2 b3 d1 d2 d3 p1 p2 p3 x1 x2 x3 W v h
  have hm := fun (W : World) (v : Value) (h : v = .iface 140 (.int .u32 (tsn : Nat))) => many_tsnv kind flags tsn stream ssn ppid tag room outs ins b1 b2 b3 d1 d2 d3 p1 p2 p3 x1 x2 x3 W v h
  have hg := fun (W : World) => guard_shape tsn ppid tag room stream ssn outs ins b2 d2 p2 x2 tsn 0 0 0 0 0 0 0 0 0 0 0 (.tmp 7) (.tmp 14) W
  have hq := fun (W : World) => neq_shape tsn ppid tag room stream ssn outs ins b2 d2 p2 x2 tsn 0 0 0 0 0 0 0 0 0 0 0 W
  by_cases hz : stream = 0 ∧ ssn = 0 ∧ ppid = 0 ∧ tag = 0 ∧ room = 0 ∧ outs = 0 ∧ ins = 0 ∧ b2 = 0 ∧ d2 = 0 ∧ p2 = 0 ∧ x2 = 0
  · rw [decide_eq_true hz]
    have he : (!((((tsn : Nat) : Int) == ((tsn : Nat) : Int) && ((ppid : Nat) : Int) == 0 && ((tag : Nat) : Int) == 0 && ((room : Nat) : Int) == 0) && (((stream : Nat) : Int) == 0 && ((ssn : Nat) : Int) == 0 && ((outs : Nat) : Int) == 0 && ((ins : Nat) : Int) == 0) && (((b2 : Nat) : Int) == 0 && ((d2 : Nat) : Int) == 0 && ((p2 : Nat) : Int) == 0 && ((x2 : Nat) : Int) == 0))) = false := by
      obtain ⟨rfl, rfl, rfl, rfl, rfl, rfl, rfl, rfl, rfl, rfl, rfl⟩ := hz
      simp
    have hq2 := fun W => (hq W).trans (by rw [he])
    have hp := fun (W : World) (v : Value) (h : v = .iface 140 (.int .u32 (tsn : Nat))) (hb : Below w.heap.size w W) => space_tsnv tsn W v h
    by_cases hw : 1468 < 8
    · rw [show chkN true false false (8) = 6 by unfold chkN; rw [decide_eq_true hw]; rfl]
      exact check_wide kind flags _ _ _ _ _ _ _ _ _ _ _ _ _ _ _ _ _ _ _ _ _ _ _ _  _ _ _ w hv hs hc ht hg hq2 hl hm _ hw hp
    · rw [show chkN true false false (8) = 0 by unfold chkN; rw [decide_eq_false hw]; rfl]
      exact check_fits kind flags _ _ _ _ _ _ _ _ _ _ _ _ _ _ _ _ _ _ _ _ _ _ _ _  _ _ _ w hv hs hc ht hg hq2 hl hm _ (Nat.le_of_not_lt hw) hp
  · rw [decide_eq_false hz]
    have he : (!((((tsn : Nat) : Int) == ((tsn : Nat) : Int) && ((ppid : Nat) : Int) == 0 && ((tag : Nat) : Int) == 0 && ((room : Nat) : Int) == 0) && (((stream : Nat) : Int) == 0 && ((ssn : Nat) : Int) == 0 && ((outs : Nat) : Int) == 0 && ((ins : Nat) : Int) == 0) && (((b2 : Nat) : Int) == 0 && ((d2 : Nat) : Int) == 0 && ((p2 : Nat) : Int) == 0 && ((x2 : Nat) : Int) == 0))) = true := by
      cases hb : ((((tsn : Nat) : Int) == ((tsn : Nat) : Int) && ((ppid : Nat) : Int) == 0 && ((tag : Nat) : Int) == 0 && ((room : Nat) : Int) == 0) && (((stream : Nat) : Int) == 0 && ((ssn : Nat) : Int) == 0 && ((outs : Nat) : Int) == 0 && ((ins : Nat) : Int) == 0) && (((b2 : Nat) : Int) == 0 && ((d2 : Nat) : Int) == 0 && ((p2 : Nat) : Int) == 0 && ((x2 : Nat) : Int) == 0)) with
      | false => rfl
      | true =>
        exfalso
        simp at hb
        apply hz
        omega
    have hq2 := fun W => (hq W).trans (by rw [he])
    exact check_not kind flags _ _ _ _ _ _ _ _ _ _ _ _ _ _ _ _ _ _ _ _ _ _ _ _  _ _ _ w hv hs hc ht hg hq2
set_option linter.unusedVariables false in
set_option maxRecDepth 100000 in
set_option maxHeartbeats 1000000 in
theorem check_none (kind flags tsn stream ssn ppid tag room outs ins : Nat) (b1 : Option Addr) (b2 b3 : Nat) (d1 : Option Addr) (d2 d3 : Nat) (p1 : Option Addr) (p2 p3 : Nat) (x1 : Option Addr) (x2 x3 : Nat) (w : World) (hk : kind = 8 ∨ kind = 11 ∨ kind = 14) :
    Calls Try.prog 37 #[.agg #[.int .u8 (kind : Nat), .int .u8 (flags : Nat), .int .u32 (tsn : Nat), .int .u16 (stream : Nat), .int .u16 (ssn : Nat), .int .u32 (ppid : Nat), .int .u32 (tag : Nat), .int .u32 (room : Nat), .int .u16 (outs : Nat), .int .u16 (ins : Nat), .slice b1 b2 b3, .slice d1 d2 d3, .slice p1 p2 p3, .slice x1 x2 x3]] w fun e w' => e = .returned (.int .i64 (chkN (decide (tsn = 0 ∧ stream = 0 ∧ ssn = 0 ∧ ppid = 0 ∧ tag = 0 ∧ room = 0 ∧ outs = 0 ∧ ins = 0 ∧ b2 = 0 ∧ d2 = 0 ∧ p2 = 0 ∧ x2 = 0)) false false (4))) ∧ Below w.heap.size w w' := by
  have hv := fun (W : World) (v : Value) (h : v = .agg #[.int .u8 (kind : Nat), .int .u8 (flags : Nat), .int .u32 (tsn : Nat), .int .u16 (stream : Nat), .int .u16 (ssn : Nat), .int .u32 (ppid : Nat), .int .u32 (tag : Nat), .int .u32 (room : Nat), .int .u16 (outs : Nat), .int .u16 (ins : Nat), .slice b1 b2 b3, .slice d1 d2 d3, .slice p1 p2 p3, .slice x1 x2 x3]) => (show Calls Try.prog 52 #[v] W fun e w' => e = .returned (.iface 142 (.agg #[])) ∧ Below W.heap.size W w' from h ▸ valueOf_none kind flags tsn stream ssn ppid tag room outs ins b1 b2 b3 d1 d2 d3 p1 p2 p3 x1 x2 x3 W hk)
  have hs := fun (W : World) (v : Value) (h : v = .agg #[.int .u8 (kind : Nat), .int .u8 (flags : Nat), .int .u32 (tsn : Nat), .int .u16 (stream : Nat), .int .u16 (ssn : Nat), .int .u32 (ppid : Nat), .int .u32 (tag : Nat), .int .u32 (room : Nat), .int .u16 (outs : Nat), .int .u16 (ins : Nat), .slice b1 b2 b3, .slice d1 d2 d3, .slice p1 p2 p3, .slice x1 x2 x3]) => shapeOf_any kind flags tsn stream ssn ppid tag room outs ins b1 b2 b3 d1 d2 d3 p1 p2 p3 x1 x2 x3 W v h
  have hc := fun (W : World) (v1 v2 v3 : Value) h1 h2 h3 => chunkOf_none kind flags tsn stream ssn ppid tag room outs ins b1 b2 b3 d1 d2 d3 p1 p2 p3 x1 x2 x3 W v1 v2 v3 h1 h2 h3
  have ht := fun (W : World) (v : Value) (h : v = .agg #[.int .u8 (kind : Nat), .int .u8 (flags : Nat), .int .u32 0, .int .u16 0, .int .u16 0, .int .u32 0, .int .u32 0, .int .u32 0, .int .u16 0, .int .u16 0, .slice none 0 0, .slice none 0 0, .slice none 0 0, .slice none 0 0]) => shapeOf_any kind flags 0 0 0 0 0 0 0 0 none 0 0 none 0 0 none 0 0 none 0 0 W v h
  have hl := fun (W : World) (v : Value) (h : v = .iface 142 (.agg #[])) => lacks_none kind flags tsn stream ssn ppid tag room outs ins b1 b2 b3 d1 d2 d3 p1 p2 p3 x1 x2 x3 W v h
  have hm := fun (W : World) (v : Value) (h : v = .iface 142 (.agg #[])) => many_none kind flags tsn stream ssn ppid tag room outs ins b1 b2 b3 d1 d2 d3 p1 p2 p3 x1 x2 x3 W v h
  have hg := fun (W : World) => guard_shape tsn ppid tag room stream ssn outs ins b2 d2 p2 x2 0 0 0 0 0 0 0 0 0 0 0 0 (.tmp 7) (.tmp 14) W
  have hq := fun (W : World) => neq_shape tsn ppid tag room stream ssn outs ins b2 d2 p2 x2 0 0 0 0 0 0 0 0 0 0 0 0 W
  by_cases hz : tsn = 0 ∧ stream = 0 ∧ ssn = 0 ∧ ppid = 0 ∧ tag = 0 ∧ room = 0 ∧ outs = 0 ∧ ins = 0 ∧ b2 = 0 ∧ d2 = 0 ∧ p2 = 0 ∧ x2 = 0
  · rw [decide_eq_true hz]
    have he : (!((((tsn : Nat) : Int) == 0 && ((ppid : Nat) : Int) == 0 && ((tag : Nat) : Int) == 0 && ((room : Nat) : Int) == 0) && (((stream : Nat) : Int) == 0 && ((ssn : Nat) : Int) == 0 && ((outs : Nat) : Int) == 0 && ((ins : Nat) : Int) == 0) && (((b2 : Nat) : Int) == 0 && ((d2 : Nat) : Int) == 0 && ((p2 : Nat) : Int) == 0 && ((x2 : Nat) : Int) == 0))) = false := by
      obtain ⟨rfl, rfl, rfl, rfl, rfl, rfl, rfl, rfl, rfl, rfl, rfl, rfl⟩ := hz
      simp
    have hq2 := fun W => (hq W).trans (by rw [he])
    have hp := fun (W : World) (v : Value) (h : v = .iface 142 (.agg #[])) (hb : Below w.heap.size w W) => space_none W v h
    by_cases hw : 1468 < 4
    · rw [show chkN true false false (4) = 6 by unfold chkN; rw [decide_eq_true hw]; rfl]
      exact check_wide kind flags _ _ _ _ _ _ _ _ _ _ _ _ _ _ _ _ _ _ _ _ _ _ _ _  _ _ _ w hv hs hc ht hg hq2 hl hm _ hw hp
    · rw [show chkN true false false (4) = 0 by unfold chkN; rw [decide_eq_false hw]; rfl]
      exact check_fits kind flags _ _ _ _ _ _ _ _ _ _ _ _ _ _ _ _ _ _ _ _ _ _ _ _  _ _ _ w hv hs hc ht hg hq2 hl hm _ (Nat.le_of_not_lt hw) hp
  · rw [decide_eq_false hz]
    have he : (!((((tsn : Nat) : Int) == 0 && ((ppid : Nat) : Int) == 0 && ((tag : Nat) : Int) == 0 && ((room : Nat) : Int) == 0) && (((stream : Nat) : Int) == 0 && ((ssn : Nat) : Int) == 0 && ((outs : Nat) : Int) == 0 && ((ins : Nat) : Int) == 0) && (((b2 : Nat) : Int) == 0 && ((d2 : Nat) : Int) == 0 && ((p2 : Nat) : Int) == 0 && ((x2 : Nat) : Int) == 0))) = true := by
      cases hb : ((((tsn : Nat) : Int) == 0 && ((ppid : Nat) : Int) == 0 && ((tag : Nat) : Int) == 0 && ((room : Nat) : Int) == 0) && (((stream : Nat) : Int) == 0 && ((ssn : Nat) : Int) == 0 && ((outs : Nat) : Int) == 0 && ((ins : Nat) : Int) == 0) && (((b2 : Nat) : Int) == 0 && ((d2 : Nat) : Int) == 0 && ((p2 : Nat) : Int) == 0 && ((x2 : Nat) : Int) == 0)) with
      | false => rfl
      | true =>
        exfalso
        simp at hb
        apply hz
        omega
    have hq2 := fun W => (hq W).trans (by rw [he])
    exact check_not kind flags _ _ _ _ _ _ _ _ _ _ _ _ _ _ _ _ _ _ _ _ _ _ _ _  _ _ _ w hv hs hc ht hg hq2
set_option linter.unusedVariables false in
set_option maxRecDepth 100000 in
set_option maxHeartbeats 1000000 in
theorem check_raw (kind flags tsn stream ssn ppid tag room outs ins : Nat) (b1 : Option Addr) (b2 b3 : Nat) (d1 : Option Addr) (d2 d3 : Nat) (p1 : Option Addr) (p2 p3 : Nat) (x1 : Option Addr) (x2 x3 : Nat) (w : World) (hk : ¬ kind = 0 ∧ ¬ kind = 1 ∧ ¬ kind = 2 ∧ ¬ kind = 3 ∧ ¬ kind = 4 ∧ ¬ kind = 5 ∧ ¬ kind = 6 ∧ ¬ kind = 7 ∧ ¬ kind = 8 ∧ ¬ kind = 9 ∧ ¬ kind = 11 ∧ ¬ kind = 14) (hx : x2 ≤ 281474976710656) :
    Calls Try.prog 37 #[.agg #[.int .u8 (kind : Nat), .int .u8 (flags : Nat), .int .u32 (tsn : Nat), .int .u16 (stream : Nat), .int .u16 (ssn : Nat), .int .u32 (ppid : Nat), .int .u32 (tag : Nat), .int .u32 (room : Nat), .int .u16 (outs : Nat), .int .u16 (ins : Nat), .slice b1 b2 b3, .slice d1 d2 d3, .slice p1 p2 p3, .slice x1 x2 x3]] w fun e w' => e = .returned (.int .i64 (chkN (decide (tsn = 0 ∧ stream = 0 ∧ ssn = 0 ∧ ppid = 0 ∧ tag = 0 ∧ room = 0 ∧ outs = 0 ∧ ins = 0 ∧ b2 = 0 ∧ d2 = 0 ∧ p2 = 0)) false false (4 + x2 + padN x2))) ∧ Below w.heap.size w w' := by
  have hv := fun (W : World) (v : Value) (h : v = .agg #[.int .u8 (kind : Nat), .int .u8 (flags : Nat), .int .u32 (tsn : Nat), .int .u16 (stream : Nat), .int .u16 (ssn : Nat), .int .u32 (ppid : Nat), .int .u32 (tag : Nat), .int .u32 (room : Nat), .int .u16 (outs : Nat), .int .u16 (ins : Nat), .slice b1 b2 b3, .slice d1 d2 d3, .slice p1 p2 p3, .slice x1 x2 x3]) => (show Calls Try.prog 52 #[v] W fun e w' => e = .returned (.iface 143 (.slice x1 x2 x3)) ∧ Below W.heap.size W w' from h ▸ valueOf_raw kind flags tsn stream ssn ppid tag room outs ins b1 b2 b3 d1 d2 d3 p1 p2 p3 x1 x2 x3 W hk)
  have hs := fun (W : World) (v : Value) (h : v = .agg #[.int .u8 (kind : Nat), .int .u8 (flags : Nat), .int .u32 (tsn : Nat), .int .u16 (stream : Nat), .int .u16 (ssn : Nat), .int .u32 (ppid : Nat), .int .u32 (tag : Nat), .int .u32 (room : Nat), .int .u16 (outs : Nat), .int .u16 (ins : Nat), .slice b1 b2 b3, .slice d1 d2 d3, .slice p1 p2 p3, .slice x1 x2 x3]) => shapeOf_any kind flags tsn stream ssn ppid tag room outs ins b1 b2 b3 d1 d2 d3 p1 p2 p3 x1 x2 x3 W v h
  have hc := fun (W : World) (v1 v2 v3 : Value) h1 h2 h3 => chunkOf_raw kind flags tsn stream ssn ppid tag room outs ins b1 b2 b3 d1 d2 d3 p1 p2 p3 x1 x2 x3 W v1 v2 v3 h1 h2 h3
  have ht := fun (W : World) (v : Value) (h : v = .agg #[.int .u8 (kind : Nat), .int .u8 (flags : Nat), .int .u32 0, .int .u16 0, .int .u16 0, .int .u32 0, .int .u32 0, .int .u32 0, .int .u16 0, .int .u16 0, .slice none 0 0, .slice none 0 0, .slice none 0 0, .slice x1 x2 x3]) => shapeOf_any kind flags 0 0 0 0 0 0 0 0 none 0 0 none 0 0 none 0 0 x1 x2 x3 W v h
  have hl := fun (W : World) (v : Value) (h : v = .iface 143 (.slice x1 x2 x3)) => lacks_raw kind flags tsn stream ssn ppid tag room outs ins b1 b2 b3 d1 d2 d3 p1 p2 p3 x1 x2 x3 W v h
  have hm := fun (W : World) (v : Value) (h : v = .iface 143 (.slice x1 x2 x3)) => many_raw kind flags tsn stream ssn ppid tag room outs ins b1 b2 b3 d1 d2 d3 p1 p2 p3 x1 x2 x3 W v h
  have hg := fun (W : World) => guard_shape tsn ppid tag room stream ssn outs ins b2 d2 p2 x2 0 0 0 0 0 0 0 0 0 0 0 x2 (.tmp 7) (.tmp 14) W
  have hq := fun (W : World) => neq_shape tsn ppid tag room stream ssn outs ins b2 d2 p2 x2 0 0 0 0 0 0 0 0 0 0 0 x2 W
  by_cases hz : tsn = 0 ∧ stream = 0 ∧ ssn = 0 ∧ ppid = 0 ∧ tag = 0 ∧ room = 0 ∧ outs = 0 ∧ ins = 0 ∧ b2 = 0 ∧ d2 = 0 ∧ p2 = 0
  · rw [decide_eq_true hz]
    have he : (!((((tsn : Nat) : Int) == 0 && ((ppid : Nat) : Int) == 0 && ((tag : Nat) : Int) == 0 && ((room : Nat) : Int) == 0) && (((stream : Nat) : Int) == 0 && ((ssn : Nat) : Int) == 0 && ((outs : Nat) : Int) == 0 && ((ins : Nat) : Int) == 0) && (((b2 : Nat) : Int) == 0 && ((d2 : Nat) : Int) == 0 && ((p2 : Nat) : Int) == 0 && ((x2 : Nat) : Int) == ((x2 : Nat) : Int)))) = false := by
      obtain ⟨rfl, rfl, rfl, rfl, rfl, rfl, rfl, rfl, rfl, rfl, rfl⟩ := hz
      simp
    have hq2 := fun W => (hq W).trans (by rw [he])
    have hp := fun (W : World) (v : Value) (h : v = .iface 143 (.slice x1 x2 x3)) (hb : Below w.heap.size w W) => space_raw x1 x2 x3 W hx v h
    by_cases hw : 1468 < 4 + x2 + padN x2
    · rw [show chkN true false false (4 + x2 + padN x2) = 6 by unfold chkN; rw [decide_eq_true hw]; rfl]
      exact check_wide kind flags _ _ _ _ _ _ _ _ _ _ _ _ _ _ _ _ _ _ _ _ _ _ _ _  _ _ _ w hv hs hc ht hg hq2 hl hm _ hw hp
    · rw [show chkN true false false (4 + x2 + padN x2) = 0 by unfold chkN; rw [decide_eq_false hw]; rfl]
      exact check_fits kind flags _ _ _ _ _ _ _ _ _ _ _ _ _ _ _ _ _ _ _ _ _ _ _ _  _ _ _ w hv hs hc ht hg hq2 hl hm _ (Nat.le_of_not_lt hw) hp
  · rw [decide_eq_false hz]
    have he : (!((((tsn : Nat) : Int) == 0 && ((ppid : Nat) : Int) == 0 && ((tag : Nat) : Int) == 0 && ((room : Nat) : Int) == 0) && (((stream : Nat) : Int) == 0 && ((ssn : Nat) : Int) == 0 && ((outs : Nat) : Int) == 0 && ((ins : Nat) : Int) == 0) && (((b2 : Nat) : Int) == 0 && ((d2 : Nat) : Int) == 0 && ((p2 : Nat) : Int) == 0 && ((x2 : Nat) : Int) == ((x2 : Nat) : Int)))) = true := by
      cases hb : ((((tsn : Nat) : Int) == 0 && ((ppid : Nat) : Int) == 0 && ((tag : Nat) : Int) == 0 && ((room : Nat) : Int) == 0) && (((stream : Nat) : Int) == 0 && ((ssn : Nat) : Int) == 0 && ((outs : Nat) : Int) == 0 && ((ins : Nat) : Int) == 0) && (((b2 : Nat) : Int) == 0 && ((d2 : Nat) : Int) == 0 && ((p2 : Nat) : Int) == 0 && ((x2 : Nat) : Int) == ((x2 : Nat) : Int))) with
      | false => rfl
      | true =>
        exfalso
        simp at hb
        apply hz
        omega
    have hq2 := fun W => (hq W).trans (by rw [he])
    exact check_not kind flags _ _ _ _ _ _ _ _ _ _ _ _ _ _ _ _ _ _ _ _ _ _ _ _  _ _ _ w hv hs hc ht hg hq2
end Go.Proofs.Ytjaheelgcjafcaa
namespace Go.Proofs.Ytjaheelgcjafcaa
open Go.RowKit
structure Ck where
  k : Nat
  f : Nat
  t : Nat
  st : Nat
  ss : Nat
  pp : Nat
  tg : Nat
  rm : Nat
  os : Nat
  is_ : Nat
  b1 : Option Addr
  b2 : Nat
  b3 : Nat
  d1 : Option Addr
  d2 : Nat
  d3 : Nat
  p1 : Option Addr
  p2 : Nat
  p3 : Nat
  x1 : Option Addr
  x2 : Nat
  x3 : Nat
  ls : List Nat
  zs : List Nat
def Ck.val (c : Ck) : Value := .agg #[.int .u8 (c.k : Nat), .int .u8 (c.f : Nat), .int .u32 (c.t : Nat), .int .u16 (c.st : Nat), .int .u16 (c.ss : Nat), .int .u32 (c.pp : Nat), .int .u32 (c.tg : Nat), .int .u32 (c.rm : Nat), .int .u16 (c.os : Nat), .int .u16 (c.is_ : Nat), .slice c.b1 c.b2 c.b3, .slice c.d1 c.d2 c.d3, .slice c.p1 c.p2 c.p3, .slice c.x1 c.x2 c.x3]
structure CkOk (c : Ck) : Prop where
  k : c.k < 256
  f : c.f < 256
  t : c.t < 4294967296
  st : c.st < 65536
  ss : c.ss < 65536
  pp : c.pp < 4294967296
  b2 : c.b2 ≤ 281474976710656
  d2 : c.d2 ≤ 281474976710656
/-- A chunk as it lies. -/
structure CkW (w : World) (c : Ck) : Prop where
  ok : CkOk c
  ps : Prs w c.p1 c.p2 c.p3 c.ls
  sl : Sl w c.x1 c.x2 c.x3 c.zs
theorem CkW.below {w w' : World} {c : Ck} (h : CkW w c) (hb : Below w.heap.size w w') : CkW w' c := ⟨h.ok, h.ps.below hb, h.sl.below hb⟩
def chkOf (c : Ck) : Int :=
  if c.k = 0 then chkN (decide (c.tg = 0 ∧ c.rm = 0 ∧ c.os = 0 ∧ c.is_ = 0 ∧ c.b2 = 0 ∧ c.d2 = 0 ∧ c.p2 = 0)) (decide (c.x2 = 0)) false (4 + (12 + c.x2) + padN (12 + c.x2))
  else if c.k = 1 ∨ c.k = 2 then chkN (decide (c.st = 0 ∧ c.ss = 0 ∧ c.pp = 0 ∧ c.b2 = 0 ∧ c.d2 = 0 ∧ c.x2 = 0)) false (decide (16 < c.p2)) (4 + (16 + psz c.ls) + padN (16 + psz c.ls))
  else if c.k = 3 then chkN (decide (c.st = 0 ∧ c.ss = 0 ∧ c.pp = 0 ∧ c.tg = 0 ∧ c.os = 0 ∧ c.is_ = 0 ∧ c.p2 = 0 ∧ c.x2 = 0)) false (decide (16 < c.b2 ∨ 16 < c.d2)) (4 + (12 + 4 * c.b2 + 4 * c.d2) + padN (12 + 4 * c.b2 + 4 * c.d2))
  else if c.k = 4 ∨ c.k = 5 ∨ c.k = 6 ∨ c.k = 9 then chkN (decide (c.t = 0 ∧ c.st = 0 ∧ c.ss = 0 ∧ c.pp = 0 ∧ c.tg = 0 ∧ c.rm = 0 ∧ c.os = 0 ∧ c.is_ = 0 ∧ c.b2 = 0 ∧ c.d2 = 0 ∧ c.x2 = 0)) false (decide (16 < c.p2)) (4 + (psz c.ls) + padN (psz c.ls))
  else if c.k = 7 then chkN (decide (c.st = 0 ∧ c.ss = 0 ∧ c.pp = 0 ∧ c.tg = 0 ∧ c.rm = 0 ∧ c.os = 0 ∧ c.is_ = 0 ∧ c.b2 = 0 ∧ c.d2 = 0 ∧ c.p2 = 0 ∧ c.x2 = 0)) false false 8
  else if c.k = 8 ∨ c.k = 11 ∨ c.k = 14 then chkN (decide (c.t = 0 ∧ c.st = 0 ∧ c.ss = 0 ∧ c.pp = 0 ∧ c.tg = 0 ∧ c.rm = 0 ∧ c.os = 0 ∧ c.is_ = 0 ∧ c.b2 = 0 ∧ c.d2 = 0 ∧ c.p2 = 0 ∧ c.x2 = 0)) false false 4
  else chkN (decide (c.t = 0 ∧ c.st = 0 ∧ c.ss = 0 ∧ c.pp = 0 ∧ c.tg = 0 ∧ c.rm = 0 ∧ c.os = 0 ∧ c.is_ = 0 ∧ c.b2 = 0 ∧ c.d2 = 0 ∧ c.p2 = 0)) false false (4 + c.x2 + padN c.x2)
theorem chkN_cases (q l m : Bool) (n : Nat) : chkN q l m n = 0 ∨ chkN q l m n = 2 ∨ chkN q l m n = 6 := by
  unfold chkN
  split
  · split
    · exact .inr (.inr rfl)
    · exact .inl rfl
  · exact .inr (.inl rfl)
theorem chkOf_cases (c : Ck) : chkOf c = 0 ∨ chkOf c = 2 ∨ chkOf c = 6 := by
  unfold chkOf
  repeat' split
  all_goals exact chkN_cases _ _ _ _
/-- A Data chunk that may be. -/
theorem chkOf_data {c : Ck} (h : chkOf c = 0) (hk : c.k = 0) : 0 < c.x2 ∧ c.x2 ≤ 1452 := by
  unfold chkOf at h
  rw [if_pos hk] at h
  unfold chkN at h
  split at h
  · rename_i h1
    split at h
    · cases h
    · rename_i h2
      simp at h1 h2
      omega
  · cases h
theorem check_all (c : Ck) (w : World) (h : CkW w c) (v : Value) (hv : v = c.val) : Calls Try.prog 37 #[v] w fun e w' => e = .returned (.int .i64 (chkOf c)) ∧ Below w.heap.size w w' := by
  subst hv
  unfold chkOf
  by_cases h0 : c.k = 0
  · rw [if_pos h0]
    exact check_data c.k c.f c.t c.st c.ss c.pp c.tg c.rm c.os c.is_ c.b1 c.b2 c.b3 c.d1 c.d2 c.d3 c.p1 c.p2 c.p3 c.x1 c.x2 c.x3 w h0 h.sl.small
  rw [if_neg h0]
  by_cases h1 : c.k = 1 ∨ c.k = 2
  · rw [if_pos h1]
    exact check_init c.k c.f c.t c.st c.ss c.pp c.tg c.rm c.os c.is_ c.b1 c.b2 c.b3 c.d1 c.d2 c.d3 c.p1 c.p2 c.p3 c.x1 c.x2 c.x3 w h1 c.ls h.ps
  rw [if_neg h1]
  by_cases h3 : c.k = 3
  · rw [if_pos h3]
    exact check_sack c.k c.f c.t c.st c.ss c.pp c.tg c.rm c.os c.is_ c.b1 c.b2 c.b3 c.d1 c.d2 c.d3 c.p1 c.p2 c.p3 c.x1 c.x2 c.x3 w h3 h.ok.b2 h.ok.d2
  rw [if_neg h3]
  by_cases h4 : c.k = 4 ∨ c.k = 5 ∨ c.k = 6 ∨ c.k = 9
  · rw [if_pos h4]
    exact check_prms c.k c.f c.t c.st c.ss c.pp c.tg c.rm c.os c.is_ c.b1 c.b2 c.b3 c.d1 c.d2 c.d3 c.p1 c.p2 c.p3 c.x1 c.x2 c.x3 w h4 c.ls h.ps
  rw [if_neg h4]
  by_cases h7 : c.k = 7
  · rw [if_pos h7]
    exact check_tsnv c.k c.f c.t c.st c.ss c.pp c.tg c.rm c.os c.is_ c.b1 c.b2 c.b3 c.d1 c.d2 c.d3 c.p1 c.p2 c.p3 c.x1 c.x2 c.x3 w h7
  rw [if_neg h7]
  by_cases h8 : c.k = 8 ∨ c.k = 11 ∨ c.k = 14
  · rw [if_pos h8]
    exact check_none c.k c.f c.t c.st c.ss c.pp c.tg c.rm c.os c.is_ c.b1 c.b2 c.b3 c.d1 c.d2 c.d3 c.p1 c.p2 c.p3 c.x1 c.x2 c.x3 w h8
  rw [if_neg h8]
  exact check_raw c.k c.f c.t c.st c.ss c.pp c.tg c.rm c.os c.is_ c.b1 c.b2 c.b3 c.d1 c.d2 c.d3 c.p1 c.p2 c.p3 c.x1 c.x2 c.x3 w (by omega) h.sl.small
end Go.Proofs.Ytjaheelgcjafcaa
namespace Go.Proofs.Ytjaheelgcjafcaa
open Go.RowKit Go.MapKept Go.Maps
/-- New streams. -/
theorem SmW.new {w w' : World} (n : Nat) (h1 : 1 ≤ n) (h8 : n ≤ 8) (hw : w' = (((w.alloc (.cells (madeCells #[.int .u16 0] n) 42)).alloc (.map #[] 0)).alloc (.map #[] 0)).alloc (.cells #[.slice (some ⟨w.heap.size, 0, none⟩) n n, .map (some (w.heap.size + 1)), .map (some (w.heap.size + 2))] 76)) :
    SmW w' (w.heap.size + 3) w.heap.size (w.heap.size + 1) (w.heap.size + 2) (fun _ => (none, 0)) (fun _ => False) ⟨List.replicate n 0, [], []⟩ := by
  obtain ⟨W1, hW1⟩ : ∃ W, W = w.alloc (.cells (madeCells #[.int .u16 0] n) 42) := ⟨_, rfl⟩
  obtain ⟨W2, hW2⟩ : ∃ W, W = W1.alloc (.map #[] 0) := ⟨_, rfl⟩
  obtain ⟨W3, hW3⟩ : ∃ W, W = W2.alloc (.map #[] 0) := ⟨_, rfl⟩
  rw [← hW1, ← hW2, ← hW3] at hw
  have z1 : W1.heap.size = w.heap.size + 1 := by rw [hW1]; simp
  have z2 : W2.heap.size = w.heap.size + 2 := by rw [hW2]; simp [z1]
  have z3 : W3.heap.size = w.heap.size + 3 := by rw [hW3]; simp [z2]
  have b1 : Below W1.heap.size W1 W2 := by rw [hW2]; exact (Below.refl _ _).alloc (Nat.le_refl _) _
  have b2 : Below W2.heap.size W2 W3 := by rw [hW3]; exact (Below.refl _ _).alloc (Nat.le_refl _) _
  have b3 : Below W3.heap.size W3 w' := by rw [hw]; exact (Below.refl _ _).alloc (Nat.le_refl _) _
  have b13 : Below W1.heap.size W1 w' := b1.trans ((b2.trans (b3.mono b2.size)).mono b1.size)
  have hs := Stc.new W3 [.slice (some ⟨w.heap.size, 0, none⟩) n n, .map (some (w.heap.size + 1)), .map (some (w.heap.size + 2))] 76 w' hw
  rw [z3] at hs
  have m1 := (Mp.made (ek := ipV) (K := IpK) W1 W2 hW2).below (b2.trans (b3.mono b2.size))
  have m2 := (Mp.made (ek := tuV) (K := IpK) W2 W3 hW3).below b3
  rw [z1] at m1
  rw [z2] at m2
  have hrow : Stc W1 w.heap.size (madeCells #[.int .u16 0] n).toList := Stc.new w _ 42 W1 (by rw [hW1])
  have hrow' := hrow.below b13
  refine ⟨⟨n, by simp; unfold maxLen; omega, by simpa using hs⟩, fun i hi => ?_, hrow'.free, hrow'.lt, by simpa using h1, by simpa using h8, fun i => ?_, m1, m2, fun y hy => (by cases hy), fun y hy => (by cases hy), List.Pairwise.nil, List.Pairwise.nil, ⟨by omega, by omega, by omega, by omega, by omega, by omega⟩, fun g hg => hg.elim, fun g hg => hg.elim, Nat.zero_le _, fun y hy => (by cases hy)⟩
  · simp only [List.length_replicate] at hi
    have e : (List.replicate n 0).getD i 0 = 0 := by simp [List.getD_eq_getElem?_getD, hi]
    rw [e]
    refine hrow'.cell i _ ?_
    rw [Array.getElem?_toList]
    simp [madeCells, hi, Nat.mod_one]
  · simp [List.getD_eq_getElem?_getD, List.getElem?_replicate]
    split <;> simp
set_option linter.unusedVariables false in
set_option maxRecDepth 100000 in
theorem snext_any {w : World} {p nb mb wb : Nat} {wr0 : Nat → Option Addr × Nat} {Y : Nat → Prop} {s : SmS} (h : SmW w p nb mb wb wr0 Y s) (n : Int) :
    Calls Try.prog 22 #[.pointer (some ⟨p, 0, none⟩), .int .i64 n] w fun e w' => e = .returned (if 0 ≤ n ∧ n < s.nx.length then .tuple #[.int .u16 (s.nx.getD n.toNat 0 : Nat), .int .i64 0] else .tuple #[.int .u16 0, .int .i64 14]) ∧ Below w.heap.size w w' := by
  have c0 := h.st.cell 0 _ rfl
  have hpl := h.st.lt
  have hn8 := h.n8
  by_cases h0 : n < 0
  · rw [if_neg (by omega)]
    go_enter Try.func22, Try.ntmps22
    go_wp2
    go_ret2
    exact ⟨rfl, Below.refl _ _⟩
  · obtain ⟨m, rfl⟩ : ∃ m : Nat, n = (m : Int) := ⟨n.toNat, by omega⟩
    obtain ⟨sn, hsn⟩ : ∃ sn, sn = s.nx.length := ⟨_, rfl⟩
    rw [← hsn] at c0 hn8 ⊢
    by_cases hm : m < sn
    · rw [if_pos (by omega)]
      have hx := h.nx m (by omega)
      have hmi : (m : Int) < (sn : Int) := by omega
      rw [Int.toNat_natCast]
      generalize s.nx.getD m 0 = v at *
      clear h hsn
      go_enter Try.func22, Try.ntmps22
      go_wp2
      go_ret2
      exact ⟨rfl, Below.refl _ _⟩
    · rw [if_neg (by omega)]
      have hmi : ¬ (m : Int) < (sn : Int) := by omega
      clear h hsn
      go_enter Try.func22, Try.ntmps22
      go_wp2
      go_ret2
      exact ⟨rfl, Below.refl _ _⟩
/-- Add of a chunk as it lies. -/
theorem sadd_ck {w : World} {p nb mb wb : Nat} {wr0 : Nat → Option Addr × Nat} {Y : Nat → Prop} {s : SmS} (h : SmW w p nb mb wb wr0 Y s) (c : Ck) (hc : CkW w c) (v : Value) (hv : v = c.val) :
    Calls Try.prog 14 #[.pointer (some ⟨p, 0, none⟩), v] w (AddR w p nb mb wb Y s c.k c.f c.t c.st c.ss c.pp c.x2 c.zs (chkOf c)) :=
  sadd_any h c.k c.f c.t c.st c.ss c.pp _ _ _ _ _ _ _ c.x1 c.x2 c.x3 c.zs (chkOf c) hc.ok.k hc.ok.f hc.ok.t hc.ok.st hc.ok.ss hc.ok.pp hc.sl (fun hE hk => (chkOf_data hE hk).2) (fun W u hW hu => check_all c W (hc.below hW) u hu) v hv
end Go.Proofs.Ytjaheelgcjafcaa
