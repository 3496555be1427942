/- What '!=' of two shapes of chunks answers. -/
import Derived.Test.YtlgfbcfogcmdbaaDoorChB
import Derived.ChangeKeysEq
import Derived.OwnWalk
namespace Go.Proofs.YtlgfbcfogcmdbaaDoor
open Go.RowKit
theorem eq4w (a b c d a2 b2 c2 d2 : Int) (w : World) : (Op.equalIn 9999 82 (.agg #[.int .u32 a, .int .u32 b, .int .u32 c, .int .u32 d]) (.agg #[.int .u32 a2, .int .u32 b2, .int .u32 c2, .int .u32 d2])).run Tryd.prog w = .ok (a == a2 && b == b2 && c == c2 && d == d2) w := by
  have hi0 : (Tryd.prog.info? 23).map (fun i => (i.zero, i.size, i.bytes)) = some (some (.int .u32 0), 1, 4) := by kernel_rfl
  obtain ⟨i, hi, hz0, hz1, hz2⟩ := info_parts hi0
  have hce : Tryd.prog.cellsOf 23 = 1 := by kernel_rfl
  have hag : ∀ w, (isAgg 23).run Tryd.prog w = .ok false w := fun w => by kernel_rfl
  rw [show (9999 : Nat) = 9997 + 1 + 1 from rfl, run_equalIn_array w (9997 + 1) _ _ Tryd.underlying82 hi, hce]
  by_cases h : a = a2 <;> by_cases h2 : b = b2 <;> by_cases h3 : c = c2 <;> by_cases h4 : d = d2 <;> simp [Op.eqItems, part, hag, List.range, List.range.loop, run_equalIn_int, Tryd.underlying23, h, h2, h3, h4]
theorem eq4h (a b c d a2 b2 c2 d2 : Int) (w : World) : (Op.equalIn 9999 83 (.agg #[.int .u16 a, .int .u16 b, .int .u16 c, .int .u16 d]) (.agg #[.int .u16 a2, .int .u16 b2, .int .u16 c2, .int .u16 d2])).run Tryd.prog w = .ok (a == a2 && b == b2 && c == c2 && d == d2) w := by
  have hi0 : (Tryd.prog.info? 22).map (fun i => (i.zero, i.size, i.bytes)) = some (some (.int .u16 0), 1, 2) := by kernel_rfl
  obtain ⟨i, hi, hz0, hz1, hz2⟩ := info_parts hi0
  have hce : Tryd.prog.cellsOf 22 = 1 := by kernel_rfl
  have hag : ∀ w, (isAgg 22).run Tryd.prog w = .ok false w := fun w => by kernel_rfl
  rw [show (9999 : Nat) = 9997 + 1 + 1 from rfl, run_equalIn_array w (9997 + 1) _ _ Tryd.underlying83 hi, hce]
  by_cases h : a = a2 <;> by_cases h2 : b = b2 <;> by_cases h3 : c = c2 <;> by_cases h4 : d = d2 <;> simp [Op.eqItems, part, hag, List.range, List.range.loop, run_equalIn_int, Tryd.underlying22, h, h2, h3, h4]
theorem eq4c (a b c d a2 b2 c2 d2 : Int) (w : World) : (Op.equalIn 9999 84 (.agg #[.int .i64 a, .int .i64 b, .int .i64 c, .int .i64 d]) (.agg #[.int .i64 a2, .int .i64 b2, .int .i64 c2, .int .i64 d2])).run Tryd.prog w = .ok (a == a2 && b == b2 && c == c2 && d == d2) w := by
  have hi0 : (Tryd.prog.info? 3).map (fun i => (i.zero, i.size, i.bytes)) = some (some (.int .i64 0), 1, 8) := by kernel_rfl
  obtain ⟨i, hi, hz0, hz1, hz2⟩ := info_parts hi0
  have hce : Tryd.prog.cellsOf 3 = 1 := by kernel_rfl
  have hag : ∀ w, (isAgg 3).run Tryd.prog w = .ok false w := fun w => by kernel_rfl
  rw [show (9999 : Nat) = 9997 + 1 + 1 from rfl, run_equalIn_array w (9997 + 1) _ _ Tryd.underlying84 hi, hce]
  by_cases h : a = a2 <;> by_cases h2 : b = b2 <;> by_cases h3 : c = c2 <;> by_cases h4 : d = d2 <;> simp [Op.eqItems, part, hag, List.range, List.range.loop, run_equalIn_int, Tryd.underlying3, h, h2, h3, h4]
set_option linter.unusedSimpArgs false in
set_option maxRecDepth 100000 in
theorem eq_shape (x0 x1 x2 x3 x4 x5 x6 x7 x8 x9 x10 x11 y0 y1 y2 y3 y4 y5 y6 y7 y8 y9 y10 y11 : Int) (w : World) : (Op.equalIn 10000 86 (.agg #[.int .u32 x0, .int .u32 x1, .int .u32 x2, .int .u32 x3, .int .u16 x4, .int .u16 x5, .int .u16 x6, .int .u16 x7, .int .i64 x8, .int .i64 x9, .int .i64 x10, .int .i64 x11]) (.agg #[.int .u32 y0, .int .u32 y1, .int .u32 y2, .int .u32 y3, .int .u16 y4, .int .u16 y5, .int .u16 y6, .int .u16 y7, .int .i64 y8, .int .i64 y9, .int .i64 y10, .int .i64 y11])).run Tryd.prog w = .ok ((x0 == y0 && x1 == y1 && x2 == y2 && x3 == y3) && (x4 == y4 && x5 == y5 && x6 == y6 && x7 == y7) && (x8 == y8 && x9 == y9 && x10 == y10 && x11 == y11)) w := by
  have px0 : ∀ w, (part 82 #[.int .u32 x0, .int .u32 x1, .int .u32 x2, .int .u32 x3, .int .u16 x4, .int .u16 x5, .int .u16 x6, .int .u16 x7, .int .i64 x8, .int .i64 x9, .int .i64 x10, .int .i64 x11] 0).run Tryd.prog w = .ok (.agg #[.int .u32 x0, .int .u32 x1, .int .u32 x2, .int .u32 x3]) w := fun w => by kernel_rfl
  have px1 : ∀ w, (part 83 #[.int .u32 x0, .int .u32 x1, .int .u32 x2, .int .u32 x3, .int .u16 x4, .int .u16 x5, .int .u16 x6, .int .u16 x7, .int .i64 x8, .int .i64 x9, .int .i64 x10, .int .i64 x11] 4).run Tryd.prog w = .ok (.agg #[.int .u16 x4, .int .u16 x5, .int .u16 x6, .int .u16 x7]) w := fun w => by kernel_rfl
  have px2 : ∀ w, (part 84 #[.int .u32 x0, .int .u32 x1, .int .u32 x2, .int .u32 x3, .int .u16 x4, .int .u16 x5, .int .u16 x6, .int .u16 x7, .int .i64 x8, .int .i64 x9, .int .i64 x10, .int .i64 x11] 8).run Tryd.prog w = .ok (.agg #[.int .i64 x8, .int .i64 x9, .int .i64 x10, .int .i64 x11]) w := fun w => by kernel_rfl
  have py0 : ∀ w, (part 82 #[.int .u32 y0, .int .u32 y1, .int .u32 y2, .int .u32 y3, .int .u16 y4, .int .u16 y5, .int .u16 y6, .int .u16 y7, .int .i64 y8, .int .i64 y9, .int .i64 y10, .int .i64 y11] 0).run Tryd.prog w = .ok (.agg #[.int .u32 y0, .int .u32 y1, .int .u32 y2, .int .u32 y3]) w := fun w => by kernel_rfl
  have py1 : ∀ w, (part 83 #[.int .u32 y0, .int .u32 y1, .int .u32 y2, .int .u32 y3, .int .u16 y4, .int .u16 y5, .int .u16 y6, .int .u16 y7, .int .i64 y8, .int .i64 y9, .int .i64 y10, .int .i64 y11] 4).run Tryd.prog w = .ok (.agg #[.int .u16 y4, .int .u16 y5, .int .u16 y6, .int .u16 y7]) w := fun w => by kernel_rfl
  have py2 : ∀ w, (part 84 #[.int .u32 y0, .int .u32 y1, .int .u32 y2, .int .u32 y3, .int .u16 y4, .int .u16 y5, .int .u16 y6, .int .u16 y7, .int .i64 y8, .int .i64 y9, .int .i64 y10, .int .i64 y11] 8).run Tryd.prog w = .ok (.agg #[.int .i64 y8, .int .i64 y9, .int .i64 y10, .int .i64 y11]) w := fun w => by kernel_rfl
  rw [show (10000 : Nat) = 9999 + 1 from rfl, run_equalIn_struct w 9999 _ _ _ (by kernel_rfl) (by kernel_rfl)]
  have hf : ((Tryd.prog.fieldsOf 86).toList.map (fun f => (f.name, f.type, f.offset))) = [("words", 82, 0), ("halves", 83, 4), ("counts", 84, 8)] := by kernel_rfl
  generalize (Tryd.prog.fieldsOf 86).toList = fs at *
  obtain ⟨f0, fs, rfl⟩ : ∃ f t, fs = f :: t := by
    cases fs with
    | nil => simp at hf
    | cons f t => exact ⟨f, t, rfl⟩
  obtain ⟨f1, fs, rfl⟩ : ∃ f t, fs = f :: t := by
    cases fs with
    | nil => simp at hf
    | cons f t => exact ⟨f, t, rfl⟩
  obtain ⟨f2, rfl⟩ : ∃ f, fs = [f] := by
    cases fs with
    | nil => simp at hf
    | cons f t =>
      cases t with
      | nil => exact ⟨f, rfl⟩
      | cons g t => simp at hf
  simp only [List.map_cons, List.map_nil, List.cons.injEq, Prod.mk.injEq, and_true] at hf
  obtain ⟨⟨n0, t0, o0⟩, ⟨n1, t1, o1⟩, ⟨n2, t2, o2⟩⟩ := hf
  simp only [Op.eqFields, n0, t0, o0, n1, t1, o1, n2, t2, o2, Sem.run_bind, Sem.run_ite, px0, px1, px2, py0, py1, py2, Result.andThen_ok, eq4w, eq4h, eq4c, Sem.run_pure]
  cases hA : (x0 == y0 && x1 == y1 && x2 == y2 && x3 == y3) <;> cases hB : (x4 == y4 && x5 == y5 && x6 == y6 && x7 == y7) <;> cases hC : (x8 == y8 && x9 == y9 && x10 == y10 && x11 == y11) <;> simp
theorem neq_shape (x0 x1 x2 x3 x4 x5 x6 x7 x8 x9 x10 x11 y0 y1 y2 y3 y4 y5 y6 y7 y8 y9 y10 y11 : Int) (w : World) : (binOp .neq 86 (.agg #[.int .u32 x0, .int .u32 x1, .int .u32 x2, .int .u32 x3, .int .u16 x4, .int .u16 x5, .int .u16 x6, .int .u16 x7, .int .i64 x8, .int .i64 x9, .int .i64 x10, .int .i64 x11]) (.agg #[.int .u32 y0, .int .u32 y1, .int .u32 y2, .int .u32 y3, .int .u16 y4, .int .u16 y5, .int .u16 y6, .int .u16 y7, .int .i64 y8, .int .i64 y9, .int .i64 y10, .int .i64 y11])).run Tryd.prog w = .ok (.bool (!((x0 == y0 && x1 == y1 && x2 == y2 && x3 == y3) && (x4 == y4 && x5 == y5 && x6 == y6 && x7 == y7) && (x8 == y8 && x9 == y9 && x10 == y10 && x11 == y11)))) w := by
  simp only [binOp, Op.equal, Sem.run_bind, Op.maxDepth, eq_shape, Result.andThen_ok, Sem.run_pure]
theorem guard_shape (x0 x1 x2 x3 x4 x5 x6 x7 x8 x9 x10 x11 y0 y1 y2 y3 y4 y5 y6 y7 y8 y9 y10 y11 : Int) (p q : Operand) (w : World) : (eqGuard .neq 86 p q (.agg #[.int .u32 x0, .int .u32 x1, .int .u32 x2, .int .u32 x3, .int .u16 x4, .int .u16 x5, .int .u16 x6, .int .u16 x7, .int .i64 x8, .int .i64 x9, .int .i64 x10, .int .i64 x11]) (.agg #[.int .u32 y0, .int .u32 y1, .int .u32 y2, .int .u32 y3, .int .u16 y4, .int .u16 y5, .int .u16 y6, .int .u16 y7, .int .i64 y8, .int .i64 y9, .int .i64 y10, .int .i64 y11])).run Tryd.prog w = .ok () w := by
  kernel_rfl
end Go.Proofs.YtlgfbcfogcmdbaaDoor
