/- What '!=' of two shapes of chunks answers. -/
import Derived.Test.YtjaheelgcjafcaaChB
import Derived.ChangeKeysEq
import Derived.OwnWalk
namespace Go.Proofs.Ytjaheelgcjafcaa
open Go.RowKit
theorem eq4w (a b c d a2 b2 c2 d2 : Int) (w : World) : (Op.equalIn 9999 112 (.agg #[.int .u32 a, .int .u32 b, .int .u32 c, .int .u32 d]) (.agg #[.int .u32 a2, .int .u32 b2, .int .u32 c2, .int .u32 d2])).run Try.prog w = .ok (a == a2 && b == b2 && c == c2 && d == d2) w := by
  have hi0 : (Try.prog.info? 30).map (fun i => (i.zero, i.size, i.bytes)) = some (some (.int .u32 0), 1, 4) := by kernel_rfl
  obtain ⟨i, hi, hz0, hz1, hz2⟩ := info_parts hi0
  have hce : Try.prog.cellsOf 30 = 1 := by kernel_rfl
  have hag : ∀ w, (isAgg 30).run Try.prog w = .ok false w := fun w => by kernel_rfl
  rw [show (9999 : Nat) = 9997 + 1 + 1 from rfl, run_equalIn_array w (9997 + 1) _ _ Try.underlying112 hi, hce]
  by_cases h : a = a2 <;> by_cases h2 : b = b2 <;> by_cases h3 : c = c2 <;> by_cases h4 : d = d2 <;> simp [Op.eqItems, part, hag, List.range, List.range.loop, run_equalIn_int, Try.underlying30, h, h2, h3, h4]
theorem eq4h (a b c d a2 b2 c2 d2 : Int) (w : World) : (Op.equalIn 9999 113 (.agg #[.int .u16 a, .int .u16 b, .int .u16 c, .int .u16 d]) (.agg #[.int .u16 a2, .int .u16 b2, .int .u16 c2, .int .u16 d2])).run Try.prog w = .ok (a == a2 && b == b2 && c == c2 && d == d2) w := by
  have hi0 : (Try.prog.info? 42).map (fun i => (i.zero, i.size, i.bytes)) = some (some (.int .u16 0), 1, 2) := by kernel_rfl
  obtain ⟨i, hi, hz0, hz1, hz2⟩ := info_parts hi0
  have hce : Try.prog.cellsOf 42 = 1 := by kernel_rfl
  have hag : ∀ w, (isAgg 42).run Try.prog w = .ok false w := fun w => by kernel_rfl
  rw [show (9999 : Nat) = 9997 + 1 + 1 from rfl, run_equalIn_array w (9997 + 1) _ _ Try.underlying113 hi, hce]
  by_cases h : a = a2 <;> by_cases h2 : b = b2 <;> by_cases h3 : c = c2 <;> by_cases h4 : d = d2 <;> simp [Op.eqItems, part, hag, List.range, List.range.loop, run_equalIn_int, Try.underlying42, h, h2, h3, h4]
theorem eq4c (a b c d a2 b2 c2 d2 : Int) (w : World) : (Op.equalIn 9999 114 (.agg #[.int .i64 a, .int .i64 b, .int .i64 c, .int .i64 d]) (.agg #[.int .i64 a2, .int .i64 b2, .int .i64 c2, .int .i64 d2])).run Try.prog w = .ok (a == a2 && b == b2 && c == c2 && d == d2) w := by
  have hi0 : (Try.prog.info? 3).map (fun i => (i.zero, i.size, i.bytes)) = some (some (.int .i64 0), 1, 8) := by kernel_rfl
  obtain ⟨i, hi, hz0, hz1, hz2⟩ := info_parts hi0
  have hce : Try.prog.cellsOf 3 = 1 := by kernel_rfl
  have hag : ∀ w, (isAgg 3).run Try.prog w = .ok false w := fun w => by kernel_rfl
  rw [show (9999 : Nat) = 9997 + 1 + 1 from rfl, run_equalIn_array w (9997 + 1) _ _ Try.underlying114 hi, hce]
  by_cases h : a = a2 <;> by_cases h2 : b = b2 <;> by_cases h3 : c = c2 <;> by_cases h4 : d = d2 <;> simp [Op.eqItems, part, hag, List.range, List.range.loop, run_equalIn_int, Try.underlying3, h, h2, h3, h4]
set_option linter.unusedSimpArgs false in
set_option maxRecDepth 100000 in
theorem eq_shape (x0 x1 x2 x3 x4 x5 x6 x7 x8 x9 x10 x11 y0 y1 y2 y3 y4 y5 y6 y7 y8 y9 y10 y11 : Int) (w : World) : (Op.equalIn 10000 116 (.agg #[.int .u32 x0, .int .u32 x1, .int .u32 x2, .int .u32 x3, .int .u16 x4, .int .u16 x5, .int .u16 x6, .int .u16 x7, .int .i64 x8, .int .i64 x9, .int .i64 x10, .int .i64 x11]) (.agg #[.int .u32 y0, .int .u32 y1, .int .u32 y2, .int .u32 y3, .int .u16 y4, .int .u16 y5, .int .u16 y6, .int .u16 y7, .int .i64 y8, .int .i64 y9, .int .i64 y10, .int .i64 y11])).run Try.prog w = .ok ((x0 == y0 && x1 == y1 && x2 == y2 && x3 == y3) && (x4 == y4 && x5 == y5 && x6 == y6 && x7 == y7) && (x8 == y8 && x9 == y9 && x10 == y10 && x11 == y11)) w := by
  have px0 : ∀ w, (part 112 #[.int .u32 x0, .int .u32 x1, .int .u32 x2, .int .u32 x3, .int .u16 x4, .int .u16 x5, .int .u16 x6, .int .u16 x7, .int .i64 x8, .int .i64 x9, .int .i64 x10, .int .i64 x11] 0).run Try.prog w = .ok (.agg #[.int .u32 x0, .int .u32 x1, .int .u32 x2, .int .u32 x3]) w := fun w => by kernel_rfl
  have px1 : ∀ w, (part 113 #[.int .u32 x0, .int .u32 x1, .int .u32 x2, .int .u32 x3, .int .u16 x4, .int .u16 x5, .int .u16 x6, .int .u16 x7, .int .i64 x8, .int .i64 x9, .int .i64 x10, .int .i64 x11] 4).run Try.prog w = .ok (.agg #[.int .u16 x4, .int .u16 x5, .int .u16 x6, .int .u16 x7]) w := fun w => by kernel_rfl
  have px2 : ∀ w, (part 114 #[.int .u32 x0, .int .u32 x1, .int .u32 x2, .int .u32 x3, .int .u16 x4, .int .u16 x5, .int .u16 x6, .int .u16 x7, .int .i64 x8, .int .i64 x9, .int .i64 x10, .int .i64 x11] 8).run Try.prog w = .ok (.agg #[.int .i64 x8, .int .i64 x9, .int .i64 x10, .int .i64 x11]) w := fun w => by kernel_rfl
  have py0 : ∀ w, (part 112 #[.int .u32 y0, .int .u32 y1, .int .u32 y2, .int .u32 y3, .int .u16 y4, .int .u16 y5, .int .u16 y6, .int .u16 y7, .int .i64 y8, .int .i64 y9, .int .i64 y10, .int .i64 y11] 0).run Try.prog w = .ok (.agg #[.int .u32 y0, .int .u32 y1, .int .u32 y2, .int .u32 y3]) w := fun w => by kernel_rfl
  have py1 : ∀ w, (part 113 #[.int .u32 y0, .int .u32 y1, .int .u32 y2, .int .u32 y3, .int .u16 y4, .int .u16 y5, .int .u16 y6, .int .u16 y7, .int .i64 y8, .int .i64 y9, .int .i64 y10, .int .i64 y11] 4).run Try.prog w = .ok (.agg #[.int .u16 y4, .int .u16 y5, .int .u16 y6, .int .u16 y7]) w := fun w => by kernel_rfl
  have py2 : ∀ w, (part 114 #[.int .u32 y0, .int .u32 y1, .int .u32 y2, .int .u32 y3, .int .u16 y4, .int .u16 y5, .int .u16 y6, .int .u16 y7, .int .i64 y8, .int .i64 y9, .int .i64 y10, .int .i64 y11] 8).run Try.prog w = .ok (.agg #[.int .i64 y8, .int .i64 y9, .int .i64 y10, .int .i64 y11]) w := fun w => by kernel_rfl
  rw [show (10000 : Nat) = 9999 + 1 from rfl, run_equalIn_struct w 9999 _ _ _ (by kernel_rfl) (by kernel_rfl)]
  have hf : ((Try.prog.fieldsOf 116).toList.map (fun f => (f.name, f.type, f.offset))) = [("words", 112, 0), ("halves", 113, 4), ("counts", 114, 8)] := by kernel_rfl
  generalize (Try.prog.fieldsOf 116).toList = fs at *
  obtain ⟨f0, fs, rfl⟩ : ∃ f t, fs = f :: t := by
    cases fs with
    | nil => simp at hf
    | cons f t => exact ⟨f, t, rfl⟩
  obtain ⟨f1, fs, rfl⟩ : ∃ f t, fs = f :: t := by
    cases fs with
    | nil => simp at hf
    | cons f t => exact ⟨f, t, rfl⟩
  obtain ⟨f2, rfl⟩ : ∃ f, fs = [f] := by
    cases fs with
    | nil => simp at hf
    | cons f t =>
      cases t with
      | nil => exact ⟨f, rfl⟩
      | cons g t => simp at hf
  simp only [List.map_cons, List.map_nil, List.cons.injEq, Prod.mk.injEq, and_true] at hf
  obtain ⟨⟨n0, t0, o0⟩, ⟨n1, t1, o1⟩, ⟨n2, t2, o2⟩⟩ := hf
  simp only [Op.eqFields, n0, t0, o0, n1, t1, o1, n2, t2, o2, Sem.run_bind, Sem.run_ite, px0, px1, px2, py0, py1, py2, Result.andThen_ok, eq4w, eq4h, eq4c, Sem.run_pure]
  cases hA : (x0 == y0 && x1 == y1 && x2 == y2 && x3 == y3) <;> cases hB : (x4 == y4 && x5 == y5 && x6 == y6 && x7 == y7) <;> cases hC : (x8 == y8 && x9 == y9 && x10 == y10 && x11 == y11) <;> simp
theorem neq_shape (x0 x1 x2 x3 x4 x5 x6 x7 x8 x9 x10 x11 y0 y1 y2 y3 y4 y5 y6 y7 y8 y9 y10 y11 : Int) (w : World) : (binOp .neq 116 (.agg #[.int .u32 x0, .int .u32 x1, .int .u32 x2, .int .u32 x3, .int .u16 x4, .int .u16 x5, .int .u16 x6, .int .u16 x7, .int .i64 x8, .int .i64 x9, .int .i64 x10, .int .i64 x11]) (.agg #[.int .u32 y0, .int .u32 y1, .int .u32 y2, .int .u32 y3, .int .u16 y4, .int .u16 y5, .int .u16 y6, .int .u16 y7, .int .i64 y8, .int .i64 y9, .int .i64 y10, .int .i64 y11])).run Try.prog w = .ok (.bool (!((x0 == y0 && x1 == y1 && x2 == y2 && x3 == y3) && (x4 == y4 && x5 == y5 && x6 == y6 && x7 == y7) && (x8 == y8 && x9 == y9 && x10 == y10 && x11 == y11)))) w := by
  simp only [binOp, Op.equal, Sem.run_bind, Op.maxDepth, eq_shape, Result.andThen_ok, Sem.run_pure]
theorem guard_shape (x0 x1 x2 x3 x4 x5 x6 x7 x8 x9 x10 x11 y0 y1 y2 y3 y4 y5 y6 y7 y8 y9 y10 y11 : Int) (p q : Operand) (w : World) : (eqGuard .neq 116 p q (.agg #[.int .u32 x0, .int .u32 x1, .int .u32 x2, .int .u32 x3, .int .u16 x4, .int .u16 x5, .int .u16 x6, .int .u16 x7, .int .i64 x8, .int .i64 x9, .int .i64 x10, .int .i64 x11]) (.agg #[.int .u32 y0, .int .u32 y1, .int .u32 y2, .int .u32 y3, .int .u16 y4, .int .u16 y5, .int .u16 y6, .int .u16 y7, .int .i64 y8, .int .i64 y9, .int .i64 y10, .int .i64 y11])).run Try.prog w = .ok () w := by
  kernel_rfl
end Go.Proofs.Ytjaheelgcjafcaa
