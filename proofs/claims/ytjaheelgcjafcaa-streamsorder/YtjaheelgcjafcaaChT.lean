/- Type assertions on a chunk's value. -/
import Derived.Test.YtjaheelgcjafcaaChB
namespace Go.Proofs.Ytjaheelgcjafcaa
open Go.RowKit
theorem zero_any (T : TypeId) (Z : Value) (h : (Try.prog.info? T).map (fun i => i.zero) = some (some Z)) (w : World) : (zeroValue T).run Try.prog w = .ok Z w := by
  cases hi : Try.prog.info? T with
  | none => rw [hi] at h; cases h
  | some i =>
    rw [hi] at h
    have hz : i.zero = some Z := by simpa using h
    simp [zeroValue, run_typeInfo w hi, hz]
theorem ta_no_st (T A : TypeId) (fs : Array Field) (Z v : Value) (hu : Try.prog.underlying A = some (.struct fs)) (hz : (Try.prog.info? A).map (fun i => i.zero) = some (some Z)) (hne : T ≠ A) (w : World) : (Instr.typeAssert (.iface T v) 110 A true).run Try.prog w = .ok (.tuple #[Z, .bool false]) w := by
  simp only [Instr.typeAssert, Sem.run_bind, Result.andThen_ok, run_underlying hu]
  rw [if_neg hne]
  simp [zero_any A Z hz]
theorem ta_no_sl (T A e : TypeId) (Z v : Value) (hu : Try.prog.underlying A = some (.slice e)) (hz : (Try.prog.info? A).map (fun i => i.zero) = some (some Z)) (hne : T ≠ A) (w : World) : (Instr.typeAssert (.iface T v) 110 A true).run Try.prog w = .ok (.tuple #[Z, .bool false]) w := by
  simp only [Instr.typeAssert, Sem.run_bind, Result.andThen_ok, run_underlying hu]
  rw [if_neg hne]
  simp [zero_any A Z hz]
theorem ta_no_in (T A : TypeId) (k : IntKind) (Z v : Value) (hu : Try.prog.underlying A = some (.int k)) (hz : (Try.prog.info? A).map (fun i => i.zero) = some (some Z)) (hne : T ≠ A) (w : World) : (Instr.typeAssert (.iface T v) 110 A true).run Try.prog w = .ok (.tuple #[Z, .bool false]) w := by
  simp only [Instr.typeAssert, Sem.run_bind, Result.andThen_ok, run_underlying hu]
  rw [if_neg hne]
  simp [zero_any A Z hz]
theorem ta_yes_st (A : TypeId) (fs : Array Field) (v : Value) (hu : Try.prog.underlying A = some (.struct fs)) (w : World) : (Instr.typeAssert (.iface A v) 110 A true).run Try.prog w = .ok (.tuple #[v, .bool true]) w := by
  simp only [Instr.typeAssert, Sem.run_bind, Result.andThen_ok, run_underlying hu]
  simp
theorem ta_yes_sl (A e : TypeId) (v : Value) (hu : Try.prog.underlying A = some (.slice e)) (w : World) : (Instr.typeAssert (.iface A v) 110 A true).run Try.prog w = .ok (.tuple #[v, .bool true]) w := by
  simp only [Instr.typeAssert, Sem.run_bind, Result.andThen_ok, run_underlying hu]
  simp
theorem ta_yes_in (A : TypeId) (k : IntKind) (v : Value) (hu : Try.prog.underlying A = some (.int k)) (w : World) : (Instr.typeAssert (.iface A v) 110 A true).run Try.prog w = .ok (.tuple #[v, .bool true]) w := by
  simp only [Instr.typeAssert, Sem.run_bind, Result.andThen_ok, run_underlying hu]
  simp
end Go.Proofs.Ytjaheelgcjafcaa
