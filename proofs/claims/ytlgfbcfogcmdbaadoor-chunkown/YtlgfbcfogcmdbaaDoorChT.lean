/- Type assertions on a chunk's value. -/
import Derived.Test.YtlgfbcfogcmdbaaDoorChB
namespace Go.Proofs.YtlgfbcfogcmdbaaDoor
open Go.RowKit
theorem zero_any (T : TypeId) (Z : Value) (h : (Tryd.prog.info? T).map (fun i => i.zero) = some (some Z)) (w : World) : (zeroValue T).run Tryd.prog w = .ok Z w := by
  cases hi : Tryd.prog.info? T with
  | none => rw [hi] at h; cases h
  | some i =>
    rw [hi] at h
    have hz : i.zero = some Z := by simpa using h
    simp [zeroValue, run_typeInfo w hi, hz]
theorem ta_no_st (T A : TypeId) (fs : Array Field) (Z v : Value) (hu : Tryd.prog.underlying A = some (.struct fs)) (hz : (Tryd.prog.info? A).map (fun i => i.zero) = some (some Z)) (hne : T ≠ A) (w : World) : (Instr.typeAssert (.iface T v) 61 A true).run Tryd.prog w = .ok (.tuple #[Z, .bool false]) w := by
  simp only [Instr.typeAssert, Sem.run_bind, Result.andThen_ok, run_underlying hu]
  rw [if_neg hne]
  simp [zero_any A Z hz]
theorem ta_no_sl (T A e : TypeId) (Z v : Value) (hu : Tryd.prog.underlying A = some (.slice e)) (hz : (Tryd.prog.info? A).map (fun i => i.zero) = some (some Z)) (hne : T ≠ A) (w : World) : (Instr.typeAssert (.iface T v) 61 A true).run Tryd.prog w = .ok (.tuple #[Z, .bool false]) w := by
  simp only [Instr.typeAssert, Sem.run_bind, Result.andThen_ok, run_underlying hu]
  rw [if_neg hne]
  simp [zero_any A Z hz]
theorem ta_no_in (T A : TypeId) (k : IntKind) (Z v : Value) (hu : Tryd.prog.underlying A = some (.int k)) (hz : (Tryd.prog.info? A).map (fun i => i.zero) = some (some Z)) (hne : T ≠ A) (w : World) : (Instr.typeAssert (.iface T v) 61 A true).run Tryd.prog w = .ok (.tuple #[Z, .bool false]) w := by
  simp only [Instr.typeAssert, Sem.run_bind, Result.andThen_ok, run_underlying hu]
  rw [if_neg hne]
  simp [zero_any A Z hz]
theorem ta_yes_st (A : TypeId) (fs : Array Field) (v : Value) (hu : Tryd.prog.underlying A = some (.struct fs)) (w : World) : (Instr.typeAssert (.iface A v) 61 A true).run Tryd.prog w = .ok (.tuple #[v, .bool true]) w := by
  simp only [Instr.typeAssert, Sem.run_bind, Result.andThen_ok, run_underlying hu]
  simp
theorem ta_yes_sl (A e : TypeId) (v : Value) (hu : Tryd.prog.underlying A = some (.slice e)) (w : World) : (Instr.typeAssert (.iface A v) 61 A true).run Tryd.prog w = .ok (.tuple #[v, .bool true]) w := by
  simp only [Instr.typeAssert, Sem.run_bind, Result.andThen_ok, run_underlying hu]
  simp
theorem ta_yes_in (A : TypeId) (k : IntKind) (v : Value) (hu : Tryd.prog.underlying A = some (.int k)) (w : World) : (Instr.typeAssert (.iface A v) 61 A true).run Tryd.prog w = .ok (.tuple #[v, .bool true]) w := by
  simp only [Instr.typeAssert, Sem.run_bind, Result.andThen_ok, run_underlying hu]
  simp
end Go.Proofs.YtlgfbcfogcmdbaaDoor
