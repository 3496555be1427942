/- What an answer to a question is. -/
import Derived.Test.YtplicfknjhjjgaaIpBk
import Derived.Test.YtplicfknjhjjgaaIpRPIc
import Derived.Test.YtplicfknjhjjgaaIpRTIc
namespace Go.Proofs.Ytplicfknjhjjgaa
open Go.RowKit
/-- Is it a question? -/
def ecO (mo : Bool) (of : Int) (pr : Nat) (zs : List Nat) : Bool := decide (of = 0 ∧ mo = false ∧ pr = 1 ∧ icE zs = 0 ∧ icN zs 0 1 = 8 ∧ icN zs 1 1 = 0)
/-- The answer's bytes. -/
def ecV (mo : Bool) (of : Int) (pr : Nat) (zs : List Nat) : List Nat := if ecO mo of pr zs = true then icV 0 0 (icN zs 4 4) (icB zs) else []
/-- A packet and whether it is one are answered. -/
structure EcP (sr ds pr id : Nat) (mo : Bool) (of : Int) (zs : List Nat) (w : World) (e : Ending) (w' : World) : Prop where
  ans : ∃ a c, e = .returned (.tuple #[.agg #[.int .u32 ((if ecO mo of pr zs = true then ds else 0 : Nat) : Int), .int .u32 ((if ecO mo of pr zs = true then sr else 0 : Nat) : Int), .int .u8 ((if ecO mo of pr zs = true then 1 else 0 : Nat) : Int), .int .u8 ((if ecO mo of pr zs = true then 64 else 0 : Nat) : Int), .int .u16 ((if ecO mo of pr zs = true then id else 0 : Nat) : Int), .bool false, .bool false, .int .i64 0, .slice a (ecV mo of pr zs).length c], .bool (ecO mo of pr zs)]) ∧ OwnB w' w.heap.size a (ecV mo of pr zs).length c (ecV mo of pr zs)
  bel : Below w.heap.size w w'
theorem ec_no (sr ds pr id : Nat) (mo : Bool) (of : Int) (zs : List Nat) (h : ¬ (of = 0 ∧ mo = false ∧ pr = 1 ∧ icE zs = 0 ∧ icN zs 0 1 = 8 ∧ icN zs 1 1 = 0)) (w w' : World) (hb : Below w.heap.size w w') : EcP sr ds pr id mo of zs w (.returned (.tuple #[.agg #[.int .u32 0, .int .u32 0, .int .u8 0, .int .u8 0, .int .u16 0, .bool false, .bool false, .int .i64 0, .slice none 0 0], .bool false])) w' := by
  have hO : ecO mo of pr zs = false := by unfold ecO; exact decide_eq_false h
  have hV : ecV mo of pr zs = [] := by unfold ecV; rw [hO]; rfl
  refine ⟨⟨none, 0, ?_, ?_⟩, hb⟩
  · rw [hV, hO]; rfl
  · rw [hV]; exact OwnB.nil _ _
theorem ec_yes (sr ds pr id : Nat) (mo : Bool) (of : Int) (zs : List Nat) (h : of = 0 ∧ mo = false ∧ pr = 1 ∧ icE zs = 0 ∧ icN zs 0 1 = 8 ∧ icN zs 1 1 = 0) (re m : Nat) (BY : List Nat) (hre : icN zs 4 4 = re) (hBY : icB zs = BY) (hm : BY.length = m) (a : Option Addr) (c : Nat) (w w' : World) (ho : OwnB w' w.heap.size a (8 + m) c (icV 0 0 re BY)) (hb : Below w.heap.size w w') : EcP sr ds pr id mo of zs w (.returned (.tuple #[.agg #[.int .u32 (ds : Nat), .int .u32 (sr : Nat), .int .u8 1, .int .u8 64, .int .u16 (id : Nat), .bool false, .bool false, .int .i64 0, .slice a (8 + m) c], .bool true])) w' := by
  have hO : ecO mo of pr zs = true := by unfold ecO; exact decide_eq_true h
  have hV : ecV mo of pr zs = icV 0 0 re BY := by unfold ecV; rw [if_pos hO, hre, hBY]
  refine ⟨⟨a, c, ?_, ?_⟩, hb⟩
  · rw [hV, hO, icV_len, hm]; rfl
  · rw [hV, icV_len, hm]; exact ho
end Go.Proofs.Ytplicfknjhjjgaa
