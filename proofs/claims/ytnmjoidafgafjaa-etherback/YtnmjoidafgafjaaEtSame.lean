/- What the reference's Same answers where they are the same. -/
import Derived.Test.YtnmjoidafgafjaaEtPut
import Derived.Test.YtnmjoidafgafjaaStr
namespace Go.Proofs.Ytnmjoidafgafjaa
open Go.RowKit
set_option maxRecDepth 100000 in
set_option maxHeartbeats 2000000 in
theorem rsame_any (t f k : Nat) (a : Option Addr) (n c : Nat) (zs : List Nat) (a2 : Option Addr) (c2 : Nat) (w : World) (h1 : Sl w a n c zs) (h2 : Sl w a2 n c2 zs) :
    Calls Try.prog 13 #[.agg #[.int .u64 (t : Nat), .int .u64 (f : Nat), .int .u16 (k : Nat), .slice a n c], .agg #[.int .u64 (t : Nat), .int .u64 (f : Nat), .int .u16 (k : Nat), .slice a2 n c2]] w fun e w' => e = .returned (.bool true) ∧ Below w.heap.size w w' := by
  have hb : Below w.heap.size w ((w.alloc (.cells #[.int .u64 (t : Nat), .int .u64 (f : Nat), .int .u16 (k : Nat), .slice a n c] 26)).alloc (.cells #[.int .u64 (t : Nat), .int .u64 (f : Nat), .int .u16 (k : Nat), .slice a2 n c2] 26)) := ((Below.refl _ _).alloc (Nat.le_refl _) _).alloc (by simp) _
  have c1 := conv_str (h1.below hb)
  have c2' := conv_str (h2.below hb)
  generalize strOf zs = S at *
  go_enter Try.func13, Try.ntmps13
  go_wp2
  go_ret
  exact ⟨rfl, hb⟩
end Go.Proofs.Ytnmjoidafgafjaa
