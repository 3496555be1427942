/- What ref10.Same answers where they are the same. -/
import Derived.Test.YtnbagloifbllbaaSt
import Derived.Test.YtnbagloifbllbaaStr
namespace Go.Proofs.Ytnbagloifbllbaa
open Go.RowKit
set_option maxRecDepth 100000 in
set_option maxHeartbeats 1000000 in
theorem isame_any (sr ds pr tt id : Nat) (dn mo : Bool) (of : Int) (a : Option Addr) (n c : Nat) (zs : List Nat) (a2 : Option Addr) (c2 : Nat) (w : World) (h1 : Sl w a n c zs) (h2 : Sl w a2 n c2 zs) :
    Calls Try.prog 11 #[.agg #[.int .u32 (sr : Nat), .int .u32 (ds : Nat), .int .u8 (pr : Nat), .int .u8 (tt : Nat), .int .u16 (id : Nat), .bool dn, .bool mo, .int .i64 of, .slice a n c], .agg #[.int .u32 (sr : Nat), .int .u32 (ds : Nat), .int .u8 (pr : Nat), .int .u8 (tt : Nat), .int .u16 (id : Nat), .bool dn, .bool mo, .int .i64 of, .slice a2 n c2]] w fun e w' => e = .returned (.bool true) ∧ Below w.heap.size w w' := by
  have hb : Below w.heap.size w ((w.alloc (.cells #[.int .u32 (sr : Nat), .int .u32 (ds : Nat), .int .u8 (pr : Nat), .int .u8 (tt : Nat), .int .u16 (id : Nat), .bool dn, .bool mo, .int .i64 of, .slice a n c] 26)).alloc (.cells #[.int .u32 (sr : Nat), .int .u32 (ds : Nat), .int .u8 (pr : Nat), .int .u8 (tt : Nat), .int .u16 (id : Nat), .bool dn, .bool mo, .int .i64 of, .slice a2 n c2] 26)) := ((Below.refl _ _).alloc (Nat.le_refl _) _).alloc (by simp) _
  have c1 := conv_str (h1.below hb)
  have c2' := conv_str (h2.below hb)
  cases dn <;> cases mo
  all_goals
    go_enter Try.func11, Try.ntmps11
    go_wp2
    go_ret
    exact ⟨rfl, hb⟩
end Go.Proofs.Ytnbagloifbllbaa
