/- reasm: isSame, clash, and the tests that take hands on. -/
import Derived.Test.YtnbagloifbllbaaRs2
import Derived.Test.YtnbagloifbllbaaEqB
import Derived.Test.YtnbagloifbllbaaRgX
namespace Go.Proofs.Ytnbagloifbllbaa
open Go.RowKit
set_option maxRecDepth 100000 in
set_option maxHeartbeats 1000000 in
theorem isSame_any (sr1 ds1 pr1 tt1 id1 : Nat) (dn1 mo1 : Bool) (of1 : Nat) (a1 : Option Addr) (n1 c1 : Nat) (sr2 ds2 pr2 tt2 id2 : Nat) (dn2 mo2 : Bool) (of2 : Nat) (a2 : Option Addr) (n2 c2 : Nat) (zs ys : List Nat) (w : World) (h1 : Sl w a1 n1 c1 zs) (h2 : Sl w a2 n2 c2 ys) (v u : Value) (hv : v = .agg #[.int .u32 (sr1 : Nat), .int .u32 (ds1 : Nat), .int .u8 (pr1 : Nat), .int .u8 (tt1 : Nat), .int .u16 (id1 : Nat), .bool dn1, .bool mo1, .int .i64 (of1 : Nat), .slice a1 n1 c1]) (hu : u = .agg #[.int .u32 (sr2 : Nat), .int .u32 (ds2 : Nat), .int .u8 (pr2 : Nat), .int .u8 (tt2 : Nat), .int .u16 (id2 : Nat), .bool dn2, .bool mo2, .int .i64 (of2 : Nat), .slice a2 n2 c2]) :
    Calls Try.prog 33 #[v, u] w fun e w' => e = .returned (.bool (decide (of1 = of2) && (mo1 == mo2 && decide (zs = ys)))) ∧ Below w.heap.size w w' := by
  subst hv hu
  have H1 : Hid (∀ W, Below w.heap.size w W → Sl W a1 n1 c1 zs ∧ Sl W a2 n2 c2 ys) := fun W hW => ⟨h1.below hW, h2.below hW⟩
  clear h1 h2
  by_cases ho : of1 = of2
  · subst ho
    cases mo1 <;> cases mo2
    all_goals
      go_enter Try.func33, Try.ntmps33
      go_wp2_with (first | (go_at_call 48; refine (equal_any _ _ _ zs _ _ _ ys _ (H1.out _ (((Below.refl _ _).alloc (Nat.le_refl _) _).alloc (by simp) _)).1 (H1.out _ (((Below.refl _ _).alloc (Nat.le_refl _) _).alloc (by simp) _)).2).mono ?_; rintro e w' ⟨rfl, rfl⟩) | fail)
      go_ret
      exact ⟨by simp, ((Below.refl _ _).alloc (Nat.le_refl _) _).alloc (by simp) _⟩
  · have ho1 : ¬ ((of1 : Nat) : Int) = ((of2 : Nat) : Int) := by omega
    go_enter Try.func33, Try.ntmps33
    go_wp2
    go_ret
    exact ⟨by simp [ho], ((Below.refl _ _).alloc (Nat.le_refl _) _).alloc (by simp) _⟩
end Go.Proofs.Ytnbagloifbllbaa
