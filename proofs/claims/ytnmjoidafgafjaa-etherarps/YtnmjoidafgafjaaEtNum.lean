/- What the reference's number answers. -/
import Derived.Test.YtnmjoidafgafjaaEtPut
import Derived.Test.YtnmjoidafgafjaaRefNum
import Derived.Test.YtnmjoidafgafjaaStr
namespace Go.Proofs.Ytnmjoidafgafjaa
open Go.RowKit
set_option maxRecDepth 100000 in
set_option maxHeartbeats 2000000 in
theorem number_any (a : Option Addr) (n c : Nat) (zs : List Nat) (p k : Int) (w : World) (hs : Sl w a n c zs) :
    Calls Try.prog 29 #[.slice a n c, .int .i64 p, .int .i64 k] w fun e w' => e = .returned (.int .u64 (numV zs p k : Nat)) ∧ w' = w := by
  have hn := refnum_any a n c zs p k w hs
  generalize numV zs p k = r at *
  go_enter Try.func29, Try.ntmps29
  go_wp2_with fail
  refine hn.mono ?_
  rintro e w' ⟨rfl, hw'⟩
  subst w'
  go_wp2
  go_ret
  exact ⟨rfl, rfl⟩
theorem number_at (a : Option Addr) (n c : Nat) (zs : List Nat) (p k : Int) (r : Nat) (hr : numV zs p k = r) (w : World) (hs : Sl w a n c zs) (v1 v2 v3 : Value) (e1 : v1 = .slice a n c) (e2 : v2 = .int .i64 p) (e3 : v3 = .int .i64 k) :
    Calls Try.prog 29 #[v1, v2, v3] w fun e w' => e = .returned (.int .u64 (r : Nat)) ∧ w' = w := by
  subst e1 e2 e3 hr
  exact number_any a n c zs p k w hs
theorem Stc.there {w : World} {q : Nat} {cs : List Value} (h : Stc w q cs) : w.there q 0 cs.length := fun j hj => by
  rw [Nat.zero_add]
  exact ⟨by rw [h.cell j _ (List.getElem?_eq_getElem hj)]; rfl, h.free j⟩
end Go.Proofs.Ytnmjoidafgafjaa
