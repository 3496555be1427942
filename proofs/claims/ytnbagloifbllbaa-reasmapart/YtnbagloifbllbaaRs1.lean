/- reasm: nameOf, end, named, the tests, and the searches of Go's library at its types. -/
import Derived.Test.YtnbagloifbllbaaRsM
import Derived.Test.YtnbagloifbllbaaStr
import Derived.BigQuiet
import Derived.Deep.RegionHeld3
namespace Go.Proofs.Ytnbagloifbllbaa
open Go.RowKit
set_option maxRecDepth 100000 in
set_option maxHeartbeats 1000000 in
theorem nameOf_any (sr ds pr tt id : Nat) (dn mo : Bool) (of : Int) (v : Value) (w : World) :
    Calls Try.prog 29 #[.agg #[.int .u32 (sr : Nat), .int .u32 (ds : Nat), .int .u8 (pr : Nat), .int .u8 (tt : Nat), .int .u16 (id : Nat), .bool dn, .bool mo, .int .i64 of, v]] w fun e w' => e = .returned (.agg #[.int .u32 (sr : Nat), .int .u32 (ds : Nat), .int .u8 (pr : Nat), .int .u16 (id : Nat)]) ∧ Below w.heap.size w w' := by
  have hR : ((w.alloc (.cells #[.int .u32 (sr : Nat), .int .u32 (ds : Nat), .int .u8 (pr : Nat), .int .u8 (tt : Nat), .int .u16 (id : Nat), .bool dn, .bool mo, .int .i64 of, v] 26)).alloc (.cells #[.int .u32 (sr : Nat), .int .u32 (ds : Nat), .int .u8 (pr : Nat), .int .u16 (id : Nat)] 56)).rangeAt (w.heap.size + 1) 0 [.int .u32 (sr : Nat), .int .u32 (ds : Nat), .int .u8 (pr : Nat), .int .u16 (id : Nat)] := by
    have h := Stc.new (w.alloc (.cells #[.int .u32 (sr : Nat), .int .u32 (ds : Nat), .int .u8 (pr : Nat), .int .u8 (tt : Nat), .int .u16 (id : Nat), .bool dn, .bool mo, .int .i64 of, v] 26)) [.int .u32 (sr : Nat), .int .u32 (ds : Nat), .int .u8 (pr : Nat), .int .u16 (id : Nat)] 56 _ rfl
    have hz : (w.alloc (.cells #[.int .u32 (sr : Nat), .int .u32 (ds : Nat), .int .u8 (pr : Nat), .int .u8 (tt : Nat), .int .u16 (id : Nat), .bool dn, .bool mo, .int .i64 of, v] 26)).heap.size = w.heap.size + 1 := by simp
    rw [hz] at h
    exact h.range
  go_enter Try.func29, Try.ntmps29
  go_wp2
  try simp only [Exit.inBlock, Exit.then]
  refine bodyPost_ret (results_cellE rfl _ _ (w.heap.size + 1) 0 [.int .u32 (sr : Nat), .int .u32 (ds : Nat), .int .u8 (pr : Nat), .int .u16 (id : Nat)] _ rfl hR Try.underlying56 rfl (by kernel_rfl)) rfl ?_
  exact ⟨rfl, ((Below.refl _ _).alloc (Nat.le_refl _) _).alloc (by simp) _⟩
set_option maxRecDepth 100000 in
set_option maxHeartbeats 1000000 in
theorem end_any (sr ds pr tt id : Nat) (dn mo : Bool) (of : Nat) (a : Option Addr) (n c : Nat) (w : World) (ho : of ≤ 100000) (hn : n ≤ 1000000) :
    Calls Try.prog 28 #[.agg #[.int .u32 (sr : Nat), .int .u32 (ds : Nat), .int .u8 (pr : Nat), .int .u8 (tt : Nat), .int .u16 (id : Nat), .bool dn, .bool mo, .int .i64 (of : Nat), .slice a n c]] w fun e w' => e = .returned (.int .i64 ((of + n : Nat) : Int)) ∧ Below w.heap.size w w' := by
  go_enter Try.func28, Try.ntmps28
  go_wp2
  go_ret
  exact ⟨by simp, (Below.refl _ _).alloc (Nat.le_refl _) _⟩
set_option maxRecDepth 100000 in
set_option maxHeartbeats 1000000 in
theorem named_any (sr ds pr id : Nat) (w : World) :
    Calls Try.prog 36 #[.agg #[.int .u32 (sr : Nat), .int .u32 (ds : Nat), .int .u8 (pr : Nat), .int .u16 (id : Nat)]] w fun e w' => e = .returned (.func (.func 49) #[] #[.pointer (some ⟨w.heap.size, 0, none⟩)]) ∧ Stc w' w.heap.size [.int .u32 (sr : Nat), .int .u32 (ds : Nat), .int .u8 (pr : Nat), .int .u16 (id : Nat)] ∧ Below w.heap.size w w' := by
  have hS := Stc.new w [.int .u32 (sr : Nat), .int .u32 (ds : Nat), .int .u8 (pr : Nat), .int .u16 (id : Nat)] 56 _ rfl
  go_enter Try.func36, Try.ntmps36
  go_wp2
  go_ret
  exact ⟨rfl, hS, (Below.refl _ _).alloc (Nat.le_refl _) _⟩
set_option maxRecDepth 100000 in
set_option maxHeartbeats 1000000 in
theorem namedc_any (x : Pt) (q : Nat) (sr ds pr id : Nat) (w : World) (hq : Stc w q [.int .u32 (sr : Nat), .int .u32 (ds : Nat), .int .u8 (pr : Nat), .int .u16 (id : Nat)]) :
    Calls Try.prog 49 #[.agg #[.int .u32 (x.sr : Nat), .int .u32 (x.ds : Nat), .int .u8 (x.pr : Nat), .int .u16 (x.id : Nat), .int .i64 x.si, .slice x.a x.n x.c], .pointer (some ⟨q, 0, none⟩)] w fun e w' => e = .returned (.bool (decide (x.nm = (sr, ds, pr, id)))) ∧ Below w.heap.size w w' := by
  have hql := hq.lt
  obtain ⟨xs, xd, xp, xi, xt, xa, xn, xc⟩ := x
  dsimp only
  have q0 := hq.cell 0 _ rfl
  have q1 := hq.cell 1 _ rfl
  have q2 := hq.cell 2 _ rfl
  have q3 := hq.cell 3 _ rfl
  have HD : Hid (decide (Pt.nm ⟨xs, xd, xp, xi, xt, xa, xn, xc⟩ = (sr, ds, pr, id)) = (decide (xs = sr) && (decide (xd = ds) && (decide (xp = pr) && decide (xi = id))))) := by
    show _ = _
    unfold Pt.nm
    simp only [Prod.mk.injEq, Bool.decide_and]
  generalize decide (Pt.nm ⟨xs, xd, xp, xi, xt, xa, xn, xc⟩ = (sr, ds, pr, id)) = D at *
  by_cases h1 : xs = sr <;> by_cases h2 : xd = ds <;> by_cases h3 : xp = pr <;> by_cases h4 : xi = id
  all_goals
    simp only [h1, h2, h3, h4, decide_true, decide_false, Bool.and_true, Bool.and_false] at HD
    go_enter Try.func49, Try.ntmps49
    go_wp2
    go_ret
    exact ⟨by rw [HD.out]; rfl, (Below.refl _ _).alloc (Nat.le_refl _) _⟩
set_option maxRecDepth 100000 in
set_option maxHeartbeats 1000000 in
theorem wholec_any (sr ds pr tt id : Nat) (dn mo : Bool) (of : Int) (v : Value) (w : World) :
    Calls Try.prog 51 #[.agg #[.int .u32 (sr : Nat), .int .u32 (ds : Nat), .int .u8 (pr : Nat), .int .u8 (tt : Nat), .int .u16 (id : Nat), .bool dn, .bool mo, .int .i64 of, v]] w fun e w' => e = .returned (.bool (!mo)) ∧ Below w.heap.size w w' := by
  go_enter Try.func51, Try.ntmps51
  go_wp2
  go_ret
  exact ⟨rfl, (Below.refl _ _).alloc (Nat.le_refl _) _⟩
end Go.Proofs.Ytnbagloifbllbaa
