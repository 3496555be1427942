/- What path.New, Stands, Grow, Answer and Fork do. -/
import Derived.Test.YteobibinfckmdaaPt2
namespace Go.Proofs.Yteobibinfckmdaa
open Go.RowKit
structure NewP (m : Int) (w : World) (e : Ending) (w' : World) : Prop where
  out : ∃ p, e = .returned (.tuple #[.pointer (some ⟨p, 0, none⟩), .int .i64 0]) ∧ w.heap.size ≤ p ∧ Stc w' p (psNew m).cs
  bel : Below w.heap.size w w'
theorem pnew_no (m : Int) (w : World) (h : m < 64 ∨ 1500 < m) : Calls Try.prog 11 #[.int .i64 m] w fun e w' => e = .returned (.tuple #[.pointer none, .int .i64 2]) ∧ Below w.heap.size w w' := by
  go_enter Try.func11, Try.ntmps11
  by_cases h1 : m < 64
  · go_wp2
    go_ret2
    exact ⟨rfl, Below.refl _ _⟩
  · have h2 : 1500 < m := by omega
    go_wp2
    go_ret2
    exact ⟨rfl, Below.refl _ _⟩
set_option maxHeartbeats 1000000 in
theorem pnew_any (m : Int) (w : World) (h0 : 64 ≤ m) (h1 : m ≤ 1500) (v : Value) (hv : v = .int .i64 m) : Calls Try.prog 11 #[v] w (NewP m w) := by
  subst hv
  have a1 : ¬ m < 64 := by omega
  have a2 : ¬ 1500 < m := by omega
  go_enter Try.func11, Try.ntmps11
  go_wp2
  go_ret2
  exact ⟨⟨w.heap.size, rfl, Nat.le_refl _, Stc.new w (psNew m).cs _ _ rfl⟩, (Below.refl _ _).alloc (Nat.le_refl _) _⟩
theorem results_cellE {fn : Func} {p : Tmp} {ty : TypeId} (h : fn.results = #[.cell p ty]) (tmps : Array Value) (w : World) (g o : Nat) (cs : List Value) (d : TypeDesc)
    (hp : tmps.getD p undef = .pointer (some ⟨g, o, none⟩)) (hc : w.rangeAt g o cs) (hu : Try.prog.underlying ty = some d) (hd : d.isRow = true) (hi : (Try.prog.info? ty).map (·.size) = some cs.length) :
    (results fn tmps).run Try.prog w = .ok (.agg cs.toArray) w := by
  have hp' : tmps[p]?.getD undef = .pointer (some ⟨g, o, none⟩) := by simpa using hp
  simp [results, h, hp', asAddr, run_loadVar_mid w g o ty cs d hc hu hd hi]
set_option maxHeartbeats 1000000 in
theorem stands_any (p : Nat) (s : Ps) (w : World) (h : Stc w p s.cs) :
    Calls Try.prog 14 #[.pointer (some ⟨p, 0, none⟩)] w fun e w' => e = .returned (.agg #[.int .i64 s.win, .int .i64 s.slow, .int .i64 s.part, .int .i64 s.rto, .int .i64 s.mean, .int .i64 s.spread, .int .i64 s.faults, .bool s.up, .bool s.sure]) ∧ Below w.heap.size w w' := by
  have c0 := h.cell 0 _ rfl
  have c1 := h.cell 1 _ rfl
  have c2 := h.cell 2 _ rfl
  have c3 := h.cell 3 _ rfl
  have c4 := h.cell 4 _ rfl
  have c5 := h.cell 5 _ rfl
  have c6 := h.cell 6 _ rfl
  have c7 := h.cell 7 _ rfl
  have c8 := h.cell 8 _ rfl
  have hlt := h.lt
  go_enter Try.func14, Try.ntmps14
  have HRG : Hid ((w.alloc (.cells s.way.toArray 40)).rangeAt w.heap.size 0 s.way) := (Stc.new w s.way 40 _ rfl).range
  go_wp2
  try simp only [Exit.inBlock, Exit.then]
  refine bodyPost_ret (results_cellE rfl _ _ w.heap.size 0 s.way _ rfl HRG.out Try.underlying40 rfl (by kernel_rfl)) rfl ?_
  exact ⟨rfl, (Below.refl _ _).alloc (Nat.le_refl _) _⟩
end Go.Proofs.Yteobibinfckmdaa
