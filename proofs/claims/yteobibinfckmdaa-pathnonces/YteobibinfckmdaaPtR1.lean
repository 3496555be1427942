/- What the reference's calls do to a way in memory (New, down, Sample, least, Fast, Late, Fault, Good, Beat). -/
import Derived.Test.YteobibinfckmdaaPt1
namespace Go.Proofs.Yteobibinfckmdaa
open Go.RowKit
structure RNewP (m : Int) (w : World) (e : Ending) (w' : World) : Prop where
  out : ∃ p, e = .returned (.tuple #[.pointer (some ⟨p, 0, none⟩), .int .i64 0]) ∧ w.heap.size ≤ p ∧ Stc w' p (psNew m).cs
  bel : Below w.heap.size w w'
theorem rpnew_no (m : Int) (w : World) (h : m < 64 ∨ 1500 < m) : Calls Try.prog 12 #[.int .i64 m] w fun e w' => e = .returned (.tuple #[.pointer none, .int .i64 2]) ∧ Below w.heap.size w w' := by
  go_enter Try.func12, Try.ntmps12
  by_cases h1 : m < 64
  · go_wp2
    go_ret2
    exact ⟨rfl, Below.refl _ _⟩
  · have h2 : 1500 < m := by omega
    go_wp2
    go_ret2
    exact ⟨rfl, Below.refl _ _⟩
set_option maxHeartbeats 1000000 in
theorem rpnew_any (m : Int) (w : World) (h0 : 64 ≤ m) (h1 : m ≤ 1500) (v : Value) (hv : v = .int .i64 m) : Calls Try.prog 12 #[v] w (RNewP m w) := by
  subst hv
  have a1 : ¬ m < 64 := by omega
  have a2 : ¬ 1500 < m := by omega
  have a3 : 2 * m < 4404 := by omega
  by_cases a4 : 4404 > 4 * m
  · have e1 : Hid (psNew m = ⟨4 * m, 8192, 0, 30, 0, 0, 0, true, false, m, false, false, 0, 0⟩) := by show _ = _; unfold psNew; rw [show min (4 * m) (max 4404 (2 * m)) = 4 * m by omega]
    go_enter Try.func12, Try.ntmps12
    go_wp2
    go_ret2
    exact ⟨⟨w.heap.size, rfl, Nat.le_refl _, by rw [e1.out]; exact Stc.new w _ _ _ rfl⟩, (Below.refl _ _).alloc (Nat.le_refl _) _⟩
  · have e1 : Hid (psNew m = ⟨4404, 8192, 0, 30, 0, 0, 0, true, false, m, false, false, 0, 0⟩) := by show _ = _; unfold psNew; rw [show min (4 * m) (max 4404 (2 * m)) = 4404 by omega]
    go_enter Try.func12, Try.ntmps12
    go_wp2
    go_ret2
    exact ⟨⟨w.heap.size, rfl, Nat.le_refl _, by rw [e1.out]; exact Stc.new w _ _ _ rfl⟩, (Below.refl _ _).alloc (Nat.le_refl _) _⟩
set_option maxHeartbeats 1000000 in
theorem down_any (n d : Int) (w : World) (h0 : 0 ≤ n) (h1 : n ≤ 1000000) (hd : d = 8 ∨ d = 4) (v1 v2 : Value) (hv1 : v1 = .int .i64 n) (hv2 : v2 = .int .i64 d) : Calls Try.prog 36 #[v1, v2] w fun e w' => e = .returned (.int .i64 (n / d)) ∧ w' = w := by
  subst hv1 hv2
  have e : Int.tdiv n d = n / d := Int.tdiv_eq_ediv_of_nonneg h0
  have hb : 0 ≤ n / d ∧ n / d ≤ 1000000 := by rcases hd with rfl | rfl <;> omega
  have hd0 : ¬ d = 0 := by omega
  generalize n / d = q at *
  obtain ⟨q0, q1⟩ := hb
  go_enter Try.func36, Try.ntmps36
  go_wp2
  go_loopw [5] (fun iv wr => wr = w ∧ iv = .int .i64 0) (fun _ _ => 0)
  case atStart => exact ⟨rfl, rfl⟩
  case round =>
    obtain ⟨hw, rfl⟩ := hrel
    subst wr
    go_wp2
    go_ret
    exact ⟨rfl, rfl⟩
set_option maxHeartbeats 1000000 in
theorem rsample_no (p : Nat) (s : Ps) (t : Int) (w : World) (h : Stc w p s.cs) (ht : isT t = false) (v : Value) (hv : v = .int .i64 t) :
    Calls Try.prog 23 #[.pointer (some ⟨p, 0, none⟩), v] w (PtP w p (.int .i64 2) s.cs) := by
  subst hv
  have hb : ¬ (0 ≤ t ∧ t ≤ 1099511627776) := by simpa [isT] using ht
  by_cases h0 : t < 0
  · go_enter Try.func23, Try.ntmps23
    go_wp2
    go_ret
    exact ⟨rfl, PtW.refl h⟩
  · have h1 : 1099511627776 < t := by omega
    go_enter Try.func23, Try.ntmps23
    go_wp2
    go_ret
    exact ⟨rfl, PtW.refl h⟩
end Go.Proofs.Yteobibinfckmdaa
