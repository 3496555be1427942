/- A way (path.Path and the reference's) as it lies in memory: fourteen cells in a block of its own; what the calls make of it, as mathematics. -/
import Derived.Test.YteobibinfckmdaaBase
import Derived.Test.YteobibinfckmdaaFrM
import Derived.Lib.MinMax
import Derived.Deep.MidRow
namespace Go.Proofs.Yteobibinfckmdaa
open Go.RowKit
/-- A struct in a block of its own. -/
structure Stc (w : World) (q : Nat) (cs : List Value) : Prop where
  lt : q < w.heap.size
  cell : ∀ (i : Nat) v, cs[i]? = some v → w.cell? ⟨q, i, none⟩ = some v
  free : ∀ i, w.frozen? ⟨q, i, none⟩ = false
theorem Stc.new (w : World) (cs : List Value) (T : TypeId) (W : World) (hW : W = w.alloc (.cells cs.toArray T)) : Stc W w.heap.size cs := by
  subst hW
  refine ⟨by simp, fun i v h => ?_, fun i => ?_⟩
  · rw [World.cell?_alloc_mark]
    simpa using h
  · have hh : (w.alloc (.cells cs.toArray T)).heap[w.heap.size]? = some (.cells cs.toArray T) := by
      show (w.heap.push _)[w.heap.size]? = _
      simp
    unfold World.frozen?
    dsimp only
    rw [hh]
    simp
theorem Stc.fr {P : Nat → Prop} {w w' : World} {q : Nat} {cs : List Value} (h : Stc w q cs) (hf : Fr P w w') (hp : ¬ P q) : Stc w' q cs :=
  ⟨Nat.lt_of_lt_of_le h.lt hf.size, fun i v hv => (hf.cell ⟨q, i, none⟩ h.lt hp).trans (h.cell i v hv), fun i => (hf.frozen ⟨q, i, none⟩ h.lt hp).trans (h.free i)⟩
theorem Stc.below {w w' : World} {q : Nat} {cs : List Value} (h : Stc w q cs) (hb : Below w.heap.size w w') : Stc w' q cs :=
  h.fr (Fr.of_below (P := fun _ => False) hb) (fun h => h)
theorem Stc.set {w : World} {q : Nat} {cs : List Value} (h : Stc w q cs) (j : Nat) (u : Value) : Stc (w.setCell ⟨q, j, none⟩ u) q (cs.set j u) := by
  refine ⟨by simp [World.setCell]; exact h.lt, fun i v hv => ?_, fun i => by rw [World.frozen?_setCell]; exact h.free i⟩
  rw [List.getElem?_set] at hv
  split at hv
  · rename_i e
    subst e
    split at hv
    · rename_i hl
      injection hv with hv
      subst hv
      exact World.cell?_setCell_same' _ _ _ (by rw [h.cell j _ (List.getElem?_eq_getElem hl)]; rfl)
    · cases hv
  · rename_i e
    rw [World.cell?_setCell_other _ _ _ _ (by intro e2; injection e2 with _ e3; exact e e3)]
    exact h.cell i v hv
theorem Stc.range {w : World} {q : Nat} {cs : List Value} (h : Stc w q cs) : w.rangeAt q 0 cs := fun i v hv => by rw [Nat.zero_add]; exact h.cell i v hv
/-- How a way stands. -/
structure Ps where
  win : Int
  slow : Int
  part : Int
  rto : Int
  mean : Int
  spread : Int
  faults : Int
  up : Bool
  sure : Bool
  mtu : Int
  any : Bool
  fly : Bool
  nonce : Nat
  since : Int
def Ps.way (s : Ps) : List Value := [.int .i64 s.win, .int .i64 s.slow, .int .i64 s.part, .int .i64 s.rto, .int .i64 s.mean, .int .i64 s.spread, .int .i64 s.faults, .bool s.up, .bool s.sure]
def Ps.cs (s : Ps) : List Value := [.int .i64 s.win, .int .i64 s.slow, .int .i64 s.part, .int .i64 s.rto, .int .i64 s.mean, .int .i64 s.spread, .int .i64 s.faults, .bool s.up, .bool s.sure, .int .i64 s.mtu, .bool s.any, .bool s.fly, .int .u64 (s.nonce : Nat), .int .i64 s.since]
/-- What holds of a way behind k deeds. -/
structure Pok (k : Nat) (s : Ps) : Prop where
  m0 : 64 ≤ s.mtu
  m1 : s.mtu ≤ 1500
  w0 : s.mtu ≤ s.win
  w1 : s.win ≤ 32768
  s0 : 4 * s.mtu ≤ s.slow ∨ s.slow = 8192
  s1 : s.slow ≤ 32768
  p0 : 0 ≤ s.part
  p1 : s.part ≤ 8192 * k
  r0 : 10 ≤ s.rto
  r1 : s.rto ≤ 600
  e0 : 0 ≤ s.mean
  e1 : s.mean ≤ 4800
  d0 : 0 ≤ s.spread
  d1 : s.spread ≤ 2400
  f0 : 0 ≤ s.faults
  f1 : s.faults ≤ k
  t0 : 0 ≤ s.since
  t1 : s.since ≤ 1099511627776
  n1 : s.nonce < 18446744073709551616
theorem Pok.up_ {k j : Nat} {s : Ps} (h : Pok k s) (hj : k ≤ j) : Pok j s := ⟨h.m0, h.m1, h.w0, h.w1, h.s0, h.s1, h.p0, by have := h.p1; omega, h.r0, h.r1, h.e0, h.e1, h.d0, h.d1, h.f0, by have := h.f1; omega, h.t0, h.t1, h.n1⟩
def psNew (m : Int) : Ps := ⟨min (4 * m) (max 4404 (2 * m)), 8192, 0, 30, 0, 0, 0, true, false, m, false, false, 0, 0⟩
def Ps.meas (s : Ps) (t : Int) : Ps := if s.any = true then { s with mean := s.mean + (t - s.mean / 8), spread := s.spread + (max (t - s.mean / 8) (-(t - s.mean / 8)) - s.spread / 4) } else { s with any := true, mean := 8 * t, spread := 2 * t }
def Ps.rtoed (s : Ps) : Ps := { s with rto := max 10 (min (s.mean / 8 + s.spread) 600) }
def isT (t : Int) : Bool := decide (0 ≤ t ∧ t ≤ 1099511627776)
def isB (t : Int) : Bool := decide (0 ≤ t ∧ t ≤ 8192)
def Ps.sample (s : Ps) (t : Int) : Ps := if isT t = true then (s.meas (min t 600)).rtoed else s
def smE (t : Int) : Nat := if isT t = true then 0 else 2
def Ps.widen (s : Ps) (b : Int) : Ps := { s with win := min (s.win + b) 32768 }
def Ps.grow (s : Ps) (b : Int) (mv : Bool) (fl : Int) : Ps :=
  if isB b = true ∧ isB fl = true ∧ mv = true ∧ b ≠ 0 then
    if s.win ≤ s.slow then (if s.win ≤ fl then s.widen (min b s.mtu) else s)
    else if s.win ≤ fl ∧ s.win ≤ s.part + b then { s with part := s.part + b - s.win, win := min (s.win + s.mtu) 32768 } else { s with part := s.part + b }
  else s
def grE (b fl : Int) : Nat := if isB b = true ∧ isB fl = true then 0 else 2
def Ps.narrow (s : Ps) : Ps := { s with slow := max (s.win / 2) (4 * s.mtu), win := max (s.win / 2) (4 * s.mtu), part := 0 }
def Ps.fault (s : Ps) : Ps := { s with faults := s.faults + 1, up := s.up && !(decide (3 < s.faults + 1)) }
def Ps.down (s : Ps) : Bool := s.up && decide (3 < s.faults + 1)
def Ps.lated (s : Ps) : Ps := { s.narrow with win := s.mtu, rto := min (2 * s.rto) 600 }
def Ps.late (s : Ps) : Ps := s.lated.fault
def Ps.good (s : Ps) : Ps := { s with faults := 0, up := true }
def Ps.beat (s : Ps) (n : Nat) (t : Int) : Ps := if isT t = true then { s with fly := true, nonce := n, since := t } else s
def Ps.hit (s : Ps) (n : Nat) (t : Int) : Bool := isT t && (s.fly && (decide (s.nonce = n) && decide (s.since ≤ t)))
/-- (the nonce and the tick of what was answered: zeros, or as they were) -/
def Ps.answer (s : Ps) (n : Nat) (t : Int) (n' : Nat) (t' : Int) : Ps := if s.hit n t = true then ({ s with fly := false, nonce := n', since := t', sure := true }.good).sample (t - s.since) else s
theorem pok_new (m : Int) (h0 : 64 ≤ m) (h1 : m ≤ 1500) : Pok 0 (psNew m) := by
  refine ⟨h0, h1, ?_, ?_, .inr rfl, ?_, ?_, ?_, ?_, ?_, ?_, ?_, ?_, ?_, ?_, ?_, ?_, ?_, ?_⟩ <;> simp only [psNew] <;> omega
theorem pok_meas {k : Nat} {s : Ps} (h : Pok k s) (t : Int) (h0 : 0 ≤ t) (h1 : t ≤ 600) : Pok k (s.meas t) := by
  obtain ⟨a1, a2, a3, a4, a5, a6, a7, a8, a9, a10, a11, a12, a13, a14, a15, a16, a17, a18, a19⟩ := h
  unfold Ps.meas
  split
  · refine ⟨a1, a2, a3, a4, a5, a6, a7, a8, a9, a10, ?_, ?_, ?_, ?_, a15, a16, a17, a18, a19⟩ <;> dsimp only <;> omega
  · refine ⟨a1, a2, a3, a4, a5, a6, a7, a8, a9, a10, ?_, ?_, ?_, ?_, a15, a16, a17, a18, a19⟩ <;> dsimp only <;> omega
theorem pok_rtoed {k : Nat} {s : Ps} (h : Pok k s) : Pok k s.rtoed := by
  obtain ⟨a1, a2, a3, a4, a5, a6, a7, a8, a9, a10, a11, a12, a13, a14, a15, a16, a17, a18, a19⟩ := h
  refine ⟨a1, a2, a3, a4, a5, a6, a7, a8, ?_, ?_, a11, a12, a13, a14, a15, a16, a17, a18, a19⟩ <;> simp only [Ps.rtoed] <;> omega
theorem pok_sample {k : Nat} {s : Ps} (h : Pok k s) (t : Int) : Pok k (s.sample t) := by
  unfold Ps.sample
  split
  · rename_i ht
    have ht : 0 ≤ t ∧ t ≤ 1099511627776 := by simpa [isT] using ht
    exact pok_rtoed (pok_meas h _ (by omega) (by omega))
  · exact h
theorem pok_widen {k : Nat} {s : Ps} (h : Pok k s) (b : Int) (hb : 0 ≤ b) : Pok k (s.widen b) := by
  obtain ⟨a1, a2, a3, a4, a5, a6, a7, a8, a9, a10, a11, a12, a13, a14, a15, a16, a17, a18, a19⟩ := h
  refine ⟨a1, a2, ?_, ?_, a5, a6, a7, a8, a9, a10, a11, a12, a13, a14, a15, a16, a17, a18, a19⟩ <;> simp only [Ps.widen] <;> omega
theorem pok_grow {k : Nat} {s : Ps} (h : Pok k s) (b : Int) (mv : Bool) (fl : Int) : Pok (k + 1) (s.grow b mv fl) := by
  unfold Ps.grow
  split
  · rename_i hh
    have hb : 0 ≤ b ∧ b ≤ 8192 := by simpa [isB] using hh.1
    have hfl : 0 ≤ fl ∧ fl ≤ 8192 := by simpa [isB] using hh.2.1
    have hk := h.up_ (Nat.le_add_right k 1)
    have hm := h.m0
    split
    · split
      · exact pok_widen hk _ (by omega)
      · exact hk
    · obtain ⟨a1, a2, a3, a4, a5, a6, a7, a8, a9, a10, a11, a12, a13, a14, a15, a16, a17, a18, a19⟩ := h
      split
      · refine ⟨a1, a2, ?_, ?_, a5, a6, ?_, ?_, a9, a10, a11, a12, a13, a14, a15, ?_, a17, a18, a19⟩ <;> dsimp only <;> omega
      · refine ⟨a1, a2, a3, a4, a5, a6, ?_, ?_, a9, a10, a11, a12, a13, a14, a15, ?_, a17, a18, a19⟩ <;> dsimp only <;> omega
  · exact h.up_ (Nat.le_add_right k 1)
theorem pok_narrow {k : Nat} {s : Ps} (h : Pok k s) : Pok k s.narrow := by
  obtain ⟨a1, a2, a3, a4, a5, a6, a7, a8, a9, a10, a11, a12, a13, a14, a15, a16, a17, a18, a19⟩ := h
  refine ⟨a1, a2, ?_, ?_, .inl ?_, ?_, ?_, ?_, a9, a10, a11, a12, a13, a14, a15, a16, a17, a18, a19⟩ <;> simp only [Ps.narrow] <;> omega
theorem pok_lated {k : Nat} {s : Ps} (h : Pok k s) : Pok k s.lated := by
  obtain ⟨a1, a2, a3, a4, a5, a6, a7, a8, a9, a10, a11, a12, a13, a14, a15, a16, a17, a18, a19⟩ := h
  refine ⟨a1, a2, ?_, ?_, .inl ?_, ?_, ?_, ?_, ?_, ?_, a11, a12, a13, a14, a15, a16, a17, a18, a19⟩ <;> simp only [Ps.lated, Ps.narrow] <;> omega
theorem pok_fault {k : Nat} {s : Ps} (h : Pok k s) : Pok (k + 1) s.fault := by
  obtain ⟨a1, a2, a3, a4, a5, a6, a7, a8, a9, a10, a11, a12, a13, a14, a15, a16, a17, a18, a19⟩ := h
  refine ⟨a1, a2, a3, a4, a5, a6, a7, ?_, a9, a10, a11, a12, a13, a14, ?_, ?_, a17, a18, a19⟩ <;> simp only [Ps.fault] <;> omega
theorem pok_late {k : Nat} {s : Ps} (h : Pok k s) : Pok (k + 1) s.late := pok_fault (pok_lated h)
theorem pok_good {k : Nat} {s : Ps} (h : Pok k s) : Pok k s.good := by
  obtain ⟨a1, a2, a3, a4, a5, a6, a7, a8, a9, a10, a11, a12, a13, a14, a15, a16, a17, a18, a19⟩ := h
  refine ⟨a1, a2, a3, a4, a5, a6, a7, a8, a9, a10, a11, a12, a13, a14, ?_, ?_, a17, a18, a19⟩ <;> simp only [Ps.good] <;> omega
theorem pok_beat {k : Nat} {s : Ps} (h : Pok k s) (n : Nat) (t : Int) (hn : n < 18446744073709551616) : Pok k (s.beat n t) := by
  unfold Ps.beat
  split
  · rename_i ht
    have ht : 0 ≤ t ∧ t ≤ 1099511627776 := by simpa [isT] using ht
    exact ⟨h.m0, h.m1, h.w0, h.w1, h.s0, h.s1, h.p0, h.p1, h.r0, h.r1, h.e0, h.e1, h.d0, h.d1, h.f0, h.f1, ht.1, ht.2, hn⟩
  · exact h
theorem pok_answer {k : Nat} {s : Ps} (h : Pok k s) (n : Nat) (t : Int) (n' : Nat) (t' : Int) (hn : n' < 18446744073709551616) (h0 : 0 ≤ t') (h1 : t' ≤ 1099511627776) : Pok k (s.answer n t n' t') := by
  unfold Ps.answer
  split
  · refine pok_sample (pok_good ?_) _
    exact ⟨h.m0, h.m1, h.w0, h.w1, h.s0, h.s1, h.p0, h.p1, h.r0, h.r1, h.e0, h.e1, h.d0, h.d1, h.f0, h.f1, h0, h1, hn⟩
  · exact h
end Go.Proofs.Yteobibinfckmdaa
