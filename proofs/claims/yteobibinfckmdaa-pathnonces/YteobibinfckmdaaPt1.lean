/- What path's functions do to a way in memory. -/
import Derived.Test.YteobibinfckmdaaPtM
import Derived.Test.YteobibinfckmdaaProg
import Derived.Deep.RegionHeld3
import Derived.Deep.Draws
import Derived.Deep.QuietTactic
import Derived.BigQuiet
namespace Go.Proofs.Yteobibinfckmdaa
open Go.RowKit
structure PtW (w0 : World) (p : Nat) (cs : List Value) (w : World) : Prop where
  st : Stc w p cs
  fr : Fr (fun b => b = p) w0 w
theorem PtW.refl {w : World} {p : Nat} {cs : List Value} (h : Stc w p cs) : PtW w p cs w := ⟨h, Fr.refl _ _⟩
theorem PtW.set {w0 w : World} {p : Nat} {cs : List Value} (h : PtW w0 p cs w) (j : Nat) (u : Value) : PtW w0 p (cs.set j u) (w.setCell ⟨p, j, none⟩ u) := ⟨h.st.set j u, Fr.trans h.fr (Fr.setCell _ _ _ _ rfl)⟩
theorem PtW.below {w0 w w' : World} {p : Nat} {cs : List Value} (h : PtW w0 p cs w) (hb : Below w.heap.size w w') : PtW w0 p cs w' := ⟨h.st.below hb, Fr.trans h.fr (Fr.of_below hb)⟩
theorem PtW.trans {w0 w1 w2 : World} {p : Nat} {cs cs2 : List Value} (h : PtW w0 p cs w1) (k : PtW w1 p cs2 w2) : PtW w0 p cs2 w2 := ⟨k.st, Fr.trans h.fr k.fr⟩
theorem PtW.drewN {w0 w : World} {p : Nat} {cs : List Value} (h : PtW w0 p cs w) (q : Nat) : PtW w0 p cs (w.drewN q) := h.below ⟨rfl, rfl, rfl, Nat.le_refl _, fun _ _ => rfl⟩
theorem PtW.drew {w0 w : World} {p : Nat} {cs : List Value} (h : PtW w0 p cs w) : PtW w0 p cs w.drew := h.below (Below.refl _ _).drew
structure PtP (w : World) (p : Nat) (r : Value) (cs : List Value) (e : Ending) (w' : World) : Prop where
  ret : e = .returned r
  at_ : PtW w p cs w'
structure PtQ (w : World) (p : Nat) (cs : List Value) (e : Ending) (w' : World) : Prop where
  ret : ∃ r, e = .returned r
  at_ : PtW w p cs w'
theorem isTick_any (t : Int) (w : World) : Calls Try.prog 31 #[.int .i64 t] w fun e w' => e = .returned (.bool (isT t)) ∧ w' = w := by
  by_cases h0 : 0 ≤ t
  · by_cases h1 : t ≤ 1099511627776
    · have e : isT t = true := by simp [isT]; omega
      rw [e]
      go_enter Try.func31, Try.ntmps31
      go_wp2
      go_ret
      exact ⟨rfl, rfl⟩
    · have e : isT t = false := by simp [isT]; omega
      rw [e]
      go_enter Try.func31, Try.ntmps31
      go_wp2
      go_ret
      exact ⟨rfl, rfl⟩
  · have e : isT t = false := by simp [isT]; omega
    rw [e]
    go_enter Try.func31, Try.ntmps31
    go_wp2
    go_ret
    exact ⟨rfl, rfl⟩
theorem maySend_any (t : Int) (w : World) (v : Value) (hv : v = .int .i64 t) : Calls Try.prog 34 #[v] w fun e w' => e = .returned (.bool (isB t)) ∧ w' = w := by
  subst hv
  by_cases h0 : 0 ≤ t
  · by_cases h1 : t ≤ 8192
    · have e : isB t = true := by simp [isB]; omega
      rw [e]
      go_enter Try.func34, Try.ntmps34
      go_wp2
      go_ret
      exact ⟨rfl, rfl⟩
    · have e : isB t = false := by simp [isB]; omega
      rw [e]
      go_enter Try.func34, Try.ntmps34
      go_wp2
      go_ret
      exact ⟨rfl, rfl⟩
  · have e : isB t = false := by simp [isB]; omega
    rw [e]
    go_enter Try.func34, Try.ntmps34
    go_wp2
    go_ret
    exact ⟨rfl, rfl⟩
theorem tdiv8 (x : Int) (h : 0 ≤ x) : Int.tdiv x 8 = x / 8 := Int.tdiv_eq_ediv_of_nonneg h
theorem tdiv4 (x : Int) (h : 0 ≤ x) : Int.tdiv x 4 = x / 4 := Int.tdiv_eq_ediv_of_nonneg h
theorem tdiv2 (x : Int) (h : 0 ≤ x) : Int.tdiv x 2 = x / 2 := Int.tdiv_eq_ediv_of_nonneg h
set_option maxHeartbeats 1000000 in
theorem measure_any (k p : Nat) (s : Ps) (t : Int) (w : World) (h : Stc w p s.cs) (hk : Pok k s) (h0 : 0 ≤ t) (h1 : t ≤ 600) (v : Value) (hv : v = .int .i64 t) :
    Calls Try.prog 32 #[.pointer (some ⟨p, 0, none⟩), v] w (PtQ w p (s.meas t).cs) := by
  subst hv
  have H := (show Hid _ from PtW.refl h)
  have c4 := h.cell 4 _ rfl
  have c5 := h.cell 5 _ rfl
  have c10 := h.cell 10 _ rfl
  have f4 := h.free 4
  have f5 := h.free 5
  have f10 := h.free 10
  have g1 := hk.e0
  have g2 := hk.e1
  have g3 := hk.d0
  have g4 := hk.d1
  have d8 := tdiv8 s.mean g1
  have d4 := tdiv4 s.spread g3
  clear h hk
  cases ha : s.any
  · have HS : Hid ((s.meas t).cs = ((s.cs.set 10 (.bool true)).set 4 (.int .i64 (8 * t))).set 5 (.int .i64 (2 * t))) := by show _ = _; unfold Ps.meas; rw [if_neg (by rw [ha]; simp)]; rfl
    rw [ha] at c10
    go_enter Try.func32, Try.ntmps32
    go_wp2
    go_end0
    exact ⟨⟨_, rfl⟩, by rw [HS.out]; exact ((H.out.set 10 _).set 4 _).set 5 _⟩
  · have HS : Hid ((s.meas t).cs = (s.cs.set 4 (.int .i64 (s.mean + (t - s.mean / 8)))).set 5 (.int .i64 (s.spread + (max (t - s.mean / 8) (-(t - s.mean / 8)) - s.spread / 4)))) := by show _ = _; unfold Ps.meas; rw [if_pos (by rw [ha])]; rfl
    rw [ha] at c10
    go_enter Try.func32, Try.ntmps32
    go_wp2
    go_region
    all_goals
      go_wp2
      go_end0
      exact ⟨⟨_, rfl⟩, by rw [HS.out]; exact ((H.out.set 4 _).set 5 _).drew⟩
end Go.Proofs.Yteobibinfckmdaa
