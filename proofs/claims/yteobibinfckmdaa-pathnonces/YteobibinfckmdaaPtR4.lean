/- What the reference's Grow does to a way. -/
import Derived.Test.YteobibinfckmdaaPtR1
namespace Go.Proofs.Yteobibinfckmdaa
open Go.RowKit
set_option maxHeartbeats 2000000 in
theorem rgrow_no (p : Nat) (s : Ps) (b : Int) (mv : Bool) (fl : Int) (w : World) (h : Stc w p s.cs) (hh : ¬ (isB b = true ∧ isB fl = true)) :
    Calls Try.prog 24 #[.pointer (some ⟨p, 0, none⟩), .int .i64 b, .bool mv, .int .i64 fl] w (PtP w p (.int .i64 2) s.cs) := by
  have hh2 : ¬ ((0 ≤ b ∧ b ≤ 8192) ∧ (0 ≤ fl ∧ fl ≤ 8192)) := by simpa [isB] using hh
  by_cases h0 : b < 0
  · go_enter Try.func24, Try.ntmps24
    go_wp2
    go_ret
    exact ⟨rfl, PtW.refl h⟩
  by_cases h1 : 8192 < b
  · go_enter Try.func24, Try.ntmps24
    go_wp2
    go_ret
    exact ⟨rfl, PtW.refl h⟩
  by_cases h2 : fl < 0
  · go_enter Try.func24, Try.ntmps24
    go_wp2
    go_ret
    exact ⟨rfl, PtW.refl h⟩
  have h3 : 8192 < fl := by omega
  go_enter Try.func24, Try.ntmps24
  go_wp2
  go_ret
  exact ⟨rfl, PtW.refl h⟩
set_option maxHeartbeats 2000000 in
theorem rgrow_not (p : Nat) (s : Ps) (b : Int) (mv : Bool) (fl : Int) (w : World) (h : Stc w p s.cs) (b0 : 0 ≤ b) (b1 : b ≤ 8192) (l0 : 0 ≤ fl) (l1 : fl ≤ 8192) (hh : mv = false ∨ b = 0) :
    Calls Try.prog 24 #[.pointer (some ⟨p, 0, none⟩), .int .i64 b, .bool mv, .int .i64 fl] w (PtP w p (.int .i64 0) s.cs) := by
  have a0 : ¬ b < 0 := by omega
  have a1 : ¬ 8192 < b := by omega
  have a2 : ¬ fl < 0 := by omega
  have a3 : ¬ 8192 < fl := by omega
  rcases hh with rfl | rfl
  · go_enter Try.func24, Try.ntmps24
    go_wp2
    go_ret
    exact ⟨rfl, PtW.refl h⟩
  · cases mv
    · go_enter Try.func24, Try.ntmps24
      go_wp2
      go_ret
      exact ⟨rfl, PtW.refl h⟩
    · go_enter Try.func24, Try.ntmps24
      go_wp2
      go_ret
      exact ⟨rfl, PtW.refl h⟩
set_option maxHeartbeats 4000000 in
theorem rgrow_yes (k p : Nat) (s : Ps) (b fl : Int) (w : World) (h : Stc w p s.cs) (hk : Pok k s) (hk2 : k ≤ 100000) (b0 : 0 < b) (b1 : b ≤ 8192) (l0 : 0 ≤ fl) (l1 : fl ≤ 8192) :
    Calls Try.prog 24 #[.pointer (some ⟨p, 0, none⟩), .int .i64 b, .bool true, .int .i64 fl] w (PtP w p (.int .i64 0) (s.grow b true fl).cs) := by
  have a0 : ¬ b < 0 := by omega
  have a1 : ¬ 8192 < b := by omega
  have a2 : ¬ fl < 0 := by omega
  have a3 : ¬ 8192 < fl := by omega
  have a4 : ¬ b = 0 := by omega
  have hb : isB b = true := by simp [isB]; omega
  have hf : isB fl = true := by simp [isB]; omega
  have E2 : s.grow b true fl = if s.win ≤ s.slow then (if s.win ≤ fl then s.widen (min b s.mtu) else s) else if s.win ≤ fl ∧ s.win ≤ s.part + b then { s with part := s.part + b - s.win, win := min (s.win + s.mtu) 32768 } else { s with part := s.part + b } := by unfold Ps.grow; rw [if_pos ⟨hb, hf, rfl, a4⟩]
  have H := (show Hid _ from PtW.refl h)
  have c0 := h.cell 0 _ rfl
  have c1 := h.cell 1 _ rfl
  have c2 := h.cell 2 _ rfl
  have c9 := h.cell 9 _ rfl
  have f0 := h.free 0
  have f2 := h.free 2
  have g1 := hk.w0
  have g2 := hk.w1
  have g3 := hk.m0
  have g4 := hk.m1
  have g5 := hk.p0
  have g6 := hk.p1
  clear h hk hb hf
  by_cases hs : s.win ≤ s.slow
  · by_cases hfu : s.win ≤ fl
    · have e2 : Hid (s.grow b true fl = s.widen (min b s.mtu)) := by show _ = _; rw [E2, if_pos hs, if_pos hfu]
      clear E2
      have HW : Hid (∀ x, x = min b s.mtu → ¬ 32768 < s.win + x → PtW w p (s.widen (min b s.mtu)).cs (w.setCell ⟨p, 0, none⟩ (.int .i64 (s.win + x)))) := by
        show ∀ _, _
        intro x hx hx2
        have : s.widen (min b s.mtu) = { s with win := s.win + x } := by unfold Ps.widen; rw [← hx, show min (s.win + x) 32768 = s.win + x by omega]
        rw [this]; exact H.out.set 0 _
      by_cases hst : s.mtu < b
      · go_enter Try.func24, Try.ntmps24
        go_wp2
        go_ret
        exact ⟨rfl, by rw [e2.out]; exact HW.out _ (by omega) (by omega)⟩
      · go_enter Try.func24, Try.ntmps24
        go_wp2
        go_ret
        exact ⟨rfl, by rw [e2.out]; exact HW.out _ (by omega) (by omega)⟩
    · have e2 : Hid (s.grow b true fl = s) := by show _ = _; rw [E2, if_pos hs, if_neg hfu]
      clear E2
      go_enter Try.func24, Try.ntmps24
      go_wp2
      go_ret
      exact ⟨rfl, by rw [e2.out]; exact H.out⟩
  · by_cases hpa : s.win ≤ s.part + b
    · by_cases hfu : s.win ≤ fl
      · have e2 : Hid (s.grow b true fl = { s with part := s.part + b - s.win, win := min (s.win + s.mtu) 32768 }) := by show _ = _; rw [E2, if_neg hs, if_pos ⟨hfu, hpa⟩]
        clear E2
        have hw : ¬ 32768 < s.win + s.mtu := by omega
        have HE : Hid (min (s.win + s.mtu) 32768 = s.win + s.mtu) := by show _ = _; omega
        go_enter Try.func24, Try.ntmps24
        go_wp2
        go_ret
        exact ⟨rfl, by rw [e2.out, HE.out]; exact ((H.out.set 2 _).set 2 _).set 0 _⟩
      · have e2 : Hid (s.grow b true fl = { s with part := s.part + b }) := by show _ = _; rw [E2, if_neg hs, if_neg (fun hh => hfu hh.1)]
        clear E2
        go_enter Try.func24, Try.ntmps24
        go_wp2
        go_ret
        exact ⟨rfl, by rw [e2.out]; exact H.out.set 2 _⟩
    · have e2 : Hid (s.grow b true fl = { s with part := s.part + b }) := by show _ = _; rw [E2, if_neg hs, if_neg (fun hh => hpa hh.2)]
      clear E2
      go_enter Try.func24, Try.ntmps24
      go_wp2
      go_ret
      exact ⟨rfl, by rw [e2.out]; exact H.out.set 2 _⟩
theorem rgrow_any (k p : Nat) (s : Ps) (b : Int) (mv : Bool) (fl : Int) (w : World) (h : Stc w p s.cs) (hk : Pok k s) (hk2 : k ≤ 100000) (v1 v2 v3 : Value) (hv1 : v1 = .int .i64 b) (hv2 : v2 = .bool mv) (hv3 : v3 = .int .i64 fl) :
    Calls Try.prog 24 #[.pointer (some ⟨p, 0, none⟩), v1, v2, v3] w (PtP w p (.int .i64 (grE b fl : Nat)) (s.grow b mv fl).cs) := by
  subst hv1 hv2 hv3
  by_cases hh : isB b = true ∧ isB fl = true
  · have e1 : grE b fl = 0 := by unfold grE; rw [if_pos hh]
    rw [e1]
    have hb : 0 ≤ b ∧ b ≤ 8192 := by simpa [isB] using hh.1
    have hf : 0 ≤ fl ∧ fl ≤ 8192 := by simpa [isB] using hh.2
    by_cases h2 : mv = false ∨ b = 0
    · have e2 : s.grow b mv fl = s := by unfold Ps.grow; rw [if_neg (fun h => h2.elim (fun e => by rw [e] at h; exact Bool.false_ne_true h.2.2.1) (fun e => h.2.2.2 e))]
      rw [e2]
      exact rgrow_not p s b mv fl w h hb.1 hb.2 hf.1 hf.2 h2
    · have hmv : mv = true := by cases mv <;> simp at h2 ⊢
      subst hmv
      exact rgrow_yes k p s b fl w h hk hk2 (by have := hb.1; have : ¬ b = 0 := fun e => h2 (.inr e); omega) hb.2 hf.1 hf.2
  · have e1 : grE b fl = 2 := by unfold grE; rw [if_neg hh]
    have e2 : s.grow b mv fl = s := by unfold Ps.grow; rw [if_neg (fun h => hh ⟨h.1, h.2.1⟩)]
    rw [e1, e2]
    exact rgrow_no p s b mv fl w h hh
end Go.Proofs.Yteobibinfckmdaa
