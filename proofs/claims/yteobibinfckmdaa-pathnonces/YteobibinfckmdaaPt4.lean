/- What path.Grow does. -/
import Derived.Test.YteobibinfckmdaaPt3
namespace Go.Proofs.Yteobibinfckmdaa
open Go.RowKit
set_option maxHeartbeats 1000000 in
theorem grow_any (k p : Nat) (s : Ps) (b : Int) (mv : Bool) (fl : Int) (w : World) (h : Stc w p s.cs) (hk : Pok k s) (hk2 : k ≤ 100000) (v1 v2 v3 : Value) (hv1 : v1 = .int .i64 b) (hv2 : v2 = .bool mv) (hv3 : v3 = .int .i64 fl) :
    Calls Try.prog 21 #[.pointer (some ⟨p, 0, none⟩), v1, v2, v3] w (PtP w p (.int .i64 (grE b fl : Nat)) (s.grow b mv fl).cs) := by
  subst hv1 hv2 hv3
  cases hb : isB b
  · have e1 : Hid (grE b fl = 2) := by show _ = _; unfold grE; rw [hb]; rfl
    have e2 : Hid (s.grow b mv fl = s) := by show _ = _; unfold Ps.grow; rw [hb, if_neg (by simp)]
    have hm := maySend_any b w _ rfl
    rw [hb] at hm
    go_enter Try.func21, Try.ntmps21
    go_wp2_with fail
    refine hm.mono ?_
    rintro e w1 ⟨rfl, rfl⟩
    go_wp2
    go_ret
    exact ⟨by rw [e1.out]; rfl, by rw [e2.out]; exact PtW.refl h⟩
  cases hf : isB fl
  · have e1 : Hid (grE b fl = 2) := by show _ = _; unfold grE; rw [hf, if_neg (by simp)]
    have e2 : Hid (s.grow b mv fl = s) := by show _ = _; unfold Ps.grow; rw [hf, if_neg (by simp)]
    have hm := maySend_any b w _ rfl
    rw [hb] at hm
    have hm2 := maySend_any fl w _ rfl
    rw [hf] at hm2
    go_enter Try.func21, Try.ntmps21
    go_wp2_with fail
    refine hm.mono ?_
    rintro e w1 ⟨rfl, hw1⟩
    subst w1
    go_wp2_with fail
    refine hm2.mono ?_
    rintro e w1 ⟨rfl, hw1⟩
    subst w1
    go_wp2
    go_ret
    exact ⟨by rw [e1.out]; rfl, by rw [e2.out]; exact PtW.refl h⟩
  have e1 : Hid (grE b fl = 0) := by show _ = _; unfold grE; rw [hf, hb]; rfl
  have hm := maySend_any b w _ rfl
  rw [hb] at hm
  have hm2 := maySend_any fl w _ rfl
  rw [hf] at hm2
  have hB : 0 ≤ b ∧ b ≤ 8192 := by simpa [isB] using hb
  have hF : 0 ≤ fl ∧ fl ≤ 8192 := by simpa [isB] using hf
  obtain ⟨b0, b1⟩ := hB
  obtain ⟨l0, l1⟩ := hF
  have H := (show Hid _ from PtW.refl h)
  have c0 := h.cell 0 _ rfl
  have c1 := h.cell 1 _ rfl
  have c2 := h.cell 2 _ rfl
  have c9 := h.cell 9 _ rfl
  have f2 := h.free 2
  have g1 := hk.w0
  have g2 := hk.w1
  have g3 := hk.m0
  have g4 := hk.m1
  have g5 := hk.p0
  have g6 := hk.p1
  cases hmv : mv
  · have e2 : Hid (s.grow b mv fl = s) := by show _ = _; unfold Ps.grow; rw [hmv, if_neg (by simp)]
    go_enter Try.func21, Try.ntmps21
    go_wp2_with fail
    refine hm.mono ?_
    rintro e w1 ⟨rfl, hw1⟩
    subst w1
    go_wp2_with fail
    refine hm2.mono ?_
    rintro e w1 ⟨rfl, hw1⟩
    subst w1
    go_wp2
    go_ret
    exact ⟨by rw [e1.out]; rfl, by rw [← hmv, e2.out]; exact PtW.refl h⟩
  by_cases hb0 : b = 0
  · have e2 : Hid (s.grow b mv fl = s) := by show _ = _; unfold Ps.grow; rw [if_neg (by intro hh; exact hh.2.2.2 hb0)]
    subst hb0
    go_enter Try.func21, Try.ntmps21
    go_wp2_with fail
    refine hm.mono ?_
    rintro e w1 ⟨rfl, hw1⟩
    subst w1
    go_wp2_with fail
    refine hm2.mono ?_
    rintro e w1 ⟨rfl, hw1⟩
    subst w1
    go_wp2
    go_ret
    exact ⟨by rw [e1.out]; rfl, by rw [← hmv, e2.out]; exact PtW.refl h⟩
  have E2 : s.grow b mv fl = if s.win ≤ s.slow then (if s.win ≤ fl then s.widen (min b s.mtu) else s) else if s.win ≤ fl ∧ s.win ≤ s.part + b then { s with part := s.part + b - s.win, win := min (s.win + s.mtu) 32768 } else { s with part := s.part + b } := by unfold Ps.grow; rw [if_pos ⟨hb, hf, hmv, hb0⟩]
  rw [hmv] at E2
  by_cases hs : s.win ≤ s.slow
  · by_cases hfu : s.win ≤ fl
    · have e2 : Hid (s.grow b true fl = s.widen (min b s.mtu)) := by show _ = _; rw [E2, if_pos hs, if_pos hfu]
      have hq : ∀ W, PtW w p s.cs W → _ := fun W hW => widen_any k p s (min b s.mtu) W hW.st hk (by omega) (by omega) _ rfl
      clear E2 h hk
      go_enter Try.func21, Try.ntmps21
      go_wp2_with fail
      refine hm.mono ?_
      rintro e w1 ⟨rfl, hw1⟩
      subst w1
      go_wp2_with fail
      refine hm2.mono ?_
      rintro e w1 ⟨rfl, hw1⟩
      subst w1
      go_wp2
      go_quiet (fail)
      all_goals
        go_wp2_with fail
        refine (hq _ (H.out.drewN _)).mono ?_
        rintro e w2 ⟨⟨r, rfl⟩, h2⟩
        have h2 := (show Hid _ from (H.out.drewN _).trans h2)
        go_wp2
        go_ret
        exact ⟨by rw [e1.out]; rfl, by rw [e2.out]; exact h2.out⟩
    · have e2 : Hid (s.grow b true fl = s) := by show _ = _; rw [E2, if_pos hs, if_neg hfu]
      clear E2 h hk
      go_enter Try.func21, Try.ntmps21
      go_wp2_with fail
      refine hm.mono ?_
      rintro e w1 ⟨rfl, hw1⟩
      subst w1
      go_wp2_with fail
      refine hm2.mono ?_
      rintro e w1 ⟨rfl, hw1⟩
      subst w1
      go_wp2
      go_quiet (fail)
      all_goals
        go_wp2
        go_ret
        exact ⟨by rw [e1.out]; rfl, by rw [e2.out]; exact H.out.drewN _⟩
  · have H2 : ∀ W, PtW w p s.cs W → PtW w p { s with part := s.part + b }.cs (W.setCell ⟨p, 2, none⟩ (.int .i64 (s.part + b))) := fun W hW => hW.set 2 _
    have H2 := (show Hid _ from H2)
    by_cases hfu : s.win ≤ fl
    · have hfb : decide (s.win ≤ fl) = true := decide_eq_true hfu
      by_cases hpa : s.win ≤ s.part + b
      · have e2 : Hid (s.grow b true fl = { s with part := s.part + b - s.win, win := min (s.win + s.mtu) 32768 }) := by show _ = _; rw [E2, if_neg hs, if_pos ⟨hfu, hpa⟩]
        have hq : ∀ W, PtW w p { s with part := s.part + b - s.win }.cs W → _ := fun W hW => widen_any (k + 1) p { s with part := s.part + b - s.win } s.mtu W hW.st ⟨hk.m0, hk.m1, hk.w0, hk.w1, hk.s0, hk.s1, by dsimp only; omega, by dsimp only; omega, hk.r0, hk.r1, hk.e0, hk.e1, hk.d0, hk.d1, hk.f0, by have := hk.f1; dsimp only; omega, hk.t0, hk.t1, hk.n1⟩ (by omega) (by omega) _ rfl
        clear E2 h hk
        go_enter Try.func21, Try.ntmps21
        go_wp2_with fail
        refine hm.mono ?_
        rintro e w1 ⟨rfl, hw1⟩
        subst w1
        go_wp2_with fail
        refine hm2.mono ?_
        rintro e w1 ⟨rfl, hw1⟩
        subst w1
        go_wp2
        go_quiet (fail)
        all_goals
          go_wp2
          have HW := H2.out _ (H.out.drewN nq)
          obtain ⟨W, hW⟩ : ∃ W, W = (w.drewN nq).setCell ⟨p, 2, none⟩ (.int .i64 (s.part + b)) := ⟨_, rfl⟩
          rw [← hW] at HW ⊢
          clear hW c0 c1 c2 c9 f2 H H2
          have c0 : W.cell? ⟨p, 0, none⟩ = some (.int .i64 s.win) := HW.st.cell 0 _ rfl
          have c2 : W.cell? ⟨p, 2, none⟩ = some (.int .i64 (s.part + b)) := HW.st.cell 2 _ rfl
          have c9 : W.cell? ⟨p, 9, none⟩ = some (.int .i64 s.mtu) := HW.st.cell 9 _ rfl
          have f2 := HW.st.free 2
          have HW := (show Hid _ from HW)
          go_quiet (fail)
          all_goals
            go_wp2
            go_region
            all_goals
              have HV : PtW w p { s with part := s.part + b - s.win }.cs (((W.drewN nq).setCell ⟨p, 2, none⟩ (.int .i64 (s.part + b - s.win))).drew) := ((HW.out.drewN nq).set 2 _).drew
              have hq2 := hq _ HV
              have HV := (show Hid _ from HV)
              go_wp2_with fail
              refine hq2.mono ?_
              rintro e w2 ⟨⟨r, rfl⟩, h2⟩
              have h3 := (show Hid _ from HV.out.trans h2)
              clear h2 hq2
              go_wp2
              go_ret
              exact ⟨by rw [e1.out]; rfl, by rw [e2.out]; exact h3.out⟩
      · have e2 : Hid (s.grow b true fl = { s with part := s.part + b }) := by show _ = _; rw [E2, if_neg hs, if_neg (fun hh => hpa hh.2)]
        clear E2 h hk
        go_enter Try.func21, Try.ntmps21
        go_wp2_with fail
        refine hm.mono ?_
        rintro e w1 ⟨rfl, hw1⟩
        subst w1
        go_wp2_with fail
        refine hm2.mono ?_
        rintro e w1 ⟨rfl, hw1⟩
        subst w1
        go_wp2
        go_quiet (fail)
        all_goals
          go_wp2
          have HW := H2.out _ (H.out.drewN nq)
          obtain ⟨W, hW⟩ : ∃ W, W = (w.drewN nq).setCell ⟨p, 2, none⟩ (.int .i64 (s.part + b)) := ⟨_, rfl⟩
          rw [← hW] at HW ⊢
          clear hW c0 c1 c2 c9 f2 H H2
          have c0 : W.cell? ⟨p, 0, none⟩ = some (.int .i64 s.win) := HW.st.cell 0 _ rfl
          have c2 : W.cell? ⟨p, 2, none⟩ = some (.int .i64 (s.part + b)) := HW.st.cell 2 _ rfl
          have c9 : W.cell? ⟨p, 9, none⟩ = some (.int .i64 s.mtu) := HW.st.cell 9 _ rfl
          have f2 := HW.st.free 2
          have HW := (show Hid _ from HW)
          go_quiet (fail)
          all_goals
            go_wp2
            go_ret
            exact ⟨by rw [e1.out]; rfl, by rw [e2.out]; exact HW.out.drewN _⟩
    · have e2 : Hid (s.grow b true fl = { s with part := s.part + b }) := by show _ = _; rw [E2, if_neg hs, if_neg (fun hh => hfu hh.1)]
      have hfb : decide (s.win ≤ fl) = false := decide_eq_false hfu
      clear E2 h hk
      go_enter Try.func21, Try.ntmps21
      go_wp2_with fail
      refine hm.mono ?_
      rintro e w1 ⟨rfl, hw1⟩
      subst w1
      go_wp2_with fail
      refine hm2.mono ?_
      rintro e w1 ⟨rfl, hw1⟩
      subst w1
      go_wp2
      go_quiet (fail)
      all_goals
        go_wp2
        have HW := H2.out _ (H.out.drewN nq)
        obtain ⟨W, hW⟩ : ∃ W, W = (w.drewN nq).setCell ⟨p, 2, none⟩ (.int .i64 (s.part + b)) := ⟨_, rfl⟩
        rw [← hW] at HW ⊢
        clear hW c0 c1 c2 c9 f2 H H2
        have c0 : W.cell? ⟨p, 0, none⟩ = some (.int .i64 s.win) := HW.st.cell 0 _ rfl
        have c2 : W.cell? ⟨p, 2, none⟩ = some (.int .i64 (s.part + b)) := HW.st.cell 2 _ rfl
        have c9 : W.cell? ⟨p, 9, none⟩ = some (.int .i64 s.mtu) := HW.st.cell 9 _ rfl
        have f2 := HW.st.free 2
        have HW := (show Hid _ from HW)
        go_quiet (fail)
        all_goals
          go_wp2
          go_ret
          exact ⟨by rw [e1.out]; rfl, by rw [e2.out]; exact HW.out.drewN _⟩
end Go.Proofs.Yteobibinfckmdaa
