/- What path's calls do to a way in memory. -/
import Derived.Test.YteobibinfckmdaaPt1
namespace Go.Proofs.Yteobibinfckmdaa
open Go.RowKit
set_option maxHeartbeats 1000000 in
theorem widen_any (k p : Nat) (s : Ps) (b : Int) (w : World) (h : Stc w p s.cs) (hk : Pok k s) (h0 : 0 ≤ b) (h1 : b ≤ 8192) (v : Value) (hv : v = .int .i64 b) :
    Calls Try.prog 35 #[.pointer (some ⟨p, 0, none⟩), v] w (PtQ w p (s.widen b).cs) := by
  subst hv
  have H := (show Hid _ from PtW.refl h)
  have c0 := h.cell 0 _ rfl
  have f0 := h.free 0
  have g1 := hk.w0
  have g2 := hk.w1
  have g3 := hk.m0
  clear h hk
  go_enter Try.func35, Try.ntmps35
  go_wp2
  go_end0
  exact ⟨⟨_, rfl⟩, H.out.set 0 _⟩
set_option maxHeartbeats 1000000 in
theorem narrow_any (k p : Nat) (s : Ps) (w : World) (h : Stc w p s.cs) (hk : Pok k s) :
    Calls Try.prog 33 #[.pointer (some ⟨p, 0, none⟩)] w (PtQ w p s.narrow.cs) := by
  have H := (show Hid _ from PtW.refl h)
  have c0 := h.cell 0 _ rfl
  have c1 := h.cell 1 _ rfl
  have c2 := h.cell 2 _ rfl
  have c9 := h.cell 9 _ rfl
  have f0 := h.free 0
  have f1 := h.free 1
  have f2 := h.free 2
  have g1 := hk.w0
  have g2 := hk.w1
  have g3 := hk.m0
  have g4 := hk.m1
  have d2 := tdiv2 s.win (by omega)
  clear h hk
  go_enter Try.func33, Try.ntmps33
  go_wp2
  go_region
  all_goals
    go_wp2
    go_end0
    first
      | exact ⟨⟨_, rfl⟩, ((H.out.set 1 _).set 0 _).set 2 _⟩
      | exact ⟨⟨_, rfl⟩, (((H.out.set 1 _).drew).set 0 _).set 2 _⟩
      | exact ⟨⟨_, rfl⟩, (((H.out.set 1 _).set 0 _).set 2 _).drew⟩
      | (trace_state; fail)
set_option maxHeartbeats 1000000 in
theorem fast_any (k p : Nat) (s : Ps) (w : World) (h : Stc w p s.cs) (hk : Pok k s) :
    Calls Try.prog 22 #[.pointer (some ⟨p, 0, none⟩)] w (PtP w p (.int .i64 0) s.narrow.cs) := by
  go_enter Try.func22, Try.ntmps22
  go_wp2_with fail
  refine (narrow_any k p s w h hk).mono ?_
  rintro e w1 ⟨⟨r, rfl⟩, h1⟩
  go_wp2
  go_ret
  exact ⟨rfl, h1⟩
set_option maxHeartbeats 1000000 in
theorem fault_any (k p : Nat) (s : Ps) (w : World) (h : Stc w p s.cs) (hk : Pok k s) (hk2 : k ≤ 100000) :
    Calls Try.prog 18 #[.pointer (some ⟨p, 0, none⟩)] w (PtP w p (.tuple #[.bool s.down, .int .i64 0]) s.fault.cs) := by
  have H := (show Hid _ from PtW.refl h)
  have c6 := h.cell 6 _ rfl
  have c7 := h.cell 7 _ rfl
  have f6 := h.free 6
  have f7 := h.free 7
  have g1 := hk.f0
  have g2 := hk.f1
  clear h hk
  cases hu : s.up
  · have HS : Hid (s.fault.cs = (s.cs.set 6 (.int .i64 (s.faults + 1))).set 7 (.bool false)) := by show _ = _; unfold Ps.fault; rw [hu]; rfl
    have HD : Hid (s.down = false) := by show _ = _; unfold Ps.down; rw [hu]; rfl
    rw [hu] at c7
    go_enter Try.func18, Try.ntmps18
    go_wp2
    go_ret2
    exact ⟨by rw [HD.out]; rfl, by rw [HS.out]; exact (H.out.set 6 _).set 7 _⟩
  · by_cases h3 : 3 < s.faults + 1
    · have HS : Hid (s.fault.cs = (s.cs.set 6 (.int .i64 (s.faults + 1))).set 7 (.bool false)) := by show _ = _; unfold Ps.fault; rw [hu, decide_eq_true h3]; rfl
      have HD : Hid (s.down = true) := by show _ = _; unfold Ps.down; rw [hu, decide_eq_true h3]; rfl
      rw [hu] at c7
      go_enter Try.func18, Try.ntmps18
      go_wp2
      go_ret2
      exact ⟨by rw [HD.out]; rfl, by rw [HS.out]; exact (H.out.set 6 _).set 7 _⟩
    · have HS : Hid (s.fault.cs = (s.cs.set 6 (.int .i64 (s.faults + 1))).set 7 (.bool true)) := by show _ = _; unfold Ps.fault; rw [hu, decide_eq_false h3]; rfl
      have HD : Hid (s.down = false) := by show _ = _; unfold Ps.down; rw [hu, decide_eq_false h3]; rfl
      rw [hu] at c7
      go_enter Try.func18, Try.ntmps18
      go_wp2
      go_ret2
      exact ⟨by rw [HD.out]; rfl, by rw [HS.out]; exact (H.out.set 6 _).set 7 _⟩
set_option maxHeartbeats 1000000 in
theorem late_any (k p : Nat) (s : Ps) (w : World) (h : Stc w p s.cs) (hk : Pok k s) (hk2 : k ≤ 100000) :
    Calls Try.prog 17 #[.pointer (some ⟨p, 0, none⟩)] w (PtP w p (.tuple #[.bool s.down, .int .i64 0]) s.late.cs) := by
  have HF := fun W (hW : Stc W p s.lated.cs) => fault_any k p s.lated W hW (pok_lated hk) hk2
  have g1 := hk.r0
  have g2 := hk.r1
  go_enter Try.func17, Try.ntmps17
  go_wp2_with fail
  refine (narrow_any k p s w h hk).mono ?_
  rintro e w1 ⟨⟨r, rfl⟩, h1⟩
  have c0 := h1.st.cell 0 _ rfl
  have c3 : w1.cell? ⟨p, 3, none⟩ = some (.int .i64 s.rto) := h1.st.cell 3 _ rfl
  have c9 : w1.cell? ⟨p, 9, none⟩ = some (.int .i64 s.mtu) := h1.st.cell 9 _ rfl
  have f0 := h1.st.free 0
  have f3 := h1.st.free 3
  have h2 : PtW w p s.lated.cs ((w1.setCell ⟨p, 0, none⟩ (.int .i64 s.mtu)).setCell ⟨p, 3, none⟩ (.int .i64 (min (2 * s.rto) 600))) := (h1.set 0 _).set 3 _
  have HQ := HF _ h2.st
  have h2 := (show Hid _ from h2)
  clear HF h1 h hk
  go_wp2_with fail
  refine HQ.mono ?_
  rintro e w2 ⟨rfl, h3⟩
  have HR := (show Hid _ from h2.out.trans h3)
  clear h3 HQ h2
  go_wp2
  go_ret2
  exact ⟨rfl, HR.out⟩
set_option maxHeartbeats 1000000 in
theorem good_any (p : Nat) (s : Ps) (w : World) (h : Stc w p s.cs) :
    Calls Try.prog 16 #[.pointer (some ⟨p, 0, none⟩)] w (PtP w p (.int .i64 0) s.good.cs) := by
  have H := (show Hid _ from PtW.refl h)
  have c6 := h.cell 6 _ rfl
  have c7 := h.cell 7 _ rfl
  have f6 := h.free 6
  have f7 := h.free 7
  clear h
  go_enter Try.func16, Try.ntmps16
  go_wp2
  go_ret
  exact ⟨rfl, (H.out.set 6 _).set 7 _⟩
set_option maxHeartbeats 1000000 in
theorem sample_any (k p : Nat) (s : Ps) (t : Int) (w : World) (h : Stc w p s.cs) (hk : Pok k s) (v : Value) (hv : v = .int .i64 t) :
    Calls Try.prog 15 #[.pointer (some ⟨p, 0, none⟩), v] w (PtP w p (.int .i64 (smE t : Nat)) (s.sample t).cs) := by
  subst hv
  go_enter Try.func15, Try.ntmps15
  go_wp2_with fail
  refine (isTick_any t w).mono ?_
  rintro e w1 ⟨rfl, rfl⟩
  cases ht : isT t
  · have e1 : smE t = 2 := by unfold smE; rw [ht]; rfl
    have e2 : s.sample t = s := by unfold Ps.sample; rw [ht]; rfl
    have e1 := (show Hid _ from e1)
    have e2 := (show Hid _ from e2)
    go_wp2
    go_ret
    exact ⟨by rw [e1.out]; rfl, by rw [e2.out]; exact PtW.refl h⟩
  · have e1 : smE t = 0 := by unfold smE; rw [ht]; rfl
    have e2 : s.sample t = (s.meas (min t 600)).rtoed := by unfold Ps.sample; rw [ht]; rfl
    have e1 := (show Hid _ from e1)
    have e2 := (show Hid _ from e2)
    have hb : 0 ≤ t ∧ t ≤ 1099511627776 := by simpa [isT] using ht
    obtain ⟨b0, b1⟩ := hb
    have hk2 := pok_meas hk (min t 600) (by omega) (by omega)
    go_wp2_with fail
    refine (measure_any k p s (min t 600) w1 h hk (by omega) (by omega) _ rfl).mono ?_
    rintro e w2 ⟨⟨r, rfl⟩, h2⟩
    obtain ⟨q, hq⟩ : ∃ q, q = s.meas (min t 600) := ⟨_, rfl⟩
    rw [← hq] at hk2 h2
    have hq := (show Hid _ from hq)
    have H2 := (show Hid _ from h2)
    have c3 := h2.st.cell 3 _ rfl
    have c4 := h2.st.cell 4 _ rfl
    have c5 := h2.st.cell 5 _ rfl
    have f3 := h2.st.free 3
    have g1 := hk2.e0
    have g2 := hk2.e1
    have g3 := hk2.d0
    have g4 := hk2.d1
    have HV : Hid (wrap64 (wrap64 (q.mean.tdiv 8) + q.spread) = q.mean / 8 + q.spread) := by show _ = _; rw [tdiv8 q.mean g1, IntWalk.wrap64_in (q.mean / 8) (by omega), IntWalk.wrap64_in (q.mean / 8 + q.spread) (by omega)]
    clear h2 hk2 h hk
    go_wp2
    go_region
    all_goals
      go_wp2
      go_ret
      exact ⟨by rw [e1.out]; rfl, by rw [e2.out, ← hq.out, HV.out]; exact (H2.out.set 3 _).drew⟩
set_option maxHeartbeats 1000000 in
theorem beat_any (p : Nat) (s : Ps) (n : Nat) (t : Int) (w : World) (h : Stc w p s.cs) (v1 v2 : Value) (hv1 : v1 = .int .u64 (n : Nat)) (hv2 : v2 = .int .i64 t) :
    Calls Try.prog 19 #[.pointer (some ⟨p, 0, none⟩), v1, v2] w (PtP w p (.int .i64 (smE t : Nat)) (s.beat n t).cs) := by
  subst hv1 hv2
  go_enter Try.func19, Try.ntmps19
  go_wp2_with fail
  refine (isTick_any t w).mono ?_
  rintro e w1 ⟨rfl, rfl⟩
  cases ht : isT t
  · have e1 : smE t = 2 := by unfold smE; rw [ht]; rfl
    have e2 : s.beat n t = s := by unfold Ps.beat; rw [ht]; rfl
    have e1 := (show Hid _ from e1)
    have e2 := (show Hid _ from e2)
    go_wp2
    go_ret
    exact ⟨by rw [e1.out]; rfl, by rw [e2.out]; exact PtW.refl h⟩
  · have e1 : smE t = 0 := by unfold smE; rw [ht]; rfl
    have e2 : s.beat n t = { s with fly := true, nonce := n, since := t } := by unfold Ps.beat; rw [ht]; rfl
    have e1 := (show Hid _ from e1)
    have e2 := (show Hid _ from e2)
    have H := (show Hid _ from PtW.refl h)
    have c11 := h.cell 11 _ rfl
    have c12 := h.cell 12 _ rfl
    have c13 := h.cell 13 _ rfl
    have f11 := h.free 11
    have f12 := h.free 12
    have f13 := h.free 13
    clear h
    go_wp2
    go_ret
    exact ⟨by rw [e1.out]; rfl, by rw [e2.out]; exact ((H.out.set 11 _).set 12 _).set 13 _⟩
end Go.Proofs.Yteobibinfckmdaa
