/- What the reference's least, Fast, Late, Fault, Good, Beat and Grow do to a way. -/
import Derived.Test.YteobibinfckmdaaPtR1
namespace Go.Proofs.Yteobibinfckmdaa
open Go.RowKit
set_option maxHeartbeats 1000000 in
theorem least_any (k p : Nat) (s : Ps) (w : World) (h : Stc w p s.cs) (hk : Pok k s) :
    Calls Try.prog 37 #[.pointer (some ⟨p, 0, none⟩)] w fun e w' => e = .returned (.int .i64 (max (s.win / 2) (4 * s.mtu))) ∧ w' = w := by
  have c0 := h.cell 0 _ rfl
  have c9 := h.cell 9 _ rfl
  have g1 := hk.w0
  have g2 := hk.w1
  have g3 := hk.m0
  have g4 := hk.m1
  have d2 := tdiv2 s.win (by omega)
  clear h hk
  by_cases hl : s.win / 2 < 4 * s.mtu
  · have e1 : Hid (max (s.win / 2) (4 * s.mtu) = 4 * s.mtu) := by show _ = _; omega
    go_enter Try.func37, Try.ntmps37
    go_wp2
    go_ret
    exact ⟨by rw [e1.out]; rfl, rfl⟩
  · have e1 : Hid (max (s.win / 2) (4 * s.mtu) = s.win / 2) := by show _ = _; omega
    go_enter Try.func37, Try.ntmps37
    go_wp2
    go_ret
    exact ⟨by rw [e1.out]; rfl, rfl⟩
set_option maxHeartbeats 1000000 in
theorem rfast_any (k p : Nat) (s : Ps) (w : World) (h : Stc w p s.cs) (hk : Pok k s) :
    Calls Try.prog 25 #[.pointer (some ⟨p, 0, none⟩)] w (PtP w p (.int .i64 0) s.narrow.cs) := by
  have hle := least_any k p s w h hk
  have H := (show Hid _ from PtW.refl h)
  have c0 := h.cell 0 _ rfl
  have c1 := h.cell 1 _ rfl
  have c2 := h.cell 2 _ rfl
  have f0 := h.free 0
  have f1 := h.free 1
  have f2 := h.free 2
  clear h hk
  have HS : Hid (s.narrow.cs = ((s.cs.set 1 (.int .i64 (max (s.win / 2) (4 * s.mtu)))).set 0 (.int .i64 (max (s.win / 2) (4 * s.mtu)))).set 2 (.int .i64 0)) := rfl
  generalize max (s.win / 2) (4 * s.mtu) = x at *
  go_enter Try.func25, Try.ntmps25
  go_wp2_with fail
  refine hle.mono ?_
  rintro e w1 ⟨rfl, hw1⟩
  subst w1
  go_wp2
  go_ret
  exact ⟨rfl, by rw [HS.out]; exact ((H.out.set 1 _).set 0 _).set 2 _⟩
set_option maxHeartbeats 1000000 in
theorem rfault_any (k p : Nat) (s : Ps) (w : World) (h : Stc w p s.cs) (hk : Pok k s) (hk2 : k ≤ 100000) :
    Calls Try.prog 27 #[.pointer (some ⟨p, 0, none⟩)] w (PtP w p (.tuple #[.bool s.down, .int .i64 0]) s.fault.cs) := by
  have H := (show Hid _ from PtW.refl h)
  have c6 := h.cell 6 _ rfl
  have c7 := h.cell 7 _ rfl
  have f6 := h.free 6
  have f7 := h.free 7
  have g1 := hk.f0
  have g2 := hk.f1
  have hS7 : (s.cs.set 6 (.int .i64 (s.faults + 1))) = (s.cs.set 6 (.int .i64 (s.faults + 1))).set 7 (.bool s.up) := rfl
  have HS7 := (show Hid _ from hS7)
  clear h hk hS7
  by_cases h3 : 3 < s.faults + 1
  · cases hu : s.up
    · have HS : Hid (s.fault.cs = (s.cs.set 6 (.int .i64 (s.faults + 1))).set 7 (.bool false)) := by show _ = _; unfold Ps.fault; rw [hu]; rfl
      have HD : Hid (s.down = false) := by show _ = _; unfold Ps.down; rw [hu]; rfl
      rw [hu] at c7 HS7
      go_enter Try.func27, Try.ntmps27
      go_wp2
      go_ret2
      exact ⟨by rw [HD.out]; rfl, by rw [HS.out, ← HS7.out]; exact H.out.set 6 _⟩
    · have HS : Hid (s.fault.cs = (s.cs.set 6 (.int .i64 (s.faults + 1))).set 7 (.bool false)) := by show _ = _; unfold Ps.fault; rw [hu, decide_eq_true h3]; rfl
      have HD : Hid (s.down = true) := by show _ = _; unfold Ps.down; rw [hu, decide_eq_true h3]; rfl
      rw [hu] at c7
      go_enter Try.func27, Try.ntmps27
      go_wp2
      go_ret2
      exact ⟨by rw [HD.out]; rfl, by rw [HS.out]; exact (H.out.set 6 _).set 7 _⟩
  · have HS : Hid (s.fault.cs = (s.cs.set 6 (.int .i64 (s.faults + 1))).set 7 (.bool s.up)) := by show _ = _; unfold Ps.fault; rw [decide_eq_false h3]; cases s.up <;> rfl
    have HD : Hid (s.down = false) := by show _ = _; unfold Ps.down; rw [decide_eq_false h3]; simp
    go_enter Try.func27, Try.ntmps27
    go_wp2
    go_ret2
    exact ⟨by rw [HD.out]; rfl, by rw [HS.out, ← HS7.out]; exact H.out.set 6 _⟩
set_option maxHeartbeats 1000000 in
theorem rlate_any (k p : Nat) (s : Ps) (w : World) (h : Stc w p s.cs) (hk : Pok k s) (hk2 : k ≤ 100000) :
    Calls Try.prog 26 #[.pointer (some ⟨p, 0, none⟩)] w (PtP w p (.tuple #[.bool s.down, .int .i64 0]) s.late.cs) := by
  have HF := fun W (hW : Stc W p s.lated.cs) => rfault_any k p s.lated W hW (pok_lated hk) hk2
  have hle := least_any k p s w h hk
  have H := (show Hid _ from PtW.refl h)
  have g1 := hk.r0
  have g2 := hk.r1
  have c0 := h.cell 0 _ rfl
  have c1 := h.cell 1 _ rfl
  have c2 := h.cell 2 _ rfl
  have c3 := h.cell 3 _ rfl
  have c9 := h.cell 9 _ rfl
  have f0 := h.free 0
  have f1 := h.free 1
  have f2 := h.free 2
  have f3 := h.free 3
  have HS : ∀ x, s.lated.cs = ((((s.cs.set 1 (.int .i64 (max (s.win / 2) (4 * s.mtu)))).set 0 (.int .i64 s.mtu)).set 2 (.int .i64 0)).set 3 x).set 3 (.int .i64 (min (2 * s.rto) 600)) := fun x => rfl
  have HS2 : s.lated.cs = (((s.cs.set 1 (.int .i64 (max (s.win / 2) (4 * s.mtu)))).set 0 (.int .i64 s.mtu)).set 2 (.int .i64 0)).set 3 (.int .i64 (min (2 * s.rto) 600)) := rfl
  have HS := (show Hid _ from HS)
  have HS2 := (show Hid _ from HS2)
  clear h hk
  generalize max (s.win / 2) (4 * s.mtu) = x at *
  have HW : PtW w p (((s.cs.set 1 (.int .i64 x)).set 0 (.int .i64 s.mtu)).set 2 (.int .i64 0)) (((w.setCell ⟨p, 1, none⟩ (.int .i64 x)).setCell ⟨p, 0, none⟩ (.int .i64 s.mtu)).setCell ⟨p, 2, none⟩ (.int .i64 0)) := ((H.out.set 1 _).set 0 _).set 2 _
  have HW := (show Hid _ from HW)
  go_enter Try.func26, Try.ntmps26
  go_wp2_with fail
  refine hle.mono ?_
  rintro e w1 ⟨rfl, hw1⟩
  subst w1
  go_wp2
  have hW := HW.out
  obtain ⟨W, hWW⟩ : ∃ W, W = ((w.setCell ⟨p, 1, none⟩ (.int .i64 x)).setCell ⟨p, 0, none⟩ (.int .i64 s.mtu)).setCell ⟨p, 2, none⟩ (.int .i64 0) := ⟨_, rfl⟩
  rw [← hWW] at hW ⊢
  clear hWW HW H c0 c1 c2 c3 c9 f0 f1 f2 f3
  have c3 : W.cell? ⟨p, 3, none⟩ = some (.int .i64 s.rto) := hW.st.cell 3 _ rfl
  have f3 := hW.st.free 3
  have HW := (show Hid _ from hW)
  clear hW
  go_region
  all_goals
    by_cases hr : 600 < s.rto + s.rto
    · have h2 : PtW w p s.lated.cs (((W.setCell ⟨p, 3, none⟩ (.int .i64 (s.rto + s.rto))).drew).setCell ⟨p, 3, none⟩ (.int .i64 600)) := by
        rw [HS.out (.int .i64 (s.rto + s.rto)), show min (2 * s.rto) 600 = 600 by omega]
        exact ((HW.out.set 3 _).drew).set 3 _
      have h3 : PtW w p s.lated.cs (((W.setCell ⟨p, 3, none⟩ (.int .i64 (s.rto + s.rto))).setCell ⟨p, 3, none⟩ (.int .i64 600)).drew) := by
        rw [HS.out (.int .i64 (s.rto + s.rto)), show min (2 * s.rto) 600 = 600 by omega]
        exact ((HW.out.set 3 _).set 3 _).drew
      have h2 := (show Hid _ from h2)
      have h3 := (show Hid _ from h3)
      go_wp2_with fail
      first
        | refine (HF _ h2.out.st).mono ?_
          rintro e w2 ⟨rfl, h4⟩
          have H5 := (show Hid _ from h2.out.trans h4)
        | refine (HF _ h3.out.st).mono ?_
          rintro e w2 ⟨rfl, h4⟩
          have H5 := (show Hid _ from h3.out.trans h4)
      clear h4 HF h2 h3
      go_wp2
      go_ret2
      exact ⟨rfl, H5.out⟩
    · have h2 : PtW w p s.lated.cs ((W.setCell ⟨p, 3, none⟩ (.int .i64 (s.rto + s.rto))).drew) := by
        rw [HS2.out, show min (2 * s.rto) 600 = s.rto + s.rto by omega]
        exact (HW.out.set 3 _).drew
      have h2 := (show Hid _ from h2)
      go_wp2_with fail
      refine (HF _ h2.out.st).mono ?_
      rintro e w2 ⟨rfl, h4⟩
      have H5 := (show Hid _ from h2.out.trans h4)
      clear h4 HF h2
      go_wp2
      go_ret2
      exact ⟨rfl, H5.out⟩
set_option maxHeartbeats 1000000 in
theorem rgood_any (p : Nat) (s : Ps) (w : World) (h : Stc w p s.cs) :
    Calls Try.prog 28 #[.pointer (some ⟨p, 0, none⟩)] w (PtP w p (.int .i64 0) s.good.cs) := by
  have H := (show Hid _ from PtW.refl h)
  have c6 := h.cell 6 _ rfl
  have c7 := h.cell 7 _ rfl
  have f6 := h.free 6
  have f7 := h.free 7
  clear h
  go_enter Try.func28, Try.ntmps28
  go_wp2
  go_ret
  exact ⟨rfl, (H.out.set 6 _).set 7 _⟩
set_option maxHeartbeats 1000000 in
theorem rbeat_any (p : Nat) (s : Ps) (n : Nat) (t : Int) (w : World) (h : Stc w p s.cs) (v1 v2 : Value) (hv1 : v1 = .int .u64 (n : Nat)) (hv2 : v2 = .int .i64 t) :
    Calls Try.prog 29 #[.pointer (some ⟨p, 0, none⟩), v1, v2] w (PtP w p (.int .i64 (smE t : Nat)) (s.beat n t).cs) := by
  subst hv1 hv2
  cases ht : isT t
  · have e1 : Hid (smE t = 2) := by show _ = _; unfold smE; rw [ht]; rfl
    have e2 : Hid (s.beat n t = s) := by show _ = _; unfold Ps.beat; rw [ht]; rfl
    have hb : ¬ (0 ≤ t ∧ t ≤ 1099511627776) := by simpa [isT] using ht
    by_cases h0 : t < 0
    · go_enter Try.func29, Try.ntmps29
      go_wp2
      go_ret
      exact ⟨by rw [e1.out]; rfl, by rw [e2.out]; exact PtW.refl h⟩
    · have h1 : 1099511627776 < t := by omega
      go_enter Try.func29, Try.ntmps29
      go_wp2
      go_ret
      exact ⟨by rw [e1.out]; rfl, by rw [e2.out]; exact PtW.refl h⟩
  · have e1 : Hid (smE t = 0) := by show _ = _; unfold smE; rw [ht]; rfl
    have e2 : Hid (s.beat n t = { s with fly := true, nonce := n, since := t }) := by show _ = _; unfold Ps.beat; rw [ht]; rfl
    have hb : 0 ≤ t ∧ t ≤ 1099511627776 := by simpa [isT] using ht
    obtain ⟨b0, b1⟩ := hb
    have a0 : ¬ t < 0 := by omega
    have a1 : ¬ 1099511627776 < t := by omega
    have H := (show Hid _ from PtW.refl h)
    have c11 := h.cell 11 _ rfl
    have c12 := h.cell 12 _ rfl
    have c13 := h.cell 13 _ rfl
    have f11 := h.free 11
    have f12 := h.free 12
    have f13 := h.free 13
    clear h
    go_enter Try.func29, Try.ntmps29
    go_wp2
    go_ret
    exact ⟨by rw [e1.out]; rfl, by rw [e2.out]; exact ((H.out.set 11 _).set 12 _).set 13 _⟩
end Go.Proofs.Yteobibinfckmdaa
