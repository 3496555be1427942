/- What the reference's Sample and Answer do to a way, whatever time. -/
import Derived.Test.YteobibinfckmdaaPtR2
import Derived.Test.YteobibinfckmdaaPtR2b
import Derived.Test.YteobibinfckmdaaPtR2c
import Derived.Test.YteobibinfckmdaaPtR2d
import Derived.Test.YteobibinfckmdaaPtR3
namespace Go.Proofs.Yteobibinfckmdaa
open Go.RowKit
theorem rsample_any (k p : Nat) (s : Ps) (t : Int) (w : World) (h : Stc w p s.cs) (hk : Pok k s) (v : Value) (hv : v = .int .i64 t) :
    Calls Try.prog 23 #[.pointer (some ⟨p, 0, none⟩), v] w (PtP w p (.int .i64 (smE t : Nat)) (s.sample t).cs) := by
  cases ht : isT t
  · have e1 : smE t = 2 := by unfold smE; rw [ht]; rfl
    have e2 : s.sample t = s := by unfold Ps.sample; rw [ht]; rfl
    rw [e1, e2]
    exact rsample_no p s t w h ht v hv
  · have e1 : smE t = 0 := by unfold smE; rw [ht]; rfl
    have e2 : s.sample t = (s.meas (min t 600)).rtoed := by unfold Ps.sample; rw [ht]; rfl
    rw [e1, e2]
    cases ha : s.any
    · exact rsample_new k p s t w h hk ht ha v hv
    · by_cases h6 : 600 < t
      · exact rsample_hi k p s t w h hk ht ha h6 v hv
      · by_cases hd : t - s.mean / 8 < 0
        · exact rsample_neg k p s t w h hk ht ha (by omega) hd v hv
        · exact rsample_pos k p s t w h hk ht ha (by omega) hd v hv
set_option maxHeartbeats 1000000 in
theorem ranswer_any (k p : Nat) (s : Ps) (n : Nat) (t : Int) (w : World) (h : Stc w p s.cs) (hk : Pok k s) (v1 v2 : Value) (hv1 : v1 = .int .u64 (n : Nat)) (hv2 : v2 = .int .i64 t) :
    Calls Try.prog 30 #[.pointer (some ⟨p, 0, none⟩), v1, v2] w (PtP w p (.tuple #[.bool (s.hit n t), .int .i64 (smE t : Nat)]) (s.answer n t s.nonce s.since).cs) := by
  subst hv1 hv2
  cases ht : isT t
  · have e1 : Hid (smE t = 2) := by show _ = _; unfold smE; rw [ht]; rfl
    have e0 : Hid (s.hit n t = false) := by show _ = _; unfold Ps.hit; rw [ht]; rfl
    have e2 : Hid (s.answer n t s.nonce s.since = s) := by show _ = _; unfold Ps.answer; rw [e0.out]; rfl
    have hb : ¬ (0 ≤ t ∧ t ≤ 1099511627776) := by simpa [isT] using ht
    by_cases h0 : t < 0
    · go_enter Try.func30, Try.ntmps30
      go_wp2
      go_ret2
      exact ⟨by rw [e0.out, e1.out]; rfl, by rw [e2.out]; exact PtW.refl h⟩
    · have h1 : 1099511627776 < t := by omega
      go_enter Try.func30, Try.ntmps30
      go_wp2
      go_ret2
      exact ⟨by rw [e0.out, e1.out]; rfl, by rw [e2.out]; exact PtW.refl h⟩
  have hT : 0 ≤ t ∧ t ≤ 1099511627776 := by simpa [isT] using ht
  obtain ⟨t0, t1⟩ := hT
  have a0 : ¬ t < 0 := by omega
  have a1 : ¬ 1099511627776 < t := by omega
  have e1 : Hid (smE t = 0) := by show _ = _; unfold smE; rw [ht]; rfl
  have H := (show Hid _ from PtW.refl h)
  have c8 := h.cell 8 _ rfl
  have c11 := h.cell 11 _ rfl
  have c12 := h.cell 12 _ rfl
  have c13 := h.cell 13 _ rfl
  have f8 := h.free 8
  have f11 := h.free 11
  have hlt := h.lt
  have g1 := hk.t0
  have g2 := hk.t1
  cases hh : s.hit n t
  · have e2 : Hid (s.answer n t s.nonce s.since = s) := by show _ = _; unfold Ps.answer; rw [hh]; rfl
    clear h hk
    unfold Ps.hit at hh
    rw [ht] at hh
    cases hfl : s.fly
    · rw [hfl] at c11
      clear hh
      go_enter Try.func30, Try.ntmps30
      go_wp2
      go_ret2
      exact ⟨by rw [e1.out]; rfl, by rw [e2.out]; exact H.out⟩
    · rw [hfl] at c11
      rw [hfl] at hh
      by_cases hn : s.nonce = n
      · have hsi : ¬ s.since ≤ t := by
          intro hle
          rw [decide_eq_true hn, decide_eq_true hle] at hh
          cases hh
        have hsi2 : t < s.since := by omega
        clear hh hsi
        rw [hn] at c12
        clear hn
        go_enter Try.func30, Try.ntmps30
        go_wp2
        go_ret2
        exact ⟨by rw [e1.out]; rfl, by rw [e2.out]; exact H.out⟩
      · have hn2 : ¬ (s.nonce : Int) = (n : Int) := by omega
        clear hh
        go_enter Try.func30, Try.ntmps30
        go_wp2
        go_ret2
        exact ⟨by rw [e1.out]; rfl, by rw [e2.out]; exact H.out⟩
  · have hh2 := hh
    unfold Ps.hit at hh2
    rw [ht] at hh2
    have hfl : s.fly = true := by
      cases hfl : s.fly
      · rw [hfl] at hh2; cases hh2
      · rfl
    rw [hfl] at hh2
    have hn : s.nonce = n := by
      by_cases hn : s.nonce = n
      · exact hn
      · rw [decide_eq_false hn] at hh2; cases hh2
    have hsi : s.since ≤ t := by
      by_cases hsi : s.since ≤ t
      · exact hsi
      · rw [decide_eq_false hsi] at hh2; simp at hh2
    clear hh2
    have e2 : Hid (s.answer n t s.nonce s.since = ({ s with fly := false, sure := true }.good).sample (t - s.since)) := by show _ = _; unfold Ps.answer; rw [hh]; rfl
    have hkq : Pok k { s with fly := false, sure := true } := ⟨hk.m0, hk.m1, hk.w0, hk.w1, hk.s0, hk.s1, hk.p0, hk.p1, hk.r0, hk.r1, hk.e0, hk.e1, hk.d0, hk.d1, hk.f0, hk.f1, hk.t0, hk.t1, hk.n1⟩
    have HA : PtW w p { s with fly := false, sure := true }.cs ((w.setCell ⟨p, 11, none⟩ (.bool false)).setCell ⟨p, 8, none⟩ (.bool true)) := (H.out.set 11 _).set 8 _
    have HA := (show Hid _ from HA)
    have hsi2 : ¬ t < s.since := by omega
    rw [hfl] at c11
    rw [hn] at c12
    clear h hk hn
    go_enter Try.func30, Try.ntmps30
    go_wp2_with fail
    have HB := HA.out
    obtain ⟨W, hW⟩ : ∃ W, W = (w.setCell ⟨p, 11, none⟩ (.bool false)).setCell ⟨p, 8, none⟩ (.bool true) := ⟨_, rfl⟩
    rw [← hW] at HB ⊢
    clear hW HA c8 c11 c12 c13 f8 f11 H
    refine (rgood_any p _ W HB.st).mono ?_
    rintro e w2 ⟨rfl, h2⟩
    have h3 := HB.trans h2
    clear HB h2
    have c13 : w2.cell? ⟨p, 13, none⟩ = some (.int .i64 s.since) := h3.st.cell 13 _ rfl
    have hq := rsample_any k p _ (t - s.since) w2 h3.st (pok_good hkq) _ rfl
    have h3 := (show Hid _ from h3)
    clear hkq
    go_wp2_with fail
    refine hq.mono ?_
    rintro e w3 ⟨rfl, h4⟩
    have h5 := (show Hid _ from h3.out.trans h4)
    clear h4 hq c13
    go_wp2
    go_ret2
    exact ⟨by rw [e1.out]; rfl, by rw [e2.out]; exact h5.out⟩
end Go.Proofs.Yteobibinfckmdaa
