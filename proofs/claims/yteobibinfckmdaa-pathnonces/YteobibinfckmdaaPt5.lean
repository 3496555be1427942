/- What path.Answer does. -/
import Derived.Test.YteobibinfckmdaaPt3
namespace Go.Proofs.Yteobibinfckmdaa
open Go.RowKit
set_option maxHeartbeats 1000000 in
theorem answer_any (k p : Nat) (s : Ps) (n : Nat) (t : Int) (w : World) (h : Stc w p s.cs) (hk : Pok k s) (v1 v2 : Value) (hv1 : v1 = .int .u64 (n : Nat)) (hv2 : v2 = .int .i64 t) :
    Calls Try.prog 20 #[.pointer (some ⟨p, 0, none⟩), v1, v2] w (PtP w p (.tuple #[.bool (s.hit n t), .int .i64 (smE t : Nat)]) (s.answer n t 0 0).cs) := by
  subst hv1 hv2
  cases ht : isT t
  · have e1 : Hid (smE t = 2) := by show _ = _; unfold smE; rw [ht]; rfl
    have e0 : Hid (s.hit n t = false) := by show _ = _; unfold Ps.hit; rw [ht]; rfl
    have e2 : Hid (s.answer n t 0 0 = s) := by show _ = _; unfold Ps.answer; rw [e0.out]; rfl
    have hm := isTick_any t w
    rw [ht] at hm
    go_enter Try.func20, Try.ntmps20
    go_wp2_with fail
    refine hm.mono ?_
    rintro e w1 ⟨rfl, hw1⟩
    subst w1
    go_wp2
    go_ret2
    exact ⟨by rw [e0.out, e1.out]; rfl, by rw [e2.out]; exact PtW.refl h⟩
  have hT : 0 ≤ t ∧ t ≤ 1099511627776 := by simpa [isT] using ht
  obtain ⟨t0, t1⟩ := hT
  have e1 : Hid (smE t = 0) := by show _ = _; unfold smE; rw [ht]; rfl
  have hm := isTick_any t w
  rw [ht] at hm
  have H := (show Hid _ from PtW.refl h)
  have c8 := h.cell 8 _ rfl
  have c11 := h.cell 11 _ rfl
  have c12 := h.cell 12 _ rfl
  have c13 := h.cell 13 _ rfl
  have f8 := h.free 8
  have f11 := h.free 11
  have f12 := h.free 12
  have f13 := h.free 13
  have hlt := h.lt
  have g1 := hk.t0
  have g2 := hk.t1
  cases hh : s.hit n t
  · have e2 : Hid (s.answer n t 0 0 = s) := by show _ = _; unfold Ps.answer; rw [hh]; rfl
    clear h hk
    have HA : Hid (PtW w p s.cs (w.alloc (.cells #[.bool s.fly, .int .u64 (s.nonce : Nat), .int .i64 s.since] 61))) := H.out.below ((Below.refl _ _).alloc (Nat.le_refl _) _)
    unfold Ps.hit at hh
    rw [ht] at hh
    cases hfl : s.fly
    · rw [hfl] at c11 HA
      clear hh
      go_enter Try.func20, Try.ntmps20
      go_wp2_with fail
      refine hm.mono ?_
      rintro e w1 ⟨rfl, hw1⟩
      subst w1
      go_wp2
      go_ret2
      exact ⟨by rw [e1.out]; rfl, by rw [e2.out]; exact HA.out⟩
    · rw [hfl] at c11 HA
      rw [hfl] at hh
      by_cases hn : s.nonce = n
      · have hsi : ¬ s.since ≤ t := by
          intro hle
          rw [decide_eq_true hn, decide_eq_true hle] at hh
          cases hh
        have hsi2 : t < s.since := by omega
        clear hh hsi
        rw [hn] at c12 HA
        go_enter Try.func20, Try.ntmps20
        go_wp2_with fail
        refine hm.mono ?_
        rintro e w1 ⟨rfl, hw1⟩
        subst w1
        go_wp2
        go_ret2
        exact ⟨by rw [e1.out]; rfl, by rw [e2.out]; exact HA.out⟩
      · have hn2 : ¬ (s.nonce : Int) = (n : Int) := by omega
        clear hh
        go_enter Try.func20, Try.ntmps20
        go_wp2_with fail
        refine hm.mono ?_
        rintro e w1 ⟨rfl, hw1⟩
        subst w1
        go_wp2
        go_ret2
        exact ⟨by rw [e1.out]; rfl, by rw [e2.out]; exact HA.out⟩
  · have hh2 := hh
    unfold Ps.hit at hh2
    rw [ht] at hh2
    have hfl : s.fly = true := by
      cases hfl : s.fly
      · rw [hfl] at hh2; cases hh2
      · rfl
    rw [hfl] at hh2
    have hn : s.nonce = n := by
      by_cases hn : s.nonce = n
      · exact hn
      · rw [decide_eq_false hn] at hh2; cases hh2
    have hsi : s.since ≤ t := by
      by_cases hsi : s.since ≤ t
      · exact hsi
      · rw [decide_eq_false hsi] at hh2; simp at hh2
    clear hh2
    have e2 : Hid (s.answer n t 0 0 = ({ s with fly := false, nonce := 0, since := 0, sure := true }.good).sample (t - s.since)) := by show _ = _; unfold Ps.answer; rw [hh]; rfl
    have hkq : Pok k { s with fly := false, nonce := 0, since := 0, sure := true } := ⟨hk.m0, hk.m1, hk.w0, hk.w1, hk.s0, hk.s1, hk.p0, hk.p1, hk.r0, hk.r1, hk.e0, hk.e1, hk.d0, hk.d1, hk.f0, hk.f1, by dsimp only; omega, by dsimp only; omega, by dsimp only; omega⟩
    have HA : ∀ o, PtW w p { s with fly := false, nonce := 0, since := 0, sure := true }.cs (((((w.setCell ⟨p, 11, none⟩ (.bool false)).setCell ⟨p, 12, none⟩ (.int .u64 0)).setCell ⟨p, 13, none⟩ (.int .i64 0)).setCell ⟨p, 8, none⟩ (.bool true)).alloc o) := fun o => ((((H.out.set 11 _).set 12 _).set 13 _).set 8 _).below ((Below.refl _ _).alloc (Nat.le_refl _) _)
    have HA := (show Hid _ from HA)
    rw [hfl] at c11
    rw [hn] at c12
    have HK1 : Hid (∀ o, (((((w.setCell ⟨p, 11, none⟩ (.bool false)).setCell ⟨p, 12, none⟩ (.int .u64 0)).setCell ⟨p, 13, none⟩ (.int .i64 0)).setCell ⟨p, 8, none⟩ (.bool true)).alloc o).heap.size = w.heap.size + 1) := fun o => by simp [World.setCell]
    clear h hk
    go_enter Try.func20, Try.ntmps20
    go_wp2_with fail
    refine hm.mono ?_
    rintro e w1 ⟨rfl, hw1⟩
    subst w1
    go_wp2_with fail
    have HB := HA.out (.cells #[.bool true, .int .u64 (n : Nat), .int .i64 s.since] 61)
    have hz := HK1.out (.cells #[.bool true, .int .u64 (n : Nat), .int .i64 s.since] 61)
    have hc : (((((w.setCell ⟨p, 11, none⟩ (.bool false)).setCell ⟨p, 12, none⟩ (.int .u64 0)).setCell ⟨p, 13, none⟩ (.int .i64 0)).setCell ⟨p, 8, none⟩ (.bool true)).alloc (.cells #[.bool true, .int .u64 (n : Nat), .int .i64 s.since] 61)).cell? ⟨w.heap.size, 2, none⟩ = some (.int .i64 s.since) := by
      have hzz : (((((w.setCell ⟨p, 11, none⟩ (.bool false)).setCell ⟨p, 12, none⟩ (.int .u64 0)).setCell ⟨p, 13, none⟩ (.int .i64 0)).setCell ⟨p, 8, none⟩ (.bool true))).heap.size = w.heap.size := by simp [World.setCell]
      rw [← hzz, World.cell?_alloc_mark]; rfl
    obtain ⟨W, hW⟩ : ∃ W, W = ((((w.setCell ⟨p, 11, none⟩ (.bool false)).setCell ⟨p, 12, none⟩ (.int .u64 0)).setCell ⟨p, 13, none⟩ (.int .i64 0)).setCell ⟨p, 8, none⟩ (.bool true)).alloc (.cells #[.bool true, .int .u64 (n : Nat), .int .i64 s.since] 61) := ⟨_, rfl⟩
    rw [← hW] at HB hz hc ⊢
    clear hW HA HK1 c8 c11 c12 c13 f8 f11 f12 f13 H
    refine (good_any p _ W HB.st).mono ?_
    rintro e w2 ⟨rfl, h2⟩
    have c2 := (h2.fr.cell ⟨w.heap.size, 2, none⟩ (by show w.heap.size < _; omega) (by show ¬ w.heap.size = p; omega)).trans hc
    have h3 := HB.trans h2
    clear hc hz HB h2
    have hq := sample_any k p _ (t - s.since) w2 h3.st (pok_good hkq) _ rfl
    have h3 := (show Hid _ from h3)
    clear hkq
    go_wp2_with fail
    refine hq.mono ?_
    rintro e w3 ⟨rfl, h4⟩
    have h5 := (show Hid _ from h3.out.trans h4)
    clear h4 hq c2
    go_wp2
    go_ret2
    exact ⟨by rw [e1.out]; rfl, by rw [e2.out]; exact h5.out⟩
end Go.Proofs.Yteobibinfckmdaa
