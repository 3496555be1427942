/- What the reference's Sample does to a way. -/
import Derived.Test.YteobibinfckmdaaPtR1
namespace Go.Proofs.Yteobibinfckmdaa
open Go.RowKit
set_option maxHeartbeats 8000000 in
theorem rsample_pos (k p : Nat) (s : Ps) (t : Int) (w : World) (h : Stc w p s.cs) (hk : Pok k s) (ht : isT t = true) (ha : s.any = true) (h6 : t ≤ 600) (hd : ¬ t - s.mean / 8 < 0) (v : Value) (hv : v = .int .i64 t) :
    Calls Try.prog 23 #[.pointer (some ⟨p, 0, none⟩), v] w (PtP w p (.int .i64 0) (s.meas (min t 600)).rtoed.cs) := by
  subst hv
  have hb : 0 ≤ t ∧ t ≤ 1099511627776 := by simpa [isT] using ht
  obtain ⟨b0, b1⟩ := hb
  have a0 : ¬ t < 0 := by omega
  have a1 : ¬ 1099511627776 < t := by omega
  have H := (show Hid _ from PtW.refl h)
  have c3 := h.cell 3 _ rfl
  have c4 := h.cell 4 _ rfl
  have c5 := h.cell 5 _ rfl
  have c10 := h.cell 10 _ rfl
  have f3 := h.free 3
  have f4 := h.free 4
  have f5 := h.free 5
  have f10 := h.free 10
  have HKQ := (show Hid _ from pok_meas hk (min t 600) (by omega) (by omega))
  rw [ha] at c10
  have g1 := hk.e0
  have g2 := hk.e1
  have g3 := hk.d0
  have g4 := hk.d1
  clear h hk
  have hdm := fun (V : World) => down_any s.mean 8 V g1 (by omega) (.inl rfl) _ _ rfl rfl
  have hds := fun (V : World) => down_any s.spread 4 V g3 (by omega) (.inr rfl) _ _ rfl rfl
  have h6' : ¬ 600 < t := by omega
  have HM : Hid (∀ V x y, PtW w p s.cs V → x = s.mean + (t - s.mean / 8) → y = s.spread + (max (t - s.mean / 8) (-(t - s.mean / 8)) - s.spread / 4) → PtW w p (s.meas (min t 600)).cs ((V.setCell ⟨p, 4, none⟩ (.int .i64 x)).setCell ⟨p, 5, none⟩ (.int .i64 y))) := by
    show ∀ _, _
    intro V x y hV hx hy
    have : s.meas (min t 600) = { s with mean := x, spread := y } := by unfold Ps.meas; rw [if_pos ha, show min t 600 = t by omega, hx, hy]
    rw [this]
    exact (hV.set 4 _).set 5 _
  have HDD : Hid (0 ≤ (t - s.mean / 8) ∧ (t - s.mean / 8) ≤ 600) := ⟨by omega, by omega⟩
  have HX : Hid (IntKind.i64.wrap (IntKind.i64.wrap (s.spread + (t - s.mean / 8)) - s.spread / 4) = s.spread + (t - s.mean / 8) - s.spread / 4) := by show _ = _; rw [IntWalk.i64_in (s.spread + (t - s.mean / 8)) (by omega), IntWalk.i64_in (s.spread + (t - s.mean / 8) - s.spread / 4) (by omega)]
  go_enter Try.func23, Try.ntmps23
  go_wp2_with fail
  refine (hdm _).mono ?_
  rintro e wd ⟨rfl, hwd⟩
  subst wd
  go_wp2
  have c5' : (w.setCell ⟨p, 4, none⟩ (.int .i64 (s.mean + (t - s.mean / 8)))).cell? ⟨p, 5, none⟩ = some (.int .i64 s.spread) := (World.cell?_setCell_other _ _ _ _ (by intro e2; injection e2 with _ e3; omega)).trans c5
  obtain ⟨d0, d1⟩ := HDD.out
  go_region_with (go_at_call 36; refine (hds _).mono ?_; rintro e wd ⟨rfl, hwd⟩; subst wd)
  all_goals
    have HW := (show Hid _ from (HM.out w (s.mean + (t - s.mean / 8)) (s.spread + (t - s.mean / 8) - s.spread / 4) H.out rfl (by omega)).drew)
    rw [HX.out]
    clear H HM c5'
    obtain ⟨Q, hQ⟩ : ∃ Q, Q = s.meas (min t 600) := ⟨_, rfl⟩
    rw [← hQ] at HW HKQ
    have HQ := (show Hid _ from hQ)
    clear hQ
    have hW := HW.out
    have hkq := HKQ.out
    obtain ⟨W, hWW⟩ : ∃ W, W = ((w.setCell ⟨p, 4, none⟩ (.int .i64 (s.mean + (t - s.mean / 8)))).setCell ⟨p, 5, none⟩ (.int .i64 (s.spread + (t - s.mean / 8) - s.spread / 4))).drew := ⟨_, rfl⟩
    rw [← hWW] at hW ⊢
    clear hWW HW
    have c3 := hW.st.cell 3 _ rfl
    have c4 := hW.st.cell 4 _ rfl
    have c5 := hW.st.cell 5 _ rfl
    have f3 := hW.st.free 3
    have HW := (show Hid _ from hW)
    have q1 := hkq.e0
    have q2 := hkq.e1
    have q3 := hkq.d0
    have q4 := hkq.d1
    have hdn := fun (V : World) => down_any Q.mean 8 V q1 (by omega) (.inl rfl) _ _ rfl rfl
    have HV : Hid (wrap64 (Q.mean / 8 + Q.spread) = Q.mean / 8 + Q.spread) := by show _ = _; rw [IntWalk.wrap64_in (Q.mean / 8 + Q.spread) (by omega)]
    have HF : Hid (∀ V x, PtW w p Q.cs V → x = max 10 (min (Q.mean / 8 + Q.spread) 600) → PtW w p (s.meas (min t 600)).rtoed.cs (V.setCell ⟨p, 3, none⟩ (.int .i64 x)) ∧ PtW w p (s.meas (min t 600)).rtoed.cs ((V.setCell ⟨p, 3, none⟩ (.int .i64 (Q.mean / 8 + Q.spread))).setCell ⟨p, 3, none⟩ (.int .i64 x))) := by
      show ∀ _, _
      intro V x hV hx
      rw [← HQ.out, hx]
      exact ⟨hV.set 3 _, (hV.set 3 _).set 3 _⟩
    clear hW hkq HKQ f4 f5 f10 c10
    go_wp2
    go_region_with (go_at_call 36; refine (hdn _).mono ?_; rintro e wd ⟨rfl, hwd⟩; subst wd)
    all_goals
      generalize hr : Q.mean / 8 + Q.spread = r at *
      by_cases r1 : r < 10
      · have r2 : ¬ 600 < r := by omega
        have r3 : ¬ 600 < (10 : Int) := by omega
        go_wp2
        go_ret
        exact ⟨rfl, (HF.out W 10 HW.out (by omega)).2.drew⟩
      · by_cases r2 : 600 < r
        · go_wp2
          go_ret
          exact ⟨rfl, (HF.out W 600 HW.out (by omega)).2.drew⟩
        · go_wp2
          go_ret
          exact ⟨rfl, (HF.out W r HW.out (by omega)).1.drew⟩
end Go.Proofs.Yteobibinfckmdaa
