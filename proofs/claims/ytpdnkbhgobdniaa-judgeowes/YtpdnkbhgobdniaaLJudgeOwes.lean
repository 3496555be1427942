/- Whatever marks, host and tags: the walk of law19.JudgeOwes ends with true. -/
import Derived.Test.YtpdnkbhgobdniaaJdQ
namespace Go.Proofs.Ytpdnkbhgobdniaa
open Go.RowKit Go.MapKept Go.Maps
set_option maxRecDepth 100000 in
set_option maxHeartbeats 4000000 in
theorem walk_JudgeOwes (a : Option Addr) (ln c : Nat) (dd : List Mk) (h : Int) (t0 t1 : Nat) (w : World) (hl : SlM w a ln c dd) (hh : (Lit.int .i64 h).wf = true) (ht0 : t0 < 4294967296) (ht1 : t1 < 4294967296) :
    Calls Try.prog 4 #[.slice a ln c, .int .i64 h, .agg #[.int .u32 (t0 : Nat), .int .u32 (t1 : Nat)]] w fun e w' => e = .returned (.bool true) ∧ Below w.heap.size w w' := by
  have HK : Hid (SdK (h, t0, t1)) := ⟨hh, ht0, ht1⟩
  clear hh ht0 ht1
  go_enter Try.func4, Try.ntmps4
  go_wp2_with fail
  obtain ⟨W, hW⟩ : ∃ W, W = w.alloc (.cells #[.int .u32 (t0 : Nat), .int .u32 (t1 : Nat)] 30) := ⟨_, rfl⟩
  have hbW : Below w.heap.size w W := by rw [hW]; exact (Below.refl _ _).alloc (Nat.le_refl _) _
  have HR : Hid (W.rangeAt w.heap.size 0 [.int .u32 (t0 : Nat), .int .u32 (t1 : Nat)]) := by
    show World.rangeAt _ _ _ _
    rw [hW]
    exact range_new w [.int .u32 (t0 : Nat), .int .u32 (t1 : Nat)] 30 _ rfl
  have hzW : w.heap.size < W.heap.size := by rw [hW]; simp
  rw [← hW]
  clear hW
  refine (short_any a ln c dd W (hl.below hbW)).mono ?_
  rintro e w1 ⟨⟨m, rfl, hm1, hm2, hS⟩, rfl⟩
  clear hl
  generalize dd.take m = ds at hS
  clear dd
  have HQ := (show Hid _ from jud_jdg ds)
  have c0 : w1.cell? ⟨w.heap.size, 0, none⟩ = some (.int .u32 (t0 : Nat)) := HR.out 0 _ rfl
  have c1 : w1.cell? ⟨w.heap.size, 1, none⟩ = some (.int .u32 (t1 : Nat)) := HR.out 1 _ rfl
  obtain ⟨E, HE⟩ : ∃ E, Hid (E = (jdg ds).2.1) := ⟨_, rfl⟩
  obtain ⟨on, HON⟩ : ∃ on, Hid (on = (owd ds (h, t0, t1)).1) := ⟨_, rfl⟩
  obtain ⟨ok, HOK⟩ : ∃ ok, Hid (ok = (owd ds (h, t0, t1)).2) := ⟨_, rfl⟩
  go_wp2_with fail
  refine (owed_any a m c ds (h, t0, t1) HK.out _ hS (by omega) _ rfl).mono ?_
  rintro e w2 ⟨rfl, hb2⟩
  rw [← HON.out, ← HOK.out]
  have HS2 := (show Hid _ from hS.below hb2)
  clear hS c0 c1
  go_wp2_with fail
  refine (rjudge_any a m c ds _ HS2.out (by omega) _ rfl).mono ?_
  rintro e w3 ⟨rfl, hb3⟩
  rw [HQ.out.2.1, ← HE.out]
  generalize (judF [] ds).1 = n1
  have hb13 := hb2.trans (hb3.mono hb2.size)
  have hbw := hbW.trans (hb13.mono hbW.size)
  have HS3 := (show Hid _ from HS2.out.below hb3)
  have hz3 : w.heap.size < w3.heap.size := Nat.lt_of_lt_of_le hzW hb13.size
  have HR3 := (show Hid _ from range_below HR.out hb13 hzW)
  clear hb2 hb3 HS2 hb13 hbW HR hzW
  by_cases h0 : E = 0
  · obtain ⟨X, hX⟩ : ∃ X, X = leftJ ds (h, t0, t1) := ⟨_, rfl⟩
    have e1 : on = (X.length : Nat) := by
      rw [HON.out, hX]
      unfold owd
      rw [← HE.out, if_pos h0]
      exact (HQ.out.2.2 (by rw [← HE.out]; exact h0)).owed _
    have e2 : ok = true := by
      rw [HOK.out]
      unfold owd
      rw [← HE.out, if_pos h0]
    subst e1 e2 h0
    have HX := (show Hid _ from hX)
    clear hX HON HOK
    go_wp2_with (first | (go_at_call 12; refine (live19_any _).mono ?_; rintro e w4 ⟨rfl, hb4⟩; have c0 : w4.cell? ⟨w.heap.size, 0, none⟩ = some (.int .u32 (t0 : Nat)) := range_below HR3.out hb4 hz3 0 _ rfl; have c1 : w4.cell? ⟨w.heap.size, 1, none⟩ = some (.int .u32 (t1 : Nat)) := range_below HR3.out hb4 hz3 1 _ rfl; have HS4 := (show Hid _ from HS3.out.below hb4); have hbw4 := hbw.trans (hb4.mono hbw.size); clear hb4 hbw) | (go_at_call 14; refine (rleft_any a m c ds (h, t0, t1) _ HS4.out (by omega) _ rfl).mono ?_; rintro e w5 ⟨⟨la, l5, lc, rfl, hO⟩, hb5⟩; obtain rfl : l5 = X.length := (by rw [HX.out]; exact hO.len.symm); clear hO; have hbw5 := hbw4.trans (hb5.mono hbw4.size); clear hb5 hbw4 c0 c1) | fail)
    go_ret
    exact ⟨rfl, hbw5⟩
  · have q0 : (E != 0) = true := by simpa using h0
    have e1 : on = 0 := by
      rw [HON.out]
      unfold owd
      rw [← HE.out, if_neg h0]
    have e2 : ok = false := by
      rw [HOK.out]
      unfold owd
      rw [← HE.out, if_neg h0]
    subst e1 e2
    clear h0 HON HOK
    go_wp2_with (first | (go_at_call 12; refine (live19_any _).mono ?_; rintro e w4 ⟨rfl, hb4⟩) | fail)
    go_ret
    exact ⟨rfl, hbw.trans (hb4.mono hbw.size)⟩
end Go.Proofs.Ytpdnkbhgobdniaa
