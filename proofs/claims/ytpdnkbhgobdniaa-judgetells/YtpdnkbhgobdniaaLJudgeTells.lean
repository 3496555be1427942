/- Whatever marks: the walk of law19.JudgeTells ends with true. -/
import Derived.Test.YtpdnkbhgobdniaaJdQ
namespace Go.Proofs.Ytpdnkbhgobdniaa
open Go.RowKit Go.MapKept Go.Maps
set_option maxRecDepth 100000 in
set_option maxHeartbeats 4000000 in
theorem walk_JudgeTells (a : Option Addr) (ln c : Nat) (dd : List Mk) (w : World) (hl : SlM w a ln c dd) :
    Calls Try.prog 3 #[.slice a ln c] w fun e w' => e = .returned (.bool true) ∧ Below w.heap.size w w' := by
  go_enter Try.func3, Try.ntmps3
  go_wp2_with fail
  refine (short_any a ln c dd w hl).mono ?_
  rintro e w1 ⟨⟨m, rfl, hm1, hm2, hS⟩, rfl⟩
  clear hl
  generalize dd.take m = ds at hS
  clear dd
  have HQ := (show Hid _ from jud_jdg ds)
  obtain ⟨N, HN⟩ : ∃ N, Hid (N = (jdg ds).1) := ⟨_, rfl⟩
  obtain ⟨E, HE⟩ : ∃ E, Hid (E = (jdg ds).2.1) := ⟨_, rfl⟩
  go_wp2_with fail
  refine (judge_any a m c ds _ hS (by omega) _ rfl).mono ?_
  rintro e w2 ⟨rfl, hb2⟩
  rw [← HN.out, ← HE.out]
  have HS2 := (show Hid _ from hS.below hb2)
  clear hS
  go_wp2_with fail
  refine (rjudge_any a m c ds _ HS2.out (by omega) _ rfl).mono ?_
  rintro e w3 ⟨rfl, hb3⟩
  rw [HQ.out.1, HQ.out.2.1, ← HN.out, ← HE.out]
  have hbw := hb2.trans (hb3.mono hb2.size)
  clear hb2 hb3 HS2
  go_wp2_with (first | (go_at_call 12; refine (live19_any _).mono ?_; rintro e w4 ⟨rfl, hb4⟩) | fail)
  go_ret
  exact ⟨rfl, hbw.trans (hb4.mono hbw.size)⟩
end Go.Proofs.Ytpdnkbhgobdniaa
