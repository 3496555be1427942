/- Whatever marks and number: the walk of law19.JudgeBegins ends with true. -/
import Derived.Test.YtpdnkbhgobdniaaJdLive
namespace Go.Proofs.Ytpdnkbhgobdniaa
open Go.RowKit Go.MapKept Go.Maps
theorem hear_take (dd : List Mk) : ∀ (cp : Cp) (k : Nat), k ≤ dd.length →
    (k ≤ (hearJ cp dd).1 → (hearJ cp (dd.take k)).1 = k ∧ (hearJ cp (dd.take k)).2.1 = 0) ∧ (¬ k ≤ (hearJ cp dd).1 → (hearJ cp (dd.take k)).1 = (hearJ cp dd).1 ∧ (hearJ cp (dd.take k)).2.1 = (hearJ cp dd).2.1) := by
  induction dd with
  | nil => intro cp k hk; simp at hk; subst hk; simp [hearJ]
  | cons x dd ih =>
    intro cp k hk
    cases k with
    | zero => simp [hearJ]
    | succ k =>
      rw [List.take_succ_cons, hearJ, hearJ]
      by_cases h : (takeJ cp x).2 = 0
      · rw [if_pos h, if_pos h]
        have hh := ih (takeJ cp x).1 k (by simpa using hk)
        dsimp only
        refine ⟨fun h1 => ?_, fun h1 => ?_⟩
        · have := hh.1 (by omega)
          exact ⟨by rw [this.1], this.2⟩
        · have := hh.2 (by omega)
          exact ⟨by rw [this.1], this.2⟩
      · rw [if_neg h, if_neg h]
        refine ⟨fun h1 => ?_, fun _ => ⟨rfl, rfl⟩⟩
        dsimp only at h1
        omega
theorem hear_le (dd : List Mk) : ∀ (cp : Cp), (hearJ cp dd).1 ≤ dd.length := by
  induction dd with
  | nil => intro cp; simp [hearJ]
  | cons x dd ih =>
    intro cp
    rw [hearJ]
    split
    · have := ih (takeJ cp x).1
      simp
      exact this
    · simp
set_option maxRecDepth 100000 in
set_option maxHeartbeats 4000000 in
theorem walk_JudgeBegins (a : Option Addr) (ln c : Nat) (dd : List Mk) (k : Nat) (w : World) (hl : SlM w a ln c dd) (hk : k < 256) :
    Calls Try.prog 5 #[.slice a ln c, .int .u8 (k : Nat)] w fun e w' => e = .returned (.bool true) ∧ Below w.heap.size w w' := by
  go_enter Try.func5, Try.ntmps5
  go_wp2_with fail
  refine (short_any a ln c dd w hl).mono ?_
  rintro e w1 ⟨⟨m, rfl, hm1, hm2, hS⟩, rfl⟩
  clear hl
  generalize dd.take m = ds at hS
  clear dd
  obtain ⟨at_, hat⟩ : ∃ at_, at_ = k % (m + 1) := ⟨_, rfl⟩
  have hatm : at_ ≤ m := by have := Nat.mod_lt k (show 0 < m + 1 by omega); omega
  have hli := hS.len
  obtain ⟨N, hN⟩ : ∃ N, N = (jdg ds).1 := ⟨_, rfl⟩
  obtain ⟨E, hE⟩ : ∃ E, E = (jdg ds).2.1 := ⟨_, rfl⟩
  have hNm : N ≤ m := by rw [hN, ← hli]; exact hear_le ds _
  have HT := (show Hid _ from hear_take ds (fun _ => Bp.empty) at_ (by omega))
  go_wp2_with fail
  refine (judge_any a m c ds _ hS (by omega) _ rfl).mono ?_
  rintro e w2 ⟨rfl, hb2⟩
  rw [← hN, ← hE]
  have hS2 := hS.below hb2
  have HN := (show Hid _ from And.intro hN hE)
  clear hN hE hS
  have hcap := hS2.cap
  have hsm := hS2.small
  have hk0 : (0 : Int) ≤ ((k : Nat) : Int) := by omega
  have hk1 : ((k : Nat) : Int) < 256 := by omega
  have hmod : (k : Int) % ((m : Int) + 1) = (at_ : Int) := by rw [hat, Int.natCast_emod]; rfl
  have ham : (at_ : Int) ≤ (m : Int) := by omega
  have hac : (at_ : Int) ≤ (c : Int) := by omega
  clear hat hk
  have HS := (show Hid _ from hS2.take at_ hatm)
  go_wp2_with fail
  rw [hmod]
  refine (judge_any a at_ c (ds.take at_) _ HS.out (by omega) _ rfl).mono ?_
  rintro e w3 ⟨rfl, hb3⟩
  have hbw := hb2.trans (hb3.mono hb2.size)
  clear hb2 hb3 HS hS2 hmod
  obtain ⟨N2, hN2⟩ : ∃ N2, N2 = (jdg (ds.take at_)).1 := ⟨_, rfl⟩
  obtain ⟨E2, hE2⟩ : ∃ E2, E2 = (jdg (ds.take at_)).2.1 := ⟨_, rfl⟩
  rw [← hN2, ← hE2]
  by_cases hle : at_ ≤ N
  · obtain ⟨h1, h2⟩ := HT.out.1 (by have := HN.out.1; unfold jdg at this; omega)
    obtain rfl : at_ = N2 := by rw [hN2]; exact h1.symm
    obtain rfl : 0 = E2 := by rw [hE2]; exact h2.symm
    have hle1 : (at_ : Int) ≤ (N : Int) := by omega
    clear hN2 hE2 h1 h2 HT
    go_wp2_with (first | (go_at_call 12; refine (live19_any _).mono ?_; rintro e w4 ⟨rfl, hb4⟩) | fail)
    go_ret
    exact ⟨rfl, hbw.trans (hb4.mono hbw.size)⟩
  · obtain ⟨h1, h2⟩ := HT.out.2 (by have := HN.out.1; unfold jdg at this; omega)
    obtain rfl : N = N2 := by rw [hN2, HN.out.1]; exact h1.symm
    obtain rfl : E = E2 := by rw [hE2, HN.out.2]; exact h2.symm
    have hle1 : ¬ (at_ : Int) ≤ (N : Int) := by omega
    clear hN2 hE2 h1 h2 HT
    go_wp2_with (first | (go_at_call 12; refine (live19_any _).mono ?_; rintro e w4 ⟨rfl, hb4⟩) | fail)
    go_ret
    exact ⟨rfl, hbw.trans (hb4.mono hbw.size)⟩
end Go.Proofs.Ytpdnkbhgobdniaa
