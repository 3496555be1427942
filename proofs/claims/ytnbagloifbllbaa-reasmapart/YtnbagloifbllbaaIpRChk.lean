/- What ref10.Check answers. -/
import Derived.Test.YtnbagloifbllbaaIpM
import Derived.Test.YtnbagloifbllbaaSt
namespace Go.Proofs.Ytnbagloifbllbaa
open Go.RowKit
set_option maxRecDepth 100000 in
set_option maxHeartbeats 1000000 in
theorem check_any (sr ds pr tt id : Nat) (dn mo : Bool) (of : Int) (a : Option Addr) (n c : Nat) (w : World) (hn : n ≤ 281474976710656) :
    Calls Try.prog 15 #[.agg #[.int .u32 (sr : Nat), .int .u32 (ds : Nat), .int .u8 (pr : Nat), .int .u8 (tt : Nat), .int .u16 (id : Nat), .bool dn, .bool mo, .int .i64 of, .slice a n c]] w fun e w' => e = .returned (.int .i64 (mbE mo of n : Nat)) ∧ Below w.heap.size w w' := by
  have hbW : Below w.heap.size w (w.alloc (.cells #[.int .u32 (sr : Nat), .int .u32 (ds : Nat), .int .u8 (pr : Nat), .int .u8 (tt : Nat), .int .u16 (id : Nat), .bool dn, .bool mo, .int .i64 of, .slice a n c] 26)) := (Below.refl _ _).alloc (Nat.le_refl _) _
  by_cases h1 : of < 0
  · have HE : Hid (mbE mo of n = 2) := by show _ = _; unfold mbE; rw [if_pos (.inl h1)]
    go_enter Try.func15, Try.ntmps15
    go_wp2
    go_ret
    exact ⟨by rw [HE.out]; rfl, hbW⟩
  by_cases h2 : 65528 < of
  · have HE : Hid (mbE mo of n = 2) := by show _ = _; unfold mbE; rw [if_pos (.inr (.inl h2))]
    go_enter Try.func15, Try.ntmps15
    go_wp2
    go_ret
    exact ⟨by rw [HE.out]; rfl, hbW⟩
  by_cases h3 : of % 8 = 0
  case neg =>
    have HE : Hid (mbE mo of n = 2) := by show _ = _; unfold mbE; rw [if_pos (.inr (.inr (.inl h3)))]
    have h3c : (of % 8 != 0) = true := by simpa using h3
    go_enter Try.func15, Try.ntmps15
    go_wp2
    go_ret
    exact ⟨by rw [HE.out]; rfl, hbW⟩
  case pos =>
  have h3c : (of % 8 != 0) = false := by simpa using h3
  by_cases h4 : mo = true ∧ n % 8 ≠ 0
  case pos =>
    have HE : Hid (mbE mo of n = 2) := by show _ = _; unfold mbE; rw [if_pos (.inr (.inr (.inr h4)))]
    obtain ⟨rfl, h4b⟩ := h4
    have h4c : ((n : Int) % 8 != 0) = true := by simp; omega
    go_enter Try.func15, Try.ntmps15
    go_wp2
    go_ret
    exact ⟨by rw [HE.out]; rfl, hbW⟩
  case neg =>
    have HN : Hid (¬ (of < 0 ∨ 65528 < of ∨ of % 8 ≠ 0 ∨ (mo = true ∧ n % 8 ≠ 0))) := by
      intro h
      rcases h with h | h | h | h
      · exact h1 h
      · exact h2 h
      · exact h h3
      · exact h4 h
    have h4c : mo = true → ((n : Int) % 8 != 0) = false := by
      intro hm
      have : n % 8 = 0 := by
        cases Nat.decEq (n % 8) 0 with
        | isTrue e => exact e
        | isFalse e => exact absurd ⟨hm, e⟩ h4
      simp
      omega
    clear h4
    by_cases h5 : 65535 < n
    · have h5a : (65535 : Int) < (n : Int) := by omega
      have HE : Hid (mbE mo of n = 6) := by show _ = _; unfold mbE; rw [if_neg HN.out, if_pos (by omega)]
      cases mo
      · clear h4c
        go_enter Try.func15, Try.ntmps15
        go_wp2
        go_ret
        exact ⟨by rw [HE.out]; rfl, hbW⟩
      · have h4d := h4c rfl
        clear h4c
        go_enter Try.func15, Try.ntmps15
        go_wp2
        go_ret
        exact ⟨by rw [HE.out]; rfl, hbW⟩
    · have h5a : ¬ (65535 : Int) < (n : Int) := by omega
      by_cases h6 : of + n ≤ 65515
      · have h6a : ¬ 65535 < of + (n : Int) + 20 := by omega
        have HE : Hid (mbE mo of n = 0) := by show _ = _; unfold mbE; rw [if_neg HN.out, if_neg (by omega)]
        cases mo
        · clear h4c
          go_enter Try.func15, Try.ntmps15
          go_wp2
          go_ret
          exact ⟨by rw [HE.out]; rfl, hbW⟩
        · have h4d := h4c rfl
          clear h4c
          go_enter Try.func15, Try.ntmps15
          go_wp2
          go_ret
          exact ⟨by rw [HE.out]; rfl, hbW⟩
      · have h6a : 65535 < of + (n : Int) + 20 := by omega
        have HE : Hid (mbE mo of n = 6) := by show _ = _; unfold mbE; rw [if_neg HN.out, if_pos (by omega)]
        cases mo
        · clear h4c
          go_enter Try.func15, Try.ntmps15
          go_wp2
          go_ret
          exact ⟨by rw [HE.out]; rfl, hbW⟩
        · have h4d := h4c rfl
          clear h4c
          go_enter Try.func15, Try.ntmps15
          go_wp2
          go_ret
          exact ⟨by rw [HE.out]; rfl, hbW⟩
end Go.Proofs.Ytnbagloifbllbaa
