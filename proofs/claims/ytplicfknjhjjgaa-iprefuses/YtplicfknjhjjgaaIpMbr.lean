/- What ip.mayBeRefused answers. -/
import Derived.Test.YtplicfknjhjjgaaIpRf0
namespace Go.Proofs.Ytplicfknjhjjgaa
open Go.RowKit
set_option maxRecDepth 100000 in
set_option maxHeartbeats 1000000 in
theorem mbr_any (sr ds pr tt id : Nat) (dn mo : Bool) (of : Int) (a : Option Addr) (n c : Nat) (zs : List Nat) (w : World) (hs : Sl w a n c zs) :
    Calls Try.prog 25 #[.agg #[.int .u32 (sr : Nat), .int .u32 (ds : Nat), .int .u8 (pr : Nat), .int .u8 (tt : Nat), .int .u16 (id : Nat), .bool dn, .bool mo, .int .i64 of, .slice a n c]] w fun e w' => e = .returned (.bool (mbr pr of zs)) ∧ Below w.heap.size w w' := by
  have hb : Below w.heap.size w (w.alloc (.cells #[.int .u32 (sr : Nat), .int .u32 (ds : Nat), .int .u8 (pr : Nat), .int .u8 (tt : Nat), .int .u16 (id : Nat), .bool dn, .bool mo, .int .i64 of, .slice a n c] 26)) := (Below.refl _ _).alloc (Nat.le_refl _) _
  by_cases h1 : of = 0
  case neg =>
    have HE : Hid (mbr pr of zs = false) := by show _ = _; unfold mbr; exact decide_eq_false (fun h => h1 h.1)
    have h1b : (of != 0) = true := by simpa using h1
    go_enter Try.func25, Try.ntmps25
    go_wp2
    go_ret
    exact ⟨by rw [HE.out]; rfl, hb⟩
  case pos =>
  subst h1
  by_cases h2 : pr = 1
  case neg =>
    have HE : Hid (mbr pr 0 zs = true) := by show _ = _; unfold mbr; exact decide_eq_true ⟨rfl, .inl h2⟩
    have h2b : ((pr : Int) != 1) = true := by simp; omega
    go_enter Try.func25, Try.ntmps25
    go_wp2
    go_ret
    exact ⟨by rw [HE.out]; rfl, hb⟩
  case pos =>
  have h2b : ((pr : Int) != 1) = false := by simp; omega
  have hl := hs.len
  have hi0 : (0 : Int) ≤ (n : Int) := by omega
  by_cases h3 : 0 < n
  case neg =>
    have HE : Hid (mbr pr 0 zs = false) := by show _ = _; unfold mbr; exact decide_eq_false (fun h => by rcases h.2 with h | h; exact h h2; omega)
    have h3b : ¬ (0 : Int) < (n : Int) := by omega
    clear h2 h3
    go_enter Try.func25, Try.ntmps25
    go_wp2
    go_ret
    exact ⟨by rw [HE.out]; rfl, hb⟩
  case pos =>
  have h3b : (0 : Int) < (n : Int) := by omega
  rcases hs.at_ with h0 | ⟨g, off, rfl, hlt, hcell⟩
  · omega
  have hc := hcell 0 h3
  rw [Nat.add_zero] at hc
  have hcw := (hb.cell (p := ⟨g, off, none⟩) hlt).trans hc
  obtain ⟨x, hx⟩ : ∃ x, x = zs.getD 0 0 := ⟨_, rfl⟩
  rw [← hx] at hc hcw
  have HM : Hid (mbr pr 0 zs = decide (x = 0 ∨ x = 8)) := by
    show _ = _
    unfold mbr
    rw [← hx, hl]
    simp only [h2, true_and, ne_eq, not_true_eq_false, false_or, h3]
  clear hcell hx h2 hs hl
  rcases (show x = 0 ∨ x = 8 ∨ (¬ x = 0 ∧ ¬ x = 8) by omega) with hx | hx | ⟨hx1, hx2⟩
  · have HE : Hid (mbr pr 0 zs = true) := by show _ = _; rw [HM.out]; exact decide_eq_true (.inl hx)
    subst hx
    go_enter Try.func25, Try.ntmps25
    go_wp2
    go_ret
    exact ⟨by rw [HE.out]; rfl, hb⟩
  · have HE : Hid (mbr pr 0 zs = true) := by show _ = _; rw [HM.out]; exact decide_eq_true (.inr hx)
    subst hx
    go_enter Try.func25, Try.ntmps25
    go_wp2
    go_ret
    exact ⟨by rw [HE.out]; rfl, hb⟩
  · have HE : Hid (mbr pr 0 zs = false) := by show _ = _; rw [HM.out]; exact decide_eq_false (fun h => by rcases h with h | h; exact hx1 h; exact hx2 h)
    have d1 : ((x : Int) == 0) = false := by simp; omega
    have d2 : ((x : Int) == 8) = false := by simp; omega
    have d3 : ¬ (x : Int) = 0 := by omega
    have d4 : ¬ (x : Int) = 8 := by omega
    go_enter Try.func25, Try.ntmps25
    go_wp2
    go_ret
    exact ⟨by rw [HE.out]; rfl, hb⟩
end Go.Proofs.Ytplicfknjhjjgaa
