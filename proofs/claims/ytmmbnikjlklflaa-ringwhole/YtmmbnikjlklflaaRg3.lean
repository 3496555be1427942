/- What Owner of a ring answers. -/
import Derived.Test.YtmmbnikjlklflaaRfM
namespace Go.Proofs.Ytmmbnikjlklflaa
open Go.RowKit
theorem owner_no (B : Nat) (X : Nat → Prop) (p g N gv tk d : Nat) (rs : List (Nat × List Nat)) (i : Int) (w : World) (h : Rng w B X p g N gv tk d rs) (hi : ¬ (0 ≤ i ∧ i < N)) :
    Calls Try.prog 16 #[.pointer (some ⟨p, 0, none⟩), .int .i64 i] w fun e w' => e = .returned (.tuple #[.int .i64 0, .int .i64 2]) ∧ Below w.heap.size w w' := by
  have h0 := h.c0
  go_enter Try.func16, Try.ntmps16
  by_cases a1 : i < 0
  · go_wp2
    go_ret2
    exact ⟨rfl, Below.refl _ _⟩
  · have a2 : (N : Int) ≤ i := by omega
    go_wp2
    go_ret2
    exact ⟨rfl, Below.refl _ _⟩
theorem round_at (N gv s i : Nat) (hg : gv < N) (hi : i < N) (hs : s < N) : (gv + s) % N = i ↔ s = (i + N - gv) % N := by
  have e1 : (gv + s) % N = if gv + s < N then gv + s else gv + s - N := by
    split
    · exact Nat.mod_eq_of_lt (by assumption)
    · rw [Nat.mod_eq_sub_mod (by omega), Nat.mod_eq_of_lt (by omega)]
  have e2 : (i + N - gv) % N = if i + N - gv < N then i + N - gv else i - gv := by
    split
    · exact Nat.mod_eq_of_lt (by assumption)
    · rw [Nat.mod_eq_sub_mod (by omega), Nat.mod_eq_of_lt (by omega)]; omega
  rw [e1, e2]
  split <;> split <;> omega
set_option maxRecDepth 100000 in
set_option maxHeartbeats 2000000 in
theorem owner_any (B : Nat) (X : Nat → Prop) (p g N gv tk d : Nat) (rs : List (Nat × List Nat)) (i : Nat) (w : World) (h : Rng w B X p g N gv tk d rs) (hiN : i < N) :
    Calls Try.prog 16 #[.pointer (some ⟨p, 0, none⟩), .int .i64 (i : Nat)] w fun e w' => e = .returned (.tuple #[.int .i64 (ownV N gv tk rs.length i : Nat), .int .i64 0]) ∧ Below w.heap.size w w' := by
  have h0 := h.c0
  have h2 := h.c2
  have h3 := h.c3
  have hn1 := h.n1
  have hn64 := h.n64
  have hsum := h.sum
  have a1 : ¬ (i : Int) < 0 := by omega
  have a2 : ¬ (N : Int) ≤ (i : Int) := by omega
  have hgv := h.gvl
  have hbl : (i + N - gv) % N < N := Nat.mod_lt _ hn1
  have HR : Hid (∀ s, s < N → ((gv + s) % N = i ↔ s = (i + N - gv) % N)) := fun s hs => round_at N gv s i hgv hiN hs
  unfold ownV
  generalize (i + N - gv) % N = bh at *
  obtain ⟨V, hV⟩ : ∃ V : Nat, V = (if bh < tk then 2 else if bh < tk + rs.length then 1 else 0) := ⟨_, rfl⟩
  rw [← hV]
  have HV0 := (show Hid _ from hV)
  clear hV
  go_enter Try.func16, Try.ntmps16
  go_wp2
  go_quiet (fail)
  all_goals
    go_wp2
    have hb0 : Below w.heap.size w (w.drewN nq) := ⟨rfl, rfl, rfl, Nat.le_refl _, fun _ _ => rfl⟩
    obtain ⟨W0, hW0⟩ : ∃ W0, W0 = w.drewN nq := ⟨_, rfl⟩
    rw [← hW0] at hb0 ⊢
    clear hW0
    have HT : Hid ((tk : Int) + (rs.length : Int) = ((tk + rs.length : Nat) : Int)) := by show _ = _; omega
    go_loopw [6, 29] (fun sv kv wr => ∃ s : Nat, kv = .int .i64 (s : Nat) ∧ s ≤ tk + rs.length ∧ s ≤ bh ∧ Below w.heap.size w wr) (fun _ kv _ => tk + rs.length - (intOf kv).toNat)
    case atStart => exact ⟨0, rfl, by omega, by omega, hb0⟩
    case round =>
      obtain ⟨s, rfl, hst, hsb, hbel⟩ := hrel
      have hR := h.below hbel
      have k2 := hR.c2
      by_cases hlt : s < tk + rs.length
      · have hl1 : (s : Int) < (tk : Int) + (rs.length : Int) := by omega
        have hah := ahead_at wr hR s (by omega) (.int .i64 (s : Nat)) rfl
        by_cases he : s = bh
        · have hre : (gv + s) % N = i := (HR.out s (by omega)).2 he
          rw [hre] at hah
          obtain rfl := he
          go_wp2_with fail
          refine hah.mono ?_
          rintro e w1 ⟨rfl, hb1⟩
          have k2 := (hb1.cell (p := ⟨p, 2, none⟩) hR.lt).trans hR.c2
          have HB := (show Hid _ from hbel.trans (hb1.mono hbel.size))
          clear hR hah hb1 hbel
          by_cases ht : s < tk
          · have ht1 : (s : Int) < (tk : Int) := by omega
            obtain rfl : V = 2 := by rw [HV0.out, if_pos (by omega)]
            go_wp2
            go_ret2
            exact ⟨rfl, HB.out⟩
          · have ht1 : ¬ (s : Int) < (tk : Int) := by omega
            obtain rfl : V = 1 := by rw [HV0.out, if_neg (by omega), if_pos (by omega)]
            go_wp2
            go_ret2
            exact ⟨rfl, HB.out⟩
        · have hre : ¬ (gv + s) % N = i := fun h => he ((HR.out s (by omega)).1 h)
          have hre1 : ¬ (((gv + s) % N : Nat) : Int) = (i : Int) := by omega
          have hre2 : ((((gv + s) % N : Nat) : Int) != (i : Int)) = true := by simpa using hre1
          generalize (gv + s) % N = r at *
          go_wp2_with fail
          refine hah.mono ?_
          rintro e w1 ⟨rfl, hb1⟩
          have HB := (show Hid _ from hbel.trans (hb1.mono hbel.size))
          clear hR hah hb1 hbel
          go_wp2
          go_roundw
          case rel => exact ⟨s + 1, by go_num, by omega, by omega, HB.out⟩
          case measure => simp [intOf]; omega
      · have hl1 : ¬ (s : Int) < (tk : Int) + (rs.length : Int) := by omega
        obtain rfl : V = 0 := by rw [HV0.out, if_neg (by omega), if_neg (by omega)]
        go_wp2
        go_ret2
        exact ⟨rfl, hbel⟩
end Go.Proofs.Ytmmbnikjlklflaa
