/- What Has, note and advance of a tracker do. -/
import Derived.Test.YtlgpabdadnfbeaaGapT
import Derived.Test.YtlgpabdadnfbeaaGapS
import Derived.Outline
import Derived.WalkLawsBesides
import Derived.WalkSpells
namespace Go.Proofs.Ytlgpabdadnfbeaa
open Go.RowKit
theorem ret_b {p q : Bool} (h : p = q) : Ending.returned (.bool p) = .returned (.bool q) := by rw [h]
theorem mod256 (a n : Nat) : (a + n) % 4294967296 % 256 = (a + n) % 256 := by omega
set_option maxHeartbeats 1000000 in
theorem thas_any (B p : Nat) (db : Option Nat) (cum : Nat) (S : Nat → Bool) (ds : List Nat) (t : Nat) (w : World) (h : Trk w B p db cum S ds) (ht : t < 4294967296) :
    Calls Try.prog 12 #[.pointer (some ⟨p, 0, none⟩), .int .u32 t] w fun e w' => e = .returned (.bool (hasV cum S t)) ∧ Below w.heap.size w w' := by
  have ha := tahead_any p cum t w h.cumlt ht h.c0
  obtain ⟨ws, hw, hb⟩ := h.win
  have hlt := h.lt
  have HV : Hid (hasV cum S t = (decide (aheadV 4294967296 cum t ≤ 0) || (decide (aheadV 4294967296 cum t ≤ 256) && S (aheadV 4294967296 cum t).toNat))) := rfl
  have HB : Hid (∀ n : Int, aheadV 4294967296 cum t = n → 0 < n → n ≤ 256 → S n.toNat = bitW ws (t % 256)) := by
    show ∀ _, _
    intro n hn h0 h1
    obtain ⟨k, rfl⟩ := Int.eq_ofNat_of_zero_le (show 0 ≤ n by omega)
    have h2 := (ahead_pos cum t h.cumlt ht k hn).1
    rw [Int.toNat_natCast, hb k (by omega) (by omega), h2, mod256]
  generalize aheadV 4294967296 cum t = n at *
  by_cases h0 : n ≤ 0
  · have H3 : Hid (hasV cum S t = true) := by show _ = _; rw [HV.out]; simp [h0]
    go_enter Try.func12, Try.ntmps12
    go_wp2_with (go_at_call 28; refine ha.mono ?_; rintro e w1 ⟨rfl, hb1⟩)
    go_ret
    exact ⟨by rw [H3.out]; rfl, hb1⟩
  · by_cases h1 : n ≤ 256
    · have H3 : Hid (hasV cum S t = bitW ws (t % 256)) := by show _ = _; rw [HV.out, HB.out n rfl (by omega) h1]; simp [h0, h1]
      clear HV HB
      generalize hasV cum S t = r at *
      go_enter Try.func12, Try.ntmps12
      go_wp2_with (first | (go_at_call 28; refine ha.mono ?_; rintro e w1 ⟨rfl, hb1⟩; have hw1 := hw.below hb1 hlt) | (go_at_call 29; refine (has_any p 1 t ws _ hw1).mono ?_; rintro e w' ⟨rfl, hw'⟩; subst w'))
      go_ret
      exact ⟨by rw [H3.out]; exact ret_b (by rw [decide_eq_false (show ¬ n ≤ 0 by omega)]; rfl), hb1⟩
    · have H3 : Hid (hasV cum S t = false) := by show _ = _; rw [HV.out]; simp [h0, h1]
      clear HV HB
      go_enter Try.func12, Try.ntmps12
      go_wp2_with (go_at_call 28; refine ha.mono ?_; rintro e w1 ⟨rfl, hb1⟩)
      go_ret
      exact ⟨by rw [H3.out]; exact ret_b (decide_eq_false (show ¬ n ≤ 0 by omega)), hb1⟩
/-- The doubles' block behind: the same, or a new one. -/
def Fresh (w : World) (db db' : Option Nat) : Prop := ∀ k, db' = some k → db = some k ∨ w.heap.size ≤ k
theorem cell_new2 (w : World) (cs : Array Value) (t : TypeId) (B : Nat) (hB : w.heap.size = B) {i : Nat} : (w.alloc (.cells cs t)).cell? ⟨B, i, none⟩ = cs[i]? := by
  subst hB; rw [World.cell?_alloc_mark]
set_option maxHeartbeats 1000000 in
theorem note_any (B p : Nat) (db : Option Nat) (cum : Nat) (S : Nat → Bool) (ds : List Nat) (t : Nat) (w : World) (h : Trk w B p db cum S ds) (ht : t < 4294967296) :
    Calls Try.prog 31 #[.pointer (some ⟨p, 0, none⟩), .int .u32 t] w fun e w' => e = .returned (.tuple #[]) ∧ ∃ db', Trk w' B p db' cum S (noteV ds t) ∧ Fr (ownT p db) w w' ∧ Fresh w db db' := by
  obtain ⟨a, n, c, h5, ho, hd, hn⟩ := h.dup
  have hl := ho.len
  by_cases h16 : n < 16
  · have HN : Hid (noteV ds t = ds ++ [t]) := by show _ = _; unfold noteV; rw [if_pos (by omega)]
    have h16' : (n : Int) < 16 := by omega
    have hB : B ≤ w.heap.size := Nat.le_trans h.base (Nat.le_of_lt h.lt)
    obtain ⟨ws, hw, hb⟩ := h.win
    have hfr := hw.free 5
    have HT := (show Hid _ from h)
    have HW := (show Hid _ from hw)
    have hlt := h.lt
    clear h hw hb
    go_enter Try.func31, Try.ntmps31
    go_wp2_with (at_builtin; go_must (refine app_list2U rfl _ _ rfl B a n c ds rfl (ho.alloc _) _ 1 1 [t] rfl (u32_oneB _ _ t ht _ rfl) (by omega) (by simp; omega) ?_))
    intro a2 c2 w2 ho2 hg2 hn2
    have hb1 : Fr (ownT p db) w w2 := (Fr.of_below ((Below.refl _ _).alloc (Nat.le_refl _) _)).trans (Fr.grown hg2 (fun k hk => .inr hk))
    have hnp : ∀ k, db = some k → k ≠ p := fun k hk e => HT.out.apart (by rw [hk, e])
    have hf2 : Fr (fun k => db = some k) w w2 := (Fr.of_below ((Below.refl _ _).alloc (Nat.le_refl _) _)).trans (Fr.grown hg2 (fun k hk => hk))
    have hp2 : ¬ db = some p := HT.out.apart
    have h52 := (hf2.cell ⟨p, 5, none⟩ hlt hp2).trans h5
    have hfr2 := (hf2.frozen ⟨p, 5, none⟩ hlt hp2).trans hfr
    have hz2 := hf2.size
    clear hg2 ho
    have hbl2 := ho2.own.lt
    have hex : ∃ g, a2 = some ⟨g, 0, none⟩ := by
      rcases ho2.own.2 with ⟨_, h0⟩ | ⟨g, cap, cur, hv, _⟩
      · omega
      · injection hv with e1
        exact ⟨g, e1⟩
    obtain ⟨g, rfl⟩ := hex
    have hgp : g ≠ p := by
      intro e
      rcases hn2 g rfl with h1 | h1
      · exact hp2 (by rw [h1, e])
      · omega
    have hFr3 : Fr (fun k => k = p) w2 (w2.setCell ⟨p, 5, none⟩ (.slice (some ⟨g, 0, none⟩) (n + 1) c2)) := Fr.setCell _ _ _ _ rfl
    have hown3 := ho2.fr hFr3 (fun k hk => by cases hk; exact hgp)
    have hT : Trk (w2.setCell ⟨p, 5, none⟩ (.slice (some ⟨g, 0, none⟩) (n + 1) c2)) B p (some g) cum S (ds ++ [t]) := by
      have h0 := HT.out
      obtain ⟨ws2, hw2, hbb2⟩ := h0.win
      have hw3 := hw2.fr hf2 hlt hp2
      refine ⟨h0.base, by simp [World.setCell]; omega, h0.cumlt, ?_, ⟨ws2, ⟨hw3.len, hw3.bnd, fun i hi => ?_, fun i => by rw [World.frozen?_setCell]; exact hw3.free i⟩, hbb2⟩, h0.out, ⟨some ⟨g, 0, none⟩, n + 1, c2, ?_, hown3, rfl, by omega⟩, fun e => hgp (by injection e)⟩
      · rw [World.cell?_setCell_other _ _ _ _ (by intro e2; injection e2 with _ e3; omega)]
        exact (hf2.cell ⟨p, 0, none⟩ hlt hp2).trans h0.c0
      · rw [World.cell?_setCell_other _ _ _ _ (by intro e2; injection e2 with _ e3; omega)]
        exact hw3.cell i hi
      · exact World.cell?_setCell_same' _ _ _ (by rw [h52]; rfl)
    have HTT := (show Hid _ from hT)
    have HFR : Hid (Fr (ownT p db) w (w2.setCell ⟨p, 5, none⟩ (.slice (some ⟨g, 0, none⟩) (n + 1) c2))) := hb1.trans (Fr.setCell _ _ _ _ (.inl rfl))
    have HNW : Hid (Fresh w db (some g)) := by
      show Fresh w db (some g)
      intro k hk
      cases hk
      rcases hn2 g rfl with h1 | h1
      · exact .inl h1
      · right; omega
    clear hT hFr3 hown3 hb1 hf2 hn2 hbl2 ho2
    go_wp2
    go_end0
    exact ⟨rfl, some g, by rw [HN.out]; exact HTT.out, HFR.out, HNW.out⟩
  · have HN : Hid (noteV ds t = ds) := by show _ = _; unfold noteV; rw [if_neg (by omega)]
    have h16' : ¬ (n : Int) < 16 := by omega
    go_enter Try.func31, Try.ntmps31
    go_wp2
    go_end0
    exact ⟨rfl, db, by rw [HN.out]; exact h, Fr.refl _ _, fun k hk => .inl hk⟩
end Go.Proofs.Ytlgpabdadnfbeaa
