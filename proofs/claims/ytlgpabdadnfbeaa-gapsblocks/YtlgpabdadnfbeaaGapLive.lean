/- What the reference's SameBlocks, and live of layer 4's statements, answer. -/
import Derived.Test.YtlgpabdadnfbeaaGapBl
import Derived.Test.YtlgpabdadnfbeaaEqQ
import Derived.Test.YtlgpabdadnfbeaaSame3
namespace Go.Proofs.Ytlgpabdadnfbeaa
open Go.RowKit
def sameQ (ps qs : List (Nat × Nat)) : Bool := decide (ps = qs)
theorem sameQ_refl (ps : List (Nat × Nat)) : sameQ ps ps = true := by simp [sameQ]
theorem sameQ_yes (ps qs : List (Nat × Nat)) (hl : ps.length = qs.length) (h : ∀ j, j < ps.length → ps.getD j (0, 0) = qs.getD j (0, 0)) : sameQ ps qs = true := by
  unfold sameQ
  rw [decide_eq_true_eq]
  refine List.ext_getElem hl fun j h1 h2 => ?_
  have := h j h1
  simpa [List.getD_eq_getElem?_getD, h1, h2] using this
theorem sameQ_no (ps qs : List (Nat × Nat)) (j : Nat) (h : ¬ ps.getD j (0, 0) = qs.getD j (0, 0)) : sameQ ps qs = false := by
  unfold sameQ
  rw [decide_eq_false_iff_not]
  intro e
  exact h (by rw [e])
theorem drewN_belowG (w : World) (q : Nat) : Below w.heap.size w (w.drewN q) := ⟨rfl, rfl, rfl, Nat.le_refl _, fun _ _ => rfl⟩
set_option maxHeartbeats 2000000 in
theorem sameb_any (B B2 : Nat) (a a2 : Option Addr) (n c n2 c2 : Nat) (ps qs : List (Nat × Nat)) (w : World) (h1 : OwnQ w B a n c ps) (h2 : OwnQ w B2 a2 n2 c2 qs) (hn : n ≤ 1000) (hn2 : n2 ≤ 1000) :
    Calls Try.prog 17 #[.slice a n c, .slice a2 n2 c2] w fun e w' => e = .returned (.bool (sameQ ps qs)) ∧ ∃ q, w' = w.drewN q := by
  have hq := eq_pairQ
  have hl := h1.len
  have hl2 := h2.len
  by_cases hnn : n = n2
  · subst hnn
    go_enter Try.func17, Try.ntmps17
    go_wp2
    go_loopw [5] (fun i wr => ∃ (k q : Nat), k ≤ n ∧ i = .int .i64 k ∧ wr = w.drewN q ∧ ∀ j, j < k → ps.getD j (0, 0) = qs.getD j (0, 0)) (fun i _ => n - (intOf i).toNat)
    case atStart => exact ⟨0, 0, by omega, rfl, rfl, fun j hj => by omega⟩
    case round =>
      obtain ⟨k, q, hk, rfl, hwr, hall⟩ := hrel
      have hbr : Below w.heap.size w wr := by rw [hwr]; exact drewN_belowG _ _
      have HW := (show Hid _ from hwr)
      clear hwr
      by_cases hkn : k < n
      · obtain ⟨g, rfl, _, _, hc1, hm1, hcl, _⟩ := (h1.below hbr).at_ (by omega)
        obtain ⟨g2, rfl, _, _, hc2, hm2, hcl2, _⟩ := (h2.below hbr).at_ (by omega)
        obtain ⟨x0, x1⟩ := hcl k hkn
        obtain ⟨y0, y1⟩ := hcl2 k hkn
        have HX : Hid (ps.getD k (0, 0) = qs.getD k (0, 0) → ∀ j, j < k + 1 → ps.getD j (0, 0) = qs.getD j (0, 0)) := fun h j hj => by
          by_cases hjk : j = k
          · subst hjk; exact h
          · exact hall j (by omega)
        have HNO : Hid (¬ ps.getD k (0, 0) = qs.getD k (0, 0) → sameQ ps qs = false) := fun h => sameQ_no ps qs k h
        have hk1 : (k : Int) < (n : Int) := by omega
        clear hcl hcl2 hall h1 h2
        generalize hP : ps.getD k (0, 0) = P at *
        generalize hQ : qs.getD k (0, 0) = Q at *
        clear hP hQ
        obtain ⟨p1, p2⟩ := P
        obtain ⟨q1, q2⟩ := Q
        dsimp only at x0 x1 y0 y1
        by_cases hxy : (p1, p2) = (q1, q2)
        · have H3 := (show Hid _ from HX.out hxy)
          injection hxy with e1 e2
          subst e1 e2
          clear HX HNO
          go_wp2_with fail
          go_quiet (fail)
          all_goals
            go_wp2
            go_roundw
            case rel => exact ⟨k + 1, _, by omega, by go_num, by rw [HW.out]; exact World.drewN_drewN _ _ _, H3.out⟩
            case measure => simp [intOf]; omega
        · have H3 := (show Hid _ from HNO.out hxy)
          have hne : ((p1 : Int) == (q1 : Int) && (p2 : Int) == (q2 : Int)) = false := by
            rw [Bool.and_eq_false_iff, beq_eq_false_iff_ne, beq_eq_false_iff_ne]
            by_cases e1 : p1 = q1
            · right; intro e2; exact hxy (by rw [e1, show p2 = q2 from by omega])
            · left; omega
          clear HX HNO hxy
          go_wp2_with fail
          go_quiet (fail)
          all_goals
            go_wp2
            go_ret
            exact ⟨by rw [H3.out]; rfl, _, by rw [HW.out]; exact World.drewN_drewN _ _ _⟩
      · obtain rfl : k = n := by omega
        have H3 : Hid (sameQ ps qs = true) := sameQ_yes ps qs (by omega) (by rw [hl]; exact hall)
        clear hall
        go_wp2
        go_ret
        exact ⟨by rw [H3.out]; rfl, q, HW.out⟩
  · have H3 : Hid (sameQ ps qs = false) := by
      show _ = _
      unfold sameQ
      rw [decide_eq_false_iff_not]
      intro e
      rw [e] at hl
      omega
    have hne : ((n : Int) == (n2 : Int)) = false := beq_eq_false_iff_ne.2 (by omega)
    go_enter Try.func17, Try.ntmps17
    go_wp2
    go_ret
    exact ⟨by rw [H3.out]; rfl, 0, rfl⟩
end Go.Proofs.Ytlgpabdadnfbeaa
