/- What Same of the reference answers: are two rows of numbers the same? -/
import Derived.Test.YtlgpabdadnfbeaaProg
import Derived.Test.YtlgpabdadnfbeaaBase
import Derived.Deep.QuietTactic
import Derived.BigQuiet
namespace Go.Proofs.Ytlgpabdadnfbeaa
open Go.RowKit
def sameB (zs ys : List Nat) : Bool := decide (zs = ys)
theorem sameB_refl (zs : List Nat) : sameB zs zs = true := by simp [sameB]
theorem same_take (zs ys : List Nat) (hl : zs.length = ys.length) (h : ∀ j, j < zs.length → zs.getD j 0 = ys.getD j 0) : sameB zs ys = true := by
  unfold sameB
  rw [decide_eq_true_eq]
  refine List.ext_getElem hl fun j h1 h2 => ?_
  have := h j h1
  simpa [List.getD_eq_getElem?_getD, h1, h2] using this
theorem same_no (zs ys : List Nat) (j : Nat) (h : ¬ zs.getD j 0 = ys.getD j 0) : sameB zs ys = false := by
  unfold sameB
  rw [decide_eq_false_iff_not]
  intro e
  exact h (by rw [e])
set_option maxHeartbeats 1000000 in
theorem same_any (a a2 : Option Addr) (n c n2 c2 : Nat) (zs ys : List Nat) (w : World) (hs : SlK .u32 4294967296 w a n c zs) (hs2 : SlK .u32 4294967296 w a2 n2 c2 ys) :
    Calls Try.prog 21 #[.slice a n c, .slice a2 n2 c2] w fun e w' => e = .returned (.bool (sameB zs ys)) ∧ ∃ q, w' = w.drewN q := by
  have hl := hs.len
  have hl2 := hs2.len
  have hsm := hs.small
  have hsm2 := hs2.small
  by_cases hn : n = n2
  · subst hn
    go_enter Try.func21, Try.ntmps21
    go_wp2
    go_loopw [5] (fun i wr => ∃ (k q : Nat), k ≤ n ∧ i = .int .i64 k ∧ wr = w.drewN q ∧ ∀ j, j < k → zs.getD j 0 = ys.getD j 0) (fun i _ => n - (intOf i).toNat)
    case atStart => exact ⟨0, 0, by omega, rfl, rfl, fun j hj => by omega⟩
    case round =>
      obtain ⟨k, q, hk, rfl, rfl, hall⟩ := hrel
      by_cases hkn : k < n
      · rcases hs.at_ with h0 | ⟨b, off, rfl, hlt, hcell⟩
        · omega
        rcases hs2.at_ with h0 | ⟨b2, off2, rfl, hlt2, hcell2⟩
        · omega
        have hc := hcell k hkn
        have hc2 := hcell2 k hkn
        have HX : Hid (zs.getD k 0 = ys.getD k 0 → ∀ j, j < k + 1 → zs.getD j 0 = ys.getD j 0) := fun h j hj => by
          by_cases hjk : j = k
          · subst hjk; exact h
          · exact hall j (by omega)
        have HNO : Hid (¬ zs.getD k 0 = ys.getD k 0 → sameB zs ys = false) := fun h => same_no zs ys k h
        clear hcell hcell2 hall
        generalize zs.getD k 0 = x at *
        generalize ys.getD k 0 = y at *
        have hk1 : (k : Int) < (n : Int) := by omega
        by_cases hxy : x = y
        · subst hxy
          have H3 := (show Hid _ from HX.out rfl)
          clear HX HNO
          go_wp2_with fail
          go_quiet (fail)
          all_goals
            go_wp2
            go_roundw
            case rel => exact ⟨k + 1, _, by omega, by go_num, by first | rfl | exact World.drewN_drewN _ _ _, H3.out⟩
            case measure => simp [intOf]; omega
        · have H3 := (show Hid _ from HNO.out hxy)
          have hne : ((x : Int) == (y : Int)) = false := by simp; omega
          clear HX HNO
          go_wp2_with fail
          go_quiet (fail)
          all_goals
            go_wp2
            go_ret
            exact ⟨by rw [H3.out]; rfl, _, World.drewN_drewN _ _ _⟩
      · obtain rfl : k = n := by omega
        have H3 : Hid (sameB zs ys = true) := same_take zs ys (by omega) (by rw [hl]; exact hall)
        clear hall
        go_wp2
        go_ret
        exact ⟨by rw [H3.out]; rfl, q, rfl⟩
  · have H3 : Hid (sameB zs ys = false) := by
      show _ = _
      unfold sameB
      rw [decide_eq_false_iff_not]
      intro e
      rw [e] at hl
      omega
    have hne : ((n : Int) == (n2 : Int)) = false := by simp; omega
    go_enter Try.func21, Try.ntmps21
    go_wp2
    go_ret
    exact ⟨by rw [H3.out]; rfl, 0, rfl⟩
end Go.Proofs.Ytlgpabdadnfbeaa
