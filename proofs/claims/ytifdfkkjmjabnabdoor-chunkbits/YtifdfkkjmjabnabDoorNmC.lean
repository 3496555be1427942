/- chunk.Name, Stops, Tells; the reference's Name; the names as the program's text lays them. -/
import Derived.Test.YtifdfkkjmjabnabDoorChB
import Derived.Lib.SlBytesConst
import Derived.ProofKit
namespace Go.Proofs.YtifdfkkjmjabnabDoor
open Go.RowKit
def nmS : List (List UInt8) := [[68, 65, 84, 65], [73, 78, 73, 84], [73, 78, 73, 84, 32, 65, 67, 75], [83, 65, 67, 75], [72, 69, 65, 82, 84, 66, 69, 65, 84], [72, 69, 65, 82, 84, 66, 69, 65, 84, 32, 65, 67, 75], [65, 66, 79, 82, 84], [83, 72, 85, 84, 68, 79, 87, 78], [83, 72, 85, 84, 68, 79, 87, 78, 32, 65, 67, 75], [69, 82, 82, 79, 82], [67, 79, 79, 75, 73, 69, 32, 69, 67, 72, 79], [67, 79, 79, 75, 73, 69, 32, 65, 67, 75], [], [], [83, 72, 85, 84, 68, 79, 87, 78, 32, 67, 79, 77, 80, 76, 69, 84, 69]]
/-- The names lie where the program's text lays them. -/
def NW (w : World) : Prop := 0 < w.heap.size ∧ ∀ i s, nmS[i]? = some s → w.cell? ⟨0, i, none⟩ = some (.string ⟨s.toArray⟩)
theorem NW.below {w w' : World} (h : NW w) (hb : Below w.heap.size w w') : NW w' :=
  ⟨Nat.lt_of_lt_of_le h.1 hb.size, fun i s hs => (hb.cell (p := ⟨0, i, none⟩) h.1).trans (h.2 i s hs)⟩
def nmV (k : Nat) : ByteArray := if (nmS.getD k []) = [] then ⟨#[85, 78, 75, 78, 79, 87, 78]⟩ else ⟨(nmS.getD k []).toArray⟩
set_option linter.unusedVariables false in
set_option maxRecDepth 100000 in
set_option maxHeartbeats 8000000 in
theorem name_any (k : Nat) (hk : k < 256) (w : World) (h : NW w) : Calls Tryd.prog 8 #[.int .u8 (k : Nat)] w fun e w' => e = .returned (.string (nmV k)) ∧ Below w.heap.size w w' := by
  by_cases h15 : 15 ≤ k
  · have hv : nmV k = ⟨#[85, 78, 75, 78, 79, 87, 78]⟩ := by
      unfold nmV
      rw [if_pos]
      rw [List.getD_eq_getElem?_getD, List.getElem?_eq_none (by simpa [nmS] using h15)]
      rfl
    rw [hv]
    have g : (15 : Int) ≤ (k : Int) := by omega
    clear h hv
    go_enter Tryd.func8, Tryd.ntmps8
    go_wp2
    go_ret
    exact ⟨rfl, Below.refl _ _⟩
  · have hlt := h.1
    rcases (show k = 0 ∨ k = 1 ∨ k = 2 ∨ k = 3 ∨ k = 4 ∨ k = 5 ∨ k = 6 ∨ k = 7 ∨ k = 8 ∨ k = 9 ∨ k = 10 ∨ k = 11 ∨ k = 12 ∨ k = 13 ∨ k = 14 by omega) with rfl | rfl | rfl | rfl | rfl | rfl | rfl | rfl | rfl | rfl | rfl | rfl | rfl | rfl | rfl
    · have c0 := h.2 0 _ rfl
      go_enter Tryd.func8, Tryd.ntmps8
      go_wp2
      go_ret
      exact ⟨rfl, Below.refl _ _⟩
    · have c0 := h.2 1 _ rfl
      go_enter Tryd.func8, Tryd.ntmps8
      go_wp2
      go_ret
      exact ⟨rfl, Below.refl _ _⟩
    · have c0 := h.2 2 _ rfl
      go_enter Tryd.func8, Tryd.ntmps8
      go_wp2
      go_ret
      exact ⟨rfl, Below.refl _ _⟩
    · have c0 := h.2 3 _ rfl
      go_enter Tryd.func8, Tryd.ntmps8
      go_wp2
      go_ret
      exact ⟨rfl, Below.refl _ _⟩
    · have c0 := h.2 4 _ rfl
      go_enter Tryd.func8, Tryd.ntmps8
      go_wp2
      go_ret
      exact ⟨rfl, Below.refl _ _⟩
    · have c0 := h.2 5 _ rfl
      go_enter Tryd.func8, Tryd.ntmps8
      go_wp2
      go_ret
      exact ⟨rfl, Below.refl _ _⟩
    · have c0 := h.2 6 _ rfl
      go_enter Tryd.func8, Tryd.ntmps8
      go_wp2
      go_ret
      exact ⟨rfl, Below.refl _ _⟩
    · have c0 := h.2 7 _ rfl
      go_enter Tryd.func8, Tryd.ntmps8
      go_wp2
      go_ret
      exact ⟨rfl, Below.refl _ _⟩
    · have c0 := h.2 8 _ rfl
      go_enter Tryd.func8, Tryd.ntmps8
      go_wp2
      go_ret
      exact ⟨rfl, Below.refl _ _⟩
    · have c0 := h.2 9 _ rfl
      go_enter Tryd.func8, Tryd.ntmps8
      go_wp2
      go_ret
      exact ⟨rfl, Below.refl _ _⟩
    · have c0 := h.2 10 _ rfl
      go_enter Tryd.func8, Tryd.ntmps8
      go_wp2
      go_ret
      exact ⟨rfl, Below.refl _ _⟩
    · have c0 := h.2 11 _ rfl
      go_enter Tryd.func8, Tryd.ntmps8
      go_wp2
      go_ret
      exact ⟨rfl, Below.refl _ _⟩
    · have c0 := h.2 12 _ rfl
      go_enter Tryd.func8, Tryd.ntmps8
      go_wp2
      go_ret
      exact ⟨rfl, Below.refl _ _⟩
    · have c0 := h.2 13 _ rfl
      go_enter Tryd.func8, Tryd.ntmps8
      go_wp2
      go_ret
      exact ⟨rfl, Below.refl _ _⟩
    · have c0 := h.2 14 _ rfl
      go_enter Tryd.func8, Tryd.ntmps8
      go_wp2
      go_ret
      exact ⟨rfl, Below.refl _ _⟩
set_option linter.unusedVariables false in
set_option maxRecDepth 100000 in
set_option maxHeartbeats 8000000 in
theorem rname_any (k : Nat) (hk : k < 256) (w : World) : Calls Tryd.prog 9 #[.int .u8 (k : Nat)] w fun e w' => e = .returned (.string (nmV k)) ∧ Below w.heap.size w w' := by
  have hb : Below w.heap.size w (w.alloc (.cells #[.string ⟨#[68, 65, 84, 65]⟩, .string ⟨#[73, 78, 73, 84]⟩, .string ⟨#[73, 78, 73, 84, 32, 65, 67, 75]⟩, .string ⟨#[83, 65, 67, 75]⟩, .string ⟨#[72, 69, 65, 82, 84, 66, 69, 65, 84]⟩, .string ⟨#[72, 69, 65, 82, 84, 66, 69, 65, 84, 32, 65, 67, 75]⟩, .string ⟨#[65, 66, 79, 82, 84]⟩, .string ⟨#[83, 72, 85, 84, 68, 79, 87, 78]⟩, .string ⟨#[83, 72, 85, 84, 68, 79, 87, 78, 32, 65, 67, 75]⟩, .string ⟨#[69, 82, 82, 79, 82]⟩, .string ⟨#[67, 79, 79, 75, 73, 69, 32, 69, 67, 72, 79]⟩, .string ⟨#[67, 79, 79, 75, 73, 69, 32, 65, 67, 75]⟩, .string ⟨#[85, 78, 75, 78, 79, 87, 78]⟩, .string ⟨#[85, 78, 75, 78, 79, 87, 78]⟩, .string ⟨#[83, 72, 85, 84, 68, 79, 87, 78, 32, 67, 79, 77, 80, 76, 69, 84, 69]⟩] 9)) := (Below.refl _ _).alloc (Nat.le_refl _) _
  have HB := (show Hid _ from hb)
  clear hb
  by_cases h15 : 15 ≤ k
  · have hv : nmV k = ⟨#[85, 78, 75, 78, 79, 87, 78]⟩ := by
      unfold nmV
      rw [if_pos]
      rw [List.getD_eq_getElem?_getD, List.getElem?_eq_none (by simpa [nmS] using h15)]
      rfl
    rw [hv]
    have g : (14 : Int) < (k : Int) := by omega
    clear hv
    go_enter Tryd.func9, Tryd.ntmps9
    go_wp2
    go_ret
    exact ⟨rfl, HB.out⟩
  · rcases (show k = 0 ∨ k = 1 ∨ k = 2 ∨ k = 3 ∨ k = 4 ∨ k = 5 ∨ k = 6 ∨ k = 7 ∨ k = 8 ∨ k = 9 ∨ k = 10 ∨ k = 11 ∨ k = 12 ∨ k = 13 ∨ k = 14 by omega) with rfl | rfl | rfl | rfl | rfl | rfl | rfl | rfl | rfl | rfl | rfl | rfl | rfl | rfl | rfl
    all_goals
      go_enter Tryd.func9, Tryd.ntmps9
      go_wp2
      go_ret
      exact ⟨rfl, HB.out⟩
theorem and128 : ∀ k : Nat, k < 256 → (bits .and .u8 (k : Int) 128 == 0) = decide (k < 128) := by decide +kernel
theorem and64 : ∀ k : Nat, k < 256 → (bits .and .u8 (k : Int) 64 != 0) = decide (k / 64 % 2 = 1) := by decide +kernel
set_option maxRecDepth 100000 in
theorem stops_any (k : Nat) (hk : k < 256) (w : World) : Calls Tryd.prog 6 #[.int .u8 (k : Nat)] w fun e w' => e = .returned (.bool (decide (k < 128))) ∧ w' = w := by
  have h := and128 k hk
  go_enter Tryd.func6, Tryd.ntmps6
  go_wp2
  go_ret
  exact ⟨by rw [← h]; rfl, rfl⟩
set_option maxRecDepth 100000 in
theorem tells_any (k : Nat) (hk : k < 256) (w : World) : Calls Tryd.prog 7 #[.int .u8 (k : Nat)] w fun e w' => e = .returned (.bool (decide (k / 64 % 2 = 1))) ∧ w' = w := by
  have h := and64 k hk
  go_enter Tryd.func7, Tryd.ntmps7
  go_wp2
  go_ret
  exact ⟨by rw [← h]; rfl, rfl⟩
end Go.Proofs.YtifdfkkjmjabnabDoor
