/- trunklinelaw12.ChunkBits. -/
import Derived.Test.YtifdfkkjmjabnabDoorLv12
import Derived.Test.YtifdfkkjmjabnabDoorNmC
namespace Go.Proofs.YtifdfkkjmjabnabDoor
open Go.RowKit
theorem live12_nw (w : World) (h : NW w) : Calls Tryd.prog 5 #[] w fun e w' => e = .returned (.bool true) ∧ Below w.heap.size w w' :=
  live12_any w (fun W hW => name_any 3 (by decide) W (h.below hW))
set_option linter.unusedVariables false in
set_option maxRecDepth 100000 in
set_option maxHeartbeats 4000000 in
theorem walk_ChunkBits (k : Nat) (w : World) (hk : k < 256) (hN : NW w) :
    Calls Tryd.prog 3 #[.int .u8 (k : Nat)] w fun e w' => e = .returned (.bool true) ∧ Below w.heap.size w w' := by
  have HN : Hid (NW w) := hN
  have HL := (show Hid _ from live12_nw w hN)
  clear hN
  go_enter Tryd.func3, Tryd.ntmps3
  go_wp2_with fail
  refine Calls.mono HL.out ?_
  clear HL
  rintro e w1 ⟨rfl, b1⟩
  have HN1 : Hid (NW w1) := NW.below HN.out b1
  have HB1 := (show Hid _ from b1)
  have HST := (show Hid _ from stops_any k hk w1)
  have HTL := (show Hid _ from tells_any k hk w1)
  have HNM := (show Hid _ from name_any k hk w1 HN1.out)
  have HRN := (show Hid _ from fun W => rname_any k hk W)
  have hq : (k : Int) / 64 % 2 = ((k / 64 % 2 : Nat) : Int) := by omega
  have hq2 : ((k : Int).tdiv 64).tmod 2 = ((k / 64 % 2 : Nat) : Int) := by
    rw [Int.tdiv_eq_ediv_of_nonneg (by omega), Int.tmod_eq_emod_of_nonneg (by omega)]
    omega
  have hm2 : k / 64 % 2 = 0 ∨ k / 64 % 2 = 1 := by omega
  generalize nmV k = nv at *
  clear b1 HN
  by_cases h1 : k < 128
  · have g1 : (k : Int) < 128 := by omega
    rw [decide_eq_true h1] at HST
    rcases hm2 with e2 | e2
    · rw [e2] at hq hq2 HTL
      rw [decide_eq_false (by decide)] at HTL
      clear e2
      go_wp2_with fail
      refine Calls.mono HST.out ?_
      rintro e w2 ⟨rfl, hw2⟩
      subst hw2
      go_wp2_with fail
      refine Calls.mono HTL.out ?_
      rintro e w3 ⟨rfl, hw3⟩
      subst hw3
      go_wp2_with fail
      refine Calls.mono HNM.out ?_
      rintro e w4 ⟨rfl, b4⟩
      have HB4 : Hid (Below w.heap.size w w4) := HB1.out.trans (b4.mono HB1.out.size)
      clear b4
      go_wp2_with fail
      refine Calls.mono (HRN.out w4) ?_
      rintro e w5 ⟨rfl, b5⟩
      have HB5 : Hid (Below w.heap.size w w5) := HB4.out.trans (b5.mono HB4.out.size)
      clear b5
      go_wp2
      go_ret
      first | exact ⟨rfl, HB5.out⟩ | exact ⟨by show Ending.returned (.bool (!decide ((k : Int) < 128))) = _; rw [decide_eq_false (by omega)]; rfl, HB5.out⟩
    · rw [e2] at hq hq2 HTL
      rw [decide_eq_true rfl] at HTL
      clear e2
      go_wp2_with fail
      refine Calls.mono HST.out ?_
      rintro e w2 ⟨rfl, hw2⟩
      subst hw2
      go_wp2_with fail
      refine Calls.mono HTL.out ?_
      rintro e w3 ⟨rfl, hw3⟩
      subst hw3
      go_wp2_with fail
      refine Calls.mono HNM.out ?_
      rintro e w4 ⟨rfl, b4⟩
      have HB4 : Hid (Below w.heap.size w w4) := HB1.out.trans (b4.mono HB1.out.size)
      clear b4
      go_wp2_with fail
      refine Calls.mono (HRN.out w4) ?_
      rintro e w5 ⟨rfl, b5⟩
      have HB5 : Hid (Below w.heap.size w w5) := HB4.out.trans (b5.mono HB4.out.size)
      clear b5
      go_wp2
      go_ret
      first | exact ⟨rfl, HB5.out⟩ | exact ⟨by show Ending.returned (.bool (!decide ((k : Int) < 128))) = _; rw [decide_eq_false (by omega)]; rfl, HB5.out⟩
  · have g1 : ¬ (k : Int) < 128 := by omega
    rw [decide_eq_false h1] at HST
    rcases hm2 with e2 | e2
    · rw [e2] at hq hq2 HTL
      rw [decide_eq_false (by decide)] at HTL
      clear e2
      go_wp2_with fail
      refine Calls.mono HST.out ?_
      rintro e w2 ⟨rfl, hw2⟩
      subst hw2
      go_wp2_with fail
      refine Calls.mono HTL.out ?_
      rintro e w3 ⟨rfl, hw3⟩
      subst hw3
      go_wp2_with fail
      refine Calls.mono HNM.out ?_
      rintro e w4 ⟨rfl, b4⟩
      have HB4 : Hid (Below w.heap.size w w4) := HB1.out.trans (b4.mono HB1.out.size)
      clear b4
      go_wp2_with fail
      refine Calls.mono (HRN.out w4) ?_
      rintro e w5 ⟨rfl, b5⟩
      have HB5 : Hid (Below w.heap.size w w5) := HB4.out.trans (b5.mono HB4.out.size)
      clear b5
      go_wp2
      go_ret
      first | exact ⟨rfl, HB5.out⟩ | exact ⟨by show Ending.returned (.bool (!decide ((k : Int) < 128))) = _; rw [decide_eq_false (by omega)]; rfl, HB5.out⟩
    · rw [e2] at hq hq2 HTL
      rw [decide_eq_true rfl] at HTL
      clear e2
      go_wp2_with fail
      refine Calls.mono HST.out ?_
      rintro e w2 ⟨rfl, hw2⟩
      subst hw2
      go_wp2_with fail
      refine Calls.mono HTL.out ?_
      rintro e w3 ⟨rfl, hw3⟩
      subst hw3
      go_wp2_with fail
      refine Calls.mono HNM.out ?_
      rintro e w4 ⟨rfl, b4⟩
      have HB4 : Hid (Below w.heap.size w w4) := HB1.out.trans (b4.mono HB1.out.size)
      clear b4
      go_wp2_with fail
      refine Calls.mono (HRN.out w4) ?_
      rintro e w5 ⟨rfl, b5⟩
      have HB5 : Hid (Below w.heap.size w w5) := HB4.out.trans (b5.mono HB4.out.size)
      clear b5
      go_wp2
      go_ret
      first | exact ⟨rfl, HB5.out⟩ | exact ⟨by show Ending.returned (.bool (!decide ((k : Int) < 128))) = _; rw [decide_eq_false (by omega)]; rfl, HB5.out⟩
end Go.Proofs.YtifdfkkjmjabnabDoor
