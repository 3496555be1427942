/- What law08's live answers: true. -/
import Derived.Test.YtplicfknjhjjgaaDoorEtArp2
import Derived.Test.YtplicfknjhjjgaaDoorEtMac
import Derived.Lib.SlBytesConst
import Derived.Deep.QuietTactic
import Derived.BigQuiet
namespace Go.Proofs.YtplicfknjhjjgaaDoor
open Go.RowKit
set_option maxRecDepth 100000 in
set_option maxHeartbeats 2000000 in
theorem live8_any (w : World) :
    Calls Tryd.prog 8 #[] w fun e w' => e = .returned (.bool true) ∧ Below w.heap.size w w' := by
  have kc := fun (w : World) (C : Array Value) (n c : Nat) => Lib.run_convert_bytes_const (P := Tryd.prog) w 30 5 C n c Tryd.underlying30 Tryd.underlying5
  obtain ⟨w1, hw1⟩ : ∃ w1, w1 = w.alloc (.cells #[.int .u8 120] 5 (1, 2)) := ⟨_, rfl⟩
  have hb1 : Below w.heap.size w w1 := by rw [hw1]; exact (Below.refl _ _).alloc (Nat.le_refl _) _
  have hs1 : Sl w1 (some ⟨w.heap.size, 0, none⟩) 1 1 [120] := by rw [hw1]; exact sl_new w 5 (1, 2) [120] rfl (by decide) _ rfl
  have hpt := put_any 1 2 2048 (some ⟨w.heap.size, 0, none⟩) 1 1 [120] w1 (by omega) (by omega) (by omega) hs1
  rw [show epE 1 2 2048 1 = 0 from rfl, show epV 1 2 2048 [120] = [0, 0, 0, 0, 0, 1, 0, 0, 0, 0, 0, 2, 8, 0, 120] from by decide +kernel] at hpt
  go_enter Tryd.func8, Tryd.ntmps8
  go_wp2_with fail
  rw [← hw1]
  clear hw1 kc
  refine hpt.mono ?_
  rintro e w2 ⟨⟨a2, c2, rfl, ho2⟩, hb12⟩
  have hb2 : Below w.heap.size w w2 := hb1.trans (hb12.mono hb1.size)
  have hpa := putArp_ok 1 5 6 0 0 w2 (.inl rfl) (by omega) (by omega) (by omega) (by omega)
  rw [show arpB 1 5 6 0 0 = [0, 1, 8, 0, 6, 4, 0, 1, 0, 0, 0, 0, 0, 5, 0, 0, 0, 6, 0, 0, 0, 0, 0, 0, 0, 0, 0, 0] from by decide +kernel] at hpa
  clear hpt hb1 hb12 hs1
  go_wp2_with fail
  refine hpa.mono ?_
  rintro e w3 ⟨⟨a3, c3, rfl, ho3⟩, hb23⟩
  have hb3 : Below w.heap.size w w3 := hb2.trans (hb23.mono hb2.size)
  have ho23 := ho2.below hb23
  clear hpa hb2 hb23 ho2
  go_wp2_with fail
  refine (macText_ok 10 w3 (by omega)).mono ?_
  rintro e w4 ⟨rfl, hb34⟩
  have hb4 : Below w.heap.size w w4 := hb3.trans (hb34.mono hb3.size)
  have ho24 := ho23.below hb34
  have ho34 := ho3.below hb34
  rw [mac10]
  clear hb3 hb34 ho23 ho3
  rcases (ho24.sl (by simp)).at_ with h0 | ⟨g2, o2, rfl, hlt2, hc2⟩
  · simp at h0
  rcases (ho34.sl (by simp)).at_ with h0 | ⟨g3, o3, rfl, hlt3, hc3⟩
  · simp at h0
  have x5 := hc2 5 (by simp)
  have x12 := hc2 12 (by simp)
  have y13 := hc3 13 (by simp)
  simp at x5 x12 y13
  clear hc2 hc3 ho24 ho34
  go_wp2_with fail
  go_ret
  exact ⟨rfl, hb4⟩
end Go.Proofs.YtplicfknjhjjgaaDoor
