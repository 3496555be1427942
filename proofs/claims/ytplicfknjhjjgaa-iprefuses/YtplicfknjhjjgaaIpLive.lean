/- What law10's live answers: true. -/
import Derived.Test.YtplicfknjhjjgaaIpPut
import Derived.Test.YtplicfknjhjjgaaIpTake
import Derived.Test.YtplicfknjhjjgaaIpSplit
import Derived.Test.YtplicfknjhjjgaaStr
import Derived.Lib.SlBytesConst
namespace Go.Proofs.Ytplicfknjhjjgaa
open Go.RowKit
def lvB : List Nat := [69, 0, 0, 21, 0, 1, 0, 0, 64, 132, 102, 98, 10, 0, 0, 1, 10, 0, 0, 2, 120]
theorem lv_put : ipV 167772161 167772162 132 64 1 false false 0 [120] = lvB := by decide +kernel
theorem lv_take : itE lvB = 0 ∧ itN lvB 12 4 = 167772161 ∧ itN lvB 16 4 = 167772162 ∧ itN lvB 9 1 = 132 ∧ itN lvB 8 1 = 64 ∧ itN lvB 4 2 = 1 ∧ itD lvB 16384 = false ∧ itD lvB 8192 = false ∧ itO lvB = 0 ∧ itB lvB = [120] := by decide +kernel
theorem lv_split : spE false false 0 20 36 = 0 ∧ spS 36 = 16 ∧ cutN 20 16 = 2 := by decide +kernel
set_option maxRecDepth 100000 in
set_option maxHeartbeats 1000000 in
theorem live10_any (w : World) :
    Calls Try.prog 10 #[] w fun e w' => e = .returned (.bool true) ∧ Below w.heap.size w w' := by
  have kc := fun (w : World) (C : Array Value) (n c : Nat) => Lib.run_convert_bytes_const (P := Try.prog) w 24 5 C n c Try.underlying24 Try.underlying5
  obtain ⟨w1, hw1⟩ : ∃ w1, w1 = w.alloc (.cells #[.int .u8 120] 5 (1, 2)) := ⟨_, rfl⟩
  have hb1 : Below w.heap.size w w1 := by rw [hw1]; exact (Below.refl _ _).alloc (Nat.le_refl _) _
  have hs1 : Sl w1 (some ⟨w.heap.size, 0, none⟩) 1 1 [120] := by rw [hw1]; exact sl_new w 5 (1, 2) [120] rfl (by decide) _ rfl
  have hpt := iput_any 167772161 167772162 132 64 1 false false 0 (some ⟨w.heap.size, 0, none⟩) 1 1 [120] w1 (by omega) (by omega) (by omega) (by omega) (by omega) hs1
  rw [show mbE false 0 1 = 0 from by decide +kernel, lv_put] at hpt
  go_enter Try.func10, Try.ntmps10
  go_wp2_with fail
  rw [← hw1]
  clear hw1 kc
  refine hpt.mono ?_
  rintro e w2 ⟨⟨a2, c2, rfl, o2⟩, b2⟩
  have bb2 : Below w.heap.size w w2 := hb1.trans (b2.mono hb1.size)
  rw [show lvB.length = 21 from rfl] at o2 ⊢
  clear hpt hb1 hs1 b2
  go_wp2_with fail
  refine (itake_any a2 21 c2 lvB w2 (o2.sl (by omega))).mono ?_
  obtain ⟨t0, t1, t2, t3, t4, t5, t6, t7, t8, t9⟩ := lv_take
  rintro e w3 ⟨⟨a3, c3, rfl, o3⟩, b3⟩
  rw [t0, t1, t2, t3, t4, t5, t6, t7, t8, t9, show ([120] : List Nat).length = 1 from rfl]
  rw [t9, show ([120] : List Nat).length = 1 from rfl] at o3
  have bb3 : Below w.heap.size w w3 := bb2.trans (b3.mono bb2.size)
  have hs3 := o3.sl (by omega)
  clear t0 t1 t2 t3 t4 t5 t6 t7 t8 t9 o2 bb2 b3 o3
  obtain ⟨w4, hw4⟩ : ∃ w4, w4 = w3.alloc (.cells #[.int .u32 167772161, .int .u32 167772162, .int .u8 132, .int .u8 64, .int .u16 1, .bool false, .bool false, .int .i64 0, .slice a3 1 c3] 26) := ⟨_, rfl⟩
  have b34 : Below w3.heap.size w3 w4 := by rw [hw4]; exact (Below.refl _ _).alloc (Nat.le_refl _) _
  have hP4 := Stc.new w3 [.int .u32 167772161, .int .u32 167772162, .int .u8 132, .int .u8 64, .int .u16 1, .bool false, .bool false, .int .i64 0, .slice a3 1 c3] 26 w4 hw4
  have hs4 := hs3.below b34
  have bb4 : Below w.heap.size w w4 := bb3.trans (b34.mono bb3.size)
  have mk : ∀ w, (Instr.makeSlice 24 (.int .i64 20) (.int .i64 20)).run Try.prog w = .ok (.slice (some ⟨w.heap.size, 0, none⟩) 20 20) (w.alloc (.cells (madeCells #[.int .u8 0] 20) 5)) := fun w => mkn 20 (by omega) w
  obtain ⟨CC, hCC⟩ : ∃ CC, CC = madeCells #[.int .u8 0] 20 := ⟨_, rfl⟩
  have oF := own_full w4 20 (by omega)
  rw [← hCC] at mk oF
  have HCC := (show Hid _ from hCC)
  clear hCC
  obtain ⟨w5, hw5⟩ : ∃ w5, w5 = w4.alloc (.cells CC 5) := ⟨_, rfl⟩
  rw [← hw5] at oF
  have b45 : Below w4.heap.size w4 w5 := by rw [hw5]; exact (Below.refl _ _).alloc (Nat.le_refl _) _
  have hP5 := hP4.below b45
  have hs5 := hs4.below b45
  have bb5 : Below w.heap.size w w5 := bb4.trans (b45.mono bb4.size)
  have HZ4 : Hid (w4.heap.size = w3.heap.size + 1) := by show _ = _; rw [hw4]; simp
  clear b34 hs3 bb3 hP4 hs4 bb4 b45
  go_wp2_with fail
  rw [← hw4, ← hw5, ← HZ4.out]
  clear hw4 hw5 mk
  have hz20 : (List.replicate 20 0 : List Nat).length = 20 := rfl
  refine (split_any 0 0 0 0 0 false false 0 (some ⟨w4.heap.size, 0, none⟩) 20 20 (List.replicate 20 0) 36 w5 (oF.sl (by omega)) (by decide)).mono ?_
  rintro e w6 ⟨⟨a6, c6, ps, rfl, k6, hR⟩, b6⟩
  obtain ⟨s1, s2, s3⟩ := lv_split
  have hps : ∃ g, ps = [cutP 0 0 0 0 0 false false 0 g 20 16 0, cutP 0 0 0 0 0 false false 0 g 20 16 1] := by
    unfold SpR at hR
    rw [hz20, s1, s2, s3] at hR
    rcases hR with ⟨h, _⟩ | ⟨_, h, _⟩ | ⟨_, _, _, _, g, cg, h, _⟩
    · exact absurd rfl h
    · omega
    · exact ⟨g, h⟩
  obtain ⟨g, rfl⟩ := hps
  rw [hz20, s1]
  have k6' : OwnK w6 w5.heap.size a6 2 c6 [cutP 0 0 0 0 0 false false 0 g 20 16 0, cutP 0 0 0 0 0 false false 0 g 20 16 1] := k6
  obtain ⟨gl, rfl, _, _, hc6, _, hcell⟩ := k6'.at_ (by omega)
  have l06 := hcell 0 _ rfl 6 _ rfl
  have l17 := hcell 1 _ rfl 7 _ rfl
  have hP6 := hP5.below b6
  have p1 := hP6.cell 1 _ rfl
  have p8 := hP6.cell 8 _ rfl
  have kk := conv_str (hs5.below b6)
  rw [show strOf [120] = ⟨#[120]⟩ from rfl] at kk
  have bb6 : Below w.heap.size w w6 := bb5.trans (b6.mono bb5.size)
  clear hcell k6 k6' hR s1 s2 s3 hP5 hP6 hs5 b6 bb5 oF hz20
  simp [cutP] at l06 l17
  go_wp2_with fail

  go_ret
  exact ⟨rfl, bb6⟩
end Go.Proofs.Ytplicfknjhjjgaa
