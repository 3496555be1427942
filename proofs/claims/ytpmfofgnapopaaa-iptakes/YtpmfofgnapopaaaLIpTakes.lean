/- Whatever bytes: the walk of law10.IpTakes ends with true. -/
import Derived.Test.YtpmfofgnapopaaaIpRTk
import Derived.Test.YtpmfofgnapopaaaIpLive
import Derived.Test.YtpmfofgnapopaaaIpSame
namespace Go.Proofs.Ytpmfofgnapopaaa
open Go.RowKit
set_option maxRecDepth 100000 in
set_option maxHeartbeats 2000000 in
theorem walk_IpTakes (a : Option Addr) (n c : Nat) (zs : List Nat) (w : World) (h0 : Sl w a n c zs ∧ c * 1 ≤ 140737488351232) :
    Calls Try.prog 4 #[.slice a n c] w fun e w' => e = .returned (.bool true) ∧ Below w.heap.size w w' := by
  obtain ⟨hs, hcb⟩ := h0
  clear hcb
  have hmB : (itB zs).length ≤ zs.length := by
    unfold itB
    split
    · rw [List.length_take, List.length_drop]; omega
    · simp
  rw [hs.len] at hmB
  have hsmB := hs.small
  obtain ⟨S, hS⟩ : ∃ x, x = itN zs 12 4 := ⟨_, rfl⟩
  obtain ⟨D, hD⟩ : ∃ x, x = itN zs 16 4 := ⟨_, rfl⟩
  obtain ⟨Q, hQ⟩ : ∃ x, x = itN zs 9 1 := ⟨_, rfl⟩
  obtain ⟨T, hT⟩ : ∃ x, x = itN zs 8 1 := ⟨_, rfl⟩
  obtain ⟨I, hI⟩ : ∃ x, x = itN zs 4 2 := ⟨_, rfl⟩
  obtain ⟨dn, hdn⟩ : ∃ x, x = itD zs 16384 := ⟨_, rfl⟩
  obtain ⟨mo, hmo⟩ : ∃ x, x = itD zs 8192 := ⟨_, rfl⟩
  obtain ⟨O, hO⟩ : ∃ x, x = itO zs := ⟨_, rfl⟩
  obtain ⟨E, hE⟩ : ∃ x, x = itE zs := ⟨_, rfl⟩
  obtain ⟨L, hL⟩ : ∃ x, x = itB zs := ⟨_, rfl⟩
  have HS := (show Hid _ from hS)
  have HD := (show Hid _ from hD)
  have HQ := (show Hid _ from hQ)
  have HT := (show Hid _ from hT)
  have HI := (show Hid _ from hI)
  have Hdn := (show Hid _ from hdn)
  have Hmo := (show Hid _ from hmo)
  have HO := (show Hid _ from hO)
  have HE := (show Hid _ from hE)
  have HL := (show Hid _ from hL)
  clear hS hD hQ hT hI hdn hmo hO hE hL
  go_enter Try.func4, Try.ntmps4
  go_wp2_with fail
  refine (itake_any a n c zs w hs).mono ?_
  rintro e w1 ⟨⟨a1, c1, rfl, hr1⟩, hb1⟩
  rw [← HS.out, ← HD.out, ← HQ.out, ← HT.out, ← HI.out, ← Hdn.out, ← Hmo.out, ← HO.out, ← HE.out, ← HL.out]
  rw [← HL.out] at hr1
  obtain ⟨m, hm⟩ : ∃ m, m = L.length := ⟨_, rfl⟩
  have hmle : m ≤ 281474976710656 := by rw [hm, HL.out]; omega
  rw [← hm] at hr1 ⊢
  clear hmB hsmB
  have HM := (show Hid _ from hm)
  clear hm
  obtain ⟨w2, hw2⟩ : ∃ w2, w2 = w1.alloc (.cells #[.int .u32 (S : Nat), .int .u32 (D : Nat), .int .u8 (Q : Nat), .int .u8 (T : Nat), .int .u16 (I : Nat), .bool dn, .bool mo, .int .i64 (O : Nat), .slice a1 m c1] 26) := ⟨_, rfl⟩
  have hb12 : Below w1.heap.size w1 w2 := by rw [hw2]; exact (Below.refl _ _).alloc (Nat.le_refl _) _
  have hX2 := Stc.new w1 [.int .u32 (S : Nat), .int .u32 (D : Nat), .int .u8 (Q : Nat), .int .u8 (T : Nat), .int .u16 (I : Nat), .bool dn, .bool mo, .int .i64 (O : Nat), .slice a1 m c1] 26 w2 hw2
  have hr2 := hr1.below hb12
  have hb02 : Below w.heap.size w w2 := hb1.trans (hb12.mono hb1.size)
  have hs2 := hs.below hb02
  clear hb1 hb12 hr1
  go_wp2_with fail
  rw [← hw2]
  clear hw2
  refine (ritake_any a n c zs w2 hs2).mono ?_
  rintro e w3 ⟨⟨a3, c3, rfl, hr3⟩, hb3⟩
  rw [← HS.out, ← HD.out, ← HQ.out, ← HT.out, ← HI.out, ← Hdn.out, ← Hmo.out, ← HO.out, ← HE.out, ← HL.out]
  rw [← HL.out] at hr3
  rw [← HM.out] at hr3 ⊢
  have hX3 := hX2.below hb3
  have hr23 := hr2.below hb3
  have hb03 : Below w.heap.size w w3 := hb02.trans (hb3.mono hb02.size)
  obtain ⟨w4, hw4⟩ : ∃ w4, w4 = w3.alloc (.cells #[.int .u32 (S : Nat), .int .u32 (D : Nat), .int .u8 (Q : Nat), .int .u8 (T : Nat), .int .u16 (I : Nat), .bool dn, .bool mo, .int .i64 (O : Nat), .slice a3 m c3] 26) := ⟨_, rfl⟩
  have hb34 : Below w3.heap.size w3 w4 := by rw [hw4]; exact (Below.refl _ _).alloc (Nat.le_refl _) _
  have hY4 := Stc.new w3 [.int .u32 (S : Nat), .int .u32 (D : Nat), .int .u8 (Q : Nat), .int .u8 (T : Nat), .int .u16 (I : Nat), .bool dn, .bool mo, .int .i64 (O : Nat), .slice a3 m c3] 26 w4 hw4
  have hX4 := hX3.below hb34
  have hr24 := hr23.below hb34
  have hr34 := hr3.below hb34
  have hb04 : Below w.heap.size w w4 := hb03.trans (hb34.mono hb03.size)
  clear hX2 hX3 hr2 hr3 hr23 hb02 hb3 hb34 hb03 hs2
  go_wp2_with fail
  rw [← hw4]
  clear hw4
  refine (live10_any w4).mono ?_
  rintro e w5 ⟨rfl, hb45⟩
  have hX5 := hX4.below hb45
  have hY5 := hY4.below hb45
  have hr25 := hr24.below hb45
  have hr35 := hr34.below hb45
  have hb05 : Below w.heap.size w w5 := hb04.trans (hb45.mono hb04.size)
  have x0 := hX5.cell 0 _ rfl
  have x1 := hX5.cell 1 _ rfl
  have x2 := hX5.cell 2 _ rfl
  have x3 := hX5.cell 3 _ rfl
  have x4 := hX5.cell 4 _ rfl
  have x5 := hX5.cell 5 _ rfl
  have x6 := hX5.cell 6 _ rfl
  have x7 := hX5.cell 7 _ rfl
  have x8 := hX5.cell 8 _ rfl
  have y0 := hY5.cell 0 _ rfl
  have y1 := hY5.cell 1 _ rfl
  have y2 := hY5.cell 2 _ rfl
  have y3 := hY5.cell 3 _ rfl
  have y4 := hY5.cell 4 _ rfl
  have y5 := hY5.cell 5 _ rfl
  have y6 := hY5.cell 6 _ rfl
  have y7 := hY5.cell 7 _ rfl
  have y8 := hY5.cell 8 _ rfl
  clear hX4 hY4 hr24 hr34 hb04 hb45
  go_wp2_with fail
  refine (isame_any S D Q T I dn mo (O : Int) a1 m c1 L a3 c3 w5 (hr25.sl hmle) (hr35.sl hmle)).mono ?_
  rintro e w6 ⟨rfl, hb6⟩
  go_wp2
  go_ret
  exact ⟨rfl, hb05.trans (hb6.mono hb05.size)⟩
end Go.Proofs.Ytpmfofgnapopaaa
