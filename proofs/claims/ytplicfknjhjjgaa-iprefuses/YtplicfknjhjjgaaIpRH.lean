/- What ip.readHead answers. -/
import Derived.Test.YtplicfknjhjjgaaIpRd
namespace Go.Proofs.Ytplicfknjhjjgaa
open Go.RowKit
theorem and_mask (v : Nat) (k : Nat) (h : v < 18446744073709551616) (hk : 2 ^ k - 1 < 18446744073709551616) : bits .and .u64 (v : Int) ((2 ^ k - 1 : Nat) : Int) = ((v % 2 ^ k : Nat) : Int) := by
  have e := u64_and_nat v (2 ^ k - 1) h hk
  rw [Nat.and_two_pow_sub_one_eq_mod] at e
  exact e
theorem and_bit (v : Nat) (k : Nat) (h : v < 18446744073709551616) (hk : 2 ^ k < 18446744073709551616) : bits .and .u64 (v : Int) ((2 ^ k : Nat) : Int) = ((v / 2 ^ k % 2 * 2 ^ k : Nat) : Int) := by
  have e := u64_and_nat v (2 ^ k) h hk
  have e2 : v &&& 2 ^ k = v / 2 ^ k % 2 * 2 ^ k := by
    have hh : v / 2 ^ k % 2 = 0 ∨ v / 2 ^ k % 2 = 1 := by omega
    apply Nat.eq_of_testBit_eq
    intro i
    rw [Nat.testBit_and, Nat.testBit_two_pow]
    rcases hh with h | h
    · rw [h, Nat.zero_mul, Nat.zero_testBit]
      by_cases hi : k = i
      · subst hi; simp [Nat.testBit_eq_decide_div_mod_eq, h]
      · simp [hi]
    · rw [h, Nat.one_mul, Nat.testBit_two_pow]
      by_cases hi : k = i
      · subst hi; simp [Nat.testBit_eq_decide_div_mod_eq, h]
      · simp [hi]
  rw [e2] at e
  exact e
/-- The bit's test, as the walk spells it. -/
theorem bit_test (v k : Nat) : (((v / 2 ^ k % 2 * 2 ^ k : Nat) : Int) != 0) = decide (v / 2 ^ k % 2 = 1) := by
  have hp : 0 < 2 ^ k := Nat.pow_pos (by omega)
  generalize 2 ^ k = P at *
  have : v / P % 2 = 0 ∨ v / P % 2 = 1 := by omega
  rcases this with h | h
  · simp [h]
  · rw [h, Nat.one_mul]
    simp
    omega
set_option maxRecDepth 100000 in
set_option maxHeartbeats 1000000 in
theorem readHead_any (a : Option Addr) (n c : Nat) (zs : List Nat) (w : World) (hs : Sl w a n c zs) :
    Calls Try.prog 41 #[.slice a n c] w fun e w' => e = .returned (.agg #[.int .u32 (numV zs 12 4 : Nat), .int .u32 (numV zs 16 4 : Nat), .int .u8 (numV zs 9 1 : Nat), .int .u8 (numV zs 8 1 : Nat), .int .u16 (numV zs 4 2 : Nat), .bool (decide (numV zs 6 2 / 16384 % 2 = 1)), .bool (decide (numV zs 6 2 / 8192 % 2 = 1)), .int .i64 ((numV zs 6 2 % 8192 * 8 : Nat) : Int), .slice none 0 0, .int .u64 (numV zs 0 1 / 16 : Nat), .int .i64 ((numV zs 0 1 % 16 * 4 : Nat) : Int), .int .i64 (numV zs 2 2 : Nat), .bool (decide (numV zs 6 2 / 32768 % 2 = 1))]) ∧ Below w.heap.size w w' := by
  obtain ⟨W0, hW0⟩ : ∃ W0, W0 = w.alloc (.cells #[.int .u32 0, .int .u32 0, .int .u8 0, .int .u8 0, .int .u16 0, .bool false, .bool false, .int .i64 0, .slice none 0 0, .int .u64 0, .int .i64 0, .int .i64 0, .bool false] 78) := ⟨_, rfl⟩
  obtain ⟨W1, hW1⟩ : ∃ W1, W1 = W0.alloc (.cells #[.int .u32 0, .int .u32 0, .int .u8 0, .int .u8 0, .int .u16 0, .bool false, .bool false, .int .i64 0, .slice none 0 0, .int .u64 0, .int .i64 0, .int .i64 0, .bool false] 78) := ⟨_, rfl⟩
  obtain ⟨W2, hW2⟩ : ∃ W2, W2 = W1.alloc (.cells #[.slice a n c] 24) := ⟨_, rfl⟩
  obtain ⟨W3, hW3⟩ : ∃ W3, W3 = W2.alloc (.cells #[.int .i64 0] 3) := ⟨_, rfl⟩
  have b0 : Below w.heap.size w W0 := by rw [hW0]; exact (Below.refl _ _).alloc (Nat.le_refl _) _
  have b1 : Below W0.heap.size W0 W1 := by rw [hW1]; exact (Below.refl _ _).alloc (Nat.le_refl _) _
  have b2 : Below W1.heap.size W1 W2 := by rw [hW2]; exact (Below.refl _ _).alloc (Nat.le_refl _) _
  have b3 : Below W2.heap.size W2 W3 := by rw [hW3]; exact (Below.refl _ _).alloc (Nat.le_refl _) _
  have z0 : W0.heap.size = w.heap.size + 1 := by rw [hW0]; simp
  have z1 : W1.heap.size = W0.heap.size + 1 := by rw [hW1]; simp
  have z2 : W2.heap.size = W1.heap.size + 1 := by rw [hW2]; simp
  have b23 : Below W1.heap.size W1 W3 := b2.trans (b3.mono b2.size)
  have b13 : Below W0.heap.size W0 W3 := b1.trans (b23.mono b1.size)
  have sr0 := (Stc.new w [.int .u32 0, .int .u32 0, .int .u8 0, .int .u8 0, .int .u16 0, .bool false, .bool false, .int .i64 0, .slice none 0 0, .int .u64 0, .int .i64 0, .int .i64 0, .bool false] 78 W0 hW0).below b13
  have sx0 := (Stc.new W0 [.int .u32 0, .int .u32 0, .int .u8 0, .int .u8 0, .int .u16 0, .bool false, .bool false, .int .i64 0, .slice none 0 0, .int .u64 0, .int .i64 0, .int .i64 0, .bool false] 78 W1 hW1).below b23
  have sb0 := (Stc.new W1 [.slice a n c] 24 W2 hW2).below b3
  have st0 := Stc.new W2 [.int .i64 0] 3 W3 hW3
  have d0 : HcS w W1.heap.size W2.heap.size (.slice a n c) W0.heap.size w.heap.size 0 [.int .u32 0, .int .u32 0, .int .u8 0, .int .u8 0, .int .u16 0, .bool false, .bool false, .int .i64 0, .slice none 0 0, .int .u64 0, .int .i64 0, .int .i64 0, .bool false] [.int .u32 0, .int .u32 0, .int .u8 0, .int .u8 0, .int .u16 0, .bool false, .bool false, .int .i64 0, .slice none 0 0, .int .u64 0, .int .i64 0, .int .i64 0, .bool false] W3 := ⟨sb0, st0, sx0, sr0, by omega, by omega, by omega, by omega, by omega, by omega, by omega, by omega, Nat.le_refl _, b0.trans (b13.mono b0.size)⟩
  have HZ0 := (show Hid _ from z0)
  have HZ1 := (show Hid _ from z1)
  have HZ2 := (show Hid _ from z2)
  have HW2 := (show Hid _ from hW2)
  have HW3 := (show Hid _ from hW3)
  clear sr0 sx0 sb0 st0 b0 b1 b2 b3 b23 b13 z0 z1 z2 hW2 hW3
  obtain ⟨V0, hV0⟩ : ∃ V, V = numV zs 0 1 := ⟨_, rfl⟩
  have qV0 : V0 < 256 := by rw [hV0]; exact numV_lt zs 0 1 hs.bnd
  obtain ⟨WH, hWH⟩ : ∃ V, V = numV zs 2 2 := ⟨_, rfl⟩
  have qWH : WH < 65536 := by rw [hWH]; exact numV_lt zs 2 2 hs.bnd
  obtain ⟨ID, hID⟩ : ∃ V, V = numV zs 4 2 := ⟨_, rfl⟩
  have qID : ID < 65536 := by rw [hID]; exact numV_lt zs 4 2 hs.bnd
  obtain ⟨BT, hBT⟩ : ∃ V, V = numV zs 6 2 := ⟨_, rfl⟩
  have qBT : BT < 65536 := by rw [hBT]; exact numV_lt zs 6 2 hs.bnd
  obtain ⟨TT, hTT⟩ : ∃ V, V = numV zs 8 1 := ⟨_, rfl⟩
  have qTT : TT < 256 := by rw [hTT]; exact numV_lt zs 8 1 hs.bnd
  obtain ⟨PR, hPR⟩ : ∃ V, V = numV zs 9 1 := ⟨_, rfl⟩
  have qPR : PR < 256 := by rw [hPR]; exact numV_lt zs 9 1 hs.bnd
  obtain ⟨SR, hSR⟩ : ∃ V, V = numV zs 12 4 := ⟨_, rfl⟩
  have qSR : SR < 4294967296 := by rw [hSR]; exact numV_lt zs 12 4 hs.bnd
  obtain ⟨DS, hDS⟩ : ∃ V, V = numV zs 16 4 := ⟨_, rfl⟩
  have qDS : DS < 4294967296 := by rw [hDS]; exact numV_lt zs 16 4 hs.bnd
  rw [← hV0, ← hWH, ← hID, ← hBT, ← hTT, ← hPR, ← hSR, ← hDS]
  have HV0 := (show Hid _ from hV0.symm)
  have HWH := (show Hid _ from hWH.symm)
  have HID := (show Hid _ from hID.symm)
  have HBT := (show Hid _ from hBT.symm)
  have HTT := (show Hid _ from hTT.symm)
  have HPR := (show Hid _ from hPR.symm)
  have HSR := (show Hid _ from hSR.symm)
  have HDS := (show Hid _ from hDS.symm)
  clear hV0 hWH hID hBT hTT hPR hSR hDS
  go_enter Try.func41, Try.ntmps41
  go_wp2_with fail
  rw [← hW0, ← hW1]
  clear hW0 hW1
  refine (reading_any a n c W1).mono ?_
  rintro e w' ⟨rfl, hw'⟩
  rw [← HW2.out, ← HW3.out] at hw'
  subst hw'
  rw [← HZ2.out, ← HZ0.out]
  go_wp2_with fail
  refine (d0.cut zs hs 1 (by omega)).mono ?_
  rintro e w0 ⟨rfl, d1⟩
  rw [show numV zs ((0 : Nat) : Int) ((1 : Nat) : Int) = V0 from HV0.out]
  clear d0
  have x9 := d1.sx.cell 9 _ rfl
  have x9f := d1.sx.free 9
  have x10 := d1.sx.cell 10 _ rfl
  have x10f := d1.sx.free 10
  have hand : bits .and .u64 (V0 : Int) 15 = ((V0 % 16 : Nat) : Int) := and_mask V0 4 (by omega) (by omega)
  have d1' := (d1.set 9 (.int .u64 ((V0 : Int) / 16))).set 10 (.int .i64 ((V0 : Int) % 16 * 4))
  clear d1
  go_wp2_with fail
  refine (d1'.cut zs hs 1 (by omega)).mono ?_
  rintro e w2 ⟨rfl, d2⟩
  generalize numV zs ((0 + 1 : Nat) : Int) ((1 : Nat) : Int) = j2
  clear d1' x9 x9f x10 x10f hand
  go_wp2_with fail
  refine (d2.cut zs hs 2 (by omega)).mono ?_
  rintro e w3 ⟨rfl, d3⟩
  rw [show numV zs ((0 + 1 + 1 : Nat) : Int) ((2 : Nat) : Int) = WH from HWH.out]
  clear d2 
  have x11 := d3.sx.cell 11 _ rfl
  have x11f := d3.sx.free 11
  have d3' := d3.set 11 (.int .i64 (WH : Nat))
  clear d3
  go_wp2_with fail
  refine (d3'.cut zs hs 2 (by omega)).mono ?_
  rintro e w4 ⟨rfl, d4⟩
  rw [show numV zs ((0 + 1 + 1 + 2 : Nat) : Int) ((2 : Nat) : Int) = ID from HID.out]
  clear d3' x11 x11f
  have x4 := d4.sx.cell 4 _ rfl
  have x4f := d4.sx.free 4
  have m4 : (ID : Int) % 65536 = (ID : Int) := by omega
  have d4' := d4.set 4 (.int .u16 (ID : Nat))
  clear d4
  go_wp2_with fail
  refine (d4'.cut zs hs 2 (by omega)).mono ?_
  rintro e w5 ⟨rfl, d5⟩
  rw [show numV zs ((0 + 1 + 1 + 2 + 2 : Nat) : Int) ((2 : Nat) : Int) = BT from HBT.out]
  clear d4' x4 x4f m4
  obtain ⟨D15, hD15⟩ : ∃ D, D = BT / 2 ^ 15 % 2 * 2 ^ 15 := ⟨_, rfl⟩
  obtain ⟨D14, hD14⟩ : ∃ D, D = BT / 2 ^ 14 % 2 * 2 ^ 14 := ⟨_, rfl⟩
  obtain ⟨D13, hD13⟩ : ∃ D, D = BT / 2 ^ 13 % 2 * 2 ^ 13 := ⟨_, rfl⟩
  obtain ⟨o15, ho15⟩ : ∃ b, b = decide (BT / 32768 % 2 = 1) := ⟨_, rfl⟩
  obtain ⟨o14, ho14⟩ : ∃ b, b = decide (BT / 16384 % 2 = 1) := ⟨_, rfl⟩
  obtain ⟨o13, ho13⟩ : ∃ b, b = decide (BT / 8192 % 2 = 1) := ⟨_, rfl⟩
  have a15 : bits .and .u64 (BT : Int) 32768 = (D15 : Int) := by rw [hD15]; exact and_bit BT 15 (by omega) (by omega)
  have a14 : bits .and .u64 (BT : Int) 16384 = (D14 : Int) := by rw [hD14]; exact and_bit BT 14 (by omega) (by omega)
  have a13 : bits .and .u64 (BT : Int) 8192 = (D13 : Int) := by rw [hD13]; exact and_bit BT 13 (by omega) (by omega)
  have t15 : ((D15 : Int) != 0) = o15 := by rw [hD15, ho15]; exact bit_test BT 15
  have t14 : ((D14 : Int) != 0) = o14 := by rw [hD14, ho14]; exact bit_test BT 14
  have t13 : ((D13 : Int) != 0) = o13 := by rw [hD13, ho13]; exact bit_test BT 13
  have amk : bits .and .u64 (BT : Int) 8191 = ((BT % 8192 : Nat) : Int) := and_mask BT 13 (by omega) (by omega)
  have HO15 := (show Hid _ from ho15)
  have HO14 := (show Hid _ from ho14)
  have HO13 := (show Hid _ from ho13)
  clear hD15 hD14 hD13 ho15 ho14 ho13
  have x12 := d5.sx.cell 12 _ rfl
  have x12f := d5.sx.free 12
  have x5 := d5.sx.cell 5 _ rfl
  have x5f := d5.sx.free 5
  have x6 := d5.sx.cell 6 _ rfl
  have x6f := d5.sx.free 6
  have x7 := d5.sx.cell 7 _ rfl
  have x7f := d5.sx.free 7
  have d5' := (((d5.set 12 (.bool o15)).set 5 (.bool o14)).set 6 (.bool o13)).set 7 (.int .i64 ((BT : Int) % 8192 * 8))
  clear d5
  go_wp2_with fail
  refine (d5'.cut zs hs 1 (by omega)).mono ?_
  rintro e w6 ⟨rfl, d6⟩
  rw [show numV zs ((0 + 1 + 1 + 2 + 2 + 2 : Nat) : Int) ((1 : Nat) : Int) = TT from HTT.out]
  clear d5' x12 x12f x5 x5f x6 x6f x7 x7f a15 a14 a13 t15 t14 t13 amk
  have x3 := d6.sx.cell 3 _ rfl
  have x3f := d6.sx.free 3
  have m3 : (TT : Int) % 256 = (TT : Int) := by omega
  have d6' := d6.set 3 (.int .u8 (TT : Nat))
  clear d6
  go_wp2_with fail
  refine (d6'.cut zs hs 1 (by omega)).mono ?_
  rintro e w7 ⟨rfl, d7⟩
  rw [show numV zs ((0 + 1 + 1 + 2 + 2 + 2 + 1 : Nat) : Int) ((1 : Nat) : Int) = PR from HPR.out]
  clear d6' x3 x3f m3
  have x2 := d7.sx.cell 2 _ rfl
  have x2f := d7.sx.free 2
  have m2 : (PR : Int) % 256 = (PR : Int) := by omega
  have d7' := d7.set 2 (.int .u8 (PR : Nat))
  clear d7
  go_wp2_with fail
  refine (d7'.cut zs hs 2 (by omega)).mono ?_
  rintro e w8 ⟨rfl, d8⟩
  generalize numV zs ((0 + 1 + 1 + 2 + 2 + 2 + 1 + 1 : Nat) : Int) ((2 : Nat) : Int) = j8
  clear d7' x2 x2f m2
  go_wp2_with fail
  refine (d8.cut zs hs 4 (by omega)).mono ?_
  rintro e w9 ⟨rfl, d9⟩
  rw [show numV zs ((0 + 1 + 1 + 2 + 2 + 2 + 1 + 1 + 2 : Nat) : Int) ((4 : Nat) : Int) = SR from HSR.out]
  clear d8 
  have x0 := d9.sx.cell 0 _ rfl
  have x0f := d9.sx.free 0
  have m0 : (SR : Int) % 4294967296 = (SR : Int) := by omega
  have d9' := d9.set 0 (.int .u32 (SR : Nat))
  clear d9
  go_wp2_with fail
  refine (d9'.cut zs hs 4 (by omega)).mono ?_
  rintro e w10 ⟨rfl, d10⟩
  rw [show numV zs ((0 + 1 + 1 + 2 + 2 + 2 + 1 + 1 + 2 + 4 : Nat) : Int) ((4 : Nat) : Int) = DS from HDS.out]
  clear d9' x0 x0f m0
  have x1f := d10.sx.free 1
  have m1 : (DS : Int) % 4294967296 = (DS : Int) := by omega
  have x0 := d10.sx.cell 0 _ rfl
  have r0 := d10.sr.cell 0 _ rfl
  have r0f := d10.sr.free 0
  have x1 := d10.sx.cell 1 _ rfl
  have r1 := d10.sr.cell 1 _ rfl
  have r1f := d10.sr.free 1
  have x2 := d10.sx.cell 2 _ rfl
  have r2 := d10.sr.cell 2 _ rfl
  have r2f := d10.sr.free 2
  have x3 := d10.sx.cell 3 _ rfl
  have r3 := d10.sr.cell 3 _ rfl
  have r3f := d10.sr.free 3
  have x4 := d10.sx.cell 4 _ rfl
  have r4 := d10.sr.cell 4 _ rfl
  have r4f := d10.sr.free 4
  have x5 := d10.sx.cell 5 _ rfl
  have r5 := d10.sr.cell 5 _ rfl
  have r5f := d10.sr.free 5
  have x6 := d10.sx.cell 6 _ rfl
  have r6 := d10.sr.cell 6 _ rfl
  have r6f := d10.sr.free 6
  have x7 := d10.sx.cell 7 _ rfl
  have r7 := d10.sr.cell 7 _ rfl
  have r7f := d10.sr.free 7
  have x8 := d10.sx.cell 8 _ rfl
  have r8 := d10.sr.cell 8 _ rfl
  have r8f := d10.sr.free 8
  have x9 := d10.sx.cell 9 _ rfl
  have r9 := d10.sr.cell 9 _ rfl
  have r9f := d10.sr.free 9
  have x10 := d10.sx.cell 10 _ rfl
  have r10 := d10.sr.cell 10 _ rfl
  have r10f := d10.sr.free 10
  have x11 := d10.sx.cell 11 _ rfl
  have r11 := d10.sr.cell 11 _ rfl
  have r11f := d10.sr.free 11
  have x12 := d10.sx.cell 12 _ rfl
  have r12 := d10.sr.cell 12 _ rfl
  have r12f := d10.sr.free 12
  have d11 := ((((((((((((((d10.set 1 (.int .u32 (DS : Nat))).setR 0 (.int .u32 (SR : Nat))).setR 1 (.int .u32 (DS : Nat))).setR 2 (.int .u8 (PR : Nat))).setR 3 (.int .u8 (TT : Nat))).setR 4 (.int .u16 (ID : Nat))).setR 5 (.bool o14)).setR 6 (.bool o13)).setR 7 (.int .i64 ((BT : Int) % 8192 * 8))).setR 8 (.slice none 0 0)).setR 9 (.int .u64 ((V0 : Int) / 16))).setR 10 (.int .i64 ((V0 : Int) % 16 * 4))).setR 11 (.int .i64 (WH : Nat))).setR 12 (.bool o15))
  have HBF := (show Hid _ from d11.bel)
  have HRG := (show Hid _ from d11.sr.range)
  clear d11 d10
  have hwq : w.heap.size < W0.heap.size := by have := HZ0.out; omega
  go_wp2
  try simp only [Exit.inBlock, Exit.then]
  refine bodyPost_ret (results_cellE rfl _ _ w.heap.size 0 [.int .u32 (SR : Nat), .int .u32 (DS : Nat), .int .u8 (PR : Nat), .int .u8 (TT : Nat), .int .u16 (ID : Nat), .bool o14, .bool o13, .int .i64 ((BT : Int) % 8192 * 8), .slice none 0 0, .int .u64 ((V0 : Int) / 16), .int .i64 ((V0 : Int) % 16 * 4), .int .i64 (WH : Nat), .bool o15] _ rfl HRG.out Try.underlying78 rfl (by kernel_rfl)) rfl ?_
  exact ⟨by rw [HO15.out, HO14.out, HO13.out]; simp, HBF.out⟩
end Go.Proofs.Ytplicfknjhjjgaa
