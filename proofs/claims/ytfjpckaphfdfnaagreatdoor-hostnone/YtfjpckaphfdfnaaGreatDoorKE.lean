/- From what the row lists to what the walk of HostNone asks (nothing). -/
import Derived.Test.YtfjpckaphfdfnaaGreatDoorKD
import Derived.Test.YtfjpckaphfdfnaaGreatDoorRows
import Derived.MakeChecks
namespace Go.Proofs.YtfjpckaphfdfnaaGreatDoor
open Go.RowKit
theorem hnone_of {n : Int} (h : (Lit.int .i64 n).wf = true) : -9223372036854775808 ≤ n ∧ n < 9223372036854775808 := by
  have := bounds_i64 h
  omega
theorem hnone_wrap {n : Int} (h : -9223372036854775808 ≤ n) (h' : n < 9223372036854775808) : IntKind.i64.wrap n = n := by rw [IntKind.wrap_i64]; omega
set_option linter.unusedVariables false in
set_option maxRecDepth 100000 in
set_option maxHeartbeats 4000000 in
theorem walk_HostNone (n : Int) (m : MgD) (a : Option Addr) (l c : Nat) (zs : List Nat) (w : World) (hn : (Lit.int .i64 n).wf = true) (hm : m.Wf w) (hb : SlK .u8 256 w a l c zs ∧ c * 1 ≤ 140737488351232) (hk : True) :
    Calls Tryz.prog 3 #[.int .i64 n, .agg m.vals.toArray, .slice a l c] w fun e w' => e = .returned (.bool true) ∧ Below w.heap.size w w' := by
  obtain ⟨mst, mss, mpp, mfr, mA, mN, mC, mZ⟩ := m
  unfold MgD.vals
  dsimp only
  have HN := (show Hid _ from hn)
  clear hm hb hn
  obtain ⟨V, hV⟩ : ∃ V, V = w.alloc (.cells #[.int .u16 (mst : Nat), .int .u16 (mss : Nat), .int .u32 (mpp : Nat), .bool mfr, .slice mA mN mC] 26) := ⟨_, rfl⟩
  have HB0 : Hid (Below w.heap.size w V) := by show Below _ _ _; rw [hV]; exact (Below.refl _ _).alloc (Nat.le_refl _) _
  have HSM := (show Hid _ from Stc.new w [.int .u16 (mst : Nat), .int .u16 (mss : Nat), .int .u32 (mpp : Nat), .bool mfr, .slice mA mN mC] 26 V hV)
  have HV := (show Hid _ from hV)
  have B0 : Hid (Below V.heap.size V V) := Below.refl _ _
  clear hV
  go_enter Tryz.func3, Tryz.ntmps3
  go_wp2_with fail
  rw [← HV.out]
  refine Calls.mono (hbind_nil _ V) ?_
  rintro e w1 ⟨rfl, b1⟩
  have B1 : Hid (Below V.heap.size V w1) := B0.out.trans (b1.mono B0.out.size)
  clear b1 B0
  go_wp2_with fail
  refine Calls.mono (haccept_nil n w1) ?_
  rintro e w2 ⟨rfl, b2⟩
  have B2 : Hid (Below V.heap.size V w2) := B1.out.trans (b2.mono B1.out.size)
  clear b2 B1
  go_wp2_with fail
  refine Calls.mono (hrecv_nil n w2) ?_
  rintro e w3 ⟨rfl, b3⟩
  have B3 : Hid (Below V.heap.size V w3) := B2.out.trans (b3.mono B2.out.size)
  clear b3 B2
  obtain ⟨w3b, hw3b⟩ : ∃ w3b, w3b = w3.alloc (.cells #[.int .u16 0, .int .u16 0, .int .u32 0, .bool false, .slice none 0 0] 26) := ⟨_, rfl⟩
  have B3b : Hid (Below V.heap.size V w3b) := B3.out.trans (by rw [hw3b]; exact ((Below.refl _ _).alloc (Nat.le_refl _) _).mono B3.out.size)
  have HW3 := (show Hid _ from hw3b)
  clear hw3b B3
  go_wp2_with fail
  rw [← HW3.out]
  refine Calls.mono (hnotice_nil n w3b) ?_
  rintro e w4 ⟨rfl, b4⟩
  have B4 : Hid (Below V.heap.size V w4) := B3b.out.trans (b4.mono B3b.out.size)
  clear b4 B3b
  go_wp2_with fail
  refine Calls.mono (hstate_nil n w4) ?_
  rintro e w5 ⟨rfl, b5⟩
  have B5 : Hid (Below V.heap.size V w5) := B4.out.trans (b5.mono B4.out.size)
  clear b5 B4
  go_wp2_with fail
  refine Calls.mono (htags_nil n w5) ?_
  rintro e w6 ⟨rfl, b6⟩
  have B6 : Hid (Below V.heap.size V w6) := B5.out.trans (b6.mono B5.out.size)
  clear b6 B5
  go_wp2_with fail
  refine Calls.mono (hout_nil n w6) ?_
  rintro e w7 ⟨rfl, b7⟩
  have B7 : Hid (Below V.heap.size V w7) := B6.out.trans (b7.mono B6.out.size)
  clear b7 B6
  go_wp2_with fail
  refine Calls.mono (hused_nil w7) ?_
  rintro e w8 ⟨rfl, b8⟩
  have B8 : Hid (Below V.heap.size V w8) := B7.out.trans (b8.mono B7.out.size)
  clear b8 B7
  go_wp2_with fail
  refine Calls.mono (hnear_nil n w8) ?_
  rintro e w9 ⟨rfl, b9⟩
  have B9 : Hid (Below V.heap.size V w9) := B8.out.trans (b9.mono B8.out.size)
  clear b9 B8
  have hzc := zeroCnt
  have heq : ∀ w, (Op.equalIn 9999 49 (.agg #[.int .i64 0, .int .i64 0, .int .i64 0, .int .i64 0]) (.agg #[.int .i64 0, .int .i64 0, .int .i64 0, .int .i64 0])).run Tryz.prog w = .ok true w := fun w => by kernel_rfl
  go_wp2_with fail
  refine Calls.mono (hcount_nil w9) ?_
  rintro e w10 ⟨rfl, b10⟩
  have B10 : Hid (Below V.heap.size V w10) := B9.out.trans (b10.mono B9.out.size)
  clear b10 B9
  go_wp2_with fail
  clear hzc heq
  refine Calls.mono (hlisten_nil n w10) ?_
  rintro e w11 ⟨rfl, b11⟩
  have B11 : Hid (Below V.heap.size V w11) := B10.out.trans (b11.mono B10.out.size)
  clear b11 B10
  go_wp2_with fail
  refine Calls.mono (hconnect_nil n 1 1 w11) ?_
  rintro e w12 ⟨rfl, b12⟩
  have B12 : Hid (Below V.heap.size V w12) := B11.out.trans (b12.mono B11.out.size)
  clear b12 B11
  have sm := HSM.out.below B12.out
  have m0 := sm.cell 0 _ rfl
  have m1 := sm.cell 1 _ rfl
  have m2 := sm.cell 2 _ rfl
  have m3 := sm.cell 3 _ rfl
  have m4 := sm.cell 4 _ rfl
  clear sm
  go_wp2_with fail
  refine Calls.mono (hsend_nil n (.int .u16 (mst : Nat)) (.int .u16 (mss : Nat)) (.int .u32 (mpp : Nat)) (.bool mfr) (.slice mA mN mC) w12) ?_
  rintro e w13 ⟨rfl, b13⟩
  have B13 : Hid (Below V.heap.size V w13) := B12.out.trans (b13.mono B12.out.size)
  clear b13 B12
  clear m0 m1 m2 m3 m4
  go_wp2_with fail
  refine Calls.mono (hshutdown_nil n w13) ?_
  rintro e w14 ⟨rfl, b14⟩
  have B14 : Hid (Below V.heap.size V w14) := B13.out.trans (b14.mono B13.out.size)
  clear b14 B13
  go_wp2_with fail
  refine Calls.mono (habort_nil n w14) ?_
  rintro e w15 ⟨rfl, b15⟩
  have B15 : Hid (Below V.heap.size V w15) := B14.out.trans (b15.mono B14.out.size)
  clear b15 B14
  go_wp2_with fail
  refine Calls.mono (hclose_nil n w15) ?_
  rintro e w16 ⟨rfl, b16⟩
  have B16 : Hid (Below V.heap.size V w16) := B15.out.trans (b16.mono B15.out.size)
  clear b16 B15
  go_wp2_with fail
  refine Calls.mono (hstep_nil n (.int .u64 1) w16) ?_
  rintro e w17 ⟨rfl, b17⟩
  have B17 : Hid (Below V.heap.size V w17) := B16.out.trans (b17.mono B16.out.size)
  clear b17 B16
  go_wp2_with fail
  refine Calls.mono (hframe_nil n (.slice a l c) w17) ?_
  rintro e w18 ⟨rfl, b18⟩
  have B18 : Hid (Below V.heap.size V w18) := B17.out.trans (b18.mono B17.out.size)
  clear b18 B17
  go_wp2_with fail
  refine Calls.mono (begun_any w18) ?_
  rintro e x1 ⟨p, q, sec, i, gi, o, g, nn, i2, gi2, o2, g2, n2, rfl, h1⟩
  have HO := (show Hid _ from hout_any h1 rfl rfl n)
  have H1 := (show Hid _ from h1)
  clear h1
  go_wp2_with fail
  refine Calls.mono HO.out ?_
  rintro e x2 ⟨rfl, b2⟩
  have HS := (show Hid _ from hstep_begun (HoW.below H1.out b2) n)
  clear HO H1 b2
  go_wp2_with fail
  refine Calls.mono HS.out ?_
  rintro e x3 ⟨rfl, s', R', C', h3, hz⟩
  have H3 := (show Hid _ from h3)
  have HZ := (show Hid _ from hz)
  have HLV := (show Hid _ from live17_any x3)
  clear h3 hz HS
  have hi64 : -9223372036854775808 ≤ n ∧ n < 9223372036854775808 := hnone_of HN.out
  go_wp2_with fail
  refine Calls.mono HLV.out ?_
  rintro e x4 ⟨rfl, b4⟩
  have HF : Hid (Below w.heap.size w x4) := HB0.out.trans ((B18.out.trans (((HoW.bel H3.out).trans (b4.mono (HoW.bel H3.out).size)).mono B18.out.size)).mono HB0.out.size)
  have H4 := (show Hid _ from HoW.below H3.out b4)
  have B18b : Hid (Below w.heap.size w w18) := HB0.out.trans (B18.out.mono HB0.out.size)
  clear H3 HLV b4 B18
  rcases (show n < 0 ∨ n = 0 ∨ n = 1 ∨ (2 ≤ n ∧ n ≤ 1099511627176) ∨ 1099511627176 < n by omega) with h | h | h | ⟨h, h'⟩ | h
  · rw [show ouE n = 2 from if_neg (by omega), show beE n = 2 from if_pos (by omega)]
    have g0 : (n != 0) = true := by simp; omega
    have g1 : (n != 1) = true := by simp; omega
    have g2 : ¬ 0 ≤ n := by omega
    have g3 : n ≤ 0 := by omega
    clear h hi64
    go_wp2
    go_ret
    exact ⟨rfl, HF.out⟩
  · subst h
    rw [show ouE 0 = 13 from rfl, show beE 0 = 0 from rfl]
    clear hi64
    go_wp2
    go_ret
    exact ⟨rfl, HF.out⟩
  · subst h
    rw [show ouE 1 = 13 from rfl, show beE 1 = 0 from rfl]
    have HST := (show Hid _ from hstep_bad H4.out 0 (.int .u64 1) (.inr (by rw [HZ.out rfl]; decide)))
    clear hi64
    go_wp2_with fail
    refine Calls.mono HST.out ?_
    rintro e x5 ⟨rfl, h5⟩
    have HF5 : Hid (Below w.heap.size w x5) := B18b.out.trans ((HoW.bel h5).mono B18b.out.size)
    clear h5
    go_wp2
    go_ret
    exact ⟨rfl, HF5.out⟩
  · rw [show ouE n = 2 from if_neg (by omega)]
    have hbe : beE n = 0 := if_neg (by omega)
    rw [hbe]
    have HST := (show Hid _ from hstep_bad H4.out (n - 1) (.int .u64 1) (.inr (by rw [HZ.out hbe]; omega)))
    rw [if_neg (by omega)] at HST
    have g0 : (n != 0) = true := by simp; omega
    have g1 : (n != 1) = true := by simp; omega
    have g2 : 0 ≤ n := by omega
    have g3 : ¬ n ≤ 0 := by omega
    have g4 : n ≤ 1099511627176 := h'
    have g5 : IntKind.i64.wrap (n - 1) = n - 1 := hnone_wrap (by omega) (by omega)
    clear h h' hi64 hbe
    go_wp2_with fail
    refine Calls.mono HST.out ?_
    rintro e x5 ⟨rfl, h5⟩
    have HF5 : Hid (Below w.heap.size w x5) := B18b.out.trans ((HoW.bel h5).mono B18b.out.size)
    clear h5
    go_wp2
    go_ret
    exact ⟨rfl, HF5.out⟩
  · rw [show ouE n = 2 from if_neg (by omega), show beE n = 2 from if_pos (by omega)]
    have g0 : (n != 0) = true := by simp; omega
    have g1 : (n != 1) = true := by simp; omega
    have g2 : 0 ≤ n := by omega
    have g3 : ¬ n ≤ 0 := by omega
    have g4 : decide (n ≤ 1099511627176) = false := by simp; omega
    clear h hi64
    go_wp2
    go_ret
    exact ⟨rfl, HF.out⟩
end Go.Proofs.YtfjpckaphfdfnaaGreatDoor
namespace Go.Proofs.YtfjpckaphfdfnaaGreatDoor.hostNone
theorem of_laid {W : World} (_h : laidMetH Tryz.prog Rows.hostNoneRow.laid W) : True := trivial
end Go.Proofs.YtfjpckaphfdfnaaGreatDoor.hostNone
