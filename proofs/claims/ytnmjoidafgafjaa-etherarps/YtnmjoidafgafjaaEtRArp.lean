/- What the reference's PutArp answers. -/
import Derived.Test.YtnmjoidafgafjaaEtPArp
import Derived.Test.YtnmjoidafgafjaaEtRPut
namespace Go.Proofs.Ytnmjoidafgafjaa
open Go.RowKit
theorem own_lit (w : World) (L : List Nat) (hb : L.all (· < 256) = true) (hn : L.length ≤ 1000) : OwnB (w.alloc (.cells (vals L).toArray 5)) w.heap.size (some ⟨w.heap.size, 0, none⟩) L.length L.length L := by
  refine ⟨rfl, ⟨by simp [vals], .inr ⟨w.heap.size, L.length, (vals L).toArray, rfl, Nat.le_refl _, ?_, Nat.le_refl _, by unfold maxLen; omega, by simp [vals], ?_⟩⟩, getD_bnd L hb⟩
  · show (w.heap.push _)[w.heap.size]? = _
    simp
  · rw [List.take_of_length_le (by simp [vals])]
set_option maxRecDepth 100000 in
set_option maxHeartbeats 4000000 in
theorem rputArp_any (op : Int) (fm fi tm ti : Nat) (w : World) (hfm : fm < 18446744073709551616) (hfi : fi < 4294967296) (htm : tm < 18446744073709551616) (hti : ti < 4294967296) :
    Calls Try.prog 15 #[.agg #[.int .i64 op, .int .u64 (fm : Nat), .int .u32 (fi : Nat), .int .u64 (tm : Nat), .int .u32 (ti : Nat)]] w fun e w' => RowE w (paV op fm fi tm ti) (paE op fm tm) e w' := by
  have hct := fun W => card_any fm W hfm
  have hcf := fun W => card_any tm W htm
  have hbW : Below w.heap.size w (w.alloc (.cells #[.int .i64 op, .int .u64 (fm : Nat), .int .u32 (fi : Nat), .int .u64 (tm : Nat), .int .u32 (ti : Nat)] 38)) := (Below.refl _ _).alloc (Nat.le_refl _) _
  by_cases h1 : op = 1 ∨ op = 2
  case neg =>
    have q1 : (op != 1) = true := by simp; omega
    have q2 : (op != 2) = true := by simp; omega
    clear hct hcf
    have HE : Hid (paE op fm tm = 2) := by show _ = _; unfold paE; rw [if_neg (by omega)]
    have HV : Hid (paV op fm fi tm ti = []) := by show _ = _; unfold paV; rw [HE.out]; rfl
    go_enter Try.func15, Try.ntmps15
    go_wp2
    go_ret2
    rw [HE.out, HV.out]
    exact ⟨⟨none, 0, rfl, OwnB.nil _ _⟩, hbW⟩
  case pos =>
  by_cases h2 : fm < 281474976710656
  case neg =>
    rw [decide_eq_false h2] at hct
    have HE : Hid (paE op fm tm = 2) := by show _ = _; unfold paE; rw [if_neg (by omega)]
    have HV : Hid (paV op fm fi tm ti = []) := by show _ = _; unfold paV; rw [HE.out]; rfl
    rcases h1 with rfl | rfl
    all_goals
      clear hcf
      go_enter Try.func15, Try.ntmps15
      go_wp2_with fail
      refine (hct _).mono ?_
      rintro e w' ⟨rfl, hw'⟩
      subst w'
      go_wp2
      go_ret2
      rw [HE.out, HV.out]
      exact ⟨⟨none, 0, rfl, OwnB.nil _ _⟩, hbW⟩
  case pos =>
  by_cases h3 : tm < 281474976710656
  case neg =>
    rw [decide_eq_true h2] at hct
    rw [decide_eq_false h3] at hcf
    have HE : Hid (paE op fm tm = 2) := by show _ = _; unfold paE; rw [if_neg (by omega)]
    have HV : Hid (paV op fm fi tm ti = []) := by show _ = _; unfold paV; rw [HE.out]; rfl
    rcases h1 with rfl | rfl
    all_goals
      skip
      go_enter Try.func15, Try.ntmps15
      go_wp2_with fail
      refine (hct _).mono ?_
      rintro e w' ⟨rfl, hw'⟩
      subst w'
      go_wp2_with fail
      refine (hcf _).mono ?_
      rintro e w' ⟨rfl, hw'⟩
      subst w'
      go_wp2
      go_ret2
      rw [HE.out, HV.out]
      exact ⟨⟨none, 0, rfl, OwnB.nil _ _⟩, hbW⟩
  case pos =>
  rw [decide_eq_true h2] at hct
  rw [decide_eq_true h3] at hcf
  by_cases h4 : op = 1
  case pos =>
    subst h4
    have HE : Hid (paE 1 fm tm = 0) := by show _ = _; unfold paE; rw [if_pos ⟨by decide, h2, h3⟩]
    have HV : Hid (paV 1 fm fi tm ti = ((([0, 1, 8, 0, 6, 4, 0, 1] ++ bytesB fm 6) ++ bytesB fi 4) ++ bytesB tm 6) ++ bytesB ti 4) := by show _ = _; unfold paV; rw [HE.out]; rfl
    obtain ⟨W, hW⟩ : ∃ W, W = w.alloc (.cells #[.int .i64 1, .int .u64 (fm : Nat), .int .u32 (fi : Nat), .int .u64 (tm : Nat), .int .u32 (ti : Nat)] 38) := ⟨_, rfl⟩
    have hX := Stc.new w [.int .i64 1, .int .u64 (fm : Nat), .int .u32 (fi : Nat), .int .u64 (tm : Nat), .int .u32 (ti : Nat)] 38 W hW
    rw [← hW] at hbW
    have x0 := hX.cell 0 _ rfl
    have x1 := hX.cell 1 _ rfl
    have x3 := hX.cell 3 _ rfl
    obtain ⟨W2, hW2⟩ : ∃ W2, W2 = W.alloc (.cells #[.int .u8 0, .int .u8 1, .int .u8 8, .int .u8 0, .int .u8 6, .int .u8 4, .int .u8 0, .int .u8 1] 5) := ⟨_, rfl⟩
    have o0 : OwnB W2 W.heap.size (some ⟨W.heap.size, 0, none⟩) 8 8 [0, 1, 8, 0, 6, 4, 0, 1] := by rw [hW2]; exact own_lit W [0, 1, 8, 0, 6, 4, 0, 1] (by decide) (by decide)
    have bW2 : Below W.heap.size W W2 := by rw [hW2]; exact (Below.refl _ _).alloc (Nat.le_refl _) _
    have hX2 := hX.below bW2
    have y1 := hX2.cell 1 _ rfl
    have y1' := y1
    rw [hW2] at y1'
    have hz2 := bW2.size
    obtain ⟨L0, hL0⟩ : ∃ L0 : List Nat, L0 = [0, 1, 8, 0, 6, 4, 0, 1] := ⟨_, rfl⟩
    obtain ⟨L1, hL1⟩ : ∃ L1, L1 = L0 ++ bytesB fm 6 := ⟨_, rfl⟩
    obtain ⟨L2, hL2⟩ : ∃ L2, L2 = L1 ++ bytesB fi 4 := ⟨_, rfl⟩
    obtain ⟨L3, hL3⟩ : ∃ L3, L3 = L2 ++ bytesB tm 6 := ⟨_, rfl⟩
    obtain ⟨L4, hL4⟩ : ∃ L4, L4 = L3 ++ bytesB ti 4 := ⟨_, rfl⟩
    have k0 : L0.length = 8 := by rw [hL0]; rfl
    have k1 : L1.length = 14 := by rw [hL1]; simp [bytesB_len, k0]
    have k2 : L2.length = 18 := by rw [hL2]; simp [bytesB_len, k1]
    have k3 : L3.length = 24 := by rw [hL3]; simp [bytesB_len, k2]
    have k4 : L4.length = 28 := by rw [hL4]; simp [bytesB_len, k3]
    rw [← hL0, ← hL1, ← hL2, ← hL3, ← hL4] at HV
    rw [← hL0] at o0
    have H1 := (show Hid _ from hL1)
    have H2 := (show Hid _ from hL2)
    have H3 := (show Hid _ from hL3)
    have H4 := (show Hid _ from hL4)
    have K1 := (show Hid _ from k1)
    have K2 := (show Hid _ from k2)
    have K3 := (show Hid _ from k3)
    have K4 := (show Hid _ from k4)
    clear hL0 hL1 hL2 hL3 hL4 k0 k1 k2 k3 k4 h1
    go_enter Try.func15, Try.ntmps15
    go_wp2_with fail
    rw [← hW]
    clear hW
    refine (hct _).mono ?_
    rintro e w' ⟨rfl, hw'⟩
    subst w'
    go_wp2_with fail
    refine (hcf _).mono ?_
    rintro e w' ⟨rfl, hw'⟩
    subst w'
    go_wp2_with fail
    rw [← hW2]
    clear hW2 y1'
    refine (rlay_any W.heap.size (some ⟨W.heap.size, 0, none⟩) 8 8 L0 fm 6 W2 o0 hz2 (by show fm < 256 ^ 6; omega) (by omega) (by omega) (by omega)).mono ?_
    rintro e w1 ⟨⟨a1, c1, rfl, o1⟩, b1⟩
    rw [← H1.out, K1.out] at o1 ⊢
    have b01 : Below W.heap.size W w1 := bW2.trans b1
    have hz1 := b01.size
    have hX3 := hX.below b01
    have y2 := hX3.cell 2 _ rfl
    clear o0 y1 x0 x1 x3 hX2 b1
    go_wp2_with fail
    refine (rlay_any W.heap.size a1 14 c1 L1 fi 4 w1 o1 hz1 (by show fi < 256 ^ 4; omega) (by omega) (by omega) (by omega)).mono ?_
    rintro e w2 ⟨⟨a2, c2, rfl, o2⟩, b2⟩
    rw [← H2.out, K2.out] at o2 ⊢
    have b02 : Below W.heap.size W w2 := b01.trans b2
    have hz2 := b02.size
    have hX4 := hX.below b02
    have y3 := hX4.cell 3 _ rfl
    clear o1 y2 hX3 b2
    go_wp2_with fail
    refine (rlay_any W.heap.size a2 18 c2 L2 tm 6 w2 o2 hz2 (by show tm < 256 ^ 6; omega) (by omega) (by omega) (by omega)).mono ?_
    rintro e w3 ⟨⟨a3, c3, rfl, o3⟩, b3⟩
    rw [← H3.out, K3.out] at o3 ⊢
    have b03 : Below W.heap.size W w3 := b02.trans b3
    have hz3 := b03.size
    have hX5 := hX.below b03
    have y4 := hX5.cell 4 _ rfl
    clear o2 y3 hX4 b3
    go_wp2_with fail
    refine (rlay_any W.heap.size a3 24 c3 L3 ti 4 w3 o3 hz3 (by show ti < 256 ^ 4; omega) (by omega) (by omega) (by omega)).mono ?_
    rintro e w4 ⟨⟨a4, c4, rfl, o4⟩, b4⟩
    rw [← H4.out, K4.out] at o4 ⊢
    have b04 : Below W.heap.size W w4 := b03.trans b4
    have hb4 : Below w.heap.size w w4 := hbW.trans (b04.mono hbW.size)
    have o4' := o4.base hbW.size
    clear o3 y4 hX5 b4
    go_wp2
    go_ret2
    exact ⟨⟨a4, c4, by rw [HV.out, K4.out, HE.out]; rfl, by rw [HV.out, K4.out]; exact o4'⟩, hb4⟩
  case neg =>
    obtain rfl : op = 2 := by omega
    clear h4
    have HE : Hid (paE 2 fm tm = 0) := by show _ = _; unfold paE; rw [if_pos ⟨by decide, h2, h3⟩]
    have HV : Hid (paV 2 fm fi tm ti = ((([0, 1, 8, 0, 6, 4, 0, 2] ++ bytesB fm 6) ++ bytesB fi 4) ++ bytesB tm 6) ++ bytesB ti 4) := by show _ = _; unfold paV; rw [HE.out]; rfl
    obtain ⟨W, hW⟩ : ∃ W, W = w.alloc (.cells #[.int .i64 2, .int .u64 (fm : Nat), .int .u32 (fi : Nat), .int .u64 (tm : Nat), .int .u32 (ti : Nat)] 38) := ⟨_, rfl⟩
    have hX := Stc.new w [.int .i64 2, .int .u64 (fm : Nat), .int .u32 (fi : Nat), .int .u64 (tm : Nat), .int .u32 (ti : Nat)] 38 W hW
    rw [← hW] at hbW
    have x0 := hX.cell 0 _ rfl
    have x1 := hX.cell 1 _ rfl
    have x3 := hX.cell 3 _ rfl
    obtain ⟨W2, hW2⟩ : ∃ W2, W2 = W.alloc (.cells #[.int .u8 0, .int .u8 1, .int .u8 8, .int .u8 0, .int .u8 6, .int .u8 4, .int .u8 0, .int .u8 2] 5) := ⟨_, rfl⟩
    have o0 : OwnB W2 W.heap.size (some ⟨W.heap.size, 0, none⟩) 8 8 [0, 1, 8, 0, 6, 4, 0, 2] := by rw [hW2]; exact own_lit W [0, 1, 8, 0, 6, 4, 0, 2] (by decide) (by decide)
    have bW2 : Below W.heap.size W W2 := by rw [hW2]; exact (Below.refl _ _).alloc (Nat.le_refl _) _
    have hX2 := hX.below bW2
    have y1 := hX2.cell 1 _ rfl
    have y1' := y1
    rw [hW2] at y1'
    have hz2 := bW2.size
    obtain ⟨L0, hL0⟩ : ∃ L0 : List Nat, L0 = [0, 1, 8, 0, 6, 4, 0, 2] := ⟨_, rfl⟩
    obtain ⟨L1, hL1⟩ : ∃ L1, L1 = L0 ++ bytesB fm 6 := ⟨_, rfl⟩
    obtain ⟨L2, hL2⟩ : ∃ L2, L2 = L1 ++ bytesB fi 4 := ⟨_, rfl⟩
    obtain ⟨L3, hL3⟩ : ∃ L3, L3 = L2 ++ bytesB tm 6 := ⟨_, rfl⟩
    obtain ⟨L4, hL4⟩ : ∃ L4, L4 = L3 ++ bytesB ti 4 := ⟨_, rfl⟩
    have k0 : L0.length = 8 := by rw [hL0]; rfl
    have k1 : L1.length = 14 := by rw [hL1]; simp [bytesB_len, k0]
    have k2 : L2.length = 18 := by rw [hL2]; simp [bytesB_len, k1]
    have k3 : L3.length = 24 := by rw [hL3]; simp [bytesB_len, k2]
    have k4 : L4.length = 28 := by rw [hL4]; simp [bytesB_len, k3]
    rw [← hL0, ← hL1, ← hL2, ← hL3, ← hL4] at HV
    rw [← hL0] at o0
    have H1 := (show Hid _ from hL1)
    have H2 := (show Hid _ from hL2)
    have H3 := (show Hid _ from hL3)
    have H4 := (show Hid _ from hL4)
    have K1 := (show Hid _ from k1)
    have K2 := (show Hid _ from k2)
    have K3 := (show Hid _ from k3)
    have K4 := (show Hid _ from k4)
    clear hL0 hL1 hL2 hL3 hL4 k0 k1 k2 k3 k4 h1
    go_enter Try.func15, Try.ntmps15
    go_wp2_with fail
    rw [← hW]
    clear hW
    refine (hct _).mono ?_
    rintro e w' ⟨rfl, hw'⟩
    subst w'
    go_wp2_with fail
    refine (hcf _).mono ?_
    rintro e w' ⟨rfl, hw'⟩
    subst w'
    go_wp2_with fail
    rw [← hW2]
    clear hW2 y1'
    refine (rlay_any W.heap.size (some ⟨W.heap.size, 0, none⟩) 8 8 L0 fm 6 W2 o0 hz2 (by show fm < 256 ^ 6; omega) (by omega) (by omega) (by omega)).mono ?_
    rintro e w1 ⟨⟨a1, c1, rfl, o1⟩, b1⟩
    rw [← H1.out, K1.out] at o1 ⊢
    have b01 : Below W.heap.size W w1 := bW2.trans b1
    have hz1 := b01.size
    have hX3 := hX.below b01
    have y2 := hX3.cell 2 _ rfl
    clear o0 y1 x0 x1 x3 hX2 b1
    go_wp2_with fail
    refine (rlay_any W.heap.size a1 14 c1 L1 fi 4 w1 o1 hz1 (by show fi < 256 ^ 4; omega) (by omega) (by omega) (by omega)).mono ?_
    rintro e w2 ⟨⟨a2, c2, rfl, o2⟩, b2⟩
    rw [← H2.out, K2.out] at o2 ⊢
    have b02 : Below W.heap.size W w2 := b01.trans b2
    have hz2 := b02.size
    have hX4 := hX.below b02
    have y3 := hX4.cell 3 _ rfl
    clear o1 y2 hX3 b2
    go_wp2_with fail
    refine (rlay_any W.heap.size a2 18 c2 L2 tm 6 w2 o2 hz2 (by show tm < 256 ^ 6; omega) (by omega) (by omega) (by omega)).mono ?_
    rintro e w3 ⟨⟨a3, c3, rfl, o3⟩, b3⟩
    rw [← H3.out, K3.out] at o3 ⊢
    have b03 : Below W.heap.size W w3 := b02.trans b3
    have hz3 := b03.size
    have hX5 := hX.below b03
    have y4 := hX5.cell 4 _ rfl
    clear o2 y3 hX4 b3
    go_wp2_with fail
    refine (rlay_any W.heap.size a3 24 c3 L3 ti 4 w3 o3 hz3 (by show ti < 256 ^ 4; omega) (by omega) (by omega) (by omega)).mono ?_
    rintro e w4 ⟨⟨a4, c4, rfl, o4⟩, b4⟩
    rw [← H4.out, K4.out] at o4 ⊢
    have b04 : Below W.heap.size W w4 := b03.trans b4
    have hb4 : Below w.heap.size w w4 := hbW.trans (b04.mono hbW.size)
    have o4' := o4.base hbW.size
    clear o3 y4 hX5 b4
    go_wp2
    go_ret2
    exact ⟨⟨a4, c4, by rw [HV.out, K4.out, HE.out]; rfl, by rw [HV.out, K4.out]; exact o4'⟩, hb4⟩
end Go.Proofs.Ytnmjoidafgafjaa
