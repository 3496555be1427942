/- What the reference's Put answers. -/
import Derived.Test.YtnmjoidafgafjabEtPut2
import Derived.Test.YtnmjoidafgafjabRefBytes
namespace Go.Proofs.Ytnmjoidafgafjab
open Go.RowKit
theorem card_any (m : Nat) (w : World) (hm : m < 18446744073709551616) :
    Calls Try.prog 11 #[.int .u64 (m : Nat)] w fun e w' => e = .returned (.bool (decide (m < 281474976710656))) ∧ w' = w := by
  have HD : Hid (decide ((m : Int) < 281474976710656) = decide (m < 281474976710656)) := by show _ = _; rw [decide_eq_decide]; omega
  go_enter Try.func11, Try.ntmps11
  go_wp2
  go_ret
  exact ⟨by rw [← HD.out]; rfl, rfl⟩
/-- A row that was laid on. -/
structure LayP (B : Nat) (L : List Nat) (w : World) (e : Ending) (w' : World) : Prop where
  row : ∃ a c, e = .returned (.slice a L.length c) ∧ OwnB w' B a L.length c L
  bel : Below B w w'
set_option maxRecDepth 100000 in
set_option maxHeartbeats 2000000 in
theorem rlay_any (B : Nat) (a : Option Addr) (n c : Nat) (zs : List Nat) (v k : Nat) (w : World) (h : OwnB w B a n c zs) (hB : B ≤ w.heap.size) (hv : v < 256 ^ k) (h1 : 1 ≤ k) (h8 : k ≤ 8) (hn : n ≤ 10000) :
    Calls Try.prog 12 #[.slice a n c, .int .u64 (v : Nat), .int .i64 (k : Nat)] w fun e w' => LayP B (zs ++ bytesB v k) w e w' := by
  have hv64 : v < 18446744073709551616 := Nat.lt_of_lt_of_le hv (Nat.le_trans (Nat.pow_le_pow_right (by omega) h8) (by decide))
  have hby := refbytes_any v (k : Int) w hv64
  rw [bytesE_in v k hv h1 h8, bytesV_in v k hv h1 h8, bytesB_len] at hby
  obtain ⟨D, hD⟩ : ∃ D, D = bytesB v k := ⟨_, rfl⟩
  rw [← hD] at hby ⊢
  clear hD hv
  go_enter Try.func12, Try.ntmps12
  go_wp2_with fail
  refine hby.mono ?_
  rintro e w1 ⟨ad, cd, rfl, hod, hb1⟩
  have ho1 := h.below hb1
  have hsd := hod.sl (by omega)
  have hz1 : B ≤ w1.heap.size := Nat.le_trans hB hb1.size
  go_wp2_with (at_builtin; go_must (refine app_list rfl _ _ rfl B a n c zs rfl ho1 _ k cd D rfl hsd (by omega) hz1 ?_))
  intro a2 c2 w2 ho2 hg2
  have hb2 : Below B w w2 := (hb1.mono hB).trans (ho1.up hg2 hz1)
  have HL : Hid ((zs ++ D).length = n + k) := ho2.len
  go_wp2
  go_ret
  exact ⟨⟨a2, c2, by rw [HL.out]; rfl, by rw [HL.out]; exact ho2⟩, hb2⟩
set_option maxRecDepth 100000 in
set_option maxHeartbeats 2000000 in
theorem rput_any (t f k : Nat) (a : Option Addr) (n c : Nat) (zs : List Nat) (w : World) (ht : t < 18446744073709551616) (hf : f < 18446744073709551616) (hk : k < 65536) (hs : Sl w a n c zs) :
    Calls Try.prog 5 #[.agg #[.int .u64 (t : Nat), .int .u64 (f : Nat), .int .u16 (k : Nat), .slice a n c]] w fun e w' => RowE w (epV t f k zs) (epE t f k n) e w' := by
  have hl := hs.len
  have hct := fun W => card_any t W ht
  have hcf := fun W => card_any f W hf
  have hbW : Below w.heap.size w (w.alloc (.cells #[.int .u64 (t : Nat), .int .u64 (f : Nat), .int .u16 (k : Nat), .slice a n c] 26)) := (Below.refl _ _).alloc (Nat.le_refl _) _
  by_cases h1 : t < 281474976710656
  · rw [decide_eq_true h1] at hct
    by_cases h2 : f < 281474976710656
    · rw [decide_eq_true h2] at hcf
      by_cases h3 : k < 1536
      · have hk3 : (k : Int) < 1536 := by omega
        have HE : Hid (epE t f k n = 2) := by show _ = _; unfold epE; rw [if_pos (by omega)]
        have HV : Hid (epV t f k zs = []) := by show _ = _; unfold epV; rw [hl, HE.out]; rfl
        go_enter Try.func5, Try.ntmps5
        go_wp2_with fail
        refine (hct _).mono ?_
        rintro e w' ⟨rfl, hw'⟩
        subst w'
        go_wp2_with fail
        refine (hcf _).mono ?_
        rintro e w' ⟨rfl, hw'⟩
        subst w'
        go_wp2
        go_ret2
        rw [HE.out, HV.out]
        exact ⟨⟨none, 0, rfl, OwnB.nil _ _⟩, hbW⟩
      · by_cases h4 : 1500 < n
        · have hk3 : ¬ (k : Int) < 1536 := by omega
          have hk4 : (1500 : Int) < n := by omega
          have HE : Hid (epE t f k n = 6) := by show _ = _; unfold epE; rw [if_neg (by omega), if_pos h4]
          have HV : Hid (epV t f k zs = []) := by show _ = _; unfold epV; rw [hl, HE.out]; rfl
          go_enter Try.func5, Try.ntmps5
          go_wp2_with fail
          refine (hct _).mono ?_
          rintro e w' ⟨rfl, hw'⟩
          subst w'
          go_wp2_with fail
          refine (hcf _).mono ?_
          rintro e w' ⟨rfl, hw'⟩
          subst w'
          go_wp2
          go_ret2
          rw [HE.out, HV.out]
          exact ⟨⟨none, 0, rfl, OwnB.nil _ _⟩, hbW⟩
        · have hk3 : ¬ (k : Int) < 1536 := by omega
          have hk4 : ¬ (1500 : Int) < n := by omega
          have HE : Hid (epE t f k n = 0) := by show _ = _; unfold epE; rw [if_neg (by omega), if_neg (by omega)]
          have HV : Hid (epV t f k zs = ((([] ++ bytesB t 6) ++ bytesB f 6) ++ bytesB k 2) ++ zs) := by show _ = _; unfold epV; rw [hl, HE.out]; simp
          obtain ⟨W, hW⟩ : ∃ W, W = w.alloc (.cells #[.int .u64 (t : Nat), .int .u64 (f : Nat), .int .u16 (k : Nat), .slice a n c] 26) := ⟨_, rfl⟩
          have hX := Stc.new w [.int .u64 (t : Nat), .int .u64 (f : Nat), .int .u16 (k : Nat), .slice a n c] 26 W hW
          rw [← hW] at hbW
          have hzW : W.heap.size = w.heap.size + 1 := by rw [hW]; simp
          have HZW := (show Hid _ from hzW)
          have hsW := hs.below hbW
          have x0 := hX.cell 0 _ rfl
          have x1 := hX.cell 1 _ rfl
          have x2 := hX.cell 2 _ rfl
          have x3 := hX.cell 3 _ rfl
          have hl0 := rlay_any W.heap.size none 0 0 [] t 6 W (OwnB.nil _ _) (Nat.le_refl _) (by show t < 256 ^ 6; omega) (by omega) (by omega) (by omega)
          obtain ⟨L0, hL0⟩ : ∃ L0, L0 = [] ++ bytesB t 6 := ⟨_, rfl⟩
          obtain ⟨L1, hL1⟩ : ∃ L1, L1 = L0 ++ bytesB f 6 := ⟨_, rfl⟩
          obtain ⟨L2, hL2⟩ : ∃ L2, L2 = L1 ++ bytesB k 2 := ⟨_, rfl⟩
          have k0 : L0.length = 6 := by rw [hL0]; simp [bytesB_len]
          have k1 : L1.length = 12 := by rw [hL1]; simp [bytesB_len, k0]
          have k2 : L2.length = 14 := by rw [hL2]; simp [bytesB_len, k1]
          rw [← hL0, ← hL1, ← hL2] at HV
          rw [← hL0] at hl0
          have H1 := (show Hid _ from hL1)
          have H2 := (show Hid _ from hL2)
          clear hL0 hL1 hL2 hzW
          go_enter Try.func5, Try.ntmps5
          go_wp2_with fail
          rw [← hW]
          clear hW
          refine (hct _).mono ?_
          rintro e w' ⟨rfl, hw'⟩
          subst w'
          go_wp2_with fail
          refine (hcf _).mono ?_
          rintro e w' ⟨rfl, hw'⟩
          subst w'
          go_wp2_with fail
          refine hl0.mono ?_
          rintro e w1 ⟨⟨a1, c1, rfl, o1⟩, b1⟩
          have hX1 := hX.below b1
          have y1 := hX1.cell 1 _ rfl
          have hz1 := b1.size
          rw [k0] at o1 ⊢
          have hl1 := rlay_any W.heap.size a1 6 c1 L0 f 6 w1 o1 hz1 (by show f < 256 ^ 6; omega) (by omega) (by omega) (by omega)
          rw [← H1.out] at hl1
          clear hl0 x0 x1 x2 x3
          go_wp2_with fail
          refine hl1.mono ?_
          rintro e w2 ⟨⟨a2, c2, rfl, o2⟩, b2⟩
          have b02 : Below W.heap.size W w2 := b1.trans b2
          have hX2 := hX.below b02
          have y2 := hX2.cell 2 _ rfl
          have hz2 := b02.size
          rw [k1] at o2 ⊢
          have hl2 := rlay_any W.heap.size a2 12 c2 L1 k 2 w2 o2 hz2 (by show k < 256 ^ 2; omega) (by omega) (by omega) (by omega)
          rw [← H2.out] at hl2
          clear hl1 y1 o1
          go_wp2_with fail
          refine hl2.mono ?_
          rintro e w3 ⟨⟨a3, c3, rfl, o3⟩, b3⟩
          have b03 : Below W.heap.size W w3 := b02.trans b3
          have hX3 := hX.below b03
          have y3 := hX3.cell 3 _ rfl
          have hz3 := b03.size
          rw [k2] at o3 ⊢
          have hs3 := hsW.below b03
          clear hl2 y2 o2
          go_wp2_with (at_builtin; go_must (refine app_list rfl _ _ rfl W.heap.size a3 14 c3 L2 rfl o3 _ n c zs rfl hs3 (by omega) hz3 ?_))
          intro a4 c4 w4 ho4 hg4
          have hb4 : Below w.heap.size w w4 := hbW.trans ((b03.trans (o3.up hg4 hz3)).mono hbW.size)
          have ho4' := ho4.base hbW.size
          have HLL : Hid ((epV t f k zs).length = 14 + n) := by show _ = _; rw [HV.out]; exact ho4.len
          go_wp2
          go_ret2
          exact ⟨⟨a4, c4, by rw [HLL.out, HE.out]; rfl, by rw [HLL.out, HV.out]; exact ho4'⟩, hb4⟩
    · rw [decide_eq_false h2] at hcf
      have HE : Hid (epE t f k n = 2) := by show _ = _; unfold epE; rw [if_pos (by omega)]
      have HV : Hid (epV t f k zs = []) := by show _ = _; unfold epV; rw [hl, HE.out]; rfl
      go_enter Try.func5, Try.ntmps5
      go_wp2_with fail
      refine (hct _).mono ?_
      rintro e w' ⟨rfl, hw'⟩
      subst w'
      go_wp2_with fail
      refine (hcf _).mono ?_
      rintro e w' ⟨rfl, hw'⟩
      subst w'
      go_wp2
      go_ret2
      rw [HE.out, HV.out]
      exact ⟨⟨none, 0, rfl, OwnB.nil _ _⟩, hbW⟩
  · rw [decide_eq_false h1] at hct
    have HE : Hid (epE t f k n = 2) := by show _ = _; unfold epE; rw [if_pos (by omega)]
    have HV : Hid (epV t f k zs = []) := by show _ = _; unfold epV; rw [hl, HE.out]; rfl
    go_enter Try.func5, Try.ntmps5
    go_wp2_with fail
    refine (hct _).mono ?_
    rintro e w' ⟨rfl, hw'⟩
    subst w'
    go_wp2
    go_ret2
    rw [HE.out, HV.out]
    exact ⟨⟨none, 0, rfl, OwnB.nil _ _⟩, hbW⟩
end Go.Proofs.Ytnmjoidafgafjab
