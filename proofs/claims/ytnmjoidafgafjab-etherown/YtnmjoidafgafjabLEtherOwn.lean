/- Whatever frame: the walk of law08.EtherOwn ends with true. -/
import Derived.Test.YtnmjoidafgafjabEtTakeO
import Derived.Test.YtnmjoidafgafjabEtRPu
import Derived.Test.YtnmjoidafgafjabEtLive
namespace Go.Proofs.Ytnmjoidafgafjab
open Go.RowKit
theorem xorK (x y : Nat) (h : x < 256) (hy : y < 256) : bits .xor .u8 (x : Int) (y : Int) = ((x ^^^ y : Nat) : Int) := u8_xor_nat x y h hy
theorem xor_lt8 (x y : Nat) (hx : x < 256) (hy : y < 256) : x ^^^ y < 256 := Nat.xor_lt_two_pow (n := 8) hx hy
theorem epV_le (t f k : Nat) (zs : List Nat) : (epV t f k zs).length ≤ 2000 := by
  unfold epV
  split
  · rename_i h
    have h2 : zs.length ≤ 1500 := by
      unfold epE at h
      split at h
      · omega
      · split at h
        · omega
        · omega
    simp [bytesB_len]
    omega
  · simp
theorem tkB_le (zs : List Nat) : (tkB zs).length ≤ 1500 := by
  unfold tkB
  split
  · rename_i h
    unfold tkE at h
    split at h
    · omega
    · split at h
      · omega
      · rw [List.length_drop]; omega
  · simp
set_option maxRecDepth 100000 in
set_option maxHeartbeats 1000000 in
theorem walk_EtherOwn (t f k : Nat) (a : Option Addr) (n c : Nat) (zs : List Nat) (w : World) (ht : t < 18446744073709551616) (hf : f < 18446744073709551616) (hk : k < 65536) (h0 : Sl w a n c zs ∧ c ≤ 140737488351232) :
    Calls Try.prog 3 #[.agg #[.int .u64 (t : Nat), .int .u64 (f : Nat), .int .u16 (k : Nat), .slice a n c]] w fun e w' => e = .returned (.bool true) ∧ Below w.heap.size w w' := by
  obtain ⟨h0, hcb⟩ := h0
  clear hcb
  obtain ⟨W, hW⟩ : ∃ W, W = w.alloc (.cells #[.int .u64 (t : Nat), .int .u64 (f : Nat), .int .u16 (k : Nat), .slice a n c] 26) := ⟨_, rfl⟩
  have hX := Stc.new w [.int .u64 (t : Nat), .int .u64 (f : Nat), .int .u16 (k : Nat), .slice a n c] 26 W hW
  have hbW : Below w.heap.size w W := by rw [hW]; exact (Below.refl _ _).alloc (Nat.le_refl _) _
  have hsW := h0.below hbW
  have x3 := hX.cell 3 _ rfl
  have x3' := x3
  rw [hW] at x3'
  have kk := conv_str hsW
  rw [hW] at kk
  obtain ⟨ST, hST⟩ : ∃ ST, ST = strOf zs := ⟨_, rfl⟩
  rw [← hST] at kk
  have HST := (show Hid _ from hST)
  obtain ⟨E, hE⟩ : ∃ E, E = epE t f k n := ⟨_, rfl⟩
  obtain ⟨L, hL⟩ : ∃ L, L = epV t f k zs := ⟨_, rfl⟩
  obtain ⟨l, hl⟩ : ∃ l, l = L.length := ⟨_, rfl⟩
  have hle2 : l ≤ 2000 := by rw [hl, hL]; exact epV_le t f k zs
  obtain ⟨T, hT⟩ : ∃ T, T = tkN L 0 6 := ⟨_, rfl⟩
  obtain ⟨F, hF⟩ : ∃ F, F = tkN L 6 6 := ⟨_, rfl⟩
  obtain ⟨K, hK⟩ : ∃ K, K = tkN L 12 2 := ⟨_, rfl⟩
  obtain ⟨B, hB⟩ : ∃ B, B = tkB L := ⟨_, rfl⟩
  obtain ⟨m, hm⟩ : ∃ m, m = B.length := ⟨_, rfl⟩
  have hml : m ≤ 1500 := by rw [hm, hB]; exact tkB_le L
  obtain ⟨G, hG⟩ : ∃ G, G = tkE L := ⟨_, rfl⟩
  have HE := (show Hid _ from hE)
  have HL := (show Hid _ from hL)
  have Hl := (show Hid _ from hl)
  have HT := (show Hid _ from hT)
  have HF := (show Hid _ from hF)
  have HK := (show Hid _ from hK)
  have HB := (show Hid _ from hB)
  have Hm := (show Hid _ from hm)
  have HG := (show Hid _ from hG)
  clear hE hL hl hT hF hK hB hm hG hST
  go_enter Try.func3, Try.ntmps3
  go_wp2_with fail
  rw [← hW]
  clear hW kk x3'
  refine (put_any t f k a n c zs W ht hf hk hsW).mono ?_
  rintro e w1 ⟨⟨a1, c1, rfl, o1⟩, b1⟩
  rw [← HE.out, ← HL.out, ← Hl.out]
  rw [← HL.out, ← Hl.out] at o1
  have hWz := hX.lt
  go_wp2_with fail
  go_loopw [6] (fun i wr => ∃ (j : Nat) (xs : List Nat), j ≤ l ∧ i = .int .i64 j ∧ OwnB wr W.heap.size a1 l c1 xs ∧ Below W.heap.size W wr) (fun i _ => l - (intOf i).toNat)
  case atStart => exact ⟨0, L, by omega, rfl, o1, b1⟩
  case round =>
    obtain ⟨j, xs, hj, rfl, hown, hbel⟩ := hrel
    by_cases hjm : j < l
    · obtain ⟨g, hg⟩ : ∃ g, a1 = some ⟨g, 0, none⟩ := by
        rcases hown.own.2 with ⟨_, h0⟩ | ⟨g, cap, cur, hv, _⟩
        · omega
        · injection hv with e1
          exact ⟨g, e1⟩
      subst hg
      have hgl := (hown.own.lt g rfl).1
      have hc := hown.cell j hjm
      have hfz := hown.free j
      have hx := hown.bnd j
      have HX : Hid (bits .xor .u8 ((xs.getD j 0 : Nat) : Int) 90 = ((xs.getD j 0 ^^^ 90 : Nat) : Int)) := xorK _ 90 hx (by omega)
      have hx2 := xor_lt8 _ 90 hx (by omega)
      generalize xs.getD j 0 = x at *
      go_wp2
      go_roundw
      case rel =>
        refine ⟨j + 1, xs.set j (x ^^^ 90), by omega, by go_num, ?_, ?_⟩
        · rw [HX.out]
          exact hown.store j (x ^^^ 90) hx2
        · rw [HX.out]
          exact hbel.setCell (by show _ ≤ g; omega) _
      case measure => simp [intOf]; omega
    · clear hown o1 b1
      obtain ⟨w2, hw2⟩ : ∃ w2, w2 = wr := ⟨_, rfl⟩
      subst hw2
      have hX2 := hX.below hbel
      have hs2 := hsW.below hbel
      have bb2 : Below w.heap.size w w2 := hbW.trans (hbel.mono hbW.size)
      have x0 := hX2.cell 0 _ rfl
      have x1 := hX2.cell 1 _ rfl
      have x2 := hX2.cell 2 _ rfl
      have y3 := hX2.cell 3 _ rfl
      clear x3 hX hsW hbel hbW
      go_wp2_with fail
      refine (rput_any t f k a n c zs w2 ht hf hk hs2).mono ?_
      rintro e w3 ⟨⟨a3, c3, rfl, o3⟩, b3⟩
      rw [← HE.out, ← HL.out, ← Hl.out]
      rw [← HL.out, ← Hl.out] at o3
      have hX3 := hX2.below b3
      have hs3 := hs2.below b3
      have r3 := o3.sl (by omega)
      have bb3 : Below w.heap.size w w3 := bb2.trans (b3.mono bb2.size)
      have hz23 := b3.size
      clear x0 x1 x2 y3 hX2 hs2 b3 bb2
      go_wp2_with fail
      refine (take_any a3 l c3 L w3 r3).mono ?_
      rintro e w4 ⟨⟨a4, c4, rfl, o4⟩, b4⟩
      rw [← HT.out, ← HF.out, ← HK.out, ← HG.out, ← HB.out, ← Hm.out]
      rw [← HB.out, ← Hm.out] at o4
      have hX4 := hX3.below b4
      have hs4 := hs3.below b4
      have o34 := o3.below b4
      have bb4 : Below w.heap.size w w4 := bb3.trans (b4.mono bb3.size)
      have hlt3 : ∀ g, (Value.slice a3 l c3).ownBlock = some g → g < w3.heap.size := fun g hg => (o3.own.lt g hg).2
      have hz34 := b4.size
      have hlx : w.heap.size < w3.heap.size := hX3.lt
      obtain ⟨w5, hw5⟩ : ∃ w5, w5 = w4.alloc (.cells #[.int .u64 (T : Nat), .int .u64 (F : Nat), .int .u16 (K : Nat), .slice a4 m c4] 26) := ⟨_, rfl⟩
      have b45 : Below w4.heap.size w4 w5 := by rw [hw5]; exact (Below.refl _ _).alloc (Nat.le_refl _) _
      have hY5 := Stc.new w4 [.int .u64 (T : Nat), .int .u64 (F : Nat), .int .u16 (K : Nat), .slice a4 m c4] 26 w5 hw5
      have hX5 := hX4.below b45
      have hs5 := hs4.below b45
      have o35 := o34.below b45
      have o45 := o4.below b45
      have hlt4 : ∀ g, (Value.slice a4 m c4).ownBlock = some g → g < w4.heap.size := fun g hg => (o4.own.lt g hg).2
      have bb5 : Below w.heap.size w w5 := bb4.trans (b45.mono bb4.size)
      have k35 : Below w3.heap.size w3 w5 := b4.trans (b45.mono b4.size)
      clear hX4 hs4 o34 o4 r3 b4 b45 hX5 hs5 o35 bb4 bb5
      go_wp2_with fail
      rw [← hw5]
      clear hw5
      go_loopw [11] (fun i wr => ∃ (j : Nat) (xs : List Nat), j ≤ m ∧ i = .int .i64 j ∧ OwnB wr w3.heap.size a4 m c4 xs ∧ Stc wr w4.heap.size [.int .u64 (T : Nat), .int .u64 (F : Nat), .int .u16 (K : Nat), .slice a4 m c4] ∧ Below w3.heap.size w3 wr) (fun i _ => m - (intOf i).toNat)
      case atStart => exact ⟨0, B, by omega, rfl, o45, hY5, k35⟩
      case round =>
        obtain ⟨j2, xs2, hj2, rfl, hown, hY, hbel⟩ := hrel
        have y3 := hY.cell 3 _ rfl
        by_cases hjm2 : j2 < m
        · obtain ⟨g, hg⟩ : ∃ g, a4 = some ⟨g, 0, none⟩ := by
            rcases hown.own.2 with ⟨_, h0⟩ | ⟨g, cap, cur, hv, _⟩
            · omega
            · injection hv with e1
              exact ⟨g, e1⟩
          subst hg
          have hgl := (hown.own.lt g rfl).1
          have hgl4 := hlt4 g rfl
          have hc := hown.cell j2 hjm2
          have hfz := hown.free j2
          have hx := hown.bnd j2
          have HX : Hid (bits .xor .u8 ((xs2.getD j2 0 : Nat) : Int) 90 = ((xs2.getD j2 0 ^^^ 90 : Nat) : Int)) := xorK _ 90 hx (by omega)
          have hx2 := xor_lt8 _ 90 hx (by omega)
          generalize xs2.getD j2 0 = x at *
          go_wp2
          go_roundw
          case rel =>
            refine ⟨j2 + 1, xs2.set j2 (x ^^^ 90), by omega, by go_num, ?_, ?_, ?_⟩
            · rw [HX.out]
              exact hown.store j2 (x ^^^ 90) hx2
            · exact hY.other g j2 _ (by omega)
            · exact hbel.setCell (by show _ ≤ g; omega) _
          case measure => simp [intOf]; omega
        · obtain ⟨w6, hw6⟩ : ∃ w6, w6 = wr := ⟨_, rfl⟩
          subst hw6
          have hX6 := hX3.below hbel
          have hs6 := hs3.below hbel
          have o36 := o3.below hbel
          have bb6 : Below w.heap.size w w6 := bb3.trans (hbel.mono bb3.size)
          have x0 := hX6.cell 0 _ rfl
          have x1 := hX6.cell 1 _ rfl
          have x2 := hX6.cell 2 _ rfl
          have z3 := hX6.cell 3 _ rfl
          clear hX3 hs3 o3 bb3 hbel hown k35 hY5 o45
          go_wp2_with fail
          refine (rput_any t f k a n c zs w6 ht hf hk hs6).mono ?_
          rintro e w7 ⟨⟨a7, c7, rfl, o7⟩, b7⟩
          rw [← HE.out, ← HL.out, ← Hl.out]
          rw [← HL.out, ← Hl.out] at o7
          have hX7 := hX6.below b7
          have hs7 := hs6.below b7
          have o37 := o36.below b7
          have bb7 : Below w.heap.size w w7 := bb6.trans (b7.mono bb6.size)
          clear x0 x1 x2 z3 hX6 hs6 o36 bb6 b7
          go_wp2_with fail
          refine (live8_any w7).mono ?_
          rintro e w8 ⟨rfl, b8⟩
          have hX8 := hX7.below b8
          have k1 := conv_str (hs7.below b8)
          rw [← HST.out] at k1
          have k2 := conv_str ((o37.below b8).sl (by omega))
          have k3 := conv_str ((o7.below b8).sl (by omega))
          have z3 := hX8.cell 3 _ rfl
          have bb8 : Below w.heap.size w w8 := bb7.trans (b8.mono bb7.size)
          clear hX7 hX8 hs7 o37 o7 bb7 b8
          go_wp2
          go_ret
          exact ⟨rfl, bb8⟩
end Go.Proofs.Ytnmjoidafgafjab
