/- Whatever two rows of bytes: the walk of trunklinelaw02.SumsLinear ends with true, and writes nothing that was there. -/
import Derived.Test.YtaakkibohkckaaaLive
import Derived.Test.YtaakkibohkckaaaOwn
import Derived.Test.YtaakkibohkckaaaLin
import Derived.Test.YtaakkibohkckaaaSlc
import Derived.Deep.RegionLaw
import Derived.Deep.RegionHeld3
import Derived.BigRegion
namespace Go.Proofs.Ytaakkibohkckaaa
open Go.RowKit
theorem SlK.take {k : IntKind} {M : Nat} {w : World} {a : Option Addr} {n c : Nat} {zs : List Nat} (h : SlK k M w a n c zs) (hM : 0 < M) (m : Nat) (hm : m ≤ n) : SlK k M w a m c (zs.take m) := by
  obtain ⟨h1, h2, h3, hsm, hnz, h4, h5⟩ := h
  have hg : ∀ i, i < m → (zs.take m).getD i 0 = zs.getD i 0 := by
    intro i hi
    simp [List.getD_eq_getElem?_getD, hi]
  refine ⟨by simp; omega, by omega, h3, by omega, hnz, fun i => ?_, ?_⟩
  · by_cases hi : i < m
    · rw [hg i hi]; exact h4 i
    · rw [List.getD_eq_getElem?_getD, List.getElem?_eq_none (by simp; omega)]; exact hM
  · rcases h5 with h5 | ⟨b, off, rfl, hlt, hc⟩
    · exact .inl (by omega)
    · exact .inr ⟨b, off, rfl, hlt, fun i hi => by rw [hg i hi]; exact hc i (by omega)⟩
theorem xor8 (x y : Nat) (hx : x < 256) (hy : y < 256) : bits .xor .u8 (x : Int) (y : Int) = ((x ^^^ y : Nat) : Int) := u8_xor_nat x y hx hy
theorem mkn (c : Nat) (hc : c ≤ 281474976710656) (w : World) : (Instr.makeSlice 22 (.int .i64 (c : Int)) (.int .i64 (c : Int))).run Try.prog w = .ok (.slice (some ⟨w.heap.size, 0, none⟩) c c) (w.alloc (.cells (madeCells #[.int .u8 0] c) 5)) := by
  obtain ⟨i, hi, hz0, hz1, hz2⟩ := info_parts own_info
  have := run_make (P := Try.prog) w 22 5 i (.int .u8 0) Try.underlying22 hi hz0 .i64 .i64 (c : Int) (c : Int) (by omega) (by omega) (by rw [hz2]; omega) (by omega)
  rw [hz1, show (Value.int .u8 0).cells = #[.int .u8 0] from rfl] at this
  simpa using this
theorem sl_zeros (w : World) (c : Nat) (hc : c ≤ 281474976710656) : Sl (w.alloc (.cells (madeCells #[.int .u8 0] c) 5)) (some ⟨w.heap.size, 0, none⟩) c c (List.replicate c 0) := by
  have hg : ∀ i, (List.replicate c 0).getD i 0 = 0 := by
    intro i
    by_cases hi : i < c <;> simp [List.getD_eq_getElem?_getD, hi]
  refine ⟨by simp, Nat.le_refl _, by unfold maxLen; omega, hc, (fun h => by cases h), fun i => by rw [hg]; omega, .inr ⟨_, _, rfl, by simp, fun i hi => ?_⟩⟩
  rw [hg, World.cell?_alloc_mark]
  simp [madeCells, hi, Nat.mod_one]
structure LinS (w0 : World) (a1 : Option Addr) (c1 : Nat) (X : List Nat) (a : Option Addr) (c : Nat) (A : List Nat) (a2 : Option Addr) (c2 : Nat) (B : List Nat) (j : Nat) (w : World) : Prop where
  x : Sl w a1 j c1 X
  a : Sl w a j c A
  b : Sl w a2 j c2 B
  bel : Below w0.heap.size w0 w
theorem LinS.next {w0 : World} {a1 : Option Addr} {c1 : Nat} {X : List Nat} {a : Option Addr} {c : Nat} {A : List Nat} {a2 : Option Addr} {c2 : Nat} {B : List Nat} {j : Nat} {w w' : World} (h : LinS w0 a1 c1 X a c A a2 c2 B j w) (hb : Below w.heap.size w w') : LinS w0 a1 c1 X a c A a2 c2 B j w' :=
  ⟨h.x.below hb, h.a.below hb, h.b.below hb, h.bel.trans (hb.mono h.bel.size)⟩
theorem LinS.alloc {w0 : World} {a1 : Option Addr} {c1 : Nat} {X : List Nat} {a : Option Addr} {c : Nat} {A : List Nat} {a2 : Option Addr} {c2 : Nat} {B : List Nat} {j : Nat} {w : World} (h : LinS w0 a1 c1 X a c A a2 c2 B j w) (o : Obj) : LinS w0 a1 c1 X a c A a2 c2 B j (w.alloc o) :=
  h.next ((Below.refl _ _).alloc (Nat.le_refl _) _)
set_option maxHeartbeats 16000000 in
theorem walk_SumsLinear (a : Option Addr) (n c : Nat) (zs : List Nat) (a2 : Option Addr) (n2 c2 : Nat) (ys : List Nat) (w : World) (hl0 : Sl w a n c zs ∧ c * 1 ≤ 140737488351232) (hl1 : Sl w a2 n2 c2 ys ∧ c2 * 1 ≤ 140737488351232) :
    Calls Try.prog 4 #[.slice a n c, .slice a2 n2 c2] w fun e w' => e = .returned (.bool true) ∧ Below w.heap.size w w' := by
  obtain ⟨hs1, hc1⟩ := hl0
  obtain ⟨hs2, hc2⟩ := hl1
  have hn1 := hs1.cap
  have hn2 := hs2.cap
  have hm : ∃ m : Nat, m ≤ n ∧ m ≤ n2 ∧ (((m : Int) = n ∧ (n : Int) ≤ n2) ∨ ((m : Int) = n2 ∧ (n2 : Int) < n)) := ⟨min n n2, by omega, by omega, by omega⟩
  obtain ⟨m, hm1, hm2, hmm⟩ := hm
  go_enter Try.func4, Try.ntmps4
  rcases hmm with ⟨hme, hle⟩ | ⟨hme, hle⟩ <;> go_wp2 <;> simp only [← hme]
  all_goals
    clear hme hle
    go_loopw [6, 7] (fun vo i wr => ∃ (j : Nat) (a' : Option Addr) (c' : Nat), j ≤ m ∧ i = .int .i64 j ∧ vo = .slice a' j c' ∧ OwnB wr w.heap.size a' j c' (xorL (zs.take j) (ys.take j)) ∧ Below w.heap.size w wr) (fun _ i _ => m - (intOf i).toNat)
    case atStart => exact ⟨0, none, 0, by omega, rfl, rfl, OwnB.nil _ _, Below.refl _ _⟩
    case round =>
      obtain ⟨j, a1, c1, hj, rfl, rfl, hown, hbel⟩ := hrel
      by_cases hjn : j < m
      · have hl1 := hs1.len
        have hl2 := hs2.len
        rcases hs1.at_ with h0 | ⟨b, off, rfl, hlt, hcell⟩
        · omega
        rcases hs2.at_ with h0 | ⟨b2, off2, rfl, hlt2, hcell2⟩
        · omega
        have hcA := hcell j (by omega)
        have hcB := hcell2 j (by omega)
        rw [← hbel.cell (p := ⟨b, off + j, none⟩) hlt] at hcA
        rw [← hbel.cell (p := ⟨b2, off2 + j, none⟩) hlt2] at hcB
        have hx := hs1.bnd j
        have hy := hs2.bnd j
        have HA : Hid (xorL (zs.take (j + 1)) (ys.take (j + 1)) = xorL (zs.take j) (ys.take j) ++ [zs.getD j 0 ^^^ ys.getD j 0]) := by
          show _ = _
          rw [take_snocN zs j (by omega), take_snocN ys j (by omega), xorL_snoc _ _ _ _ (by simp; omega)]
        generalize xorL (zs.take j) (ys.take j) = out at *
        generalize zs.getD j 0 = x at *
        generalize ys.getD j 0 = y at *
        have hx2 := xor_u8 _ _ hx hy
        have hxr := xor8 _ _ hx hy
        have hsz := hbel.size
        have hown1 : OwnB wr.drew w.heap.size a1 j c1 out := hown.below (Below.refl _ _).drew
        have hi1 : (j : Int) < (n : Int) := by omega
        have hi2 : (j : Int) < (n2 : Int) := by omega
        clear hcell hcell2 hs1 hs2
        go_wp2_with fail
        go_region_law (refine app_step rfl _ _ rfl w.heap.size _ j c1 out (by simp [Act.eval]) (hown1.alloc _) _ 1 1 [x ^^^ y] (by simp [Act.eval]) (sl_one wr.drew 5 _ _ (by first | rfl | exact hxr) hx2) (by omega) (by simp; omega) ?_; intro a2 c2 w2 ho2 hg2)
        all_goals
          have hb2 : Below w.heap.size w w2 := ((hbel.alloc hsz _).drew).trans (((hown1.alloc _)).up hg2 (by simp; omega))
          clear hg2
          go_wp2
          go_roundw
          case rel => exact ⟨j + 1, a2, c2, by omega, by go_num, rfl, by rw [HA.out]; exact ho2, hb2⟩
          case measure => simp [intOf]; omega
      · obtain rfl : j = m := by omega
        have hX : Sl wr.drew a1 j c1 (xorL (zs.take j) (ys.take j)) := (hown.sl (by omega)).below (Below.refl _ _).drew
        have hA : Sl wr.drew a j c (zs.take j) := ((hs1.take (by omega) j hm1).below hbel).below (Below.refl _ _).drew
        have hB : Sl wr.drew a2 j c2 (ys.take j) := ((hs2.take (by omega) j hm2).below hbel).below (Below.refl _ _).drew
        have HX := (show Hid _ from crc_xor (zs.take j) (ys.take j) (by have := hs1.len; have := hs2.len; simp; omega))
        have HL : Hid ((zs.take j).length = j) := by show _ = _; have := hs1.len; simp; omega
        rw [HL.out] at HX
        have hmk := mkn j (by omega)
        have hxa := u32_xor_nat _ _ (crc_lt (zs.take j)) (crc_lt (ys.take j))
        have hxb := u32_xor_nat _ _ (Nat.xor_lt_two_pow (n := 32) (crc_lt (zs.take j)) (crc_lt (ys.take j))) (crc_lt (List.replicate j 0))
        rw [← HX.out] at hxb
        clear HL HX
        generalize xorL (zs.take j) (ys.take j) = X at *
        generalize zs.take j = A at *
        generalize ys.take j = B at *
        have hji : (j : Int) ≤ (n : Int) := by omega
        have hji2 : (j : Int) ≤ (n2 : Int) := by omega
        clear hown hs1 hs2
        go_wp2_with fail
        have hslA := slice_to a n c j (by omega)
        have hslB := slice_to a2 n2 c2 j (by omega)
        have hS : LinS w a1 c1 X a c A a2 c2 B j wr.drew := ⟨hX, hA, hB, hbel.drew⟩
        clear hX hA hB hbel
        go_region_held3 (LinS w a1 c1 X a c A a2 c2 B j) (first | assumption | exact LinS.alloc (by assumption) _ | exact LinS.next (by assumption) (by assumption)) (first | (go_at_call 10; refine (live_any _).mono ?_; rintro e w1 ⟨rfl, hb1⟩) | (go_at_call 11; refine (crc_any _ _ _ _ _ (by first | exact LinS.x (by assumption) | exact LinS.a (by assumption) | exact LinS.b (by assumption) | exact sl_zeros _ _ (by omega))).mono ?_; rintro e w' ⟨rfl, rfl⟩))
        all_goals
          go_wp2
          go_ret
          exact ⟨rfl, LinS.bel (by assumption)⟩
end Go.Proofs.Ytaakkibohkckaaa
