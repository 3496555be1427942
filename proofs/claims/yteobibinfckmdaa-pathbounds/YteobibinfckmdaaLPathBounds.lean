/- Whatever mtu and script: the walk of law15.PathBounds ends with true. -/
import Derived.Test.YteobibinfckmdaaPtPlay
namespace Go.Proofs.Yteobibinfckmdaa
open Go.RowKit
set_option maxRecDepth 100000 in
set_option maxHeartbeats 4000000 in
theorem walk_PathBounds (u : Nat) (a : Option Addr) (n c : Nat) (dd : List Pd) (w : World) (hu : u < 65536) (hl : SlP w a n c dd) :
    Calls Try.prog 4 #[.int .u16 (u : Int), .slice a n c] w fun e w' => e = .returned (.bool true) ∧ Below w.heap.size w w' := by
  obtain ⟨m, hm⟩ : ∃ m, m = 64 + u % 1437 := ⟨_, rfl⟩
  have hm0 : 64 ≤ m := by omega
  have hm1 : m ≤ 1500 := by omega
  have htm : Int.tmod (u : Int) 1437 = (m : Int) - 64 := by rw [Int.tmod_eq_emod_of_nonneg (by omega)]; omega
  have htm2 : 64 + ((m : Int) - 64) = m := by omega
  clear hm
  have hlen := hl.len
  have hsm := hl.small
  go_enter Try.func4, Try.ntmps4
  go_wp2_with fail
  refine (pnew_any (m : Int) w (by omega) (by omega) _ (by first | rfl | rw [htm2])).mono ?_
  rintro e w1 ⟨⟨p, rfl, hp, hX1⟩, hb1⟩
  go_wp2_with fail
  refine (rpnew_any (m : Int) w1 (by omega) (by omega) _ (by first | rfl | rw [htm2])).mono ?_
  rintro e w2 ⟨⟨q, rfl, hq, hY2⟩, hb2⟩
  have hbel2 : Below w.heap.size w w2 := hb1.trans (hb2.mono hb1.size)
  have hB2 : Bt w2 w.heap.size p q 0 (psNew m) (psNew m) := ⟨hX1.below hb2, hY2, by have := hX1.lt; omega, hp, Nat.le_trans hb1.size hq, pok_new m (by omega) (by omega), pok_new m (by omega) (by omega), Al.refl _⟩
  have hq2 := hB2.bq
  clear hX1 hY2 hb1 hb2 hq
  go_wp2
  go_loopw [10] (fun iv wr => ∃ (i : Nat) (s t : Ps), iv = .int .i64 (i : Nat) ∧ i ≤ n ∧ i ≤ 300 ∧ Bt wr w.heap.size p q i s t ∧ s.mtu = m ∧ Below w.heap.size w wr) (fun iv _ => n - (intOf iv).toNat)
  case atStart => exact ⟨0, psNew m, psNew m, rfl, by omega, by omega, hB2, rfl, hbel2⟩
  case round =>
    obtain ⟨j, s, t, rfl, hjn, hj300, hB, hsm2, hbel⟩ := hrel
    clear hB2 hbel2
    by_cases hjl : j < n ∧ j < 300
    · obtain ⟨hjl, hjk⟩ := hjl
      obtain ⟨x, hx⟩ : ∃ x, dd[j]? = some x := ⟨_, List.getElem?_eq_getElem (by omega)⟩
      have hxm := List.mem_of_getElem? hx
      have hwf := hl.wf x hxm
      rcases hl.at_ with h0 | ⟨lb, off, rfl, hlt, hcell⟩
      · omega
      have k0 := (hbel.cell (p := ⟨lb, off + j * 5, none⟩) hlt).trans (hcell j x hx 0 _ rfl)
      have k1 := (hbel.cell (p := ⟨lb, off + j * 5 + 1, none⟩) hlt).trans (hcell j x hx 1 _ rfl)
      have k2 := (hbel.cell (p := ⟨lb, off + j * 5 + 2, none⟩) hlt).trans (hcell j x hx 2 _ rfl)
      have k3 := (hbel.cell (p := ⟨lb, off + j * 5 + 3, none⟩) hlt).trans (hcell j x hx 3 _ rfl)
      have k4 := (hbel.cell (p := ⟨lb, off + j * 5 + 4, none⟩) hlt).trans (hcell j x hx 4 _ rfl)
      have hj1 : (j : Int) < (n : Int) := by omega
      have hj2 : (j : Int) < 300 := by omega
      have hdo : ∀ W, Below wr.heap.size wr W → Calls Try.prog 13 #[.pointer (some ⟨p, 0, none⟩), .pointer (some ⟨q, 0, none⟩), .agg #[.int .i64 x.op, .int .i64 x.a, .int .i64 x.b, .bool x.moved, .int .u64 (x.nonce : Nat)]] W (PdP w.heap.size p q j s.mtu W) := fun W hW =>
        do_any _ p q j s t x.op x.a x.b x.moved x.nonce W (hB.below hW) (by omega) hwf.2.2.2
      clear hcell hwf hB
      rw [hsm2] at hdo
      clear hsm2
      go_wp2_with fail
      refine (hdo _ (by first | exact Below.refl _ _ | exact (Below.refl _ _).drew)).mono ?_
      intro e w3 hP
      have hbel3 := hP.bel hbel hp hq2
      obtain ⟨rfl, ⟨s3, t3, hB3, hm3⟩, _⟩ := hP
      clear hdo hbel k0 k1 k2 k3 k4
      go_wp2_with fail
      refine (stands_any p s3 w3 hB3.x).mono ?_
      rintro e w4 ⟨rfl, hb4⟩
      have hb5 := hbel3.trans (hb4.mono hbel3.size)
      have HAL : Hid (∀ o, Bt (w4.alloc o) w.heap.size p q (j + 1) s3 t3 ∧ Below w.heap.size w (w4.alloc o)) := fun o => ⟨(hB3.below hb4).below ((Below.refl _ _).alloc (Nat.le_refl _) _), hb5.alloc hb5.size _⟩
      have hk := hB3.kx
      have g1 := hk.r0
      have g2 := hk.r1
      have g3 := hk.w0
      have g4 := hk.w1
      have g5 := hk.s0
      have g6 := hk.p0
      have g7 := hk.e0
      have g8 := hk.d0
      have HM := (show Hid _ from hm3)
      rw [hm3] at g3 g5
      clear hb4 hb5 hB3 hbel3 hk hm3
      have g9 : 4 * (m : Int) ≤ s3.slow := by omega
      clear g5
      go_wp2
      all_goals
        go_roundw
        case rel => exact ⟨j + 1, s3, t3, by go_num, by omega, by omega, (HAL.out _).1, HM.out, (HAL.out _).2⟩
        case measure => simp [intOf]; omega
    · by_cases hjl2 : j < n
      · have hj1 : (j : Int) < (n : Int) := by omega
        have hj2 : ¬ (j : Int) < 300 := by omega
        go_wp2_with fail
        refine (live15_any wr).mono ?_
        rintro e w3 ⟨rfl, hb3⟩
        have HB := (show Hid _ from hbel.trans (hb3.mono hbel.size))
        clear hb3 hbel
        go_wp2
        go_ret
        exact ⟨rfl, HB.out⟩
      · have hj1 : ¬ (j : Int) < (n : Int) := by omega
        go_wp2_with fail
        refine (live15_any wr).mono ?_
        rintro e w3 ⟨rfl, hb3⟩
        have HB := (show Hid _ from hbel.trans (hb3.mono hbel.size))
        clear hb3 hbel
        go_wp2
        go_ret
        exact ⟨rfl, HB.out⟩
end Go.Proofs.Yteobibinfckmdaa
