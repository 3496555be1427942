/- Whatever row of faults and good news: the walk of law15.PathDown ends with true. -/
import Derived.Test.YteobibinfckmdaaPtLive
namespace Go.Proofs.Yteobibinfckmdaa
open Go.RowKit
structure Dn (row : Nat) (s : Ps) : Prop where
  f : s.faults = (row : Int)
  u : s.up = decide ((row : Int) ≤ 3)
theorem dn_fault {row : Nat} {s : Ps} (h : Dn row s) : Dn (row + 1) s.fault ∧ s.down = decide (row + 1 = 4) := by
  have h1 := h.f
  have h2 := h.u
  refine ⟨⟨by simp only [Ps.fault]; omega, ?_⟩, ?_⟩
  · simp only [Ps.fault]
    rw [h2, h1]
    by_cases hr : row ≤ 2
    · rw [decide_eq_true (show (row : Int) ≤ 3 by omega), decide_eq_false (show ¬ (3 : Int) < row + 1 by omega), decide_eq_true (show ((row + 1 : Nat) : Int) ≤ 3 by omega)]; rfl
    · rw [decide_eq_true (show (3 : Int) < row + 1 by omega), decide_eq_false (show ¬ ((row + 1 : Nat) : Int) ≤ 3 by omega)]; simp
  · simp only [Ps.down]
    rw [h2, h1]
    by_cases hr : row ≤ 2
    · rw [decide_eq_false (show ¬ (3 : Int) < row + 1 by omega), decide_eq_false (show ¬ row + 1 = 4 by omega)]; simp
    · by_cases hr3 : row = 3
      · subst hr3; rfl
      · rw [decide_eq_false (show ¬ (row : Int) ≤ 3 by omega), decide_eq_false (show ¬ row + 1 = 4 by omega)]; rfl
set_option maxRecDepth 100000 in
set_option maxHeartbeats 4000000 in
theorem walk_PathDown (a : Option Addr) (n c : Nat) (zs : List Nat) (w : World) (hl : Sl w a n c zs ∧ c * 1 ≤ 140737488351232) :
    Calls Try.prog 6 #[.slice a n c] w fun e w' => e = .returned (.bool true) ∧ Below w.heap.size w w' := by
  have hlen := hl.1.len
  have hsm := hl.1.small
  go_enter Try.func6, Try.ntmps6
  go_wp2_with fail
  refine (pnew_any 1000 w (by omega) (by omega) _ rfl).mono ?_
  rintro e w1 ⟨⟨p, rfl, hp, h1⟩, hb1⟩
  go_wp2
  go_loopw [5, 6] (fun rv iv wr => ∃ (i row : Nat) (s : Ps), rv = .int .i64 (row : Nat) ∧ iv = .int .i64 (i : Nat) ∧ i ≤ n ∧ i ≤ 300 ∧ row ≤ i ∧ Stc wr p s.cs ∧ Pok i s ∧ Dn row s ∧ Below w.heap.size w wr) (fun _ iv _ => n - (intOf iv).toNat)
  case atStart => exact ⟨0, 0, psNew 1000, rfl, rfl, by omega, by omega, by omega, h1, pok_new 1000 (by omega) (by omega), ⟨rfl, rfl⟩, hb1⟩
  case round =>
    obtain ⟨i, row, s, rfl, rfl, hi, hi3, hrow, hS, hk, hD, hbel⟩ := hrel
    clear h1 hb1
    by_cases hin : i < n
    · have hi1 : (i : Int) < (n : Int) := by omega
      by_cases hi300 : i < 300
      · have hi2 : (i : Int) < 300 := by omega
        rcases hl.1.at_ with h0 | ⟨lb, off, rfl, hblt, hcell⟩
        · omega
        have hc := hcell i hin
        have hbd := hl.1.bnd i
        have hcr := (hbel.cell (p := ⟨lb, off + i, none⟩) hblt).trans hc
        obtain ⟨z, hz⟩ : ∃ z, z = zs.getD i 0 := ⟨_, rfl⟩
        rw [← hz] at hc hcr hbd
        clear hz hcell
        have hzm : Int.tmod (z : Int) 4 = ((z % 4 : Nat) : Int) := by rw [Int.tmod_eq_emod_of_nonneg (by omega)]; omega
        have hz4 : z % 4 < 4 := Nat.mod_lt _ (by omega)
        generalize z % 4 = y at *
        by_cases hy0 : y = 0
        · subst hy0
          have hq := good_any p s wr hS
          have hkQ : Pok (i + 1) s.good := (pok_good hk).up_ (by omega)
          have hDQ : Dn 0 s.good := ⟨rfl, rfl⟩
          obtain ⟨Q, hQ⟩ : ∃ Q, Q = s.good := ⟨_, rfl⟩
          rw [← hQ] at hq hkQ hDQ
          clear hQ hS hk hD
          go_wp2_with fail
          refine hq.mono ?_
          rintro e w2 ⟨rfl, h2⟩
          have hb2 := h2.bel hbel hp
          clear hq hbel hcr
          go_wp2_with fail
          refine (stands_any p Q w2 h2.st).mono ?_
          rintro e w3 ⟨rfl, hb3⟩
          have hb4 := hb2.trans (hb3.mono hb2.size)
          have HAL : Hid (∀ o, Stc (w3.alloc o) p Q.cs ∧ Below w.heap.size w (w3.alloc o)) := fun o => ⟨(h2.st.below hb3).below ((Below.refl _ _).alloc (Nat.le_refl _) _), hb4.alloc hb4.size _⟩
          have hc3 := (hb4.cell (p := ⟨lb, off + i, none⟩) hblt).trans hc
          have hl3 : lb < w3.heap.size := Nat.lt_of_lt_of_le hblt hb4.size
          have hDf := hDQ.f
          have hDu := hDQ.u
          have HD := (show Hid _ from hDQ)
          have HK := (show Hid _ from hkQ)
          clear h2 hb3 hb2 hb4 hDQ hkQ
          go_wp2
          go_roundw
          case rel => exact ⟨i + 1, 0, Q, by go_num, by go_num, by omega, by omega, by omega, (HAL.out _).1, HK.out, HD.out, (HAL.out _).2⟩
          case measure => simp [intOf]; omega
        · have hy0' : ¬ (y : Int) = 0 := by omega
          by_cases hy1 : y = 1
          · subst hy1
            have hq := late_any i p s wr hS hk (by omega)
            obtain ⟨hDQ0, hdn⟩ := dn_fault hD
            have hkQ : Pok (i + 1) s.late := pok_late hk
            have hDQ : Dn (row + 1) s.late := ⟨hDQ0.f, hDQ0.u⟩
            rw [hdn] at hq
            obtain ⟨Q, hQ⟩ : ∃ Q, Q = s.late := ⟨_, rfl⟩
            rw [← hQ] at hq hkQ hDQ
            clear hQ hS hk hD hDQ0 hdn
            go_wp2_with fail
            refine hq.mono ?_
            rintro e w2 ⟨rfl, h2⟩
            have hb2 := h2.bel hbel hp
            clear hq hbel hcr
            go_wp2_with fail
            refine (stands_any p Q w2 h2.st).mono ?_
            rintro e w3 ⟨rfl, hb3⟩
            have hb4 := hb2.trans (hb3.mono hb2.size)
            have HAL : Hid (∀ o, Stc (w3.alloc o) p Q.cs ∧ Below w.heap.size w (w3.alloc o)) := fun o => ⟨(h2.st.below hb3).below ((Below.refl _ _).alloc (Nat.le_refl _) _), hb4.alloc hb4.size _⟩
            have hc3 := (hb4.cell (p := ⟨lb, off + i, none⟩) hblt).trans hc
            have hl3 : lb < w3.heap.size := Nat.lt_of_lt_of_le hblt hb4.size
            have hDf := hDQ.f
            have hDu := hDQ.u
            have HD := (show Hid _ from hDQ)
            have HK := (show Hid _ from hkQ)
            clear h2 hb3 hb2 hb4 hDQ hkQ
            by_cases hr4 : row = 3
            · subst hr4
              go_wp2
              go_roundw
              case rel => exact ⟨i + 1, 4, Q, by go_num, by go_num, by omega, by omega, by omega, (HAL.out _).1, HK.out, HD.out, (HAL.out _).2⟩
              case measure => simp [intOf]; omega
            · have hdb : decide (row + 1 = 4) = false := decide_eq_false (by omega)
              have hr5 : ¬ (row : Int) + 1 = 4 := by omega
              go_wp2
              go_roundw
              case rel => exact ⟨i + 1, row + 1, Q, by go_num, by go_num, by omega, by omega, by omega, (HAL.out _).1, HK.out, HD.out, (HAL.out _).2⟩
              case measure => simp [intOf]; omega
          · have hy1' : ¬ (y : Int) = 1 := by omega
            have hyb1 : ((y : Int) == 0) = false := by simp; omega
            have hyb2 : ((y : Int) != 0) = true := by simp; omega
            have hq := fault_any i p s wr hS hk (by omega)
            obtain ⟨hDQ, hdn⟩ := dn_fault hD
            have hkQ : Pok (i + 1) s.fault := pok_fault hk
            rw [hdn] at hq
            obtain ⟨Q, hQ⟩ : ∃ Q, Q = s.fault := ⟨_, rfl⟩
            rw [← hQ] at hq hkQ hDQ
            clear hQ hS hk hD hdn
            go_wp2_with fail
            refine hq.mono ?_
            rintro e w2 ⟨rfl, h2⟩
            have hb2 := h2.bel hbel hp
            clear hq hbel hcr
            go_wp2_with fail
            refine (stands_any p Q w2 h2.st).mono ?_
            rintro e w3 ⟨rfl, hb3⟩
            have hb4 := hb2.trans (hb3.mono hb2.size)
            have HAL : Hid (∀ o, Stc (w3.alloc o) p Q.cs ∧ Below w.heap.size w (w3.alloc o)) := fun o => ⟨(h2.st.below hb3).below ((Below.refl _ _).alloc (Nat.le_refl _) _), hb4.alloc hb4.size _⟩
            have hc3 := (hb4.cell (p := ⟨lb, off + i, none⟩) hblt).trans hc
            have hl3 : lb < w3.heap.size := Nat.lt_of_lt_of_le hblt hb4.size
            have hDf := hDQ.f
            have hDu := hDQ.u
            have HD := (show Hid _ from hDQ)
            have HK := (show Hid _ from hkQ)
            clear h2 hb3 hb2 hb4 hDQ hkQ
            by_cases hr4 : row = 3
            · subst hr4
              go_wp2
              go_roundw
              case rel => exact ⟨i + 1, 4, Q, by go_num, by go_num, by omega, by omega, by omega, (HAL.out _).1, HK.out, HD.out, (HAL.out _).2⟩
              case measure => simp [intOf]; omega
            · have hdb : decide (row + 1 = 4) = false := decide_eq_false (by omega)
              have hr5 : ¬ (row : Int) + 1 = 4 := by omega
              go_wp2
              go_roundw
              case rel => exact ⟨i + 1, row + 1, Q, by go_num, by go_num, by omega, by omega, by omega, (HAL.out _).1, HK.out, HD.out, (HAL.out _).2⟩
              case measure => simp [intOf]; omega
      · have hi2 : ¬ (i : Int) < 300 := by omega
        go_wp2_with fail
        refine (live15_any wr).mono ?_
        rintro e w3 ⟨rfl, hb3⟩
        have HB := (show Hid _ from hbel.trans (hb3.mono hbel.size))
        clear hb3 hbel
        go_wp2
        go_ret
        exact ⟨rfl, HB.out⟩
    · have hi1 : ¬ (i : Int) < (n : Int) := by omega
      go_wp2_with fail
      refine (live15_any wr).mono ?_
      rintro e w3 ⟨rfl, hb3⟩
      have HB := (show Hid _ from hbel.trans (hb3.mono hbel.size))
      clear hb3 hbel
      go_wp2
      go_ret
      exact ⟨rfl, HB.out⟩
end Go.Proofs.Yteobibinfckmdaa
