/- Whatever time: the walk of law15.PathSteady ends with true. -/
import Derived.Test.YteobibinfckmdaaPtLive
namespace Go.Proofs.Yteobibinfckmdaa
open Go.RowKit
def sprd : Nat → Nat → Nat
  | 0, x => x
  | k + 1, x => sprd k (x - x / 4)
theorem sprd_last : ∀ (k x : Nat), sprd (k + 1) x = sprd k x - sprd k x / 4
  | 0, _ => rfl
  | k + 1, x => sprd_last k (x - x / 4)
theorem sprd_small : ∀ t : Nat, t ≤ 600 → sprd 59 (2 * t) ≤ 3 := by
  have h : ((List.range 601).all fun t => decide (sprd 59 (2 * t) ≤ 3)) = true := by decide +kernel
  intro t ht
  have := List.all_eq_true.1 h t (List.mem_range.2 (by omega))
  simpa using this
/-- Behind i + 1 times. -/
structure Std (t i : Nat) (s : Ps) : Prop where
  any : s.any = true
  mean : s.mean = 8 * (t : Int)
  spread : s.spread = (sprd i (2 * t) : Nat)
  rto : s.rto = max 10 (min ((t : Int) + s.spread) 600)
theorem std_first (t : Nat) (ht : t ≤ 600) : Std t 0 ((psNew 1000).sample t) := by
  have e : isT (t : Int) = true := by simp [isT]; omega
  have e2 : (psNew 1000).sample t = ((psNew 1000).meas (min (t : Int) 600)).rtoed := by unfold Ps.sample; rw [e]; rfl
  have e3 : min (t : Int) 600 = t := by omega
  rw [e2, e3]
  have e4 : (psNew 1000).meas (t : Int) = { (psNew 1000) with any := true, mean := 8 * (t : Int), spread := 2 * (t : Int) } := rfl
  rw [e4]
  refine ⟨rfl, rfl, ?_, ?_⟩
  · show 2 * (t : Int) = _
    simp [sprd]
  · simp only [Ps.rtoed]
    omega
theorem std_next {t i : Nat} {s : Ps} (ht : t ≤ 600) (h : Std t i s) : Std t (i + 1) (s.sample t) := by
  have e : isT (t : Int) = true := by simp [isT]; omega
  have e2 : s.sample t = (s.meas (min (t : Int) 600)).rtoed := by unfold Ps.sample; rw [e]; rfl
  have e3 : min (t : Int) 600 = t := by omega
  have h0 := h.mean
  have e5 : (t : Int) - s.mean / 8 = 0 := by omega
  have e4 : s.meas (t : Int) = { s with mean := s.mean + ((t : Int) - s.mean / 8), spread := s.spread + (max ((t : Int) - s.mean / 8) (-((t : Int) - s.mean / 8)) - s.spread / 4) } := by unfold Ps.meas; rw [if_pos h.any]
  rw [e2, e3, e4, e5]
  have h2 := h.spread
  have h3 := sprd_last i (2 * t)
  have h4 : s.spread - s.spread / 4 = ((sprd (i + 1) (2 * t) : Nat) : Int) := by omega
  refine ⟨h.any, ?_, ?_, ?_⟩
  · simp only [Ps.rtoed]; omega
  · simp only [Ps.rtoed]; omega
  · simp only [Ps.rtoed]; omega
set_option maxRecDepth 100000 in
set_option maxHeartbeats 4000000 in
theorem walk_PathSteady (m : Nat) (w : World) (hm : m < 65536) :
    Calls Try.prog 5 #[.int .u16 (m : Int)] w fun e w' => e = .returned (.bool true) ∧ Below w.heap.size w w' := by
  obtain ⟨t, ht⟩ : ∃ t, t = m % 601 := ⟨_, rfl⟩
  have htl : t ≤ 600 := by omega
  have htm : Int.tmod (m : Int) 601 = (t : Int) := by rw [Int.tmod_eq_emod_of_nonneg (by omega)]; omega
  clear ht
  have hE : smE (t : Int) = 0 := by unfold smE; rw [show isT (t : Int) = true by simp [isT]; omega]; rfl
  have hwf := wayf4
  go_enter Try.func5, Try.ntmps5
  go_wp2_with fail
  refine (pnew_any 1000 w (by omega) (by omega) _ rfl).mono ?_
  rintro e w1 ⟨⟨p, rfl, hp, h1⟩, hb1⟩
  go_wp2
  have hlt := h1.lt
  go_loopw [6] (fun iv wr => ∃ (i : Nat) (s : Ps), iv = .int .i64 (i : Nat) ∧ i ≤ 60 ∧ Stc wr p s.cs ∧ Pok 0 s ∧ ((i = 0 ∧ s = psNew 1000) ∨ ∃ j, i = j + 1 ∧ Std t j s) ∧ Below w.heap.size w wr) (fun iv _ => 60 - (intOf iv).toNat)
  case atStart => exact ⟨0, psNew 1000, rfl, by omega, h1, pok_new 1000 (by omega) (by omega), .inl ⟨rfl, rfl⟩, hb1⟩
  case round =>
    obtain ⟨i, s, rfl, hi, hS, hk, hst, hbel⟩ := hrel
    clear h1 hb1
    by_cases hi60 : i < 60
    · have hi1 : (i : Int) < 60 := by omega
      have hnx : Std t i (s.sample t) := by
        rcases hst with ⟨rfl, rfl⟩ | ⟨j, rfl, hj⟩
        · exact std_first t htl
        · exact std_next htl hj
      have hq := sample_any 0 p s (t : Int) wr hS hk _ rfl
      rw [hE] at hq
      have hk2 := pok_sample hk (t : Int)
      clear hst hS hk
      obtain ⟨q, hqq⟩ : ∃ q, q = s.sample t := ⟨_, rfl⟩
      rw [← hqq] at hnx hq hk2
      clear hqq
      have HN := (show Hid _ from hnx)
      have hme := hnx.mean
      clear hnx
      go_wp2_with fail
      refine hq.mono ?_
      rintro e w2 ⟨rfl, h2⟩
      have hb2 := h2.bel hbel hp
      clear hq hbel
      go_wp2_with fail
      refine (stands_any p q w2 h2.st).mono ?_
      rintro e w3 ⟨rfl, hb3⟩
      have HS := (show Hid _ from h2.st.below hb3)
      have HB := (show Hid _ from hb2.trans (hb3.mono hb2.size))
      clear h2 hb2 hb3
      go_wp2
      go_roundw
      case rel => exact ⟨i + 1, q, by go_num, by omega, HS.out, hk2, .inr ⟨i, rfl, HN.out⟩, HB.out⟩
      case measure => simp [intOf]; omega
    · have hi1 : ¬ (i : Int) < 60 := by omega
      have hj : Std t 59 s := by
        rcases hst with ⟨rfl, rfl⟩ | ⟨j, e, hj⟩
        · omega
        · rw [show j = 59 by omega] at hj; exact hj
      have h5 := sprd_small t htl
      have h6 := hj.spread
      have h7 : s.spread ≤ 3 := by omega
      have h8 := hk.d0
      have h9 : s.rto = min (max ((t : Int) + s.spread) 10) 600 := by have := hj.rto; omega
      have H9 := (show Hid _ from h9)
      clear hst hj h5 h6 h9
      go_wp2_with fail
      refine (stands_any p s wr hS).mono ?_
      rintro e w2 ⟨rfl, hb2⟩
      have hbw2 := hbel.trans (hb2.mono hbel.size)
      have hlt2 := (hS.below hb2).lt
      clear hS hbel hb2
      go_wp2_with fail
      have hW := Stc.new w2 s.way 40 _ rfl
      have hbW : Below w2.heap.size w2 (w2.alloc (.cells s.way.toArray 40)) := (Below.refl _ _).alloc (Nat.le_refl _) _
      change Calls _ _ _ (w2.alloc (.cells s.way.toArray 40)) _
      obtain ⟨W, hWW⟩ : ∃ W, W = w2.alloc (.cells s.way.toArray 40) := ⟨_, rfl⟩
      rw [← hWW] at hW hbW ⊢
      clear hWW
      refine (live15_any W).mono ?_
      rintro e w4 ⟨rfl, hb4⟩
      have hbW4 := hbW.trans (hb4.mono hbW.size)
      have HB := (show Hid _ from hbw2.trans (hbW4.mono hbw2.size))
      have hV := hW.below hb4
      have c3 : w4.cell? ⟨w2.heap.size, 3, none⟩ = some (.int .i64 s.rto) := hV.cell 3 _ rfl
      have c5 : w4.cell? ⟨w2.heap.size, 5, none⟩ = some (.int .i64 s.spread) := hV.cell 5 _ rfl
      clear hV hW hb4 hbW hbW4 hbw2 hlt2
      rw [H9.out] at c3
      go_wp2
      go_ret
      exact ⟨rfl, HB.out⟩
end Go.Proofs.Yteobibinfckmdaa
