/- Whatever mtu and number: the walk of law15.PathSlow ends with true. -/
import Derived.Test.YteobibinfckmdaaPtLive
import Derived.Test.YteobibinfckmdaaPt4
namespace Go.Proofs.Yteobibinfckmdaa
open Go.RowKit
structure Slw (m : Int) (s q : Ps) : Prop where
  a : s.win ≤ s.slow → s.win ≤ 8192 → q.win = s.win + m
  b : s.slow < s.win → q.win ≤ s.win + m
  c : s.win ≤ q.win
  d : q.mtu = m
theorem slw_grow {k : Nat} {m : Int} {s : Ps} (h : Pok k s) (hm : s.mtu = m) (hm2 : m ≤ 463) : Slw m s (s.grow m true (min s.win 8192)) := by
  have h1 := h.w0
  have h2 := h.w1
  have h3 := h.m0
  have e1 : isB m = true := by simp [isB]; omega
  have e2 : isB (min s.win 8192) = true := by simp [isB]; omega
  have E2 : s.grow m true (min s.win 8192) = if s.win ≤ s.slow then (if s.win ≤ min s.win 8192 then s.widen (min m s.mtu) else s) else if s.win ≤ min s.win 8192 ∧ s.win ≤ s.part + m then { s with part := s.part + m - s.win, win := min (s.win + s.mtu) 32768 } else { s with part := s.part + m } := by unfold Ps.grow; rw [if_pos ⟨e1, e2, rfl, by omega⟩]
  rw [E2]
  split
  · split
    · refine ⟨fun _ _ => ?_, fun _ => ?_, ?_, hm⟩ <;> simp only [Ps.widen] <;> omega
    · refine ⟨fun _ _ => ?_, fun _ => ?_, ?_, hm⟩ <;> omega
  · split
    · refine ⟨fun _ _ => ?_, fun _ => ?_, ?_, hm⟩ <;> dsimp only <;> omega
    · refine ⟨fun _ _ => ?_, fun _ => ?_, ?_, hm⟩ <;> dsimp only <;> omega
set_option maxRecDepth 100000 in
set_option maxHeartbeats 4000000 in
theorem walk_PathSlow (u n : Nat) (w : World) (hu : u < 65536) (hn : n < 256) :
    Calls Try.prog 8 #[.int .u16 (u : Int), .int .u8 (n : Int)] w fun e w' => e = .returned (.bool true) ∧ Below w.heap.size w w' := by
  obtain ⟨m, hm⟩ : ∃ m, m = 64 + u % 400 := ⟨_, rfl⟩
  have hm0 : 64 ≤ m := by omega
  have hm1 : m ≤ 463 := by omega
  have htm : Int.tmod (u : Int) 400 = (m : Int) - 64 := by rw [Int.tmod_eq_emod_of_nonneg (by omega)]; omega
  have htm2 : 64 + ((m : Int) - 64) = m := by omega
  clear hm
  have hE : ∀ x, 64 ≤ x → grE (m : Int) (min x 8192) = 0 := fun x hx => by unfold grE; rw [show isB (m : Int) = true by simp [isB]; omega, show isB (min x 8192) = true by simp [isB]; omega]; rfl
  have hE := (show Hid _ from hE)
  go_enter Try.func8, Try.ntmps8
  go_wp2_with fail
  refine (pnew_any (m : Int) w (by omega) (by omega) _ (by first | rfl | rw [htm2])).mono ?_
  rintro e w1 ⟨⟨p, rfl, hp, h1⟩, hb1⟩
  go_wp2
  go_loopw [8] (fun iv wr => ∃ (i : Nat) (s : Ps), iv = .int .i64 (i : Nat) ∧ i ≤ n ∧ Stc wr p s.cs ∧ Pok i s ∧ s.mtu = m ∧ Below w.heap.size w wr) (fun iv _ => n - (intOf iv).toNat)
  case atStart => exact ⟨0, psNew m, rfl, by omega, h1, pok_new m (by omega) (by omega), rfl, hb1⟩
  case round =>
    obtain ⟨i, s, rfl, hi, hS, hk, hsm, hbel⟩ := hrel
    clear h1 hb1
    by_cases hin : i < n
    · have hi1 : (i : Int) < (n : Int) := by omega
      go_wp2_with fail
      refine (stands_any p s wr hS).mono ?_
      rintro e w2 ⟨rfl, hb2⟩
      have HPL := (show Hid _ from (hS.below hb2).lt)
      have HAL : Hid (∀ o, Stc (w2.alloc o) p s.cs ∧ Below w.heap.size w (w2.alloc o)) := fun o => by
        have hb4 := hbel.trans (hb2.mono hbel.size)
        exact ⟨(hS.below hb2).below ((Below.refl _ _).alloc (Nat.le_refl _) _), hb4.alloc hb4.size _⟩
      clear hS hbel hb2
      go_wp2_with fail
      obtain ⟨hS1, hb1⟩ := HAL.out (.cells #[.int .i64 s.win, .int .i64 s.slow, .int .i64 s.part, .int .i64 s.rto, .int .i64 s.mean, .int .i64 s.spread, .int .i64 s.faults, .bool s.up, .bool s.sure] 40)
      have hV1 := Stc.new w2 s.way 40 _ rfl
      have hpl : p < w2.heap.size := HPL.out
      change Calls _ _ _ (w2.alloc (.cells s.way.toArray 40)) _
      change Stc (w2.alloc (.cells s.way.toArray 40)) p s.cs at hS1
      change Below w.heap.size w (w2.alloc (.cells s.way.toArray 40)) at hb1
      obtain ⟨W, hW⟩ : ∃ W, W = w2.alloc (.cells s.way.toArray 40) := ⟨_, rfl⟩
      rw [← hW] at hS1 hb1 hV1 ⊢
      clear hW HAL
      have hq := slw_grow hk hsm (by omega)
      have hkq := pok_grow hk (m : Int) true (min s.win 8192)
      have hw0 := hk.w0
      have hw1 := hk.w1
      have hm64 := hk.m0
      refine (grow_any i p s (m : Int) true (min s.win 8192) W hS1 hk (by omega) _ _ _ rfl rfl rfl).mono ?_
      rintro e w3 ⟨rfl, h3⟩
      rw [hE.out s.win (by omega)]
      obtain ⟨Q, hQ⟩ : ∃ Q, Q = s.grow (m : Int) true (min s.win 8192) := ⟨_, rfl⟩
      rw [← hQ] at hq hkq h3
      clear hQ
      have hb3 := h3.bel hb1 hp
      have hV3 := hV1.fr h3.fr (by show ¬ w2.heap.size = p; omega)
      clear hb1 hV1 hS1 hk
      go_wp2_with fail
      refine (stands_any p Q w3 h3.st).mono ?_
      rintro e w4 ⟨rfl, hb4⟩
      have hb5 := hb3.trans (hb4.mono hb3.size)
      have HAL : Hid (∀ o, Stc (w4.alloc o) p Q.cs ∧ Below w.heap.size w (w4.alloc o)) := fun o => ⟨(h3.st.below hb4).below ((Below.refl _ _).alloc (Nat.le_refl _) _), hb5.alloc hb5.size _⟩
      have hV4 := hV3.below hb4
      have d0 : w4.cell? ⟨w2.heap.size, 0, none⟩ = some (.int .i64 s.win) := hV4.cell 0 _ rfl
      have d1 : w4.cell? ⟨w2.heap.size, 1, none⟩ = some (.int .i64 s.slow) := hV4.cell 1 _ rfl
      have hlt4 := hV4.lt
      have qa := hq.a
      have qb := hq.b
      have qc := hq.c
      have HQD := (show Hid _ from hq.d)
      clear hb3 hb4 hb5 hV4 hV3 h3 hq
      go_wp2
      all_goals
        go_roundw
        case rel => exact ⟨i + 1, Q, by go_num, by omega, (HAL.out _).1, hkq, HQD.out, (HAL.out _).2⟩
        case measure => simp [intOf]; omega
    · have hi1 : ¬ (i : Int) < (n : Int) := by omega
      go_wp2_with fail
      refine (stands_any p s wr hS).mono ?_
      rintro e w2 ⟨rfl, hb2⟩
      have HPL := (show Hid _ from (hS.below hb2).lt)
      have HAL : Hid (∀ o, Stc (w2.alloc o) p s.cs ∧ Below w.heap.size w (w2.alloc o)) := fun o => by
        have hb4 := hbel.trans (hb2.mono hbel.size)
        exact ⟨(hS.below hb2).below ((Below.refl _ _).alloc (Nat.le_refl _) _), hb4.alloc hb4.size _⟩
      clear hS hbel hb2
      go_wp2_with fail
      obtain ⟨hS1, hb1⟩ := HAL.out (.cells #[.int .i64 s.win, .int .i64 s.slow, .int .i64 s.part, .int .i64 s.rto, .int .i64 s.mean, .int .i64 s.spread, .int .i64 s.faults, .bool s.up, .bool s.sure] 40)
      have hV1 := Stc.new w2 s.way 40 _ rfl
      have hpl : p < w2.heap.size := HPL.out
      change Calls _ _ _ (w2.alloc (.cells s.way.toArray 40)) _
      change Stc (w2.alloc (.cells s.way.toArray 40)) p s.cs at hS1
      change Below w.heap.size w (w2.alloc (.cells s.way.toArray 40)) at hb1
      obtain ⟨W, hW⟩ : ∃ W, W = w2.alloc (.cells s.way.toArray 40) := ⟨_, rfl⟩
      rw [← hW] at hS1 hb1 hV1 ⊢
      clear hW HAL
      refine (fast_any i p s W hS1 hk).mono ?_
      rintro e w3 ⟨rfl, h3⟩
      have hb3 := h3.bel hb1 hp
      have hV3 := hV1.fr h3.fr (by show ¬ w2.heap.size = p; omega)
      have g1 := hk.w0
      have g2 := hk.w1
      have g3 := hk.m0
      clear hb1 hV1 hS1 hk
      go_wp2_with fail
      refine (stands_any p s.narrow w3 h3.st).mono ?_
      rintro e w4 ⟨rfl, hb4⟩
      have hb5 := hb3.trans (hb4.mono hb3.size)
      have hV4 := hV3.below hb4
      clear hb3 hb4 hV3 h3
      have d0 : w4.cell? ⟨w2.heap.size, 0, none⟩ = some (.int .i64 s.win) := hV4.cell 0 _ rfl
      have hlt4 := hV4.lt
      have HAL2 : Hid (∀ o, Below w4.heap.size w4 (w4.alloc o) ∧ Below w.heap.size w (w4.alloc o)) := fun o => ⟨(Below.refl _ _).alloc (Nat.le_refl _) _, hb5.alloc hb5.size _⟩
      have HN := (show Hid _ from Stc.new w4 s.narrow.way 40 _ rfl)
      have n0 : s.narrow.win = max (s.win / 2) (4 * (m : Int)) := by rw [← hsm]; rfl
      have n1 : s.narrow.slow = max (s.win / 2) (4 * (m : Int)) := by rw [← hsm]; rfl
      have n2 : s.narrow.part = 0 := rfl
      have N0 := (show Hid _ from n0)
      have N1 := (show Hid _ from n1)
      have N2 := (show Hid _ from n2)
      clear hb5 hV4 n0 n1 n2
      go_wp2_with fail
      obtain ⟨hbA, hbB⟩ := HAL2.out (.cells s.narrow.way.toArray 40)
      have hVN := HN.out
      change Calls _ _ _ (w4.alloc (.cells s.narrow.way.toArray 40)) _
      obtain ⟨V, hV⟩ : ∃ V, V = w4.alloc (.cells s.narrow.way.toArray 40) := ⟨_, rfl⟩
      rw [← hV] at hbA hbB hVN ⊢
      clear hV HAL2 HN
      refine (live15_any V).mono ?_
      rintro e w6 ⟨rfl, hb6⟩
      have hVV := hVN.below hb6
      have c0 : w6.cell? ⟨w4.heap.size, 0, none⟩ = some (.int .i64 s.narrow.win) := hVV.cell 0 _ rfl
      have c1 : w6.cell? ⟨w4.heap.size, 1, none⟩ = some (.int .i64 s.narrow.slow) := hVV.cell 1 _ rfl
      have c2 : w6.cell? ⟨w4.heap.size, 2, none⟩ = some (.int .i64 s.narrow.part) := hVV.cell 2 _ rfl
      rw [N0.out] at c0
      rw [N1.out] at c1
      rw [N2.out] at c2
      have hbA6 := hbA.trans (hb6.mono hbA.size)
      have d6 := (hbA6.cell (p := ⟨w2.heap.size, 0, none⟩) hlt4).trans d0
      have HB := (show Hid _ from hbB.trans (hb6.mono hbB.size))
      have dd2 := tdiv2 s.win (by omega)
      clear hVV hVN hbA hbB hb6 hbA6 d0 N0 N1 N2
      go_wp2
      go_ret
      exact ⟨rfl, HB.out⟩
end Go.Proofs.Yteobibinfckmdaa
