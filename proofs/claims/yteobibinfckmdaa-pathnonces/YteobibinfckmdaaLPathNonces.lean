/- Whatever script, nonces and ticks: the walk of law15.PathNonces ends with true. -/
import Derived.Test.YteobibinfckmdaaPtPlay
namespace Go.Proofs.Yteobibinfckmdaa
open Go.RowKit
/-- A way in memory, and other blocks beside it. -/
structure Nn (w0 : World) (p : Nat) (cs : List Value) (L : List (Nat × List Value)) (W : World) : Prop where
  x : Stc W p cs
  k : ∀ e ∈ L, Stc W e.1 e.2 ∧ e.1 ≠ p
  bel : Below w0.heap.size w0 W
  hp : w0.heap.size ≤ p
theorem Nn.next {w0 : World} {p : Nat} {cs : List Value} {L : List (Nat × List Value)} {W W' : World} (h : Nn w0 p cs L W) (hb : Below W.heap.size W W') : Nn w0 p cs L W' :=
  ⟨h.x.below hb, fun e he => ⟨(h.k e he).1.below hb, (h.k e he).2⟩, h.bel.trans (hb.mono h.bel.size), h.hp⟩
theorem Nn.on {w0 : World} {p : Nat} {cs cs2 : List Value} {L : List (Nat × List Value)} {W W' : World} (h : Nn w0 p cs L W) (hx : PtW W p cs2 W') : Nn w0 p cs2 L W' :=
  ⟨hx.st, fun e he => ⟨(h.k e he).1.fr hx.fr (fun e2 => (h.k e he).2 e2), (h.k e he).2⟩, hx.bel h.bel h.hp, h.hp⟩
theorem Nn.push {w0 : World} {p : Nat} {cs : List Value} {L : List (Nat × List Value)} {W : World} (h : Nn w0 p cs L W) (ds : List Value) (T : TypeId) : Nn w0 p cs ((W.heap.size, ds) :: L) (W.alloc (.cells ds.toArray T)) := by
  have h1 := h.next ((Below.refl _ _).alloc (Nat.le_refl _) (.cells ds.toArray T))
  refine ⟨h1.x, fun e he => ?_, h1.bel, h.hp⟩
  rcases List.mem_cons.1 he with rfl | he
  · exact ⟨Stc.new W ds T _ rfl, by have := h.x.lt; show W.heap.size ≠ p; omega⟩
  · exact h1.k e he
theorem Nn.at_ {w0 : World} {p : Nat} {cs : List Value} {L : List (Nat × List Value)} {W : World} (h : Nn w0 p cs L W) (b : Nat) (ds : List Value) (hm : (b, ds) ∈ L) (i : Nat) (v : Value) (hv : ds[i]? = some v) : W.cell? ⟨b, i, none⟩ = some v := (h.k (b, ds) hm).1.cell i v hv
theorem beat_hit (s : Ps) (n m : Nat) (t u : Int) (ht : isT t = true) (hu : isT u = true) : (s.beat n t).hit m u = (decide (n = m) && decide (t ≤ u)) := by
  unfold Ps.hit Ps.beat
  rw [ht, hu]
  rfl
theorem answer_no (s : Ps) (n : Nat) (t : Int) (n' : Nat) (t' : Int) (h : s.hit n t = false) : s.answer n t n' t' = s := by
  unfold Ps.answer; rw [h]; rfl
structure Ans (s : Ps) : Prop where
  sure : s.sure = true
  up : s.up = true
  faults : s.faults = 0
  fly : s.fly = false
theorem ans_meas {s : Ps} (h : Ans s) (t : Int) : Ans (s.meas t) := by
  unfold Ps.meas
  split <;> exact ⟨h.sure, h.up, h.faults, h.fly⟩
theorem ans_sample {s : Ps} (h : Ans s) (t : Int) : Ans (s.sample t) := by
  unfold Ps.sample
  split
  · have := ans_meas h (min t 600)
    exact ⟨this.sure, this.up, this.faults, this.fly⟩
  · exact h
theorem ans_yes (s : Ps) (n : Nat) (t : Int) (n' : Nat) (t' : Int) (h : s.hit n t = true) : Ans (s.answer n t n' t') := by
  unfold Ps.answer
  rw [h]
  exact ans_sample ⟨rfl, rfl, rfl, rfl⟩ _
theorem ans_hit {s : Ps} (h : Ans s) (n : Nat) (t : Int) : s.hit n t = false := by
  unfold Ps.hit
  rw [h.fly]
  simp
set_option maxRecDepth 100000 in
set_option maxHeartbeats 8000000 in
theorem walk_PathNonces (a : Option Addr) (n c : Nat) (dd : List Pd) (n0 n1 t0 t1 : Nat) (w : World) (hl : SlP w a n c dd) (hn0 : n0 < 18446744073709551616) (hn1 : n1 < 18446744073709551616) (ht0 : t0 < 4294967296) (ht1 : t1 < 4294967296) :
    Calls Try.prog 7 #[.slice a n c, .agg #[.int .u64 (n0 : Int), .int .u64 (n1 : Int)], .agg #[.int .u32 (t0 : Int), .int .u32 (t1 : Int)]] w fun e w' => e = .returned (.bool true) ∧ Below w.heap.size w w' := by
  obtain ⟨W0, hW0⟩ : ∃ W, W = (w.alloc (.cells #[.int .u64 (n0 : Int), .int .u64 (n1 : Int)] 50)).alloc (.cells #[.int .u32 (t0 : Int), .int .u32 (t1 : Int)] 52) := ⟨_, rfl⟩
  have hb0 : Below w.heap.size w W0 := by rw [hW0]; exact ((Below.refl _ _).alloc (Nat.le_refl _) _).alloc (by simp) _
  have hz0 : W0.heap.size = w.heap.size + 2 := by rw [hW0]; simp
  have hs1 : Stc W0 w.heap.size [.int .u64 (n0 : Int), .int .u64 (n1 : Int)] := by
    have h1 := Stc.new w [.int .u64 (n0 : Int), .int .u64 (n1 : Int)] 50 _ rfl
    rw [hW0]
    exact h1.below ((Below.refl _ _).alloc (Nat.le_refl _) _)
  have hs2 : Stc W0 (w.heap.size + 1) [.int .u32 (t0 : Int), .int .u32 (t1 : Int)] := by
    have h1 := Stc.new (w.alloc (.cells #[.int .u64 (n0 : Int), .int .u64 (n1 : Int)] 50)) [.int .u32 (t0 : Int), .int .u32 (t1 : Int)] 52 _ hW0
    simpa using h1
  have hl0 := hl.below hb0
  have eN : isT (t0 : Int) = true := by simp [isT]; omega
  have eL : isT ((t0 : Int) + (t1 : Int)) = true := by simp [isT]; omega
  have sN : smE (t0 : Int) = 0 := by unfold smE; rw [eN]; rfl
  have sL : smE ((t0 : Int) + (t1 : Int)) = 0 := by unfold smE; rw [eL]; rfl
  go_enter Try.func7, Try.ntmps7
  go_wp2_with fail
  rw [← hW0]
  clear hW0
  refine (play_any 500 a n c dd W0 (by omega) (by omega) hl0 _ rfl).mono ?_
  rintro e w1 ⟨⟨p, q, s, t, rfl, hB⟩, hb1⟩
  have hN1 : Nn w p s.cs [(w.heap.size, [.int .u64 (n0 : Int), .int .u64 (n1 : Int)]), (w.heap.size + 1, [.int .u32 (t0 : Int), .int .u32 (t1 : Int)])] w1 := by
    have hbp := hB.bp
    refine ⟨hB.x, fun e he => ?_, hb0.trans (hb1.mono hb0.size), by omega⟩
    simp only [List.mem_cons, List.not_mem_nil, or_false] at he
    rcases he with rfl | rfl
    · exact ⟨hs1.below hb1, by show w.heap.size ≠ p; omega⟩
    · exact ⟨hs2.below hb1, by show w.heap.size + 1 ≠ p; omega⟩
  have hkS := hB.kx
  clear hB hb1 hb0 hs1 hs2 hl0 hl
  have a0 := hN1.at_ w.heap.size [.int .u64 (n0 : Int), .int .u64 (n1 : Int)] (by simp) 0 _ rfl
  have b0 := hN1.at_ (w.heap.size + 1) [.int .u32 (t0 : Int), .int .u32 (t1 : Int)] (by simp) 0 _ rfl
  have b1 := hN1.at_ (w.heap.size + 1) [.int .u32 (t0 : Int), .int .u32 (t1 : Int)] (by simp) 1 _ rfl
  go_wp2
  go_quiet (fail)
  all_goals
    have hN2 := hN1.next (W' := w1.drewN nq) ⟨rfl, rfl, rfl, Nat.le_refl _, fun _ _ => rfl⟩
    obtain ⟨w2, hw2⟩ : ∃ w2, w2 = w1.drewN nq := ⟨_, rfl⟩
    rw [← hw2] at hN2 ⊢
    clear hw2 hN1 a0 b0 b1
    have a0 := hN2.at_ w.heap.size [.int .u64 (n0 : Int), .int .u64 (n1 : Int)] (by simp) 0 _ rfl
    go_wp2_with fail
    refine (beat_any p s n0 (t0 : Int) w2 hN2.x _ _ rfl rfl).mono ?_
    rintro e w3 ⟨rfl, h3⟩
    rw [sN]
    have hN3 := hN2.on h3
    have hkQ := pok_beat hkS n0 (t0 : Int) hn0
    have hH : ∀ m u, isT u = true → (s.beat n0 t0).hit m u = (decide (n0 = m) && decide ((t0 : Int) ≤ u)) := fun m u hu => beat_hit s n0 m t0 u eN hu
    obtain ⟨Q, hQ⟩ : ∃ Q, Q = s.beat n0 t0 := ⟨_, rfl⟩
    rw [← hQ] at hN3 hkQ hH
    clear hQ hN2 h3 a0 hkS
    have HH := (show Hid _ from hH)
    clear hH
    go_wp2_with fail
    refine (stands_any p Q w3 hN3.x).mono ?_
    rintro e w4 ⟨rfl, hb4⟩
    have hN4 := (hN3.next hb4).push Q.way 40
    have hlt4 := (hN3.next hb4).x.lt
    have a0 := (hN3.next hb4).at_ w.heap.size [.int .u64 (n0 : Int), .int .u64 (n1 : Int)] (by simp) 0 _ rfl
    have a1 := (hN3.next hb4).at_ w.heap.size [.int .u64 (n0 : Int), .int .u64 (n1 : Int)] (by simp) 1 _ rfl
    have hwl : w.heap.size < w4.heap.size := by have := (hN3.next hb4).bel.size; have := (hN3.next hb4).hp; omega
    have HN4 := (show Hid _ from hN4)
    clear hN3 hb4 hN4
    by_cases hne : n0 = n1
    · subst hne
      by_cases ht : t0 = 0
      · have ht2 : ¬ (0 : Int) < (t0 : Int) := by omega
        clear ht
        go_wp2_with fail
        change Calls _ _ _ (w4.alloc (.cells Q.way.toArray 40)) _
        have hC := HN4.out
        obtain ⟨W4, hW4⟩ : ∃ W, W = w4.alloc (.cells Q.way.toArray 40) := ⟨_, rfl⟩
        rw [← hW4] at hC ⊢
        clear hW4 HN4
        have hh : Q.hit n0 ((t0 : Int) + (t1 : Int)) = true := by rw [HH.out n0 _ eL, decide_eq_true rfl, decide_eq_true (by omega)]; rfl
        have hq := answer_any 200 p Q n0 ((t0 : Int) + (t1 : Int)) W4 hC.x hkQ _ _ rfl rfl
        have hans := ans_yes Q n0 ((t0 : Int) + (t1 : Int)) 0 0 hh
        have hk2 := pok_answer hkQ n0 ((t0 : Int) + (t1 : Int)) 0 0 (by omega) (by omega) (by omega)
        rw [hh, sL] at hq
        obtain ⟨Q2, hQ2⟩ : ∃ Q2, Q2 = Q.answer n0 ((t0 : Int) + (t1 : Int)) 0 0 := ⟨_, rfl⟩
        rw [← hQ2] at hq hans hk2
        clear hQ2 hh
        refine hq.mono ?_
        rintro e w7 ⟨rfl, h7⟩
        have hC := hC.on h7
        have hwy : Q2.way = [.int .i64 Q2.win, .int .i64 Q2.slow, .int .i64 Q2.part, .int .i64 Q2.rto, .int .i64 Q2.mean, .int .i64 Q2.spread, .int .i64 0, .bool true, .bool true] := by unfold Ps.way; rw [hans.faults, hans.up, hans.sure]
        have hst : ∀ V, Stc V p Q2.cs → Calls Try.prog 14 #[.pointer (some ⟨p, 0, none⟩)] V fun e w' => e = .returned (.agg #[.int .i64 Q2.win, .int .i64 Q2.slow, .int .i64 Q2.part, .int .i64 Q2.rto, .int .i64 Q2.mean, .int .i64 Q2.spread, .int .i64 0, .bool true, .bool true]) ∧ Below V.heap.size V w' := fun V hV => by
          have := stands_any p Q2 V hV
          rw [hans.faults, hans.up, hans.sure] at this
          exact this
        have hh := ans_hit hans n0 ((t0 : Int) + (t1 : Int))
        clear hq h7 hans
        go_wp2_with fail
        refine (hst w7 hC.x).mono ?_
        rintro e w8 ⟨rfl, hb8⟩
        have hD := (hC.next hb8).push [.int .i64 Q2.win, .int .i64 Q2.slow, .int .i64 Q2.part, .int .i64 Q2.rto, .int .i64 Q2.mean, .int .i64 Q2.spread, .int .i64 0, .bool true, .bool true] 40
        have a0 := (hC.next hb8).at_ w.heap.size [.int .u64 (n0 : Int), .int .u64 (n0 : Int)] (by simp) 0 _ rfl
        have hwl : w.heap.size < w8.heap.size := by have := (hC.next hb8).bel.size; have := (hC.next hb8).hp; have := (hC.next hb8).x.lt; omega
        have HD := (show Hid _ from hD)
        clear hC hb8 hD
        go_wp2_with fail
        change Calls _ _ _ (w8.alloc (.cells [.int .i64 Q2.win, .int .i64 Q2.slow, .int .i64 Q2.part, .int .i64 Q2.rto, .int .i64 Q2.mean, .int .i64 Q2.spread, .int .i64 0, .bool true, .bool true].toArray 40)) _
        have hC := HD.out
        obtain ⟨W8, hW8⟩ : ∃ W, W = w8.alloc (.cells [.int .i64 Q2.win, .int .i64 Q2.slow, .int .i64 Q2.part, .int .i64 Q2.rto, .int .i64 Q2.mean, .int .i64 Q2.spread, .int .i64 0, .bool true, .bool true].toArray 40) := ⟨_, rfl⟩
        rw [← hW8] at hC ⊢
        clear hW8 HD
        have hq := answer_any 200 p Q2 n0 ((t0 : Int) + (t1 : Int)) W8 hC.x hk2 _ _ rfl rfl
        rw [hh, answer_no _ _ _ _ _ hh, sL] at hq
        refine hq.mono ?_
        rintro e w9 ⟨rfl, h9⟩
        have hC := hC.on h9
        clear hq h9 hh a0
        have HALL : Hid (∀ (L : List (Nat × List Value)) (w' : World), (w8.heap.size, [.int .i64 Q2.win, .int .i64 Q2.slow, .int .i64 Q2.part, .int .i64 Q2.rto, .int .i64 Q2.mean, .int .i64 Q2.spread, .int .i64 0, .bool true, .bool true]) ∈ L → Nn w p Q2.cs L w' → w'.cell? ⟨w8.heap.size, 0, none⟩ = some (.int .i64 Q2.win) ∧ w'.cell? ⟨w8.heap.size, 1, none⟩ = some (.int .i64 Q2.slow) ∧ w'.cell? ⟨w8.heap.size, 2, none⟩ = some (.int .i64 Q2.part) ∧ w'.cell? ⟨w8.heap.size, 3, none⟩ = some (.int .i64 Q2.rto) ∧ w'.cell? ⟨w8.heap.size, 4, none⟩ = some (.int .i64 Q2.mean) ∧ w'.cell? ⟨w8.heap.size, 5, none⟩ = some (.int .i64 Q2.spread) ∧ w'.cell? ⟨w8.heap.size, 6, none⟩ = some (.int .i64 0) ∧ w'.cell? ⟨w8.heap.size, 7, none⟩ = some (.bool true) ∧ w'.cell? ⟨w8.heap.size, 8, none⟩ = some (.bool true)) := fun L w' hm h => ⟨h.at_ w8.heap.size [.int .i64 Q2.win, .int .i64 Q2.slow, .int .i64 Q2.part, .int .i64 Q2.rto, .int .i64 Q2.mean, .int .i64 Q2.spread, .int .i64 0, .bool true, .bool true] hm 0 _ rfl, h.at_ w8.heap.size [.int .i64 Q2.win, .int .i64 Q2.slow, .int .i64 Q2.part, .int .i64 Q2.rto, .int .i64 Q2.mean, .int .i64 Q2.spread, .int .i64 0, .bool true, .bool true] hm 1 _ rfl, h.at_ w8.heap.size [.int .i64 Q2.win, .int .i64 Q2.slow, .int .i64 Q2.part, .int .i64 Q2.rto, .int .i64 Q2.mean, .int .i64 Q2.spread, .int .i64 0, .bool true, .bool true] hm 2 _ rfl, h.at_ w8.heap.size [.int .i64 Q2.win, .int .i64 Q2.slow, .int .i64 Q2.part, .int .i64 Q2.rto, .int .i64 Q2.mean, .int .i64 Q2.spread, .int .i64 0, .bool true, .bool true] hm 3 _ rfl, h.at_ w8.heap.size [.int .i64 Q2.win, .int .i64 Q2.slow, .int .i64 Q2.part, .int .i64 Q2.rto, .int .i64 Q2.mean, .int .i64 Q2.spread, .int .i64 0, .bool true, .bool true] hm 4 _ rfl, h.at_ w8.heap.size [.int .i64 Q2.win, .int .i64 Q2.slow, .int .i64 Q2.part, .int .i64 Q2.rto, .int .i64 Q2.mean, .int .i64 Q2.spread, .int .i64 0, .bool true, .bool true] hm 5 _ rfl, h.at_ w8.heap.size [.int .i64 Q2.win, .int .i64 Q2.slow, .int .i64 Q2.part, .int .i64 Q2.rto, .int .i64 Q2.mean, .int .i64 Q2.spread, .int .i64 0, .bool true, .bool true] hm 6 _ rfl, h.at_ w8.heap.size [.int .i64 Q2.win, .int .i64 Q2.slow, .int .i64 Q2.part, .int .i64 Q2.rto, .int .i64 Q2.mean, .int .i64 Q2.spread, .int .i64 0, .bool true, .bool true] hm 7 _ rfl, h.at_ w8.heap.size [.int .i64 Q2.win, .int .i64 Q2.slow, .int .i64 Q2.part, .int .i64 Q2.rto, .int .i64 Q2.mean, .int .i64 Q2.spread, .int .i64 0, .bool true, .bool true] hm 8 _ rfl⟩
        go_wp2_with fail
        have hC' := hC.next (Below.refl _ _).drew
        clear hC
        obtain ⟨d0, d1, d2, d3, d4, d5, d6, d7, d8⟩ := HALL.out _ _ (by simp) hC'
        go_region_held3 (fun w' => w'.cell? ⟨w8.heap.size, 0, none⟩ = some (.int .i64 Q2.win) ∧ w'.cell? ⟨w8.heap.size, 1, none⟩ = some (.int .i64 Q2.slow) ∧ w'.cell? ⟨w8.heap.size, 2, none⟩ = some (.int .i64 Q2.part) ∧ w'.cell? ⟨w8.heap.size, 3, none⟩ = some (.int .i64 Q2.rto) ∧ w'.cell? ⟨w8.heap.size, 4, none⟩ = some (.int .i64 Q2.mean) ∧ w'.cell? ⟨w8.heap.size, 5, none⟩ = some (.int .i64 Q2.spread) ∧ w'.cell? ⟨w8.heap.size, 6, none⟩ = some (.int .i64 0) ∧ w'.cell? ⟨w8.heap.size, 7, none⟩ = some (.bool true) ∧ w'.cell? ⟨w8.heap.size, 8, none⟩ = some (.bool true)) (first | exact ⟨by assumption, by assumption, by assumption, by assumption, by assumption, by assumption, by assumption, by assumption, by assumption⟩ | fail) (first
          | (go_at_call 10; refine (live15_any _).mono ?_; rintro e wl ⟨rfl, hbl⟩; have hC' := (hC'.next (by first | exact Below.refl _ _ | exact (Below.refl _ _).drew)).next hbl; obtain ⟨e0, e1, e2, e3, e4, e5, e6, e7, e8⟩ := HALL.out _ _ (by simp) hC')
          | (go_at_call 14; refine (hst _ ((hC'.next (by first | exact Below.refl _ _ | exact (Below.refl _ _).drew)).x)).mono ?_; rintro e ws ⟨rfl, hb6⟩; have hC' := (hC'.next (by first | exact Below.refl _ _ | exact (Below.refl _ _).drew)).next hb6; obtain ⟨f0, f1, f2, f3, f4, f5, f6, f7, f8⟩ := HALL.out _ _ (by simp) hC')
          | fail)
        all_goals
          have HB := (show Hid _ from hC'.bel)
          clear hC'
          go_wp2
          go_ret
          exact ⟨rfl, HB.out⟩
      · have ht2 : (0 : Int) < (t0 : Int) := by omega
        clear ht
        have eM : isT ((t0 : Int) - 1) = true := by simp [isT]; omega
        have sM : smE ((t0 : Int) - 1) = 0 := by unfold smE; rw [eM]; rfl
        have hhm : Q.hit n0 ((t0 : Int) - 1) = false := by rw [HH.out n0 _ eM, decide_eq_false (show ¬ (t0 : Int) ≤ (t0 : Int) - 1 by omega)]; simp
        go_wp2_with fail
        change Calls _ _ _ (w4.alloc (.cells Q.way.toArray 40)) _
        have hC := HN4.out
        obtain ⟨W4, hW4⟩ : ∃ W, W = w4.alloc (.cells Q.way.toArray 40) := ⟨_, rfl⟩
        rw [← hW4] at hC ⊢
        clear hW4 HN4
        have hq := answer_any 200 p Q n0 ((t0 : Int) - 1) W4 hC.x hkQ _ _ rfl rfl
        rw [hhm, answer_no _ _ _ _ _ hhm, sM] at hq
        refine hq.mono ?_
        rintro e wz ⟨rfl, h5⟩
        have hC := hC.on h5
        clear hq h5
        have HALL : Hid (∀ (L : List (Nat × List Value)) (w' : World), (w4.heap.size, Q.way) ∈ L → Nn w p Q.cs L w' → w'.cell? ⟨w4.heap.size, 0, none⟩ = some (.int .i64 Q.win) ∧ w'.cell? ⟨w4.heap.size, 1, none⟩ = some (.int .i64 Q.slow) ∧ w'.cell? ⟨w4.heap.size, 2, none⟩ = some (.int .i64 Q.part) ∧ w'.cell? ⟨w4.heap.size, 3, none⟩ = some (.int .i64 Q.rto) ∧ w'.cell? ⟨w4.heap.size, 4, none⟩ = some (.int .i64 Q.mean) ∧ w'.cell? ⟨w4.heap.size, 5, none⟩ = some (.int .i64 Q.spread) ∧ w'.cell? ⟨w4.heap.size, 6, none⟩ = some (.int .i64 Q.faults) ∧ w'.cell? ⟨w4.heap.size, 7, none⟩ = some (.bool Q.up) ∧ w'.cell? ⟨w4.heap.size, 8, none⟩ = some (.bool Q.sure)) := fun L w' hm h => ⟨h.at_ w4.heap.size Q.way hm 0 _ rfl, h.at_ w4.heap.size Q.way hm 1 _ rfl, h.at_ w4.heap.size Q.way hm 2 _ rfl, h.at_ w4.heap.size Q.way hm 3 _ rfl, h.at_ w4.heap.size Q.way hm 4 _ rfl, h.at_ w4.heap.size Q.way hm 5 _ rfl, h.at_ w4.heap.size Q.way hm 6 _ rfl, h.at_ w4.heap.size Q.way hm 7 _ rfl, h.at_ w4.heap.size Q.way hm 8 _ rfl⟩
        go_wp2_with fail
        have hC' := hC.next (Below.refl _ _).drew
        clear hC
        obtain ⟨d0, d1, d2, d3, d4, d5, d6, d7, d8⟩ := HALL.out _ _ (by simp) hC'
        go_region_held3 (fun w' => w'.cell? ⟨w4.heap.size, 0, none⟩ = some (.int .i64 Q.win) ∧ w'.cell? ⟨w4.heap.size, 1, none⟩ = some (.int .i64 Q.slow) ∧ w'.cell? ⟨w4.heap.size, 2, none⟩ = some (.int .i64 Q.part) ∧ w'.cell? ⟨w4.heap.size, 3, none⟩ = some (.int .i64 Q.rto) ∧ w'.cell? ⟨w4.heap.size, 4, none⟩ = some (.int .i64 Q.mean) ∧ w'.cell? ⟨w4.heap.size, 5, none⟩ = some (.int .i64 Q.spread) ∧ w'.cell? ⟨w4.heap.size, 6, none⟩ = some (.int .i64 Q.faults) ∧ w'.cell? ⟨w4.heap.size, 7, none⟩ = some (.bool Q.up) ∧ w'.cell? ⟨w4.heap.size, 8, none⟩ = some (.bool Q.sure)) (first | exact ⟨by assumption, by assumption, by assumption, by assumption, by assumption, by assumption, by assumption, by assumption, by assumption⟩ | fail) (first
          | (go_at_call 14; refine (stands_any p Q _ ((hC'.next (by first | exact Below.refl _ _ | exact (Below.refl _ _).drew)).x)).mono ?_; rintro e wy ⟨rfl, hb6⟩; have hC' := (hC'.next (by first | exact Below.refl _ _ | exact (Below.refl _ _).drew)).next hb6; obtain ⟨f0, f1, f2, f3, f4, f5, f6, f7, f8⟩ := HALL.out _ _ (by simp) hC')
          | fail)
        all_goals
          have hC := hC'
          clear hC' HALL d0 d1 d2 d3 d4 d5 d6 d7 d8 f0 f1 f2 f3 f4 f5 f6 f7 f8 hb6
          have a0 := hC.at_ w.heap.size [.int .u64 (n0 : Int), .int .u64 (n0 : Int)] (by simp) 0 _ rfl
          go_wp2_with fail
          have hh : Q.hit n0 ((t0 : Int) + (t1 : Int)) = true := by rw [HH.out n0 _ eL, decide_eq_true rfl, decide_eq_true (by omega)]; rfl
          have hq := answer_any 200 p Q n0 ((t0 : Int) + (t1 : Int)) wy hC.x hkQ _ _ rfl rfl
          have hans := ans_yes Q n0 ((t0 : Int) + (t1 : Int)) 0 0 hh
          have hk2 := pok_answer hkQ n0 ((t0 : Int) + (t1 : Int)) 0 0 (by omega) (by omega) (by omega)
          rw [hh, sL] at hq
          obtain ⟨Q2, hQ2⟩ : ∃ Q2, Q2 = Q.answer n0 ((t0 : Int) + (t1 : Int)) 0 0 := ⟨_, rfl⟩
          rw [← hQ2] at hq hans hk2
          clear hQ2 hh
          refine hq.mono ?_
          rintro e w7 ⟨rfl, h7⟩
          have hC := hC.on h7
          have hwy : Q2.way = [.int .i64 Q2.win, .int .i64 Q2.slow, .int .i64 Q2.part, .int .i64 Q2.rto, .int .i64 Q2.mean, .int .i64 Q2.spread, .int .i64 0, .bool true, .bool true] := by unfold Ps.way; rw [hans.faults, hans.up, hans.sure]
          have hst : ∀ V, Stc V p Q2.cs → Calls Try.prog 14 #[.pointer (some ⟨p, 0, none⟩)] V fun e w' => e = .returned (.agg #[.int .i64 Q2.win, .int .i64 Q2.slow, .int .i64 Q2.part, .int .i64 Q2.rto, .int .i64 Q2.mean, .int .i64 Q2.spread, .int .i64 0, .bool true, .bool true]) ∧ Below V.heap.size V w' := fun V hV => by
            have := stands_any p Q2 V hV
            rw [hans.faults, hans.up, hans.sure] at this
            exact this
          have hh := ans_hit hans n0 ((t0 : Int) + (t1 : Int))
          clear hq h7 hans
          go_wp2_with fail
          refine (hst w7 hC.x).mono ?_
          rintro e w8 ⟨rfl, hb8⟩
          have hD := (hC.next hb8).push [.int .i64 Q2.win, .int .i64 Q2.slow, .int .i64 Q2.part, .int .i64 Q2.rto, .int .i64 Q2.mean, .int .i64 Q2.spread, .int .i64 0, .bool true, .bool true] 40
          have a0 := (hC.next hb8).at_ w.heap.size [.int .u64 (n0 : Int), .int .u64 (n0 : Int)] (by simp) 0 _ rfl
          have hwl : w.heap.size < w8.heap.size := by have := (hC.next hb8).bel.size; have := (hC.next hb8).hp; have := (hC.next hb8).x.lt; omega
          have HD := (show Hid _ from hD)
          clear hC hb8 hD
          go_wp2_with fail
          change Calls _ _ _ (w8.alloc (.cells [.int .i64 Q2.win, .int .i64 Q2.slow, .int .i64 Q2.part, .int .i64 Q2.rto, .int .i64 Q2.mean, .int .i64 Q2.spread, .int .i64 0, .bool true, .bool true].toArray 40)) _
          have hC := HD.out
          obtain ⟨W8, hW8⟩ : ∃ W, W = w8.alloc (.cells [.int .i64 Q2.win, .int .i64 Q2.slow, .int .i64 Q2.part, .int .i64 Q2.rto, .int .i64 Q2.mean, .int .i64 Q2.spread, .int .i64 0, .bool true, .bool true].toArray 40) := ⟨_, rfl⟩
          rw [← hW8] at hC ⊢
          clear hW8 HD
          have hq := answer_any 200 p Q2 n0 ((t0 : Int) + (t1 : Int)) W8 hC.x hk2 _ _ rfl rfl
          rw [hh, answer_no _ _ _ _ _ hh, sL] at hq
          refine hq.mono ?_
          rintro e w9 ⟨rfl, h9⟩
          have hC := hC.on h9
          clear hq h9 hh a0
          have HALL : Hid (∀ (L : List (Nat × List Value)) (w' : World), (w8.heap.size, [.int .i64 Q2.win, .int .i64 Q2.slow, .int .i64 Q2.part, .int .i64 Q2.rto, .int .i64 Q2.mean, .int .i64 Q2.spread, .int .i64 0, .bool true, .bool true]) ∈ L → Nn w p Q2.cs L w' → w'.cell? ⟨w8.heap.size, 0, none⟩ = some (.int .i64 Q2.win) ∧ w'.cell? ⟨w8.heap.size, 1, none⟩ = some (.int .i64 Q2.slow) ∧ w'.cell? ⟨w8.heap.size, 2, none⟩ = some (.int .i64 Q2.part) ∧ w'.cell? ⟨w8.heap.size, 3, none⟩ = some (.int .i64 Q2.rto) ∧ w'.cell? ⟨w8.heap.size, 4, none⟩ = some (.int .i64 Q2.mean) ∧ w'.cell? ⟨w8.heap.size, 5, none⟩ = some (.int .i64 Q2.spread) ∧ w'.cell? ⟨w8.heap.size, 6, none⟩ = some (.int .i64 0) ∧ w'.cell? ⟨w8.heap.size, 7, none⟩ = some (.bool true) ∧ w'.cell? ⟨w8.heap.size, 8, none⟩ = some (.bool true)) := fun L w' hm h => ⟨h.at_ w8.heap.size [.int .i64 Q2.win, .int .i64 Q2.slow, .int .i64 Q2.part, .int .i64 Q2.rto, .int .i64 Q2.mean, .int .i64 Q2.spread, .int .i64 0, .bool true, .bool true] hm 0 _ rfl, h.at_ w8.heap.size [.int .i64 Q2.win, .int .i64 Q2.slow, .int .i64 Q2.part, .int .i64 Q2.rto, .int .i64 Q2.mean, .int .i64 Q2.spread, .int .i64 0, .bool true, .bool true] hm 1 _ rfl, h.at_ w8.heap.size [.int .i64 Q2.win, .int .i64 Q2.slow, .int .i64 Q2.part, .int .i64 Q2.rto, .int .i64 Q2.mean, .int .i64 Q2.spread, .int .i64 0, .bool true, .bool true] hm 2 _ rfl, h.at_ w8.heap.size [.int .i64 Q2.win, .int .i64 Q2.slow, .int .i64 Q2.part, .int .i64 Q2.rto, .int .i64 Q2.mean, .int .i64 Q2.spread, .int .i64 0, .bool true, .bool true] hm 3 _ rfl, h.at_ w8.heap.size [.int .i64 Q2.win, .int .i64 Q2.slow, .int .i64 Q2.part, .int .i64 Q2.rto, .int .i64 Q2.mean, .int .i64 Q2.spread, .int .i64 0, .bool true, .bool true] hm 4 _ rfl, h.at_ w8.heap.size [.int .i64 Q2.win, .int .i64 Q2.slow, .int .i64 Q2.part, .int .i64 Q2.rto, .int .i64 Q2.mean, .int .i64 Q2.spread, .int .i64 0, .bool true, .bool true] hm 5 _ rfl, h.at_ w8.heap.size [.int .i64 Q2.win, .int .i64 Q2.slow, .int .i64 Q2.part, .int .i64 Q2.rto, .int .i64 Q2.mean, .int .i64 Q2.spread, .int .i64 0, .bool true, .bool true] hm 6 _ rfl, h.at_ w8.heap.size [.int .i64 Q2.win, .int .i64 Q2.slow, .int .i64 Q2.part, .int .i64 Q2.rto, .int .i64 Q2.mean, .int .i64 Q2.spread, .int .i64 0, .bool true, .bool true] hm 7 _ rfl, h.at_ w8.heap.size [.int .i64 Q2.win, .int .i64 Q2.slow, .int .i64 Q2.part, .int .i64 Q2.rto, .int .i64 Q2.mean, .int .i64 Q2.spread, .int .i64 0, .bool true, .bool true] hm 8 _ rfl⟩
          go_wp2_with fail
          have hC' := hC.next (Below.refl _ _).drew
          clear hC
          obtain ⟨d0, d1, d2, d3, d4, d5, d6, d7, d8⟩ := HALL.out _ _ (by simp) hC'
          go_region_held3 (fun w' => w'.cell? ⟨w8.heap.size, 0, none⟩ = some (.int .i64 Q2.win) ∧ w'.cell? ⟨w8.heap.size, 1, none⟩ = some (.int .i64 Q2.slow) ∧ w'.cell? ⟨w8.heap.size, 2, none⟩ = some (.int .i64 Q2.part) ∧ w'.cell? ⟨w8.heap.size, 3, none⟩ = some (.int .i64 Q2.rto) ∧ w'.cell? ⟨w8.heap.size, 4, none⟩ = some (.int .i64 Q2.mean) ∧ w'.cell? ⟨w8.heap.size, 5, none⟩ = some (.int .i64 Q2.spread) ∧ w'.cell? ⟨w8.heap.size, 6, none⟩ = some (.int .i64 0) ∧ w'.cell? ⟨w8.heap.size, 7, none⟩ = some (.bool true) ∧ w'.cell? ⟨w8.heap.size, 8, none⟩ = some (.bool true)) (first | exact ⟨by assumption, by assumption, by assumption, by assumption, by assumption, by assumption, by assumption, by assumption, by assumption⟩ | fail) (first
            | (go_at_call 10; refine (live15_any _).mono ?_; rintro e wl ⟨rfl, hbl⟩; have hC' := (hC'.next (by first | exact Below.refl _ _ | exact (Below.refl _ _).drew)).next hbl; obtain ⟨e0, e1, e2, e3, e4, e5, e6, e7, e8⟩ := HALL.out _ _ (by simp) hC')
            | (go_at_call 14; refine (hst _ ((hC'.next (by first | exact Below.refl _ _ | exact (Below.refl _ _).drew)).x)).mono ?_; rintro e ws ⟨rfl, hb6⟩; have hC' := (hC'.next (by first | exact Below.refl _ _ | exact (Below.refl _ _).drew)).next hb6; obtain ⟨f0, f1, f2, f3, f4, f5, f6, f7, f8⟩ := HALL.out _ _ (by simp) hC')
            | fail)
          all_goals
            have HB := (show Hid _ from hC'.bel)
            clear hC'
            go_wp2
            go_ret
            exact ⟨rfl, HB.out⟩
    · have hne2 : ¬ (n1 : Int) = (n0 : Int) := by omega
      go_wp2_with fail
      change Calls _ _ _ (w4.alloc (.cells Q.way.toArray 40)) _
      have hC := HN4.out
      obtain ⟨W4, hW4⟩ : ∃ W, W = w4.alloc (.cells Q.way.toArray 40) := ⟨_, rfl⟩
      rw [← hW4] at hC ⊢
      clear hW4 HN4
      have hh : Q.hit n1 ((t0 : Int) + (t1 : Int)) = false := by rw [HH.out n1 _ eL, decide_eq_false hne]; rfl
      clear a0 a1
      have hq := answer_any 200 p Q n1 ((t0 : Int) + (t1 : Int)) W4 hC.x hkQ _ _ rfl rfl
      rw [hh, answer_no _ _ _ _ _ hh, sL] at hq
      refine hq.mono ?_
      rintro e w5 ⟨rfl, h5⟩
      have hC := hC.on h5
      clear hq h5
      clear hh
      have HALL : Hid (∀ (L : List (Nat × List Value)) (w' : World), (w4.heap.size, Q.way) ∈ L → Nn w p Q.cs L w' → w'.cell? ⟨w4.heap.size, 0, none⟩ = some (.int .i64 Q.win) ∧ w'.cell? ⟨w4.heap.size, 1, none⟩ = some (.int .i64 Q.slow) ∧ w'.cell? ⟨w4.heap.size, 2, none⟩ = some (.int .i64 Q.part) ∧ w'.cell? ⟨w4.heap.size, 3, none⟩ = some (.int .i64 Q.rto) ∧ w'.cell? ⟨w4.heap.size, 4, none⟩ = some (.int .i64 Q.mean) ∧ w'.cell? ⟨w4.heap.size, 5, none⟩ = some (.int .i64 Q.spread) ∧ w'.cell? ⟨w4.heap.size, 6, none⟩ = some (.int .i64 Q.faults) ∧ w'.cell? ⟨w4.heap.size, 7, none⟩ = some (.bool Q.up) ∧ w'.cell? ⟨w4.heap.size, 8, none⟩ = some (.bool Q.sure)) := fun L w' hm h => ⟨h.at_ w4.heap.size Q.way hm 0 _ rfl, h.at_ w4.heap.size Q.way hm 1 _ rfl, h.at_ w4.heap.size Q.way hm 2 _ rfl, h.at_ w4.heap.size Q.way hm 3 _ rfl, h.at_ w4.heap.size Q.way hm 4 _ rfl, h.at_ w4.heap.size Q.way hm 5 _ rfl, h.at_ w4.heap.size Q.way hm 6 _ rfl, h.at_ w4.heap.size Q.way hm 7 _ rfl, h.at_ w4.heap.size Q.way hm 8 _ rfl⟩
      go_wp2_with fail
      have hC' := hC.next (Below.refl _ _).drew
      clear hC
      obtain ⟨d0, d1, d2, d3, d4, d5, d6, d7, d8⟩ := HALL.out _ _ (by simp) hC'
      go_region_held3 (fun w' => w'.cell? ⟨w4.heap.size, 0, none⟩ = some (.int .i64 Q.win) ∧ w'.cell? ⟨w4.heap.size, 1, none⟩ = some (.int .i64 Q.slow) ∧ w'.cell? ⟨w4.heap.size, 2, none⟩ = some (.int .i64 Q.part) ∧ w'.cell? ⟨w4.heap.size, 3, none⟩ = some (.int .i64 Q.rto) ∧ w'.cell? ⟨w4.heap.size, 4, none⟩ = some (.int .i64 Q.mean) ∧ w'.cell? ⟨w4.heap.size, 5, none⟩ = some (.int .i64 Q.spread) ∧ w'.cell? ⟨w4.heap.size, 6, none⟩ = some (.int .i64 Q.faults) ∧ w'.cell? ⟨w4.heap.size, 7, none⟩ = some (.bool Q.up) ∧ w'.cell? ⟨w4.heap.size, 8, none⟩ = some (.bool Q.sure)) (first | exact ⟨by assumption, by assumption, by assumption, by assumption, by assumption, by assumption, by assumption, by assumption, by assumption⟩ | fail) (first
        | (go_at_call 14; refine (stands_any p Q _ ((hC'.next (by first | exact Below.refl _ _ | exact (Below.refl _ _).drew)).x)).mono ?_; rintro e w6 ⟨rfl, hb6⟩; have hC' := (hC'.next (by first | exact Below.refl _ _ | exact (Below.refl _ _).drew)).next hb6; obtain ⟨f0, f1, f2, f3, f4, f5, f6, f7, f8⟩ := HALL.out _ _ (by simp) hC')
        | fail)
      all_goals
        have hC := hC'
        clear hC' HALL d0 d1 d2 d3 d4 d5 d6 d7 d8 f0 f1 f2 f3 f4 f5 f6 f7 f8 hb6
        have a0 := hC.at_ w.heap.size [.int .u64 (n0 : Int), .int .u64 (n1 : Int)] (by simp) 0 _ rfl
        by_cases ht : t0 = 0
        · have ht2 : ¬ (0 : Int) < (t0 : Int) := by omega
          clear ht
          go_wp2_with fail
          have hh : Q.hit n0 ((t0 : Int) + (t1 : Int)) = true := by rw [HH.out n0 _ eL, decide_eq_true rfl, decide_eq_true (by omega)]; rfl
          have hq := answer_any 200 p Q n0 ((t0 : Int) + (t1 : Int)) w6 hC.x hkQ _ _ rfl rfl
          have hans := ans_yes Q n0 ((t0 : Int) + (t1 : Int)) 0 0 hh
          have hk2 := pok_answer hkQ n0 ((t0 : Int) + (t1 : Int)) 0 0 (by omega) (by omega) (by omega)
          rw [hh, sL] at hq
          obtain ⟨Q2, hQ2⟩ : ∃ Q2, Q2 = Q.answer n0 ((t0 : Int) + (t1 : Int)) 0 0 := ⟨_, rfl⟩
          rw [← hQ2] at hq hans hk2
          clear hQ2 hh
          refine hq.mono ?_
          rintro e w7 ⟨rfl, h7⟩
          have hC := hC.on h7
          have hwy : Q2.way = [.int .i64 Q2.win, .int .i64 Q2.slow, .int .i64 Q2.part, .int .i64 Q2.rto, .int .i64 Q2.mean, .int .i64 Q2.spread, .int .i64 0, .bool true, .bool true] := by unfold Ps.way; rw [hans.faults, hans.up, hans.sure]
          have hst : ∀ V, Stc V p Q2.cs → Calls Try.prog 14 #[.pointer (some ⟨p, 0, none⟩)] V fun e w' => e = .returned (.agg #[.int .i64 Q2.win, .int .i64 Q2.slow, .int .i64 Q2.part, .int .i64 Q2.rto, .int .i64 Q2.mean, .int .i64 Q2.spread, .int .i64 0, .bool true, .bool true]) ∧ Below V.heap.size V w' := fun V hV => by
            have := stands_any p Q2 V hV
            rw [hans.faults, hans.up, hans.sure] at this
            exact this
          have hh := ans_hit hans n0 ((t0 : Int) + (t1 : Int))
          clear hq h7 hans
          go_wp2_with fail
          refine (hst w7 hC.x).mono ?_
          rintro e w8 ⟨rfl, hb8⟩
          have hD := (hC.next hb8).push [.int .i64 Q2.win, .int .i64 Q2.slow, .int .i64 Q2.part, .int .i64 Q2.rto, .int .i64 Q2.mean, .int .i64 Q2.spread, .int .i64 0, .bool true, .bool true] 40
          have a0 := (hC.next hb8).at_ w.heap.size [.int .u64 (n0 : Int), .int .u64 (n1 : Int)] (by simp) 0 _ rfl
          have hwl : w.heap.size < w8.heap.size := by have := (hC.next hb8).bel.size; have := (hC.next hb8).hp; have := (hC.next hb8).x.lt; omega
          have HD := (show Hid _ from hD)
          clear hC hb8 hD
          go_wp2_with fail
          change Calls _ _ _ (w8.alloc (.cells [.int .i64 Q2.win, .int .i64 Q2.slow, .int .i64 Q2.part, .int .i64 Q2.rto, .int .i64 Q2.mean, .int .i64 Q2.spread, .int .i64 0, .bool true, .bool true].toArray 40)) _
          have hC := HD.out
          obtain ⟨W8, hW8⟩ : ∃ W, W = w8.alloc (.cells [.int .i64 Q2.win, .int .i64 Q2.slow, .int .i64 Q2.part, .int .i64 Q2.rto, .int .i64 Q2.mean, .int .i64 Q2.spread, .int .i64 0, .bool true, .bool true].toArray 40) := ⟨_, rfl⟩
          rw [← hW8] at hC ⊢
          clear hW8 HD
          have hq := answer_any 200 p Q2 n0 ((t0 : Int) + (t1 : Int)) W8 hC.x hk2 _ _ rfl rfl
          rw [hh, answer_no _ _ _ _ _ hh, sL] at hq
          refine hq.mono ?_
          rintro e w9 ⟨rfl, h9⟩
          have hC := hC.on h9
          clear hq h9 hh a0
          have HALL : Hid (∀ (L : List (Nat × List Value)) (w' : World), (w8.heap.size, [.int .i64 Q2.win, .int .i64 Q2.slow, .int .i64 Q2.part, .int .i64 Q2.rto, .int .i64 Q2.mean, .int .i64 Q2.spread, .int .i64 0, .bool true, .bool true]) ∈ L → Nn w p Q2.cs L w' → w'.cell? ⟨w8.heap.size, 0, none⟩ = some (.int .i64 Q2.win) ∧ w'.cell? ⟨w8.heap.size, 1, none⟩ = some (.int .i64 Q2.slow) ∧ w'.cell? ⟨w8.heap.size, 2, none⟩ = some (.int .i64 Q2.part) ∧ w'.cell? ⟨w8.heap.size, 3, none⟩ = some (.int .i64 Q2.rto) ∧ w'.cell? ⟨w8.heap.size, 4, none⟩ = some (.int .i64 Q2.mean) ∧ w'.cell? ⟨w8.heap.size, 5, none⟩ = some (.int .i64 Q2.spread) ∧ w'.cell? ⟨w8.heap.size, 6, none⟩ = some (.int .i64 0) ∧ w'.cell? ⟨w8.heap.size, 7, none⟩ = some (.bool true) ∧ w'.cell? ⟨w8.heap.size, 8, none⟩ = some (.bool true)) := fun L w' hm h => ⟨h.at_ w8.heap.size [.int .i64 Q2.win, .int .i64 Q2.slow, .int .i64 Q2.part, .int .i64 Q2.rto, .int .i64 Q2.mean, .int .i64 Q2.spread, .int .i64 0, .bool true, .bool true] hm 0 _ rfl, h.at_ w8.heap.size [.int .i64 Q2.win, .int .i64 Q2.slow, .int .i64 Q2.part, .int .i64 Q2.rto, .int .i64 Q2.mean, .int .i64 Q2.spread, .int .i64 0, .bool true, .bool true] hm 1 _ rfl, h.at_ w8.heap.size [.int .i64 Q2.win, .int .i64 Q2.slow, .int .i64 Q2.part, .int .i64 Q2.rto, .int .i64 Q2.mean, .int .i64 Q2.spread, .int .i64 0, .bool true, .bool true] hm 2 _ rfl, h.at_ w8.heap.size [.int .i64 Q2.win, .int .i64 Q2.slow, .int .i64 Q2.part, .int .i64 Q2.rto, .int .i64 Q2.mean, .int .i64 Q2.spread, .int .i64 0, .bool true, .bool true] hm 3 _ rfl, h.at_ w8.heap.size [.int .i64 Q2.win, .int .i64 Q2.slow, .int .i64 Q2.part, .int .i64 Q2.rto, .int .i64 Q2.mean, .int .i64 Q2.spread, .int .i64 0, .bool true, .bool true] hm 4 _ rfl, h.at_ w8.heap.size [.int .i64 Q2.win, .int .i64 Q2.slow, .int .i64 Q2.part, .int .i64 Q2.rto, .int .i64 Q2.mean, .int .i64 Q2.spread, .int .i64 0, .bool true, .bool true] hm 5 _ rfl, h.at_ w8.heap.size [.int .i64 Q2.win, .int .i64 Q2.slow, .int .i64 Q2.part, .int .i64 Q2.rto, .int .i64 Q2.mean, .int .i64 Q2.spread, .int .i64 0, .bool true, .bool true] hm 6 _ rfl, h.at_ w8.heap.size [.int .i64 Q2.win, .int .i64 Q2.slow, .int .i64 Q2.part, .int .i64 Q2.rto, .int .i64 Q2.mean, .int .i64 Q2.spread, .int .i64 0, .bool true, .bool true] hm 7 _ rfl, h.at_ w8.heap.size [.int .i64 Q2.win, .int .i64 Q2.slow, .int .i64 Q2.part, .int .i64 Q2.rto, .int .i64 Q2.mean, .int .i64 Q2.spread, .int .i64 0, .bool true, .bool true] hm 8 _ rfl⟩
          go_wp2_with fail
          have hC' := hC.next (Below.refl _ _).drew
          clear hC
          obtain ⟨d0, d1, d2, d3, d4, d5, d6, d7, d8⟩ := HALL.out _ _ (by simp) hC'
          go_region_held3 (fun w' => w'.cell? ⟨w8.heap.size, 0, none⟩ = some (.int .i64 Q2.win) ∧ w'.cell? ⟨w8.heap.size, 1, none⟩ = some (.int .i64 Q2.slow) ∧ w'.cell? ⟨w8.heap.size, 2, none⟩ = some (.int .i64 Q2.part) ∧ w'.cell? ⟨w8.heap.size, 3, none⟩ = some (.int .i64 Q2.rto) ∧ w'.cell? ⟨w8.heap.size, 4, none⟩ = some (.int .i64 Q2.mean) ∧ w'.cell? ⟨w8.heap.size, 5, none⟩ = some (.int .i64 Q2.spread) ∧ w'.cell? ⟨w8.heap.size, 6, none⟩ = some (.int .i64 0) ∧ w'.cell? ⟨w8.heap.size, 7, none⟩ = some (.bool true) ∧ w'.cell? ⟨w8.heap.size, 8, none⟩ = some (.bool true)) (first | exact ⟨by assumption, by assumption, by assumption, by assumption, by assumption, by assumption, by assumption, by assumption, by assumption⟩ | fail) (first
            | (go_at_call 10; refine (live15_any _).mono ?_; rintro e wl ⟨rfl, hbl⟩; have hC' := (hC'.next (by first | exact Below.refl _ _ | exact (Below.refl _ _).drew)).next hbl; obtain ⟨e0, e1, e2, e3, e4, e5, e6, e7, e8⟩ := HALL.out _ _ (by simp) hC')
            | (go_at_call 14; refine (hst _ ((hC'.next (by first | exact Below.refl _ _ | exact (Below.refl _ _).drew)).x)).mono ?_; rintro e ws ⟨rfl, hb6⟩; have hC' := (hC'.next (by first | exact Below.refl _ _ | exact (Below.refl _ _).drew)).next hb6; obtain ⟨f0, f1, f2, f3, f4, f5, f6, f7, f8⟩ := HALL.out _ _ (by simp) hC')
            | fail)
          all_goals
            have HB := (show Hid _ from hC'.bel)
            clear hC'
            go_wp2
            go_ret
            exact ⟨rfl, HB.out⟩
        · have ht2 : (0 : Int) < (t0 : Int) := by omega
          clear ht
          have eM : isT ((t0 : Int) - 1) = true := by simp [isT]; omega
          have sM : smE ((t0 : Int) - 1) = 0 := by unfold smE; rw [eM]; rfl
          have hhm : Q.hit n0 ((t0 : Int) - 1) = false := by rw [HH.out n0 _ eM, decide_eq_false (show ¬ (t0 : Int) ≤ (t0 : Int) - 1 by omega)]; simp
          go_wp2_with fail
          have hq := answer_any 200 p Q n0 ((t0 : Int) - 1) w6 hC.x hkQ _ _ rfl rfl
          rw [hhm, answer_no _ _ _ _ _ hhm, sM] at hq
          refine hq.mono ?_
          rintro e wz ⟨rfl, h5⟩
          have hC := hC.on h5
          clear hq h5
          have HALL : Hid (∀ (L : List (Nat × List Value)) (w' : World), (w4.heap.size, Q.way) ∈ L → Nn w p Q.cs L w' → w'.cell? ⟨w4.heap.size, 0, none⟩ = some (.int .i64 Q.win) ∧ w'.cell? ⟨w4.heap.size, 1, none⟩ = some (.int .i64 Q.slow) ∧ w'.cell? ⟨w4.heap.size, 2, none⟩ = some (.int .i64 Q.part) ∧ w'.cell? ⟨w4.heap.size, 3, none⟩ = some (.int .i64 Q.rto) ∧ w'.cell? ⟨w4.heap.size, 4, none⟩ = some (.int .i64 Q.mean) ∧ w'.cell? ⟨w4.heap.size, 5, none⟩ = some (.int .i64 Q.spread) ∧ w'.cell? ⟨w4.heap.size, 6, none⟩ = some (.int .i64 Q.faults) ∧ w'.cell? ⟨w4.heap.size, 7, none⟩ = some (.bool Q.up) ∧ w'.cell? ⟨w4.heap.size, 8, none⟩ = some (.bool Q.sure)) := fun L w' hm h => ⟨h.at_ w4.heap.size Q.way hm 0 _ rfl, h.at_ w4.heap.size Q.way hm 1 _ rfl, h.at_ w4.heap.size Q.way hm 2 _ rfl, h.at_ w4.heap.size Q.way hm 3 _ rfl, h.at_ w4.heap.size Q.way hm 4 _ rfl, h.at_ w4.heap.size Q.way hm 5 _ rfl, h.at_ w4.heap.size Q.way hm 6 _ rfl, h.at_ w4.heap.size Q.way hm 7 _ rfl, h.at_ w4.heap.size Q.way hm 8 _ rfl⟩
          go_wp2_with fail
          have hC' := hC.next (Below.refl _ _).drew
          clear hC
          obtain ⟨d0, d1, d2, d3, d4, d5, d6, d7, d8⟩ := HALL.out _ _ (by simp) hC'
          go_region_held3 (fun w' => w'.cell? ⟨w4.heap.size, 0, none⟩ = some (.int .i64 Q.win) ∧ w'.cell? ⟨w4.heap.size, 1, none⟩ = some (.int .i64 Q.slow) ∧ w'.cell? ⟨w4.heap.size, 2, none⟩ = some (.int .i64 Q.part) ∧ w'.cell? ⟨w4.heap.size, 3, none⟩ = some (.int .i64 Q.rto) ∧ w'.cell? ⟨w4.heap.size, 4, none⟩ = some (.int .i64 Q.mean) ∧ w'.cell? ⟨w4.heap.size, 5, none⟩ = some (.int .i64 Q.spread) ∧ w'.cell? ⟨w4.heap.size, 6, none⟩ = some (.int .i64 Q.faults) ∧ w'.cell? ⟨w4.heap.size, 7, none⟩ = some (.bool Q.up) ∧ w'.cell? ⟨w4.heap.size, 8, none⟩ = some (.bool Q.sure)) (first | exact ⟨by assumption, by assumption, by assumption, by assumption, by assumption, by assumption, by assumption, by assumption, by assumption⟩ | fail) (first
            | (go_at_call 14; refine (stands_any p Q _ ((hC'.next (by first | exact Below.refl _ _ | exact (Below.refl _ _).drew)).x)).mono ?_; rintro e wy ⟨rfl, hb6⟩; have hC' := (hC'.next (by first | exact Below.refl _ _ | exact (Below.refl _ _).drew)).next hb6; obtain ⟨f0, f1, f2, f3, f4, f5, f6, f7, f8⟩ := HALL.out _ _ (by simp) hC')
            | fail)
          all_goals
            have hC := hC'
            clear hC' HALL d0 d1 d2 d3 d4 d5 d6 d7 d8 f0 f1 f2 f3 f4 f5 f6 f7 f8 hb6
            have a0 := hC.at_ w.heap.size [.int .u64 (n0 : Int), .int .u64 (n1 : Int)] (by simp) 0 _ rfl
            go_wp2_with fail
            have hh : Q.hit n0 ((t0 : Int) + (t1 : Int)) = true := by rw [HH.out n0 _ eL, decide_eq_true rfl, decide_eq_true (by omega)]; rfl
            have hq := answer_any 200 p Q n0 ((t0 : Int) + (t1 : Int)) wy hC.x hkQ _ _ rfl rfl
            have hans := ans_yes Q n0 ((t0 : Int) + (t1 : Int)) 0 0 hh
            have hk2 := pok_answer hkQ n0 ((t0 : Int) + (t1 : Int)) 0 0 (by omega) (by omega) (by omega)
            rw [hh, sL] at hq
            obtain ⟨Q2, hQ2⟩ : ∃ Q2, Q2 = Q.answer n0 ((t0 : Int) + (t1 : Int)) 0 0 := ⟨_, rfl⟩
            rw [← hQ2] at hq hans hk2
            clear hQ2 hh
            refine hq.mono ?_
            rintro e w7 ⟨rfl, h7⟩
            have hC := hC.on h7
            have hwy : Q2.way = [.int .i64 Q2.win, .int .i64 Q2.slow, .int .i64 Q2.part, .int .i64 Q2.rto, .int .i64 Q2.mean, .int .i64 Q2.spread, .int .i64 0, .bool true, .bool true] := by unfold Ps.way; rw [hans.faults, hans.up, hans.sure]
            have hst : ∀ V, Stc V p Q2.cs → Calls Try.prog 14 #[.pointer (some ⟨p, 0, none⟩)] V fun e w' => e = .returned (.agg #[.int .i64 Q2.win, .int .i64 Q2.slow, .int .i64 Q2.part, .int .i64 Q2.rto, .int .i64 Q2.mean, .int .i64 Q2.spread, .int .i64 0, .bool true, .bool true]) ∧ Below V.heap.size V w' := fun V hV => by
              have := stands_any p Q2 V hV
              rw [hans.faults, hans.up, hans.sure] at this
              exact this
            have hh := ans_hit hans n0 ((t0 : Int) + (t1 : Int))
            clear hq h7 hans
            go_wp2_with fail
            refine (hst w7 hC.x).mono ?_
            rintro e w8 ⟨rfl, hb8⟩
            have hD := (hC.next hb8).push [.int .i64 Q2.win, .int .i64 Q2.slow, .int .i64 Q2.part, .int .i64 Q2.rto, .int .i64 Q2.mean, .int .i64 Q2.spread, .int .i64 0, .bool true, .bool true] 40
            have a0 := (hC.next hb8).at_ w.heap.size [.int .u64 (n0 : Int), .int .u64 (n1 : Int)] (by simp) 0 _ rfl
            have hwl : w.heap.size < w8.heap.size := by have := (hC.next hb8).bel.size; have := (hC.next hb8).hp; have := (hC.next hb8).x.lt; omega
            have HD := (show Hid _ from hD)
            clear hC hb8 hD
            go_wp2_with fail
            change Calls _ _ _ (w8.alloc (.cells [.int .i64 Q2.win, .int .i64 Q2.slow, .int .i64 Q2.part, .int .i64 Q2.rto, .int .i64 Q2.mean, .int .i64 Q2.spread, .int .i64 0, .bool true, .bool true].toArray 40)) _
            have hC := HD.out
            obtain ⟨W8, hW8⟩ : ∃ W, W = w8.alloc (.cells [.int .i64 Q2.win, .int .i64 Q2.slow, .int .i64 Q2.part, .int .i64 Q2.rto, .int .i64 Q2.mean, .int .i64 Q2.spread, .int .i64 0, .bool true, .bool true].toArray 40) := ⟨_, rfl⟩
            rw [← hW8] at hC ⊢
            clear hW8 HD
            have hq := answer_any 200 p Q2 n0 ((t0 : Int) + (t1 : Int)) W8 hC.x hk2 _ _ rfl rfl
            rw [hh, answer_no _ _ _ _ _ hh, sL] at hq
            refine hq.mono ?_
            rintro e w9 ⟨rfl, h9⟩
            have hC := hC.on h9
            clear hq h9 hh a0
            have HALL : Hid (∀ (L : List (Nat × List Value)) (w' : World), (w8.heap.size, [.int .i64 Q2.win, .int .i64 Q2.slow, .int .i64 Q2.part, .int .i64 Q2.rto, .int .i64 Q2.mean, .int .i64 Q2.spread, .int .i64 0, .bool true, .bool true]) ∈ L → Nn w p Q2.cs L w' → w'.cell? ⟨w8.heap.size, 0, none⟩ = some (.int .i64 Q2.win) ∧ w'.cell? ⟨w8.heap.size, 1, none⟩ = some (.int .i64 Q2.slow) ∧ w'.cell? ⟨w8.heap.size, 2, none⟩ = some (.int .i64 Q2.part) ∧ w'.cell? ⟨w8.heap.size, 3, none⟩ = some (.int .i64 Q2.rto) ∧ w'.cell? ⟨w8.heap.size, 4, none⟩ = some (.int .i64 Q2.mean) ∧ w'.cell? ⟨w8.heap.size, 5, none⟩ = some (.int .i64 Q2.spread) ∧ w'.cell? ⟨w8.heap.size, 6, none⟩ = some (.int .i64 0) ∧ w'.cell? ⟨w8.heap.size, 7, none⟩ = some (.bool true) ∧ w'.cell? ⟨w8.heap.size, 8, none⟩ = some (.bool true)) := fun L w' hm h => ⟨h.at_ w8.heap.size [.int .i64 Q2.win, .int .i64 Q2.slow, .int .i64 Q2.part, .int .i64 Q2.rto, .int .i64 Q2.mean, .int .i64 Q2.spread, .int .i64 0, .bool true, .bool true] hm 0 _ rfl, h.at_ w8.heap.size [.int .i64 Q2.win, .int .i64 Q2.slow, .int .i64 Q2.part, .int .i64 Q2.rto, .int .i64 Q2.mean, .int .i64 Q2.spread, .int .i64 0, .bool true, .bool true] hm 1 _ rfl, h.at_ w8.heap.size [.int .i64 Q2.win, .int .i64 Q2.slow, .int .i64 Q2.part, .int .i64 Q2.rto, .int .i64 Q2.mean, .int .i64 Q2.spread, .int .i64 0, .bool true, .bool true] hm 2 _ rfl, h.at_ w8.heap.size [.int .i64 Q2.win, .int .i64 Q2.slow, .int .i64 Q2.part, .int .i64 Q2.rto, .int .i64 Q2.mean, .int .i64 Q2.spread, .int .i64 0, .bool true, .bool true] hm 3 _ rfl, h.at_ w8.heap.size [.int .i64 Q2.win, .int .i64 Q2.slow, .int .i64 Q2.part, .int .i64 Q2.rto, .int .i64 Q2.mean, .int .i64 Q2.spread, .int .i64 0, .bool true, .bool true] hm 4 _ rfl, h.at_ w8.heap.size [.int .i64 Q2.win, .int .i64 Q2.slow, .int .i64 Q2.part, .int .i64 Q2.rto, .int .i64 Q2.mean, .int .i64 Q2.spread, .int .i64 0, .bool true, .bool true] hm 5 _ rfl, h.at_ w8.heap.size [.int .i64 Q2.win, .int .i64 Q2.slow, .int .i64 Q2.part, .int .i64 Q2.rto, .int .i64 Q2.mean, .int .i64 Q2.spread, .int .i64 0, .bool true, .bool true] hm 6 _ rfl, h.at_ w8.heap.size [.int .i64 Q2.win, .int .i64 Q2.slow, .int .i64 Q2.part, .int .i64 Q2.rto, .int .i64 Q2.mean, .int .i64 Q2.spread, .int .i64 0, .bool true, .bool true] hm 7 _ rfl, h.at_ w8.heap.size [.int .i64 Q2.win, .int .i64 Q2.slow, .int .i64 Q2.part, .int .i64 Q2.rto, .int .i64 Q2.mean, .int .i64 Q2.spread, .int .i64 0, .bool true, .bool true] hm 8 _ rfl⟩
            go_wp2_with fail
            have hC' := hC.next (Below.refl _ _).drew
            clear hC
            obtain ⟨d0, d1, d2, d3, d4, d5, d6, d7, d8⟩ := HALL.out _ _ (by simp) hC'
            go_region_held3 (fun w' => w'.cell? ⟨w8.heap.size, 0, none⟩ = some (.int .i64 Q2.win) ∧ w'.cell? ⟨w8.heap.size, 1, none⟩ = some (.int .i64 Q2.slow) ∧ w'.cell? ⟨w8.heap.size, 2, none⟩ = some (.int .i64 Q2.part) ∧ w'.cell? ⟨w8.heap.size, 3, none⟩ = some (.int .i64 Q2.rto) ∧ w'.cell? ⟨w8.heap.size, 4, none⟩ = some (.int .i64 Q2.mean) ∧ w'.cell? ⟨w8.heap.size, 5, none⟩ = some (.int .i64 Q2.spread) ∧ w'.cell? ⟨w8.heap.size, 6, none⟩ = some (.int .i64 0) ∧ w'.cell? ⟨w8.heap.size, 7, none⟩ = some (.bool true) ∧ w'.cell? ⟨w8.heap.size, 8, none⟩ = some (.bool true)) (first | exact ⟨by assumption, by assumption, by assumption, by assumption, by assumption, by assumption, by assumption, by assumption, by assumption⟩ | fail) (first
              | (go_at_call 10; refine (live15_any _).mono ?_; rintro e wl ⟨rfl, hbl⟩; have hC' := (hC'.next (by first | exact Below.refl _ _ | exact (Below.refl _ _).drew)).next hbl; obtain ⟨e0, e1, e2, e3, e4, e5, e6, e7, e8⟩ := HALL.out _ _ (by simp) hC')
              | (go_at_call 14; refine (hst _ ((hC'.next (by first | exact Below.refl _ _ | exact (Below.refl _ _).drew)).x)).mono ?_; rintro e ws ⟨rfl, hb6⟩; have hC' := (hC'.next (by first | exact Below.refl _ _ | exact (Below.refl _ _).drew)).next hb6; obtain ⟨f0, f1, f2, f3, f4, f5, f6, f7, f8⟩ := HALL.out _ _ (by simp) hC')
              | fail)
            all_goals
              have HB := (show Hid _ from hC'.bel)
              clear hC'
              go_wp2
              go_ret
              exact ⟨rfl, HB.out⟩
end Go.Proofs.Yteobibinfckmdaa
