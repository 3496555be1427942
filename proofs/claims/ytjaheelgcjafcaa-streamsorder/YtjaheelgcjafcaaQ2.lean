/- trunklineref13.Pieces: the walk. -/
import Derived.Test.YtjaheelgcjafcaaQ1
import Derived.Test.YtjaheelgcjafcaaSfR
namespace Go.Proofs.Ytjaheelgcjafcaa
open Go.RowKit
theorem ch_size (cs : List Value) (h : cs.length = 14) : (Try.prog.info? 47).map (·.size) = some cs.length := by
  rw [h]
  kernel_rfl
theorem Stc.low {w w' : World} {q B : Nat} {cs : List Value} (h : Stc w q cs) (hb : Below B w w') (hq : q < B) : Stc w' q cs :=
  h.fr (P := fun g => B ≤ g) ⟨hb.os, hb.tape, hb.output, hb.size, fun k _ hn => hb.block k (by omega)⟩ (by omega)
theorem PzL.base {w : World} {B B' : Nat} {m : Mg} {size t0 k : Nat} {ra : Option Addr} {rc : Nat} (h : PzL w B m size t0 k ra rc) (hB : B' ≤ B) : PzL w B' m size t0 k ra rc := by
  obtain ⟨ad, h1, h2⟩ := h.ex
  exact ⟨ad, OwnG.base h1 hB, fun i hi => (h2 i hi).base hB⟩
/-- How far Pieces has come. -/
structure PzI (w : World) (m : Mg) (size t0 n k t at_ : Nat) (ra : Option Addr) (rc : Nat) (ms : List Value) (wr : World) : Prop where
  pz : PzL wr (w.heap.size + 1) m size t0 k ra rc
  bel : Below w.heap.size w wr
  msg : Stc wr w.heap.size ms
  at_ : at_ = k * size
  t : t = (t0 + k) % 4294967296
  k1 : k = 0 ∨ (k - 1) * size < n
set_option linter.unusedVariables false in
set_option maxRecDepth 100000 in
set_option maxHeartbeats 16000000 in
theorem pieces_any (m : Mg) (a : Option Addr) (c t0 size : Nat) (w : World) (hs : Sl w a m.zs.length c m.zs) (h1 : 1 ≤ m.zs.length) (h60 : m.zs.length ≤ 60) (hz1 : 1 ≤ size) (hz9 : size ≤ 100) (ht0 : t0 < 4294967296) (hfr0 : m.fr = true → m.ss = 0) :
    Calls Try.prog 23 #[.agg (m.v a c).toArray, .int .u32 (t0 : Nat), .int .i64 (size : Nat)] w (PzP w m size t0) := by
  obtain ⟨mb, mo, hma, hmb⟩ : ∃ mb mo, a = some ⟨mb, mo, none⟩ ∧ mb < w.heap.size := by
    rcases hs.at_ with h0 | ⟨b', o', e, hlt, _⟩
    · omega
    · exact ⟨b', o', e, hlt⟩
  subst hma
  have hcap := hs.cap
  obtain ⟨st, ss, pp, fr, zs⟩ := m
  unfold Mg.v
  dsimp only at h1 h60 hcap hs hfr0 ⊢
  obtain ⟨n, hn⟩ : ∃ n, n = zs.length := ⟨_, rfl⟩
  rw [← hn] at h1 h60 hcap hs ⊢
  have HIN : Hid (∀ V, Below w.heap.size w V → Sl V (some ⟨mb, mo, none⟩) n c zs) := fun V hV => hs.below hV
  have HNN := (show Hid _ from hn)
  have HSS0 := (show Hid _ from hfr0)
  have HT0 := (show Hid _ from ht0)
  obtain ⟨W1, hW1⟩ : ∃ W1, W1 = w.alloc (.cells #[.int .u16 (st : Nat), .int .u16 (ss : Nat), .int .u32 (pp : Nat), .bool fr, .slice (some ⟨mb, mo, none⟩) n c] 51) := ⟨_, rfl⟩
  have bb1 : Below w.heap.size w W1 := by rw [hW1]; exact (Below.refl _ _).alloc (Nat.le_refl _) _
  have hms : Stc W1 w.heap.size [.int .u16 (st : Nat), .int .u16 (ss : Nat), .int .u32 (pp : Nat), .bool fr, .slice (some ⟨mb, mo, none⟩) n c] := Stc.new w _ 51 W1 hW1
  have hz : W1.heap.size = w.heap.size + 1 := by rw [hW1]; simp
  obtain ⟨W2, hW2⟩ : ∃ W2, W2 = W1.alloc (.cells #[] 47) := ⟨_, rfl⟩
  have bb2 : Below W1.heap.size W1 W2 := by rw [hW2]; exact (Below.refl _ _).alloc (Nat.le_refl _) _
  have HPZ0 : Hid (PzI w ⟨st, ss, pp, fr, zs⟩ size t0 n 0 t0 0 (some ⟨w.heap.size + 1, 0, none⟩) 0 [.int .u16 (st : Nat), .int .u16 (ss : Nat), .int .u32 (pp : Nat), .bool fr, .slice (some ⟨mb, mo, none⟩) n c] W2) := by
    refine ⟨⟨fun _ => (none, 0), ⟨rfl, ?_⟩, fun i hi => (by omega)⟩, bb1.trans (bb2.mono bb1.size), hms.below bb2, by omega, by omega, .inl rfl⟩
    rw [hW2, ← hz]
    exact World.ownsRow_made W1 _ 0 (Nat.le_refl _) (by unfold maxLen; omega) (by simp)
  clear hn hs hfr0 bb1 bb2 hms hz ht0
  go_enter Try.func23, Try.ntmps23
  go_wp2
  rw [← hW1, ← hW2]
  clear hW1 hW2
  go_loopw [1, 7, 8] (fun u1 u7 u8 wr => ∃ (k t at_ : Nat) (ra : Option Addr) (rc : Nat), u1 = .int .u32 (t : Nat) ∧ u7 = .slice ra k rc ∧ u8 = .int .i64 (at_ : Nat) ∧ PzI w ⟨st, ss, pp, fr, zs⟩ size t0 n k t at_ ra rc [.int .u16 (st : Nat), .int .u16 (ss : Nat), .int .u32 (pp : Nat), .bool fr, .slice (some ⟨mb, mo, none⟩) n c] wr) (fun _ _ u8 _ => n - (intOf u8).toNat)
  case atStart => exact ⟨0, t0, 0, _, _, rfl, rfl, rfl, HPZ0.out⟩
  case round =>
    obtain ⟨k, t, at_, ra, rc, rfl, rfl, rfl, hI⟩ := hrel
    have hatk := hI.at_
    have hat : at_ < n + size := by
      rcases hI.k1 with e | e
      · subst e; omega
      · have : k * size ≤ (k - 1) * size + size := by
          rcases Nat.eq_zero_or_pos k with e2 | e2
          · subst e2; omega
          · obtain ⟨d, rfl⟩ : ∃ d, k = d + 1 := ⟨k - 1, by omega⟩
            rw [Nat.add_mul]; simp
        omega
    have hkat : k ≤ at_ := by rw [hatk]; exact Nat.le_mul_of_pos_right k hz1
    have HMG := (show Hid _ from hI.msg)
    have HPL := (show Hid _ from hI.pz)
    have HBW := (show Hid _ from hI.bel)
    have HBS : Hid (w.heap.size + 1 ≤ wr.heap.size ∧ k ≤ 1000) := ⟨by have := hI.msg.lt; omega, by omega⟩
    obtain ⟨t2, ht2⟩ : ∃ t2, t2 = (t0 + (k + 1)) % 4294967296 := ⟨_, rfl⟩
    have HTT : Hid (t = (t0 + k) % 4294967296 ∧ ((t : Int) + 1) % 4294967296 = (t2 : Int)) := ⟨hI.t, by rw [hI.t, ht2]; omega⟩
    have htb : t < 4294967296 := by rw [hI.t]; exact Nat.mod_lt _ (by decide)
    have m4 := hI.msg.cell 4 _ rfl
    have hml := hI.msg.lt
    by_cases hlt : at_ < n
    · have hlt1 : (at_ : Int) < (n : Int) := by omega
      have HNEXT : Hid (∀ (g7 c7 : Nat) (w7 : World) (b : Bool), PzL w7 (w.heap.size + 1) ⟨st, ss, pp, b, zs⟩ size t0 (k + 1) (some ⟨g7, 0, none⟩) c7 → Below (w.heap.size + 1) wr w7 → fr = b → PzI w ⟨st, ss, pp, b, zs⟩ size t0 n (k + 1) t2 (at_ + size) (some ⟨g7, 0, none⟩) c7 [.int .u16 (st : Nat), .int .u16 (ss : Nat), .int .u32 (pp : Nat), .bool b, .slice (some ⟨mb, mo, none⟩) n c] w7) := fun g7 c7 w7 b a1 a2 e => by
        subst e
        exact ⟨a1, HBW.out.trans (a2.mono (by omega)), hI.msg.low a2 (by omega), by rw [hatk, Nat.add_mul]; omega, ht2, .inr (by rw [Nat.add_sub_cancel, ← hatk]; exact hlt)⟩
      have HLEN : Hid (at_ = k * size ∧ n = zs.length ∧ 1 ≤ size ∧ at_ < n) := ⟨hatk, HNN.out, hz1, hlt⟩
      clear hI hatk ht2
      have HKC : Hid (∀ V, Below wr.heap.size wr V → V.cell? ⟨w.heap.size, 0, none⟩ = some (.int .u16 (st : Nat)) ∧ V.cell? ⟨w.heap.size, 2, none⟩ = some (.int .u32 (pp : Nat)) ∧ V.cell? ⟨w.heap.size, 4, none⟩ = some (.slice (some ⟨mb, mo, none⟩) n c)) := fun V hV => by
        have s := HMG.out.below hV
        exact ⟨s.cell 0 _ rfl, s.cell 2 _ rfl, s.cell 4 _ rfl⟩
      rcases Nat.lt_trichotomy n (at_ + size) with hA | hA | hA
      · have HDD : Hid ((zs.drop at_).take (n - at_) = pzD ⟨st, ss, pp, fr, zs⟩ size k ∧ (pzD ⟨st, ss, pp, fr, zs⟩ size k).length = n - at_) := by
          obtain ⟨l1, l2, l3, l4⟩ := HLEN.out
          have := pzD_take ⟨st, ss, pp, fr, zs⟩ size k n (by omega) (by dsimp only; omega) (.inr ⟨l2, by dsimp only; omega⟩)
          rwa [← l1] at this
        have hgt : (n : Int) < (at_ : Int) + (size : Int) := by omega
        have HA := (show Hid _ from hA)
        clear hA
        obtain ⟨ys, hys⟩ : ∃ ys, ys = pzD ⟨st, ss, pp, fr, zs⟩ size k := ⟨_, rfl⟩
        have HPD : Hid (n - at_ = (pzD ⟨st, ss, pp, fr, zs⟩ size k).length) := HDD.out.2.symm
        have HYS : Hid (∀ V, Below wr.heap.size wr V → Sl V (some ⟨mb, mo + at_, none⟩) (n - at_) (c - at_) (pzD ⟨st, ss, pp, fr, zs⟩ size k)) := fun V hV => by
          rw [← HDD.out.1]
          exact Sl.midP ((HIN.out wr HBW.out).below hV) at_ n (by omega) (by omega)
        have HSLC : Hid (∀ V, (Instr.slice 31 (.slice (some ⟨mb, mo, none⟩) n c) (some (.int .i64 (at_ : Int))) (some (.int .i64 (n : Int))) none).run Try.prog V = .ok (.slice (some ⟨mb, mo + at_, none⟩) (n - at_) (c - at_)) V) := fun V => slice_lhP mb mo n c at_ n (by omega) (by omega) V
        clear hys ys
        go_wp2_with fail
        refine wp_region_parW mixedX (fun θ : Nat × Option Addr × Nat × Nat => [(31, .int .u32 (t : Nat)), (32, .pointer (some ⟨w.heap.size, 0, none⟩)), (33, .int .u16 (st : Nat)), (34, .pointer (some ⟨w.heap.size, 2, none⟩)), (35, .int .u32 (pp : Nat)), (36, .slice (some ⟨θ.1, 0, none⟩) 0 0), (37, .pointer (some ⟨w.heap.size, 4, none⟩)), (38, .slice (some ⟨mb, mo, none⟩) n c), (39, .int .i64 (at_ : Nat)), (40, .int .i64 (n : Nat)), (41, .slice (some ⟨mb, mo + at_, none⟩) (n - at_) (c - at_)), (42, .slice θ.2.1 (n - at_) θ.2.2.1), (43, .agg #[.int .u8 0, .int .u8 0, .int .u32 (t : Nat), .int .u16 (st : Nat), .int .u16 0, .int .u32 (pp : Nat), .int .u32 0, .int .u32 0, .int .u16 0, .int .u16 0, .slice none 0 0, .slice none 0 0, .slice none 0 0, .slice θ.2.1 (n - at_) θ.2.2.1]), (10, .pointer (some ⟨θ.2.2.2, 0, none⟩))]) (fun θ l V => PzG wr (pzD ⟨st, ss, pp, fr, zs⟩ size k) (n - at_) (fun θ => [.int .u8 0, .int .u8 0, .int .u32 (t : Nat), .int .u16 (st : Nat), .int .u16 0, .int .u32 (pp : Nat), .int .u32 0, .int .u32 0, .int .u16 0, .int .u16 0, .slice none 0 0, .slice none 0 0, .slice none 0 0, .slice θ.2.1 (n - at_) θ.2.2.1]) θ l V) (0, none, 0, 0) ?Z1 ?hZ1 (by kernel_rfl) (by kernel_rfl) (fun θ => by kernel_rfl) (by kernel_rfl) ?h01 ?hops1 ?he1
        case hZ1 => intro θ; simp only [List.foldl_cons, List.foldl_nil, List.setIfInBounds_toArray, List.set_cons_zero, List.set_cons_succ]; rfl
        case h01 => exact PzG.start (Below.refl _ _).drew
        case hops1 =>
          refine ⟨?_, ?_, ?_, ?_, ?_, ?_, ?_, ?_, ?_, ?_, ?_, ?_, ?_, ?_, ?_, trivial⟩
          · exact par_val (fun θ => by rfl) (fun θ l V hg => hg.other 0 (by decide) (by decide) (by decide) (by decide)) (fun θ l V hl hc hd hg => by go_simp; (try with_reducible rfl); (try omega))
          · exact par_val (fun θ => by rfl) (fun θ l V hg => hg.other 1 (by decide) (by decide) (by decide) (by decide)) (fun θ l V hl hc hd hg => by go_simp; (try with_reducible rfl); (try omega))
          · exact par_val (fun θ => by rfl) (fun θ l V hg => hg.other 2 (by decide) (by decide) (by decide) (by decide)) (fun θ l V hl hc hd hg => by obtain ⟨d0, d2, d4⟩ := HKC.out V hg.bel; go_simp; (try with_reducible rfl); (try omega))
          · exact par_val (fun θ => by rfl) (fun θ l V hg => hg.other 3 (by decide) (by decide) (by decide) (by decide)) (fun θ l V hl hc hd hg => by go_simp; (try with_reducible rfl); (try omega))
          · exact par_val (fun θ => by rfl) (fun θ l V hg => hg.other 4 (by decide) (by decide) (by decide) (by decide)) (fun θ l V hl hc hd hg => by obtain ⟨d0, d2, d4⟩ := HKC.out V hg.bel; go_simp; (try with_reducible rfl); (try omega))
          · exact par_run (fun θ => by rfl) (fun θ l V hl hc hd hg => by
              have h11 : l 11 = false := (by cases h : l 11 with | false => rfl | true => exact absurd (hc 11 5 (by kernel_rfl) h) (by rw [hl]; decide))
              have h14 : l 14 = false := (by cases h : l 14 with | false => rfl | true => exact absurd (hc 14 5 (by kernel_rfl) h) (by rw [hl]; decide))
              exact ⟨_, _, run_bsl0 V (by rfl), next_set (by kernel_rfl) ((V.heap.size, θ.2) : Nat × Option Addr × Nat × Nat) [(36, .slice (some ⟨V.heap.size, 0, none⟩) 0 0, 5)] (by simp only [List.foldl_cons, List.foldl_nil, List.setIfInBounds_toArray, List.set_cons_zero, List.set_cons_succ]) (by kernel_rfl) (fun y hy => by simp at hy; subst hy; exact hl) (fun d hd => by cases hd; rfl) (hg.empty h11 h14)⟩)
          · exact par_val (fun θ => by rfl) (fun θ l V hg => hg.other 6 (by decide) (by decide) (by decide) (by decide)) (fun θ l V hl hc hd hg => by go_simp; (try with_reducible rfl); (try omega))
          · exact par_val (fun θ => by rfl) (fun θ l V hg => hg.other 7 (by decide) (by decide) (by decide) (by decide)) (fun θ l V hl hc hd hg => by obtain ⟨d0, d2, d4⟩ := HKC.out V hg.bel; go_simp; (try with_reducible rfl); (try omega))
          · exact par_val (fun θ => by rfl) (fun θ l V hg => hg.other 8 (by decide) (by decide) (by decide) (by decide)) (fun θ l V hl hc hd hg => by go_simp; (try with_reducible rfl); (try omega))
          · exact par_val (fun θ => by rfl) (fun θ l V hg => hg.other 9 (by decide) (by decide) (by decide) (by decide)) (fun θ l V hl hc hd hg => by go_simp; (try with_reducible rfl); (try omega))
          · exact par_val (fun θ => by rfl) (fun θ l V hg => hg.other 10 (by decide) (by decide) (by decide) (by decide)) (fun θ l V hl hc hd hg => by have hsl := HSLC.out V; go_simp; (try with_reducible rfl); (try omega))
          · exact par_run (fun θ => by rfl) (fun θ l V hl hc hd hg => by
              have h5 : l 5 = true := hd 5 (by kernel_rfl)
              have h12 : l 12 = false := (by cases h : l 12 with | false => rfl | true => exact absurd (hc 12 11 (by kernel_rfl) h) (by rw [hl]; decide))
              have h14 : l 14 = false := (by cases h : l 14 with | false => rfl | true => exact absurd (hc 14 11 (by kernel_rfl) h) (by rw [hl]; decide))
              obtain ⟨a7, c7, V7, hr7, hN⟩ := hg.app h5 hl h14 (HYS.out V hg.bel) (by omega) 31
              exact ⟨_, V7, run_appY (S := 31) rfl rfl (by rfl) (by rfl) hr7, next_set (by kernel_rfl) ((θ.1, a7, c7, θ.2.2.2) : Nat × Option Addr × Nat × Nat) [(42, .slice a7 (n - at_) c7, 11), (43, .agg #[.int .u8 0, .int .u8 0, .int .u32 (t : Nat), .int .u16 (st : Nat), .int .u16 0, .int .u32 (pp : Nat), .int .u32 0, .int .u32 0, .int .u16 0, .int .u16 0, .slice none 0 0, .slice none 0 0, .slice none 0 0, .slice a7 (n - at_) c7], 12)] (by simp only [List.foldl_cons, List.foldl_nil, List.setIfInBounds_toArray, List.set_cons_zero, List.set_cons_succ]) (by kernel_rfl) (fun y hy => by simp at hy; rcases hy with rfl | rfl; exact hl; exact h12) (fun d hd => by cases hd; rfl) hN⟩)
          · exact par_val (fun θ => by rfl) (fun θ l V hg => hg.other 12 (by decide) (by decide) (by decide) (by decide)) (fun θ l V hl hc hd hg => by go_simp; (try with_reducible rfl); (try omega))
          · exact par_run (fun θ => by rfl) (fun θ l V hl hc hd hg => by
              have h14 : l 14 = false := (by cases h : l 14 with | false => rfl | true => exact absurd (hc 14 13 (by kernel_rfl) h) (by rw [hl]; decide))
              exact ⟨_, _, run_allocX rfl zero_ch, next_set (by kernel_rfl) ((θ.1, θ.2.1, θ.2.2.1, V.heap.size) : Nat × Option Addr × Nat × Nat) [(10, .pointer (some ⟨V.heap.size, 0, none⟩), 13)] (by simp only [List.foldl_cons, List.foldl_nil, List.setIfInBounds_toArray, List.set_cons_zero, List.set_cons_succ]) (by kernel_rfl) (fun y hy => by simp at hy; subst hy; exact hl) (fun d hd => by cases hd; rfl) (hg.box h14)⟩)
          · exact par_skip (fun θ => by rfl) (fun θ l V hl hc hd hg => by
              have h13 : l 13 = true := hd 13 (by kernel_rfl)
              have h12 : l 12 = true := hd 12 (by kernel_rfl)
              have h11 : l 11 = true := hc 12 11 (by kernel_rfl) h12
              obtain ⟨hth, hst⟩ := hg.store h11 h13 hl rfl
              exact ⟨_, run_storeX rfl (b := θ.2.2.2) (k := 0) (by rfl) (cs := [.int .u8 0, .int .u8 0, .int .u32 (t : Nat), .int .u16 (st : Nat), .int .u16 0, .int .u32 (pp : Nat), .int .u32 0, .int .u32 0, .int .u16 0, .int .u16 0, .slice none 0 0, .slice none 0 0, .slice none 0 0, .slice θ.2.1 (n - at_) θ.2.2.1]) (by rfl) hth (by kernel_rfl) (by intro v hv; simp at hv; rcases hv with rfl | rfl | rfl | rfl | rfl | rfl | rfl | rfl | rfl | rfl | rfl | rfl | rfl | rfl <;> rfl), ⟨θ, fun _ _ _ _ _ _ => rfl, fun d hd => (by cases hd), hst⟩⟩)
        case he1 =>
        rintro ⟨e0, da, dc, bq⟩ l V hall hg
        have hB5 := hg.bel
        have hO5 := hg.a11 (hall 11 (by decide))
        have hS5 := hg.a14 (hall 14 (by decide))
        have hQ5 := hg.ap (hall 13 (by decide))
        have hJ5 := hg.dj2 (hall 13 (by decide)) (hall 11 (by decide))
        clear hall hg
        dsimp only at hO5 hS5 hQ5 hJ5 ⊢
        have hbq := hS5.lt
        have hbm : ¬ w.heap.size = bq := by have := hQ5.1; have := HBS.out.1; omega
        have hbm2 : ¬ bq = w.heap.size := fun e => hbm e.symm
        have d0 := hS5.cell 0 _ rfl
        have d1 := hS5.cell 1 _ rfl
        have d2 := hS5.cell 2 _ rfl
        have d3 := hS5.cell 3 _ rfl
        have d4 := hS5.cell 4 _ rfl
        have d5 := hS5.cell 5 _ rfl
        have d6 := hS5.cell 6 _ rfl
        have d7 := hS5.cell 7 _ rfl
        have d8 := hS5.cell 8 _ rfl
        have d9 := hS5.cell 9 _ rfl
        have d10 := hS5.cell 10 _ rfl
        have d11 := hS5.cell 11 _ rfl
        have d12 := hS5.cell 12 _ rfl
        have d13 := hS5.cell 13 _ rfl
        have f1 := hS5.free 1
        have f4 := hS5.free 4
        have hMV := HMG.out.below hB5
        have m1 := hMV.cell 1 _ rfl
        have m3 := hMV.cell 3 _ rfl
        have m4 := hMV.cell 4 _ rfl
        have HS5 := (show Hid _ from hS5)
        clear hS5 hMV d2 d3 d4 d5 d6 d7 d8 d9 d10 d11 d12 d13 d0
        have d4 := HS5.out.cell 4 _ rfl
        cases fr with
        | false =>
          by_cases hk0 : at_ = 0
          · have g0 : (at_ : Int) = 0 := by omega
            have HK0 := (show Hid _ from hk0)
            clear hk0
            have hrg : (((V.setCell ⟨bq, 4, none⟩ (.int .u16 (ss : Nat))).setCell ⟨bq, 1, none⟩ (.int .u8 2)).setCell ⟨bq, 1, none⟩ (.int .u8 3)).rangeAt bq 0 [.int .u8 0, .int .u8 3, .int .u32 (t : Nat), .int .u16 (st : Nat), .int .u16 (ss : Nat), .int .u32 (pp : Nat), .int .u32 0, .int .u32 0, .int .u16 0, .int .u16 0, .slice none 0 0, .slice none 0 0, .slice none 0 0, .slice da (n - at_) dc] := (show Stc (((V.setCell ⟨bq, 4, none⟩ (.int .u16 (ss : Nat))).setCell ⟨bq, 1, none⟩ (.int .u8 2)).setCell ⟨bq, 1, none⟩ (.int .u8 3)) bq [.int .u8 0, .int .u8 3, .int .u32 (t : Nat), .int .u16 (st : Nat), .int .u16 (ss : Nat), .int .u32 (pp : Nat), .int .u32 0, .int .u32 0, .int .u16 0, .int .u16 0, .slice none 0 0, .slice none 0 0, .slice none 0 0, .slice da (n - at_) dc] from (((HS5.out.set 4 (.int .u16 (ss : Nat))).set 1 (.int .u8 2)).set 1 (.int .u8 3))).range
            have hf9 : Fr (fun g => g = bq) V (((V.setCell ⟨bq, 4, none⟩ (.int .u16 (ss : Nat))).setCell ⟨bq, 1, none⟩ (.int .u8 2)).setCell ⟨bq, 1, none⟩ (.int .u8 3)) := (((Fr.setCell (fun g => g = bq) V ⟨bq, 4, none⟩ (.int .u16 (ss : Nat)) rfl).trans (Fr.setCell (fun g => g = bq) (V.setCell ⟨bq, 4, none⟩ (.int .u16 (ss : Nat))) ⟨bq, 1, none⟩ (.int .u8 2) rfl)).trans (Fr.setCell (fun g => g = bq) ((V.setCell ⟨bq, 4, none⟩ (.int .u16 (ss : Nat))).setCell ⟨bq, 1, none⟩ (.int .u8 2)) ⟨bq, 1, none⟩ (.int .u8 3) rfl))
            have hsz : (((V.setCell ⟨bq, 4, none⟩ (.int .u16 (ss : Nat))).setCell ⟨bq, 1, none⟩ (.int .u8 2)).setCell ⟨bq, 1, none⟩ (.int .u8 3)).heap.size = V.heap.size := by simp [World.setCell]
            have hF : 3 = pzF ⟨st, ss, pp, false, zs⟩ size k := by
              obtain ⟨hl1, hl2, hl3, hl4⟩ := HLEN.out
              have hA0 := HA.out
              have hK0 := HK0.out
              have hk1 : (k + 1) * size = at_ + size := by rw [Nat.add_mul, ← hl1]; omega
              have hk0 : k = 0 ↔ at_ = 0 := by rw [hl1]; exact ⟨fun e => by rw [e]; omega, fun e => by rcases Nat.mul_eq_zero.1 e with e | e <;> omega⟩
              unfold pzF
              dsimp only
              rw [if_neg (by decide), if_pos (by omega), if_pos (by omega)]
            obtain ⟨g7, c7, w7, hr7, hp7, hb7⟩ := HPL.out.step HBS.out.1 hB5 hQ5.1 HPD.out hO5 hJ5 hf9 HBS.out.2 (F := 3) (S := ss) hF rfl
            rw [hsz, ← HTT.out.1] at hr7
            have HP7 : Hid (PzI w ⟨st, ss, pp, false, zs⟩ size t0 n (k + 1) t2 (at_ + size) (some ⟨g7, 0, none⟩) c7 [.int .u16 (st : Nat), .int .u16 (ss : Nat), .int .u32 (pp : Nat), .bool false, .slice (some ⟨mb, mo, none⟩) n c] w7) := HNEXT.out _ _ _ _ hp7 hb7 rfl
            clear hF hf9 hsz hp7 hb7 hO5 hJ5
            go_wp2_with (first | (refine wpList_load_mid rfl 47 _ rfl bq 0 rfl [.int .u8 0, .int .u8 3, .int .u32 (t : Nat), .int .u16 (st : Nat), .int .u16 (ss : Nat), .int .u32 (pp : Nat), .int .u32 0, .int .u32 0, .int .u16 0, .int .u16 0, .slice none 0 0, .slice none 0 0, .slice none 0 0, .slice da (n - at_) dc] _ hrg Try.underlying47 rfl (ch_size _ rfl) ?_) | (at_builtin; refine app_eq_list rfl _ _ rfl rfl rfl rfl hr7 ?_))
            clear hr7 hrg
            go_wp2
            go_roundw
            case rel => exact ⟨k + 1, t2, at_ + size, _, _, (congrArg (Value.int .u32) HTT.out.2), rfl, (congrArg (Value.int .i64) (by have := HK0.out; have := HA.out; omega)), HP7.out⟩
            case measure => simp [intOf]; omega
          · have g0 : ¬ (at_ : Int) = 0 := by omega
            have HK0 := (show Hid _ from hk0)
            have hrg : ((V.setCell ⟨bq, 4, none⟩ (.int .u16 (ss : Nat))).setCell ⟨bq, 1, none⟩ (.int .u8 1)).rangeAt bq 0 [.int .u8 0, .int .u8 1, .int .u32 (t : Nat), .int .u16 (st : Nat), .int .u16 (ss : Nat), .int .u32 (pp : Nat), .int .u32 0, .int .u32 0, .int .u16 0, .int .u16 0, .slice none 0 0, .slice none 0 0, .slice none 0 0, .slice da (n - at_) dc] := (show Stc ((V.setCell ⟨bq, 4, none⟩ (.int .u16 (ss : Nat))).setCell ⟨bq, 1, none⟩ (.int .u8 1)) bq [.int .u8 0, .int .u8 1, .int .u32 (t : Nat), .int .u16 (st : Nat), .int .u16 (ss : Nat), .int .u32 (pp : Nat), .int .u32 0, .int .u32 0, .int .u16 0, .int .u16 0, .slice none 0 0, .slice none 0 0, .slice none 0 0, .slice da (n - at_) dc] from ((HS5.out.set 4 (.int .u16 (ss : Nat))).set 1 (.int .u8 1))).range
            have hf9 : Fr (fun g => g = bq) V ((V.setCell ⟨bq, 4, none⟩ (.int .u16 (ss : Nat))).setCell ⟨bq, 1, none⟩ (.int .u8 1)) := ((Fr.setCell (fun g => g = bq) V ⟨bq, 4, none⟩ (.int .u16 (ss : Nat)) rfl).trans (Fr.setCell (fun g => g = bq) (V.setCell ⟨bq, 4, none⟩ (.int .u16 (ss : Nat))) ⟨bq, 1, none⟩ (.int .u8 1) rfl))
            have hsz : ((V.setCell ⟨bq, 4, none⟩ (.int .u16 (ss : Nat))).setCell ⟨bq, 1, none⟩ (.int .u8 1)).heap.size = V.heap.size := by simp [World.setCell]
            have hF : 1 = pzF ⟨st, ss, pp, false, zs⟩ size k := by
              obtain ⟨hl1, hl2, hl3, hl4⟩ := HLEN.out
              have hA0 := HA.out
              have hK0 := HK0.out
              have hk1 : (k + 1) * size = at_ + size := by rw [Nat.add_mul, ← hl1]; omega
              have hk0 : k = 0 ↔ at_ = 0 := by rw [hl1]; exact ⟨fun e => by rw [e]; omega, fun e => by rcases Nat.mul_eq_zero.1 e with e | e <;> omega⟩
              unfold pzF
              dsimp only
              rw [if_neg (by decide), if_neg (by omega), if_pos (by omega)]
            obtain ⟨g7, c7, w7, hr7, hp7, hb7⟩ := HPL.out.step HBS.out.1 hB5 hQ5.1 HPD.out hO5 hJ5 hf9 HBS.out.2 (F := 1) (S := ss) hF rfl
            rw [hsz, ← HTT.out.1] at hr7
            have HP7 : Hid (PzI w ⟨st, ss, pp, false, zs⟩ size t0 n (k + 1) t2 (at_ + size) (some ⟨g7, 0, none⟩) c7 [.int .u16 (st : Nat), .int .u16 (ss : Nat), .int .u32 (pp : Nat), .bool false, .slice (some ⟨mb, mo, none⟩) n c] w7) := HNEXT.out _ _ _ _ hp7 hb7 rfl
            clear hF hf9 hsz hp7 hb7 hO5 hJ5
            go_wp2_with (first | (refine wpList_load_mid rfl 47 _ rfl bq 0 rfl [.int .u8 0, .int .u8 1, .int .u32 (t : Nat), .int .u16 (st : Nat), .int .u16 (ss : Nat), .int .u32 (pp : Nat), .int .u32 0, .int .u32 0, .int .u16 0, .int .u16 0, .slice none 0 0, .slice none 0 0, .slice none 0 0, .slice da (n - at_) dc] _ hrg Try.underlying47 rfl (ch_size _ rfl) ?_) | (at_builtin; refine app_eq_list rfl _ _ rfl rfl rfl rfl hr7 ?_))
            clear hr7 hrg
            go_wp2
            go_roundw
            case rel => exact ⟨k + 1, t2, at_ + size, _, _, (congrArg (Value.int .u32) HTT.out.2), rfl, (congrArg (Value.int .i64) (by have := HK0.out; have := HA.out; omega)), HP7.out⟩
            case measure => simp [intOf]; omega
        | true =>
          by_cases hk0 : at_ = 0
          · have g0 : (at_ : Int) = 0 := by omega
            have HK0 := (show Hid _ from hk0)
            clear hk0
            have hrg : (((V.setCell ⟨bq, 1, none⟩ (.int .u8 4)).setCell ⟨bq, 1, none⟩ (.int .u8 6)).setCell ⟨bq, 1, none⟩ (.int .u8 7)).rangeAt bq 0 [.int .u8 0, .int .u8 7, .int .u32 (t : Nat), .int .u16 (st : Nat), .int .u16 0, .int .u32 (pp : Nat), .int .u32 0, .int .u32 0, .int .u16 0, .int .u16 0, .slice none 0 0, .slice none 0 0, .slice none 0 0, .slice da (n - at_) dc] := (show Stc (((V.setCell ⟨bq, 1, none⟩ (.int .u8 4)).setCell ⟨bq, 1, none⟩ (.int .u8 6)).setCell ⟨bq, 1, none⟩ (.int .u8 7)) bq [.int .u8 0, .int .u8 7, .int .u32 (t : Nat), .int .u16 (st : Nat), .int .u16 0, .int .u32 (pp : Nat), .int .u32 0, .int .u32 0, .int .u16 0, .int .u16 0, .slice none 0 0, .slice none 0 0, .slice none 0 0, .slice da (n - at_) dc] from (((HS5.out.set 1 (.int .u8 4)).set 1 (.int .u8 6)).set 1 (.int .u8 7))).range
            have hf9 : Fr (fun g => g = bq) V (((V.setCell ⟨bq, 1, none⟩ (.int .u8 4)).setCell ⟨bq, 1, none⟩ (.int .u8 6)).setCell ⟨bq, 1, none⟩ (.int .u8 7)) := (((Fr.setCell (fun g => g = bq) V ⟨bq, 1, none⟩ (.int .u8 4) rfl).trans (Fr.setCell (fun g => g = bq) (V.setCell ⟨bq, 1, none⟩ (.int .u8 4)) ⟨bq, 1, none⟩ (.int .u8 6) rfl)).trans (Fr.setCell (fun g => g = bq) ((V.setCell ⟨bq, 1, none⟩ (.int .u8 4)).setCell ⟨bq, 1, none⟩ (.int .u8 6)) ⟨bq, 1, none⟩ (.int .u8 7) rfl))
            have hsz : (((V.setCell ⟨bq, 1, none⟩ (.int .u8 4)).setCell ⟨bq, 1, none⟩ (.int .u8 6)).setCell ⟨bq, 1, none⟩ (.int .u8 7)).heap.size = V.heap.size := by simp [World.setCell]
            have hF : 7 = pzF ⟨st, ss, pp, true, zs⟩ size k := by
              obtain ⟨hl1, hl2, hl3, hl4⟩ := HLEN.out
              have hA0 := HA.out
              have hK0 := HK0.out
              have hk1 : (k + 1) * size = at_ + size := by rw [Nat.add_mul, ← hl1]; omega
              have hk0 : k = 0 ↔ at_ = 0 := by rw [hl1]; exact ⟨fun e => by rw [e]; omega, fun e => by rcases Nat.mul_eq_zero.1 e with e | e <;> omega⟩
              unfold pzF
              dsimp only
              rw [if_pos (by decide), if_pos (by omega), if_pos (by omega)]
            obtain ⟨g7, c7, w7, hr7, hp7, hb7⟩ := HPL.out.step HBS.out.1 hB5 hQ5.1 HPD.out hO5 hJ5 hf9 HBS.out.2 (F := 7) (S := 0) hF (HSS0.out rfl).symm
            rw [hsz, ← HTT.out.1] at hr7
            have HP7 : Hid (PzI w ⟨st, ss, pp, true, zs⟩ size t0 n (k + 1) t2 (at_ + size) (some ⟨g7, 0, none⟩) c7 [.int .u16 (st : Nat), .int .u16 (ss : Nat), .int .u32 (pp : Nat), .bool true, .slice (some ⟨mb, mo, none⟩) n c] w7) := HNEXT.out _ _ _ _ hp7 hb7 rfl
            clear hF hf9 hsz hp7 hb7 hO5 hJ5
            go_wp2_with (first | (refine wpList_load_mid rfl 47 _ rfl bq 0 rfl [.int .u8 0, .int .u8 7, .int .u32 (t : Nat), .int .u16 (st : Nat), .int .u16 0, .int .u32 (pp : Nat), .int .u32 0, .int .u32 0, .int .u16 0, .int .u16 0, .slice none 0 0, .slice none 0 0, .slice none 0 0, .slice da (n - at_) dc] _ hrg Try.underlying47 rfl (ch_size _ rfl) ?_) | (at_builtin; refine app_eq_list rfl _ _ rfl rfl rfl rfl hr7 ?_))
            clear hr7 hrg
            go_wp2
            go_roundw
            case rel => exact ⟨k + 1, t2, at_ + size, _, _, (congrArg (Value.int .u32) HTT.out.2), rfl, (congrArg (Value.int .i64) (by have := HK0.out; have := HA.out; omega)), HP7.out⟩
            case measure => simp [intOf]; omega
          · have g0 : ¬ (at_ : Int) = 0 := by omega
            have HK0 := (show Hid _ from hk0)
            have hrg : ((V.setCell ⟨bq, 1, none⟩ (.int .u8 4)).setCell ⟨bq, 1, none⟩ (.int .u8 5)).rangeAt bq 0 [.int .u8 0, .int .u8 5, .int .u32 (t : Nat), .int .u16 (st : Nat), .int .u16 0, .int .u32 (pp : Nat), .int .u32 0, .int .u32 0, .int .u16 0, .int .u16 0, .slice none 0 0, .slice none 0 0, .slice none 0 0, .slice da (n - at_) dc] := (show Stc ((V.setCell ⟨bq, 1, none⟩ (.int .u8 4)).setCell ⟨bq, 1, none⟩ (.int .u8 5)) bq [.int .u8 0, .int .u8 5, .int .u32 (t : Nat), .int .u16 (st : Nat), .int .u16 0, .int .u32 (pp : Nat), .int .u32 0, .int .u32 0, .int .u16 0, .int .u16 0, .slice none 0 0, .slice none 0 0, .slice none 0 0, .slice da (n - at_) dc] from ((HS5.out.set 1 (.int .u8 4)).set 1 (.int .u8 5))).range
            have hf9 : Fr (fun g => g = bq) V ((V.setCell ⟨bq, 1, none⟩ (.int .u8 4)).setCell ⟨bq, 1, none⟩ (.int .u8 5)) := ((Fr.setCell (fun g => g = bq) V ⟨bq, 1, none⟩ (.int .u8 4) rfl).trans (Fr.setCell (fun g => g = bq) (V.setCell ⟨bq, 1, none⟩ (.int .u8 4)) ⟨bq, 1, none⟩ (.int .u8 5) rfl))
            have hsz : ((V.setCell ⟨bq, 1, none⟩ (.int .u8 4)).setCell ⟨bq, 1, none⟩ (.int .u8 5)).heap.size = V.heap.size := by simp [World.setCell]
            have hF : 5 = pzF ⟨st, ss, pp, true, zs⟩ size k := by
              obtain ⟨hl1, hl2, hl3, hl4⟩ := HLEN.out
              have hA0 := HA.out
              have hK0 := HK0.out
              have hk1 : (k + 1) * size = at_ + size := by rw [Nat.add_mul, ← hl1]; omega
              have hk0 : k = 0 ↔ at_ = 0 := by rw [hl1]; exact ⟨fun e => by rw [e]; omega, fun e => by rcases Nat.mul_eq_zero.1 e with e | e <;> omega⟩
              unfold pzF
              dsimp only
              rw [if_pos (by decide), if_neg (by omega), if_pos (by omega)]
            obtain ⟨g7, c7, w7, hr7, hp7, hb7⟩ := HPL.out.step HBS.out.1 hB5 hQ5.1 HPD.out hO5 hJ5 hf9 HBS.out.2 (F := 5) (S := 0) hF (HSS0.out rfl).symm
            rw [hsz, ← HTT.out.1] at hr7
            have HP7 : Hid (PzI w ⟨st, ss, pp, true, zs⟩ size t0 n (k + 1) t2 (at_ + size) (some ⟨g7, 0, none⟩) c7 [.int .u16 (st : Nat), .int .u16 (ss : Nat), .int .u32 (pp : Nat), .bool true, .slice (some ⟨mb, mo, none⟩) n c] w7) := HNEXT.out _ _ _ _ hp7 hb7 rfl
            clear hF hf9 hsz hp7 hb7 hO5 hJ5
            go_wp2_with (first | (refine wpList_load_mid rfl 47 _ rfl bq 0 rfl [.int .u8 0, .int .u8 5, .int .u32 (t : Nat), .int .u16 (st : Nat), .int .u16 0, .int .u32 (pp : Nat), .int .u32 0, .int .u32 0, .int .u16 0, .int .u16 0, .slice none 0 0, .slice none 0 0, .slice none 0 0, .slice da (n - at_) dc] _ hrg Try.underlying47 rfl (ch_size _ rfl) ?_) | (at_builtin; refine app_eq_list rfl _ _ rfl rfl rfl rfl hr7 ?_))
            clear hr7 hrg
            go_wp2
            go_roundw
            case rel => exact ⟨k + 1, t2, at_ + size, _, _, (congrArg (Value.int .u32) HTT.out.2), rfl, (congrArg (Value.int .i64) (by have := HK0.out; have := HA.out; omega)), HP7.out⟩
            case measure => simp [intOf]; omega
      · have HDD : Hid ((zs.drop at_).take (n - at_) = pzD ⟨st, ss, pp, fr, zs⟩ size k ∧ (pzD ⟨st, ss, pp, fr, zs⟩ size k).length = n - at_) := by
          obtain ⟨l1, l2, l3, l4⟩ := HLEN.out
          have := pzD_take ⟨st, ss, pp, fr, zs⟩ size k n (by omega) (by dsimp only; omega) (.inr ⟨l2, by dsimp only; omega⟩)
          rwa [← l1] at this
        have hEE : (at_ : Int) + (size : Int) = (n : Int) := by omega
        have HA := (show Hid _ from hA)
        clear hA
        obtain ⟨ys, hys⟩ : ∃ ys, ys = pzD ⟨st, ss, pp, fr, zs⟩ size k := ⟨_, rfl⟩
        have HPD : Hid (n - at_ = (pzD ⟨st, ss, pp, fr, zs⟩ size k).length) := HDD.out.2.symm
        have HYS : Hid (∀ V, Below wr.heap.size wr V → Sl V (some ⟨mb, mo + at_, none⟩) (n - at_) (c - at_) (pzD ⟨st, ss, pp, fr, zs⟩ size k)) := fun V hV => by
          rw [← HDD.out.1]
          exact Sl.midP ((HIN.out wr HBW.out).below hV) at_ n (by omega) (by omega)
        have HSLC : Hid (∀ V, (Instr.slice 31 (.slice (some ⟨mb, mo, none⟩) n c) (some (.int .i64 (at_ : Int))) (some (.int .i64 (n : Int))) none).run Try.prog V = .ok (.slice (some ⟨mb, mo + at_, none⟩) (n - at_) (c - at_)) V) := fun V => slice_lhP mb mo n c at_ n (by omega) (by omega) V
        clear hys ys
        go_wp2_with fail
        refine wp_region_parW mixedX (fun θ : Nat × Option Addr × Nat × Nat => [(31, .int .u32 (t : Nat)), (32, .pointer (some ⟨w.heap.size, 0, none⟩)), (33, .int .u16 (st : Nat)), (34, .pointer (some ⟨w.heap.size, 2, none⟩)), (35, .int .u32 (pp : Nat)), (36, .slice (some ⟨θ.1, 0, none⟩) 0 0), (37, .pointer (some ⟨w.heap.size, 4, none⟩)), (38, .slice (some ⟨mb, mo, none⟩) n c), (39, .int .i64 (at_ : Nat)), (40, .int .i64 (n : Nat)), (41, .slice (some ⟨mb, mo + at_, none⟩) (n - at_) (c - at_)), (42, .slice θ.2.1 (n - at_) θ.2.2.1), (43, .agg #[.int .u8 0, .int .u8 0, .int .u32 (t : Nat), .int .u16 (st : Nat), .int .u16 0, .int .u32 (pp : Nat), .int .u32 0, .int .u32 0, .int .u16 0, .int .u16 0, .slice none 0 0, .slice none 0 0, .slice none 0 0, .slice θ.2.1 (n - at_) θ.2.2.1]), (10, .pointer (some ⟨θ.2.2.2, 0, none⟩))]) (fun θ l V => PzG wr (pzD ⟨st, ss, pp, fr, zs⟩ size k) (n - at_) (fun θ => [.int .u8 0, .int .u8 0, .int .u32 (t : Nat), .int .u16 (st : Nat), .int .u16 0, .int .u32 (pp : Nat), .int .u32 0, .int .u32 0, .int .u16 0, .int .u16 0, .slice none 0 0, .slice none 0 0, .slice none 0 0, .slice θ.2.1 (n - at_) θ.2.2.1]) θ l V) (0, none, 0, 0) ?Z2 ?hZ2 (by kernel_rfl) (by kernel_rfl) (fun θ => by kernel_rfl) (by kernel_rfl) ?h02 ?hops2 ?he2
        case hZ2 => intro θ; simp only [List.foldl_cons, List.foldl_nil, List.setIfInBounds_toArray, List.set_cons_zero, List.set_cons_succ]; rfl
        case h02 => exact PzG.start (Below.refl _ _).drew
        case hops2 =>
          refine ⟨?_, ?_, ?_, ?_, ?_, ?_, ?_, ?_, ?_, ?_, ?_, ?_, ?_, ?_, ?_, trivial⟩
          · exact par_val (fun θ => by rfl) (fun θ l V hg => hg.other 0 (by decide) (by decide) (by decide) (by decide)) (fun θ l V hl hc hd hg => by go_simp; (try with_reducible rfl); (try omega))
          · exact par_val (fun θ => by rfl) (fun θ l V hg => hg.other 1 (by decide) (by decide) (by decide) (by decide)) (fun θ l V hl hc hd hg => by go_simp; (try with_reducible rfl); (try omega))
          · exact par_val (fun θ => by rfl) (fun θ l V hg => hg.other 2 (by decide) (by decide) (by decide) (by decide)) (fun θ l V hl hc hd hg => by obtain ⟨d0, d2, d4⟩ := HKC.out V hg.bel; go_simp; (try with_reducible rfl); (try omega))
          · exact par_val (fun θ => by rfl) (fun θ l V hg => hg.other 3 (by decide) (by decide) (by decide) (by decide)) (fun θ l V hl hc hd hg => by go_simp; (try with_reducible rfl); (try omega))
          · exact par_val (fun θ => by rfl) (fun θ l V hg => hg.other 4 (by decide) (by decide) (by decide) (by decide)) (fun θ l V hl hc hd hg => by obtain ⟨d0, d2, d4⟩ := HKC.out V hg.bel; go_simp; (try with_reducible rfl); (try omega))
          · exact par_run (fun θ => by rfl) (fun θ l V hl hc hd hg => by
              have h11 : l 11 = false := (by cases h : l 11 with | false => rfl | true => exact absurd (hc 11 5 (by kernel_rfl) h) (by rw [hl]; decide))
              have h14 : l 14 = false := (by cases h : l 14 with | false => rfl | true => exact absurd (hc 14 5 (by kernel_rfl) h) (by rw [hl]; decide))
              exact ⟨_, _, run_bsl0 V (by rfl), next_set (by kernel_rfl) ((V.heap.size, θ.2) : Nat × Option Addr × Nat × Nat) [(36, .slice (some ⟨V.heap.size, 0, none⟩) 0 0, 5)] (by simp only [List.foldl_cons, List.foldl_nil, List.setIfInBounds_toArray, List.set_cons_zero, List.set_cons_succ]) (by kernel_rfl) (fun y hy => by simp at hy; subst hy; exact hl) (fun d hd => by cases hd; rfl) (hg.empty h11 h14)⟩)
          · exact par_val (fun θ => by rfl) (fun θ l V hg => hg.other 6 (by decide) (by decide) (by decide) (by decide)) (fun θ l V hl hc hd hg => by go_simp; (try with_reducible rfl); (try omega))
          · exact par_val (fun θ => by rfl) (fun θ l V hg => hg.other 7 (by decide) (by decide) (by decide) (by decide)) (fun θ l V hl hc hd hg => by obtain ⟨d0, d2, d4⟩ := HKC.out V hg.bel; go_simp; (try with_reducible rfl); (try omega))
          · exact par_val (fun θ => by rfl) (fun θ l V hg => hg.other 8 (by decide) (by decide) (by decide) (by decide)) (fun θ l V hl hc hd hg => by go_simp; (try with_reducible rfl); (try omega))
          · exact par_val (fun θ => by rfl) (fun θ l V hg => hg.other 9 (by decide) (by decide) (by decide) (by decide)) (fun θ l V hl hc hd hg => by go_simp; (try with_reducible rfl); (try omega))
          · exact par_val (fun θ => by rfl) (fun θ l V hg => hg.other 10 (by decide) (by decide) (by decide) (by decide)) (fun θ l V hl hc hd hg => by have hsl := HSLC.out V; go_simp; (try with_reducible rfl); (try omega))
          · exact par_run (fun θ => by rfl) (fun θ l V hl hc hd hg => by
              have h5 : l 5 = true := hd 5 (by kernel_rfl)
              have h12 : l 12 = false := (by cases h : l 12 with | false => rfl | true => exact absurd (hc 12 11 (by kernel_rfl) h) (by rw [hl]; decide))
              have h14 : l 14 = false := (by cases h : l 14 with | false => rfl | true => exact absurd (hc 14 11 (by kernel_rfl) h) (by rw [hl]; decide))
              obtain ⟨a7, c7, V7, hr7, hN⟩ := hg.app h5 hl h14 (HYS.out V hg.bel) (by omega) 31
              exact ⟨_, V7, run_appY (S := 31) rfl rfl (by rfl) (by rfl) hr7, next_set (by kernel_rfl) ((θ.1, a7, c7, θ.2.2.2) : Nat × Option Addr × Nat × Nat) [(42, .slice a7 (n - at_) c7, 11), (43, .agg #[.int .u8 0, .int .u8 0, .int .u32 (t : Nat), .int .u16 (st : Nat), .int .u16 0, .int .u32 (pp : Nat), .int .u32 0, .int .u32 0, .int .u16 0, .int .u16 0, .slice none 0 0, .slice none 0 0, .slice none 0 0, .slice a7 (n - at_) c7], 12)] (by simp only [List.foldl_cons, List.foldl_nil, List.setIfInBounds_toArray, List.set_cons_zero, List.set_cons_succ]) (by kernel_rfl) (fun y hy => by simp at hy; rcases hy with rfl | rfl; exact hl; exact h12) (fun d hd => by cases hd; rfl) hN⟩)
          · exact par_val (fun θ => by rfl) (fun θ l V hg => hg.other 12 (by decide) (by decide) (by decide) (by decide)) (fun θ l V hl hc hd hg => by go_simp; (try with_reducible rfl); (try omega))
          · exact par_run (fun θ => by rfl) (fun θ l V hl hc hd hg => by
              have h14 : l 14 = false := (by cases h : l 14 with | false => rfl | true => exact absurd (hc 14 13 (by kernel_rfl) h) (by rw [hl]; decide))
              exact ⟨_, _, run_allocX rfl zero_ch, next_set (by kernel_rfl) ((θ.1, θ.2.1, θ.2.2.1, V.heap.size) : Nat × Option Addr × Nat × Nat) [(10, .pointer (some ⟨V.heap.size, 0, none⟩), 13)] (by simp only [List.foldl_cons, List.foldl_nil, List.setIfInBounds_toArray, List.set_cons_zero, List.set_cons_succ]) (by kernel_rfl) (fun y hy => by simp at hy; subst hy; exact hl) (fun d hd => by cases hd; rfl) (hg.box h14)⟩)
          · exact par_skip (fun θ => by rfl) (fun θ l V hl hc hd hg => by
              have h13 : l 13 = true := hd 13 (by kernel_rfl)
              have h12 : l 12 = true := hd 12 (by kernel_rfl)
              have h11 : l 11 = true := hc 12 11 (by kernel_rfl) h12
              obtain ⟨hth, hst⟩ := hg.store h11 h13 hl rfl
              exact ⟨_, run_storeX rfl (b := θ.2.2.2) (k := 0) (by rfl) (cs := [.int .u8 0, .int .u8 0, .int .u32 (t : Nat), .int .u16 (st : Nat), .int .u16 0, .int .u32 (pp : Nat), .int .u32 0, .int .u32 0, .int .u16 0, .int .u16 0, .slice none 0 0, .slice none 0 0, .slice none 0 0, .slice θ.2.1 (n - at_) θ.2.2.1]) (by rfl) hth (by kernel_rfl) (by intro v hv; simp at hv; rcases hv with rfl | rfl | rfl | rfl | rfl | rfl | rfl | rfl | rfl | rfl | rfl | rfl | rfl | rfl <;> rfl), ⟨θ, fun _ _ _ _ _ _ => rfl, fun d hd => (by cases hd), hst⟩⟩)
        case he2 =>
        rintro ⟨e0, da, dc, bq⟩ l V hall hg
        have hB5 := hg.bel
        have hO5 := hg.a11 (hall 11 (by decide))
        have hS5 := hg.a14 (hall 14 (by decide))
        have hQ5 := hg.ap (hall 13 (by decide))
        have hJ5 := hg.dj2 (hall 13 (by decide)) (hall 11 (by decide))
        clear hall hg
        dsimp only at hO5 hS5 hQ5 hJ5 ⊢
        have hbq := hS5.lt
        have hbm : ¬ w.heap.size = bq := by have := hQ5.1; have := HBS.out.1; omega
        have hbm2 : ¬ bq = w.heap.size := fun e => hbm e.symm
        have d0 := hS5.cell 0 _ rfl
        have d1 := hS5.cell 1 _ rfl
        have d2 := hS5.cell 2 _ rfl
        have d3 := hS5.cell 3 _ rfl
        have d4 := hS5.cell 4 _ rfl
        have d5 := hS5.cell 5 _ rfl
        have d6 := hS5.cell 6 _ rfl
        have d7 := hS5.cell 7 _ rfl
        have d8 := hS5.cell 8 _ rfl
        have d9 := hS5.cell 9 _ rfl
        have d10 := hS5.cell 10 _ rfl
        have d11 := hS5.cell 11 _ rfl
        have d12 := hS5.cell 12 _ rfl
        have d13 := hS5.cell 13 _ rfl
        have f1 := hS5.free 1
        have f4 := hS5.free 4
        have hMV := HMG.out.below hB5
        have m1 := hMV.cell 1 _ rfl
        have m3 := hMV.cell 3 _ rfl
        have m4 := hMV.cell 4 _ rfl
        have HS5 := (show Hid _ from hS5)
        clear hS5 hMV d2 d3 d4 d5 d6 d7 d8 d9 d10 d11 d12 d13 d0
        have d4 := HS5.out.cell 4 _ rfl
        cases fr with
        | false =>
          by_cases hk0 : at_ = 0
          · have g0 : (at_ : Int) = 0 := by omega
            have HK0 := (show Hid _ from hk0)
            clear hk0
            have hrg : (((V.setCell ⟨bq, 4, none⟩ (.int .u16 (ss : Nat))).setCell ⟨bq, 1, none⟩ (.int .u8 2)).setCell ⟨bq, 1, none⟩ (.int .u8 3)).rangeAt bq 0 [.int .u8 0, .int .u8 3, .int .u32 (t : Nat), .int .u16 (st : Nat), .int .u16 (ss : Nat), .int .u32 (pp : Nat), .int .u32 0, .int .u32 0, .int .u16 0, .int .u16 0, .slice none 0 0, .slice none 0 0, .slice none 0 0, .slice da (n - at_) dc] := (show Stc (((V.setCell ⟨bq, 4, none⟩ (.int .u16 (ss : Nat))).setCell ⟨bq, 1, none⟩ (.int .u8 2)).setCell ⟨bq, 1, none⟩ (.int .u8 3)) bq [.int .u8 0, .int .u8 3, .int .u32 (t : Nat), .int .u16 (st : Nat), .int .u16 (ss : Nat), .int .u32 (pp : Nat), .int .u32 0, .int .u32 0, .int .u16 0, .int .u16 0, .slice none 0 0, .slice none 0 0, .slice none 0 0, .slice da (n - at_) dc] from (((HS5.out.set 4 (.int .u16 (ss : Nat))).set 1 (.int .u8 2)).set 1 (.int .u8 3))).range
            have hf9 : Fr (fun g => g = bq) V (((V.setCell ⟨bq, 4, none⟩ (.int .u16 (ss : Nat))).setCell ⟨bq, 1, none⟩ (.int .u8 2)).setCell ⟨bq, 1, none⟩ (.int .u8 3)) := (((Fr.setCell (fun g => g = bq) V ⟨bq, 4, none⟩ (.int .u16 (ss : Nat)) rfl).trans (Fr.setCell (fun g => g = bq) (V.setCell ⟨bq, 4, none⟩ (.int .u16 (ss : Nat))) ⟨bq, 1, none⟩ (.int .u8 2) rfl)).trans (Fr.setCell (fun g => g = bq) ((V.setCell ⟨bq, 4, none⟩ (.int .u16 (ss : Nat))).setCell ⟨bq, 1, none⟩ (.int .u8 2)) ⟨bq, 1, none⟩ (.int .u8 3) rfl))
            have hsz : (((V.setCell ⟨bq, 4, none⟩ (.int .u16 (ss : Nat))).setCell ⟨bq, 1, none⟩ (.int .u8 2)).setCell ⟨bq, 1, none⟩ (.int .u8 3)).heap.size = V.heap.size := by simp [World.setCell]
            have hF : 3 = pzF ⟨st, ss, pp, false, zs⟩ size k := by
              obtain ⟨hl1, hl2, hl3, hl4⟩ := HLEN.out
              have hA0 := HA.out
              have hK0 := HK0.out
              have hk1 : (k + 1) * size = at_ + size := by rw [Nat.add_mul, ← hl1]; omega
              have hk0 : k = 0 ↔ at_ = 0 := by rw [hl1]; exact ⟨fun e => by rw [e]; omega, fun e => by rcases Nat.mul_eq_zero.1 e with e | e <;> omega⟩
              unfold pzF
              dsimp only
              rw [if_neg (by decide), if_pos (by omega), if_pos (by omega)]
            obtain ⟨g7, c7, w7, hr7, hp7, hb7⟩ := HPL.out.step HBS.out.1 hB5 hQ5.1 HPD.out hO5 hJ5 hf9 HBS.out.2 (F := 3) (S := ss) hF rfl
            rw [hsz, ← HTT.out.1] at hr7
            have HP7 : Hid (PzI w ⟨st, ss, pp, false, zs⟩ size t0 n (k + 1) t2 (at_ + size) (some ⟨g7, 0, none⟩) c7 [.int .u16 (st : Nat), .int .u16 (ss : Nat), .int .u32 (pp : Nat), .bool false, .slice (some ⟨mb, mo, none⟩) n c] w7) := HNEXT.out _ _ _ _ hp7 hb7 rfl
            clear hF hf9 hsz hp7 hb7 hO5 hJ5
            go_wp2_with (first | (refine wpList_load_mid rfl 47 _ rfl bq 0 rfl [.int .u8 0, .int .u8 3, .int .u32 (t : Nat), .int .u16 (st : Nat), .int .u16 (ss : Nat), .int .u32 (pp : Nat), .int .u32 0, .int .u32 0, .int .u16 0, .int .u16 0, .slice none 0 0, .slice none 0 0, .slice none 0 0, .slice da (n - at_) dc] _ hrg Try.underlying47 rfl (ch_size _ rfl) ?_) | (at_builtin; refine app_eq_list rfl _ _ rfl rfl rfl rfl hr7 ?_))
            clear hr7 hrg
            go_wp2
            go_roundw
            case rel => exact ⟨k + 1, t2, at_ + size, _, _, (congrArg (Value.int .u32) HTT.out.2), rfl, (congrArg (Value.int .i64) (by have := HK0.out; have := HA.out; omega)), HP7.out⟩
            case measure => simp [intOf]; omega
          · have g0 : ¬ (at_ : Int) = 0 := by omega
            have HK0 := (show Hid _ from hk0)
            have hrg : ((V.setCell ⟨bq, 4, none⟩ (.int .u16 (ss : Nat))).setCell ⟨bq, 1, none⟩ (.int .u8 1)).rangeAt bq 0 [.int .u8 0, .int .u8 1, .int .u32 (t : Nat), .int .u16 (st : Nat), .int .u16 (ss : Nat), .int .u32 (pp : Nat), .int .u32 0, .int .u32 0, .int .u16 0, .int .u16 0, .slice none 0 0, .slice none 0 0, .slice none 0 0, .slice da (n - at_) dc] := (show Stc ((V.setCell ⟨bq, 4, none⟩ (.int .u16 (ss : Nat))).setCell ⟨bq, 1, none⟩ (.int .u8 1)) bq [.int .u8 0, .int .u8 1, .int .u32 (t : Nat), .int .u16 (st : Nat), .int .u16 (ss : Nat), .int .u32 (pp : Nat), .int .u32 0, .int .u32 0, .int .u16 0, .int .u16 0, .slice none 0 0, .slice none 0 0, .slice none 0 0, .slice da (n - at_) dc] from ((HS5.out.set 4 (.int .u16 (ss : Nat))).set 1 (.int .u8 1))).range
            have hf9 : Fr (fun g => g = bq) V ((V.setCell ⟨bq, 4, none⟩ (.int .u16 (ss : Nat))).setCell ⟨bq, 1, none⟩ (.int .u8 1)) := ((Fr.setCell (fun g => g = bq) V ⟨bq, 4, none⟩ (.int .u16 (ss : Nat)) rfl).trans (Fr.setCell (fun g => g = bq) (V.setCell ⟨bq, 4, none⟩ (.int .u16 (ss : Nat))) ⟨bq, 1, none⟩ (.int .u8 1) rfl))
            have hsz : ((V.setCell ⟨bq, 4, none⟩ (.int .u16 (ss : Nat))).setCell ⟨bq, 1, none⟩ (.int .u8 1)).heap.size = V.heap.size := by simp [World.setCell]
            have hF : 1 = pzF ⟨st, ss, pp, false, zs⟩ size k := by
              obtain ⟨hl1, hl2, hl3, hl4⟩ := HLEN.out
              have hA0 := HA.out
              have hK0 := HK0.out
              have hk1 : (k + 1) * size = at_ + size := by rw [Nat.add_mul, ← hl1]; omega
              have hk0 : k = 0 ↔ at_ = 0 := by rw [hl1]; exact ⟨fun e => by rw [e]; omega, fun e => by rcases Nat.mul_eq_zero.1 e with e | e <;> omega⟩
              unfold pzF
              dsimp only
              rw [if_neg (by decide), if_neg (by omega), if_pos (by omega)]
            obtain ⟨g7, c7, w7, hr7, hp7, hb7⟩ := HPL.out.step HBS.out.1 hB5 hQ5.1 HPD.out hO5 hJ5 hf9 HBS.out.2 (F := 1) (S := ss) hF rfl
            rw [hsz, ← HTT.out.1] at hr7
            have HP7 : Hid (PzI w ⟨st, ss, pp, false, zs⟩ size t0 n (k + 1) t2 (at_ + size) (some ⟨g7, 0, none⟩) c7 [.int .u16 (st : Nat), .int .u16 (ss : Nat), .int .u32 (pp : Nat), .bool false, .slice (some ⟨mb, mo, none⟩) n c] w7) := HNEXT.out _ _ _ _ hp7 hb7 rfl
            clear hF hf9 hsz hp7 hb7 hO5 hJ5
            go_wp2_with (first | (refine wpList_load_mid rfl 47 _ rfl bq 0 rfl [.int .u8 0, .int .u8 1, .int .u32 (t : Nat), .int .u16 (st : Nat), .int .u16 (ss : Nat), .int .u32 (pp : Nat), .int .u32 0, .int .u32 0, .int .u16 0, .int .u16 0, .slice none 0 0, .slice none 0 0, .slice none 0 0, .slice da (n - at_) dc] _ hrg Try.underlying47 rfl (ch_size _ rfl) ?_) | (at_builtin; refine app_eq_list rfl _ _ rfl rfl rfl rfl hr7 ?_))
            clear hr7 hrg
            go_wp2
            go_roundw
            case rel => exact ⟨k + 1, t2, at_ + size, _, _, (congrArg (Value.int .u32) HTT.out.2), rfl, (congrArg (Value.int .i64) (by have := HK0.out; have := HA.out; omega)), HP7.out⟩
            case measure => simp [intOf]; omega
        | true =>
          by_cases hk0 : at_ = 0
          · have g0 : (at_ : Int) = 0 := by omega
            have HK0 := (show Hid _ from hk0)
            clear hk0
            have hrg : (((V.setCell ⟨bq, 1, none⟩ (.int .u8 4)).setCell ⟨bq, 1, none⟩ (.int .u8 6)).setCell ⟨bq, 1, none⟩ (.int .u8 7)).rangeAt bq 0 [.int .u8 0, .int .u8 7, .int .u32 (t : Nat), .int .u16 (st : Nat), .int .u16 0, .int .u32 (pp : Nat), .int .u32 0, .int .u32 0, .int .u16 0, .int .u16 0, .slice none 0 0, .slice none 0 0, .slice none 0 0, .slice da (n - at_) dc] := (show Stc (((V.setCell ⟨bq, 1, none⟩ (.int .u8 4)).setCell ⟨bq, 1, none⟩ (.int .u8 6)).setCell ⟨bq, 1, none⟩ (.int .u8 7)) bq [.int .u8 0, .int .u8 7, .int .u32 (t : Nat), .int .u16 (st : Nat), .int .u16 0, .int .u32 (pp : Nat), .int .u32 0, .int .u32 0, .int .u16 0, .int .u16 0, .slice none 0 0, .slice none 0 0, .slice none 0 0, .slice da (n - at_) dc] from (((HS5.out.set 1 (.int .u8 4)).set 1 (.int .u8 6)).set 1 (.int .u8 7))).range
            have hf9 : Fr (fun g => g = bq) V (((V.setCell ⟨bq, 1, none⟩ (.int .u8 4)).setCell ⟨bq, 1, none⟩ (.int .u8 6)).setCell ⟨bq, 1, none⟩ (.int .u8 7)) := (((Fr.setCell (fun g => g = bq) V ⟨bq, 1, none⟩ (.int .u8 4) rfl).trans (Fr.setCell (fun g => g = bq) (V.setCell ⟨bq, 1, none⟩ (.int .u8 4)) ⟨bq, 1, none⟩ (.int .u8 6) rfl)).trans (Fr.setCell (fun g => g = bq) ((V.setCell ⟨bq, 1, none⟩ (.int .u8 4)).setCell ⟨bq, 1, none⟩ (.int .u8 6)) ⟨bq, 1, none⟩ (.int .u8 7) rfl))
            have hsz : (((V.setCell ⟨bq, 1, none⟩ (.int .u8 4)).setCell ⟨bq, 1, none⟩ (.int .u8 6)).setCell ⟨bq, 1, none⟩ (.int .u8 7)).heap.size = V.heap.size := by simp [World.setCell]
            have hF : 7 = pzF ⟨st, ss, pp, true, zs⟩ size k := by
              obtain ⟨hl1, hl2, hl3, hl4⟩ := HLEN.out
              have hA0 := HA.out
              have hK0 := HK0.out
              have hk1 : (k + 1) * size = at_ + size := by rw [Nat.add_mul, ← hl1]; omega
              have hk0 : k = 0 ↔ at_ = 0 := by rw [hl1]; exact ⟨fun e => by rw [e]; omega, fun e => by rcases Nat.mul_eq_zero.1 e with e | e <;> omega⟩
              unfold pzF
              dsimp only
              rw [if_pos (by decide), if_pos (by omega), if_pos (by omega)]
            obtain ⟨g7, c7, w7, hr7, hp7, hb7⟩ := HPL.out.step HBS.out.1 hB5 hQ5.1 HPD.out hO5 hJ5 hf9 HBS.out.2 (F := 7) (S := 0) hF (HSS0.out rfl).symm
            rw [hsz, ← HTT.out.1] at hr7
            have HP7 : Hid (PzI w ⟨st, ss, pp, true, zs⟩ size t0 n (k + 1) t2 (at_ + size) (some ⟨g7, 0, none⟩) c7 [.int .u16 (st : Nat), .int .u16 (ss : Nat), .int .u32 (pp : Nat), .bool true, .slice (some ⟨mb, mo, none⟩) n c] w7) := HNEXT.out _ _ _ _ hp7 hb7 rfl
            clear hF hf9 hsz hp7 hb7 hO5 hJ5
            go_wp2_with (first | (refine wpList_load_mid rfl 47 _ rfl bq 0 rfl [.int .u8 0, .int .u8 7, .int .u32 (t : Nat), .int .u16 (st : Nat), .int .u16 0, .int .u32 (pp : Nat), .int .u32 0, .int .u32 0, .int .u16 0, .int .u16 0, .slice none 0 0, .slice none 0 0, .slice none 0 0, .slice da (n - at_) dc] _ hrg Try.underlying47 rfl (ch_size _ rfl) ?_) | (at_builtin; refine app_eq_list rfl _ _ rfl rfl rfl rfl hr7 ?_))
            clear hr7 hrg
            go_wp2
            go_roundw
            case rel => exact ⟨k + 1, t2, at_ + size, _, _, (congrArg (Value.int .u32) HTT.out.2), rfl, (congrArg (Value.int .i64) (by have := HK0.out; have := HA.out; omega)), HP7.out⟩
            case measure => simp [intOf]; omega
          · have g0 : ¬ (at_ : Int) = 0 := by omega
            have HK0 := (show Hid _ from hk0)
            have hrg : ((V.setCell ⟨bq, 1, none⟩ (.int .u8 4)).setCell ⟨bq, 1, none⟩ (.int .u8 5)).rangeAt bq 0 [.int .u8 0, .int .u8 5, .int .u32 (t : Nat), .int .u16 (st : Nat), .int .u16 0, .int .u32 (pp : Nat), .int .u32 0, .int .u32 0, .int .u16 0, .int .u16 0, .slice none 0 0, .slice none 0 0, .slice none 0 0, .slice da (n - at_) dc] := (show Stc ((V.setCell ⟨bq, 1, none⟩ (.int .u8 4)).setCell ⟨bq, 1, none⟩ (.int .u8 5)) bq [.int .u8 0, .int .u8 5, .int .u32 (t : Nat), .int .u16 (st : Nat), .int .u16 0, .int .u32 (pp : Nat), .int .u32 0, .int .u32 0, .int .u16 0, .int .u16 0, .slice none 0 0, .slice none 0 0, .slice none 0 0, .slice da (n - at_) dc] from ((HS5.out.set 1 (.int .u8 4)).set 1 (.int .u8 5))).range
            have hf9 : Fr (fun g => g = bq) V ((V.setCell ⟨bq, 1, none⟩ (.int .u8 4)).setCell ⟨bq, 1, none⟩ (.int .u8 5)) := ((Fr.setCell (fun g => g = bq) V ⟨bq, 1, none⟩ (.int .u8 4) rfl).trans (Fr.setCell (fun g => g = bq) (V.setCell ⟨bq, 1, none⟩ (.int .u8 4)) ⟨bq, 1, none⟩ (.int .u8 5) rfl))
            have hsz : ((V.setCell ⟨bq, 1, none⟩ (.int .u8 4)).setCell ⟨bq, 1, none⟩ (.int .u8 5)).heap.size = V.heap.size := by simp [World.setCell]
            have hF : 5 = pzF ⟨st, ss, pp, true, zs⟩ size k := by
              obtain ⟨hl1, hl2, hl3, hl4⟩ := HLEN.out
              have hA0 := HA.out
              have hK0 := HK0.out
              have hk1 : (k + 1) * size = at_ + size := by rw [Nat.add_mul, ← hl1]; omega
              have hk0 : k = 0 ↔ at_ = 0 := by rw [hl1]; exact ⟨fun e => by rw [e]; omega, fun e => by rcases Nat.mul_eq_zero.1 e with e | e <;> omega⟩
              unfold pzF
              dsimp only
              rw [if_pos (by decide), if_neg (by omega), if_pos (by omega)]
            obtain ⟨g7, c7, w7, hr7, hp7, hb7⟩ := HPL.out.step HBS.out.1 hB5 hQ5.1 HPD.out hO5 hJ5 hf9 HBS.out.2 (F := 5) (S := 0) hF (HSS0.out rfl).symm
            rw [hsz, ← HTT.out.1] at hr7
            have HP7 : Hid (PzI w ⟨st, ss, pp, true, zs⟩ size t0 n (k + 1) t2 (at_ + size) (some ⟨g7, 0, none⟩) c7 [.int .u16 (st : Nat), .int .u16 (ss : Nat), .int .u32 (pp : Nat), .bool true, .slice (some ⟨mb, mo, none⟩) n c] w7) := HNEXT.out _ _ _ _ hp7 hb7 rfl
            clear hF hf9 hsz hp7 hb7 hO5 hJ5
            go_wp2_with (first | (refine wpList_load_mid rfl 47 _ rfl bq 0 rfl [.int .u8 0, .int .u8 5, .int .u32 (t : Nat), .int .u16 (st : Nat), .int .u16 0, .int .u32 (pp : Nat), .int .u32 0, .int .u32 0, .int .u16 0, .int .u16 0, .slice none 0 0, .slice none 0 0, .slice none 0 0, .slice da (n - at_) dc] _ hrg Try.underlying47 rfl (ch_size _ rfl) ?_) | (at_builtin; refine app_eq_list rfl _ _ rfl rfl rfl rfl hr7 ?_))
            clear hr7 hrg
            go_wp2
            go_roundw
            case rel => exact ⟨k + 1, t2, at_ + size, _, _, (congrArg (Value.int .u32) HTT.out.2), rfl, (congrArg (Value.int .i64) (by have := HK0.out; have := HA.out; omega)), HP7.out⟩
            case measure => simp [intOf]; omega
      · obtain ⟨e, he⟩ : ∃ e, e = at_ + size := ⟨_, rfl⟩
        have HDD : Hid ((zs.drop at_).take (e - at_) = pzD ⟨st, ss, pp, fr, zs⟩ size k ∧ (pzD ⟨st, ss, pp, fr, zs⟩ size k).length = e - at_) := by
          obtain ⟨l1, l2, l3, l4⟩ := HLEN.out
          have := pzD_take ⟨st, ss, pp, fr, zs⟩ size k e (by omega) (by dsimp only; omega) (.inl (by omega))
          rwa [← l1] at this
        have hEE : (at_ : Int) + (size : Int) = (e : Int) := by omega
        have hgt : ¬ (n : Int) < (e : Int) := by omega
        have hgt2 : ¬ (e : Int) = (n : Int) := by omega
        have heb : e < n := by omega
        have hae : at_ < e := by omega
        have HA := (show Hid _ from And.intro hA he)
        clear hA he
        obtain ⟨ys, hys⟩ : ∃ ys, ys = pzD ⟨st, ss, pp, fr, zs⟩ size k := ⟨_, rfl⟩
        have HPD : Hid (e - at_ = (pzD ⟨st, ss, pp, fr, zs⟩ size k).length) := HDD.out.2.symm
        have HYS : Hid (∀ V, Below wr.heap.size wr V → Sl V (some ⟨mb, mo + at_, none⟩) (e - at_) (c - at_) (pzD ⟨st, ss, pp, fr, zs⟩ size k)) := fun V hV => by
          rw [← HDD.out.1]
          exact Sl.midP ((HIN.out wr HBW.out).below hV) at_ e (by omega) (by omega)
        have HSLC : Hid (∀ V, (Instr.slice 31 (.slice (some ⟨mb, mo, none⟩) n c) (some (.int .i64 (at_ : Int))) (some (.int .i64 (e : Int))) none).run Try.prog V = .ok (.slice (some ⟨mb, mo + at_, none⟩) (e - at_) (c - at_)) V) := fun V => slice_lhP mb mo n c at_ e (by omega) (by omega) V
        clear hys ys
        go_wp2_with fail
        refine wp_region_parW mixedX (fun θ : Nat × Option Addr × Nat × Nat => [(31, .int .u32 (t : Nat)), (32, .pointer (some ⟨w.heap.size, 0, none⟩)), (33, .int .u16 (st : Nat)), (34, .pointer (some ⟨w.heap.size, 2, none⟩)), (35, .int .u32 (pp : Nat)), (36, .slice (some ⟨θ.1, 0, none⟩) 0 0), (37, .pointer (some ⟨w.heap.size, 4, none⟩)), (38, .slice (some ⟨mb, mo, none⟩) n c), (39, .int .i64 (at_ : Nat)), (40, .int .i64 (e : Nat)), (41, .slice (some ⟨mb, mo + at_, none⟩) (e - at_) (c - at_)), (42, .slice θ.2.1 (e - at_) θ.2.2.1), (43, .agg #[.int .u8 0, .int .u8 0, .int .u32 (t : Nat), .int .u16 (st : Nat), .int .u16 0, .int .u32 (pp : Nat), .int .u32 0, .int .u32 0, .int .u16 0, .int .u16 0, .slice none 0 0, .slice none 0 0, .slice none 0 0, .slice θ.2.1 (e - at_) θ.2.2.1]), (10, .pointer (some ⟨θ.2.2.2, 0, none⟩))]) (fun θ l V => PzG wr (pzD ⟨st, ss, pp, fr, zs⟩ size k) (e - at_) (fun θ => [.int .u8 0, .int .u8 0, .int .u32 (t : Nat), .int .u16 (st : Nat), .int .u16 0, .int .u32 (pp : Nat), .int .u32 0, .int .u32 0, .int .u16 0, .int .u16 0, .slice none 0 0, .slice none 0 0, .slice none 0 0, .slice θ.2.1 (e - at_) θ.2.2.1]) θ l V) (0, none, 0, 0) ?Z3 ?hZ3 (by kernel_rfl) (by kernel_rfl) (fun θ => by kernel_rfl) (by kernel_rfl) ?h03 ?hops3 ?he3
        case hZ3 => intro θ; simp only [List.foldl_cons, List.foldl_nil, List.setIfInBounds_toArray, List.set_cons_zero, List.set_cons_succ]; rfl
        case h03 => exact PzG.start (Below.refl _ _).drew
        case hops3 =>
          refine ⟨?_, ?_, ?_, ?_, ?_, ?_, ?_, ?_, ?_, ?_, ?_, ?_, ?_, ?_, ?_, trivial⟩
          · exact par_val (fun θ => by rfl) (fun θ l V hg => hg.other 0 (by decide) (by decide) (by decide) (by decide)) (fun θ l V hl hc hd hg => by go_simp; (try with_reducible rfl); (try omega))
          · exact par_val (fun θ => by rfl) (fun θ l V hg => hg.other 1 (by decide) (by decide) (by decide) (by decide)) (fun θ l V hl hc hd hg => by go_simp; (try with_reducible rfl); (try omega))
          · exact par_val (fun θ => by rfl) (fun θ l V hg => hg.other 2 (by decide) (by decide) (by decide) (by decide)) (fun θ l V hl hc hd hg => by obtain ⟨d0, d2, d4⟩ := HKC.out V hg.bel; go_simp; (try with_reducible rfl); (try omega))
          · exact par_val (fun θ => by rfl) (fun θ l V hg => hg.other 3 (by decide) (by decide) (by decide) (by decide)) (fun θ l V hl hc hd hg => by go_simp; (try with_reducible rfl); (try omega))
          · exact par_val (fun θ => by rfl) (fun θ l V hg => hg.other 4 (by decide) (by decide) (by decide) (by decide)) (fun θ l V hl hc hd hg => by obtain ⟨d0, d2, d4⟩ := HKC.out V hg.bel; go_simp; (try with_reducible rfl); (try omega))
          · exact par_run (fun θ => by rfl) (fun θ l V hl hc hd hg => by
              have h11 : l 11 = false := (by cases h : l 11 with | false => rfl | true => exact absurd (hc 11 5 (by kernel_rfl) h) (by rw [hl]; decide))
              have h14 : l 14 = false := (by cases h : l 14 with | false => rfl | true => exact absurd (hc 14 5 (by kernel_rfl) h) (by rw [hl]; decide))
              exact ⟨_, _, run_bsl0 V (by rfl), next_set (by kernel_rfl) ((V.heap.size, θ.2) : Nat × Option Addr × Nat × Nat) [(36, .slice (some ⟨V.heap.size, 0, none⟩) 0 0, 5)] (by simp only [List.foldl_cons, List.foldl_nil, List.setIfInBounds_toArray, List.set_cons_zero, List.set_cons_succ]) (by kernel_rfl) (fun y hy => by simp at hy; subst hy; exact hl) (fun d hd => by cases hd; rfl) (hg.empty h11 h14)⟩)
          · exact par_val (fun θ => by rfl) (fun θ l V hg => hg.other 6 (by decide) (by decide) (by decide) (by decide)) (fun θ l V hl hc hd hg => by go_simp; (try with_reducible rfl); (try omega))
          · exact par_val (fun θ => by rfl) (fun θ l V hg => hg.other 7 (by decide) (by decide) (by decide) (by decide)) (fun θ l V hl hc hd hg => by obtain ⟨d0, d2, d4⟩ := HKC.out V hg.bel; go_simp; (try with_reducible rfl); (try omega))
          · exact par_val (fun θ => by rfl) (fun θ l V hg => hg.other 8 (by decide) (by decide) (by decide) (by decide)) (fun θ l V hl hc hd hg => by go_simp; (try with_reducible rfl); (try omega))
          · exact par_val (fun θ => by rfl) (fun θ l V hg => hg.other 9 (by decide) (by decide) (by decide) (by decide)) (fun θ l V hl hc hd hg => by go_simp; (try with_reducible rfl); (try omega))
          · exact par_val (fun θ => by rfl) (fun θ l V hg => hg.other 10 (by decide) (by decide) (by decide) (by decide)) (fun θ l V hl hc hd hg => by have hsl := HSLC.out V; go_simp; (try with_reducible rfl); (try omega))
          · exact par_run (fun θ => by rfl) (fun θ l V hl hc hd hg => by
              have h5 : l 5 = true := hd 5 (by kernel_rfl)
              have h12 : l 12 = false := (by cases h : l 12 with | false => rfl | true => exact absurd (hc 12 11 (by kernel_rfl) h) (by rw [hl]; decide))
              have h14 : l 14 = false := (by cases h : l 14 with | false => rfl | true => exact absurd (hc 14 11 (by kernel_rfl) h) (by rw [hl]; decide))
              obtain ⟨a7, c7, V7, hr7, hN⟩ := hg.app h5 hl h14 (HYS.out V hg.bel) (by omega) 31
              exact ⟨_, V7, run_appY (S := 31) rfl rfl (by rfl) (by rfl) hr7, next_set (by kernel_rfl) ((θ.1, a7, c7, θ.2.2.2) : Nat × Option Addr × Nat × Nat) [(42, .slice a7 (e - at_) c7, 11), (43, .agg #[.int .u8 0, .int .u8 0, .int .u32 (t : Nat), .int .u16 (st : Nat), .int .u16 0, .int .u32 (pp : Nat), .int .u32 0, .int .u32 0, .int .u16 0, .int .u16 0, .slice none 0 0, .slice none 0 0, .slice none 0 0, .slice a7 (e - at_) c7], 12)] (by simp only [List.foldl_cons, List.foldl_nil, List.setIfInBounds_toArray, List.set_cons_zero, List.set_cons_succ]) (by kernel_rfl) (fun y hy => by simp at hy; rcases hy with rfl | rfl; exact hl; exact h12) (fun d hd => by cases hd; rfl) hN⟩)
          · exact par_val (fun θ => by rfl) (fun θ l V hg => hg.other 12 (by decide) (by decide) (by decide) (by decide)) (fun θ l V hl hc hd hg => by go_simp; (try with_reducible rfl); (try omega))
          · exact par_run (fun θ => by rfl) (fun θ l V hl hc hd hg => by
              have h14 : l 14 = false := (by cases h : l 14 with | false => rfl | true => exact absurd (hc 14 13 (by kernel_rfl) h) (by rw [hl]; decide))
              exact ⟨_, _, run_allocX rfl zero_ch, next_set (by kernel_rfl) ((θ.1, θ.2.1, θ.2.2.1, V.heap.size) : Nat × Option Addr × Nat × Nat) [(10, .pointer (some ⟨V.heap.size, 0, none⟩), 13)] (by simp only [List.foldl_cons, List.foldl_nil, List.setIfInBounds_toArray, List.set_cons_zero, List.set_cons_succ]) (by kernel_rfl) (fun y hy => by simp at hy; subst hy; exact hl) (fun d hd => by cases hd; rfl) (hg.box h14)⟩)
          · exact par_skip (fun θ => by rfl) (fun θ l V hl hc hd hg => by
              have h13 : l 13 = true := hd 13 (by kernel_rfl)
              have h12 : l 12 = true := hd 12 (by kernel_rfl)
              have h11 : l 11 = true := hc 12 11 (by kernel_rfl) h12
              obtain ⟨hth, hst⟩ := hg.store h11 h13 hl rfl
              exact ⟨_, run_storeX rfl (b := θ.2.2.2) (k := 0) (by rfl) (cs := [.int .u8 0, .int .u8 0, .int .u32 (t : Nat), .int .u16 (st : Nat), .int .u16 0, .int .u32 (pp : Nat), .int .u32 0, .int .u32 0, .int .u16 0, .int .u16 0, .slice none 0 0, .slice none 0 0, .slice none 0 0, .slice θ.2.1 (e - at_) θ.2.2.1]) (by rfl) hth (by kernel_rfl) (by intro v hv; simp at hv; rcases hv with rfl | rfl | rfl | rfl | rfl | rfl | rfl | rfl | rfl | rfl | rfl | rfl | rfl | rfl <;> rfl), ⟨θ, fun _ _ _ _ _ _ => rfl, fun d hd => (by cases hd), hst⟩⟩)
        case he3 =>
        rintro ⟨e0, da, dc, bq⟩ l V hall hg
        have hB5 := hg.bel
        have hO5 := hg.a11 (hall 11 (by decide))
        have hS5 := hg.a14 (hall 14 (by decide))
        have hQ5 := hg.ap (hall 13 (by decide))
        have hJ5 := hg.dj2 (hall 13 (by decide)) (hall 11 (by decide))
        clear hall hg
        dsimp only at hO5 hS5 hQ5 hJ5 ⊢
        have hbq := hS5.lt
        have hbm : ¬ w.heap.size = bq := by have := hQ5.1; have := HBS.out.1; omega
        have hbm2 : ¬ bq = w.heap.size := fun e => hbm e.symm
        have d0 := hS5.cell 0 _ rfl
        have d1 := hS5.cell 1 _ rfl
        have d2 := hS5.cell 2 _ rfl
        have d3 := hS5.cell 3 _ rfl
        have d4 := hS5.cell 4 _ rfl
        have d5 := hS5.cell 5 _ rfl
        have d6 := hS5.cell 6 _ rfl
        have d7 := hS5.cell 7 _ rfl
        have d8 := hS5.cell 8 _ rfl
        have d9 := hS5.cell 9 _ rfl
        have d10 := hS5.cell 10 _ rfl
        have d11 := hS5.cell 11 _ rfl
        have d12 := hS5.cell 12 _ rfl
        have d13 := hS5.cell 13 _ rfl
        have f1 := hS5.free 1
        have f4 := hS5.free 4
        have hMV := HMG.out.below hB5
        have m1 := hMV.cell 1 _ rfl
        have m3 := hMV.cell 3 _ rfl
        have m4 := hMV.cell 4 _ rfl
        have HS5 := (show Hid _ from hS5)
        clear hS5 hMV d2 d3 d4 d5 d6 d7 d8 d9 d10 d11 d12 d13 d0
        have d4 := HS5.out.cell 4 _ rfl
        cases fr with
        | false =>
          by_cases hk0 : at_ = 0
          · have g0 : (at_ : Int) = 0 := by omega
            have HK0 := (show Hid _ from hk0)
            clear hk0
            have hrg : ((V.setCell ⟨bq, 4, none⟩ (.int .u16 (ss : Nat))).setCell ⟨bq, 1, none⟩ (.int .u8 2)).rangeAt bq 0 [.int .u8 0, .int .u8 2, .int .u32 (t : Nat), .int .u16 (st : Nat), .int .u16 (ss : Nat), .int .u32 (pp : Nat), .int .u32 0, .int .u32 0, .int .u16 0, .int .u16 0, .slice none 0 0, .slice none 0 0, .slice none 0 0, .slice da (e - at_) dc] := (show Stc ((V.setCell ⟨bq, 4, none⟩ (.int .u16 (ss : Nat))).setCell ⟨bq, 1, none⟩ (.int .u8 2)) bq [.int .u8 0, .int .u8 2, .int .u32 (t : Nat), .int .u16 (st : Nat), .int .u16 (ss : Nat), .int .u32 (pp : Nat), .int .u32 0, .int .u32 0, .int .u16 0, .int .u16 0, .slice none 0 0, .slice none 0 0, .slice none 0 0, .slice da (e - at_) dc] from ((HS5.out.set 4 (.int .u16 (ss : Nat))).set 1 (.int .u8 2))).range
            have hf9 : Fr (fun g => g = bq) V ((V.setCell ⟨bq, 4, none⟩ (.int .u16 (ss : Nat))).setCell ⟨bq, 1, none⟩ (.int .u8 2)) := ((Fr.setCell (fun g => g = bq) V ⟨bq, 4, none⟩ (.int .u16 (ss : Nat)) rfl).trans (Fr.setCell (fun g => g = bq) (V.setCell ⟨bq, 4, none⟩ (.int .u16 (ss : Nat))) ⟨bq, 1, none⟩ (.int .u8 2) rfl))
            have hsz : ((V.setCell ⟨bq, 4, none⟩ (.int .u16 (ss : Nat))).setCell ⟨bq, 1, none⟩ (.int .u8 2)).heap.size = V.heap.size := by simp [World.setCell]
            have hF : 2 = pzF ⟨st, ss, pp, false, zs⟩ size k := by
              obtain ⟨hl1, hl2, hl3, hl4⟩ := HLEN.out
              have hA0 := HA.out
              have hK0 := HK0.out
              have hk1 : (k + 1) * size = at_ + size := by rw [Nat.add_mul, ← hl1]; omega
              have hk0 : k = 0 ↔ at_ = 0 := by rw [hl1]; exact ⟨fun e => by rw [e]; omega, fun e => by rcases Nat.mul_eq_zero.1 e with e | e <;> omega⟩
              unfold pzF
              dsimp only
              rw [if_neg (by decide), if_pos (by omega), if_neg (by omega)]
            obtain ⟨g7, c7, w7, hr7, hp7, hb7⟩ := HPL.out.step HBS.out.1 hB5 hQ5.1 HPD.out hO5 hJ5 hf9 HBS.out.2 (F := 2) (S := ss) hF rfl
            rw [hsz, ← HTT.out.1] at hr7
            have HP7 : Hid (PzI w ⟨st, ss, pp, false, zs⟩ size t0 n (k + 1) t2 (at_ + size) (some ⟨g7, 0, none⟩) c7 [.int .u16 (st : Nat), .int .u16 (ss : Nat), .int .u32 (pp : Nat), .bool false, .slice (some ⟨mb, mo, none⟩) n c] w7) := HNEXT.out _ _ _ _ hp7 hb7 rfl
            clear hF hf9 hsz hp7 hb7 hO5 hJ5
            go_wp2_with (first | (refine wpList_load_mid rfl 47 _ rfl bq 0 rfl [.int .u8 0, .int .u8 2, .int .u32 (t : Nat), .int .u16 (st : Nat), .int .u16 (ss : Nat), .int .u32 (pp : Nat), .int .u32 0, .int .u32 0, .int .u16 0, .int .u16 0, .slice none 0 0, .slice none 0 0, .slice none 0 0, .slice da (e - at_) dc] _ hrg Try.underlying47 rfl (ch_size _ rfl) ?_) | (at_builtin; refine app_eq_list rfl _ _ rfl rfl rfl rfl hr7 ?_))
            clear hr7 hrg
            go_wp2
            go_roundw
            case rel => exact ⟨k + 1, t2, at_ + size, _, _, (congrArg (Value.int .u32) HTT.out.2), rfl, (congrArg (Value.int .i64) (by have := HK0.out; have := HA.out; omega)), HP7.out⟩
            case measure => simp [intOf]; omega
          · have g0 : ¬ (at_ : Int) = 0 := by omega
            have HK0 := (show Hid _ from hk0)
            have hrg : (V.setCell ⟨bq, 4, none⟩ (.int .u16 (ss : Nat))).rangeAt bq 0 [.int .u8 0, .int .u8 0, .int .u32 (t : Nat), .int .u16 (st : Nat), .int .u16 (ss : Nat), .int .u32 (pp : Nat), .int .u32 0, .int .u32 0, .int .u16 0, .int .u16 0, .slice none 0 0, .slice none 0 0, .slice none 0 0, .slice da (e - at_) dc] := (show Stc (V.setCell ⟨bq, 4, none⟩ (.int .u16 (ss : Nat))) bq [.int .u8 0, .int .u8 0, .int .u32 (t : Nat), .int .u16 (st : Nat), .int .u16 (ss : Nat), .int .u32 (pp : Nat), .int .u32 0, .int .u32 0, .int .u16 0, .int .u16 0, .slice none 0 0, .slice none 0 0, .slice none 0 0, .slice da (e - at_) dc] from (HS5.out.set 4 (.int .u16 (ss : Nat)))).range
            have hf9 : Fr (fun g => g = bq) V (V.setCell ⟨bq, 4, none⟩ (.int .u16 (ss : Nat))) := (Fr.setCell (fun g => g = bq) V ⟨bq, 4, none⟩ (.int .u16 (ss : Nat)) rfl)
            have hsz : (V.setCell ⟨bq, 4, none⟩ (.int .u16 (ss : Nat))).heap.size = V.heap.size := by simp [World.setCell]
            have hF : 0 = pzF ⟨st, ss, pp, false, zs⟩ size k := by
              obtain ⟨hl1, hl2, hl3, hl4⟩ := HLEN.out
              have hA0 := HA.out
              have hK0 := HK0.out
              have hk1 : (k + 1) * size = at_ + size := by rw [Nat.add_mul, ← hl1]; omega
              have hk0 : k = 0 ↔ at_ = 0 := by rw [hl1]; exact ⟨fun e => by rw [e]; omega, fun e => by rcases Nat.mul_eq_zero.1 e with e | e <;> omega⟩
              unfold pzF
              dsimp only
              rw [if_neg (by decide), if_neg (by omega), if_neg (by omega)]
            obtain ⟨g7, c7, w7, hr7, hp7, hb7⟩ := HPL.out.step HBS.out.1 hB5 hQ5.1 HPD.out hO5 hJ5 hf9 HBS.out.2 (F := 0) (S := ss) hF rfl
            rw [hsz, ← HTT.out.1] at hr7
            have HP7 : Hid (PzI w ⟨st, ss, pp, false, zs⟩ size t0 n (k + 1) t2 (at_ + size) (some ⟨g7, 0, none⟩) c7 [.int .u16 (st : Nat), .int .u16 (ss : Nat), .int .u32 (pp : Nat), .bool false, .slice (some ⟨mb, mo, none⟩) n c] w7) := HNEXT.out _ _ _ _ hp7 hb7 rfl
            clear hF hf9 hsz hp7 hb7 hO5 hJ5
            go_wp2_with (first | (refine wpList_load_mid rfl 47 _ rfl bq 0 rfl [.int .u8 0, .int .u8 0, .int .u32 (t : Nat), .int .u16 (st : Nat), .int .u16 (ss : Nat), .int .u32 (pp : Nat), .int .u32 0, .int .u32 0, .int .u16 0, .int .u16 0, .slice none 0 0, .slice none 0 0, .slice none 0 0, .slice da (e - at_) dc] _ hrg Try.underlying47 rfl (ch_size _ rfl) ?_) | (at_builtin; refine app_eq_list rfl _ _ rfl rfl rfl rfl hr7 ?_))
            clear hr7 hrg
            go_wp2
            go_roundw
            case rel => exact ⟨k + 1, t2, at_ + size, _, _, (congrArg (Value.int .u32) HTT.out.2), rfl, (congrArg (Value.int .i64) (by have := HK0.out; have := HA.out; omega)), HP7.out⟩
            case measure => simp [intOf]; omega
        | true =>
          by_cases hk0 : at_ = 0
          · have g0 : (at_ : Int) = 0 := by omega
            have HK0 := (show Hid _ from hk0)
            clear hk0
            have hrg : ((V.setCell ⟨bq, 1, none⟩ (.int .u8 4)).setCell ⟨bq, 1, none⟩ (.int .u8 6)).rangeAt bq 0 [.int .u8 0, .int .u8 6, .int .u32 (t : Nat), .int .u16 (st : Nat), .int .u16 0, .int .u32 (pp : Nat), .int .u32 0, .int .u32 0, .int .u16 0, .int .u16 0, .slice none 0 0, .slice none 0 0, .slice none 0 0, .slice da (e - at_) dc] := (show Stc ((V.setCell ⟨bq, 1, none⟩ (.int .u8 4)).setCell ⟨bq, 1, none⟩ (.int .u8 6)) bq [.int .u8 0, .int .u8 6, .int .u32 (t : Nat), .int .u16 (st : Nat), .int .u16 0, .int .u32 (pp : Nat), .int .u32 0, .int .u32 0, .int .u16 0, .int .u16 0, .slice none 0 0, .slice none 0 0, .slice none 0 0, .slice da (e - at_) dc] from ((HS5.out.set 1 (.int .u8 4)).set 1 (.int .u8 6))).range
            have hf9 : Fr (fun g => g = bq) V ((V.setCell ⟨bq, 1, none⟩ (.int .u8 4)).setCell ⟨bq, 1, none⟩ (.int .u8 6)) := ((Fr.setCell (fun g => g = bq) V ⟨bq, 1, none⟩ (.int .u8 4) rfl).trans (Fr.setCell (fun g => g = bq) (V.setCell ⟨bq, 1, none⟩ (.int .u8 4)) ⟨bq, 1, none⟩ (.int .u8 6) rfl))
            have hsz : ((V.setCell ⟨bq, 1, none⟩ (.int .u8 4)).setCell ⟨bq, 1, none⟩ (.int .u8 6)).heap.size = V.heap.size := by simp [World.setCell]
            have hF : 6 = pzF ⟨st, ss, pp, true, zs⟩ size k := by
              obtain ⟨hl1, hl2, hl3, hl4⟩ := HLEN.out
              have hA0 := HA.out
              have hK0 := HK0.out
              have hk1 : (k + 1) * size = at_ + size := by rw [Nat.add_mul, ← hl1]; omega
              have hk0 : k = 0 ↔ at_ = 0 := by rw [hl1]; exact ⟨fun e => by rw [e]; omega, fun e => by rcases Nat.mul_eq_zero.1 e with e | e <;> omega⟩
              unfold pzF
              dsimp only
              rw [if_pos (by decide), if_pos (by omega), if_neg (by omega)]
            obtain ⟨g7, c7, w7, hr7, hp7, hb7⟩ := HPL.out.step HBS.out.1 hB5 hQ5.1 HPD.out hO5 hJ5 hf9 HBS.out.2 (F := 6) (S := 0) hF (HSS0.out rfl).symm
            rw [hsz, ← HTT.out.1] at hr7
            have HP7 : Hid (PzI w ⟨st, ss, pp, true, zs⟩ size t0 n (k + 1) t2 (at_ + size) (some ⟨g7, 0, none⟩) c7 [.int .u16 (st : Nat), .int .u16 (ss : Nat), .int .u32 (pp : Nat), .bool true, .slice (some ⟨mb, mo, none⟩) n c] w7) := HNEXT.out _ _ _ _ hp7 hb7 rfl
            clear hF hf9 hsz hp7 hb7 hO5 hJ5
            go_wp2_with (first | (refine wpList_load_mid rfl 47 _ rfl bq 0 rfl [.int .u8 0, .int .u8 6, .int .u32 (t : Nat), .int .u16 (st : Nat), .int .u16 0, .int .u32 (pp : Nat), .int .u32 0, .int .u32 0, .int .u16 0, .int .u16 0, .slice none 0 0, .slice none 0 0, .slice none 0 0, .slice da (e - at_) dc] _ hrg Try.underlying47 rfl (ch_size _ rfl) ?_) | (at_builtin; refine app_eq_list rfl _ _ rfl rfl rfl rfl hr7 ?_))
            clear hr7 hrg
            go_wp2
            go_roundw
            case rel => exact ⟨k + 1, t2, at_ + size, _, _, (congrArg (Value.int .u32) HTT.out.2), rfl, (congrArg (Value.int .i64) (by have := HK0.out; have := HA.out; omega)), HP7.out⟩
            case measure => simp [intOf]; omega
          · have g0 : ¬ (at_ : Int) = 0 := by omega
            have HK0 := (show Hid _ from hk0)
            have hrg : (V.setCell ⟨bq, 1, none⟩ (.int .u8 4)).rangeAt bq 0 [.int .u8 0, .int .u8 4, .int .u32 (t : Nat), .int .u16 (st : Nat), .int .u16 0, .int .u32 (pp : Nat), .int .u32 0, .int .u32 0, .int .u16 0, .int .u16 0, .slice none 0 0, .slice none 0 0, .slice none 0 0, .slice da (e - at_) dc] := (show Stc (V.setCell ⟨bq, 1, none⟩ (.int .u8 4)) bq [.int .u8 0, .int .u8 4, .int .u32 (t : Nat), .int .u16 (st : Nat), .int .u16 0, .int .u32 (pp : Nat), .int .u32 0, .int .u32 0, .int .u16 0, .int .u16 0, .slice none 0 0, .slice none 0 0, .slice none 0 0, .slice da (e - at_) dc] from (HS5.out.set 1 (.int .u8 4))).range
            have hf9 : Fr (fun g => g = bq) V (V.setCell ⟨bq, 1, none⟩ (.int .u8 4)) := (Fr.setCell (fun g => g = bq) V ⟨bq, 1, none⟩ (.int .u8 4) rfl)
            have hsz : (V.setCell ⟨bq, 1, none⟩ (.int .u8 4)).heap.size = V.heap.size := by simp [World.setCell]
            have hF : 4 = pzF ⟨st, ss, pp, true, zs⟩ size k := by
              obtain ⟨hl1, hl2, hl3, hl4⟩ := HLEN.out
              have hA0 := HA.out
              have hK0 := HK0.out
              have hk1 : (k + 1) * size = at_ + size := by rw [Nat.add_mul, ← hl1]; omega
              have hk0 : k = 0 ↔ at_ = 0 := by rw [hl1]; exact ⟨fun e => by rw [e]; omega, fun e => by rcases Nat.mul_eq_zero.1 e with e | e <;> omega⟩
              unfold pzF
              dsimp only
              rw [if_pos (by decide), if_neg (by omega), if_neg (by omega)]
            obtain ⟨g7, c7, w7, hr7, hp7, hb7⟩ := HPL.out.step HBS.out.1 hB5 hQ5.1 HPD.out hO5 hJ5 hf9 HBS.out.2 (F := 4) (S := 0) hF (HSS0.out rfl).symm
            rw [hsz, ← HTT.out.1] at hr7
            have HP7 : Hid (PzI w ⟨st, ss, pp, true, zs⟩ size t0 n (k + 1) t2 (at_ + size) (some ⟨g7, 0, none⟩) c7 [.int .u16 (st : Nat), .int .u16 (ss : Nat), .int .u32 (pp : Nat), .bool true, .slice (some ⟨mb, mo, none⟩) n c] w7) := HNEXT.out _ _ _ _ hp7 hb7 rfl
            clear hF hf9 hsz hp7 hb7 hO5 hJ5
            go_wp2_with (first | (refine wpList_load_mid rfl 47 _ rfl bq 0 rfl [.int .u8 0, .int .u8 4, .int .u32 (t : Nat), .int .u16 (st : Nat), .int .u16 0, .int .u32 (pp : Nat), .int .u32 0, .int .u32 0, .int .u16 0, .int .u16 0, .slice none 0 0, .slice none 0 0, .slice none 0 0, .slice da (e - at_) dc] _ hrg Try.underlying47 rfl (ch_size _ rfl) ?_) | (at_builtin; refine app_eq_list rfl _ _ rfl rfl rfl rfl hr7 ?_))
            clear hr7 hrg
            go_wp2
            go_roundw
            case rel => exact ⟨k + 1, t2, at_ + size, _, _, (congrArg (Value.int .u32) HTT.out.2), rfl, (congrArg (Value.int .i64) (by have := HK0.out; have := HA.out; omega)), HP7.out⟩
            case measure => simp [intOf]; omega
    · have hlt1 : ¬ (at_ : Int) < (n : Int) := by omega
      have HEND : Hid (PzP w ⟨st, ss, pp, fr, zs⟩ size t0 (.returned (.slice ra k rc)) wr) := ⟨⟨k, ra, rc, rfl, hI.pz.base (by omega), by have := HNN.out; dsimp only; omega, by rcases hI.k1 with e | e; (subst e; omega); (have := HNN.out; dsimp only; omega), by rcases Nat.eq_zero_or_pos k with e | e; (subst e; omega); exact e⟩, hI.bel⟩
      go_wp2
      go_ret
      exact HEND.out
end Go.Proofs.Ytjaheelgcjafcaa
