/- Whatever scripts: the walk of law15.PathForks ends with true. -/
import Derived.Test.YteobibinfckmdabPtPlay
namespace Go.Proofs.Yteobibinfckmdab
open Go.RowKit
structure PfP (w : World) (s : Ps) (e : Ending) (w' : World) : Prop where
  out : ∃ p, e = .returned (.pointer (some ⟨p, 0, none⟩)) ∧ w.heap.size ≤ p ∧ Stc w' p s.cs
  bel : Below w.heap.size w w'
set_option maxHeartbeats 1000000 in
theorem fork_any (p : Nat) (s : Ps) (w : World) (h : Stc w p s.cs) :
    Calls Try.prog 6 #[.pointer (some ⟨p, 0, none⟩)] w (PfP w s) := by
  have c0 := h.cell 0 _ rfl
  have c1 := h.cell 1 _ rfl
  have c2 := h.cell 2 _ rfl
  have c3 := h.cell 3 _ rfl
  have c4 := h.cell 4 _ rfl
  have c5 := h.cell 5 _ rfl
  have c6 := h.cell 6 _ rfl
  have c7 := h.cell 7 _ rfl
  have c8 := h.cell 8 _ rfl
  have c9 := h.cell 9 _ rfl
  have c10 := h.cell 10 _ rfl
  have c11 := h.cell 11 _ rfl
  have c12 := h.cell 12 _ rfl
  have c13 := h.cell 13 _ rfl
  have hlt := h.lt
  go_enter Try.func6, Try.ntmps6
  go_wp2
  go_ret
  exact ⟨⟨w.heap.size, rfl, Nat.le_refl _, Stc.new w s.cs _ _ rfl⟩, (Below.refl _ _).alloc (Nat.le_refl _) _⟩
set_option maxHeartbeats 1000000 in
theorem rfork_any (p : Nat) (s : Ps) (w : World) (h : Stc w p s.cs) :
    Calls Try.prog 7 #[.pointer (some ⟨p, 0, none⟩)] w (PfP w s) := by
  have c0 := h.cell 0 _ rfl
  have c1 := h.cell 1 _ rfl
  have c2 := h.cell 2 _ rfl
  have c3 := h.cell 3 _ rfl
  have c4 := h.cell 4 _ rfl
  have c5 := h.cell 5 _ rfl
  have c6 := h.cell 6 _ rfl
  have c7 := h.cell 7 _ rfl
  have c8 := h.cell 8 _ rfl
  have c9 := h.cell 9 _ rfl
  have c10 := h.cell 10 _ rfl
  have c11 := h.cell 11 _ rfl
  have c12 := h.cell 12 _ rfl
  have c13 := h.cell 13 _ rfl
  have hlt := h.lt
  go_enter Try.func7, Try.ntmps7
  go_wp2
  go_ret
  exact ⟨⟨w.heap.size, rfl, Nat.le_refl _, Stc.new w s.cs _ _ rfl⟩, (Below.refl _ _).alloc (Nat.le_refl _) _⟩
theorem Bt.fr {P : Nat → Prop} {w w' : World} {B p q k : Nat} {s t : Ps} (h : Bt w B p q k s t) (hf : Fr P w w') (h1 : ¬ P p) (h2 : ¬ P q) : Bt w' B p q k s t :=
  ⟨h.x.fr hf h1, h.y.fr hf h2, h.ne, h.bp, h.bq, h.kx, h.ky, h.al⟩
structure Fk (w : World) (p q f g j : Nat) (s t s3 t3 : Ps) (W : World) : Prop where
  b : Bt W w.heap.size p q 200 s t
  c : Bt W w.heap.size f g (200 + j) s3 t3
  bel : Below w.heap.size w W
theorem Fk.next {w : World} {p q f g j : Nat} {s t s3 t3 : Ps} {W W' : World} (h : Fk w p q f g j s t s3 t3 W) (hb : Below W.heap.size W W') : Fk w p q f g j s t s3 t3 W' := ⟨h.b.below hb, h.c.below hb, h.bel.trans (hb.mono h.bel.size)⟩
set_option maxRecDepth 100000 in
set_option maxHeartbeats 4000000 in
theorem walk_PathForks (a : Option Addr) (n c : Nat) (dd : List Pd) (a2 : Option Addr) (n2 c2 : Nat) (dd2 : List Pd) (w : World) (hl : SlP w a n c dd) (hl2 : SlP w a2 n2 c2 dd2) :
    Calls Try.prog 3 #[.slice a n c, .slice a2 n2 c2] w fun e w' => e = .returned (.bool true) ∧ Below w.heap.size w w' := by
  have hlen := hl2.len
  have hsm := hl2.small
  go_enter Try.func3, Try.ntmps3
  go_wp2_with fail
  refine (play_any 700 a n c dd w (by omega) (by omega) hl _ rfl).mono ?_
  rintro e w1 ⟨⟨p, q, s, t, rfl, hB⟩, hb1⟩
  go_wp2_with fail
  refine (fork_any p s w1 hB.x).mono ?_
  rintro e w2 ⟨⟨f, rfl, hf, hF2⟩, hb2⟩
  have hB2 := hB.below hb2
  go_wp2_with fail
  refine (rfork_any q t w2 hB2.y).mono ?_
  rintro e w3 ⟨⟨g, rfl, hg, hG3⟩, hb3⟩
  have hB3 := hB2.below hb3
  have hbel3 : Below w.heap.size w w3 := (hb1.trans (hb2.mono hb1.size)).trans (hb3.mono (Nat.le_trans hb1.size hb2.size))
  have hfl := hF2.lt
  have hpl := hB.x.lt
  have hql := hB.y.lt
  have hz1 := hb1.size
  have hz2 := hb2.size
  have hC3 : Bt w3 w.heap.size f g 200 s t := ⟨hF2.below hb3, hG3, by omega, by omega, by omega, hB.kx, hB.ky, hB.al⟩
  have npf : p ≠ f := by omega
  have npg : p ≠ g := by omega
  have nqf : q ≠ f := by omega
  have nqg : q ≠ g := by omega
  have hbf : w.heap.size ≤ f := by omega
  have hbg : w.heap.size ≤ g := by omega
  clear hB hB2 hF2 hG3 hb1 hb2 hb3 hfl hpl hql hz1 hz2 hf hg
  go_wp2
  go_loopw [10] (fun iv wr => ∃ (i : Nat) (s3 t3 : Ps), iv = .int .i64 (i : Nat) ∧ i ≤ n2 ∧ i ≤ 200 ∧ Bt wr w.heap.size f g (200 + i) s3 t3 ∧ Bt wr w.heap.size p q 200 s t ∧ Below w.heap.size w wr) (fun iv _ => n2 - (intOf iv).toNat)
  case atStart => exact ⟨0, s, t, rfl, by omega, by omega, hC3, hB3, hbel3⟩
  case round =>
    obtain ⟨j, s3, t3, rfl, hjn, hj200, hC, hB, hbel⟩ := hrel
    clear hC3 hB3 hbel3
    by_cases hjl : j < n2 ∧ j < 200
    · obtain ⟨hjl, hjk⟩ := hjl
      obtain ⟨x, hx⟩ : ∃ x, dd2[j]? = some x := ⟨_, List.getElem?_eq_getElem (by omega)⟩
      have hxm := List.mem_of_getElem? hx
      have hwf := hl2.wf x hxm
      rcases hl2.at_ with h0 | ⟨lb, off, rfl, hlt, hcell⟩
      · omega
      have k0 := (hbel.cell (p := ⟨lb, off + j * 5, none⟩) hlt).trans (hcell j x hx 0 _ rfl)
      have k1 := (hbel.cell (p := ⟨lb, off + j * 5 + 1, none⟩) hlt).trans (hcell j x hx 1 _ rfl)
      have k2 := (hbel.cell (p := ⟨lb, off + j * 5 + 2, none⟩) hlt).trans (hcell j x hx 2 _ rfl)
      have k3 := (hbel.cell (p := ⟨lb, off + j * 5 + 3, none⟩) hlt).trans (hcell j x hx 3 _ rfl)
      have k4 := (hbel.cell (p := ⟨lb, off + j * 5 + 4, none⟩) hlt).trans (hcell j x hx 4 _ rfl)
      have hj1 : (j : Int) < (n2 : Int) := by omega
      have hj2 : (j : Int) < 200 := by omega
      have hdo : ∀ W, Below wr.heap.size wr W → Calls Try.prog 8 #[.pointer (some ⟨f, 0, none⟩), .pointer (some ⟨g, 0, none⟩), .agg #[.int .i64 x.op, .int .i64 x.a, .int .i64 x.b, .bool x.moved, .int .u64 (x.nonce : Nat)]] W (PdP w.heap.size f g (200 + j) s3.mtu W) := fun W hW =>
        do_any _ f g (200 + j) s3 t3 x.op x.a x.b x.moved x.nonce W (hC.below hW) (by omega) hwf.2.2.2
      clear hcell hwf hC
      go_wp2_with fail
      refine (hdo _ (by first | exact Below.refl _ _ | exact (Below.refl _ _).drew)).mono ?_
      intro e w4 hP
      have hbel4 := hP.bel hbel hbf hbg
      obtain ⟨rfl, ⟨s4, t4, hC4, _⟩, hfr⟩ := hP
      have hB4 := hB.fr hfr (fun e => e.elim npf npg) (fun e => e.elim nqf nqg)
      have HC := (show Hid _ from hC4)
      have HB := (show Hid _ from hB4)
      clear hdo hbel k0 k1 k2 k3 k4 hB hfr hC4 hB4
      go_wp2
      go_roundw
      case rel => exact ⟨j + 1, s4, t4, by go_num, by omega, by omega, HC.out, HB.out, hbel4⟩
      case measure => simp [intOf]; omega
    · by_cases hjl2 : j < n2
      · have hj1 : (j : Int) < (n2 : Int) := by omega
        have hj2 : ¬ (j : Int) < 200 := by omega
        have hC0 : Fk w p q f g j s t s3 t3 wr := ⟨hB, hC, hbel⟩
        have HALL : Hid (∀ w', Fk w p q f g j s t s3 t3 w' → w'.cell? ⟨q, 0, none⟩ = some (.int .i64 s.win) ∧ w'.cell? ⟨q, 1, none⟩ = some (.int .i64 s.slow) ∧ w'.cell? ⟨q, 2, none⟩ = some (.int .i64 s.part) ∧ w'.cell? ⟨q, 3, none⟩ = some (.int .i64 s.rto) ∧ w'.cell? ⟨q, 4, none⟩ = some (.int .i64 s.mean) ∧ w'.cell? ⟨q, 5, none⟩ = some (.int .i64 s.spread) ∧ w'.cell? ⟨q, 6, none⟩ = some (.int .i64 s.faults) ∧ w'.cell? ⟨q, 7, none⟩ = some (.bool s.up) ∧ w'.cell? ⟨q, 8, none⟩ = some (.bool s.sure) ∧ w'.cell? ⟨g, 0, none⟩ = some (.int .i64 s3.win) ∧ w'.cell? ⟨g, 1, none⟩ = some (.int .i64 s3.slow) ∧ w'.cell? ⟨g, 2, none⟩ = some (.int .i64 s3.part) ∧ w'.cell? ⟨g, 3, none⟩ = some (.int .i64 s3.rto) ∧ w'.cell? ⟨g, 4, none⟩ = some (.int .i64 s3.mean) ∧ w'.cell? ⟨g, 5, none⟩ = some (.int .i64 s3.spread) ∧ w'.cell? ⟨g, 6, none⟩ = some (.int .i64 s3.faults) ∧ w'.cell? ⟨g, 7, none⟩ = some (.bool s3.up) ∧ w'.cell? ⟨g, 8, none⟩ = some (.bool s3.sure)) := fun w' h => ⟨h.b.y0, h.b.y1, h.b.y2, h.b.y3, h.b.y4, h.b.y5, h.b.y6, h.b.y7, h.b.y8, h.c.y0, h.c.y1, h.c.y2, h.c.y3, h.c.y4, h.c.y5, h.c.y6, h.c.y7, h.c.y8⟩
        have hsp : ∀ V V', Fk w p q f g j s t s3 t3 V → Below V.heap.size V V' → ∀ v, v = .pointer (some ⟨p, 0, none⟩) → Calls Try.prog 10 #[v] V' fun e w' => e = .returned (.agg #[.int .i64 s.win, .int .i64 s.slow, .int .i64 s.part, .int .i64 s.rto, .int .i64 s.mean, .int .i64 s.spread, .int .i64 s.faults, .bool s.up, .bool s.sure]) ∧ Fk w p q f g j s t s3 t3 w' := by
          intro V V' hV hb v hv
          subst hv
          refine (stands_any p s V' (hV.next hb).b.x).mono ?_
          rintro e w' ⟨h1, h2⟩
          exact ⟨h1, (hV.next hb).next h2⟩
        have hsf : ∀ V V', Fk w p q f g j s t s3 t3 V → Below V.heap.size V V' → ∀ v, v = .pointer (some ⟨f, 0, none⟩) → Calls Try.prog 10 #[v] V' fun e w' => e = .returned (.agg #[.int .i64 s3.win, .int .i64 s3.slow, .int .i64 s3.part, .int .i64 s3.rto, .int .i64 s3.mean, .int .i64 s3.spread, .int .i64 s3.faults, .bool s3.up, .bool s3.sure]) ∧ Fk w p q f g j s t s3 t3 w' := by
          intro V V' hV hb v hv
          subst hv
          refine (stands_any f s3 V' (hV.next hb).c.x).mono ?_
          rintro e w' ⟨h1, h2⟩
          exact ⟨h1, (hV.next hb).next h2⟩
        clear hB hC hbel
        go_wp2_with fail
        have hC' := hC0.next (Below.refl _ _).drew
        clear hC0
        obtain ⟨d0, d1, d2, d3, d4, d5, d6, d7, d8, dd0, dd1, dd2, dd3, dd4, dd5, dd6, dd7, dd8⟩ := HALL.out _ hC'
        go_region_held3 (fun w' => w'.cell? ⟨q, 0, none⟩ = some (.int .i64 s.win) ∧ w'.cell? ⟨q, 1, none⟩ = some (.int .i64 s.slow) ∧ w'.cell? ⟨q, 2, none⟩ = some (.int .i64 s.part) ∧ w'.cell? ⟨q, 3, none⟩ = some (.int .i64 s.rto) ∧ w'.cell? ⟨q, 4, none⟩ = some (.int .i64 s.mean) ∧ w'.cell? ⟨q, 5, none⟩ = some (.int .i64 s.spread) ∧ w'.cell? ⟨q, 6, none⟩ = some (.int .i64 s.faults) ∧ w'.cell? ⟨q, 7, none⟩ = some (.bool s.up) ∧ w'.cell? ⟨q, 8, none⟩ = some (.bool s.sure) ∧ w'.cell? ⟨g, 0, none⟩ = some (.int .i64 s3.win) ∧ w'.cell? ⟨g, 1, none⟩ = some (.int .i64 s3.slow) ∧ w'.cell? ⟨g, 2, none⟩ = some (.int .i64 s3.part) ∧ w'.cell? ⟨g, 3, none⟩ = some (.int .i64 s3.rto) ∧ w'.cell? ⟨g, 4, none⟩ = some (.int .i64 s3.mean) ∧ w'.cell? ⟨g, 5, none⟩ = some (.int .i64 s3.spread) ∧ w'.cell? ⟨g, 6, none⟩ = some (.int .i64 s3.faults) ∧ w'.cell? ⟨g, 7, none⟩ = some (.bool s3.up) ∧ w'.cell? ⟨g, 8, none⟩ = some (.bool s3.sure)) (first | exact ⟨by assumption, by assumption, by assumption, by assumption, by assumption, by assumption, by assumption, by assumption, by assumption, by assumption, by assumption, by assumption, by assumption, by assumption, by assumption, by assumption, by assumption, by assumption⟩ | fail) (first
          | (go_at_call 9; refine (live15_any _).mono ?_; rintro e wl ⟨rfl, hbl⟩; have hC' := (hC'.next (by first | exact Below.refl _ _ | exact (Below.refl _ _).drew)).next hbl; obtain ⟨e0, e1, e2, e3, e4, e5, e6, e7, e8, ee0, ee1, ee2, ee3, ee4, ee5, ee6, ee7, ee8⟩ := HALL.out _ hC')
          | (go_at_call 10; first
              | (refine (hsp _ _ hC' (by first | exact Below.refl _ _ | exact (Below.refl _ _).drew) _ (by rfl)).mono ?_; rintro e ws ⟨rfl, hC'⟩; obtain ⟨m0, m1, m2, m3, m4, m5, m6, m7, m8, mm0, mm1, mm2, mm3, mm4, mm5, mm6, mm7, mm8⟩ := HALL.out _ hC')
              | (refine (hsf _ _ hC' (by first | exact Below.refl _ _ | exact (Below.refl _ _).drew) _ (by rfl)).mono ?_; rintro e wt ⟨rfl, hC'⟩; obtain ⟨o0, o1, o2, o3, o4, o5, o6, o7, o8, oo0, oo1, oo2, oo3, oo4, oo5, oo6, oo7, oo8⟩ := HALL.out _ hC')
              | fail)
          | fail)
        all_goals
          have HBL := (show Hid _ from hC'.bel)
          clear hC'
          go_wp2
          go_ret
          exact ⟨rfl, HBL.out⟩
      · have hj1 : ¬ (j : Int) < (n2 : Int) := by omega
        have hC0 : Fk w p q f g j s t s3 t3 wr := ⟨hB, hC, hbel⟩
        have HALL : Hid (∀ w', Fk w p q f g j s t s3 t3 w' → w'.cell? ⟨q, 0, none⟩ = some (.int .i64 s.win) ∧ w'.cell? ⟨q, 1, none⟩ = some (.int .i64 s.slow) ∧ w'.cell? ⟨q, 2, none⟩ = some (.int .i64 s.part) ∧ w'.cell? ⟨q, 3, none⟩ = some (.int .i64 s.rto) ∧ w'.cell? ⟨q, 4, none⟩ = some (.int .i64 s.mean) ∧ w'.cell? ⟨q, 5, none⟩ = some (.int .i64 s.spread) ∧ w'.cell? ⟨q, 6, none⟩ = some (.int .i64 s.faults) ∧ w'.cell? ⟨q, 7, none⟩ = some (.bool s.up) ∧ w'.cell? ⟨q, 8, none⟩ = some (.bool s.sure) ∧ w'.cell? ⟨g, 0, none⟩ = some (.int .i64 s3.win) ∧ w'.cell? ⟨g, 1, none⟩ = some (.int .i64 s3.slow) ∧ w'.cell? ⟨g, 2, none⟩ = some (.int .i64 s3.part) ∧ w'.cell? ⟨g, 3, none⟩ = some (.int .i64 s3.rto) ∧ w'.cell? ⟨g, 4, none⟩ = some (.int .i64 s3.mean) ∧ w'.cell? ⟨g, 5, none⟩ = some (.int .i64 s3.spread) ∧ w'.cell? ⟨g, 6, none⟩ = some (.int .i64 s3.faults) ∧ w'.cell? ⟨g, 7, none⟩ = some (.bool s3.up) ∧ w'.cell? ⟨g, 8, none⟩ = some (.bool s3.sure)) := fun w' h => ⟨h.b.y0, h.b.y1, h.b.y2, h.b.y3, h.b.y4, h.b.y5, h.b.y6, h.b.y7, h.b.y8, h.c.y0, h.c.y1, h.c.y2, h.c.y3, h.c.y4, h.c.y5, h.c.y6, h.c.y7, h.c.y8⟩
        have hsp : ∀ V V', Fk w p q f g j s t s3 t3 V → Below V.heap.size V V' → ∀ v, v = .pointer (some ⟨p, 0, none⟩) → Calls Try.prog 10 #[v] V' fun e w' => e = .returned (.agg #[.int .i64 s.win, .int .i64 s.slow, .int .i64 s.part, .int .i64 s.rto, .int .i64 s.mean, .int .i64 s.spread, .int .i64 s.faults, .bool s.up, .bool s.sure]) ∧ Fk w p q f g j s t s3 t3 w' := by
          intro V V' hV hb v hv
          subst hv
          refine (stands_any p s V' (hV.next hb).b.x).mono ?_
          rintro e w' ⟨h1, h2⟩
          exact ⟨h1, (hV.next hb).next h2⟩
        have hsf : ∀ V V', Fk w p q f g j s t s3 t3 V → Below V.heap.size V V' → ∀ v, v = .pointer (some ⟨f, 0, none⟩) → Calls Try.prog 10 #[v] V' fun e w' => e = .returned (.agg #[.int .i64 s3.win, .int .i64 s3.slow, .int .i64 s3.part, .int .i64 s3.rto, .int .i64 s3.mean, .int .i64 s3.spread, .int .i64 s3.faults, .bool s3.up, .bool s3.sure]) ∧ Fk w p q f g j s t s3 t3 w' := by
          intro V V' hV hb v hv
          subst hv
          refine (stands_any f s3 V' (hV.next hb).c.x).mono ?_
          rintro e w' ⟨h1, h2⟩
          exact ⟨h1, (hV.next hb).next h2⟩
        clear hB hC hbel
        go_wp2_with fail
        have hC' := hC0.next (Below.refl _ _).drew
        clear hC0
        obtain ⟨d0, d1, d2, d3, d4, d5, d6, d7, d8, dd0, dd1, dd2, dd3, dd4, dd5, dd6, dd7, dd8⟩ := HALL.out _ hC'
        go_region_held3 (fun w' => w'.cell? ⟨q, 0, none⟩ = some (.int .i64 s.win) ∧ w'.cell? ⟨q, 1, none⟩ = some (.int .i64 s.slow) ∧ w'.cell? ⟨q, 2, none⟩ = some (.int .i64 s.part) ∧ w'.cell? ⟨q, 3, none⟩ = some (.int .i64 s.rto) ∧ w'.cell? ⟨q, 4, none⟩ = some (.int .i64 s.mean) ∧ w'.cell? ⟨q, 5, none⟩ = some (.int .i64 s.spread) ∧ w'.cell? ⟨q, 6, none⟩ = some (.int .i64 s.faults) ∧ w'.cell? ⟨q, 7, none⟩ = some (.bool s.up) ∧ w'.cell? ⟨q, 8, none⟩ = some (.bool s.sure) ∧ w'.cell? ⟨g, 0, none⟩ = some (.int .i64 s3.win) ∧ w'.cell? ⟨g, 1, none⟩ = some (.int .i64 s3.slow) ∧ w'.cell? ⟨g, 2, none⟩ = some (.int .i64 s3.part) ∧ w'.cell? ⟨g, 3, none⟩ = some (.int .i64 s3.rto) ∧ w'.cell? ⟨g, 4, none⟩ = some (.int .i64 s3.mean) ∧ w'.cell? ⟨g, 5, none⟩ = some (.int .i64 s3.spread) ∧ w'.cell? ⟨g, 6, none⟩ = some (.int .i64 s3.faults) ∧ w'.cell? ⟨g, 7, none⟩ = some (.bool s3.up) ∧ w'.cell? ⟨g, 8, none⟩ = some (.bool s3.sure)) (first | exact ⟨by assumption, by assumption, by assumption, by assumption, by assumption, by assumption, by assumption, by assumption, by assumption, by assumption, by assumption, by assumption, by assumption, by assumption, by assumption, by assumption, by assumption, by assumption⟩ | fail) (first
          | (go_at_call 9; refine (live15_any _).mono ?_; rintro e wl ⟨rfl, hbl⟩; have hC' := (hC'.next (by first | exact Below.refl _ _ | exact (Below.refl _ _).drew)).next hbl; obtain ⟨e0, e1, e2, e3, e4, e5, e6, e7, e8, ee0, ee1, ee2, ee3, ee4, ee5, ee6, ee7, ee8⟩ := HALL.out _ hC')
          | (go_at_call 10; first
              | (refine (hsp _ _ hC' (by first | exact Below.refl _ _ | exact (Below.refl _ _).drew) _ (by rfl)).mono ?_; rintro e ws ⟨rfl, hC'⟩; obtain ⟨m0, m1, m2, m3, m4, m5, m6, m7, m8, mm0, mm1, mm2, mm3, mm4, mm5, mm6, mm7, mm8⟩ := HALL.out _ hC')
              | (refine (hsf _ _ hC' (by first | exact Below.refl _ _ | exact (Below.refl _ _).drew) _ (by rfl)).mono ?_; rintro e wt ⟨rfl, hC'⟩; obtain ⟨o0, o1, o2, o3, o4, o5, o6, o7, o8, oo0, oo1, oo2, oo3, oo4, oo5, oo6, oo7, oo8⟩ := HALL.out _ hC')
              | fail)
          | fail)
        all_goals
          have HBL := (show Hid _ from hC'.bel)
          clear hC'
          go_wp2
          go_ret
          exact ⟨rfl, HBL.out⟩
end Go.Proofs.Yteobibinfckmdab
