/- law15.play: a script on both ways. -/
import Derived.Test.YteobibinfckmdaaPtDo2
import Derived.Test.YteobibinfckmdaaDeedP
import Derived.Test.YteobibinfckmdaaPtLive
namespace Go.Proofs.Yteobibinfckmdaa
open Go.RowKit
structure PlP (w0 : World) (e : Ending) (w' : World) : Prop where
  out : ∃ p q s t, e = .returned (.tuple #[.pointer (some ⟨p, 0, none⟩), .pointer (some ⟨q, 0, none⟩), .bool true]) ∧ Bt w' w0.heap.size p q 200 s t
  bel : Below w0.heap.size w0 w'
theorem PdP.bel {B p q k : Nat} {m : Int} {w0 w w' : World} {e : Ending} (h : PdP B p q k m w e w') (hb : Below w0.heap.size w0 w) (hp : w0.heap.size ≤ p) (hq : w0.heap.size ≤ q) : Below w0.heap.size w0 w' :=
  hb.trans (h.fr.below w0.heap.size hb.size (fun k hk => by omega))
theorem Bt.up_ {w : World} {B p q k j : Nat} {s t : Ps} (h : Bt w B p q k s t) (hj : k ≤ j) : Bt w B p q j s t := ⟨h.x, h.y, h.ne, h.bp, h.bq, h.kx.up_ hj, h.ky.up_ hj, h.al⟩
theorem Bt.y0 {w : World} {B p q k : Nat} {s t : Ps} (h : Bt w B p q k s t) : w.cell? ⟨q, 0, none⟩ = some (.int .i64 s.win) := by rw [← h.al.way.1]; exact h.y.cell 0 _ rfl
theorem Bt.y1 {w : World} {B p q k : Nat} {s t : Ps} (h : Bt w B p q k s t) : w.cell? ⟨q, 1, none⟩ = some (.int .i64 s.slow) := by rw [← h.al.way.2.1]; exact h.y.cell 1 _ rfl
theorem Bt.y2 {w : World} {B p q k : Nat} {s t : Ps} (h : Bt w B p q k s t) : w.cell? ⟨q, 2, none⟩ = some (.int .i64 s.part) := by rw [← h.al.way.2.2.1]; exact h.y.cell 2 _ rfl
theorem Bt.y3 {w : World} {B p q k : Nat} {s t : Ps} (h : Bt w B p q k s t) : w.cell? ⟨q, 3, none⟩ = some (.int .i64 s.rto) := by rw [← h.al.way.2.2.2.1]; exact h.y.cell 3 _ rfl
theorem Bt.y4 {w : World} {B p q k : Nat} {s t : Ps} (h : Bt w B p q k s t) : w.cell? ⟨q, 4, none⟩ = some (.int .i64 s.mean) := by rw [← h.al.way.2.2.2.2.1]; exact h.y.cell 4 _ rfl
theorem Bt.y5 {w : World} {B p q k : Nat} {s t : Ps} (h : Bt w B p q k s t) : w.cell? ⟨q, 5, none⟩ = some (.int .i64 s.spread) := by rw [← h.al.way.2.2.2.2.2.1]; exact h.y.cell 5 _ rfl
theorem Bt.y6 {w : World} {B p q k : Nat} {s t : Ps} (h : Bt w B p q k s t) : w.cell? ⟨q, 6, none⟩ = some (.int .i64 s.faults) := by rw [← h.al.way.2.2.2.2.2.2.1]; exact h.y.cell 6 _ rfl
theorem Bt.y7 {w : World} {B p q k : Nat} {s t : Ps} (h : Bt w B p q k s t) : w.cell? ⟨q, 7, none⟩ = some (.bool s.up) := by rw [← h.al.way.2.2.2.2.2.2.2.1]; exact h.y.cell 7 _ rfl
theorem Bt.y8 {w : World} {B p q k : Nat} {s t : Ps} (h : Bt w B p q k s t) : w.cell? ⟨q, 8, none⟩ = some (.bool s.sure) := by rw [← h.al.way.2.2.2.2.2.2.2.2]; exact h.y.cell 8 _ rfl
set_option maxRecDepth 100000 in
set_option maxHeartbeats 2000000 in
theorem play_no (m : Int) (a : Option Addr) (ln c : Nat) (w : World) (h : m < 64 ∨ 1500 < m) :
    Calls Try.prog 9 #[.int .i64 m, .slice a ln c] w fun e w' => e = .returned (.tuple #[.pointer none, .pointer none, .bool true]) ∧ Below w.heap.size w w' := by
  go_enter Try.func9, Try.ntmps9
  go_wp2_with fail
  refine (pnew_no m w h).mono ?_
  rintro e w1 ⟨rfl, hb1⟩
  go_wp2_with fail
  refine (rpnew_no m w1 h).mono ?_
  rintro e w2 ⟨rfl, hb2⟩
  have HB := (show Hid _ from hb1.trans (hb2.mono hb1.size))
  clear hb1 hb2
  go_wp2
  go_loopw [11] (fun iv wr => wr = w2 ∧ iv = .int .i64 0) (fun _ _ => 0)
  case atStart => exact ⟨rfl, rfl⟩
  case round =>
    obtain ⟨hw, rfl⟩ := hrel
    subst wr
    go_wp2
    go_ret3
    exact ⟨rfl, HB.out⟩
set_option maxRecDepth 100000 in
set_option maxHeartbeats 4000000 in
theorem play_any (m : Int) (a : Option Addr) (n c : Nat) (dd : List Pd) (w : World) (h1 : 64 ≤ m) (h2 : m ≤ 1500) (hl : SlP w a n c dd) (v : Value) (hv : v = .int .i64 m) :
    Calls Try.prog 9 #[v, .slice a n c] w (PlP w) := by
  subst hv
  have hlen := hl.len
  have hsm := hl.small
  go_enter Try.func9, Try.ntmps9
  go_wp2_with fail
  refine (pnew_any m w h1 h2 _ rfl).mono ?_
  rintro e w1 ⟨⟨p, rfl, hp, hX1⟩, hb1⟩
  go_wp2_with fail
  refine (rpnew_any m w1 h1 h2 _ rfl).mono ?_
  rintro e w2 ⟨⟨q, rfl, hq, hY2⟩, hb2⟩
  have hbel2 : Below w.heap.size w w2 := hb1.trans (hb2.mono hb1.size)
  have hB2 : Bt w2 w.heap.size p q 0 (psNew m) (psNew m) := ⟨hX1.below hb2, hY2, by have := hX1.lt; omega, hp, Nat.le_trans hb1.size hq, pok_new m h1 h2, pok_new m h1 h2, Al.refl _⟩
  clear hX1 hY2 hb1 hb2
  go_wp2
  go_loopw [11] (fun iv wr => ∃ (i : Nat) (s t : Ps), iv = .int .i64 (i : Nat) ∧ i ≤ n ∧ i ≤ 200 ∧ Bt wr w.heap.size p q i s t ∧ Below w.heap.size w wr) (fun iv _ => n - (intOf iv).toNat)
  case atStart => exact ⟨0, psNew m, psNew m, rfl, by omega, by omega, hB2, hbel2⟩
  case round =>
    obtain ⟨j, s, t, rfl, hjn, hj200, hB, hbel⟩ := hrel
    clear hB2 hbel2
    by_cases hjl : j < n ∧ j < 200
    · obtain ⟨hjl, hjk⟩ := hjl
      obtain ⟨x, hx⟩ : ∃ x, dd[j]? = some x := ⟨_, List.getElem?_eq_getElem (by omega)⟩
      have hxm := List.mem_of_getElem? hx
      have hwf := hl.wf x hxm
      rcases hl.at_ with h0 | ⟨lb, off, rfl, hlt, hcell⟩
      · omega
      have k0 := (hbel.cell (p := ⟨lb, off + j * 5, none⟩) hlt).trans (hcell j x hx 0 _ rfl)
      have k1 := (hbel.cell (p := ⟨lb, off + j * 5 + 1, none⟩) hlt).trans (hcell j x hx 1 _ rfl)
      have k2 := (hbel.cell (p := ⟨lb, off + j * 5 + 2, none⟩) hlt).trans (hcell j x hx 2 _ rfl)
      have k3 := (hbel.cell (p := ⟨lb, off + j * 5 + 3, none⟩) hlt).trans (hcell j x hx 3 _ rfl)
      have k4 := (hbel.cell (p := ⟨lb, off + j * 5 + 4, none⟩) hlt).trans (hcell j x hx 4 _ rfl)
      have hj1 : (j : Int) < (n : Int) := by omega
      have hj2 : (j : Int) < 200 := by omega
      have hdo : ∀ W, Below wr.heap.size wr W → Calls Try.prog 13 #[.pointer (some ⟨p, 0, none⟩), .pointer (some ⟨q, 0, none⟩), .agg #[.int .i64 x.op, .int .i64 x.a, .int .i64 x.b, .bool x.moved, .int .u64 (x.nonce : Nat)]] W (PdP w.heap.size p q j s.mtu W) := fun W hW =>
        do_any _ p q j s t x.op x.a x.b x.moved x.nonce W (hB.below hW) (by omega) hwf.2.2.2
      have HPB := (show Hid _ from And.intro hB.bp hB.bq)
      clear hcell hwf hB
      go_wp2
      go_region_with (first
        | (go_at_call 13; refine (hdo _ (by first | exact Below.refl _ _ | exact (Below.refl _ _).drew)).mono ?_; intro e w3 hP; have hbel3 := hP.bel (hbel.trans ((by first | exact Below.refl _ _ | exact (Below.refl _ _).drew : Below wr.heap.size wr _).mono hbel.size)) HPB.out.1 HPB.out.2; obtain ⟨rfl, ⟨s3, t3, hB3, _⟩, _⟩ := hP; have y0 := hB3.y0; have y1 := hB3.y1; have y2 := hB3.y2; have y3 := hB3.y3; have y4 := hB3.y4; have y5 := hB3.y5; have y6 := hB3.y6; have y7 := hB3.y7; have y8 := hB3.y8)
        | (go_at_call 14; refine (stands_any p s3 _ hB3.x).mono ?_; rintro e w4 ⟨rfl, hb4⟩; have hB4 := hB3.below hb4; have hbel4 := hbel3.trans (hb4.mono hbel3.size); have y0 := hB4.y0; have y1 := hB4.y1; have y2 := hB4.y2; have y3 := hB4.y3; have y4 := hB4.y4; have y5 := hB4.y5; have y6 := hB4.y6; have y7 := hB4.y7; have y8 := hB4.y8)
        | fail)
      all_goals
        have HB : Hid (∀ W', Below w4.heap.size w4 W' → Bt W' w.heap.size p q (j + 1) s3 t3 ∧ Below w.heap.size w W') := fun W' hW' => ⟨hB4.below hW', hbel4.trans (hW'.mono hbel4.size)⟩
        clear hB3 hB4 hbel3 hbel4 hb4 hbel hdo k0 k1 k2 k3 k4
        go_wp2
        go_roundw
        case rel =>
          have hh := HB.out _ (by first | exact Below.refl _ _ | exact (Below.refl _ _).drew)
          exact ⟨j + 1, s3, t3, by go_num, by omega, by omega, hh.1, hh.2⟩
        case measure => simp [intOf]; omega
    · by_cases hjl2 : j < n
      · have hj1 : (j : Int) < (n : Int) := by omega
        have hj2 : ¬ (j : Int) < 200 := by omega
        go_wp2
        go_ret3
        exact ⟨⟨p, q, s, t, rfl, hB.up_ hj200⟩, hbel⟩
      · have hj1 : ¬ (j : Int) < (n : Int) := by omega
        go_wp2
        go_ret3
        exact ⟨⟨p, q, s, t, rfl, hB.up_ hj200⟩, hbel⟩
end Go.Proofs.Yteobibinfckmdaa
