/- law07.play: a script on both rings. -/
import Derived.Test.YtmmbnikjlklflaaRgD
import Derived.OwnWalk
namespace Go.Proofs.Ytmmbnikjlklflaa
open Go.RowKit
structure PlayP (N : Nat) (w0 : World) (e : Ending) (w' : World) : Prop where
  out : ∃ p g q gv gn tk d rs, e = .returned (.tuple #[.pointer (some ⟨p, 0, none⟩), .pointer (some ⟨q, 0, none⟩), .bool true]) ∧ Bo w' w0.heap.size p g q N gv gn tk d rs ∧ d ≤ 200 ∧ gn ≤ 200
  bel : Below w0.heap.size w0 w'
set_option maxRecDepth 100000 in
set_option maxHeartbeats 2000000 in
theorem play_no (n : Int) (a : Option Addr) (ln c : Nat) (w : World) (h : n < 1 ∨ 64 < n) :
    Calls Try.prog 9 #[.int .i64 n, .slice a ln c] w fun e w' => e = .returned (.tuple #[.pointer none, .pointer none, .bool true]) ∧ Below w.heap.size w w' := by
  go_enter Try.func9, Try.ntmps9
  go_wp2_with fail
  refine (rnew_no n w h).mono ?_
  rintro e w1 ⟨rfl, hb1⟩
  go_wp2_with fail
  refine (new_ref_no n w1 h).mono ?_
  rintro e w2 ⟨rfl, hb2⟩
  have HB := (show Hid _ from hb1.trans (hb2.mono hb1.size))
  clear hb1 hb2
  go_wp2
  go_loopw [11] (fun iv wr => wr = w2 ∧ iv = .int .i64 0) (fun _ _ => 0)
  case atStart => exact ⟨rfl, rfl⟩
  case round =>
    obtain ⟨rfl, rfl⟩ := hrel
    go_wp2
    go_ret3
    exact ⟨rfl, HB.out⟩
set_option maxRecDepth 100000 in
set_option maxHeartbeats 4000000 in
theorem play_any (N : Nat) (a : Option Addr) (n c : Nat) (dd : List Dd) (w : World) (h1 : 1 ≤ N) (h2 : N ≤ 64) (hl : SlG w a n c dd) (v : Value) (hv : v = .int .i64 (N : Int)) :
    Calls Try.prog 9 #[v, .slice a n c] w (PlayP N w) := by
  subst hv
  have hlen := hl.len
  have hsm := hl.small
  go_enter Try.func9, Try.ntmps9
  go_wp2_with fail
  refine (rnew_any N w h1 h2).mono ?_
  rintro e w1 ⟨p, rfl, ⟨g, hX1⟩, hb1⟩
  go_wp2_with fail
  refine (new_ref N w1 h1 h2).mono ?_
  rintro e w2 ⟨q, rfl, hY2, hb2⟩
  have hbel2 : Below w.heap.size w w2 := hb1.trans (hb2.mono hb1.size)
  have hB2 : Bo w2 w.heap.size p g q N 0 0 0 0 [] := by
    have e1 := hX1.lt
    have e2 := hX1.glt
    have e3 := hY2.bq
    have e4 := hY2.lt
    have hlt : ∀ k, XB p g q k → k < w2.heap.size := fun k hk => by
      have := hb2.size
      rcases hk with rfl | rfl | rfl <;> omega
    exact ⟨(hX1.below hb2).setX _ (.inl rfl) (.inr (.inl rfl)) hlt (fun x hx => by cases hx), hY2.setX hb1.size _ (.inr (.inr rfl)) hlt, by simp, by omega, by omega⟩
  clear hX1 hY2 hb1 hb2
  go_wp2
  go_loopw [11] (fun iv wr => ∃ (i gv gn tk d : Nat) (rs : List (Nat × List Nat)), iv = .int .i64 (i : Nat) ∧ i ≤ n ∧ i ≤ 200 ∧ d ≤ i ∧ gn ≤ i ∧ Bo wr w.heap.size p g q N gv gn tk d rs ∧ Below w.heap.size w wr) (fun iv _ => n - (intOf iv).toNat)
  case atStart => exact ⟨0, 0, 0, 0, 0, [], rfl, by omega, by omega, by omega, by omega, hB2, hbel2⟩
  case round =>
    obtain ⟨j, gv, gn, tk, d, rs, rfl, hjn, hj200, hdj, hgj, hB, hbel⟩ := hrel
    clear hB2 hbel2
    by_cases hjl : j < n ∧ j < 200
    · obtain ⟨hjl, hjk⟩ := hjl
      obtain ⟨x, hx⟩ : ∃ x, dd[j]? = some x := ⟨_, List.getElem?_eq_getElem (by omega)⟩
      have hxm := List.mem_of_getElem? hx
      rcases hl.at_ with h0 | ⟨lb, off, rfl, hlt, hcell⟩
      · omega
      obtain ⟨c0, c1, c2⟩ := hcell j x hx
      have k0 := (hbel.cell (p := ⟨lb, off + j * 3, none⟩) hlt).trans c0
      have k1 := (hbel.cell (p := ⟨lb, off + j * 3 + 1, none⟩) hlt).trans c1
      have k2 := (hbel.cell (p := ⟨lb, off + j * 3 + 2, none⟩) hlt).trans c2
      have hj1 : (j : Int) < (n : Int) := by omega
      have hj2 : (j : Int) < 200 := by omega
      have hdo : ∀ W, Below wr.heap.size wr W → Calls Try.prog 19 #[.pointer (some ⟨p, 0, none⟩), .pointer (some ⟨q, 0, none⟩), .agg #[.int .i64 x.op, .slice x.a x.n x.c, .int .i64 x.i]] W (DoP w.heap.size p g q N d gn W) := by
        intro W hW
        have hBW := hB.below hW
        have hbW := hbel.trans (hW.mono hbel.size)
        by_cases o0 : x.op = 0
        · rw [o0]; exact do_fill _ p g q N gv gn tk d rs x.a x.n x.c x.zs x.i w W hBW hbW (Nat.le_refl _) hbW.size (hl.rows x hxm).1 (hl.rows x hxm).2 (by omega)
        by_cases o1 : x.op = 1
        · rw [o1]; exact do_take _ p g q N gv gn tk d rs _ x.i W hBW
        by_cases o2 : x.op = 2
        · rw [o2]; exact do_give _ p g q N gv gn tk d rs _ x.i W hBW (by omega)
        · exact do_owner _ p g q N gv gn tk d rs x.op _ x.i W hBW (by omega) o0 o1 o2
      clear c0 c1 c2 hcell
      go_wp2_with fail
      refine (hdo _ (by first | exact Below.refl _ _ | exact (Below.refl _ _).drew)).mono ?_
      rintro e w3 ⟨rfl, hF3, gv3, gn3, tk3, d3, rs3, hd3, hg3, hB3⟩
      have hbel3 := hB.fr hF3 hbel (Nat.le_refl _)
      clear hdo hF3 hB hbel k0 k1 k2
      go_wp2_with fail
      refine (same_any _ p g q N gv3 gn3 tk3 d3 rs3 w3 hB3 (by omega)).mono ?_
      rintro e w4 ⟨rfl, hb4⟩
      have HB4 := (show Hid _ from hB3.below hb4)
      have HBel := (show Hid _ from hbel3.trans (hb4.mono hbel3.size))
      clear hB3 hb4 hbel3
      go_wp2
      go_roundw
      case rel => exact ⟨j + 1, gv3, gn3, tk3, d3, rs3, by go_num, by omega, by omega, by omega, by omega, HB4.out, HBel.out⟩
      case measure => simp [intOf]; omega
    · by_cases hjl2 : j < n
      · have hj1 : (j : Int) < (n : Int) := by omega
        have hj2 : ¬ (j : Int) < 200 := by omega
        go_wp2
        go_ret3
        exact ⟨⟨p, g, q, gv, gn, tk, d, rs, rfl, hB, by omega, by omega⟩, hbel⟩
      · have hj1 : ¬ (j : Int) < (n : Int) := by omega
        go_wp2
        go_ret3
        exact ⟨⟨p, g, q, gv, gn, tk, d, rs, rfl, hB, by omega, by omega⟩, hbel⟩
end Go.Proofs.Ytmmbnikjlklflaa
