/- Whatever ring and scripts: the walk of law07.RingForks ends with true. -/
import Derived.Test.YtmmbnikjlklflaaRgF
namespace Go.Proofs.Ytmmbnikjlklflaa
open Go.RowKit
theorem xor3_lt (x : Nat) (h : x < 256) : x ^^^ 3 < 256 := Nat.xor_lt_two_pow (n := 8) h (by decide)
set_option maxRecDepth 100000 in
set_option maxHeartbeats 4000000 in
theorem walk_RingForks (nn : Nat) (a : Option Addr) (n c : Nat) (dd : List Dd) (a2 : Option Addr) (n2 c2 : Nat) (ee : List Dd) (w : World) (hnn : nn < 256) (hl : SlG w a n c dd) (hm : SlG w a2 n2 c2 ee) :
    Calls Try.prog 7 #[.int .u8 (nn : Nat), .slice a n c, .slice a2 n2 c2] w fun e w' => e = .returned (.bool true) ∧ Below w.heap.size w w' := by
  have hlen := hm.len
  have hsm := hm.small
  obtain ⟨N, hN⟩ : ∃ N, N = 1 + nn % 64 := ⟨_, rfl⟩
  have hN1 : 1 ≤ N := by omega
  have hN2 : N ≤ 64 := by omega
  have HN : Hid ((1 : Int) + (nn : Int) % 64 = (N : Int)) := by show _ = _; omega
  have hplay := fun v hv => play_any N a n c dd w hN1 hN2 hl v hv
  clear hN
  go_enter Try.func7, Try.ntmps7
  go_wp2_with fail
  refine (hplay _ (by rw [HN.out])).mono ?_
  rintro e w1 ⟨⟨p, g, q, gv, gn, tk, d, rs, rfl, hB, hd, hg⟩, hb1⟩
  clear hplay hl
  go_wp2_with fail
  refine (fork_any _ _ p g N gv tk d rs w1 hB.x).mono ?_
  rintro e w2 ⟨p', rfl, ⟨g', rs', hX2, hrs⟩, hb2⟩
  go_wp2_with fail
  refine (fork_ref _ _ q N gn tk d _ w1 w2 hB.y hb2).mono ?_
  rintro e w3 ⟨⟨q', rfl, hq1, hq2, hY3⟩, hb3⟩
  have hb13 : Below w1.heap.size w1 w3 := hb2.trans (hb3.mono hb2.size)
  have hB3 : Bo w3 w1.heap.size p' g' q' N gv gn tk d rs' := by
    have e1 := hX2.lt
    have e2 := hX2.glt
    have e3 := hX2.bp
    have e4 := hX2.bg
    have e5 := hb2.size
    have e6 := hb3.size
    have hlt : ∀ k, XB p' g' q' k → w1.heap.size ≤ k ∧ k < w3.heap.size := fun k hk => by
      rcases hk with rfl | rfl | rfl <;> omega
    have hY := hY3 w3 (XB p' g' q') (Below.refl _ _) (.inr (.inr rfl)) hlt
    rw [← hrs] at hY
    refine ⟨(hX2.below hb3).setX _ (.inl rfl) (.inr (.inl rfl)) (fun k hk => (hlt k hk).2) (fun x hx => ?_), hY, hB.gm, by omega, by omega⟩
    obtain ⟨r1, r2, _⟩ := hX2.rlt x hx
    rintro (h | h | h)
    · exact r2 (.inl h)
    · exact r2 (.inr h)
    · omega
  clear hX2 hrs hY3 hb2 hb3
  go_wp2
  go_loopw [12] (fun iv wr => ∃ (i gv gn tk d : Nat) (rs : List (Nat × List Nat)), iv = .int .i64 (i : Nat) ∧ i ≤ n2 ∧ i ≤ 200 ∧ d ≤ 200 + i ∧ gn ≤ 200 + i ∧ Bo wr w1.heap.size p' g' q' N gv gn tk d rs ∧ Below w1.heap.size w1 wr) (fun iv _ => n2 - (intOf iv).toNat)
  case atStart => exact ⟨0, gv, gn, tk, d, rs', rfl, by omega, by omega, by omega, by omega, hB3, hb13⟩
  case round =>
    obtain ⟨j, gv3, gn3, tk3, d3, rs3, rfl, hjn, hj200, hdj, hgj, hBf, hbel1⟩ := hrel
    clear hB3 hb13
    have hbel : Below w.heap.size w wr := hb1.trans (hbel1.mono hb1.size)
    by_cases hjl : j < n2 ∧ j < 200
    · obtain ⟨hjl, hjk⟩ := hjl
      obtain ⟨x, hx⟩ : ∃ x, ee[j]? = some x := ⟨_, List.getElem?_eq_getElem (by omega)⟩
      have hxm := List.mem_of_getElem? hx
      rcases hm.at_ with h0 | ⟨lb, off, rfl, hlt, hcell⟩
      · omega
      obtain ⟨c0, c1, c2⟩ := hcell j x hx
      have k0 := (hbel.cell (p := ⟨lb, off + j * 3, none⟩) hlt).trans c0
      have k1 := (hbel.cell (p := ⟨lb, off + j * 3 + 1, none⟩) hlt).trans c1
      have k2 := (hbel.cell (p := ⟨lb, off + j * 3 + 2, none⟩) hlt).trans c2
      have hj1 : (j : Int) < (n2 : Int) := by omega
      have hj2 : (j : Int) < 200 := by omega
      have hdo : ∀ W, Below wr.heap.size wr W → Calls Try.prog 19 #[.pointer (some ⟨p', 0, none⟩), .pointer (some ⟨q', 0, none⟩), .agg #[.int .i64 x.op, .slice x.a x.n x.c, .int .i64 x.i]] W (DoP w1.heap.size p' g' q' N d3 gn3 W) := by
        intro W hW
        have hBW := hBf.below hW
        have hbW := hbel.trans (hW.mono hbel.size)
        by_cases o0 : x.op = 0
        · rw [o0]; exact do_fill _ p' g' q' N gv3 gn3 tk3 d3 rs3 x.a x.n x.c x.zs x.i w W hBW hbW hb1.size (Nat.le_trans hbel1.size hW.size) (hm.rows x hxm).1 (hm.rows x hxm).2 (by omega)
        by_cases o1 : x.op = 1
        · rw [o1]; exact do_take _ p' g' q' N gv3 gn3 tk3 d3 rs3 _ x.i W hBW
        by_cases o2 : x.op = 2
        · rw [o2]; exact do_give _ p' g' q' N gv3 gn3 tk3 d3 rs3 _ x.i W hBW (by omega)
        · exact do_owner _ p' g' q' N gv3 gn3 tk3 d3 rs3 x.op _ x.i W hBW (by omega) o0 o1 o2
      clear c0 c1 c2 hcell
      go_wp2_with fail
      refine (hdo _ (by first | exact Below.refl _ _ | exact (Below.refl _ _).drew)).mono ?_
      rintro e w4 ⟨rfl, hF4, gv4, gn4, tk4, d4, rs4, hd4, hg4, hB4⟩
      have HBel := (show Hid _ from hBf.fr hF4 hbel1 (Nat.le_refl _))
      have HB4 := (show Hid _ from hB4)
      clear hdo hF4 hBf hbel k0 k1 k2 hB4 hbel1
      go_wp2
      go_roundw
      case rel => exact ⟨j + 1, gv4, gn4, tk4, d4, rs4, by go_num, by omega, by omega, by omega, by omega, HB4.out, HBel.out⟩
      case measure => simp [intOf]; omega
    · have hcond : (¬ (j : Int) < (n2 : Int)) ∨ ((j : Int) < (n2 : Int) ∧ ¬ (j : Int) < 200) := by omega
      have hs1 := same_any _ p g q N gv gn tk d rs wr (hB.below hbel1) (by omega)
      rcases hcond with hj1 | ⟨hj1, hj2⟩
      all_goals
        go_wp2_with fail
        refine hs1.mono ?_
        rintro e w4 ⟨rfl, hb4⟩
        have hBf4 := hBf.below hb4
        have hb14 : Below w1.heap.size w1 w4 := hbel1.trans (hb4.mono hbel1.size)
        clear hs1 hBf hbel hbel1 hb4
        go_wp2_with fail
        refine (same_any _ p' g' q' N gv3 gn3 tk3 d3 rs3 w4 hBf4 (by omega)).mono ?_
        rintro e w5 ⟨rfl, hb5⟩
        have hb15 : Below w1.heap.size w1 w5 := hb14.trans (hb5.mono hb14.size)
        have hB5 := hB.below hb15
        clear hBf4 hb14 hb5
        go_wp2_with fail
        refine (fork_any _ _ p g N gv tk d rs w5 hB5.x).mono ?_
        rintro e w6 ⟨ph, rfl, ⟨gh, rsh, hX6, _⟩, hb6⟩
        have HEND : Hid (∀ W, Below w5.heap.size w5 W → ∀ (sv : Value) (I : Int), Calls Try.prog 19 #[.pointer (some ⟨p, 0, none⟩), .pointer (some ⟨q, 0, none⟩), .agg #[.int .i64 1, sv, .int .i64 I]] W fun e w' => e = .returned (.bool true) ∧ Below w.heap.size w w') := by
          show ∀ _, _
          intro W hW sv I
          have hbW : Below w1.heap.size w1 W := hb15.trans (hW.mono hb15.size)
          have hBW := hB.below hbW
          refine (do_take _ p g q N gv gn tk d rs sv I W hBW).mono ?_
          rintro e w' ⟨h1, h2, _⟩
          exact ⟨h1, hBW.fr h2 (hb1.trans (hbW.mono hb1.size)) (Nat.le_refl _)⟩
        cases rsh with
        | nil =>
          go_wp2_with fail
          refine (take_none _ _ ph gh N gv tk d w6 hX6).mono ?_
          rintro e w7 ⟨rfl, rfl⟩
          clear hX6
          go_wp2
          go_loopw [16] (fun iv wr => iv = .int .i64 0 ∧ wr = w7) (fun _ _ => 0)
          case atStart => exact ⟨rfl, rfl⟩
          case round =>
            obtain ⟨rfl, rfl⟩ := hrel
            go_wp2_with fail
            refine (live7_any wr).mono ?_
            rintro e w9 ⟨rfl, hb9⟩
            go_wp2_with fail
            refine (HEND.out w9 (hb6.trans (hb9.mono hb6.size)) _ _).mono ?_
            rintro e w10 ⟨rfl, hb10⟩
            go_wp2
            go_ret
            exact ⟨rfl, hb10⟩
        | cons r rsh =>
          obtain ⟨bb, zs⟩ := r
          have hz2 := (hX6.row 0 bb zs rfl).2.2.1
          go_wp2_with fail
          refine (take_some _ _ ph gh N gv tk d bb zs rsh w6 hX6).mono ?_
          rintro e w7 ⟨⟨cc, rfl, ho7⟩, hf7, _⟩
          have hb7 : Below w5.heap.size w5 w7 := hX6.frB hf7 hb6 (Nat.le_refl _)
          clear hX6 hf7 hb6
          go_wp2
          go_loopw [16] (fun iv wr => ∃ (i : Nat) (ys : List Nat), iv = .int .i64 (i : Nat) ∧ i ≤ zs.length ∧ OwnB wr w5.heap.size (some ⟨bb, 0, none⟩) zs.length cc ys ∧ Below w5.heap.size w5 wr) (fun iv _ => zs.length - (intOf iv).toNat)
          case atStart => exact ⟨0, zs, rfl, by omega, ho7, hb7⟩
          case round =>
            obtain ⟨i, ys, rfl, hi, hoi, hbi⟩ := hrel
            clear ho7 hb7
            by_cases hin : i < zs.length
            · have hi1 : (i : Int) < (zs.length : Int) := by omega
              have kc := hoi.cell i hin
              have kf := hoi.free i
              have hbd := hoi.bnd i
              have HO : Hid (OwnB (wr.setCell ⟨bb, i, none⟩ (.int .u8 ((ys.getD i 0 ^^^ 3 : Nat) : Int))) w5.heap.size (some ⟨bb, 0, none⟩) zs.length cc (ys.set i (ys.getD i 0 ^^^ 3))) := hoi.store i _ (xor3_lt _ hbd)
              have HF : Hid (∀ v, Below w5.heap.size w5 (wr.setCell ⟨bb, i, none⟩ v)) := fun v => hbi.setCell (p := ⟨bb, i, none⟩) hoi.blt.2 v
              have hx : bits .xor .u8 ((ys.getD i 0 : Nat) : Int) 3 = ((ys.getD i 0 ^^^ 3 : Nat) : Int) := u8_xor_nat (ys.getD i 0) 3 hbd (by omega)
              have hxl := xor3_lt _ hbd
              clear hoi hbi
              generalize ys.getD i 0 = y at *
              generalize y ^^^ 3 = z at *
              go_wp2
              go_roundw
              case rel => exact ⟨i + 1, ys.set i z, by go_num, by omega, HO.out, HF.out _⟩
              case measure => simp [intOf]; omega
            · have hi1 : ¬ (i : Int) < (zs.length : Int) := by omega
              clear hoi
              go_wp2_with fail
              refine (live7_any wr).mono ?_
              rintro e w9 ⟨rfl, hb9⟩
              go_wp2_with fail
              refine (HEND.out w9 (hbi.trans (hb9.mono hbi.size)) _ _).mono ?_
              rintro e w10 ⟨rfl, hb10⟩
              go_wp2
              go_ret
              exact ⟨rfl, hb10⟩
end Go.Proofs.Ytmmbnikjlklflaa
