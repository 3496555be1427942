/- Add of a packet that is whole; Count of a pool without pieces; a nil pool. -/
import Derived.Test.YtnbagloifbllbaaRsH
namespace Go.Proofs.Ytnbagloifbllbaa
open Go.RowKit
structure TwP (kd : Nat → Role) (p : Nat) (now dr : Int) (hs : List Pa) (sr ds pr tt id : Nat) (dn : Bool) (zs : List Nat) (w : World) (e : Ending) (w' : World) : Prop where
  pool : PoolW w' kd p now dr hs
  gr : Grow kd kd w w'
  ans : ∃ a2 c2, e = .returned (.tuple #[.agg #[.int .u32 (sr : Nat), .int .u32 (ds : Nat), .int .u8 (pr : Nat), .int .u8 (tt : Nat), .int .u16 (id : Nat), .bool dn, .bool false, .int .i64 0, .slice a2 zs.length c2], .bool true, .int .i64 0]) ∧ Sl w' a2 zs.length c2 zs ∧ ∀ b off, a2 = some ⟨b, off, none⟩ → kd b = .no ∧ w.heap.size ≤ b ∧ b < w'.heap.size
set_option linter.unusedVariables false in
set_option maxRecDepth 100000 in
set_option maxHeartbeats 1000000 in
theorem add_whole {w : World} {kd : Nat → Role} {p : Nat} {now dr : Int} {hs : List Pa} (h : PoolW w kd p now dr hs) (sr ds pr tt id : Nat) (dn : Bool) (xa : Option Addr) (xn xc : Nat) (zs : List Nat) (nw : Int) (hn0 : 0 ≤ nw) (hn1 : nw ≤ 1099511627776) (hn2 : now ≤ nw) (hsr : sr < 4294967296) (hds : ds < 4294967296) (hpr : pr < 256) (htt : tt < 256) (hid : id < 65536) (hmb : mbE false 0 xn = 0) (hsl : Sl w xa xn xc zs) (hxk : 0 < xn → ∀ b off, xa = some ⟨b, off, none⟩ → kd b = .no) (hxb : xn ≤ 100000) :
    Calls Try.prog 10 #[.pointer (some ⟨p, 0, none⟩), .agg #[.int .u32 (sr : Nat), .int .u32 (ds : Nat), .int .u8 (pr : Nat), .int .u8 (tt : Nat), .int .u16 (id : Nat), .bool dn, .bool false, .int .i64 0, .slice xa xn xc], .int .i64 nw] w (TwP kd p nw dr hs sr ds pr tt id dn zs w) := by
  have hkr : kd (w.heap.size + 1) = .no := h.fresh _ (Nat.le_succ _)
  have hpl := h.lt
  obtain ⟨W0, hW0⟩ : ∃ W, W = w.alloc (.cells #[.int .u32 (sr : Nat), .int .u32 (ds : Nat), .int .u8 (pr : Nat), .int .u8 (tt : Nat), .int .u16 (id : Nat), .bool dn, .bool false, .int .i64 0, .slice xa xn xc] 26) := ⟨_, rfl⟩
  have hz0 : W0.heap.size = w.heap.size + 1 := by rw [hW0]; simp
  have b0 : Below w.heap.size w W0 := by rw [hW0]; exact (Below.refl _ _).alloc (Nat.le_refl _) _
  have st0 := Stc.new w [.int .u32 (sr : Nat), .int .u32 (ds : Nat), .int .u8 (pr : Nat), .int .u8 (tt : Nat), .int .u16 (id : Nat), .bool dn, .bool false, .int .i64 0, .slice xa xn xc] 26 W0 hW0
  obtain ⟨W1, hW1⟩ : ∃ W, W = W0.alloc (.cells #[.int .u32 0, .int .u32 0, .int .u8 0, .int .u8 0, .int .u16 0, .bool false, .bool false, .int .i64 0, .slice none 0 0] 26) := ⟨_, rfl⟩
  have b1 : Below W0.heap.size W0 W1 := by rw [hW1]; exact (Below.refl _ _).alloc (Nat.le_refl _) _
  have sr1 := Stc.new W0 [.int .u32 0, .int .u32 0, .int .u8 0, .int .u8 0, .int .u16 0, .bool false, .bool false, .int .i64 0, .slice none 0 0] 26 W1 hW1
  rw [hz0] at sr1
  have bb1 := b0.trans (b1.mono b0.size)
  have st1 := st0.below b1
  rw [hW0] at hW1
  clear hW0 hz0 st0 b0 b1
  go_enter Try.func10, Try.ntmps10
  go_wp2_with fail
  rw [← hW1]
  clear hW1
  refine (rmayBe_ok (h.below bb1) nw hn0 hn1 hn2).mono ?_
  rintro e w2 ⟨rfl, b2⟩
  have bb2 := bb1.trans (b2.mono bb1.size)
  have st2 := st1.below b2
  have sr2 := sr1.below b2
  have x0 := st2.cell 0 _ rfl
  have x1 := st2.cell 1 _ rfl
  have x2 := st2.cell 2 _ rfl
  have x3 := st2.cell 3 _ rfl
  have x4 := st2.cell 4 _ rfl
  have x5 := st2.cell 5 _ rfl
  have x6 := st2.cell 6 _ rfl
  have x7 := st2.cell 7 _ rfl
  have x8 := st2.cell 8 _ rfl
  have hip := iput_any sr ds pr tt id dn false 0 xa xn xc zs w2 hsr hds hpr htt hid (hsl.below bb2)
  rw [hmb] at hip
  go_wp2_with fail
  refine hip.mono ?_
  rintro e w3 ⟨⟨a3, c3, rfl, _⟩, b3⟩
  have bb3 := bb2.trans (b3.mono bb2.size)
  have st3 := st2.below b3
  have sr3 := sr2.below b3
  clear x0 x1 x2 x3 x4 x5 x6 x7 x8 hip bb1 st1 sr1 b2 bb2 st2 sr2 b3
  have x0 := st3.cell 0 _ rfl
  have x1 := st3.cell 1 _ rfl
  have x2 := st3.cell 2 _ rfl
  have x3 := st3.cell 3 _ rfl
  have x4 := st3.cell 4 _ rfl
  have x5 := st3.cell 5 _ rfl
  have x6 := st3.cell 6 _ rfl
  have x7 := st3.cell 7 _ rfl
  have x8 := st3.cell 8 _ rfl
  generalize (ipV sr ds pr tt id dn false 0 zs).length = il at *
  obtain ⟨a6, c6, hc6, _, _⟩ := (h.below bb3).cells
  have c60 := hc6.cell 0 _ rfl
  have f60 := hc6.free 0
  have P4 := (h.below bb3).tick nw
  have sr4 := sr3.other p 0 (.int .i64 nw) (by omega)
  have st4 := st3.other p 0 (.int .i64 nw) (by omega)
  have G4 := (Grow.of_below (kd := kd) bb3).trans ⟨fun _ _ => rfl, Fr.setCell (fun g => kd g ≠ .no) w3 ⟨p, 0, none⟩ (.int .i64 nw) (by rw [h.kp]; exact fun e => (by cases e))⟩
  have hsl4 := Sl.frY hsl G4.fr (fun h0 b off hb e => e (hxk h0 b off hb))
  obtain ⟨w4, hw4⟩ : ∃ W, W = w3.setCell ⟨p, 0, none⟩ (.int .i64 nw) := ⟨_, rfl⟩
  rw [← hw4] at P4 sr4 st4 G4 hsl4
  clear hmb
  have h3l := st3.lt
  go_wp2_with fail
  rw [← hw4]
  clear hw4 x0 x1 x2 x3 x4 x5 x6 x7 x8 c60 f60
  have hxn := hsl.len
  refine (clone_any xa xn xc zs w4 hsl4 (by omega)).mono ?_
  rintro e w5 ⟨a2, c2, rfl, o2, _, b5⟩
  have P5 := P4.below b5
  have st5 := st4.below b5
  have sr5 := sr4.below b5
  have G5 := G4.trans (Grow.of_below (kd := kd) b5)
  have h4z := G4.fr.size
  have hbk : ∀ b off, a2 = some ⟨b, off, none⟩ → kd b = .no ∧ w4.heap.size ≤ b ∧ b < w5.heap.size := by
    intro b off hb
    rcases o2.own.2 with ⟨hv, _⟩ | ⟨g, cap, cur, hv, hBg, _⟩
    · injection hv with e1
      rw [hb] at e1
      cases e1
    · injection hv with e1
      rw [hb] at e1
      injection e1 with e1
      injection e1 with e1
      subst e1
      exact ⟨P4.fresh b hBg, hBg, (o2.own.lt b (by rw [hb]; rfl)).2⟩
  have sl5 := o2.sl (by omega)
  have st6 := st5.set 8 (.slice a2 xn c2)
  have fr6 := Fr.setCell (fun b => b = w.heap.size) w5 ⟨w.heap.size, 8, none⟩ (.slice a2 xn c2) rfl
  have hkb : kd w.heap.size = .no := h.fresh _ (Nat.le_refl _)
  have hstl := st4.lt
  have P6 := P5.fr fr6 (fun b _ hb => by rw [hb]; exact hkb)
  have G6 := G5.out fr6 (fun b hb => by rw [hb]; exact Nat.le_refl _)
  have sr6 := sr5.fr fr6 (by show ¬ w.heap.size + 1 = w.heap.size; omega)
  have sl6 := Sl.frX sl5 fr6 (fun b off hb e => by have := (hbk b off hb).2.1; omega)
  have sr7 := sr6.put [.int .u32 (sr : Nat), .int .u32 (ds : Nat), .int .u8 (pr : Nat), .int .u8 (tt : Nat), .int .u16 (id : Nat), .bool dn, .bool false, .int .i64 0, .slice a2 xn c2] rfl
  have fr7 := fr_setCellsX (w.heap.size + 1) [.int .u32 (sr : Nat), .int .u32 (ds : Nat), .int .u8 (pr : Nat), .int .u8 (tt : Nat), .int .u16 (id : Nat), .bool dn, .bool false, .int .i64 0, .slice a2 xn c2] 0 (w5.setCell ⟨w.heap.size, 8, none⟩ (.slice a2 xn c2))
  have P7 := P6.fr fr7 (fun b _ hb => by rw [hb]; exact hkr)
  have G7 := G6.out fr7 (fun b hb => by rw [hb]; omega)
  have hsr4 := sr4.lt
  have sl7 := Sl.frX sl6 fr7 (fun b off hb e => by have := (hbk b off hb).2.1; omega)
  have hrg := sr7.range
  have HFA := (show Hid _ from (⟨P7, G7, ⟨a2, c2, by rw [hxn], by rw [hxn]; exact sl7, fun b off hb => ⟨(hbk b off hb).1, by have := (hbk b off hb).2.1; omega, by have := (hbk b off hb).2.2; have := fr6.size; have := fr7.size; omega⟩⟩⟩ : TwP kd p nw dr hs sr ds pr tt id dn zs w (.returned (.tuple #[.agg #[.int .u32 (sr : Nat), .int .u32 (ds : Nat), .int .u8 (pr : Nat), .int .u8 (tt : Nat), .int .u16 (id : Nat), .bool dn, .bool false, .int .i64 0, .slice a2 xn c2], .bool true, .int .i64 0])) _))
  have x0 := st5.cell 0 _ rfl
  have x1 := st5.cell 1 _ rfl
  have x2 := st5.cell 2 _ rfl
  have x3 := st5.cell 3 _ rfl
  have x4 := st5.cell 4 _ rfl
  have x5 := st5.cell 5 _ rfl
  have x6 := st5.cell 6 _ rfl
  have x7 := st5.cell 7 _ rfl
  have x8 := st5.cell 8 _ rfl
  have x8f := st5.free 8
  have t0 := sr5.cell 0 _ rfl
  have g0 := sr5.free 0
  have t1 := sr5.cell 1 _ rfl
  have g1 := sr5.free 1
  have t2 := sr5.cell 2 _ rfl
  have g2 := sr5.free 2
  have t3 := sr5.cell 3 _ rfl
  have g3 := sr5.free 3
  have t4 := sr5.cell 4 _ rfl
  have g4 := sr5.free 4
  have t5 := sr5.cell 5 _ rfl
  have g5 := sr5.free 5
  have t6 := sr5.cell 6 _ rfl
  have g6 := sr5.free 6
  have t7 := sr5.cell 7 _ rfl
  have g7 := sr5.free 7
  have t8 := sr5.cell 8 _ rfl
  have g8 := sr5.free 8
  clear P4 sr4 st4 G4 hsl4 P5 st5 sr5 G5 sl5 st6 fr6 P6 G6 sr6 sl6 sr7 fr7 P7 G7 sl7 hbk o2 b5 hc6 st3 sr3 bb3 hxn
  go_wp2
  try simp only [Exit.inBlock, Exit.then]
  refine bodyPost_ret (results_cellE3 rfl _ _ (w.heap.size + 1) 0 [.int .u32 (sr : Nat), .int .u32 (ds : Nat), .int .u8 (pr : Nat), .int .u8 (tt : Nat), .int .u16 (id : Nat), .bool dn, .bool false, .int .i64 0, .slice a2 xn c2] _ rfl hrg Try.underlying26 rfl (by kernel_rfl)) rfl ?_
  exact HFA.out
set_option maxRecDepth 100000 in
set_option maxHeartbeats 1000000 in
theorem count_none {w : World} {kd : Nat → Role} {p : Nat} {now dr : Int} (h : PoolW w kd p now dr []) :
    Calls Try.prog 12 #[.pointer (some ⟨p, 0, none⟩)] w fun e w' => e = .returned (.tuple #[.int .i64 0, .int .i64 0, .int .i64 dr]) ∧ Below w.heap.size w w' := by
  obtain ⟨a, c, hc, _, _⟩ := h.cells
  have c1 := hc.cell 1 _ rfl
  have c1d := (hc.below (Below.refl _ _).drew).cell 1 _ rfl
  have c2d := (hc.below (Below.refl _ _).drew).cell 2 _ rfl
  simp only [List.length_nil] at c1 c1d
  go_enter Try.func12, Try.ntmps12
  go_wp2_with fail
  go_loopw [5, 7, 15] (fun s _ iv wr => s = .int .i64 0 ∧ iv = .int .i64 0 ∧ wr = w) (fun _ _ _ _ => 0)
  case atStart => exact ⟨rfl, rfl, rfl⟩
  case round =>
    obtain ⟨rfl, rfl, rfl⟩ := hrel
    go_wp2_with fail
    refine wp_region_fixW mixedX (fun W => W = wr.drew) [(25, .pointer (some ⟨p, 0, none⟩)), (26, .pointer (some ⟨p, 0, none⟩)), (27, .pointer (some ⟨p, 1, none⟩)), (28, .slice a 0 c), (29, .int .i64 0), (30, .int .i64 0), (31, .pointer (some ⟨p, 0, none⟩)), (32, .pointer (some ⟨p, 0, none⟩)), (33, .pointer (some ⟨p, 2, none⟩)), (34, .int .i64 dr), (2, .int .i64 0), (3, .int .i64 0), (4, .int .i64 dr)] ?Z1 ?hZ1 (by kernel_rfl) (by kernel_rfl) (by kernel_rfl) (by kernel_rfl) ?h01 ?hops1 ?he1
    case hZ1 => simp only [List.foldl_cons, List.foldl_nil, List.setIfInBounds_toArray, List.set_cons_zero, List.set_cons_succ]; rfl
    case h01 => rfl
    case hops1 =>
      refine ⟨?_, ?_, ?_, ?_, ?_, ?_, ?_, ?_, ?_, ?_, ?_, ?_, ?_, trivial⟩
      · exact fix_val (by rfl) (fun W hW => by subst hW; go_simp; (try with_reducible rfl); (try omega))
      · exact fix_val (by rfl) (fun W hW => by subst hW; go_simp; (try with_reducible rfl); (try omega))
      · exact fix_val (by rfl) (fun W hW => by subst hW; go_simp; (try with_reducible rfl); (try omega))
      · exact fix_val (by rfl) (fun W hW => by subst hW; go_simp; (try with_reducible rfl); (try omega))
      · exact fix_val (by rfl) (fun W hW => by subst hW; go_simp; (try with_reducible rfl); (try omega))
      · exact fix_val (by rfl) (fun W hW => by subst hW; go_simp; (try with_reducible rfl); (try omega))
      · exact fix_val (by rfl) (fun W hW => by subst hW; go_simp; (try with_reducible rfl); (try omega))
      · exact fix_val (by rfl) (fun W hW => by subst hW; go_simp; (try with_reducible rfl); (try omega))
      · exact fix_val (by rfl) (fun W hW => by subst hW; go_simp; (try with_reducible rfl); (try omega))
      · exact fix_val (by rfl) (fun W hW => by subst hW; go_simp; (try with_reducible rfl); (try omega))
      · exact fix_val (by rfl) (fun W hW => by subst hW; go_simp; (try with_reducible rfl); (try omega))
      · exact fix_val (by rfl) (fun W hW => by subst hW; go_simp; (try with_reducible rfl); (try omega))
      · exact fix_val (by rfl) (fun W hW => by subst hW; go_simp; (try with_reducible rfl); (try omega))
    case he1 =>
    intro W hW
    subst hW
    go_wp2
    go_ret3
    exact ⟨rfl, (Below.refl _ _).drew⟩
set_option maxRecDepth 100000 in
set_option maxHeartbeats 1000000 in
theorem count_nil (w : World) : Calls Try.prog 12 #[.pointer none] w fun e w' => e = .returned (.tuple #[.int .i64 0, .int .i64 0, .int .i64 0]) ∧ Below w.heap.size w w' := by
  go_enter Try.func12, Try.ntmps12
  go_wp2
  go_ret3
  exact ⟨rfl, Below.refl _ _⟩
set_option maxRecDepth 100000 in
set_option maxHeartbeats 1000000 in
theorem rtick_nil (nw : Int) (w : World) : Calls Try.prog 13 #[.pointer none, .int .i64 nw] w fun e w' => e = .returned (.tuple #[.int .i64 0, .int .i64 1]) ∧ Below w.heap.size w w' := by
  have hm := fun W => rmayBe_nil nw W
  obtain ⟨W, hW⟩ : ∃ W, W = w.alloc (.cells #[.int .i64 nw] 3) := ⟨_, rfl⟩
  have bW : Below w.heap.size w W := by rw [hW]; exact (Below.refl _ _).alloc (Nat.le_refl _) _
  have sW := Stc.new w [.int .i64 nw] 3 W hW
  have s0 := sW.cell 0 _ rfl
  go_enter Try.func13, Try.ntmps13
  go_wp2_with fail
  first | (rw [← hW]; clear hW; refine (hm W).mono ?_) | (refine (hm _).mono ?_)
  rintro e w1 ⟨rfl, b1⟩
  have HB := (show Hid _ from bW.trans (b1.mono bW.size))
  clear bW b1 s0 sW
  go_wp2
  go_ret2
  exact ⟨rfl, HB.out⟩
set_option maxRecDepth 100000 in
set_option maxHeartbeats 1000000 in
theorem rfork_nil (w : World) : Calls Try.prog 14 #[.pointer none] w fun e w' => e = .returned (.pointer none) ∧ Below w.heap.size w w' := by
  go_enter Try.func14, Try.ntmps14
  go_wp2
  go_ret
  exact ⟨rfl, Below.refl _ _⟩
set_option maxRecDepth 100000 in
set_option maxHeartbeats 1000000 in
theorem radd_nil (sr ds pr tt id : Nat) (dn mo : Bool) (of : Int) (xa : Option Addr) (xn xc : Nat) (nw : Int) (w : World) : Calls Try.prog 10 #[.pointer none, .agg #[.int .u32 (sr : Nat), .int .u32 (ds : Nat), .int .u8 (pr : Nat), .int .u8 (tt : Nat), .int .u16 (id : Nat), .bool dn, .bool mo, .int .i64 of, .slice xa xn xc], .int .i64 nw] w fun e w' => e = .returned (.tuple #[.agg #[.int .u32 0, .int .u32 0, .int .u8 0, .int .u8 0, .int .u16 0, .bool false, .bool false, .int .i64 0, .slice none 0 0], .bool false, .int .i64 1]) ∧ Below w.heap.size w w' := by
  obtain ⟨W0, hW0⟩ : ∃ W, W = w.alloc (.cells #[.int .u32 (sr : Nat), .int .u32 (ds : Nat), .int .u8 (pr : Nat), .int .u8 (tt : Nat), .int .u16 (id : Nat), .bool dn, .bool mo, .int .i64 of, .slice xa xn xc] 26) := ⟨_, rfl⟩
  have hz0 : W0.heap.size = w.heap.size + 1 := by rw [hW0]; simp
  have b0 : Below w.heap.size w W0 := by rw [hW0]; exact (Below.refl _ _).alloc (Nat.le_refl _) _
  obtain ⟨W1, hW1⟩ : ∃ W, W = W0.alloc (.cells #[.int .u32 0, .int .u32 0, .int .u8 0, .int .u8 0, .int .u16 0, .bool false, .bool false, .int .i64 0, .slice none 0 0] 26) := ⟨_, rfl⟩
  have b1 : Below W0.heap.size W0 W1 := by rw [hW1]; exact (Below.refl _ _).alloc (Nat.le_refl _) _
  have sr1 := Stc.new W0 [.int .u32 0, .int .u32 0, .int .u8 0, .int .u8 0, .int .u16 0, .bool false, .bool false, .int .i64 0, .slice none 0 0] 26 W1 hW1
  rw [hz0] at sr1
  have bb1 := b0.trans (b1.mono b0.size)
  rw [hW0] at hW1
  clear hW0 hz0 b0 b1
  go_enter Try.func10, Try.ntmps10
  go_wp2_with fail
  rw [← hW1]
  clear hW1
  refine (rmayBe_nil nw W1).mono ?_
  rintro e w2 ⟨rfl, b2⟩
  have bb2 := bb1.trans (b2.mono bb1.size)
  have sr2 := sr1.below b2
  have sr3 := sr2.put [.int .u32 0, .int .u32 0, .int .u8 0, .int .u8 0, .int .u16 0, .bool false, .bool false, .int .i64 0, .slice none 0 0] rfl
  have fr3 := fr_setCellsX (w.heap.size + 1) [.int .u32 0, .int .u32 0, .int .u8 0, .int .u8 0, .int .u16 0, .bool false, .bool false, .int .i64 0, .slice none 0 0] 0 w2
  have bb3 := bb2.trans (fr3.below w.heap.size bb2.size (fun k hk => by subst hk; omega))
  have hrg := sr3.range
  have t0 := sr2.cell 0 _ rfl
  have g0 := sr2.free 0
  have t1 := sr2.cell 1 _ rfl
  have g1 := sr2.free 1
  have t2 := sr2.cell 2 _ rfl
  have g2 := sr2.free 2
  have t3 := sr2.cell 3 _ rfl
  have g3 := sr2.free 3
  have t4 := sr2.cell 4 _ rfl
  have g4 := sr2.free 4
  have t5 := sr2.cell 5 _ rfl
  have g5 := sr2.free 5
  have t6 := sr2.cell 6 _ rfl
  have g6 := sr2.free 6
  have t7 := sr2.cell 7 _ rfl
  have g7 := sr2.free 7
  have t8 := sr2.cell 8 _ rfl
  have g8 := sr2.free 8
  clear sr1 bb1 b2 bb2 sr2 sr3 fr3
  go_wp2
  try simp only [Exit.inBlock, Exit.then]
  refine bodyPost_ret (results_cellE3 rfl _ _ (w.heap.size + 1) 0 [.int .u32 0, .int .u32 0, .int .u8 0, .int .u8 0, .int .u16 0, .bool false, .bool false, .int .i64 0, .slice none 0 0] _ rfl hrg Try.underlying26 rfl (by kernel_rfl)) rfl ?_
  exact ⟨rfl, bb3⟩
end Go.Proofs.Ytnbagloifbllbaa
