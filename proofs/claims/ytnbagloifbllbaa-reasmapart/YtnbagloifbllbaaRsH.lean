/- (*reasm.Pool).Add, New. -/
import Derived.Test.YtnbagloifbllbaaRsG
import Derived.Test.YtnbagloifbllbaaIpPut
namespace Go.Proofs.Ytnbagloifbllbaa
open Go.RowKit
set_option maxRecDepth 100000 in
set_option maxHeartbeats 1000000 in
theorem rnew_any (w : World) : Calls Try.prog 8 #[] w fun e w' => e = .returned (.pointer (some ⟨w.heap.size, 0, none⟩)) ∧ PoolW w' (fun g => if g = w.heap.size then .pool else .no) w.heap.size 0 0 [] ∧ Below w.heap.size w w' := by
  have hp := PoolW.new w
  go_enter Try.func8, Try.ntmps8
  go_wp2
  go_ret
  exact ⟨rfl, hp, (Below.refl _ _).alloc (Nat.le_refl _) _⟩
set_option maxRecDepth 100000 in
set_option maxHeartbeats 1000000 in
theorem rmayBe_ok {w : World} {kd : Nat → Role} {p : Nat} {now dr : Int} {hs : List Pa} (h : PoolW w kd p now dr hs) (nw : Int) (h0 : 0 ≤ nw) (h1 : nw ≤ 1099511627776) (h2 : now ≤ nw) :
    Calls Try.prog 16 #[.pointer (some ⟨p, 0, none⟩), .int .i64 nw] w fun e w' => e = .returned (.int .i64 0) ∧ Below w.heap.size w w' := by
  obtain ⟨a, c, hc, _, _⟩ := h.cells
  have c0 := hc.cell 0 _ rfl
  have h0' : ¬ nw < 0 := by omega
  have h1' : ¬ 1099511627776 < nw := by omega
  have h2' : ¬ nw < now := by omega
  go_enter Try.func16, Try.ntmps16
  go_wp2
  go_ret
  exact ⟨rfl, Below.refl _ _⟩
set_option maxRecDepth 100000 in
set_option maxHeartbeats 1000000 in
theorem rmayBe_nil (nw : Int) (w : World) :
    Calls Try.prog 16 #[.pointer none, .int .i64 nw] w fun e w' => e = .returned (.int .i64 1) ∧ Below w.heap.size w w' := by
  go_enter Try.func16, Try.ntmps16
  go_wp2
  go_ret
  exact ⟨rfl, Below.refl _ _⟩
set_option maxRecDepth 100000 in
set_option maxHeartbeats 1000000 in
theorem held_ok (sr ds pr tt id : Nat) (dn mo : Bool) (of : Nat) (xa : Option Addr) (xn xc : Nat) (w : World) (hx0 : 0 < xn) (hen : of + xn ≤ 4096) :
    Calls Try.prog 19 #[.agg #[.int .u32 (sr : Nat), .int .u32 (ds : Nat), .int .u8 (pr : Nat), .int .u8 (tt : Nat), .int .u16 (id : Nat), .bool dn, .bool mo, .int .i64 (of : Nat), .slice xa xn xc]] w fun e w' => e = .returned (.int .i64 0) ∧ Below w.heap.size w w' := by
  have hb : Below w.heap.size w (w.alloc (.cells #[.int .u32 (sr : Nat), .int .u32 (ds : Nat), .int .u8 (pr : Nat), .int .u8 (tt : Nat), .int .u16 (id : Nat), .bool dn, .bool mo, .int .i64 (of : Nat), .slice xa xn xc] 26)) := (Below.refl _ _).alloc (Nat.le_refl _) _
  have hE := end_any sr ds pr tt id dn mo of xa xn xc (w.alloc (.cells #[.int .u32 (sr : Nat), .int .u32 (ds : Nat), .int .u8 (pr : Nat), .int .u8 (tt : Nat), .int .u16 (id : Nat), .bool dn, .bool mo, .int .i64 (of : Nat), .slice xa xn xc] 26)) (by omega) (by omega)
  have h1 : ¬ ((xn : Nat) : Int) = 0 := by omega
  have h2 : ¬ (4096 : Int) < ((of + xn : Nat) : Int) := by omega
  go_enter Try.func19, Try.ntmps19
  go_wp2_with fail
  refine hE.mono ?_
  rintro e w1 ⟨rfl, b1⟩
  have HB := (show Hid _ from hb.trans (b1.mono hb.size))
  clear hE hb b1
  have h2' : ¬ (4096 : Int) < (of : Int) + (xn : Int) := by omega
  go_wp2
  go_ret
  exact ⟨rfl, HB.out⟩
set_option linter.unusedVariables false in
set_option maxRecDepth 100000 in
set_option maxHeartbeats 1000000 in
theorem add_same {w : World} {kd : Nat → Role} {p : Nat} {now dr : Int} {hs : List Pa} (h : PoolW w kd p now dr hs) (sr ds pr tt id : Nat) (dn mo : Bool) (of : Nat) (xa : Option Addr) (xn xc : Nat) (zs : List Nat) (nw : Int) (hn0 : 0 ≤ nw) (hn1 : nw ≤ 1099511627776) (hn2 : now ≤ nw) (hsr : sr < 4294967296) (hds : ds < 4294967296) (hpr : pr < 256) (htt : tt < 256) (hid : id < 65536) (hmb : mbE mo (of : Int) xn = 0) (hsl : Sl w xa xn xc zs) (hxk : ∀ b off, xa = some ⟨b, off, none⟩ → kd b = .no) (hx0 : 0 < xn) (hen : of + xn ≤ 4096) (hpc : of ≠ 0 ∨ mo = true) (hbd : ∀ q ∈ lookD (absL hs) (sr, ds, pr, id), boundD q) (hsm : (lookD (absL hs) (sr, ds, pr, id)).any (sameD ⟨sr, ds, pr, tt, id, dn, mo, (of : Int), zs⟩) = true) :
    Calls Try.prog 10 #[.pointer (some ⟨p, 0, none⟩), .agg #[.int .u32 (sr : Nat), .int .u32 (ds : Nat), .int .u8 (pr : Nat), .int .u8 (tt : Nat), .int .u16 (id : Nat), .bool dn, .bool mo, .int .i64 (of : Nat), .slice xa xn xc], .int .i64 nw] w (TsP kd p nw dr hs w) := by
  have hkr : kd (w.heap.size + 1) = .no := h.fresh _ (Nat.le_succ _)
  have hpl := h.lt
  obtain ⟨W0, hW0⟩ : ∃ W, W = w.alloc (.cells #[.int .u32 (sr : Nat), .int .u32 (ds : Nat), .int .u8 (pr : Nat), .int .u8 (tt : Nat), .int .u16 (id : Nat), .bool dn, .bool mo, .int .i64 (of : Nat), .slice xa xn xc] 26) := ⟨_, rfl⟩
  have hz0 : W0.heap.size = w.heap.size + 1 := by rw [hW0]; simp
  have b0 : Below w.heap.size w W0 := by rw [hW0]; exact (Below.refl _ _).alloc (Nat.le_refl _) _
  have st0 := Stc.new w [.int .u32 (sr : Nat), .int .u32 (ds : Nat), .int .u8 (pr : Nat), .int .u8 (tt : Nat), .int .u16 (id : Nat), .bool dn, .bool mo, .int .i64 (of : Nat), .slice xa xn xc] 26 W0 hW0
  obtain ⟨W1, hW1⟩ : ∃ W, W = W0.alloc (.cells #[.int .u32 0, .int .u32 0, .int .u8 0, .int .u8 0, .int .u16 0, .bool false, .bool false, .int .i64 0, .slice none 0 0] 26) := ⟨_, rfl⟩
  have b1 : Below W0.heap.size W0 W1 := by rw [hW1]; exact (Below.refl _ _).alloc (Nat.le_refl _) _
  have sr1 := Stc.new W0 [.int .u32 0, .int .u32 0, .int .u8 0, .int .u8 0, .int .u16 0, .bool false, .bool false, .int .i64 0, .slice none 0 0] 26 W1 hW1
  rw [hz0] at sr1
  have bb1 := b0.trans (b1.mono b0.size)
  have st1 := st0.below b1
  rw [hW0] at hW1
  clear hW0 hz0 st0 b0 b1
  go_enter Try.func10, Try.ntmps10
  go_wp2_with fail
  rw [← hW1]
  clear hW1
  refine (rmayBe_ok (h.below bb1) nw hn0 hn1 hn2).mono ?_
  rintro e w2 ⟨rfl, b2⟩
  have bb2 := bb1.trans (b2.mono bb1.size)
  have st2 := st1.below b2
  have sr2 := sr1.below b2
  have x0 := st2.cell 0 _ rfl
  have x1 := st2.cell 1 _ rfl
  have x2 := st2.cell 2 _ rfl
  have x3 := st2.cell 3 _ rfl
  have x4 := st2.cell 4 _ rfl
  have x5 := st2.cell 5 _ rfl
  have x6 := st2.cell 6 _ rfl
  have x7 := st2.cell 7 _ rfl
  have x8 := st2.cell 8 _ rfl
  have hip := iput_any sr ds pr tt id dn mo (of : Int) xa xn xc zs w2 hsr hds hpr htt hid (hsl.below bb2)
  rw [hmb] at hip
  go_wp2_with fail
  refine hip.mono ?_
  rintro e w3 ⟨⟨a3, c3, rfl, _⟩, b3⟩
  have bb3 := bb2.trans (b3.mono bb2.size)
  have st3 := st2.below b3
  have sr3 := sr2.below b3
  clear x0 x1 x2 x3 x4 x5 x6 x7 x8 hip bb1 st1 sr1 b2 bb2 st2 sr2 b3
  have x0 := st3.cell 0 _ rfl
  have x1 := st3.cell 1 _ rfl
  have x2 := st3.cell 2 _ rfl
  have x3 := st3.cell 3 _ rfl
  have x4 := st3.cell 4 _ rfl
  have x5 := st3.cell 5 _ rfl
  have x6 := st3.cell 6 _ rfl
  have x7 := st3.cell 7 _ rfl
  have x8 := st3.cell 8 _ rfl
  generalize (ipV sr ds pr tt id dn mo (of : Int) zs).length = il at *
  have P3 := h.below bb3
  have htk := fun W (hW : Below w3.heap.size w3 W) => take_same (P3.below hW) sr ds pr tt id dn mo of xa xn xc zs nw ((hsl.below bb3).below hW) hxk hx0 (by omega) (by omega) hbd hsm
  have hhd := fun W => held_ok sr ds pr tt id dn mo of xa xn xc W hx0 hen
  have hgo : Calls Try.prog 19 #[.agg #[.int .u32 (sr : Nat), .int .u32 (ds : Nat), .int .u8 (pr : Nat), .int .u8 (tt : Nat), .int .u16 (id : Nat), .bool dn, .bool mo, .int .i64 (of : Nat), .slice xa xn xc]] w3 fun e w' => e = .returned (.int .i64 0) ∧ Below w3.heap.size w3 w' := hhd w3
  clear hhd
  have key : ∀ w4, Below w3.heap.size w3 w4 → True := fun _ _ => trivial
  clear key
  by_cases ho : of = 0
  · have hmo : mo = true := by
      rcases hpc with h' | h'
      · exact absurd ho h'
      · exact h'
    subst ho hmo
    clear hmb hpc
    go_wp2_with fail
    refine hgo.mono ?_
    rintro e w4 ⟨rfl, b4⟩
    have bb4 := bb3.trans (b4.mono bb3.size)
    have st4 := st3.below b4
    have sr4 := sr3.below b4
    have htk4 := htk w4 b4
    clear x0 x1 x2 x3 x4 x5 x6 x7 x8 hgo htk st3 sr3 b4
    have x0 := st4.cell 0 _ rfl
    have x1 := st4.cell 1 _ rfl
    have x2 := st4.cell 2 _ rfl
    have x3 := st4.cell 3 _ rfl
    have x4 := st4.cell 4 _ rfl
    have x5 := st4.cell 5 _ rfl
    have x6 := st4.cell 6 _ rfl
    have x7 := st4.cell 7 _ rfl
    have x8 := st4.cell 8 _ rfl
    go_wp2_with fail
    refine htk4.mono ?_
    rintro e w5 ⟨rfl, P5, G5⟩
    have G6 := (Grow.of_below (kd := kd) bb4).trans G5
    have sr5 := sr4.fr G5.fr (fun e => e hkr)
    have sr6 := sr5.put [.int .u32 0, .int .u32 0, .int .u8 0, .int .u8 0, .int .u16 0, .bool false, .bool false, .int .i64 0, .slice none 0 0] rfl
    have fr6 := fr_setCellsX (w.heap.size + 1) [.int .u32 0, .int .u32 0, .int .u8 0, .int .u8 0, .int .u16 0, .bool false, .bool false, .int .i64 0, .slice none 0 0] 0 w5
    have P6 := P5.fr fr6 (fun b _ hb => by rw [hb]; exact hkr)
    have G7 := G6.out fr6 (fun b hb => by rw [hb]; omega)
    have hrg := sr6.range
    have HFA := (show Hid _ from (⟨rfl, P6, G7⟩ : TsP kd p nw dr hs w (.returned (.tuple #[.agg #[.int .u32 0, .int .u32 0, .int .u8 0, .int .u8 0, .int .u16 0, .bool false, .bool false, .int .i64 0, .slice none 0 0], .bool false, .int .i64 0])) (w5.setCells (w.heap.size + 1) 0 [.int .u32 0, .int .u32 0, .int .u8 0, .int .u8 0, .int .u16 0, .bool false, .bool false, .int .i64 0, .slice none 0 0])))
    have t0 := sr5.cell 0 _ rfl
    have g0 := sr5.free 0
    have t1 := sr5.cell 1 _ rfl
    have g1 := sr5.free 1
    have t2 := sr5.cell 2 _ rfl
    have g2 := sr5.free 2
    have t3 := sr5.cell 3 _ rfl
    have g3 := sr5.free 3
    have t4 := sr5.cell 4 _ rfl
    have g4 := sr5.free 4
    have t5 := sr5.cell 5 _ rfl
    have g5 := sr5.free 5
    have t6 := sr5.cell 6 _ rfl
    have g6 := sr5.free 6
    have t7 := sr5.cell 7 _ rfl
    have g7 := sr5.free 7
    have t8 := sr5.cell 8 _ rfl
    have g8 := sr5.free 8
    clear htk4 P5 G5 G6 sr6 fr6 P6 G7 sr5 x0 x1 x2 x3 x4 x5 x6 x7 x8 st4 sr4
    go_wp2
    try simp only [Exit.inBlock, Exit.then]
    refine bodyPost_ret (results_cellE3 rfl _ _ (w.heap.size + 1) 0 [.int .u32 0, .int .u32 0, .int .u8 0, .int .u8 0, .int .u16 0, .bool false, .bool false, .int .i64 0, .slice none 0 0] _ rfl hrg Try.underlying26 rfl (by kernel_rfl)) rfl ?_
    exact HFA.out
  · have hoi : ¬ ((of : Nat) : Int) = 0 := by omega
    clear hmb hpc
    go_wp2_with fail
    refine hgo.mono ?_
    rintro e w4 ⟨rfl, b4⟩
    have bb4 := bb3.trans (b4.mono bb3.size)
    have st4 := st3.below b4
    have sr4 := sr3.below b4
    have htk4 := htk w4 b4
    clear x0 x1 x2 x3 x4 x5 x6 x7 x8 hgo htk st3 sr3 b4
    have x0 := st4.cell 0 _ rfl
    have x1 := st4.cell 1 _ rfl
    have x2 := st4.cell 2 _ rfl
    have x3 := st4.cell 3 _ rfl
    have x4 := st4.cell 4 _ rfl
    have x5 := st4.cell 5 _ rfl
    have x6 := st4.cell 6 _ rfl
    have x7 := st4.cell 7 _ rfl
    have x8 := st4.cell 8 _ rfl
    go_wp2_with fail
    refine htk4.mono ?_
    rintro e w5 ⟨rfl, P5, G5⟩
    have G6 := (Grow.of_below (kd := kd) bb4).trans G5
    have sr5 := sr4.fr G5.fr (fun e => e hkr)
    have sr6 := sr5.put [.int .u32 0, .int .u32 0, .int .u8 0, .int .u8 0, .int .u16 0, .bool false, .bool false, .int .i64 0, .slice none 0 0] rfl
    have fr6 := fr_setCellsX (w.heap.size + 1) [.int .u32 0, .int .u32 0, .int .u8 0, .int .u8 0, .int .u16 0, .bool false, .bool false, .int .i64 0, .slice none 0 0] 0 w5
    have P6 := P5.fr fr6 (fun b _ hb => by rw [hb]; exact hkr)
    have G7 := G6.out fr6 (fun b hb => by rw [hb]; omega)
    have hrg := sr6.range
    have HFA := (show Hid _ from (⟨rfl, P6, G7⟩ : TsP kd p nw dr hs w (.returned (.tuple #[.agg #[.int .u32 0, .int .u32 0, .int .u8 0, .int .u8 0, .int .u16 0, .bool false, .bool false, .int .i64 0, .slice none 0 0], .bool false, .int .i64 0])) (w5.setCells (w.heap.size + 1) 0 [.int .u32 0, .int .u32 0, .int .u8 0, .int .u8 0, .int .u16 0, .bool false, .bool false, .int .i64 0, .slice none 0 0])))
    have t0 := sr5.cell 0 _ rfl
    have g0 := sr5.free 0
    have t1 := sr5.cell 1 _ rfl
    have g1 := sr5.free 1
    have t2 := sr5.cell 2 _ rfl
    have g2 := sr5.free 2
    have t3 := sr5.cell 3 _ rfl
    have g3 := sr5.free 3
    have t4 := sr5.cell 4 _ rfl
    have g4 := sr5.free 4
    have t5 := sr5.cell 5 _ rfl
    have g5 := sr5.free 5
    have t6 := sr5.cell 6 _ rfl
    have g6 := sr5.free 6
    have t7 := sr5.cell 7 _ rfl
    have g7 := sr5.free 7
    have t8 := sr5.cell 8 _ rfl
    have g8 := sr5.free 8
    clear htk4 P5 G5 G6 sr6 fr6 P6 G7 sr5 x0 x1 x2 x3 x4 x5 x6 x7 x8 st4 sr4
    go_wp2
    try simp only [Exit.inBlock, Exit.then]
    refine bodyPost_ret (results_cellE3 rfl _ _ (w.heap.size + 1) 0 [.int .u32 0, .int .u32 0, .int .u8 0, .int .u8 0, .int .u16 0, .bool false, .bool false, .int .i64 0, .slice none 0 0] _ rfl hrg Try.underlying26 rfl (by kernel_rfl)) rfl ?_
    exact HFA.out
set_option linter.unusedVariables false in
set_option maxRecDepth 100000 in
set_option maxHeartbeats 1000000 in
theorem add_new {w : World} {kd : Nat → Role} {p : Nat} {now dr : Int} {hs : List Pa} (h : PoolW w kd p now dr hs) (sr ds pr tt id : Nat) (dn mo : Bool) (of : Nat) (xa : Option Addr) (xn xc : Nat) (zs : List Nat) (nw : Int) (hn0 : 0 ≤ nw) (hn1 : nw ≤ 1099511627776) (hn2 : now ≤ nw) (hsr : sr < 4294967296) (hds : ds < 4294967296) (hpr : pr < 256) (htt : tt < 256) (hid : id < 65536) (hmb : mbE mo (of : Int) xn = 0) (hsl : Sl w xa xn xc zs) (hxk : ∀ b off, xa = some ⟨b, off, none⟩ → kd b = .no) (hx0 : 0 < xn) (hen : of + xn ≤ 4096) (hpc : of ≠ 0 ∨ mo = true) (hbd : ∀ q ∈ lookD (absL hs) (sr, ds, pr, id), boundD q) (hns : (lookD (absL hs) (sr, ds, pr, id)).any (sameD ⟨sr, ds, pr, tt, id, dn, mo, (of : Int), zs⟩) = false) (hcl : ∀ q ∈ lookD (absL hs) (sr, ds, pr, id), clashD ⟨sr, ds, pr, tt, id, dn, mo, (of : Int), zs⟩ q = false) (hroom : hs.length < 4 ∨ ∃ z ∈ hs, z.t.nm = (sr, ds, pr, id)) (hcnt : ∀ z ∈ hs, z.t.n ≤ 1000000) (hsum : sumD (lookD (absL hs) (sr, ds, pr, id) ++ [⟨sr, ds, pr, tt, id, dn, mo, (of : Int), zs⟩]) ≤ 1000000) (hfit : WholeD (lookD (absL hs) (sr, ds, pr, id) ++ [⟨sr, ds, pr, tt, id, dn, mo, (of : Int), zs⟩]) → ∀ q ∈ (lookD (absL hs) (sr, ds, pr, id) ++ [⟨sr, ds, pr, tt, id, dn, mo, (of : Int), zs⟩]), q.of + q.bs.length ≤ (sumD (lookD (absL hs) (sr, ds, pr, id) ++ [⟨sr, ds, pr, tt, id, dn, mo, (of : Int), zs⟩]) : Int)) :
    Calls Try.prog 10 #[.pointer (some ⟨p, 0, none⟩), .agg #[.int .u32 (sr : Nat), .int .u32 (ds : Nat), .int .u8 (pr : Nat), .int .u8 (tt : Nat), .int .u16 (id : Nat), .bool dn, .bool mo, .int .i64 (of : Nat), .slice xa xn xc], .int .i64 nw] w (TnP kd p nw dr hs (sr, ds, pr, id) (lookD (absL hs) (sr, ds, pr, id) ++ [⟨sr, ds, pr, tt, id, dn, mo, (of : Int), zs⟩]) w) := by
  have hkr : kd (w.heap.size + 1) = .no := h.fresh _ (Nat.le_succ _)
  have hpl := h.lt
  obtain ⟨W0, hW0⟩ : ∃ W, W = w.alloc (.cells #[.int .u32 (sr : Nat), .int .u32 (ds : Nat), .int .u8 (pr : Nat), .int .u8 (tt : Nat), .int .u16 (id : Nat), .bool dn, .bool mo, .int .i64 (of : Nat), .slice xa xn xc] 26) := ⟨_, rfl⟩
  have hz0 : W0.heap.size = w.heap.size + 1 := by rw [hW0]; simp
  have b0 : Below w.heap.size w W0 := by rw [hW0]; exact (Below.refl _ _).alloc (Nat.le_refl _) _
  have st0 := Stc.new w [.int .u32 (sr : Nat), .int .u32 (ds : Nat), .int .u8 (pr : Nat), .int .u8 (tt : Nat), .int .u16 (id : Nat), .bool dn, .bool mo, .int .i64 (of : Nat), .slice xa xn xc] 26 W0 hW0
  obtain ⟨W1, hW1⟩ : ∃ W, W = W0.alloc (.cells #[.int .u32 0, .int .u32 0, .int .u8 0, .int .u8 0, .int .u16 0, .bool false, .bool false, .int .i64 0, .slice none 0 0] 26) := ⟨_, rfl⟩
  have b1 : Below W0.heap.size W0 W1 := by rw [hW1]; exact (Below.refl _ _).alloc (Nat.le_refl _) _
  have sr1 := Stc.new W0 [.int .u32 0, .int .u32 0, .int .u8 0, .int .u8 0, .int .u16 0, .bool false, .bool false, .int .i64 0, .slice none 0 0] 26 W1 hW1
  rw [hz0] at sr1
  have bb1 := b0.trans (b1.mono b0.size)
  have st1 := st0.below b1
  rw [hW0] at hW1
  clear hW0 hz0 st0 b0 b1
  go_enter Try.func10, Try.ntmps10
  go_wp2_with fail
  rw [← hW1]
  clear hW1
  refine (rmayBe_ok (h.below bb1) nw hn0 hn1 hn2).mono ?_
  rintro e w2 ⟨rfl, b2⟩
  have bb2 := bb1.trans (b2.mono bb1.size)
  have st2 := st1.below b2
  have sr2 := sr1.below b2
  have x0 := st2.cell 0 _ rfl
  have x1 := st2.cell 1 _ rfl
  have x2 := st2.cell 2 _ rfl
  have x3 := st2.cell 3 _ rfl
  have x4 := st2.cell 4 _ rfl
  have x5 := st2.cell 5 _ rfl
  have x6 := st2.cell 6 _ rfl
  have x7 := st2.cell 7 _ rfl
  have x8 := st2.cell 8 _ rfl
  have hip := iput_any sr ds pr tt id dn mo (of : Int) xa xn xc zs w2 hsr hds hpr htt hid (hsl.below bb2)
  rw [hmb] at hip
  go_wp2_with fail
  refine hip.mono ?_
  rintro e w3 ⟨⟨a3, c3, rfl, _⟩, b3⟩
  have bb3 := bb2.trans (b3.mono bb2.size)
  have st3 := st2.below b3
  have sr3 := sr2.below b3
  clear x0 x1 x2 x3 x4 x5 x6 x7 x8 hip bb1 st1 sr1 b2 bb2 st2 sr2 b3
  have x0 := st3.cell 0 _ rfl
  have x1 := st3.cell 1 _ rfl
  have x2 := st3.cell 2 _ rfl
  have x3 := st3.cell 3 _ rfl
  have x4 := st3.cell 4 _ rfl
  have x5 := st3.cell 5 _ rfl
  have x6 := st3.cell 6 _ rfl
  have x7 := st3.cell 7 _ rfl
  have x8 := st3.cell 8 _ rfl
  generalize (ipV sr ds pr tt id dn mo (of : Int) zs).length = il at *
  have P3 := h.below bb3
  have htk := fun W (hW : Below w3.heap.size w3 W) => take_new (P3.below hW) sr ds pr tt id dn mo of xa xn xc zs nw ((hsl.below bb3).below hW) hxk hx0 (by omega) (by omega) hbd hns hcl hroom hcnt hsum hfit
  have hhd := fun W => held_ok sr ds pr tt id dn mo of xa xn xc W hx0 hen
  have hgo : Calls Try.prog 19 #[.agg #[.int .u32 (sr : Nat), .int .u32 (ds : Nat), .int .u8 (pr : Nat), .int .u8 (tt : Nat), .int .u16 (id : Nat), .bool dn, .bool mo, .int .i64 (of : Nat), .slice xa xn xc]] w3 fun e w' => e = .returned (.int .i64 0) ∧ Below w3.heap.size w3 w' := hhd w3
  clear hhd
  have key : ∀ w4, Below w3.heap.size w3 w4 → True := fun _ _ => trivial
  clear key
  by_cases ho : of = 0
  · have hmo : mo = true := by
      rcases hpc with h' | h'
      · exact absurd ho h'
      · exact h'
    subst ho hmo
    clear hmb hpc
    go_wp2_with fail
    refine hgo.mono ?_
    rintro e w4 ⟨rfl, b4⟩
    have bb4 := bb3.trans (b4.mono bb3.size)
    have st4 := st3.below b4
    have sr4 := sr3.below b4
    have htk4 := htk w4 b4
    clear x0 x1 x2 x3 x4 x5 x6 x7 x8 hgo htk st3 sr3 b4
    have x0 := st4.cell 0 _ rfl
    have x1 := st4.cell 1 _ rfl
    have x2 := st4.cell 2 _ rfl
    have x3 := st4.cell 3 _ rfl
    have x4 := st4.cell 4 _ rfl
    have x5 := st4.cell 5 _ rfl
    have x6 := st4.cell 6 _ rfl
    have x7 := st4.cell 7 _ rfl
    have x8 := st4.cell 8 _ rfl
    go_wp2_with fail
    refine htk4.mono ?_
    rintro e w5 ⟨kd2, hs2, P5, G5, hres⟩
    have G6 := (Grow.of_below (kd := kd) bb4).trans G5
    have sr5 := sr4.fr G5.fr (fun e => e hkr)
    have hkr2 : kd2 (w.heap.size + 1) = .no := (G5.keep _ sr4.lt).trans hkr
    have hsl4 := sr4.lt
    rcases hres with ⟨hN, rfl, hab⟩ | ⟨hW, hab, g, rfl, slg, hkg, hgw⟩
    · have sr6 := sr5.put [.int .u32 0, .int .u32 0, .int .u8 0, .int .u8 0, .int .u16 0, .bool false, .bool false, .int .i64 0, .slice none 0 0] rfl
      have fr6 := fr_setCellsX (w.heap.size + 1) [.int .u32 0, .int .u32 0, .int .u8 0, .int .u8 0, .int .u16 0, .bool false, .bool false, .int .i64 0, .slice none 0 0] 0 w5
      have P6 := P5.fr fr6 (fun b _ hb => by rw [hb]; exact hkr2)
      have G7 := G6.out fr6 (fun b hb => by rw [hb]; omega)
      have hrg := sr6.range
      have HFA := (show Hid _ from (⟨⟨kd2, hs2, P6, G7, .inl ⟨hN, rfl, hab⟩⟩⟩ : TnP kd p nw dr hs (sr, ds, pr, id) (lookD (absL hs) (sr, ds, pr, id) ++ [⟨sr, ds, pr, tt, id, dn, true, ((0 : Nat) : Int), zs⟩]) w (.returned (.tuple #[.agg #[.int .u32 0, .int .u32 0, .int .u8 0, .int .u8 0, .int .u16 0, .bool false, .bool false, .int .i64 0, .slice none 0 0], .bool false, .int .i64 0])) (w5.setCells (w.heap.size + 1) 0 [.int .u32 0, .int .u32 0, .int .u8 0, .int .u8 0, .int .u16 0, .bool false, .bool false, .int .i64 0, .slice none 0 0])))
      have t0 := sr5.cell 0 _ rfl
      have g0 := sr5.free 0
      have t1 := sr5.cell 1 _ rfl
      have g1 := sr5.free 1
      have t2 := sr5.cell 2 _ rfl
      have g2 := sr5.free 2
      have t3 := sr5.cell 3 _ rfl
      have g3 := sr5.free 3
      have t4 := sr5.cell 4 _ rfl
      have g4 := sr5.free 4
      have t5 := sr5.cell 5 _ rfl
      have g5 := sr5.free 5
      have t6 := sr5.cell 6 _ rfl
      have g6 := sr5.free 6
      have t7 := sr5.cell 7 _ rfl
      have g7 := sr5.free 7
      have t8 := sr5.cell 8 _ rfl
      have g8 := sr5.free 8
      clear htk4 P5 G5 G6 sr6 fr6 P6 G7 sr5 x0 x1 x2 x3 x4 x5 x6 x7 x8 st4 sr4 hN hab
      go_wp2
      try simp only [Exit.inBlock, Exit.then]
      refine bodyPost_ret (results_cellE3 rfl _ _ (w.heap.size + 1) 0 [.int .u32 0, .int .u32 0, .int .u8 0, .int .u8 0, .int .u16 0, .bool false, .bool false, .int .i64 0, .slice none 0 0] _ rfl hrg Try.underlying26 rfl (by kernel_rfl)) rfl ?_
      exact HFA.out
    · obtain ⟨L, hL⟩ : ∃ L : List Pc, L = (lookD (absL hs) (sr, ds, pr, id) ++ [⟨sr, ds, pr, tt, id, dn, true, ((0 : Nat) : Int), zs⟩]) := ⟨_, rfl⟩
      have HL := (show Hid _ from hL)
      rw [← hL] at hW slg ⊢
      clear hL
      have h4z := bb4.size
      have HPOST : Hid (∀ W, PoolW W kd2 p nw dr hs2 → Grow kd kd2 w W → Sl W (some ⟨g, 0, none⟩) (sumD L) (sumD L) (bodyD (sumD L) L) → TnP kd p nw dr hs (sr, ds, pr, id) L w (.returned (.tuple #[.agg #[.int .u32 ((headD L).sr : Nat), .int .u32 ((headD L).ds : Nat), .int .u8 ((headD L).pr : Nat), .int .u8 ((headD L).tt : Nat), .int .u16 ((headD L).id : Nat), .bool (headD L).dn, .bool false, .int .i64 (headD L).of, .slice (some ⟨g, 0, none⟩) (sumD L) (sumD L)], .bool true, .int .i64 0])) W) := fun W h1 h2 h3 => ⟨⟨kd2, hs2, h1, h2, .inr ⟨hW, hab, g, rfl, h3, hkg, by omega⟩⟩⟩
      generalize (headD L).sr = z1 at *
      generalize (headD L).ds = z2 at *
      generalize (headD L).pr = z3 at *
      generalize (headD L).tt = z4 at *
      generalize (headD L).id = z5 at *
      generalize (headD L).dn = z6 at *
      generalize (headD L).of = z7 at *
      obtain ⟨BO, hBO⟩ : ∃ BO, BO = bodyD (sumD L) L := ⟨_, rfl⟩
      rw [← hBO] at HPOST slg
      obtain ⟨SU, hSU⟩ : ∃ SU, SU = sumD L := ⟨_, rfl⟩
      rw [← hSU] at HPOST slg ⊢
      clear hBO hSU hW hab
      have sr6 := sr5.put [.int .u32 (z1 : Nat), .int .u32 (z2 : Nat), .int .u8 (z3 : Nat), .int .u8 (z4 : Nat), .int .u16 (z5 : Nat), .bool z6, .bool false, .int .i64 z7, .slice (some ⟨g, 0, none⟩) SU SU] rfl
      have fr6 := fr_setCellsX (w.heap.size + 1) [.int .u32 (z1 : Nat), .int .u32 (z2 : Nat), .int .u8 (z3 : Nat), .int .u8 (z4 : Nat), .int .u16 (z5 : Nat), .bool z6, .bool false, .int .i64 z7, .slice (some ⟨g, 0, none⟩) SU SU] 0 w5
      have P6 := P5.fr fr6 (fun b _ hb => by rw [hb]; exact hkr2)
      have G7 := G6.out fr6 (fun b hb => by rw [hb]; omega)
      have sl6 := Sl.frX slg fr6 (fun b off hb e => by injection hb with hb; injection hb with hb; omega)
      have HFA := (show Hid _ from HPOST.out _ P6 G7 sl6)
      rw [HL.out] at HFA
      have hrg := sr6.range
      have t0 := sr5.cell 0 _ rfl
      have g0 := sr5.free 0
      have t1 := sr5.cell 1 _ rfl
      have g1 := sr5.free 1
      have t2 := sr5.cell 2 _ rfl
      have g2 := sr5.free 2
      have t3 := sr5.cell 3 _ rfl
      have g3 := sr5.free 3
      have t4 := sr5.cell 4 _ rfl
      have g4 := sr5.free 4
      have t5 := sr5.cell 5 _ rfl
      have g5 := sr5.free 5
      have t6 := sr5.cell 6 _ rfl
      have g6 := sr5.free 6
      have t7 := sr5.cell 7 _ rfl
      have g7 := sr5.free 7
      have t8 := sr5.cell 8 _ rfl
      have g8 := sr5.free 8
      clear htk4 P5 G5 G6 sr6 fr6 P6 G7 sr5 x0 x1 x2 x3 x4 x5 x6 x7 x8 st4 sr4 slg sl6 HPOST
      go_wp2
      try simp only [Exit.inBlock, Exit.then]
      refine bodyPost_ret (results_cellE3 rfl _ _ (w.heap.size + 1) 0 [.int .u32 (z1 : Nat), .int .u32 (z2 : Nat), .int .u8 (z3 : Nat), .int .u8 (z4 : Nat), .int .u16 (z5 : Nat), .bool z6, .bool false, .int .i64 z7, .slice (some ⟨g, 0, none⟩) SU SU] _ rfl hrg Try.underlying26 rfl (by kernel_rfl)) rfl ?_
      exact HFA.out
  · have hoi : ¬ ((of : Nat) : Int) = 0 := by omega
    clear hmb hpc
    go_wp2_with fail
    refine hgo.mono ?_
    rintro e w4 ⟨rfl, b4⟩
    have bb4 := bb3.trans (b4.mono bb3.size)
    have st4 := st3.below b4
    have sr4 := sr3.below b4
    have htk4 := htk w4 b4
    clear x0 x1 x2 x3 x4 x5 x6 x7 x8 hgo htk st3 sr3 b4
    have x0 := st4.cell 0 _ rfl
    have x1 := st4.cell 1 _ rfl
    have x2 := st4.cell 2 _ rfl
    have x3 := st4.cell 3 _ rfl
    have x4 := st4.cell 4 _ rfl
    have x5 := st4.cell 5 _ rfl
    have x6 := st4.cell 6 _ rfl
    have x7 := st4.cell 7 _ rfl
    have x8 := st4.cell 8 _ rfl
    go_wp2_with fail
    refine htk4.mono ?_
    rintro e w5 ⟨kd2, hs2, P5, G5, hres⟩
    have G6 := (Grow.of_below (kd := kd) bb4).trans G5
    have sr5 := sr4.fr G5.fr (fun e => e hkr)
    have hkr2 : kd2 (w.heap.size + 1) = .no := (G5.keep _ sr4.lt).trans hkr
    have hsl4 := sr4.lt
    rcases hres with ⟨hN, rfl, hab⟩ | ⟨hW, hab, g, rfl, slg, hkg, hgw⟩
    · have sr6 := sr5.put [.int .u32 0, .int .u32 0, .int .u8 0, .int .u8 0, .int .u16 0, .bool false, .bool false, .int .i64 0, .slice none 0 0] rfl
      have fr6 := fr_setCellsX (w.heap.size + 1) [.int .u32 0, .int .u32 0, .int .u8 0, .int .u8 0, .int .u16 0, .bool false, .bool false, .int .i64 0, .slice none 0 0] 0 w5
      have P6 := P5.fr fr6 (fun b _ hb => by rw [hb]; exact hkr2)
      have G7 := G6.out fr6 (fun b hb => by rw [hb]; omega)
      have hrg := sr6.range
      have HFA := (show Hid _ from (⟨⟨kd2, hs2, P6, G7, .inl ⟨hN, rfl, hab⟩⟩⟩ : TnP kd p nw dr hs (sr, ds, pr, id) (lookD (absL hs) (sr, ds, pr, id) ++ [⟨sr, ds, pr, tt, id, dn, mo, (of : Int), zs⟩]) w (.returned (.tuple #[.agg #[.int .u32 0, .int .u32 0, .int .u8 0, .int .u8 0, .int .u16 0, .bool false, .bool false, .int .i64 0, .slice none 0 0], .bool false, .int .i64 0])) (w5.setCells (w.heap.size + 1) 0 [.int .u32 0, .int .u32 0, .int .u8 0, .int .u8 0, .int .u16 0, .bool false, .bool false, .int .i64 0, .slice none 0 0])))
      have t0 := sr5.cell 0 _ rfl
      have g0 := sr5.free 0
      have t1 := sr5.cell 1 _ rfl
      have g1 := sr5.free 1
      have t2 := sr5.cell 2 _ rfl
      have g2 := sr5.free 2
      have t3 := sr5.cell 3 _ rfl
      have g3 := sr5.free 3
      have t4 := sr5.cell 4 _ rfl
      have g4 := sr5.free 4
      have t5 := sr5.cell 5 _ rfl
      have g5 := sr5.free 5
      have t6 := sr5.cell 6 _ rfl
      have g6 := sr5.free 6
      have t7 := sr5.cell 7 _ rfl
      have g7 := sr5.free 7
      have t8 := sr5.cell 8 _ rfl
      have g8 := sr5.free 8
      clear htk4 P5 G5 G6 sr6 fr6 P6 G7 sr5 x0 x1 x2 x3 x4 x5 x6 x7 x8 st4 sr4 hN hab
      go_wp2
      try simp only [Exit.inBlock, Exit.then]
      refine bodyPost_ret (results_cellE3 rfl _ _ (w.heap.size + 1) 0 [.int .u32 0, .int .u32 0, .int .u8 0, .int .u8 0, .int .u16 0, .bool false, .bool false, .int .i64 0, .slice none 0 0] _ rfl hrg Try.underlying26 rfl (by kernel_rfl)) rfl ?_
      exact HFA.out
    · obtain ⟨L, hL⟩ : ∃ L : List Pc, L = (lookD (absL hs) (sr, ds, pr, id) ++ [⟨sr, ds, pr, tt, id, dn, mo, (of : Int), zs⟩]) := ⟨_, rfl⟩
      have HL := (show Hid _ from hL)
      rw [← hL] at hW slg ⊢
      clear hL
      have h4z := bb4.size
      have HPOST : Hid (∀ W, PoolW W kd2 p nw dr hs2 → Grow kd kd2 w W → Sl W (some ⟨g, 0, none⟩) (sumD L) (sumD L) (bodyD (sumD L) L) → TnP kd p nw dr hs (sr, ds, pr, id) L w (.returned (.tuple #[.agg #[.int .u32 ((headD L).sr : Nat), .int .u32 ((headD L).ds : Nat), .int .u8 ((headD L).pr : Nat), .int .u8 ((headD L).tt : Nat), .int .u16 ((headD L).id : Nat), .bool (headD L).dn, .bool false, .int .i64 (headD L).of, .slice (some ⟨g, 0, none⟩) (sumD L) (sumD L)], .bool true, .int .i64 0])) W) := fun W h1 h2 h3 => ⟨⟨kd2, hs2, h1, h2, .inr ⟨hW, hab, g, rfl, h3, hkg, by omega⟩⟩⟩
      generalize (headD L).sr = z1 at *
      generalize (headD L).ds = z2 at *
      generalize (headD L).pr = z3 at *
      generalize (headD L).tt = z4 at *
      generalize (headD L).id = z5 at *
      generalize (headD L).dn = z6 at *
      generalize (headD L).of = z7 at *
      obtain ⟨BO, hBO⟩ : ∃ BO, BO = bodyD (sumD L) L := ⟨_, rfl⟩
      rw [← hBO] at HPOST slg
      obtain ⟨SU, hSU⟩ : ∃ SU, SU = sumD L := ⟨_, rfl⟩
      rw [← hSU] at HPOST slg ⊢
      clear hBO hSU hW hab
      have sr6 := sr5.put [.int .u32 (z1 : Nat), .int .u32 (z2 : Nat), .int .u8 (z3 : Nat), .int .u8 (z4 : Nat), .int .u16 (z5 : Nat), .bool z6, .bool false, .int .i64 z7, .slice (some ⟨g, 0, none⟩) SU SU] rfl
      have fr6 := fr_setCellsX (w.heap.size + 1) [.int .u32 (z1 : Nat), .int .u32 (z2 : Nat), .int .u8 (z3 : Nat), .int .u8 (z4 : Nat), .int .u16 (z5 : Nat), .bool z6, .bool false, .int .i64 z7, .slice (some ⟨g, 0, none⟩) SU SU] 0 w5
      have P6 := P5.fr fr6 (fun b _ hb => by rw [hb]; exact hkr2)
      have G7 := G6.out fr6 (fun b hb => by rw [hb]; omega)
      have sl6 := Sl.frX slg fr6 (fun b off hb e => by injection hb with hb; injection hb with hb; omega)
      have HFA := (show Hid _ from HPOST.out _ P6 G7 sl6)
      rw [HL.out] at HFA
      have hrg := sr6.range
      have t0 := sr5.cell 0 _ rfl
      have g0 := sr5.free 0
      have t1 := sr5.cell 1 _ rfl
      have g1 := sr5.free 1
      have t2 := sr5.cell 2 _ rfl
      have g2 := sr5.free 2
      have t3 := sr5.cell 3 _ rfl
      have g3 := sr5.free 3
      have t4 := sr5.cell 4 _ rfl
      have g4 := sr5.free 4
      have t5 := sr5.cell 5 _ rfl
      have g5 := sr5.free 5
      have t6 := sr5.cell 6 _ rfl
      have g6 := sr5.free 6
      have t7 := sr5.cell 7 _ rfl
      have g7 := sr5.free 7
      have t8 := sr5.cell 8 _ rfl
      have g8 := sr5.free 8
      clear htk4 P5 G5 G6 sr6 fr6 P6 G7 sr5 x0 x1 x2 x3 x4 x5 x6 x7 x8 st4 sr4 slg sl6 HPOST
      go_wp2
      try simp only [Exit.inBlock, Exit.then]
      refine bodyPost_ret (results_cellE3 rfl _ _ (w.heap.size + 1) 0 [.int .u32 (z1 : Nat), .int .u32 (z2 : Nat), .int .u8 (z3 : Nat), .int .u8 (z4 : Nat), .int .u16 (z5 : Nat), .bool z6, .bool false, .int .i64 z7, .slice (some ⟨g, 0, none⟩) SU SU] _ rfl hrg Try.underlying26 rfl (by kernel_rfl)) rfl ?_
      exact HFA.out
end Go.Proofs.Ytnbagloifbllbaa
