/- (*reasm.Pool).take. -/
import Derived.Test.YtnbagloifbllbaaRsE
namespace Go.Proofs.Ytnbagloifbllbaa
open Go.RowKit
theorem results_cellE3 {fn : Func} {p u v : Tmp} {ty : TypeId} (h : fn.results = #[.cell p ty, .tmp u, .tmp v]) (tmps : Array Value) (w : World) (g o : Nat) (cs : List Value) (d : TypeDesc)
    (hp : tmps.getD p undef = .pointer (some ⟨g, o, none⟩)) (hc : w.rangeAt g o cs) (hu : Try.prog.underlying ty = some d) (hd : d.isRow = true) (hi : (Try.prog.info? ty).map (·.size) = some cs.length) :
    (results fn tmps).run Try.prog w = .ok (.tuple #[.agg cs.toArray, tmps.getD u undef, tmps.getD v undef]) w := by
  have hp' : tmps[p]?.getD undef = .pointer (some ⟨g, o, none⟩) := by simpa using hp
  simp only [results, h]
  simp [hp', asAddr, run_loadVar_mid w g o ty cs d hc hu hd hi, Result.andThen]
theorem Grow.out {kd kd' : Nat → Role} {w w1 w2 : World} {Q : Nat → Prop} (hG : Grow kd kd' w w1) (hf : Fr Q w1 w2) (hQ : ∀ b, Q b → w.heap.size ≤ b) : Grow kd kd' w w2 := by
  have hz := hG.fr.size
  refine ⟨hG.keep, ⟨hf.os.trans hG.fr.os, hf.tape.trans hG.fr.tape, hf.output.trans hG.fr.output, Nat.le_trans hz hf.size, fun k hk hn => ?_⟩⟩
  exact (hf.block k (by omega) (fun e => by have := hQ k e; omega)).trans (hG.fr.block k hk hn)
theorem hold_abs {hs hs1 : List Pa} {nm : Nm} {t0 : Pt} {i : Nat} {x : Pa} (hn : (hs.map (·.t.nm)).Nodup) (ht0 : t0.nm = nm) (hrel : hs1 = hs ∨ ((∀ z ∈ hs, z.t.nm ≠ nm) ∧ hs1 = hs ++ [⟨t0, []⟩])) (hi : hs1[i]? = some x) (hxm : x.t.nm = nm) :
    x.ps.map dat = lookD (absL hs) nm ∧ (∀ y : Pa, y.t.nm = nm → absL (hs1.set i y) = putD (absL hs) nm (y.ps.map dat)) ∧ (∀ y : Pa, absL ((hs1.set i y).eraseIdx i) = delD (absL hs) nm) := by
  rcases hrel with rfl | ⟨hno, rfl⟩
  · subst hxm
    refine ⟨(look_at hn hi).symm, fun y hy => put_at hn hi hy, fun y => ?_⟩
    rw [List.eraseIdx_set_eq]
    exact del_at hn hi
  · have hil := (List.getElem?_eq_some_iff.1 hi).1
    have hie : i = hs.length := by
      rw [List.length_append] at hil
      rcases Nat.lt_or_ge i hs.length with h | h
      · rw [List.getElem?_append_left h] at hi
        exact absurd hxm (hno x (List.mem_of_getElem? hi))
      · simp at hil; omega
    subst hie
    have hx : x = ⟨t0, []⟩ := by simpa using hi.symm
    refine ⟨by rw [hx, look_no hno]; rfl, fun y hy => ?_, fun y => ?_⟩
    · rw [List.set_append_right _ _ (Nat.le_refl _), Nat.sub_self]
      exact put_no hno hy
    · rw [List.eraseIdx_set_eq, List.eraseIdx_append_of_length_le (Nat.le_refl _), Nat.sub_self]
      rw [del_no (fun e he => by
        obtain ⟨z, hz, rfl⟩ := List.mem_map.1 he
        exact hno z hz)]
      simp
theorem wholeP_dat {ps : List (Pk × List Nat)} {b : Bool} (hl : ∀ q ∈ ps, q.2.length = q.1.n) (h : WholeP (ps.map (·.1)) b) : (b = true → WholeD (ps.map dat)) ∧ (b = false → NotD (ps.map dat)) := by
  obtain ⟨h1, h2⟩ := h
  rw [sumD_dat ps hl] at h1 h2
  refine ⟨fun hb => ?_, fun hb => ?_⟩
  · obtain ⟨x, hx, h3, h4⟩ := h1 hb
    obtain ⟨q, hq, rfl⟩ := List.mem_map.1 hx
    exact ⟨dat q, List.mem_map.2 ⟨q, hq, rfl⟩, h3, by rw [h4]; show q.1.of + (q.1.n : Int) = q.1.of + (q.2.length : Int); rw [hl q hq]⟩
  · rcases h2 hb with h3 | ⟨x, hx, h3, h4⟩
    · refine .inl (fun q hq => ?_)
      obtain ⟨z, hz, rfl⟩ := List.mem_map.1 hq
      exact h3 z.1 (List.mem_map.2 ⟨z, hz, rfl⟩)
    · obtain ⟨q, hq, rfl⟩ := List.mem_map.1 hx
      refine .inr ⟨dat q, List.mem_map.2 ⟨q, hq, rfl⟩, h3, fun e => h4 ?_⟩
      rw [e]
      show q.1.of + (q.2.length : Int) = q.1.of + (q.1.n : Int)
      rw [hl q hq]
/-- The piece is there already. -/
structure TsP (kd : Nat → Role) (p : Nat) (now dr : Int) (hs : List Pa) (w : World) (e : Ending) (w' : World) : Prop where
  ans : e = .returned (.tuple #[.agg #[.int .u32 0, .int .u32 0, .int .u8 0, .int .u8 0, .int .u16 0, .bool false, .bool false, .int .i64 0, .slice none 0 0], .bool false, .int .i64 0])
  pool : PoolW w' kd p now dr hs
  gr : Grow kd kd w w'
/-- It is new: L: all that are there then. -/
structure TnP (kd : Nat → Role) (p : Nat) (now dr : Int) (hs : List Pa) (nm : Nm) (L : List Pc) (w : World) (e : Ending) (w' : World) : Prop where
  ans : ∃ kd' hs', PoolW w' kd' p now dr hs' ∧ Grow kd kd' w w' ∧ ((NotD L ∧ e = .returned (.tuple #[.agg #[.int .u32 0, .int .u32 0, .int .u8 0, .int .u8 0, .int .u16 0, .bool false, .bool false, .int .i64 0, .slice none 0 0], .bool false, .int .i64 0]) ∧ absL hs' = putD (absL hs) nm L) ∨
    (WholeD L ∧ absL hs' = delD (absL hs) nm ∧ ∃ g, e = .returned (.tuple #[.agg #[.int .u32 ((headD L).sr : Nat), .int .u32 ((headD L).ds : Nat), .int .u8 ((headD L).pr : Nat), .int .u8 ((headD L).tt : Nat), .int .u16 ((headD L).id : Nat), .bool (headD L).dn, .bool false, .int .i64 (headD L).of, .slice (some ⟨g, 0, none⟩) (sumD L) (sumD L)], .bool true, .int .i64 0]) ∧ Sl w' (some ⟨g, 0, none⟩) (sumD L) (sumD L) (bodyD (sumD L) L) ∧ kd' g = .no ∧ w.heap.size ≤ g))
set_option linter.unusedVariables false in
set_option maxRecDepth 100000 in
set_option maxHeartbeats 1000000 in
theorem take_same {w : World} {kd : Nat → Role} {p : Nat} {now dr : Int} {hs : List Pa} (h : PoolW w kd p now dr hs) (sr ds pr tt id : Nat) (dn mo : Bool) (of : Nat) (xa : Option Addr) (xn xc : Nat) (zs : List Nat) (nw : Int) (hsl : Sl w xa xn xc zs) (hxk : ∀ b off, xa = some ⟨b, off, none⟩ → kd b = .no) (hx0 : 0 < xn) (hxb : xn ≤ 100000) (hob : of ≤ 100000) (hbd : ∀ q ∈ lookD (absL hs) (sr, ds, pr, id), boundD q) (hsm : (lookD (absL hs) (sr, ds, pr, id)).any (sameD ⟨sr, ds, pr, tt, id, dn, mo, (of : Int), zs⟩) = true) :
    Calls Try.prog 20 #[.pointer (some ⟨p, 0, none⟩), .agg #[.int .u32 (sr : Nat), .int .u32 (ds : Nat), .int .u8 (pr : Nat), .int .u8 (tt : Nat), .int .u16 (id : Nat), .bool dn, .bool mo, .int .i64 (of : Nat), .slice xa xn xc], .int .i64 nw] w (TsP kd p nw dr hs w) := by
  have hkb : kd w.heap.size = .no := h.fresh _ (Nat.le_refl _)
  have hkr : kd (w.heap.size + 1) = .no := h.fresh _ (Nat.le_succ _)
  have hpl := h.lt
  obtain ⟨W0, hW0⟩ : ∃ W, W = w.alloc (.cells #[.int .u32 (sr : Nat), .int .u32 (ds : Nat), .int .u8 (pr : Nat), .int .u8 (tt : Nat), .int .u16 (id : Nat), .bool dn, .bool mo, .int .i64 (of : Nat), .slice xa xn xc] 26) := ⟨_, rfl⟩
  have hz0 : W0.heap.size = w.heap.size + 1 := by rw [hW0]; simp
  have b0 : Below w.heap.size w W0 := by rw [hW0]; exact (Below.refl _ _).alloc (Nat.le_refl _) _
  have st0 := Stc.new w [.int .u32 (sr : Nat), .int .u32 (ds : Nat), .int .u8 (pr : Nat), .int .u8 (tt : Nat), .int .u16 (id : Nat), .bool dn, .bool mo, .int .i64 (of : Nat), .slice xa xn xc] 26 W0 hW0
  obtain ⟨W1, hW1⟩ : ∃ W, W = W0.alloc (.cells #[.int .u32 0, .int .u32 0, .int .u8 0, .int .u8 0, .int .u16 0, .bool false, .bool false, .int .i64 0, .slice none 0 0] 26) := ⟨_, rfl⟩
  have b1 : Below W0.heap.size W0 W1 := by rw [hW1]; exact (Below.refl _ _).alloc (Nat.le_refl _) _
  have sr1 := Stc.new W0 [.int .u32 0, .int .u32 0, .int .u8 0, .int .u8 0, .int .u16 0, .bool false, .bool false, .int .i64 0, .slice none 0 0] 26 W1 hW1
  rw [hz0] at sr1
  have bb1 := b0.trans (b1.mono b0.size)
  have st1 := st0.below b1
  have x0 := st1.cell 0 _ rfl
  have x1 := st1.cell 1 _ rfl
  have x2 := st1.cell 2 _ rfl
  have x3 := st1.cell 3 _ rfl
  have x4 := st1.cell 4 _ rfl
  have x5 := st1.cell 5 _ rfl
  have x6 := st1.cell 6 _ rfl
  have x7 := st1.cell 7 _ rfl
  have x8 := st1.cell 8 _ rfl
  rw [hW0] at hW1
  clear hW0 hz0
  go_enter Try.func20, Try.ntmps20
  go_wp2_with fail
  rw [← hW1]
  clear hW1
  refine (nameOf_any sr ds pr tt id dn mo of _ W1).mono ?_
  rintro e w2 ⟨rfl, b2⟩
  clear x0 x1 x2 x3 x4 x5 x6 x7 x8
  have bb2 := bb1.trans (b2.mono bb1.size)
  have st2 := st1.below b2
  have sr2 := sr1.below b2
  obtain ⟨w3, hw3⟩ : ∃ W, W = w2.alloc (.cells #[.int .u32 (sr : Nat), .int .u32 (ds : Nat), .int .u8 (pr : Nat), .int .u16 (id : Nat)] 56) := ⟨_, rfl⟩
  have b3 : Below w2.heap.size w2 w3 := by rw [hw3]; exact (Below.refl _ _).alloc (Nat.le_refl _) _
  have sn3 := Stc.new w2 [.int .u32 (sr : Nat), .int .u32 (ds : Nat), .int .u8 (pr : Nat), .int .u16 (id : Nat)] 56 w3 hw3
  have st3 := st2.below b3
  have sr3 := sr2.below b3
  have bb3 := bb2.trans (b3.mono bb2.size)
  have hnz := bb2.size
  have hkn : kd w2.heap.size = .no := h.fresh _ hnz
  have h3 := h.below bb3
  have n0 := sn3.cell 0 _ rfl
  have n1 := sn3.cell 1 _ rfl
  have n2 := sn3.cell 2 _ rfl
  have n3 := sn3.cell 3 _ rfl
  go_wp2_with fail
  rw [← hw3]
  clear hw3
  refine (pieces_any h3 sr ds pr id).mono ?_
  intro e w4 hpi
  obtain ⟨TH, ta, tn, tc, rfl, ht, hTD⟩ := there_of h3 hpi
  have b4 := hpi.bel
  have bb4 := bb3.trans (b4.mono bb3.size)
  have st4 := st3.below b4
  have sr4 := sr3.below b4
  have sn4 := sn3.below b4
  have hsl4 := hsl.below bb4
  rw [← hTD] at hbd
  clear n0 n1 n2 n3 hpi b4 st3 sr3 sn3 bb3 st2 sr2 bb2 b2 b3 st1 sr1 bb1 b1 b0 st0 h3
  have hps := any_same sr ds pr tt id dn mo of xa xn xc zs TH ta tn tc w.heap.size w4 ht hbd hsl4 st4 _ _ rfl rfl
  go_wp2_with fail
  refine hps.mono ?_
  rintro e w5 ⟨rfl, b5⟩
  have bb5 := bb4.trans (b5.mono bb4.size)
  have st5 := st4.below b5
  have sr5 := sr4.below b5
  have sn5 := sn4.below b5
  have h5 := h.below bb5
  obtain ⟨a, c, hc5, _, _⟩ := h5.cells
  have c50 := hc5.cell 0 _ rfl
  have f50 := hc5.free 0
  rw [← hTD] at hsm
  rw [hsm]
  have P6 := h5.tick nw
  have sr6 := sr5.other p 0 (.int .i64 nw) (by omega)
  have G6 := (Grow.of_below (kd := kd) bb5).trans ⟨fun _ _ => rfl, Fr.setCell (fun g => kd g ≠ .no) w5 ⟨p, 0, none⟩ (.int .i64 nw) (by rw [h.kp]; exact fun e => (by cases e))⟩
  obtain ⟨w6, hw6⟩ : ∃ W, W = w5.setCell ⟨p, 0, none⟩ (.int .i64 nw) := ⟨_, rfl⟩
  rw [← hw6] at P6 sr6 G6
  have sr7 := sr6.put [.int .u32 0, .int .u32 0, .int .u8 0, .int .u8 0, .int .u16 0, .bool false, .bool false, .int .i64 0, .slice none 0 0] rfl
  have fr7 := fr_setCellsX (w.heap.size + 1) [.int .u32 0, .int .u32 0, .int .u8 0, .int .u8 0, .int .u16 0, .bool false, .bool false, .int .i64 0, .slice none 0 0] 0 w6
  have P7 := P6.fr fr7 (fun b _ hb => by rw [hb]; exact hkr)
  have G7 := G6.out fr7 (fun b hb => by rw [hb]; omega)
  have hrg := sr7.range
  have HFA := (show Hid _ from (⟨rfl, P7, G7⟩ : TsP kd p nw dr hs w (.returned (.tuple #[.agg #[.int .u32 0, .int .u32 0, .int .u8 0, .int .u8 0, .int .u16 0, .bool false, .bool false, .int .i64 0, .slice none 0 0], .bool false, .int .i64 0])) (w6.setCells (w.heap.size + 1) 0 [.int .u32 0, .int .u32 0, .int .u8 0, .int .u8 0, .int .u16 0, .bool false, .bool false, .int .i64 0, .slice none 0 0])))
  have t0 := sr5.cell 0 _ rfl
  have g0 := sr5.free 0
  have t1 := sr5.cell 1 _ rfl
  have g1 := sr5.free 1
  have t2 := sr5.cell 2 _ rfl
  have g2 := sr5.free 2
  have t3 := sr5.cell 3 _ rfl
  have g3 := sr5.free 3
  have t4 := sr5.cell 4 _ rfl
  have g4 := sr5.free 4
  have t5 := sr5.cell 5 _ rfl
  have g5 := sr5.free 5
  have t6 := sr5.cell 6 _ rfl
  have g6 := sr5.free 6
  have t7 := sr5.cell 7 _ rfl
  have g7 := sr5.free 7
  have t8 := sr5.cell 8 _ rfl
  have g8 := sr5.free 8
  have HW6 := (show Hid _ from hw6)
  rw [HW6.out] at HFA hrg
  clear hps hsm hw6 P6 sr6 G6 P7 G7 sr7 fr7 h5 hc5 st5 sr5 sn5 b5 bb5 st4 sr4 sn4 hsl4 bb4 ht
  go_wp2
  try simp only [Exit.inBlock, Exit.then]
  refine bodyPost_ret (results_cellE3 rfl _ _ (w.heap.size + 1) 0 [.int .u32 0, .int .u32 0, .int .u8 0, .int .u8 0, .int .u16 0, .bool false, .bool false, .int .i64 0, .slice none 0 0] _ rfl hrg Try.underlying26 rfl (by kernel_rfl)) rfl ?_
  exact HFA.out
set_option linter.unusedVariables false in
set_option maxRecDepth 100000 in
set_option maxHeartbeats 1000000 in
theorem take_new {w : World} {kd : Nat → Role} {p : Nat} {now dr : Int} {hs : List Pa} (h : PoolW w kd p now dr hs) (sr ds pr tt id : Nat) (dn mo : Bool) (of : Nat) (xa : Option Addr) (xn xc : Nat) (zs : List Nat) (nw : Int) (hsl : Sl w xa xn xc zs) (hxk : ∀ b off, xa = some ⟨b, off, none⟩ → kd b = .no) (hx0 : 0 < xn) (hxb : xn ≤ 100000) (hob : of ≤ 100000) (hbd : ∀ q ∈ lookD (absL hs) (sr, ds, pr, id), boundD q) (hns : (lookD (absL hs) (sr, ds, pr, id)).any (sameD ⟨sr, ds, pr, tt, id, dn, mo, (of : Int), zs⟩) = false) (hcl : ∀ q ∈ lookD (absL hs) (sr, ds, pr, id), clashD ⟨sr, ds, pr, tt, id, dn, mo, (of : Int), zs⟩ q = false) (hroom : hs.length < 4 ∨ ∃ z ∈ hs, z.t.nm = (sr, ds, pr, id)) (hcnt : ∀ z ∈ hs, z.t.n ≤ 1000000) (hsum : sumD (lookD (absL hs) (sr, ds, pr, id) ++ [⟨sr, ds, pr, tt, id, dn, mo, (of : Int), zs⟩]) ≤ 1000000) (hfit : WholeD (lookD (absL hs) (sr, ds, pr, id) ++ [⟨sr, ds, pr, tt, id, dn, mo, (of : Int), zs⟩]) → ∀ q ∈ (lookD (absL hs) (sr, ds, pr, id) ++ [⟨sr, ds, pr, tt, id, dn, mo, (of : Int), zs⟩]), q.of + q.bs.length ≤ (sumD (lookD (absL hs) (sr, ds, pr, id) ++ [⟨sr, ds, pr, tt, id, dn, mo, (of : Int), zs⟩]) : Int)) :
    Calls Try.prog 20 #[.pointer (some ⟨p, 0, none⟩), .agg #[.int .u32 (sr : Nat), .int .u32 (ds : Nat), .int .u8 (pr : Nat), .int .u8 (tt : Nat), .int .u16 (id : Nat), .bool dn, .bool mo, .int .i64 (of : Nat), .slice xa xn xc], .int .i64 nw] w (TnP kd p nw dr hs (sr, ds, pr, id) (lookD (absL hs) (sr, ds, pr, id) ++ [⟨sr, ds, pr, tt, id, dn, mo, (of : Int), zs⟩]) w) := by
  have hkb : kd w.heap.size = .no := h.fresh _ (Nat.le_refl _)
  have hkr : kd (w.heap.size + 1) = .no := h.fresh _ (Nat.le_succ _)
  have hpl := h.lt
  obtain ⟨W0, hW0⟩ : ∃ W, W = w.alloc (.cells #[.int .u32 (sr : Nat), .int .u32 (ds : Nat), .int .u8 (pr : Nat), .int .u8 (tt : Nat), .int .u16 (id : Nat), .bool dn, .bool mo, .int .i64 (of : Nat), .slice xa xn xc] 26) := ⟨_, rfl⟩
  have hz0 : W0.heap.size = w.heap.size + 1 := by rw [hW0]; simp
  have b0 : Below w.heap.size w W0 := by rw [hW0]; exact (Below.refl _ _).alloc (Nat.le_refl _) _
  have st0 := Stc.new w [.int .u32 (sr : Nat), .int .u32 (ds : Nat), .int .u8 (pr : Nat), .int .u8 (tt : Nat), .int .u16 (id : Nat), .bool dn, .bool mo, .int .i64 (of : Nat), .slice xa xn xc] 26 W0 hW0
  obtain ⟨W1, hW1⟩ : ∃ W, W = W0.alloc (.cells #[.int .u32 0, .int .u32 0, .int .u8 0, .int .u8 0, .int .u16 0, .bool false, .bool false, .int .i64 0, .slice none 0 0] 26) := ⟨_, rfl⟩
  have b1 : Below W0.heap.size W0 W1 := by rw [hW1]; exact (Below.refl _ _).alloc (Nat.le_refl _) _
  have sr1 := Stc.new W0 [.int .u32 0, .int .u32 0, .int .u8 0, .int .u8 0, .int .u16 0, .bool false, .bool false, .int .i64 0, .slice none 0 0] 26 W1 hW1
  rw [hz0] at sr1
  have bb1 := b0.trans (b1.mono b0.size)
  have st1 := st0.below b1
  have x0 := st1.cell 0 _ rfl
  have x1 := st1.cell 1 _ rfl
  have x2 := st1.cell 2 _ rfl
  have x3 := st1.cell 3 _ rfl
  have x4 := st1.cell 4 _ rfl
  have x5 := st1.cell 5 _ rfl
  have x6 := st1.cell 6 _ rfl
  have x7 := st1.cell 7 _ rfl
  have x8 := st1.cell 8 _ rfl
  rw [hW0] at hW1
  clear hW0 hz0
  go_enter Try.func20, Try.ntmps20
  go_wp2_with fail
  rw [← hW1]
  clear hW1
  refine (nameOf_any sr ds pr tt id dn mo of _ W1).mono ?_
  rintro e w2 ⟨rfl, b2⟩
  clear x0 x1 x2 x3 x4 x5 x6 x7 x8
  have bb2 := bb1.trans (b2.mono bb1.size)
  have st2 := st1.below b2
  have sr2 := sr1.below b2
  obtain ⟨w3, hw3⟩ : ∃ W, W = w2.alloc (.cells #[.int .u32 (sr : Nat), .int .u32 (ds : Nat), .int .u8 (pr : Nat), .int .u16 (id : Nat)] 56) := ⟨_, rfl⟩
  have b3 : Below w2.heap.size w2 w3 := by rw [hw3]; exact (Below.refl _ _).alloc (Nat.le_refl _) _
  have sn3 := Stc.new w2 [.int .u32 (sr : Nat), .int .u32 (ds : Nat), .int .u8 (pr : Nat), .int .u16 (id : Nat)] 56 w3 hw3
  have st3 := st2.below b3
  have sr3 := sr2.below b3
  have bb3 := bb2.trans (b3.mono bb2.size)
  have hnz := bb2.size
  have hkn : kd w2.heap.size = .no := h.fresh _ hnz
  have h3 := h.below bb3
  have n0 := sn3.cell 0 _ rfl
  have n1 := sn3.cell 1 _ rfl
  have n2 := sn3.cell 2 _ rfl
  have n3 := sn3.cell 3 _ rfl
  go_wp2_with fail
  rw [← hw3]
  clear hw3
  refine (pieces_any h3 sr ds pr id).mono ?_
  intro e w4 hpi
  obtain ⟨TH, ta, tn, tc, rfl, ht, hTD⟩ := there_of h3 hpi
  have b4 := hpi.bel
  have bb4 := bb3.trans (b4.mono bb3.size)
  have st4 := st3.below b4
  have sr4 := sr3.below b4
  have sn4 := sn3.below b4
  have hsl4 := hsl.below bb4
  rw [← hTD] at hbd
  clear n0 n1 n2 n3 hpi b4 st3 sr3 sn3 bb3 st2 sr2 bb2 b2 b3 st1 sr1 bb1 b1 b0 st0 h3
  have hps := any_same sr ds pr tt id dn mo of xa xn xc zs TH ta tn tc w.heap.size w4 ht hbd hsl4 st4 _ _ rfl rfl
  go_wp2_with fail
  refine hps.mono ?_
  rintro e w5 ⟨rfl, b5⟩
  have bb5 := bb4.trans (b5.mono bb4.size)
  have st5 := st4.below b5
  have sr5 := sr4.below b5
  have sn5 := sn4.below b5
  have h5 := h.below bb5
  obtain ⟨a, c, hc5, _, _⟩ := h5.cells
  have c50 := hc5.cell 0 _ rfl
  have f50 := hc5.free 0
  rw [← hTD] at hns hcl
  rw [hns]
  have hpc := any_clash sr ds pr tt id dn mo of xa xn xc zs TH ta tn tc w.heap.size w5 (ht.below b5) hbd (hsl4.below b5) hob hxb hcl st5 _ _ rfl rfl
  clear c50 f50 hps
  go_wp2_with fail
  refine hpc.mono ?_
  rintro e w6 ⟨rfl, b6⟩
  have bb6 := bb5.trans (b6.mono bb5.size)
  have st6 := st5.below b6
  have sr6 := sr5.below b6
  have sn6 := sn5.below b6
  have h6 := h.below bb6
  obtain ⟨a6, c6, hc6, _, _⟩ := h6.cells
  have c60 := hc6.cell 0 _ rfl
  have f60 := hc6.free 0
  have P7 := h6.tick nw
  have sr7 := sr6.other p 0 (.int .i64 nw) (by omega)
  have st7 := st6.other p 0 (.int .i64 nw) (by omega)
  have sn7 := sn6.other p 0 (.int .i64 nw) (by omega)
  have G7 := (Grow.of_below (kd := kd) bb6).trans ⟨fun _ _ => rfl, Fr.setCell (fun g => kd g ≠ .no) w6 ⟨p, 0, none⟩ (.int .i64 nw) (by rw [h.kp]; exact fun e => (by cases e))⟩
  have hsl7 := Sl.frX hsl G7.fr (fun b off hb e => e (hxk b off hb))
  obtain ⟨w7, hw7⟩ : ∃ W, W = w6.setCell ⟨p, 0, none⟩ (.int .i64 nw) := ⟨_, rfl⟩
  rw [← hw7] at P7 sr7 st7 sn7 G7 hsl7
  have hho := hold_any P7 sr ds pr tt id dn mo (of : Int) xa xn xc zs hroom hsl7 hxk hx0 (by omega) hcnt
  have x0 := st6.cell 0 _ rfl
  have x1 := st6.cell 1 _ rfl
  have x2 := st6.cell 2 _ rfl
  have x3 := st6.cell 3 _ rfl
  have x4 := st6.cell 4 _ rfl
  have x5 := st6.cell 5 _ rfl
  have x6 := st6.cell 6 _ rfl
  have x7 := st6.cell 7 _ rfl
  have x8 := st6.cell 8 _ rfl
  clear hpc hns hcl bb6 sr6 sn6 hc6 h6 bb5 st5 sr5 sn5 h5 hc5 bb4 sr4 sn4 st4 hsl4 ht
  go_wp2_with fail
  rw [← hw7]
  clear hw7 c60 f60 x0 x1 x2 x3 x4 x5 x6 x7 x8
  refine hho.mono ?_
  rintro e w8 ⟨hs1, i, x, bb, c2, g2, c3, kd2, hrel, hi, hxm, rfl, P8, G8⟩
  have G9 := G7.trans G8
  obtain ⟨hlk, hput, hdel⟩ := hold_abs (t0 := ⟨sr, ds, pr, id, nw, none, 0, 0⟩) h.nodup rfl hrel hi hxm
  have hil := (List.getElem?_eq_some_iff.1 hi).1
  have hi2 : (hs1.set i ⟨x.t.with (some ⟨g2, 0, none⟩) (x.t.n + 1) c3, x.ps ++ [((⟨sr, ds, pr, tt, id, dn, mo, (of : Int), some ⟨bb, 0, none⟩, zs.length, c2⟩ : Pk), zs)]⟩)[i]? = some ⟨x.t.with (some ⟨g2, 0, none⟩) (x.t.n + 1) c3, x.ps ++ [((⟨sr, ds, pr, tt, id, dn, mo, (of : Int), some ⟨bb, 0, none⟩, zs.length, c2⟩ : Pk), zs)]⟩ := by rw [List.getElem?_set, if_pos rfl, if_pos hil]
  have hPa := P8.each _ (List.mem_of_getElem? hi2)
  have hdt : (x.ps ++ [((⟨sr, ds, pr, tt, id, dn, mo, (of : Int), some ⟨bb, 0, none⟩, zs.length, c2⟩ : Pk), zs)]).map dat = lookD (absL hs) (sr, ds, pr, id) ++ [⟨sr, ds, pr, tt, id, dn, mo, (of : Int), zs⟩] := by rw [List.map_append, hlk]; rfl
  have hput2 := hput ⟨x.t.with (some ⟨g2, 0, none⟩) (x.t.n + 1) c3, x.ps ++ [((⟨sr, ds, pr, tt, id, dn, mo, (of : Int), some ⟨bb, 0, none⟩, zs.length, c2⟩ : Pk), zs)]⟩ hxm
  have hdel2 := hdel ⟨x.t.with (some ⟨g2, 0, none⟩) (x.t.n + 1) c3, x.ps ++ [((⟨sr, ds, pr, tt, id, dn, mo, (of : Int), some ⟨bb, 0, none⟩, zs.length, c2⟩ : Pk), zs)]⟩
  dsimp only at hput2
  rw [hdt] at hput2
  have hnm2 : (x.t.with (some ⟨g2, 0, none⟩) (x.t.n + 1) c3).nm = (sr, ds, pr, id) := hxm
  obtain ⟨PS, hPS⟩ : ∃ PS : List (Pk × List Nat), PS = x.ps ++ [((⟨sr, ds, pr, tt, id, dn, mo, (of : Int), some ⟨bb, 0, none⟩, zs.length, c2⟩ : Pk), zs)] := ⟨_, rfl⟩
  obtain ⟨hs2, hhs2⟩ : ∃ hs2 : List Pa, hs2 = hs1.set i ⟨x.t.with (some ⟨g2, 0, none⟩) (x.t.n + 1) c3, PS⟩ := ⟨_, rfl⟩
  rw [← hPS] at P8 hi2 hPa hdt hput2 hdel2
  rw [← hhs2] at P8 hi2 hput2 hdel2
  obtain ⟨L, hL⟩ : ∃ L : List Pc, L = lookD (absL hs) (sr, ds, pr, id) ++ [⟨sr, ds, pr, tt, id, dn, mo, (of : Int), zs⟩] := ⟨_, rfl⟩
  have hbL : ∀ q ∈ L, boundD q := by
    intro q hq
    rw [hL] at hq
    rcases List.mem_append.1 hq with hq | hq
    · exact hbd q (by rw [hTD]; exact hq)
    · rw [List.mem_singleton] at hq
      subst hq
      have := hsl.len
      exact ⟨of, rfl, hob, by dsimp only; omega, by dsimp only; omega⟩
  rw [← hL] at hsum hfit hdt hput2
  have HL := (show Hid _ from hL)
  have hlens : ∀ q ∈ PS, q.2.length = q.1.n := fun q hq => (hPa.bs q hq).1.len
  have hsumK := sumD_dat PS hlens
  rw [hdt] at hsumK
  have hrowP := hPa.row
  dsimp only [Pt.with] at hrowP
  have hiw := isWhole_any 0 (some ⟨g2, 0, none⟩) (x.t.n + 1) c3 (PS.map (·.1)) w8 hrowP (by rw [hsumK]; omega) (fun y hy => by
    obtain ⟨q, hq, rfl⟩ := List.mem_map.1 hy
    obtain ⟨o, h1, h2, h3, h4⟩ := hbL (dat q) (by rw [← hdt]; exact List.mem_map.2 ⟨q, hq, rfl⟩)
    have h5 := hlens q hq
    exact ⟨o, h1, h2, by rw [← h5]; exact h4⟩)
  have hkr2 : kd2 (w.heap.size + 1) = .no := (G8.keep _ sr7.lt).trans hkr
  have sr8 := sr7.fr G8.fr (fun e => e hkr)
  have sn8 := sn7.fr G8.fr (fun e => e hkn)
  have sr8l := sr8.lt
  obtain ⟨N1, hN1⟩ : ∃ N1, N1 = x.t.n + 1 := ⟨_, rfl⟩
  rw [← hN1] at hiw hrowP ⊢
  have HDT := (show Hid _ from hdt)
  have HSK := (show Hid _ from hsumK)
  have HPU := (show Hid _ from hput2)
  have HDE := (show Hid _ from hdel2)
  have HNM := (show Hid _ from hnm2)
  have HN1 := (show Hid _ from hN1)
  have HFI := (show Hid _ from hfit)
  have HLE := (show Hid _ from hlens)
  have HBL := (show Hid _ from hbL)
  have HI2 := (show Hid _ from hi2)
  clear hdt hsumK hput2 hdel2 hnm2 hN1 hfit hlens hbL hi2
  clear hho hput hdel hlk hhs2 hPS hrel hi hxm sr7 sn7 st7 G7 G8 P7 hsl7 hcnt hroom hbd hL hTD hil
  go_wp2_with fail
  refine hiw.mono ?_
  rintro e w9 ⟨⟨b, rfl, hWP⟩, b9⟩
  have hW9 := wholeP_dat HLE.out hWP
  rw [HDT.out] at hW9
  have sr9 := sr8.below b9
  have sn9 := sn8.below b9
  have P9 := P8.below b9
  have G10 := G9.trans (Grow.of_below (kd := kd2) b9)
  clear hiw hWP sr8 sn8 G9
  cases b with
  | false =>
    have hnw := hW9.2 rfl
    have sr10 := sr9.put [.int .u32 0, .int .u32 0, .int .u8 0, .int .u8 0, .int .u16 0, .bool false, .bool false, .int .i64 0, .slice none 0 0] rfl
    have fr10 := fr_setCellsX (w.heap.size + 1) [.int .u32 0, .int .u32 0, .int .u8 0, .int .u8 0, .int .u16 0, .bool false, .bool false, .int .i64 0, .slice none 0 0] 0 w9
    have P10 := P9.fr fr10 (fun b _ hb => by rw [hb]; exact hkr2)
    have G11 := G10.out fr10 (fun b hb => by rw [hb]; omega)
    have hrg := sr10.range
    have HFA := (show Hid _ from (⟨⟨kd2, hs2, P10, G11, .inl ⟨hnw, rfl, HPU.out⟩⟩⟩ : TnP kd p nw dr hs (sr, ds, pr, id) L w (.returned (.tuple #[.agg #[.int .u32 0, .int .u32 0, .int .u8 0, .int .u8 0, .int .u16 0, .bool false, .bool false, .int .i64 0, .slice none 0 0], .bool false, .int .i64 0])) (w9.setCells (w.heap.size + 1) 0 [.int .u32 0, .int .u32 0, .int .u8 0, .int .u8 0, .int .u16 0, .bool false, .bool false, .int .i64 0, .slice none 0 0])))
    have t0 := sr9.cell 0 _ rfl
    have g0 := sr9.free 0
    have t1 := sr9.cell 1 _ rfl
    have g1 := sr9.free 1
    have t2 := sr9.cell 2 _ rfl
    have g2 := sr9.free 2
    have t3 := sr9.cell 3 _ rfl
    have g3 := sr9.free 3
    have t4 := sr9.cell 4 _ rfl
    have g4 := sr9.free 4
    have t5 := sr9.cell 5 _ rfl
    have g5 := sr9.free 5
    have t6 := sr9.cell 6 _ rfl
    have g6 := sr9.free 6
    have t7 := sr9.cell 7 _ rfl
    have g7 := sr9.free 7
    have t8 := sr9.cell 8 _ rfl
    have g8 := sr9.free 8
    rw [HL.out] at HFA
    clear hW9 hnw P10 G11 sr10 fr10 P9 G10 sr9 sn9 P8 hPa hrowP
    go_wp2
    try simp only [Exit.inBlock, Exit.then]
    refine bodyPost_ret (results_cellE3 rfl _ _ (w.heap.size + 1) 0 [.int .u32 0, .int .u32 0, .int .u8 0, .int .u8 0, .int .u16 0, .bool false, .bool false, .int .i64 0, .slice none 0 0] _ rfl hrg Try.underlying26 rfl (by kernel_rfl)) rfl ?_
    exact HFA.out
  | true =>
    have hw := hW9.1 rfl
    have hfw := HFI.out hw
    have hPa9 := hPa.below b9
    have hjo := joined_any 0 (some ⟨g2, 0, none⟩) N1 c3 PS w9 (by rw [HN1.out]; exact hPa9.row) (fun q hq => (hPa9.bs q hq).1) (by rw [HSK.out]; omega) (fun q hq => by
      obtain ⟨o, h1, h2, h3, h4⟩ := HBL.out (dat q) (by rw [← HDT.out]; exact List.mem_map.2 ⟨q, hq, rfl⟩)
      have h5 := HLE.out q hq
      have h6 := hfw (dat q) (by rw [← HDT.out]; exact List.mem_map.2 ⟨q, hq, rfl⟩)
      have h1' : q.1.of = (o : Int) := h1
      have h6' : q.1.of + (q.2.length : Int) ≤ (sumD L : Int) := h6
      have h3' : 0 < q.2.length := h3
      exact ⟨o, h1, by omega, by rw [HSK.out]; omega⟩)
    clear hW9 hfw
    go_wp2_with fail
    refine hjo.mono ?_
    rintro e w10 ⟨⟨g, rfl, oJ⟩, b10⟩
    obtain ⟨e1, e2, e3, e4, e5, e6, e7⟩ := headD_dat PS
    rw [HDT.out] at e1 e2 e3 e4 e5 e6 e7
    rw [e1, e2, e3, e4, e5, e6, e7, HSK.out]
    rw [HSK.out, bodyD_dat, HDT.out] at oJ
    have hgl := oJ.own.lt g rfl
    have h89 := b9.size
    have h910 := b10.size
    have hkg : kd2 g = .no := P9.fresh g hgl.1
    have sr10 := sr9.below b10
    have sn10 := sn9.below b10
    have P10 := P9.below b10
    have G11 := G10.trans (Grow.of_below (kd := kd2) b10)
    have slJ := oJ.sl (by omega)
    have hgw : w.heap.size ≤ g := by omega
    have HPOST : Hid (∀ W, PoolW W kd2 p nw dr (hs2.eraseIdx i) → Grow kd kd2 w W → Sl W (some ⟨g, 0, none⟩) (sumD L) (sumD L) (bodyD (sumD L) L) → TnP kd p nw dr hs (sr, ds, pr, id) L w (.returned (.tuple #[.agg #[.int .u32 ((headD L).sr : Nat), .int .u32 ((headD L).ds : Nat), .int .u8 ((headD L).pr : Nat), .int .u8 ((headD L).tt : Nat), .int .u16 ((headD L).id : Nat), .bool (headD L).dn, .bool false, .int .i64 (headD L).of, .slice (some ⟨g, 0, none⟩) (sumD L) (sumD L)], .bool true, .int .i64 0])) W) := fun W h1 h2 h3 => ⟨⟨kd2, hs2.eraseIdx i, h1, h2, .inr ⟨hw, HDE.out, g, rfl, h3, hkg, hgw⟩⟩⟩
    clear hjo e1 e2 e3 e4 e5 e6 e7 oJ b10 sr9 sn9 P9 G10 hPa9 hw
    generalize (headD L).sr = z1 at *
    generalize (headD L).ds = z2 at *
    generalize (headD L).pr = z3 at *
    generalize (headD L).tt = z4 at *
    generalize (headD L).id = z5 at *
    generalize (headD L).dn = z6 at *
    generalize (headD L).of = z7 at *
    obtain ⟨BO, hBO⟩ : ∃ BO, BO = bodyD (sumD L) L := ⟨_, rfl⟩
    rw [← hBO] at HPOST slJ
    obtain ⟨SU, hSU⟩ : ∃ SU, SU = sumD L := ⟨_, rfl⟩
    rw [← hSU] at HPOST slJ ⊢
    clear hBO hSU
    obtain ⟨w11, hw11⟩ : ∃ W, W = w10.alloc (.cells #[.int .u32 (z1 : Nat), .int .u32 (z2 : Nat), .int .u8 (z3 : Nat), .int .u8 (z4 : Nat), .int .u16 (z5 : Nat), .bool z6, .bool false, .int .i64 z7, .slice (some ⟨g, 0, none⟩) SU SU] 26) := ⟨_, rfl⟩
    have b11 : Below w10.heap.size w10 w11 := by rw [hw11]; exact (Below.refl _ _).alloc (Nat.le_refl _) _
    have sw11 := Stc.new w10 [.int .u32 (z1 : Nat), .int .u32 (z2 : Nat), .int .u8 (z3 : Nat), .int .u8 (z4 : Nat), .int .u16 (z5 : Nat), .bool z6, .bool false, .int .i64 z7, .slice (some ⟨g, 0, none⟩) SU SU] 26 w11 hw11
    have sn11 := sn10.below b11
    have hnl := sn10.lt
    have n0 := sn10.cell 0 _ rfl
    have n1 := sn10.cell 1 _ rfl
    have n2 := sn10.cell 2 _ rfl
    have n3 := sn10.cell 3 _ rfl
    go_wp2_with fail
    rw [← hw11]
    clear hw11
    refine (named_any sr ds pr id w11).mono ?_
    rintro e w12 ⟨rfl, sq, b12⟩
    have bb12 := b11.trans (b12.mono b11.size)
    have P12 := P10.below bb12
    have G12 := G11.trans (Grow.of_below (kd := kd2) bb12)
    have sw12 := sw11.below b12
    have sr12 := sr10.below bb12
    have sl12 := slJ.below bb12
    have h11z := b11.size
    have hkq : kd2 w11.heap.size = .no := P8.fresh _ (by omega)
    have hkw : kd2 w10.heap.size = .no := P8.fresh _ (by omega)
    have hfo := forget_any P12 w11.heap.size sr ds pr id sq hkq i _ HI2.out HNM.out
    clear n0 n1 n2 n3 sn10 sn11 b11 b12 bb12 P10 G11 sw11 sr10 slJ
    go_wp2_with fail
    refine hfo.mono ?_
    rintro e w13 ⟨⟨v13, rfl⟩, P13, G13⟩
    have G14 := G12.trans G13
    have sw13 := sw12.fr G13.fr (fun e => e hkw)
    have sr13 := sr12.fr G13.fr (fun e => e hkr2)
    have sl13 := Sl.frX sl12 G13.fr (fun b off hb e => e (by injection hb with hb; injection hb with hb; rw [← hb]; exact hkg))
    have sr14 := sr13.put [.int .u32 (z1 : Nat), .int .u32 (z2 : Nat), .int .u8 (z3 : Nat), .int .u8 (z4 : Nat), .int .u16 (z5 : Nat), .bool z6, .bool false, .int .i64 z7, .slice (some ⟨g, 0, none⟩) SU SU] rfl
    have fr14 := fr_setCellsX (w.heap.size + 1) [.int .u32 (z1 : Nat), .int .u32 (z2 : Nat), .int .u8 (z3 : Nat), .int .u8 (z4 : Nat), .int .u16 (z5 : Nat), .bool z6, .bool false, .int .i64 z7, .slice (some ⟨g, 0, none⟩) SU SU] 0 w13
    have P14 := P13.fr fr14 (fun b _ hb => by rw [hb]; exact hkr2)
    have G15 := G14.out fr14 (fun b hb => by rw [hb]; omega)
    have hz8 : w.heap.size + 1 < w8.heap.size := Nat.lt_of_lt_of_le sr8l (Nat.le_refl _)
    have sl14 := Sl.frX sl13 fr14 (fun b off hb e => by injection hb with hb; injection hb with hb; omega)
    have HFA := (show Hid _ from HPOST.out _ P14 G15 sl14)
    have hrg := sr14.range
    rw [HL.out] at HFA
    have m0 := sw13.cell 0 _ rfl
    have m1 := sw13.cell 1 _ rfl
    have m2 := sw13.cell 2 _ rfl
    have m3 := sw13.cell 3 _ rfl
    have m4 := sw13.cell 4 _ rfl
    have m5 := sw13.cell 5 _ rfl
    have m6 := sw13.cell 6 _ rfl
    have m7 := sw13.cell 7 _ rfl
    have m8 := sw13.cell 8 _ rfl
    have t0 := sr13.cell 0 _ rfl
    have g0 := sr13.free 0
    have t1 := sr13.cell 1 _ rfl
    have g1 := sr13.free 1
    have t2 := sr13.cell 2 _ rfl
    have g2 := sr13.free 2
    have t3 := sr13.cell 3 _ rfl
    have g3 := sr13.free 3
    have t4 := sr13.cell 4 _ rfl
    have g4 := sr13.free 4
    have t5 := sr13.cell 5 _ rfl
    have g5 := sr13.free 5
    have t6 := sr13.cell 6 _ rfl
    have g6 := sr13.free 6
    have t7 := sr13.cell 7 _ rfl
    have g7 := sr13.free 7
    have t8 := sr13.cell 8 _ rfl
    have g8 := sr13.free 8
    clear hfo sq P12 P13 P14 G12 G13 G14 G15 sw12 sr12 sl12 sl13 sl14 sw13 sr13 sr14 fr14 HPOST P8 hPa hrowP
    go_wp2
    try simp only [Exit.inBlock, Exit.then]
    refine bodyPost_ret (results_cellE3 rfl _ _ (w.heap.size + 1) 0 [.int .u32 (z1 : Nat), .int .u32 (z2 : Nat), .int .u8 (z3 : Nat), .int .u8 (z4 : Nat), .int .u16 (z5 : Nat), .bool z6, .bool false, .int .i64 z7, .slice (some ⟨g, 0, none⟩) SU SU] _ rfl hrg Try.underlying26 rfl (by kernel_rfl)) rfl ?_
    exact HFA.out
end Go.Proofs.Ytnbagloifbllbaa
