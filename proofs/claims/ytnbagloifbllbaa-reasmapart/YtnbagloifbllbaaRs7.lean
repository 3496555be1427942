/- reasm.joined. -/
import Derived.Test.YtnbagloifbllbaaRs6
import Derived.Test.YtnbagloifbllbaaPcS
import Derived.Test.YtnbagloifbllbaaRSp
import Derived.Test.YtnbagloifbllbaaCopy
import Derived.Test.YtnbagloifbllbaaStX
namespace Go.Proofs.Ytnbagloifbllbaa
open Go.RowKit
/-- Pieces with their bytes. -/
def Pks.Ok (w : World) (ps : List (Pk × List Nat)) : Prop := ∀ p ∈ ps, Sl w p.1.a p.1.n p.1.c p.2
theorem Pks.Ok.below {w w' : World} {ps : List (Pk × List Nat)} (h : Pks.Ok w ps) (hb : Below w.heap.size w w') : Pks.Ok w' ps := fun p hp => (h p hp).below hb
theorem pk_one (x : Pk) : ∀ u ∈ x.cells, u.oneCell' = true := fun u hu => valsK_one [x] u (by simpa [valsK] using hu)
def zeroK : Pk := ⟨0, 0, 0, 0, 0, false, false, 0, none, 0, 0⟩
def headK (ps : List (Pk × List Nat)) : Pk := ps.foldl (fun z p => if p.1.of = 0 then p.1 else z) zeroK
def bodyK (S : Nat) (ps : List (Pk × List Nat)) : List Nat := ps.foldl (fun b p => lay b p.1.of.toNat p.2) (List.replicate S 0)
theorem headK_succ (ps : List (Pk × List Nat)) (j : Nat) (p : Pk × List Nat) (h : ps[j]? = some p) : headK (ps.take (j + 1)) = if p.1.of = 0 then p.1 else headK (ps.take j) := by
  unfold headK
  rw [List.take_add_one, h]
  simp
theorem bodyK_succ (S : Nat) (ps : List (Pk × List Nat)) (j : Nat) (p : Pk × List Nat) (h : ps[j]? = some p) : bodyK S (ps.take (j + 1)) = lay (bodyK S (ps.take j)) p.1.of.toNat p.2 := by
  unfold bodyK
  rw [List.take_add_one, h]
  simp
structure JoP (ps : List (Pk × List Nat)) (w : World) (e : Ending) (w' : World) : Prop where
  ans : ∃ g, e = .returned (.agg #[.int .u32 ((headK ps).sr : Nat), .int .u32 ((headK ps).ds : Nat), .int .u8 ((headK ps).pr : Nat), .int .u8 ((headK ps).tt : Nat), .int .u16 ((headK ps).id : Nat), .bool (headK ps).dn, .bool false, .int .i64 (headK ps).of, .slice (some ⟨g, 0, none⟩) (sumK (ps.map (·.1))) (sumK (ps.map (·.1)))]) ∧ OwnB w' w.heap.size (some ⟨g, 0, none⟩) (sumK (ps.map (·.1))) (sumK (ps.map (·.1))) (bodyK (sumK (ps.map (·.1))) ps)
  bel : Below w.heap.size w w'
set_option maxRecDepth 100000 in
set_option maxHeartbeats 1000000 in
theorem joined_any (B : Nat) (a : Option Addr) (n c : Nat) (ps : List (Pk × List Nat)) (w : World) (ho : OwnK w B a n c (ps.map (·.1))) (hsl : Pks.Ok w ps) (hb : sumK (ps.map (·.1)) ≤ 1000000) (hof : ∀ p ∈ ps, ∃ o : Nat, p.1.of = (o : Int) ∧ 0 < p.1.n ∧ o + p.1.n ≤ sumK (ps.map (·.1))) :
    Calls Try.prog 39 #[.slice a n c] w (JoP ps w) := by
  have hnb : n ≤ 9223372036854775807 := by
    by_cases h : 0 < n
    · obtain ⟨_, _, _, _, h1, h2, _⟩ := ho.at_ h
      unfold maxLen at h2
      omega
    · omega
  have hlen := ho.len
  rw [List.length_map] at hlen
  have HLEN := (show Hid _ from hlen)
  clear hlen
  have hw1 : Below w.heap.size w ((w.alloc (.cells zeroK.cells.toArray 26)).alloc (.cells zeroK.cells.toArray 26)) := ((Below.refl _ _).alloc (Nat.le_refl _) _).alloc (by simp) _
  have st1 := (Stc.new w zeroK.cells 26 _ rfl).below ((Below.refl _ _).alloc (Nat.le_refl _) (.cells zeroK.cells.toArray 26))
  have st2 := Stc.new (w.alloc (.cells zeroK.cells.toArray 26)) zeroK.cells 26 _ rfl
  rw [show (w.alloc (.cells zeroK.cells.toArray 26)).heap.size = w.heap.size + 1 by simp] at st2
  obtain ⟨W1, hW1⟩ : ∃ W, W = (w.alloc (.cells zeroK.cells.toArray 26)).alloc (.cells zeroK.cells.toArray 26) := ⟨_, rfl⟩
  have HZ1 : Hid (W1.heap.size = w.heap.size + 2) := by show _ = _; rw [hW1]; simp
  rw [← hW1] at hw1 st1 st2
  have hby := bytesOf_any B a n c _ W1 (ho.below hw1) (by omega)
  have hW2 : W1 = (w.alloc (.cells #[.int .u32 0, .int .u32 0, .int .u8 0, .int .u8 0, .int .u16 0, .bool false, .bool false, .int .i64 0, .slice none 0 0] 26)).alloc (.cells #[.int .u32 0, .int .u32 0, .int .u8 0, .int .u8 0, .int .u16 0, .bool false, .bool false, .int .i64 0, .slice none 0 0] 26) := hW1
  clear hW1
  obtain ⟨SU, hSU⟩ : ∃ SU, SU = sumK (ps.map (·.1)) := ⟨_, rfl⟩
  have HSU := (show Hid _ from hSU)
  rw [← hSU] at hby hb
  simp only [← hSU] at hof
  clear hSU
  go_enter Try.func39, Try.ntmps39
  go_wp2_with fail
  rw [← hW2]
  clear hW2
  refine hby.mono ?_
  rintro e w2 ⟨rfl, b2⟩
  have st1 := st1.below b2
  have st2 := st2.below b2
  have bb2 := hw1.trans (b2.mono hw1.size)
  have hz2 : w.heap.size + 2 ≤ w2.heap.size := by have := b2.size; rw [HZ1.out] at this; exact this
  have mk := fun W => mkn SU (by omega) W
  obtain ⟨CC, hCC⟩ : ∃ CC, CC = madeCells #[.int .u8 0] SU := ⟨_, rfl⟩
  have oF := own_full w2 SU (by omega)
  rw [← hCC] at mk oF
  clear hCC
  have b23 : Below w2.heap.size w2 (w2.alloc (.cells CC 5)) := (Below.refl _ _).alloc (Nat.le_refl _) _
  have st1 := st1.below b23
  have st2 := st2.below b23
  have bb3 := bb2.trans (b23.mono bb2.size)
  obtain ⟨w3, hw3⟩ : ∃ w3, w3 = w2.alloc (.cells CC 5) := ⟨_, rfl⟩
  rw [← hw3] at oF st1 st2 bb3
  have HW3 := (show Hid _ from hw3)
  clear hby b2 b23 hw1 bb2
  go_wp2_with fail
  rw [← HW3.out]
  generalize hgb : w2.heap.size = gb at *
  clear hw3 hgb HW3 mk
  go_loopw [6, 12] (fun _ iv wr => ∃ j : Nat, j ≤ n ∧ iv = .int .i64 (j : Nat) ∧ Stc wr w.heap.size zeroK.cells ∧ Stc wr (w.heap.size + 1) (headK (ps.take j)).cells ∧ OwnB wr gb (some ⟨gb, 0, none⟩) SU SU (bodyK SU (ps.take j)) ∧ Below w.heap.size w wr) (fun _ iv _ => n - (intOf iv).toNat)
  case atStart => exact ⟨0, by omega, rfl, st1, st2, oF, bb3⟩
  case round =>
    obtain ⟨j, hj, rfl, hr1, hr2, hro, hbel⟩ := hrel
    clear st1 st2 oF bb3
    by_cases hjn : j < n
    · have hji : (j : Int) < (n : Int) := by omega
      obtain ⟨p, hp⟩ : ∃ p, ps[j]? = some p := ⟨_, List.getElem?_eq_getElem (by rw [HLEN.out]; exact hjn)⟩
      have hpm := List.mem_of_getElem? hp
      have hor := ho.below hbel
      obtain ⟨o, hpo, hp0, hpS⟩ := hof p hpm
      have hsp := (hsl p hpm).below hbel
      obtain ⟨g, rfl, _, hgl, hcap, _, hcell⟩ := hor.at_ (by omega)
      have hx : (ps.map (·.1))[j]? = some p.1 := by rw [List.getElem?_map, hp]; rfl
      have l0 := hcell j p.1 hx 0 _ rfl
      have l1 := hcell j p.1 hx 1 _ rfl
      have l2 := hcell j p.1 hx 2 _ rfl
      have l3 := hcell j p.1 hx 3 _ rfl
      have l4 := hcell j p.1 hx 4 _ rfl
      have l5 := hcell j p.1 hx 5 _ rfl
      have l6 := hcell j p.1 hx 6 _ rfl
      have l7 := hcell j p.1 hx 7 _ rfl
      have l8 := hcell j p.1 hx 8 _ rfl
      simp only [Nat.add_zero] at l0
      rw [hpo] at l7
      have HH := (show Hid _ from headK_succ ps j p hp)
      have HBO := (show Hid _ from bodyK_succ SU ps j p hp)
      rw [show p.1.of.toNat = o by rw [hpo]; rfl] at HBO
      obtain ⟨⟨sr, ds, pr, tt, id, dn, mo, of, xa, xn, xc⟩, ys⟩ := p
      dsimp only at hpo hp0 hpS hsp l0 l1 l2 l3 l4 l5 l6 l7 l8 HH HBO
      subst hpo
      have hol : o < SU := by omega
      have hsf := slice_fromE gb 0 SU SU o hol (Nat.le_refl _)
      rw [Nat.zero_add] at hsf
      obtain ⟨wb, hwb⟩ : ∃ wb, wb = (wr.alloc (.cells #[.int .u32 (sr : Nat), .int .u32 (ds : Nat), .int .u8 (pr : Nat), .int .u8 (tt : Nat), .int .u16 (id : Nat), .bool dn, .bool mo, .int .i64 (o : Nat), .slice xa xn xc] 26)) := ⟨_, rfl⟩
      have bwb : Below wr.heap.size wr wb := by rw [hwb]; exact (Below.refl _ _).alloc (Nat.le_refl _) _
      have sx := Stc.new wr [.int .u32 (sr : Nat), .int .u32 (ds : Nat), .int .u8 (pr : Nat), .int .u8 (tt : Nat), .int .u16 (id : Nat), .bool dn, .bool mo, .int .i64 (o : Nat), .slice xa xn xc] 26 wb hwb
      have sx := sx.below (Below.refl _ _).drew
      have bwd : Below wr.heap.size wr wb.drew := bwb.trans ((Below.refl _ _).drew.mono bwb.size)
      have hr1d := hr1.below bwd
      have hr2d := hr2.below bwd
      have hrod := hro.below bwd
      have hspd := hsp.below bwd
      obtain ⟨w4, hcp, ho4, hg4⟩ := copy_run wb.drew gb gb o (SU - o) (SU - o) SU SU (some ⟨gb, o, none⟩) _ hrod xa xn xc ys hspd (fun _ => rfl) (by omega) (by omega)
      have hgbl := hro.own.lt gb rfl
      have fr4 : Fr (fun q => q = gb) wb.drew w4 := Fr.grown hg4 (fun k hk => by injection hk with hk; exact hk.symm)
      have sx4 := sx.fr fr4 (by have := hgbl.2; show ¬ wr.heap.size = gb; omega)
      have hr14 := hr1d.fr fr4 (by show ¬ w.heap.size = gb; omega)
      have hr24 := hr2d.fr fr4 (by show ¬ w.heap.size + 1 = gb; omega)
      have hz4 := fr4.size
      have hzr := hbel.size
      have bb4 : Below w.heap.size w w4 := (hbel.trans (bwd.mono hzr)).trans (fr4.below w.heap.size (by have := bwd.size; omega) (fun k hk => by subst hk; omega))
      have d0 := sx.cell 0 _ rfl
      have d1 := sx.cell 1 _ rfl
      have d2 := sx.cell 2 _ rfl
      have d3 := sx.cell 3 _ rfl
      have d4 := sx.cell 4 _ rfl
      have d5 := sx.cell 5 _ rfl
      have d6 := sx.cell 6 _ rfl
      have d7 := sx.cell 7 _ rfl
      have d8 := sx.cell 8 _ rfl
      have k0 := sx4.cell 0 _ rfl
      have k1 := sx4.cell 1 _ rfl
      have k2 := sx4.cell 2 _ rfl
      have k3 := sx4.cell 3 _ rfl
      have k4 := sx4.cell 4 _ rfl
      have k5 := sx4.cell 5 _ rfl
      have k6 := sx4.cell 6 _ rfl
      have k7 := sx4.cell 7 _ rfl
      have k8 := sx4.cell 8 _ rfl
      clear hr1 hr2 hro hsp hor hr1d hr2d hrod hspd bwb hcell hof hsl
      go_wp2_with fail
      rw [← hwb]
      clear l0 l1 l2 l3 l4 l5 l6 l7 l8 hwb
      go_region_held3 (fun w' => w'.cell? ⟨wr.heap.size, 0, none⟩ = some (.int .u32 (sr : Nat)) ∧ w'.cell? ⟨wr.heap.size, 1, none⟩ = some (.int .u32 (ds : Nat)) ∧ w'.cell? ⟨wr.heap.size, 2, none⟩ = some (.int .u8 (pr : Nat)) ∧ w'.cell? ⟨wr.heap.size, 3, none⟩ = some (.int .u8 (tt : Nat)) ∧ w'.cell? ⟨wr.heap.size, 4, none⟩ = some (.int .u16 (id : Nat)) ∧ w'.cell? ⟨wr.heap.size, 5, none⟩ = some (.bool dn) ∧ w'.cell? ⟨wr.heap.size, 6, none⟩ = some (.bool mo) ∧ w'.cell? ⟨wr.heap.size, 7, none⟩ = some (.int .i64 (o : Nat)) ∧ w'.cell? ⟨wr.heap.size, 8, none⟩ = some (.slice xa xn xc)) (first | exact ⟨d0, d1, d2, d3, d4, d5, d6, d7, d8⟩ | exact ⟨k0, k1, k2, k3, k4, k5, k6, k7, k8⟩ | fail) (fail)
      clear d0 d1 d2 d3 d4 d5 d6 d7 d8 hcp hsf
      by_cases ho0 : o = 0
      · subst ho0
        have HH0 : Hid (headK (ps.take (j + 1)) = ⟨sr, ds, pr, tt, id, dn, mo, ((0 : Nat) : Int), xa, xn, xc⟩) := by show _ = _; rw [HH.out]; rfl
        have hrg : w4.rangeAt wr.heap.size 0 [.int .u32 (sr : Nat), .int .u32 (ds : Nat), .int .u8 (pr : Nat), .int .u8 (tt : Nat), .int .u16 (id : Nat), .bool dn, .bool mo, .int .i64 0, .slice xa xn xc] := sx4.range
        have k7 : w4.cell? ⟨wr.heap.size, 7, none⟩ = some (.int .i64 0) := k7
        have hth := hr24.there
        have hr25 := hr24.put [.int .u32 (sr : Nat), .int .u32 (ds : Nat), .int .u8 (pr : Nat), .int .u8 (tt : Nat), .int .u16 (id : Nat), .bool dn, .bool mo, .int .i64 0, .slice xa xn xc] rfl
        have fr5 := fr_setCellsX (w.heap.size + 1) [.int .u32 (sr : Nat), .int .u32 (ds : Nat), .int .u8 (pr : Nat), .int .u8 (tt : Nat), .int .u16 (id : Nat), .bool dn, .bool mo, .int .i64 0, .slice xa xn xc] 0 w4
        have hr15 := hr14.fr fr5 (by show ¬ w.heap.size = w.heap.size + 1; omega)
        have ho5 : OwnB (w4.setCells (w.heap.size + 1) 0 [.int .u32 (sr : Nat), .int .u32 (ds : Nat), .int .u8 (pr : Nat), .int .u8 (tt : Nat), .int .u16 (id : Nat), .bool dn, .bool mo, .int .i64 0, .slice xa xn xc]) gb (some ⟨gb, 0, none⟩) SU SU (bodyK SU (ps.take (j + 1))) := by rw [HBO.out]; exact ho4.kept (row := some (w.heap.size + 1)) ⟨fr5.os, fr5.tape, fr5.output, fr5.size, fun k hk hn => fr5.block k hk (fun e => hn (by rw [e]))⟩ (.inr (fun e => by simp [Value.ownBlock] at e; omega))
        have bb5 := bb4.trans (fr5.below w.heap.size bb4.size (fun k hk => by subst hk; omega))
        have t0 := hr24.cell 0 _ rfl
        have f0 := hr24.free 0
        have t1 := hr24.cell 1 _ rfl
        have f1 := hr24.free 1
        have t2 := hr24.cell 2 _ rfl
        have f2 := hr24.free 2
        have t3 := hr24.cell 3 _ rfl
        have f3 := hr24.free 3
        have t4 := hr24.cell 4 _ rfl
        have f4 := hr24.free 4
        have t5 := hr24.cell 5 _ rfl
        have f5 := hr24.free 5
        have t6 := hr24.cell 6 _ rfl
        have f6 := hr24.free 6
        have t7 := hr24.cell 7 _ rfl
        have f7 := hr24.free 7
        have t8 := hr24.cell 8 _ rfl
        have f8 := hr24.free 8
        clear hr24 hr14 ho4 bb4 fr5 HH HBO hg4 k0 k1 k2 k3 k4 k5 k6 k8 sx4 hth
        go_wp2
        go_roundw
        case rel => exact ⟨j + 1, by omega, by go_num, hr15, by rw [HH0.out]; exact hr25, ho5, bb5⟩
        case measure => simp [intOf]; omega
      · have ho0i : ¬ ((o : Nat) : Int) = 0 := by omega
        have HH0 : Hid (headK (ps.take (j + 1)) = headK (ps.take j)) := by show _ = _; rw [HH.out, if_neg (by simpa using ho0i)]
        have ho5 : OwnB w4 gb (some ⟨gb, 0, none⟩) SU SU (bodyK SU (ps.take (j + 1))) := by rw [HBO.out]; exact ho4
        rw [← HH0.out] at hr24
        clear ho4 HH HBO hg4 HH0
        go_wp2
        go_roundw
        case rel => exact ⟨j + 1, by omega, by go_num, hr14, hr24, ho5, bb4⟩
        case measure => simp [intOf]; omega
    · have hji : ¬ (j : Int) < (n : Int) := by omega
      have hjj : ps.take j = ps := List.take_of_length_le (by rw [HLEN.out]; omega)
      rw [hjj] at hr2 hro
      clear hjj hsl hof st1 st2
      have HJ : Hid (∀ W2, OwnB W2 w.heap.size (some ⟨gb, 0, none⟩) SU SU (bodyK SU ps) → Below w.heap.size w W2 → JoP ps w (.returned (.agg #[.int .u32 ((headK ps).sr : Nat), .int .u32 ((headK ps).ds : Nat), .int .u8 ((headK ps).pr : Nat), .int .u8 ((headK ps).tt : Nat), .int .u16 ((headK ps).id : Nat), .bool (headK ps).dn, .bool false, .int .i64 (headK ps).of, .slice (some ⟨gb, 0, none⟩) SU SU])) W2) := fun W2 h1 h2 => ⟨⟨gb, by rw [← HSU.out], by rw [← HSU.out]; exact h1⟩, h2⟩
      obtain ⟨H, hH⟩ : ∃ H, H = headK ps := ⟨_, rfl⟩
      rw [← hH] at hr2 HJ
      clear hH
      obtain ⟨hs, hd, hp, ht, hi, hn, hm, hoo, ha, hnn, hc⟩ := H
      dsimp only [Pk.cells] at hr2 HJ
      have q6 := hr2.cell 6 _ rfl
      have q8 := hr2.cell 8 _ rfl
      have f6 := hr2.free 6
      have f8 := hr2.free 8
      have hr3 := (hr2.set 6 (.bool false)).set 8 (.slice (some ⟨gb, 0, none⟩) SU SU)
      have hr13 := (hr1.other (w.heap.size + 1) 6 (.bool false) (by omega)).other (w.heap.size + 1) 8 (.slice (some ⟨gb, 0, none⟩) SU SU) (by omega)
      have hro3 := (hro.setOther (w.heap.size + 1) 6 (.bool false) (by omega)).setOther (w.heap.size + 1) 8 (.slice (some ⟨gb, 0, none⟩) SU SU) (by omega)
      have bb3 := (hbel.setCell (p := ⟨w.heap.size + 1, 6, none⟩) (by show w.heap.size ≤ w.heap.size + 1; omega) (.bool false)).setCell (p := ⟨w.heap.size + 1, 8, none⟩) (by show w.heap.size ≤ w.heap.size + 1; omega) (.slice (some ⟨gb, 0, none⟩) SU SU)
      obtain ⟨wa, hwa⟩ : ∃ wa, wa = (wr.setCell ⟨w.heap.size + 1, 6, none⟩ (.bool false)).setCell ⟨w.heap.size + 1, 8, none⟩ (.slice (some ⟨gb, 0, none⟩) SU SU) := ⟨_, rfl⟩
      rw [← hwa] at hr3 hr13 hro3 bb3
      have hrg : wa.rangeAt (w.heap.size + 1) 0 [.int .u32 (hs : Nat), .int .u32 (hd : Nat), .int .u8 (hp : Nat), .int .u8 (ht : Nat), .int .u16 (hi : Nat), .bool hn, .bool false, .int .i64 hoo, .slice (some ⟨gb, 0, none⟩) SU SU] := hr3.range
      have hth := hr13.there
      have hr14 := hr13.put [.int .u32 (hs : Nat), .int .u32 (hd : Nat), .int .u8 (hp : Nat), .int .u8 (ht : Nat), .int .u16 (hi : Nat), .bool hn, .bool false, .int .i64 hoo, .slice (some ⟨gb, 0, none⟩) SU SU] rfl
      have fr5 := fr_setCellsX w.heap.size [.int .u32 (hs : Nat), .int .u32 (hd : Nat), .int .u8 (hp : Nat), .int .u8 (ht : Nat), .int .u16 (hi : Nat), .bool hn, .bool false, .int .i64 hoo, .slice (some ⟨gb, 0, none⟩) SU SU] 0 wa
      have hro4 := hro3.kept (row := some w.heap.size) ⟨fr5.os, fr5.tape, fr5.output, fr5.size, fun k hk hn => fr5.block k hk (fun e => hn (by rw [e]))⟩ (.inr (fun e => by simp [Value.ownBlock] at e; omega))
      have hza := bb3.size
      have bb4 := bb3.trans (fr5.below w.heap.size hza (fun k hk => by subst hk; exact Nat.le_refl _))
      have t0 := hr13.cell 0 _ rfl
      have g0 := hr13.free 0
      have t1 := hr13.cell 1 _ rfl
      have g1 := hr13.free 1
      have t2 := hr13.cell 2 _ rfl
      have g2 := hr13.free 2
      have t3 := hr13.cell 3 _ rfl
      have g3 := hr13.free 3
      have t4 := hr13.cell 4 _ rfl
      have g4 := hr13.free 4
      have t5 := hr13.cell 5 _ rfl
      have g5 := hr13.free 5
      have t6 := hr13.cell 6 _ rfl
      have g6 := hr13.free 6
      have t7 := hr13.cell 7 _ rfl
      have g7 := hr13.free 7
      have t8 := hr13.cell 8 _ rfl
      have g8 := hr13.free 8
      have HFA := (show Hid _ from HJ.out _ (hro4.base (by omega)) bb4)
      have hrgC := hr14.range
      clear hr1 hr2 hro hbel hr3 hr13 hro3 bb3 hro4 bb4 HJ hr14 fr5
      go_wp2_with (first | (rw [← hwa]; refine wpList_load_mid rfl 26 _ rfl (w.heap.size + 1) 0 rfl [.int .u32 (hs : Nat), .int .u32 (hd : Nat), .int .u8 (hp : Nat), .int .u8 (ht : Nat), .int .u16 (hi : Nat), .bool hn, .bool false, .int .i64 hoo, .slice (some ⟨gb, 0, none⟩) SU SU] _ hrg Try.underlying26 rfl (by kernel_rfl) ?_; clear hwa) | fail)
      try simp only [Exit.inBlock, Exit.then]
      refine bodyPost_ret (results_cellE rfl _ _ w.heap.size 0 [.int .u32 (hs : Nat), .int .u32 (hd : Nat), .int .u8 (hp : Nat), .int .u8 (ht : Nat), .int .u16 (hi : Nat), .bool hn, .bool false, .int .i64 hoo, .slice (some ⟨gb, 0, none⟩) SU SU] _ rfl hrgC Try.underlying26 rfl (by kernel_rfl)) rfl ?_
      exact HFA.out
end Go.Proofs.Ytnbagloifbllbaa
