/- (*reasm.Pool).hold. -/
import Derived.Test.YtnbagloifbllbaaRsB
import Derived.Test.YtnbagloifbllbaaIpPut
namespace Go.Proofs.Ytnbagloifbllbaa
open Go.RowKit
theorem Grow.box {kd kd' : Nat → Role} {w w1 w2 : World} (hG : Grow kd kd' w w1) (hb : Below w1.heap.size w1 w2) (q j : Nat) (v : Value) (hq : w.heap.size ≤ q) : Grow kd kd' w (w2.setCell ⟨q, j, none⟩ v) := by
  have hs := Fr.setCell (fun b => b = q) w2 ⟨q, j, none⟩ v rfl
  have hz := hG.fr.size
  have hz2 := hb.size
  refine ⟨hG.keep, ⟨hs.os.trans (hb.os.trans hG.fr.os), hs.tape.trans (hb.tape.trans hG.fr.tape), hs.output.trans (hb.output.trans hG.fr.output), Nat.le_trans hz (Nat.le_trans hz2 hs.size), fun k hk hn => ?_⟩⟩
  exact (hs.block k (by omega) (show ¬ k = q by omega)).trans ((hb.block k (by omega)).trans (hG.fr.block k hk hn))
theorem Grow.add {kd kd1 kd' : Nat → Role} {w w1 w2 : World} (hG : Grow kd kd1 w w1) {bb : Nat} (hk : ∀ b, b < w1.heap.size → b ≠ bb → kd' b = kd1 b) (hbb : w.heap.size ≤ bb) (hf : Fr (fun b => kd1 b ≠ .no) w1 w2) : Grow kd kd' w w2 := by
  have hz := hG.fr.size
  refine ⟨fun g hg => (hk g (by omega) (by omega)).trans (hG.keep g hg), ⟨hf.os.trans hG.fr.os, hf.tape.trans hG.fr.tape, hf.output.trans hG.fr.output, Nat.le_trans hz hf.size, fun k hk' hn => ?_⟩⟩
  exact (hf.block k (by omega) (by rw [hG.keep k hk']; exact hn)).trans (hG.fr.block k hk' hn)
structure HoP (kd : Nat → Role) (p : Nat) (now dr : Int) (hs : List Pa) (sr ds pr tt id : Nat) (dn mo : Bool) (of : Int) (zs : List Nat) (w : World) (e : Ending) (w' : World) : Prop where
  ans : ∃ hs1 i x bb c2 g2 c3 kd', ((hs1 = hs) ∨ ((∀ z ∈ hs, z.t.nm ≠ (sr, ds, pr, id)) ∧ hs1 = hs ++ [⟨⟨sr, ds, pr, id, now, none, 0, 0⟩, []⟩])) ∧ hs1[i]? = some x ∧ x.t.nm = (sr, ds, pr, id) ∧
    e = .returned (.slice (some ⟨g2, 0, none⟩) (x.t.n + 1) c3) ∧ PoolW w' kd' p now dr (hs1.set i ⟨x.t.with (some ⟨g2, 0, none⟩) (x.t.n + 1) c3, x.ps ++ [(⟨sr, ds, pr, tt, id, dn, mo, of, some ⟨bb, 0, none⟩, zs.length, c2⟩, zs)]⟩) ∧ Grow kd kd' w w'
set_option maxRecDepth 100000 in
set_option maxHeartbeats 1000000 in
theorem hold_any {w : World} {kd : Nat → Role} {p : Nat} {now dr : Int} {hs : List Pa} (h : PoolW w kd p now dr hs) (sr ds pr tt id : Nat) (dn mo : Bool) (of : Int) (xa : Option Addr) (xn xc : Nat) (zs : List Nat) (hroom : hs.length < 4 ∨ ∃ z ∈ hs, z.t.nm = (sr, ds, pr, id)) (hsl : Sl w xa xn xc zs) (hxk : ∀ b off, xa = some ⟨b, off, none⟩ → kd b = .no) (hx0 : 0 < xn) (hxb : xn ≤ 1000000) (hsz : ∀ z ∈ hs, z.t.n ≤ 1000000) :
    Calls Try.prog 37 #[.pointer (some ⟨p, 0, none⟩), .agg #[.int .u32 (sr : Nat), .int .u32 (ds : Nat), .int .u8 (pr : Nat), .int .u8 (tt : Nat), .int .u16 (id : Nat), .bool dn, .bool mo, .int .i64 of, .slice xa xn xc]] w (HoP kd p now dr hs sr ds pr tt id dn mo of zs w) := by
  obtain ⟨a, c, hc1, hrow, _⟩ := h.cells
  have hhl : hs.length ≤ 9223372036854775807 := by have h1 := hrow.cap; unfold maxLen at h1; omega
  have hpl := hc1.lt
  have hkb : kd w.heap.size = .no := h.fresh _ (Nat.le_refl _)
  obtain ⟨W0, hW0⟩ : ∃ W, W = w.alloc (.cells #[.int .u32 (sr : Nat), .int .u32 (ds : Nat), .int .u8 (pr : Nat), .int .u8 (tt : Nat), .int .u16 (id : Nat), .bool dn, .bool mo, .int .i64 of, .slice xa xn xc] 26) := ⟨_, rfl⟩
  have b0 : Below w.heap.size w W0 := by rw [hW0]; exact (Below.refl _ _).alloc (Nat.le_refl _) _
  have st0 := Stc.new w [.int .u32 (sr : Nat), .int .u32 (ds : Nat), .int .u8 (pr : Nat), .int .u8 (tt : Nat), .int .u16 (id : Nat), .bool dn, .bool mo, .int .i64 of, .slice xa xn xc] 26 W0 hW0
  have x0 := st0.cell 0 _ rfl
  have x1 := st0.cell 1 _ rfl
  have x2 := st0.cell 2 _ rfl
  have x3 := st0.cell 3 _ rfl
  have x4 := st0.cell 4 _ rfl
  have x5 := st0.cell 5 _ rfl
  have x6 := st0.cell 6 _ rfl
  have x7 := st0.cell 7 _ rfl
  have x8 := st0.cell 8 _ rfl
  go_enter Try.func37, Try.ntmps37
  go_wp2_with fail
  rw [← hW0]
  clear hW0
  refine (nameOf_any sr ds pr tt id dn mo of _ W0).mono ?_
  rintro e w1 ⟨rfl, b1⟩
  clear x0 x1 x2 x3 x4 x5 x6 x7 x8
  have st1 := st0.below b1
  have bb1 := b0.trans (b1.mono b0.size)
  obtain ⟨w2, hw2⟩ : ∃ W, W = w1.alloc (.cells #[.int .u32 (sr : Nat), .int .u32 (ds : Nat), .int .u8 (pr : Nat), .int .u16 (id : Nat)] 56) := ⟨_, rfl⟩
  have b2 : Below w1.heap.size w1 w2 := by rw [hw2]; exact (Below.refl _ _).alloc (Nat.le_refl _) _
  have sn := (Stc.new w1 [.int .u32 (sr : Nat), .int .u32 (ds : Nat), .int .u8 (pr : Nat), .int .u16 (id : Nat)] 56 w2 hw2).below (Below.refl _ _).drew
  have b2d : Below w1.heap.size w1 w2.drew := b2.trans ((Below.refl _ _).drew.mono b2.size)
  have bb2 := bb1.trans (b2d.mono bb1.size)
  have st2 := st1.below b2d
  have hc2 := hc1.below bb2
  have hrow2 := hrow.below bb2
  have d1 := hc2.cell 1 _ rfl
  have e0 := sn.cell 0 _ rfl
  have e1 := sn.cell 1 _ rfl
  have e2 := sn.cell 2 _ rfl
  have e3 := sn.cell 3 _ rfl
  obtain ⟨n, hn⟩ : ∃ n, n = hs.length := ⟨_, rfl⟩
  have HN := (show Hid _ from hn)
  rw [← hn] at d1 hc2 hrow2
  go_wp2_with fail
  rw [← hw2]
  clear hw2 hn
  have hw1l := sn.lt
  have HK : Hid (∀ W, Below w2.drew.heap.size w2.drew W → W.cell? ⟨p, 1, none⟩ = some (.slice a n c) ∧ W.cell? ⟨w1.heap.size, 0, none⟩ = some (.int .u32 (sr : Nat)) ∧ W.cell? ⟨w1.heap.size, 1, none⟩ = some (.int .u32 (ds : Nat)) ∧ W.cell? ⟨w1.heap.size, 2, none⟩ = some (.int .u8 (pr : Nat)) ∧ W.cell? ⟨w1.heap.size, 3, none⟩ = some (.int .u16 (id : Nat))) := fun W hW => ⟨(hc2.below hW).cell 1 _ rfl, (sn.below hW).cell 0 _ rfl, (sn.below hW).cell 1 _ rfl, (sn.below hW).cell 2 _ rfl, (sn.below hW).cell 3 _ rfl⟩
  go_region_held3 (fun w' => w'.cell? ⟨p, 1, none⟩ = some (.slice a n c) ∧ w'.cell? ⟨w1.heap.size, 0, none⟩ = some (.int .u32 (sr : Nat)) ∧ w'.cell? ⟨w1.heap.size, 1, none⟩ = some (.int .u32 (ds : Nat)) ∧ w'.cell? ⟨w1.heap.size, 2, none⟩ = some (.int .u8 (pr : Nat)) ∧ w'.cell? ⟨w1.heap.size, 3, none⟩ = some (.int .u16 (id : Nat))) (first | exact ⟨d1, e0, e1, e2, e3⟩ | exact HK.out _ bK | fail) (first
    | (go_at_call 36; refine (named_any sr ds pr id _).mono ?_; rintro e wn ⟨rfl, sN, bN⟩; have bK := bN)
    | (go_at_call 46; refine (idxN_any w2.heap.size sr ds pr id 0 a n c (hs.map (·.t)) wn _ _ (by rfl) (by rfl) (hrow2.below bN) sN).mono ?_; rintro e w3 ⟨v, rfl, hv, bI⟩; have bK := bN.trans (bI.mono bN.size))
    | fail)
  have bb3 := bb2.trans (bK.mono bb2.size)
  have st3 := st2.below bK
  have sn3 := sn.below bK
  have h3 := h.below bb3
  have hsl3 := hsl.below bb3
  have G3 : Grow kd kd w w3 := Grow.of_below bb3
  clear d1 e0 e1 e2 e3 HK hc2 hrow2 sn st2 st1 st0 b0 b1 b2 b2d bb1 bb2 sN bN bI bK hrow hc1
  rcases hv with ⟨rfl, hno⟩ | ⟨j, tx, rfl, hx, hp, _⟩
  · have hno2 : ∀ z ∈ hs, z.t.nm ≠ (sr, ds, pr, id) := fun z hz e => by
      have := hno z.t (List.mem_map.2 ⟨z, hz, rfl⟩)
      simp [e] at this
    have hrm : hs.length < 4 := by
      rcases hroom with h' | ⟨z, hz, e⟩
      · exact h'
      · exact absurd e (hno2 z hz)
    clear hno hroom
    have s0 := sn3.cell 0 _ rfl
    have s1 := sn3.cell 1 _ rfl
    have s2 := sn3.cell 2 _ rfl
    have s3 := sn3.cell 3 _ rfl
    go_wp2_with fail
    refine (begin_any h3 hrm sr ds pr id hno2).mono ?_
    rintro e w4 ⟨rfl, kdt, hP, GB⟩
    clear s0 s1 s2 s3
    have GT := G3.trans GB
    have hwl : w.heap.size < w3.heap.size := st3.lt
    have hkt : kdt w.heap.size = .no := (GB.keep _ hwl).trans hkb
    have stt := st3.fr GB.fr (fun e => e hkb)
    have slt : Sl w4 xa xn xc zs := Sl.frX hsl3 GB.fr (fun b off hb e => e (hxk b off hb))
    obtain ⟨hs1, hhs1⟩ : ∃ hs1, hs1 = hs ++ [⟨⟨sr, ds, pr, id, now, none, 0, 0⟩, []⟩] := ⟨_, rfl⟩
    rw [← hhs1] at hP
    obtain ⟨i, hie⟩ : ∃ i, i = hs.length := ⟨_, rfl⟩
    rw [← hie]
    obtain ⟨x, hxe⟩ : ∃ x : Pa, x = ⟨⟨sr, ds, pr, id, now, none, 0, 0⟩, []⟩ := ⟨_, rfl⟩
    have hi : hs1[i]? = some x := by rw [hhs1, hie, hxe]; simp
    have hxm : x.t.nm = (sr, ds, pr, id) := by rw [hxe]; rfl
    have hxn : x.t.n ≤ 1000000 := by rw [hxe]; show 0 ≤ _; omega
    have HH : Hid ((hs1 = hs) ∨ ((∀ z ∈ hs, z.t.nm ≠ (sr, ds, pr, id)) ∧ hs1 = hs ++ [⟨⟨sr, ds, pr, id, now, none, 0, 0⟩, []⟩])) := .inr ⟨hno2, hhs1⟩
    have hib : i ≤ 9223372036854775807 := by omega
    clear hhs1 hie hxe hno2 hrm hhl hsz h h3 st3 hsl3 G3 GB sn3 hwl
    have x8 := stt.cell 8 _ rfl
    obtain ⟨a, c, hc1, hrow, hrk⟩ := hP.cells
    have hil : i < hs1.length := (List.getElem?_eq_some_iff.1 hi).1
    have hxw := hP.each x (List.mem_of_getElem? hi)
    obtain ⟨g, rfl, _, hgl, hcap, hcapm, _, _⟩ := hrow.at_ (fun _ => rfl) (by omega)
    have hgk := hrk g rfl
    obtain ⟨m, hm⟩ : ∃ m, m = hs1.length := ⟨_, rfl⟩
    have HM := (show Hid _ from hm)
    have him : i < m := by omega
    have himi : (i : Int) < (m : Int) := by omega
    have hmb : m ≤ 9223372036854775807 := by unfold maxLen at hcapm; omega
    clear hm hrk
    go_wp2_with fail
    refine (clone_any xa xn xc zs w4 slt (by omega)).mono ?_
    rintro e w5 ⟨a2, c2, rfl, o2, hg2, b5⟩
    obtain ⟨bb, rfl⟩ := hg2 hx0
    clear hg2 x8
    have hbbl := o2.own.lt bb rfl
    have hkbb : kdt bb = .no := hP.fresh bb hbbl.1
    have P5 := hP.below b5
    have st5 := stt.below b5
    have x8 := st5.cell 8 _ rfl
    have x8f := st5.free 8
    have htz := GT.fr.size
    have h5z := b5.size
    have st6 := st5.set 8 (.slice (some ⟨bb, 0, none⟩) xn c2)
    have fr6 := Fr.setCell (fun b => b = w.heap.size) w5 ⟨w.heap.size, 8, none⟩ (.slice (some ⟨bb, 0, none⟩) xn c2) rfl
    have P6 := P5.fr fr6 (fun b _ hb => by rw [hb]; exact hkt)
    have hxs6 : Sl (w5.setCell ⟨w.heap.size, 8, none⟩ (.slice (some ⟨bb, 0, none⟩) xn c2)) (some ⟨bb, 0, none⟩) xn c2 zs := (o2.sl (by omega)).frX fr6 (fun b off hb e => by injection hb with hb; injection hb with hb; have := stt.lt; omega)
    have G6 := GT.box b5 w.heap.size 8 (.slice (some ⟨bb, 0, none⟩) xn c2) (Nat.le_refl _)
    obtain ⟨w6, hw6⟩ : ∃ W, W = w5.setCell ⟨w.heap.size, 8, none⟩ (.slice (some ⟨bb, 0, none⟩) xn c2) := ⟨_, rfl⟩
    have hz6 : w6.heap.size = w5.heap.size := by rw [hw6]; simp [World.setCell]
    rw [← hw6] at st6 P6 hxs6 G6 fr6
    have hc6 := (hc1.below b5).fr fr6 (fun e => by rw [e] at hpl; omega)
    have hrow6 := (hrow.below b5).fr fr6 (fun b hb e => by have : g = b := (by simpa [Value.ownBlock] using hb); rw [← this] at e; rw [e, hkt] at hgk; cases hgk)
    have hx6 := P6.each x (List.mem_of_getElem? hi)
    have bd : Below w6.heap.size w6 w6.drew := (Below.refl _ _).drew
    obtain ⟨wa, hwa⟩ : ∃ W, W = w6.drew.alloc (.cells #[.int .u32 (sr : Nat), .int .u32 (ds : Nat), .int .u8 (pr : Nat), .int .u8 (tt : Nat), .int .u16 (id : Nat), .bool dn, .bool mo, .int .i64 of, .slice (some ⟨bb, 0, none⟩) xn c2] 26) := ⟨_, rfl⟩
    have ba : Below w6.heap.size w6 wa := by rw [hwa]; exact bd.alloc bd.size _
    have bda : Below w6.drew.heap.size w6.drew wa := by rw [hwa]; exact (Below.refl _ _).alloc (Nat.le_refl _) _
    have sa := Stc.new w6.drew [.int .u32 (sr : Nat), .int .u32 (ds : Nat), .int .u8 (pr : Nat), .int .u8 (tt : Nat), .int .u16 (id : Nat), .bool dn, .bool mo, .int .i64 of, .slice (some ⟨bb, 0, none⟩) xn c2] 26 wa hwa
    have hza := ba.size
    obtain ⟨g2, c3, wb, happ, hob, hgb, hlb, hglb⟩ := (hx6.row.g.below ba).app layPk 28 ⟨sr, ds, pr, tt, id, dn, mo, of, some ⟨bb, 0, none⟩, xn, c2⟩ ⟨w6.drew.heap.size, 0, none⟩ (fun j u hu => by rw [Addr.add_mid, Nat.zero_add]; exact sa.cell j u hu) (by unfold maxLen; omega) (by omega) (Nat.zero_le _)
    have happ : (Builtin.append_ #[28, 28] 28 #[.slice x.t.a x.t.n x.t.c, .slice (some ⟨w6.heap.size, 0, none⟩) 1 1]).run Try.prog wa = .ok (.slice (some ⟨g2, 0, none⟩) (x.t.n + 1) c3) wb := happ
    have hadd := P6.add hc6 hrow6 hgk ba hi ⟨sr, ds, pr, tt, id, dn, mo, of, some ⟨bb, 0, none⟩, xn, c2⟩ zs hxs6 hx0 rfl (by omega) hkbb hob hgb hlb
    obtain ⟨wc, hwc⟩ : ∃ W, W = wb.setCell ⟨g, i * 6 + 5, none⟩ (.slice (some ⟨g2, 0, none⟩) (x.t.n + 1) c3) := ⟨_, rfl⟩
    rw [← hwc] at hadd
    obtain ⟨kd2, hP2, hk2, hf2⟩ := hadd
    have G2 := G6.add hk2 (by omega) hf2
    have hzl := hxs6.len
    have HFA : Hid (HoP kd p now dr hs sr ds pr tt id dn mo of zs w (.returned (.slice (some ⟨g2, 0, none⟩) (x.t.n + 1) c3)) wc) := ⟨⟨hs1, i, x, bb, c2, g2, c3, kd2, HH.out, hi, hxm, rfl, by rw [hzl]; exact hP2, G2⟩⟩
    have frb := Fr.grown (P := fun b => (Value.slice x.t.a x.t.n x.t.c).ownBlock = some b) hgb (fun k hk => hk)
    have np : ¬ (Value.slice x.t.a x.t.n x.t.c).ownBlock = some p := fun e => by have h1 := hx6.rk p e; rw [P6.kp] at h1; cases h1
    have ng : ¬ (Value.slice x.t.a x.t.n x.t.c).ownBlock = some g := fun e => by have h1 := hx6.rk g e; rw [hgk] at h1; cases h1
    have nb : ¬ (Value.slice x.t.a x.t.n x.t.c).ownBlock = some w.heap.size := fun e => by have h1 := hx6.rk _ e; rw [hkt] at h1; cases h1
    have cA := hc6.below bd
    have cB := hc6.below ba
    have cC := cB.fr frb np
    have rA := hrow6.below bd
    have rB := hrow6.below ba
    have rC := rB.fr frb (fun b hb e => by have : g = b := (by simpa [Value.ownBlock] using hb); rw [← this] at e; exact ng e)
    have rD := OwnT.setPs rC i x.t (by rw [List.getElem?_map, hi]; rfl) (some ⟨g2, 0, none⟩) (x.t.n + 1) c3
    have cD := cC.other g (i * 6 + 5) (.slice (some ⟨g2, 0, none⟩) (x.t.n + 1) c3) (fun e => by rw [e, P6.kp] at hgk; cases hgk)
    rw [← hwc] at rD cD
    have bA := st6.below bd
    have bB := st6.below ba
    have bC := bB.fr frb nb
    have hti : (hs1.map (·.t))[i]? = some x.t := by rw [List.getElem?_map, hi]; rfl
    have hrc : ∀ W, OwnT W 0 (some ⟨g, 0, none⟩) hs1.length c (hs1.map (·.t)) → W.cell? ⟨g, i * 6 + 5, none⟩ = some (.slice x.t.a x.t.n x.t.c) ∧ ∀ q, W.frozen? ⟨g, q, none⟩ = false := fun W hW => by
      obtain ⟨g', hg', _, _, _, _, hcell, hfree⟩ := hW.at_ (fun _ => rfl) (by omega)
      injection hg' with hg'
      injection hg' with hg'
      subst hg'
      exact ⟨hcell i x.t hti 5 _ rfl, hfree⟩
    have rA5 := (hrc _ rA).1
    have rB5 := (hrc _ rB).1
    have rC5 := (hrc _ rC).1
    have rCf := (hrc _ rC).2 (i * 6 + 5)
    have rD5 : wc.cell? ⟨g, i * 6 + 5, none⟩ = some (.slice (some ⟨g2, 0, none⟩) (x.t.n + 1) c3) := by
      obtain ⟨g', hg', _, _, _, _, hcell, _⟩ := rD.at_ (fun _ => rfl) (by omega)
      injection hg' with hg'
      injection hg' with hg'
      subst hg'
      exact hcell i (x.t.with (some ⟨g2, 0, none⟩) (x.t.n + 1) c3) (by rw [List.getElem?_set, if_pos rfl, if_pos (by simpa using hil)]) 5 _ rfl
    rw [← HM.out] at cA cB cC cD
    have m1 := cA.cell 1 _ rfl
    have n1 := cB.cell 1 _ rfl
    have o1 := cC.cell 1 _ rfl
    have q1 := cD.cell 1 _ rfl
    have HWA := (show Hid _ from hwa)
    have HWC := (show Hid _ from hwc)
    clear hwa hwc hP2 hk2 hf2 G2 hob hgb hlb sa hrc G6 rD rC rB rA cB cC cD cA hxs6 o2 P5 st5 hx6 hc6 hrow6 frb
    go_wp2_with fail
    rw [← hw6]
    clear hw6 x8 x8f
    refine wp_region_stage mixedX [14, 15, 18] (fun k W => match k with | 0 => W = w6.drew | 1 => W = wa | 2 => W = wb | _ => W = wc) (fun W => W.cell? ⟨p, 1, none⟩ = some (.slice (some ⟨g, 0, none⟩) m c) ∧ W.cell? ⟨g, i * 6 + 5, none⟩ = some (.slice x.t.a x.t.n x.t.c) ∧ W.cell? ⟨w.heap.size, 0, none⟩ = some (.int .u32 (sr : Nat)) ∧ W.cell? ⟨w.heap.size, 1, none⟩ = some (.int .u32 (ds : Nat)) ∧ W.cell? ⟨w.heap.size, 2, none⟩ = some (.int .u8 (pr : Nat)) ∧ W.cell? ⟨w.heap.size, 3, none⟩ = some (.int .u8 (tt : Nat)) ∧ W.cell? ⟨w.heap.size, 4, none⟩ = some (.int .u16 (id : Nat)) ∧ W.cell? ⟨w.heap.size, 5, none⟩ = some (.bool dn) ∧ W.cell? ⟨w.heap.size, 6, none⟩ = some (.bool mo) ∧ W.cell? ⟨w.heap.size, 7, none⟩ = some (.int .i64 of) ∧ W.cell? ⟨w.heap.size, 8, none⟩ = some (.slice (some ⟨bb, 0, none⟩) xn c2)) [(25, .pointer (some ⟨p, 0, none⟩)), (26, .pointer (some ⟨p, 0, none⟩)), (27, .pointer (some ⟨p, 1, none⟩)), (28, .slice (some ⟨g, 0, none⟩) m c), (29, .int .i64 (i : Nat)), (30, .pointer (some ⟨p, 0, none⟩)), (31, .pointer (some ⟨p, 0, none⟩)), (32, .pointer (some ⟨p, 1, none⟩)), (33, .slice (some ⟨g, 0, none⟩) m c), (34, .int .i64 (i : Nat)), (35, .pointer (some ⟨g, i * 6, none⟩)), (36, .pointer (some ⟨g, i * 6 + 5, none⟩)), (37, .slice x.t.a x.t.n x.t.c), (38, .agg #[.int .u32 (sr : Nat), .int .u32 (ds : Nat), .int .u8 (pr : Nat), .int .u8 (tt : Nat), .int .u16 (id : Nat), .bool dn, .bool mo, .int .i64 of, .slice (some ⟨bb, 0, none⟩) xn c2]), (39, .slice (some ⟨w6.heap.size, 0, none⟩) 1 1), (40, .slice (some ⟨g2, 0, none⟩) (x.t.n + 1) c3), (41, .pointer (some ⟨g, i * 6, none⟩)), (42, .pointer (some ⟨g, i * 6 + 5, none⟩))] ?Z1 ?hZ1 (by kernel_rfl) (by kernel_rfl) (by kernel_rfl) (by kernel_rfl) (by kernel_rfl) ?h01 ?hS1 (.inl (by kernel_rfl)) ?hops1 ?he1 (by kernel_rfl) (by decide)
    case hZ1 => simp only [List.foldl_cons, List.foldl_nil, List.setIfInBounds_toArray, List.set_cons_zero, List.set_cons_succ]; rfl
    case h01 => rfl
    case hS1 =>
      intro k W hk hW
      have hk : k < 3 := hk
      obtain rfl | rfl | rfl : k = 0 ∨ k = 1 ∨ k = 2 := by omega
      · subst hW; exact ⟨m1, rA5, bA.cell 0 _ rfl, bA.cell 1 _ rfl, bA.cell 2 _ rfl, bA.cell 3 _ rfl, bA.cell 4 _ rfl, bA.cell 5 _ rfl, bA.cell 6 _ rfl, bA.cell 7 _ rfl, bA.cell 8 _ rfl⟩
      · subst hW; exact ⟨n1, rB5, bB.cell 0 _ rfl, bB.cell 1 _ rfl, bB.cell 2 _ rfl, bB.cell 3 _ rfl, bB.cell 4 _ rfl, bB.cell 5 _ rfl, bB.cell 6 _ rfl, bB.cell 7 _ rfl, bB.cell 8 _ rfl⟩
      · subst hW; exact ⟨o1, rC5, bC.cell 0 _ rfl, bC.cell 1 _ rfl, bC.cell 2 _ rfl, bC.cell 3 _ rfl, bC.cell 4 _ rfl, bC.cell 5 _ rfl, bC.cell 6 _ rfl, bC.cell 7 _ rfl, bC.cell 8 _ rfl⟩
    case hops1 =>
      refine ⟨?_, ?_, ?_, ?_, ?_, ?_, ?_, ?_, ?_, ?_, ?_, ?_, ?_, ?_, ?_, ?_, ?_, ?_, ?_, trivial⟩
      · exact stg_val (by rfl) (by rfl) (fun W hW => by obtain ⟨y0, y1, y2, y3, y4, y5, y6, y7, y8, y9, y10⟩ := hW; go_simp; (try with_reducible rfl); (try omega))
      · exact stg_val (by rfl) (by rfl) (fun W hW => by obtain ⟨y0, y1, y2, y3, y4, y5, y6, y7, y8, y9, y10⟩ := hW; go_simp; (try with_reducible rfl); (try omega))
      · exact stg_val (by rfl) (by rfl) (fun W hW => by obtain ⟨y0, y1, y2, y3, y4, y5, y6, y7, y8, y9, y10⟩ := hW; go_simp; (try with_reducible rfl); (try omega))
      · exact stg_val (by rfl) (by rfl) (fun W hW => by obtain ⟨y0, y1, y2, y3, y4, y5, y6, y7, y8, y9, y10⟩ := hW; go_simp; (try with_reducible rfl); (try omega))
      · exact stg_val (by rfl) (by rfl) (fun W hW => by obtain ⟨y0, y1, y2, y3, y4, y5, y6, y7, y8, y9, y10⟩ := hW; go_simp; (try with_reducible rfl); (try omega))
      · exact stg_val (by rfl) (by rfl) (fun W hW => by obtain ⟨y0, y1, y2, y3, y4, y5, y6, y7, y8, y9, y10⟩ := hW; go_simp; (try with_reducible rfl); (try omega))
      · exact stg_val (by rfl) (by rfl) (fun W hW => by obtain ⟨y0, y1, y2, y3, y4, y5, y6, y7, y8, y9, y10⟩ := hW; go_simp; (try with_reducible rfl); (try omega))
      · exact stg_val (by rfl) (by rfl) (fun W hW => by obtain ⟨y0, y1, y2, y3, y4, y5, y6, y7, y8, y9, y10⟩ := hW; go_simp; (try with_reducible rfl); (try omega))
      · exact stg_val (by rfl) (by rfl) (fun W hW => by obtain ⟨y0, y1, y2, y3, y4, y5, y6, y7, y8, y9, y10⟩ := hW; go_simp; (try with_reducible rfl); (try omega))
      · exact stg_val (by rfl) (by rfl) (fun W hW => by obtain ⟨y0, y1, y2, y3, y4, y5, y6, y7, y8, y9, y10⟩ := hW; go_simp; (try with_reducible rfl); (try omega))
      · exact stg_val (by rfl) (by rfl) (fun W hW => by obtain ⟨y0, y1, y2, y3, y4, y5, y6, y7, y8, y9, y10⟩ := hW; go_simp; (try with_reducible rfl); (try omega))
      · exact stg_val (by rfl) (by rfl) (fun W hW => by obtain ⟨y0, y1, y2, y3, y4, y5, y6, y7, y8, y9, y10⟩ := hW; go_simp; (try with_reducible rfl); (try omega))
      · exact stg_val (by rfl) (by rfl) (fun W hW => by obtain ⟨y0, y1, y2, y3, y4, y5, y6, y7, y8, y9, y10⟩ := hW; go_simp; (try with_reducible rfl); (try omega))
      · exact stg_val (by rfl) (by rfl) (fun W hW => by obtain ⟨y0, y1, y2, y3, y4, y5, y6, y7, y8, y9, y10⟩ := hW; go_simp; (try with_reducible rfl); (try omega))
      · exact stg_run (by rfl) (by rfl) (fun W hW => by subst hW; refine ⟨wa, ?_, rfl⟩; rw [HWA.out]; go_simp; try rfl)
      · exact stg_run (by rfl) (by rfl) (fun W hW => by subst hW; exact ⟨wb, run_appX rfl rfl rfl rfl happ, rfl⟩)
      · exact stg_val (by rfl) (by rfl) (fun W hW => by obtain ⟨y0, y1, y2, y3, y4, y5, y6, y7, y8, y9, y10⟩ := hW; go_simp; (try with_reducible rfl); (try omega))
      · exact stg_val (by rfl) (by rfl) (fun W hW => by obtain ⟨y0, y1, y2, y3, y4, y5, y6, y7, y8, y9, y10⟩ := hW; go_simp; (try with_reducible rfl); (try omega))
      · exact stg_skip (by rfl) (by rfl) rfl (fun W hW => by subst hW; refine ⟨wc, ?_, rfl⟩; rw [HWC.out]; go_simp; try rfl)
    case he1 =>
    intro W hW
    subst hW
    clear HWA HWC happ bA bB bC rA5 rB5 rC5 rCf m1 n1 o1
    go_wp2
    go_ret
    exact HFA.out
  · rw [List.getElem?_map] at hx
    obtain ⟨x, hi, hhx⟩ := Option.map_eq_some_iff.1 hx
    subst hhx
    have hxm : x.t.nm = (sr, ds, pr, id) := by simpa using hp
    have hxn : x.t.n ≤ 1000000 := hsz x (List.mem_of_getElem? hi)
    obtain ⟨hs1, hhs1⟩ : ∃ hs1, hs1 = hs := ⟨_, rfl⟩
    have HH : Hid ((hs1 = hs) ∨ ((∀ z ∈ hs, z.t.nm ≠ (sr, ds, pr, id)) ∧ hs1 = hs ++ [⟨⟨sr, ds, pr, id, now, none, 0, 0⟩, []⟩])) := .inl hhs1
    rw [← hhs1] at hi h3
    obtain ⟨kdt, hkdt⟩ : ∃ kdt, kdt = kd := ⟨_, rfl⟩
    have GT : Grow kd kdt w w3 := by rw [hkdt]; exact G3
    have hP : PoolW w3 kdt p now dr hs1 := by rw [hkdt]; exact h3
    have hkt : kdt w.heap.size = .no := by rw [hkdt]; exact hkb
    have stt := st3
    have slt := hsl3
    clear hhs1 hkdt hhl hsz h h3 st3 hsl3 G3 sn3 hroom hp hx hkb
    generalize j = i at *
    have x8 := stt.cell 8 _ rfl
    obtain ⟨a, c, hc1, hrow, hrk⟩ := hP.cells
    have hil : i < hs1.length := (List.getElem?_eq_some_iff.1 hi).1
    have hxw := hP.each x (List.mem_of_getElem? hi)
    obtain ⟨g, rfl, _, hgl, hcap, hcapm, _, _⟩ := hrow.at_ (fun _ => rfl) (by omega)
    have hgk := hrk g rfl
    obtain ⟨m, hm⟩ : ∃ m, m = hs1.length := ⟨_, rfl⟩
    have HM := (show Hid _ from hm)
    have him : i < m := by omega
    have himi : (i : Int) < (m : Int) := by omega
    have hmb : m ≤ 9223372036854775807 := by unfold maxLen at hcapm; omega
    clear hm hrk
    go_wp2_with fail
    refine (clone_any xa xn xc zs w3 slt (by omega)).mono ?_
    rintro e w5 ⟨a2, c2, rfl, o2, hg2, b5⟩
    obtain ⟨bb, rfl⟩ := hg2 hx0
    clear hg2 x8
    have hbbl := o2.own.lt bb rfl
    have hkbb : kdt bb = .no := hP.fresh bb hbbl.1
    have P5 := hP.below b5
    have st5 := stt.below b5
    have x8 := st5.cell 8 _ rfl
    have x8f := st5.free 8
    have htz := GT.fr.size
    have h5z := b5.size
    have st6 := st5.set 8 (.slice (some ⟨bb, 0, none⟩) xn c2)
    have fr6 := Fr.setCell (fun b => b = w.heap.size) w5 ⟨w.heap.size, 8, none⟩ (.slice (some ⟨bb, 0, none⟩) xn c2) rfl
    have P6 := P5.fr fr6 (fun b _ hb => by rw [hb]; exact hkt)
    have hxs6 : Sl (w5.setCell ⟨w.heap.size, 8, none⟩ (.slice (some ⟨bb, 0, none⟩) xn c2)) (some ⟨bb, 0, none⟩) xn c2 zs := (o2.sl (by omega)).frX fr6 (fun b off hb e => by injection hb with hb; injection hb with hb; have := stt.lt; omega)
    have G6 := GT.box b5 w.heap.size 8 (.slice (some ⟨bb, 0, none⟩) xn c2) (Nat.le_refl _)
    obtain ⟨w6, hw6⟩ : ∃ W, W = w5.setCell ⟨w.heap.size, 8, none⟩ (.slice (some ⟨bb, 0, none⟩) xn c2) := ⟨_, rfl⟩
    have hz6 : w6.heap.size = w5.heap.size := by rw [hw6]; simp [World.setCell]
    rw [← hw6] at st6 P6 hxs6 G6 fr6
    have hc6 := (hc1.below b5).fr fr6 (fun e => by rw [e] at hpl; omega)
    have hrow6 := (hrow.below b5).fr fr6 (fun b hb e => by have : g = b := (by simpa [Value.ownBlock] using hb); rw [← this] at e; rw [e, hkt] at hgk; cases hgk)
    have hx6 := P6.each x (List.mem_of_getElem? hi)
    have bd : Below w6.heap.size w6 w6.drew := (Below.refl _ _).drew
    obtain ⟨wa, hwa⟩ : ∃ W, W = w6.drew.alloc (.cells #[.int .u32 (sr : Nat), .int .u32 (ds : Nat), .int .u8 (pr : Nat), .int .u8 (tt : Nat), .int .u16 (id : Nat), .bool dn, .bool mo, .int .i64 of, .slice (some ⟨bb, 0, none⟩) xn c2] 26) := ⟨_, rfl⟩
    have ba : Below w6.heap.size w6 wa := by rw [hwa]; exact bd.alloc bd.size _
    have bda : Below w6.drew.heap.size w6.drew wa := by rw [hwa]; exact (Below.refl _ _).alloc (Nat.le_refl _) _
    have sa := Stc.new w6.drew [.int .u32 (sr : Nat), .int .u32 (ds : Nat), .int .u8 (pr : Nat), .int .u8 (tt : Nat), .int .u16 (id : Nat), .bool dn, .bool mo, .int .i64 of, .slice (some ⟨bb, 0, none⟩) xn c2] 26 wa hwa
    have hza := ba.size
    obtain ⟨g2, c3, wb, happ, hob, hgb, hlb, hglb⟩ := (hx6.row.g.below ba).app layPk 28 ⟨sr, ds, pr, tt, id, dn, mo, of, some ⟨bb, 0, none⟩, xn, c2⟩ ⟨w6.drew.heap.size, 0, none⟩ (fun j u hu => by rw [Addr.add_mid, Nat.zero_add]; exact sa.cell j u hu) (by unfold maxLen; omega) (by omega) (Nat.zero_le _)
    have happ : (Builtin.append_ #[28, 28] 28 #[.slice x.t.a x.t.n x.t.c, .slice (some ⟨w6.heap.size, 0, none⟩) 1 1]).run Try.prog wa = .ok (.slice (some ⟨g2, 0, none⟩) (x.t.n + 1) c3) wb := happ
    have hadd := P6.add hc6 hrow6 hgk ba hi ⟨sr, ds, pr, tt, id, dn, mo, of, some ⟨bb, 0, none⟩, xn, c2⟩ zs hxs6 hx0 rfl (by omega) hkbb hob hgb hlb
    obtain ⟨wc, hwc⟩ : ∃ W, W = wb.setCell ⟨g, i * 6 + 5, none⟩ (.slice (some ⟨g2, 0, none⟩) (x.t.n + 1) c3) := ⟨_, rfl⟩
    rw [← hwc] at hadd
    obtain ⟨kd2, hP2, hk2, hf2⟩ := hadd
    have G2 := G6.add hk2 (by omega) hf2
    have hzl := hxs6.len
    have HFA : Hid (HoP kd p now dr hs sr ds pr tt id dn mo of zs w (.returned (.slice (some ⟨g2, 0, none⟩) (x.t.n + 1) c3)) wc) := ⟨⟨hs1, i, x, bb, c2, g2, c3, kd2, HH.out, hi, hxm, rfl, by rw [hzl]; exact hP2, G2⟩⟩
    have frb := Fr.grown (P := fun b => (Value.slice x.t.a x.t.n x.t.c).ownBlock = some b) hgb (fun k hk => hk)
    have np : ¬ (Value.slice x.t.a x.t.n x.t.c).ownBlock = some p := fun e => by have h1 := hx6.rk p e; rw [P6.kp] at h1; cases h1
    have ng : ¬ (Value.slice x.t.a x.t.n x.t.c).ownBlock = some g := fun e => by have h1 := hx6.rk g e; rw [hgk] at h1; cases h1
    have nb : ¬ (Value.slice x.t.a x.t.n x.t.c).ownBlock = some w.heap.size := fun e => by have h1 := hx6.rk _ e; rw [hkt] at h1; cases h1
    have cA := hc6.below bd
    have cB := hc6.below ba
    have cC := cB.fr frb np
    have rA := hrow6.below bd
    have rB := hrow6.below ba
    have rC := rB.fr frb (fun b hb e => by have : g = b := (by simpa [Value.ownBlock] using hb); rw [← this] at e; exact ng e)
    have rD := OwnT.setPs rC i x.t (by rw [List.getElem?_map, hi]; rfl) (some ⟨g2, 0, none⟩) (x.t.n + 1) c3
    have cD := cC.other g (i * 6 + 5) (.slice (some ⟨g2, 0, none⟩) (x.t.n + 1) c3) (fun e => by rw [e, P6.kp] at hgk; cases hgk)
    rw [← hwc] at rD cD
    have bA := st6.below bd
    have bB := st6.below ba
    have bC := bB.fr frb nb
    have hti : (hs1.map (·.t))[i]? = some x.t := by rw [List.getElem?_map, hi]; rfl
    have hrc : ∀ W, OwnT W 0 (some ⟨g, 0, none⟩) hs1.length c (hs1.map (·.t)) → W.cell? ⟨g, i * 6 + 5, none⟩ = some (.slice x.t.a x.t.n x.t.c) ∧ ∀ q, W.frozen? ⟨g, q, none⟩ = false := fun W hW => by
      obtain ⟨g', hg', _, _, _, _, hcell, hfree⟩ := hW.at_ (fun _ => rfl) (by omega)
      injection hg' with hg'
      injection hg' with hg'
      subst hg'
      exact ⟨hcell i x.t hti 5 _ rfl, hfree⟩
    have rA5 := (hrc _ rA).1
    have rB5 := (hrc _ rB).1
    have rC5 := (hrc _ rC).1
    have rCf := (hrc _ rC).2 (i * 6 + 5)
    have rD5 : wc.cell? ⟨g, i * 6 + 5, none⟩ = some (.slice (some ⟨g2, 0, none⟩) (x.t.n + 1) c3) := by
      obtain ⟨g', hg', _, _, _, _, hcell, _⟩ := rD.at_ (fun _ => rfl) (by omega)
      injection hg' with hg'
      injection hg' with hg'
      subst hg'
      exact hcell i (x.t.with (some ⟨g2, 0, none⟩) (x.t.n + 1) c3) (by rw [List.getElem?_set, if_pos rfl, if_pos (by simpa using hil)]) 5 _ rfl
    rw [← HM.out] at cA cB cC cD
    have m1 := cA.cell 1 _ rfl
    have n1 := cB.cell 1 _ rfl
    have o1 := cC.cell 1 _ rfl
    have q1 := cD.cell 1 _ rfl
    have HWA := (show Hid _ from hwa)
    have HWC := (show Hid _ from hwc)
    clear hwa hwc hP2 hk2 hf2 G2 hob hgb hlb sa hrc G6 rD rC rB rA cB cC cD cA hxs6 o2 P5 st5 hx6 hc6 hrow6 frb
    go_wp2_with fail
    rw [← hw6]
    clear hw6 x8 x8f
    refine wp_region_stage mixedX [14, 15, 18] (fun k W => match k with | 0 => W = w6.drew | 1 => W = wa | 2 => W = wb | _ => W = wc) (fun W => W.cell? ⟨p, 1, none⟩ = some (.slice (some ⟨g, 0, none⟩) m c) ∧ W.cell? ⟨g, i * 6 + 5, none⟩ = some (.slice x.t.a x.t.n x.t.c) ∧ W.cell? ⟨w.heap.size, 0, none⟩ = some (.int .u32 (sr : Nat)) ∧ W.cell? ⟨w.heap.size, 1, none⟩ = some (.int .u32 (ds : Nat)) ∧ W.cell? ⟨w.heap.size, 2, none⟩ = some (.int .u8 (pr : Nat)) ∧ W.cell? ⟨w.heap.size, 3, none⟩ = some (.int .u8 (tt : Nat)) ∧ W.cell? ⟨w.heap.size, 4, none⟩ = some (.int .u16 (id : Nat)) ∧ W.cell? ⟨w.heap.size, 5, none⟩ = some (.bool dn) ∧ W.cell? ⟨w.heap.size, 6, none⟩ = some (.bool mo) ∧ W.cell? ⟨w.heap.size, 7, none⟩ = some (.int .i64 of) ∧ W.cell? ⟨w.heap.size, 8, none⟩ = some (.slice (some ⟨bb, 0, none⟩) xn c2)) [(25, .pointer (some ⟨p, 0, none⟩)), (26, .pointer (some ⟨p, 0, none⟩)), (27, .pointer (some ⟨p, 1, none⟩)), (28, .slice (some ⟨g, 0, none⟩) m c), (29, .int .i64 (i : Nat)), (30, .pointer (some ⟨p, 0, none⟩)), (31, .pointer (some ⟨p, 0, none⟩)), (32, .pointer (some ⟨p, 1, none⟩)), (33, .slice (some ⟨g, 0, none⟩) m c), (34, .int .i64 (i : Nat)), (35, .pointer (some ⟨g, i * 6, none⟩)), (36, .pointer (some ⟨g, i * 6 + 5, none⟩)), (37, .slice x.t.a x.t.n x.t.c), (38, .agg #[.int .u32 (sr : Nat), .int .u32 (ds : Nat), .int .u8 (pr : Nat), .int .u8 (tt : Nat), .int .u16 (id : Nat), .bool dn, .bool mo, .int .i64 of, .slice (some ⟨bb, 0, none⟩) xn c2]), (39, .slice (some ⟨w6.heap.size, 0, none⟩) 1 1), (40, .slice (some ⟨g2, 0, none⟩) (x.t.n + 1) c3), (41, .pointer (some ⟨g, i * 6, none⟩)), (42, .pointer (some ⟨g, i * 6 + 5, none⟩))] ?Z2 ?hZ2 (by kernel_rfl) (by kernel_rfl) (by kernel_rfl) (by kernel_rfl) (by kernel_rfl) ?h02 ?hS2 (.inl (by kernel_rfl)) ?hops2 ?he2 (by kernel_rfl) (by decide)
    case hZ2 => simp only [List.foldl_cons, List.foldl_nil, List.setIfInBounds_toArray, List.set_cons_zero, List.set_cons_succ]; rfl
    case h02 => rfl
    case hS2 =>
      intro k W hk hW
      have hk : k < 3 := hk
      obtain rfl | rfl | rfl : k = 0 ∨ k = 1 ∨ k = 2 := by omega
      · subst hW; exact ⟨m1, rA5, bA.cell 0 _ rfl, bA.cell 1 _ rfl, bA.cell 2 _ rfl, bA.cell 3 _ rfl, bA.cell 4 _ rfl, bA.cell 5 _ rfl, bA.cell 6 _ rfl, bA.cell 7 _ rfl, bA.cell 8 _ rfl⟩
      · subst hW; exact ⟨n1, rB5, bB.cell 0 _ rfl, bB.cell 1 _ rfl, bB.cell 2 _ rfl, bB.cell 3 _ rfl, bB.cell 4 _ rfl, bB.cell 5 _ rfl, bB.cell 6 _ rfl, bB.cell 7 _ rfl, bB.cell 8 _ rfl⟩
      · subst hW; exact ⟨o1, rC5, bC.cell 0 _ rfl, bC.cell 1 _ rfl, bC.cell 2 _ rfl, bC.cell 3 _ rfl, bC.cell 4 _ rfl, bC.cell 5 _ rfl, bC.cell 6 _ rfl, bC.cell 7 _ rfl, bC.cell 8 _ rfl⟩
    case hops2 =>
      refine ⟨?_, ?_, ?_, ?_, ?_, ?_, ?_, ?_, ?_, ?_, ?_, ?_, ?_, ?_, ?_, ?_, ?_, ?_, ?_, trivial⟩
      · exact stg_val (by rfl) (by rfl) (fun W hW => by obtain ⟨y0, y1, y2, y3, y4, y5, y6, y7, y8, y9, y10⟩ := hW; go_simp; (try with_reducible rfl); (try omega))
      · exact stg_val (by rfl) (by rfl) (fun W hW => by obtain ⟨y0, y1, y2, y3, y4, y5, y6, y7, y8, y9, y10⟩ := hW; go_simp; (try with_reducible rfl); (try omega))
      · exact stg_val (by rfl) (by rfl) (fun W hW => by obtain ⟨y0, y1, y2, y3, y4, y5, y6, y7, y8, y9, y10⟩ := hW; go_simp; (try with_reducible rfl); (try omega))
      · exact stg_val (by rfl) (by rfl) (fun W hW => by obtain ⟨y0, y1, y2, y3, y4, y5, y6, y7, y8, y9, y10⟩ := hW; go_simp; (try with_reducible rfl); (try omega))
      · exact stg_val (by rfl) (by rfl) (fun W hW => by obtain ⟨y0, y1, y2, y3, y4, y5, y6, y7, y8, y9, y10⟩ := hW; go_simp; (try with_reducible rfl); (try omega))
      · exact stg_val (by rfl) (by rfl) (fun W hW => by obtain ⟨y0, y1, y2, y3, y4, y5, y6, y7, y8, y9, y10⟩ := hW; go_simp; (try with_reducible rfl); (try omega))
      · exact stg_val (by rfl) (by rfl) (fun W hW => by obtain ⟨y0, y1, y2, y3, y4, y5, y6, y7, y8, y9, y10⟩ := hW; go_simp; (try with_reducible rfl); (try omega))
      · exact stg_val (by rfl) (by rfl) (fun W hW => by obtain ⟨y0, y1, y2, y3, y4, y5, y6, y7, y8, y9, y10⟩ := hW; go_simp; (try with_reducible rfl); (try omega))
      · exact stg_val (by rfl) (by rfl) (fun W hW => by obtain ⟨y0, y1, y2, y3, y4, y5, y6, y7, y8, y9, y10⟩ := hW; go_simp; (try with_reducible rfl); (try omega))
      · exact stg_val (by rfl) (by rfl) (fun W hW => by obtain ⟨y0, y1, y2, y3, y4, y5, y6, y7, y8, y9, y10⟩ := hW; go_simp; (try with_reducible rfl); (try omega))
      · exact stg_val (by rfl) (by rfl) (fun W hW => by obtain ⟨y0, y1, y2, y3, y4, y5, y6, y7, y8, y9, y10⟩ := hW; go_simp; (try with_reducible rfl); (try omega))
      · exact stg_val (by rfl) (by rfl) (fun W hW => by obtain ⟨y0, y1, y2, y3, y4, y5, y6, y7, y8, y9, y10⟩ := hW; go_simp; (try with_reducible rfl); (try omega))
      · exact stg_val (by rfl) (by rfl) (fun W hW => by obtain ⟨y0, y1, y2, y3, y4, y5, y6, y7, y8, y9, y10⟩ := hW; go_simp; (try with_reducible rfl); (try omega))
      · exact stg_val (by rfl) (by rfl) (fun W hW => by obtain ⟨y0, y1, y2, y3, y4, y5, y6, y7, y8, y9, y10⟩ := hW; go_simp; (try with_reducible rfl); (try omega))
      · exact stg_run (by rfl) (by rfl) (fun W hW => by subst hW; refine ⟨wa, ?_, rfl⟩; rw [HWA.out]; go_simp; try rfl)
      · exact stg_run (by rfl) (by rfl) (fun W hW => by subst hW; exact ⟨wb, run_appX rfl rfl rfl rfl happ, rfl⟩)
      · exact stg_val (by rfl) (by rfl) (fun W hW => by obtain ⟨y0, y1, y2, y3, y4, y5, y6, y7, y8, y9, y10⟩ := hW; go_simp; (try with_reducible rfl); (try omega))
      · exact stg_val (by rfl) (by rfl) (fun W hW => by obtain ⟨y0, y1, y2, y3, y4, y5, y6, y7, y8, y9, y10⟩ := hW; go_simp; (try with_reducible rfl); (try omega))
      · exact stg_skip (by rfl) (by rfl) rfl (fun W hW => by subst hW; refine ⟨wc, ?_, rfl⟩; rw [HWC.out]; go_simp; try rfl)
    case he2 =>
    intro W hW
    subst hW
    clear HWA HWC happ bA bB bC rA5 rB5 rC5 rCf m1 n1 o1
    go_wp2
    go_ret
    exact HFA.out
end Go.Proofs.Ytnbagloifbllbaa
