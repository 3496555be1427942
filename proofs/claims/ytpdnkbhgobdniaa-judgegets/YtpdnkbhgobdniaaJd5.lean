/- judge: sent. -/
import Derived.Test.YtpdnkbhgobdniaaJd4
namespace Go.Proofs.Ytpdnkbhgobdniaa
open Go.RowKit Go.MapKept Go.Maps
/-- The seven cells of a book in its box, for the walk. -/
theorem Hd.bcells {w0 : World} {cb : Nat} {own : Ow} {n : Nat} {cp : Cp} {q qs : Sd} {sb mb bb : Nat} {m : Mg} {b0 b1 b2 b3 b4 b5 b6 : Value} {W : World} (h : Hd w0 cb own n cp q qs sb mb bb m [b0, b1, b2, b3, b4, b5, b6] W) :
    W.cell? ⟨bb, 0, none⟩ = some b0 ∧ W.cell? ⟨bb, 1, none⟩ = some b1 ∧ W.cell? ⟨bb, 2, none⟩ = some b2 ∧ W.cell? ⟨bb, 3, none⟩ = some b3 ∧ W.cell? ⟨bb, 4, none⟩ = some b4 ∧ W.cell? ⟨bb, 5, none⟩ = some b5 ∧ W.cell? ⟨bb, 6, none⟩ = some b6 ∧ W.frozen? ⟨bb, 3, none⟩ = false :=
  ⟨h.b 0 _ rfl, h.b 1 _ rfl, h.b 2 _ rfl, h.b 3 _ rfl, h.b 4 _ rfl, h.b 5 _ rfl, h.b 6 _ rfl, (h.bt 3 (by omega)).2⟩
theorem Hd.scells {w0 : World} {cb : Nat} {own : Ow} {n : Nat} {cp : Cp} {q qs : Sd} {sb mb bb : Nat} {m : Mg} {bc : List Value} {W : World} (h : Hd w0 cb own n cp q qs sb mb bb m bc W) :
    W.cell? ⟨sb, 0, none⟩ = some (.int .i64 qs.1) ∧ W.cell? ⟨sb, 1, none⟩ = some (.int .u32 (qs.2.1 : Nat)) ∧ W.cell? ⟨sb, 2, none⟩ = some (.int .u32 (qs.2.2 : Nat)) := ⟨h.s 0 _ rfl, h.s 1 _ rfl, h.s 2 _ rfl⟩
theorem Hd.mcells {w0 : World} {cb : Nat} {own : Ow} {n : Nat} {cp : Cp} {q qs : Sd} {sb mb bb : Nat} {m : Mg} {bc : List Value} {W : World} (h : Hd w0 cb own n cp q qs sb mb bb m bc W) :
    W.cell? ⟨mb, 0, none⟩ = some (.int .u16 (m.st : Nat)) ∧ W.cell? ⟨mb, 1, none⟩ = some (.int .u16 (m.ssn : Nat)) ∧ W.cell? ⟨mb, 2, none⟩ = some (.int .u32 (m.pp : Nat)) ∧ W.cell? ⟨mb, 3, none⟩ = some (.bool m.free) ∧ W.cell? ⟨mb, 4, none⟩ = some (.slice m.a m.n m.c) := ⟨h.mg 0 _ rfl, h.mg 1 _ rfl, h.mg 2 _ rfl, h.mg 3 _ rfl, h.mg 4 _ rfl⟩
/-- What is read while a free message is counted. -/
theorem Hd.all5 {w0 : World} {cb : Nat} {own : Ow} {n : Nat} {cp : Cp} {q qs : Sd} {sb mb bb : Nat} {m : Mg} {b0 b1 b2 b3 b4 b5 b6 : Value} {W : World} (h : Hd w0 cb own n cp q qs sb mb bb m [b0, b1, b2, b3, b4, b5, b6] W) :
    W.cell? ⟨bb, 1, none⟩ = some b1 ∧ W.cell? ⟨mb, 0, none⟩ = some (.int .u16 (m.st : Nat)) ∧ W.cell? ⟨mb, 1, none⟩ = some (.int .u16 (m.ssn : Nat)) ∧ W.cell? ⟨mb, 2, none⟩ = some (.int .u32 (m.pp : Nat)) ∧ W.cell? ⟨mb, 3, none⟩ = some (.bool m.free) ∧ W.cell? ⟨mb, 4, none⟩ = some (.slice m.a m.n m.c) ∧ Hd w0 cb own n cp q qs sb mb bb m [b0, b1, b2, b3, b4, b5, b6] W :=
  ⟨h.b 1 _ rfl, h.mg 0 _ rfl, h.mg 1 _ rfl, h.mg 2 _ rfl, h.mg 3 _ rfl, h.mg 4 _ rfl, h⟩
theorem box35 {w w2 : World} {a b c d e f g h : Value} {T U : TypeId} (hb : Below ((w.alloc (.cells #[a, b, c] T)).alloc (.cells #[d, e, f, g, h] U)).heap.size ((w.alloc (.cells #[a, b, c] T)).alloc (.cells #[d, e, f, g, h] U)) w2) : w2.cell? ⟨w.heap.size, 0, none⟩ = some a ∧ w2.cell? ⟨w.heap.size, 1, none⟩ = some b ∧ w2.cell? ⟨w.heap.size, 2, none⟩ = some c ∧ w2.cell? ⟨w.heap.size + 1, 0, none⟩ = some d ∧ w2.cell? ⟨w.heap.size + 1, 1, none⟩ = some e ∧ w2.cell? ⟨w.heap.size + 1, 2, none⟩ = some f ∧ w2.cell? ⟨w.heap.size + 1, 3, none⟩ = some g ∧ w2.cell? ⟨w.heap.size + 1, 4, none⟩ = some h ∧ w.heap.size + 1 < w2.heap.size := by
  have r1 : (w.alloc (.cells #[a, b, c] T)).rangeAt w.heap.size 0 [a, b, c] := range_new w _ T _ rfl
  have r2 : ((w.alloc (.cells #[a, b, c] T)).alloc (.cells #[d, e, f, g, h] U)).rangeAt (w.heap.size + 1) 0 [d, e, f, g, h] := by
    have := range_new (w.alloc (.cells #[a, b, c] T)) [d, e, f, g, h] U _ rfl
    simpa using this
  have r1' := range_below (World.rangeAt_alloc r1 (.cells #[d, e, f, g, h] U)) hb (by simp; omega)
  have r2' := range_below r2 hb (by simp)
  exact ⟨r1' 0 _ rfl, r1' 1 _ rfl, r1' 2 _ rfl, r2' 0 _ rfl, r2' 1 _ rfl, r2' 2 _ rfl, r2' 3 _ rfl, r2' 4 _ rfl, by have := hb.size; simp at this; omega⟩
set_option maxRecDepth 100000 in
set_option maxHeartbeats 4000000 in
theorem sent_no1 (w0 : World) (cb : Nat) (own : Ow) (n : Nat) (cp : Cp) (q : Sd) (st ssn pp : Nat) (fr : Bool) (a : Option Addr) (nn c : Nat) (w : World) (h : Ct w0 w cb own n cp (fun _ => False)) (hk : SdK q) (hs : (cp q).shuts = true) :
    Calls Try.prog 24 #[.map (some cb), .agg #[.int .i64 q.1, .int .u32 (q.2.1 : Nat), .int .u32 (q.2.2 : Nat)], .agg #[.int .u16 (st : Nat), .int .u16 (ssn : Nat), .int .u32 (pp : Nat), .bool fr, .slice a nn c]] w (TkP w0 cb n ((cp, 9))) := by
  have HO : Hid (∀ W v, Below w.heap.size w W → v = sdV q → Calls Try.prog 20 #[.map (some cb), v] W (OfQ w0 cb own n cp q W)) := fun W v hW hv => of2 w0 cb own n cp q W (h.below hW) hk v hv
  have HH := (show Hid _ from h)
  clear h
  go_enter Try.func24, Try.ntmps24
  go_wp2_with (first | (go_at_call 20; refine (HO.out _ _ (((Below.refl _ _).alloc (Nat.le_refl _) _).alloc (by simp) _) rfl).mono ?_; rintro e w2 ⟨⟨r, l, t, own', rfl, hct, hbk, hx1, hx2⟩, hbel⟩; unfold bval; rw [hs]; have HC := (show Hid _ from hct); clear hct hbk hx1 hx2 hbel) | fail)
  go_ret
  exact ⟨rfl, _, HC.out.mono (by omega) |>.below ((Below.refl _ _).alloc (Nat.le_refl _) _)⟩
set_option maxRecDepth 100000 in
set_option maxHeartbeats 4000000 in
theorem sent_no2 (w0 : World) (cb : Nat) (own : Ow) (n : Nat) (cp : Cp) (q : Sd) (st ssn pp : Nat) (fr : Bool) (a : Option Addr) (nn c : Nat) (w : World) (h : Ct w0 w cb own n cp (fun _ => False)) (hk : SdK q) (hs : (cp q).shuts = false) (he : (cp q).ended = true) :
    Calls Try.prog 24 #[.map (some cb), .agg #[.int .i64 q.1, .int .u32 (q.2.1 : Nat), .int .u32 (q.2.2 : Nat)], .agg #[.int .u16 (st : Nat), .int .u16 (ssn : Nat), .int .u32 (pp : Nat), .bool fr, .slice a nn c]] w (TkP w0 cb n ((cp, 9))) := by
  have HO : Hid (∀ W v, Below w.heap.size w W → v = sdV q → Calls Try.prog 20 #[.map (some cb), v] W (OfQ w0 cb own n cp q W)) := fun W v hW hv => of2 w0 cb own n cp q W (h.below hW) hk v hv
  have HH := (show Hid _ from h)
  clear h
  go_enter Try.func24, Try.ntmps24
  go_wp2_with (first | (go_at_call 20; refine (HO.out _ _ (((Below.refl _ _).alloc (Nat.le_refl _) _).alloc (by simp) _) rfl).mono ?_; rintro e w2 ⟨⟨r, l, t, own', rfl, hct, hbk, hx1, hx2⟩, hbel⟩; unfold bval; rw [hs, he]; have HC := (show Hid _ from hct); clear hct hbk hx1 hx2 hbel) | fail)
  go_ret
  exact ⟨rfl, _, HC.out.mono (by omega) |>.below ((Below.refl _ _).alloc (Nat.le_refl _) _)⟩
set_option maxRecDepth 100000 in
set_option maxHeartbeats 4000000 in
theorem sent_free (w0 : World) (cb : Nat) (own : Ow) (n : Nat) (cp : Cp) (q : Sd) (st ssn pp : Nat) (a : Option Addr) (nn c : Nat) (zs : List Nat) (w : World) (h : Ct w0 w cb own n cp (fun _ => False)) (hk : SdK q) (hm : (Mg.mk st ssn pp true a nn c zs).Ok w0) (hn : n ≤ 100000) (hs : (cp q).shuts = false) (he : (cp q).ended = false) :
    Calls Try.prog 24 #[.map (some cb), .agg #[.int .i64 q.1, .int .u32 (q.2.1 : Nat), .int .u32 (q.2.2 : Nat)], .agg #[.int .u16 (st : Nat), .int .u16 (ssn : Nat), .int .u32 (pp : Nat), .bool true, .slice a nn c]] w (TkP w0 cb n (cp.set q ((cp q).push ⟨st, ssn, pp, true, a, nn, c, zs⟩), 0)) := by
  have HO : Hid (∀ W v, Below w.heap.size w W → v = sdV q → Calls Try.prog 20 #[.map (some cb), v] W (OfQ w0 cb own n cp q W)) := fun W v hW hv => of2 w0 cb own n cp q W (h.below hW) hk v hv
  have HH := (show Hid _ from h)
  clear h
  go_enter Try.func24, Try.ntmps24
  go_wp2_with (first | (go_at_call 20; refine (HO.out _ _ (((Below.refl _ _).alloc (Nat.le_refl _) _).alloc (by simp) _) rfl).mono ?_; rintro e w2 ⟨⟨r, l, t, own', rfl, hct, hbk, hx1, hx2⟩, hbel⟩; have hHd := hd_new (q := q) (qs := q) (m := ⟨st, ssn, pp, true, a, nn, c, zs⟩) [.map (some r), .map (some l), .map (some t), .int .i64 (cp q).owed, .bool (cp q).came, .bool false, .bool false] rfl 57 41 54 HH.out hbel hct (fun g o ho => by have := hx2 g o ho; simpa using this) _ rfl; have hbk3 := hbk.below (w' := w2.alloc (.cells #[.map (some r), .map (some l), .map (some t), .int .i64 (cp q).owed, .bool (cp q).came, .bool false, .bool false] 54)) ((Below.refl _ _).alloc (Nat.le_refl _) _); obtain ⟨s0, s1, s2, m0, m1, m2, m3, m4, hz⟩ := box35 hbel; unfold bval; rw [hs, he]; clear hct hbk hx1 hx2 hbel) | fail)
  have hHd0 := hHd.below (Below.refl _ _).drew
  have hbk0 := hbk3.below (Below.refl _ _).drew
  have HALL : Hid (∀ W, Hd w0 cb own' n cp q q w.heap.size (w.heap.size + 1) w2.heap.size ⟨st, ssn, pp, true, a, nn, c, zs⟩ [.map (some r), .map (some l), .map (some t), .int .i64 (cp q).owed, .bool (cp q).came, .bool false, .bool false] W → _) := fun W h => Hd.all5 h
  have HMK : Hid (∀ W, Hd w0 cb own' n cp q q w.heap.size (w.heap.size + 1) w2.heap.size ⟨st, ssn, pp, true, a, nn, c, zs⟩ [.map (some r), .map (some l), .map (some t), .int .i64 (cp q).owed, .bool (cp q).came, .bool false, .bool false] W → (Mg.mk st ssn pp true a nn c zs).Ok W) := fun W h => ⟨hm.st, hm.ssn, hm.pp, hm.sl.below h.ct.bel, hm.cap⟩
  have hb2 := hbk3.b2 (st, pp, zs)
  have ho := hbk3.b4
  obtain ⟨L, hL⟩ : ∃ L, L = (cp q).loose (st, pp, zs) := ⟨_, rfl⟩
  rw [← hL] at hb2
  have hwr : IntKind.i64.wrap (L + 1) = L + 1 := by rw [IntKind.wrap_i64]; omega
  have HL := (show Hid _ from hL)
  have HK := (show Hid _ from hm.cnK)
  obtain ⟨cv, hcv⟩ : ∃ cv, cv = cnV (st, pp, zs) := ⟨_, rfl⟩
  have HCV := (show Hid _ from hcv)
  clear hm hL hHd hbk3 hcv
  go_region_held3 (fun W => W.cell? ⟨w2.heap.size, 1, none⟩ = some (.map (some l)) ∧ W.cell? ⟨w.heap.size + 1, 0, none⟩ = some (.int .u16 (st : Nat)) ∧ W.cell? ⟨w.heap.size + 1, 1, none⟩ = some (.int .u16 (ssn : Nat)) ∧ W.cell? ⟨w.heap.size + 1, 2, none⟩ = some (.int .u32 (pp : Nat)) ∧ W.cell? ⟨w.heap.size + 1, 3, none⟩ = some (.bool true) ∧ W.cell? ⟨w.heap.size + 1, 4, none⟩ = some (.slice a nn c) ∧ Hd w0 cb own' n cp q q w.heap.size (w.heap.size + 1) w2.heap.size ⟨st, ssn, pp, true, a, nn, c, zs⟩ [.map (some r), .map (some l), .map (some t), .int .i64 (cp q).owed, .bool (cp q).came, .bool false, .bool false] W) (first | exact HALL.out _ (by assumption)) (first
    | (go_at_call 29; refine (content_any ⟨st, ssn, pp, true, a, nn, c, zs⟩ _ (HMK.out _ (by assumption)) _ (by rfl)).mono ?_; rintro e w4 ⟨he, hb4⟩; obtain rfl : e = .returned cv := (by rw [HCV.out]; exact he); clear he; have hHd4 := Hd.below (by assumption) hb4; obtain ⟨hlk, w5, sn, w6, hent, hlk5, hsto, hbk6, fr5, fr6⟩ := BkOk.entry (hbk0.below hb4) (st, pp, zs) HK.out (L + 1) (by omega); rw [← HL.out, ← HCV.out] at hlk hent hlk5; have hHd5 := hHd4.fr fr5 (fun g hg => ⟨1, by rw [hg]; exact hbk0.hl⟩); have hHd6 := hHd4.fr fr6 (fun g hg => ⟨1, by rw [hg]; exact hbk0.hl⟩); clear hb4 fr5 fr6)
    | fail)
  all_goals
    obtain ⟨k0, k1, k2, k3, k4, k5, k6, kf⟩ := hHd6.bcells
    obtain ⟨z0, z1, z2⟩ := hHd6.scells
    have hfs := Fr.setCell (· = w2.heap.size) w6 ⟨w2.heap.size, 3, none⟩ (.int .i64 ((cp q).owed + 1)) rfl
    have hct7 := hHd6.ct.fr hfs (fun g hg => by rw [hg]; exact hHd6.bB) hHd6.bc (fun g q' i hg hQ => absurd hQ (hHd6.no g _ hg).2.2)
    have hbk7 := (hbk6.fr hfs (fun g i hg => (hHd6.no g _ hg).2.2)).flags ((cp q).owed + 1) (cp q).came (cp q).ended (cp q).shuts (by omega)
    obtain ⟨w8, hput, hct8, _⟩ := (hct7.mono (Nat.le_add_right n 1)).put hk hbk7
    unfold bval sdV at hput
    dsimp only at hput
    rw [hs, he] at hput
    have HC := (show Hid _ from hct8)
    have ho1 : -100000 ≤ (cp q).owed := by omega
    have ho2 : (cp q).owed ≤ 100000 := by omega
    clear hct8 hct7 hbk7 hfs hHd0 hbk0 hHd4 hHd5 hHd6 hlk hent hlk5 hsto hbk6 HALL HMK ho
    go_wp2
    go_ret
    refine ⟨rfl, own', ?_⟩
    have hh := HC.out.done (fun q' h => h.2 h.1)
    have e : (cp q).push ⟨st, ssn, pp, true, a, nn, c, zs⟩ = { cp q with loose := fun k' => if k' = (st, pp, zs) then L + 1 else (cp q).loose k', owed := (cp q).owed + 1, came := (cp q).came, ended := (cp q).ended, shuts := (cp q).shuts } := by
      unfold Bp.push
      rw [if_pos rfl, HL.out]
      congr 1
      funext k'
      show (if k' = (st, pp, zs) then _ else _) = _
      split
      · rename_i e2; rw [e2]
      · rfl
    rw [e]
    exact hh
theorem Hd.all6 {w0 : World} {cb : Nat} {own : Ow} {n : Nat} {cp : Cp} {q qs : Sd} {sb mb bb : Nat} {m : Mg} {b0 b1 b2 b3 b4 b5 b6 : Value} {W : World} (h : Hd w0 cb own n cp q qs sb mb bb m [b0, b1, b2, b3, b4, b5, b6] W) :
    W.cell? ⟨bb, 0, none⟩ = some b0 ∧ W.cell? ⟨mb, 0, none⟩ = some (.int .u16 (m.st : Nat)) ∧ W.cell? ⟨mb, 1, none⟩ = some (.int .u16 (m.ssn : Nat)) ∧ W.cell? ⟨mb, 2, none⟩ = some (.int .u32 (m.pp : Nat)) ∧ W.cell? ⟨mb, 3, none⟩ = some (.bool m.free) ∧ W.cell? ⟨mb, 4, none⟩ = some (.slice m.a m.n m.c) ∧ Hd w0 cb own n cp q qs sb mb bb m [b0, b1, b2, b3, b4, b5, b6] W :=
  ⟨h.b 0 _ rfl, h.mg 0 _ rfl, h.mg 1 _ rfl, h.mg 2 _ rfl, h.mg 3 _ rfl, h.mg 4 _ rfl, h⟩
set_option maxRecDepth 100000 in
set_option maxHeartbeats 4000000 in
theorem sent_row (w0 : World) (cb : Nat) (own : Ow) (n : Nat) (cp : Cp) (q : Sd) (st ssn pp : Nat) (a : Option Addr) (nn c : Nat) (zs : List Nat) (w : World) (h : Ct w0 w cb own n cp (fun _ => False)) (hk : SdK q) (hm : (Mg.mk st ssn pp false a nn c zs).Ok w0) (hn : n ≤ 100000) (hs : (cp q).shuts = false) (he : (cp q).ended = false) :
    Calls Try.prog 24 #[.map (some cb), .agg #[.int .i64 q.1, .int .u32 (q.2.1 : Nat), .int .u32 (q.2.2 : Nat)], .agg #[.int .u16 (st : Nat), .int .u16 (ssn : Nat), .int .u32 (pp : Nat), .bool false, .slice a nn c]] w (TkP w0 cb n (cp.set q ((cp q).push ⟨st, ssn, pp, false, a, nn, c, zs⟩), 0)) := by
  have HO : Hid (∀ W v, Below w.heap.size w W → v = sdV q → Calls Try.prog 20 #[.map (some cb), v] W (OfQ w0 cb own n cp q W)) := fun W v hW hv => of2 w0 cb own n cp q W (h.below hW) hk v hv
  have HH := (show Hid _ from h)
  clear h
  go_enter Try.func24, Try.ntmps24
  go_wp2_with (first | (go_at_call 20; refine (HO.out _ _ (((Below.refl _ _).alloc (Nat.le_refl _) _).alloc (by simp) _) rfl).mono ?_; rintro e w2 ⟨⟨r, l, t, own', rfl, hct, hbk, hx1, hx2⟩, hbel⟩; have hHd := hd_new (q := q) (qs := q) (m := ⟨st, ssn, pp, false, a, nn, c, zs⟩) [.map (some r), .map (some l), .map (some t), .int .i64 (cp q).owed, .bool (cp q).came, .bool false, .bool false] rfl 57 41 54 HH.out hbel hct (fun g o ho => by have := hx2 g o ho; simpa using this) _ rfl; have hbk3 := hbk.below (w' := w2.alloc (.cells #[.map (some r), .map (some l), .map (some t), .int .i64 (cp q).owed, .bool (cp q).came, .bool false, .bool false] 54)) ((Below.refl _ _).alloc (Nat.le_refl _) _); have HZ := (show Hid _ from And.intro hct (And.intro hbel.size HH.out)); obtain ⟨s0, s1, s2, m0, m1, m2, m3, m4, hz⟩ := box35 hbel; unfold bval; rw [hs, he]; clear hct hbk hx1 hx2 hbel) | fail)
  obtain ⟨W3, HW3⟩ : ∃ W3, Hid (W3 = w2.alloc (.cells #[.map (some r), .map (some l), .map (some t), .int .i64 (cp q).owed, .bool (cp q).came, .bool false, .bool false] 54)) := ⟨_, rfl⟩
  rw [← HW3.out] at hHd hbk3 ⊢
  have hHd0 := hHd.below (Below.refl _ _).drew
  have hbk0 := hbk3.below (Below.refl _ _).drew
  obtain ⟨ra, rm, rc, hlook, hrow, hro⟩ := hbk0.lookRow st hm.st
  have hb1 : Below W3.drew.heap.size W3.drew (W3.alloc (.cells #[.int .u16 (st : Nat), .int .u16 (ssn : Nat), .int .u32 (pp : Nat), .bool false, .slice a nn c] 41)).drew := (Below.refl _ W3.drew).alloc (Nat.le_refl _) _
  have hrg : (W3.alloc (.cells #[.int .u16 (st : Nat), .int .u16 (ssn : Nat), .int .u32 (pp : Nat), .bool false, .slice a nn c] 41)).drew.rangeAt W3.heap.size 0 [.int .u16 (st : Nat), .int .u16 (ssn : Nat), .int .u32 (pp : Nat), .bool false, .slice a nn c] := range_new W3.drew _ 41 _ rfl
  obtain ⟨g, c2, w5, w6, own2, happ, hupd, hbk6, hfr, hfr5, hx1, hx2⟩ := hbk0.row (fun g o ho => (hHd0.ct.ownB g o ho).2.1) hHd0.ct.bel.size hn ⟨st, ssn, pp, false, a, nn, c, zs⟩ hm 33 _ hb1 ⟨W3.heap.size, 0, none⟩ (fun j u hu => by rw [Addr.add_mid]; exact hrg j u hu) ra rm rc hrow hro
  have hlkA := hlook W3.drew rfl
  have hlkB := hlook _ (hb1.block r ((hHd0.ct.ownB r _ hbk0.hr).2.1))
  have hHd5 := hHd0.below hb1
  have hHd6 := hHd5.fr hfr (fun g hg => by rcases hg with hg | hg; exact ⟨0, by rw [hg]; exact hbk0.hr⟩; exact ⟨_, hro g hg⟩)
  have hHd5b := hHd5.fr hfr5 (fun g hg => ⟨_, hro g hg⟩)
  have hHd7 := hHd6.ext W3.drew.heap.size ⟨hHd0.ls, hHd0.lm, hHd0.lb, hHd0.ct.lt, hHd0.ct.bel.size⟩ hx1 (fun g o ho => by rcases hx2 g o ho with h | h; exact .inl h; exact .inr ⟨h.1, h.2.1⟩)
  unfold stV at hlkA hlkB hupd
  have HALL : Hid (∀ W, Hd w0 cb own' n cp q q w.heap.size (w.heap.size + 1) w2.heap.size ⟨st, ssn, pp, false, a, nn, c, zs⟩ [.map (some r), .map (some l), .map (some t), .int .i64 (cp q).owed, .bool (cp q).came, .bool false, .bool false] W → _) := fun W h => Hd.all6 h
  have ho := hbk3.b4
  have HF := (show Hid _ from And.intro hHd7 hbk6)
  clear hm hHd hbk3 hlook hrow hro hrg hfr hfr5 hx1 hx2 hbk6 hHd7 hb1 hbk0
  go_region_held3 (fun W => W.cell? ⟨w2.heap.size, 0, none⟩ = some (.map (some r)) ∧ W.cell? ⟨w.heap.size + 1, 0, none⟩ = some (.int .u16 (st : Nat)) ∧ W.cell? ⟨w.heap.size + 1, 1, none⟩ = some (.int .u16 (ssn : Nat)) ∧ W.cell? ⟨w.heap.size + 1, 2, none⟩ = some (.int .u32 (pp : Nat)) ∧ W.cell? ⟨w.heap.size + 1, 3, none⟩ = some (.bool false) ∧ W.cell? ⟨w.heap.size + 1, 4, none⟩ = some (.slice a nn c) ∧ Hd w0 cb own' n cp q q w.heap.size (w.heap.size + 1) w2.heap.size ⟨st, ssn, pp, false, a, nn, c, zs⟩ [.map (some r), .map (some l), .map (some t), .int .i64 (cp q).owed, .bool (cp q).came, .bool false, .bool false] W) (first | exact HALL.out _ (by assumption)) (first | (refine app_eq_step (by rfl) _ _ (by rfl) (by rfl) (by rfl) (by rfl) happ ?_) | fail)
  all_goals
    obtain ⟨hHd7, hbk6⟩ := HF.out
    obtain ⟨k0, k1, k2, k3, k4, k5, k6, kf⟩ := hHd7.bcells
    obtain ⟨z0, z1, z2⟩ := hHd7.scells
    have hfs := Fr.setCell (· = w2.heap.size) w6 ⟨w2.heap.size, 3, none⟩ (.int .i64 ((cp q).owed + 1)) rfl
    have hct7 := hHd7.ct.fr hfs (fun g hg => by rw [hg]; exact hHd7.bB) hHd7.bc (fun g q' i hg hQ => absurd hQ (hHd7.no g _ hg).2.2)
    have hbk7 := (hbk6.fr hfs (fun g i hg => (hHd7.no g _ hg).2.2)).flags ((cp q).owed + 1) (cp q).came (cp q).ended (cp q).shuts (by omega)
    obtain ⟨w8, hput, hct8, _⟩ := (hct7.mono (Nat.le_add_right n 1)).put hk hbk7
    unfold bval sdV at hput
    dsimp only at hput
    rw [hs, he] at hput
    have HC := (show Hid _ from hct8)
    have ho1 : -100000 ≤ (cp q).owed := by omega
    have ho2 : (cp q).owed ≤ 100000 := by omega
    clear hct8 hct7 hbk7 hfs hHd0 hHd5 hHd5b hHd6 hHd7 hlkA hlkB happ hupd hbk6 HALL HF ho
    go_wp2
    go_ret
    refine ⟨rfl, own2, ?_⟩
    have hh := HC.out.done (fun q' h => h.2 h.1)
    have e : (cp q).push ⟨st, ssn, pp, false, a, nn, c, zs⟩ = { cp q with rows := fun s => if s = st then (cp q).rows s ++ [⟨st, ssn, pp, false, a, nn, c, zs⟩] else (cp q).rows s, owed := (cp q).owed + 1, came := (cp q).came, ended := (cp q).ended, shuts := (cp q).shuts } := by
      unfold Bp.push
      rw [if_neg (by simp)]
    rw [e]
    exact hh
end Go.Proofs.Ytpdnkbhgobdniaa
