/- chunk's reader: Init. -/
import Derived.Test.YtifdfkkjmjabnaaDoorRd9
namespace Go.Proofs.YtifdfkkjmjabnaaDoor
open Go.RowKit
theorem PmO.base {w : World} {B B' : Nat} {a : Option Addr} {n c : Nat} {ps : List Pm} (h : PmO w B a n c ps) (hb : B' ≤ B) : PmO w B' a n c ps := by
  obtain ⟨xs, h1, h2, h3⟩ := h.ex
  exact ⟨xs, h1, OwnG.base h2 hb, fun x hx => (h3 x hx).base hb⟩
structure RdI (W0 w : World) (q : Nat) (n1 n2 n3 n4 n5 : Nat) (ps : List Pm) (sh : Int) (e : Ending) (w' : World) : Prop where
  ex : ∃ xa xc, e = .returned (.iface 82 (.agg #[.int .u32 (n1 : Nat), .int .u32 (n2 : Nat), .int .u16 (n3 : Nat), .int .u16 (n4 : Nat), .int .u32 (n5 : Nat), .slice xa ps.length xc])) ∧ PmO w' w.heap.size xa ps.length xc ps
  rd : RdW W0 w' q [] sh
  fr : Fr (fun k => k = q) w w'
theorem zero_iv (w : World) : (zeroValue 82).run Tryd.prog w = .ok (.agg #[.int .u32 0, .int .u32 0, .int .u16 0, .int .u16 0, .int .u32 0, .slice none 0 0]) w := by kernel_rfl
set_option linter.unusedVariables false in
set_option maxRecDepth 100000 in
set_option maxHeartbeats 4000000 in
theorem rinit_any {W0 w : World} {q : Nat} {zs : List Nat} {sh : Int} (ps : List Pm) (h : RdW W0 w q zs sh) (hk : 16 ≤ zs.length) (hps : zs.drop 16 = pmsV ps) (h16 : ps.length ≤ 16) (hpk : ∀ p ∈ ps, p.k < 65536 ∧ p.zs.length ≤ 2000) :
    Calls Tryd.prog 78 #[.pointer (some ⟨q, 0, none⟩)] w (RdI W0 w q (numB (zs.take 4)) (numB ((zs.drop 4).take 4)) (numB ((zs.drop 8).take 2)) (numB ((zs.drop 10).take 2)) (numB ((zs.drop 12).take 4)) ps sh) := by
  have hql := h.lt
  have hWq := h.old
  have HPS := (show Hid _ from And.intro hps (And.intro h16 hpk))
  clear hps hpk h16
  obtain ⟨W1, hW1⟩ : ∃ W1, W1 = w.alloc (.cells #[.int .u32 0, .int .u32 0, .int .u16 0, .int .u16 0, .int .u32 0, .slice none 0 0] 82) := ⟨_, rfl⟩
  have b1 : Below w.heap.size w W1 := by rw [hW1]; exact (Below.refl _ _).alloc (Nat.le_refl _) _
  have s1 := Stc.new w [.int .u32 0, .int .u32 0, .int .u16 0, .int .u16 0, .int .u32 0, .slice none 0 0] 82 W1 hW1
  have hz := zero_iv
  have HU0 : Hid (RuS W0 w q (zs.drop 0) sh W1 ∧ Stc W1 w.heap.size [.int .u32 0, .int .u32 0, .int .u16 0, .int .u16 0, .int .u32 0, .slice none 0 0]) := ⟨⟨h.below b1, Fr.of_below b1⟩, s1⟩
  clear h b1 s1
  obtain ⟨n1, hn1⟩ : ∃ n1, n1 = numB (zs.take 4) := ⟨_, rfl⟩
  obtain ⟨n2, hn2⟩ : ∃ n2, n2 = numB ((zs.drop 4).take 4) := ⟨_, rfl⟩
  obtain ⟨n3, hn3⟩ : ∃ n3, n3 = numB ((zs.drop 8).take 2) := ⟨_, rfl⟩
  obtain ⟨n4, hn4⟩ : ∃ n4, n4 = numB ((zs.drop 10).take 2) := ⟨_, rfl⟩
  obtain ⟨n5, hn5⟩ : ∃ n5, n5 = numB ((zs.drop 12).take 4) := ⟨_, rfl⟩
  rw [← hn1, ← hn2, ← hn3, ← hn4, ← hn5]
  have HNN := (show Hid _ from And.intro hn1 (And.intro hn2 (And.intro hn3 (And.intro hn4 hn5))))
  clear hn1 hn2 hn3 hn4 hn5
  have HN := (show Hid _ from rword_any HU0.out.1.rd (by rw [List.length_drop]; omega))
  rw [List.drop_zero] at HN
  rw [← HNN.out.1] at HN
  go_enter Tryd.func78, Tryd.ntmps78
  go_wp2_with fail
  rw [← hW1]
  clear hW1 hz
  refine Calls.mono HN.out ?_
  clear HN
  rintro e v0 hP
  have he := hP.out
  subst he
  obtain ⟨hu, s1⟩ := HU0.out
  replace s1 := s1.fr hP.fr (by omega)
  replace hu := hu.next hP
  skip
  have f0 := s1.free 0
  have c0 := s1.cell 0 _ rfl
  have hf := Fr.setCell (fun k => k = w.heap.size) v0 ⟨w.heap.size, 0, none⟩ (.int .u32 (n1 : Nat)) rfl
  obtain ⟨w1, hw1⟩ : ∃ w1, w1 = v0.setCell ⟨w.heap.size, 0, none⟩ (.int .u32 (n1 : Nat)) := ⟨_, rfl⟩
  have HU1 : Hid (RuS W0 w q (zs.drop 4) sh w1 ∧ Stc w1 w.heap.size [.int .u32 (n1 : Nat), .int .u32 0, .int .u16 0, .int .u16 0, .int .u32 0, .slice none 0 0]) := by
    rw [hw1]
    exact ⟨hu.own (Nat.le_refl _) hql (by omega) hf, s1.set 0 _⟩
  clear HU0 hP hu s1 hf
  have HN := (show Hid _ from rword_any HU1.out.1.rd (by rw [List.length_drop]; omega))
  rw [← HNN.out.2.1] at HN
  go_wp2_with fail
  rw [← hw1]
  clear hw1 f0 c0
  refine Calls.mono HN.out ?_
  clear HN
  rintro e v1 hP
  have he := hP.out
  subst he
  obtain ⟨hu, s1⟩ := HU1.out
  replace s1 := s1.fr hP.fr (by omega)
  replace hu := hu.next hP
  rw [List.drop_drop] at hu
  have f0 := s1.free 1
  have c0 := s1.cell 1 _ rfl
  have hf := Fr.setCell (fun k => k = w.heap.size) v1 ⟨w.heap.size, 1, none⟩ (.int .u32 (n2 : Nat)) rfl
  obtain ⟨w2, hw2⟩ : ∃ w2, w2 = v1.setCell ⟨w.heap.size, 1, none⟩ (.int .u32 (n2 : Nat)) := ⟨_, rfl⟩
  have HU2 : Hid (RuS W0 w q (zs.drop 8) sh w2 ∧ Stc w2 w.heap.size [.int .u32 (n1 : Nat), .int .u32 (n2 : Nat), .int .u16 0, .int .u16 0, .int .u32 0, .slice none 0 0]) := by
    rw [hw2]
    exact ⟨hu.own (Nat.le_refl _) hql (by omega) hf, s1.set 1 _⟩
  clear HU1 hP hu s1 hf
  have HN := (show Hid _ from rhalf_any HU2.out.1.rd (by rw [List.length_drop]; omega))
  rw [← HNN.out.2.2.1] at HN
  go_wp2_with fail
  rw [← hw2]
  clear hw2 f0 c0
  refine Calls.mono HN.out ?_
  clear HN
  rintro e v2 hP
  have he := hP.out
  subst he
  obtain ⟨hu, s1⟩ := HU2.out
  replace s1 := s1.fr hP.fr (by omega)
  replace hu := hu.next hP
  rw [List.drop_drop] at hu
  have f0 := s1.free 2
  have c0 := s1.cell 2 _ rfl
  have hf := Fr.setCell (fun k => k = w.heap.size) v2 ⟨w.heap.size, 2, none⟩ (.int .u16 (n3 : Nat)) rfl
  obtain ⟨w3, hw3⟩ : ∃ w3, w3 = v2.setCell ⟨w.heap.size, 2, none⟩ (.int .u16 (n3 : Nat)) := ⟨_, rfl⟩
  have HU3 : Hid (RuS W0 w q (zs.drop 10) sh w3 ∧ Stc w3 w.heap.size [.int .u32 (n1 : Nat), .int .u32 (n2 : Nat), .int .u16 (n3 : Nat), .int .u16 0, .int .u32 0, .slice none 0 0]) := by
    rw [hw3]
    exact ⟨hu.own (Nat.le_refl _) hql (by omega) hf, s1.set 2 _⟩
  clear HU2 hP hu s1 hf
  have HN := (show Hid _ from rhalf_any HU3.out.1.rd (by rw [List.length_drop]; omega))
  rw [← HNN.out.2.2.2.1] at HN
  go_wp2_with fail
  rw [← hw3]
  clear hw3 f0 c0
  refine Calls.mono HN.out ?_
  clear HN
  rintro e v3 hP
  have he := hP.out
  subst he
  obtain ⟨hu, s1⟩ := HU3.out
  replace s1 := s1.fr hP.fr (by omega)
  replace hu := hu.next hP
  rw [List.drop_drop] at hu
  have f0 := s1.free 3
  have c0 := s1.cell 3 _ rfl
  have hf := Fr.setCell (fun k => k = w.heap.size) v3 ⟨w.heap.size, 3, none⟩ (.int .u16 (n4 : Nat)) rfl
  obtain ⟨w4, hw4⟩ : ∃ w4, w4 = v3.setCell ⟨w.heap.size, 3, none⟩ (.int .u16 (n4 : Nat)) := ⟨_, rfl⟩
  have HU4 : Hid (RuS W0 w q (zs.drop 12) sh w4 ∧ Stc w4 w.heap.size [.int .u32 (n1 : Nat), .int .u32 (n2 : Nat), .int .u16 (n3 : Nat), .int .u16 (n4 : Nat), .int .u32 0, .slice none 0 0]) := by
    rw [hw4]
    exact ⟨hu.own (Nat.le_refl _) hql (by omega) hf, s1.set 3 _⟩
  clear HU3 hP hu s1 hf
  have HN := (show Hid _ from rword_any HU4.out.1.rd (by rw [List.length_drop]; omega))
  rw [← HNN.out.2.2.2.2] at HN
  go_wp2_with fail
  rw [← hw4]
  clear hw4 f0 c0
  refine Calls.mono HN.out ?_
  clear HN
  rintro e v4 hP
  have he := hP.out
  subst he
  obtain ⟨hu, s1⟩ := HU4.out
  replace s1 := s1.fr hP.fr (by omega)
  replace hu := hu.next hP
  rw [List.drop_drop] at hu
  have f0 := s1.free 4
  have c0 := s1.cell 4 _ rfl
  have hf := Fr.setCell (fun k => k = w.heap.size) v4 ⟨w.heap.size, 4, none⟩ (.int .u32 (n5 : Nat)) rfl
  obtain ⟨w5, hw5⟩ : ∃ w5, w5 = v4.setCell ⟨w.heap.size, 4, none⟩ (.int .u32 (n5 : Nat)) := ⟨_, rfl⟩
  have HU5 : Hid (RuS W0 w q (zs.drop 16) sh w5 ∧ Stc w5 w.heap.size [.int .u32 (n1 : Nat), .int .u32 (n2 : Nat), .int .u16 (n3 : Nat), .int .u16 (n4 : Nat), .int .u32 (n5 : Nat), .slice none 0 0]) := by
    rw [hw5]
    exact ⟨hu.own (Nat.le_refl _) hql (by omega) hf, s1.set 4 _⟩
  clear HU4 hP hu s1 hf
  have HN := (show Hid _ from rparams_any ps (HPS.out.1 ▸ HU5.out.1.rd) HPS.out.2.1 HPS.out.2.2)
  go_wp2_with fail
  rw [← hw5]
  clear hw5 f0 c0
  refine Calls.mono HN.out ?_
  clear HN
  rintro e v5 hP
  obtain ⟨xa, xc, rfl, ho⟩ := hP.ex
  have s1 := HU5.out.2.fr hP.fr (by omega)
  have hwl := HU5.out.2.lt
  obtain ⟨xl, hxl⟩ : ∃ xl, xl = ps.length := ⟨_, rfl⟩
  have HX := (show Hid _ from hxl)
  rw [← hxl] at ho ⊢
  have f0 := s1.free 5
  have d0 := s1.cell 0 _ rfl
  have d1 := s1.cell 1 _ rfl
  have d2 := s1.cell 2 _ rfl
  have d3 := s1.cell 3 _ rfl
  have d4 := s1.cell 4 _ rfl
  have d5 := s1.cell 5 _ rfl
  have hf := Fr.setCell (fun k => k = w.heap.size) v5 ⟨w.heap.size, 5, none⟩ (.slice xa xl xc) rfl
  have hu6 : RuS W0 w q [] sh (v5.setCell ⟨w.heap.size, 5, none⟩ (.slice xa xl xc)) := (⟨hP.rd, HU5.out.1.fr.trans (hP.fr.mono (fun _ _ hk => .inl hk))⟩ : RuS W0 w q [] sh v5).own (Nat.le_refl _) hql (by omega) hf
  have HF : Hid (RdI W0 w q n1 n2 n3 n4 n5 ps sh (.returned (.iface 82 (.agg #[.int .u32 (n1 : Nat), .int .u32 (n2 : Nat), .int .u16 (n3 : Nat), .int .u16 (n4 : Nat), .int .u32 (n5 : Nat), .slice xa xl xc]))) (v5.setCell ⟨w.heap.size, 5, none⟩ (.slice xa xl xc))) := by
    have hd := hu6.done (v := .tuple #[]) (e := .returned (.tuple #[])) rfl
    refine ⟨⟨xa, xc, by rw [hxl], ?_⟩, hd.rd, hd.fr⟩
    rw [← hxl]
    exact (ho.fr hf (fun g hg _ e => by have : g = w.heap.size := e; omega)).base (Nat.le_of_lt hwl)
  clear ho hP HU5 s1 hf hu6 hxl
  go_wp2
  go_ret
  exact HF.out
set_option linter.unusedVariables false in
set_option maxRecDepth 100000 in
set_option maxHeartbeats 4000000 in
theorem rvalue_init {W0 w : World} {q : Nat} {zs : List Nat} {sh : Int} (h : RdW W0 w q zs sh) (kind : Nat) (hk : kind = 1 ∨ kind = 2) (hz16 : 16 ≤ zs.length) (ps : List Pm) (h16 : ps.length ≤ 16) (hpk : ∀ p ∈ ps, p.k < 65536 ∧ p.zs.length ≤ 2000) (hps : zs.drop 16 = pmsV ps) :
    Calls Tryd.prog 75 #[.pointer (some ⟨q, 0, none⟩), .int .u8 (kind : Nat)] w (RdI W0 w q (numB (zs.take 4)) (numB ((zs.drop 4).take 4)) (numB ((zs.drop 8).take 2)) (numB ((zs.drop 10).take 2)) (numB ((zs.drop 12).take 4)) ps sh) := by
  have HV : Hid (Calls Tryd.prog 20 #[.agg #[.int .u8 (kind : Nat), .int .u8 0, .int .u32 0, .int .u16 0, .int .u16 0, .int .u32 0, .int .u32 0, .int .u32 0, .int .u16 0, .int .u16 0, .slice none 0 0, .slice none 0 0, .slice none 0 0, .slice none 0 0]] w fun e w' => e = .returned (.iface 82 (.agg #[.int .u32 0, .int .u32 0, .int .u16 0, .int .u16 0, .int .u32 0, .slice none 0 0])) ∧ Below w.heap.size w w') := valueOf_init kind 0 0 0 0 0 0 0 0 0 none 0 0 none 0 0 none 0 0 none 0 0 w hk
  have t0 := fun (v : Value) (w : World) => ta_no_st 82 79 _ (.agg #[.int .u32 0, .int .u16 0, .int .u16 0, .int .u32 0, .slice none 0 0]) v Tryd.underlying79 (by kernel_rfl) (by decide) w
  have t1 := fun (v : Value) (w : World) => ta_yes_st 82 _ v Tryd.underlying82 w
  have HR := (show Hid _ from h)
  clear h hk
  go_enter Tryd.func75, Tryd.ntmps75
  go_wp2_with fail
  refine Calls.mono HV.out ?_
  clear HV
  rintro e w1 ⟨rfl, b1⟩
  obtain ⟨Wx, hWx⟩ : ∃ Wx, Wx = w1.alloc (.cells #[.int .u32 0, .int .u32 0, .int .u16 0, .int .u16 0, .int .u32 0, .slice none 0 0] 82) := ⟨_, rfl⟩
  have bx : Below w1.heap.size w1 Wx := by rw [hWx]; exact (Below.refl _ _).alloc (Nat.le_refl _) _
  have b1x : Below w.heap.size w Wx := b1.trans (bx.mono b1.size)
  have HD := (show Hid _ from rinit_any ps (HR.out.below b1x) hz16 hps h16 hpk)
  have HB := (show Hid _ from b1x)
  clear b1 bx b1x hps hpk
  go_wp2_with fail
  rw [← hWx]
  clear hWx
  refine Calls.mono HD.out ?_
  clear HD
  rintro e w2 hP
  obtain ⟨xa, xc, rfl, ho⟩ := hP.ex
  have HF : Hid (RdI W0 w q (numB (zs.take 4)) (numB ((zs.drop 4).take 4)) (numB ((zs.drop 8).take 2)) (numB ((zs.drop 10).take 2)) (numB ((zs.drop 12).take 4)) ps sh _ w2) := ⟨⟨xa, xc, rfl, ho.base HB.out.size⟩, hP.rd, (Fr.of_below HB.out).trans hP.fr⟩
  clear ho hP
  generalize numB (zs.take 4) = m1 at *
  generalize numB ((zs.drop 4).take 4) = m2 at *
  generalize numB ((zs.drop 8).take 2) = m3 at *
  generalize numB ((zs.drop 10).take 2) = m4 at *
  generalize numB ((zs.drop 12).take 4) = m5 at *
  generalize ps.length = xl at *
  go_wp2
  go_ret
  exact HF.out
structure RdQ (W0 w : World) (q : Nat) (ps : List Pm) (sh : Int) (e : Ending) (w' : World) : Prop where
  ex : ∃ xa xc, e = .returned (.iface 80 (.slice xa ps.length xc)) ∧ PmO w' w.heap.size xa ps.length xc ps
  rd : RdW W0 w' q [] sh
  fr : Fr (fun k => k = q) w w'
set_option linter.unusedVariables false in
set_option maxRecDepth 100000 in
set_option maxHeartbeats 4000000 in
theorem rvalue_prms {W0 w : World} {q : Nat} {zs : List Nat} {sh : Int} (h : RdW W0 w q zs sh) (kind : Nat) (hk : kind = 4 ∨ kind = 5 ∨ kind = 6 ∨ kind = 9) (ps : List Pm) (h16 : ps.length ≤ 16) (hpk : ∀ p ∈ ps, p.k < 65536 ∧ p.zs.length ≤ 2000) (hps : zs = pmsV ps) :
    Calls Tryd.prog 75 #[.pointer (some ⟨q, 0, none⟩), .int .u8 (kind : Nat)] w (RdQ W0 w q ps sh) := by
  have HV : Hid (Calls Tryd.prog 20 #[.agg #[.int .u8 (kind : Nat), .int .u8 0, .int .u32 0, .int .u16 0, .int .u16 0, .int .u32 0, .int .u32 0, .int .u32 0, .int .u16 0, .int .u16 0, .slice none 0 0, .slice none 0 0, .slice none 0 0, .slice none 0 0]] w fun e w' => e = .returned (.iface 80 (.slice none 0 0)) ∧ Below w.heap.size w w') := valueOf_prms kind 0 0 0 0 0 0 0 0 0 none 0 0 none 0 0 none 0 0 none 0 0 w hk
  have t0 := fun (v : Value) (w : World) => ta_no_st 80 79 _ (.agg #[.int .u32 0, .int .u16 0, .int .u16 0, .int .u32 0, .slice none 0 0]) v Tryd.underlying79 (by kernel_rfl) (by decide) w
  have t1 := fun (v : Value) (w : World) => ta_no_st 80 82 _ (.agg #[.int .u32 0, .int .u32 0, .int .u16 0, .int .u16 0, .int .u32 0, .slice none 0 0]) v Tryd.underlying82 (by kernel_rfl) (by decide) w
  have t2 := fun (v : Value) (w : World) => ta_no_st 80 84 _ (.agg #[.int .u32 0, .int .u32 0, .slice none 0 0, .slice none 0 0]) v Tryd.underlying84 (by kernel_rfl) (by decide) w
  have t3 := fun (v : Value) (w : World) => ta_yes_sl 80 _ v Tryd.underlying80 w
  have HR := (show Hid _ from h)
  clear h hk
  go_enter Tryd.func75, Tryd.ntmps75
  go_wp2_with fail
  refine Calls.mono HV.out ?_
  clear HV
  rintro e w1 ⟨rfl, b1⟩
  have HD := (show Hid _ from rparams_any ps (hps ▸ HR.out.below b1) h16 hpk)
  have HB := (show Hid _ from b1)
  clear b1 hps hpk
  go_wp2_with fail
  refine Calls.mono HD.out ?_
  clear HD
  rintro e w2 hP
  obtain ⟨xa, xc, rfl, ho⟩ := hP.ex
  have HF : Hid (RdQ W0 w q ps sh (.returned (.iface 80 (.slice xa ps.length xc))) w2) := ⟨⟨xa, xc, rfl, ho.base HB.out.size⟩, hP.rd, (Fr.of_below HB.out).trans hP.fr⟩
  clear ho hP
  generalize ps.length = xl at *
  go_wp2
  go_ret
  exact HF.out
end Go.Proofs.YtifdfkkjmjabnaaDoor
