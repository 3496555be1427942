/- chunk's reader: what is left, and the values of Data, of Shutdown, of unknown kinds. -/
import Derived.Test.YtifdfkkjmjabnaaDoorRd3
import Derived.Test.YtifdfkkjmjabnaaDoorCopy
namespace Go.Proofs.YtifdfkkjmjabnaaDoor
open Go.RowKit
/-- rest: new memory. -/
structure RrP (W0 w : World) (q : Nat) (zs : List Nat) (sh : Int) (e : Ending) (w' : World) : Prop where
  ex : ∃ a c, e = .returned (.slice a zs.length c) ∧ OwnB w' w.heap.size a zs.length c zs
  rd : RdW W0 w' q [] sh
  fr : Fr (fun k => k = q) w w'
set_option linter.unusedVariables false in
set_option maxRecDepth 100000 in
set_option maxHeartbeats 4000000 in
theorem rrest_any {W0 w : World} {q : Nat} {zs : List Nat} {sh : Int} (h : RdW W0 w q zs sh) (hb : zs.length ≤ 140737488351232) :
    Calls Tryd.prog 81 #[.pointer (some ⟨q, 0, none⟩)] w (RrP W0 w q zs sh) := by
  obtain ⟨b, off, n, c, hst, hs⟩ := h.ex
  have hl := hs.len
  have hsm := hs.small
  have c0 := hst.cell 0 _ rfl
  have HN := (show Hid _ from rcut_any h n (by omega))
  have hql := hst.lt
  clear hst hs h
  go_enter Tryd.func81, Tryd.ntmps81
  go_wp2_with fail
  refine Calls.mono HN.out ?_
  clear HN c0
  rintro e w1 hP
  obtain ⟨cb, co, cc, rfl, hs1⟩ := hP.ex
  rw [List.take_of_length_le (by omega)] at hs1
  have hrd := hP.rd
  rw [List.drop_of_length_le (by omega)] at hrd
  have hle : n ≤ 140737488351232 := by omega
  have HC := (show Hid _ from clone_any _ n cc zs w1 (hs1.below hrd.bel) hle)
  have HF := (show Hid _ from And.intro hrd hP.fr)
  clear hs1 hrd hP
  go_wp2_with fail
  refine Calls.mono HC.out ?_
  clear HC
  rintro e w2 ⟨a', c', rfl, ho, _, b2⟩
  have HG : Hid (RrP W0 w q zs sh (.returned (.slice a' n c')) w2) := by
    refine ⟨⟨a', c', by rw [hl], ?_⟩, HF.out.1.below b2, HF.out.2.trans (Fr.of_below b2)⟩
    rw [hl]
    exact ho.base HF.out.2.size
  clear ho b2 HF
  go_wp2
  go_ret
  exact HG.out
structure RdD (W0 w : World) (q : Nat) (n1 n2 n3 n4 : Nat) (xs : List Nat) (sh : Int) (e : Ending) (w' : World) : Prop where
  ex : ∃ xa xc, e = .returned (.iface 79 (.agg #[.int .u32 (n1 : Nat), .int .u16 (n2 : Nat), .int .u16 (n3 : Nat), .int .u32 (n4 : Nat), .slice xa xs.length xc])) ∧ OwnB w' w.heap.size xa xs.length xc xs
  rd : RdW W0 w' q [] sh
  fr : Fr (fun k => k = q) w w'
theorem zero_dv (w : World) : (zeroValue 79).run Tryd.prog w = .ok (.agg #[.int .u32 0, .int .u16 0, .int .u16 0, .int .u32 0, .slice none 0 0]) w := by kernel_rfl
set_option linter.unusedVariables false in
set_option maxRecDepth 100000 in
set_option maxHeartbeats 4000000 in
theorem rdata_any {W0 w : World} {q : Nat} {zs : List Nat} {sh : Int} (h : RdW W0 w q zs sh) (hk : 12 ≤ zs.length) (hb : zs.length ≤ 140737488351232) :
    Calls Tryd.prog 77 #[.pointer (some ⟨q, 0, none⟩)] w (RdD W0 w q (numB (zs.take 4)) (numB ((zs.drop 4).take 2)) (numB ((zs.drop 6).take 2)) (numB ((zs.drop 8).take 4)) (zs.drop 12) sh) := by
  have hql := h.lt
  have hWq := h.old
  obtain ⟨W1, hW1⟩ : ∃ W1, W1 = w.alloc (.cells #[.int .u32 0, .int .u16 0, .int .u16 0, .int .u32 0, .slice none 0 0] 79) := ⟨_, rfl⟩
  have b1 : Below w.heap.size w W1 := by rw [hW1]; exact (Below.refl _ _).alloc (Nat.le_refl _) _
  have s1 := Stc.new w [.int .u32 0, .int .u16 0, .int .u16 0, .int .u32 0, .slice none 0 0] 79 W1 hW1
  have hz := zero_dv
  have HU0 : Hid (RuS W0 w q (zs.drop 0) sh W1 ∧ Stc W1 w.heap.size [.int .u32 0, .int .u16 0, .int .u16 0, .int .u32 0, .slice none 0 0]) := ⟨⟨h.below b1, Fr.of_below b1⟩, s1⟩
  clear h b1 s1
  obtain ⟨n1, hn1⟩ : ∃ n1, n1 = numB (zs.take 4) := ⟨_, rfl⟩
  obtain ⟨n2, hn2⟩ : ∃ n2, n2 = numB ((zs.drop 4).take 2) := ⟨_, rfl⟩
  obtain ⟨n3, hn3⟩ : ∃ n3, n3 = numB ((zs.drop 6).take 2) := ⟨_, rfl⟩
  obtain ⟨n4, hn4⟩ : ∃ n4, n4 = numB ((zs.drop 8).take 4) := ⟨_, rfl⟩
  rw [← hn1, ← hn2, ← hn3, ← hn4]
  have HNN := (show Hid _ from And.intro hn1 (And.intro hn2 (And.intro hn3 hn4)))
  clear hn1 hn2 hn3 hn4
  have HN := (show Hid _ from rword_any HU0.out.1.rd (by rw [List.length_drop]; omega))
  rw [List.drop_zero] at HN
  rw [← HNN.out.1] at HN
  go_enter Tryd.func77, Tryd.ntmps77
  go_wp2_with fail
  rw [← hW1]
  clear hW1 hz
  refine Calls.mono HN.out ?_
  clear HN
  rintro e v0 hP
  have he := hP.out
  subst he
  obtain ⟨hu, s1⟩ := HU0.out
  replace s1 := s1.fr hP.fr (by omega)
  replace hu := hu.next hP
  skip
  have f0 := s1.free 0
  have c0 := s1.cell 0 _ rfl
  have hf := Fr.setCell (fun k => k = w.heap.size) v0 ⟨w.heap.size, 0, none⟩ (.int .u32 (n1 : Nat)) rfl
  obtain ⟨w1, hw1⟩ : ∃ w1, w1 = v0.setCell ⟨w.heap.size, 0, none⟩ (.int .u32 (n1 : Nat)) := ⟨_, rfl⟩
  have HU1 : Hid (RuS W0 w q (zs.drop 4) sh w1 ∧ Stc w1 w.heap.size [.int .u32 (n1 : Nat), .int .u16 0, .int .u16 0, .int .u32 0, .slice none 0 0]) := by
    rw [hw1]
    exact ⟨hu.own (Nat.le_refl _) hql (by omega) hf, s1.set 0 _⟩
  clear HU0 hP hu s1 hf
  have HN := (show Hid _ from rhalf_any HU1.out.1.rd (by rw [List.length_drop]; omega))
  rw [← HNN.out.2.1] at HN
  go_wp2_with fail
  rw [← hw1]
  clear hw1 f0 c0
  refine Calls.mono HN.out ?_
  clear HN
  rintro e v1 hP
  have he := hP.out
  subst he
  obtain ⟨hu, s1⟩ := HU1.out
  replace s1 := s1.fr hP.fr (by omega)
  replace hu := hu.next hP
  rw [List.drop_drop] at hu
  have f0 := s1.free 1
  have c0 := s1.cell 1 _ rfl
  have hf := Fr.setCell (fun k => k = w.heap.size) v1 ⟨w.heap.size, 1, none⟩ (.int .u16 (n2 : Nat)) rfl
  obtain ⟨w2, hw2⟩ : ∃ w2, w2 = v1.setCell ⟨w.heap.size, 1, none⟩ (.int .u16 (n2 : Nat)) := ⟨_, rfl⟩
  have HU2 : Hid (RuS W0 w q (zs.drop 6) sh w2 ∧ Stc w2 w.heap.size [.int .u32 (n1 : Nat), .int .u16 (n2 : Nat), .int .u16 0, .int .u32 0, .slice none 0 0]) := by
    rw [hw2]
    exact ⟨hu.own (Nat.le_refl _) hql (by omega) hf, s1.set 1 _⟩
  clear HU1 hP hu s1 hf
  have HN := (show Hid _ from rhalf_any HU2.out.1.rd (by rw [List.length_drop]; omega))
  rw [← HNN.out.2.2.1] at HN
  go_wp2_with fail
  rw [← hw2]
  clear hw2 f0 c0
  refine Calls.mono HN.out ?_
  clear HN
  rintro e v2 hP
  have he := hP.out
  subst he
  obtain ⟨hu, s1⟩ := HU2.out
  replace s1 := s1.fr hP.fr (by omega)
  replace hu := hu.next hP
  rw [List.drop_drop] at hu
  have f0 := s1.free 2
  have c0 := s1.cell 2 _ rfl
  have hf := Fr.setCell (fun k => k = w.heap.size) v2 ⟨w.heap.size, 2, none⟩ (.int .u16 (n3 : Nat)) rfl
  obtain ⟨w3, hw3⟩ : ∃ w3, w3 = v2.setCell ⟨w.heap.size, 2, none⟩ (.int .u16 (n3 : Nat)) := ⟨_, rfl⟩
  have HU3 : Hid (RuS W0 w q (zs.drop 8) sh w3 ∧ Stc w3 w.heap.size [.int .u32 (n1 : Nat), .int .u16 (n2 : Nat), .int .u16 (n3 : Nat), .int .u32 0, .slice none 0 0]) := by
    rw [hw3]
    exact ⟨hu.own (Nat.le_refl _) hql (by omega) hf, s1.set 2 _⟩
  clear HU2 hP hu s1 hf
  have HN := (show Hid _ from rword_any HU3.out.1.rd (by rw [List.length_drop]; omega))
  rw [← HNN.out.2.2.2] at HN
  go_wp2_with fail
  rw [← hw3]
  clear hw3 f0 c0
  refine Calls.mono HN.out ?_
  clear HN
  rintro e v3 hP
  have he := hP.out
  subst he
  obtain ⟨hu, s1⟩ := HU3.out
  replace s1 := s1.fr hP.fr (by omega)
  replace hu := hu.next hP
  rw [List.drop_drop] at hu
  have f0 := s1.free 3
  have c0 := s1.cell 3 _ rfl
  have hf := Fr.setCell (fun k => k = w.heap.size) v3 ⟨w.heap.size, 3, none⟩ (.int .u32 (n4 : Nat)) rfl
  obtain ⟨w4, hw4⟩ : ∃ w4, w4 = v3.setCell ⟨w.heap.size, 3, none⟩ (.int .u32 (n4 : Nat)) := ⟨_, rfl⟩
  have HU4 : Hid (RuS W0 w q (zs.drop 12) sh w4 ∧ Stc w4 w.heap.size [.int .u32 (n1 : Nat), .int .u16 (n2 : Nat), .int .u16 (n3 : Nat), .int .u32 (n4 : Nat), .slice none 0 0]) := by
    rw [hw4]
    exact ⟨hu.own (Nat.le_refl _) hql (by omega) hf, s1.set 3 _⟩
  clear HU3 hP hu s1 hf
  have HN := (show Hid _ from rrest_any HU4.out.1.rd (by rw [List.length_drop]; omega))
  go_wp2_with fail
  rw [← hw4]
  clear hw4 f0 c0
  refine Calls.mono HN.out ?_
  clear HN
  rintro e v4 hP
  obtain ⟨xa, xc, rfl, ho⟩ := hP.ex
  have s1 := HU4.out.2.fr hP.fr (by omega)
  have hwl := HU4.out.2.lt
  obtain ⟨xl, hxl⟩ : ∃ xl, xl = (zs.drop 12).length := ⟨_, rfl⟩
  have HX := (show Hid _ from hxl)
  rw [← hxl] at ho ⊢
  have f0 := s1.free 4
  have d0 := s1.cell 0 _ rfl
  have d1 := s1.cell 1 _ rfl
  have d2 := s1.cell 2 _ rfl
  have d3 := s1.cell 3 _ rfl
  have d4 := s1.cell 4 _ rfl
  have hf := Fr.setCell (fun k => k = w.heap.size) v4 ⟨w.heap.size, 4, none⟩ (.slice xa xl xc) rfl
  have hu5 : RuS W0 w q [] sh (v4.setCell ⟨w.heap.size, 4, none⟩ (.slice xa xl xc)) := (⟨hP.rd, HU4.out.1.fr.trans (hP.fr.mono (fun _ _ hk => .inl hk))⟩ : RuS W0 w q [] sh v4).own (Nat.le_refl _) hql (by omega) hf
  have HF : Hid (RdD W0 w q n1 n2 n3 n4 (zs.drop 12) sh (.returned (.iface 79 (.agg #[.int .u32 (n1 : Nat), .int .u16 (n2 : Nat), .int .u16 (n3 : Nat), .int .u32 (n4 : Nat), .slice xa xl xc]))) (v4.setCell ⟨w.heap.size, 4, none⟩ (.slice xa xl xc))) := by
    have hd := hu5.done (v := .tuple #[]) (e := .returned (.tuple #[])) rfl
    refine ⟨⟨xa, xc, by rw [hxl], ?_⟩, hd.rd, hd.fr⟩
    rw [← hxl]
    obtain ⟨q1, ⟨q2, q3⟩, q4⟩ := ho
    refine ⟨q1, ⟨q2, ?_⟩, q4⟩
    rcases q3 with q3 | ⟨g, cap, cu, hv, hbg, hh, hr⟩
    · exact .inl q3
    · have hl := (Array.getElem?_eq_some_iff.1 hh).1
      exact .inr ⟨g, cap, cu, hv, by omega, (hf.block g hl (fun e => by have : g = w.heap.size := e; omega)).trans hh, hr⟩
  clear ho hP HU4 s1 hf hu5 hxl
  go_wp2
  go_ret
  exact HF.out
end Go.Proofs.YtifdfkkjmjabnaaDoor
