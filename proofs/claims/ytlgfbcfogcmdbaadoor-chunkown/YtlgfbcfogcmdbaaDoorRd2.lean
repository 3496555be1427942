/- chunk's reader: a packet's head; a chunk that has nothing. -/
import Derived.Test.YtlgfbcfogcmdbaaDoorRd1
import Derived.Test.YtlgfbcfogcmdbaaDoorCh1
import Derived.Test.YtlgfbcfogcmdbaaDoorCh3
import Derived.Test.YtlgfbcfogcmdbaaDoorCh4
import Derived.Test.YtlgfbcfogcmdbaaDoorCh5
import Derived.Deep.MidRow
namespace Go.Proofs.YtlgfbcfogcmdbaaDoor
open Go.RowKit
/-- A reader under way; blocks from H on are the call's own. -/
structure RuS (W0 w : World) (q : Nat) (zs : List Nat) (sh : Int) (w' : World) : Prop where
  rd : RdW W0 w' q zs sh
  fr : Fr (fun k => k = q ∨ w.heap.size ≤ k) w w'
section
variable {W0 w w1 w2 : World} {q : Nat} {zs zs' : List Nat} {sh : Int} {v : Value} {e : Ending}
theorem RuS.next (h : RuS W0 w q zs sh w1) (hp : RdP W0 w1 q v zs' sh e w2) : RuS W0 w q zs' sh w2 :=
  ⟨hp.rd, h.fr.trans (hp.fr.mono (fun _ _ hk => .inl hk))⟩
theorem RuS.below (h : RuS W0 w q zs sh w1) (hb : Below w1.heap.size w1 w2) : RuS W0 w q zs sh w2 := ⟨h.rd.below hb, h.fr.trans (Fr.of_below hb)⟩
theorem RuS.own (h : RuS W0 w q zs sh w1) {x : Nat} (hx : w.heap.size ≤ x) (hq : q < w.heap.size) (hW : W0.heap.size ≤ x) (hf : Fr (fun k => k = x) w1 w2) : RuS W0 w q zs sh w2 :=
  ⟨h.rd.fr hf (fun e => by omega) (fun g hg => by omega), h.fr.trans (hf.mono (fun k _ hk => .inr (by omega)))⟩
theorem RuS.done (h : RuS W0 w q zs sh w1) (he : e = .returned v) : RdP W0 w q v zs sh e w1 := ⟨he, h.rd, h.fr.mono (fun k hk hp => hp.elim id (fun e => by omega))⟩
theorem RdW.lt (h : RdW W0 w q zs sh) : q < w.heap.size := by
  obtain ⟨b, off, n, c, h1, _⟩ := h.ex
  exact h1.lt
end
theorem zero_head (w : World) : (zeroValue 25).run Tryd.prog w = .ok (.agg #[.int .u16 0, .int .u16 0, .int .u32 0]) w := by kernel_rfl
set_option linter.unusedVariables false in
set_option maxRecDepth 100000 in
set_option maxHeartbeats 4000000 in
theorem rhead_any {W0 w : World} {q : Nat} {zs : List Nat} {sh : Int} (h : RdW W0 w q zs sh) (hk : 12 ≤ zs.length) :
    Calls Tryd.prog 39 #[.pointer (some ⟨q, 0, none⟩)] w (RdP W0 w q (.agg #[.int .u16 (numB (zs.take 2) : Nat), .int .u16 (numB ((zs.drop 2).take 2) : Nat), .int .u32 (numB ((zs.drop 4).take 4) : Nat)]) (zs.drop 12) sh) := by
  have hql := h.lt
  have hWq := h.old
  obtain ⟨W1, hW1⟩ : ∃ W1, W1 = w.alloc (.cells #[.int .u16 0, .int .u16 0, .int .u32 0] 25) := ⟨_, rfl⟩
  obtain ⟨W2, hW2⟩ : ∃ W2, W2 = W1.alloc (.cells #[.int .u16 0, .int .u16 0, .int .u32 0] 25) := ⟨_, rfl⟩
  have b1 : Below w.heap.size w W1 := by rw [hW1]; exact (Below.refl _ _).alloc (Nat.le_refl _) _
  have b2 : Below W1.heap.size W1 W2 := by rw [hW2]; exact (Below.refl _ _).alloc (Nat.le_refl _) _
  have z1 : W1.heap.size = w.heap.size + 1 := by rw [hW1]; simp
  have s1 := (Stc.new w [.int .u16 0, .int .u16 0, .int .u32 0] 25 W1 hW1).below b2
  have s2 := Stc.new W1 [.int .u16 0, .int .u16 0, .int .u32 0] 25 W2 hW2
  rw [z1] at s2
  have b12 : Below w.heap.size w W2 := b1.trans (b2.mono b1.size)
  have hz := zero_head
  have HU : Hid (RuS W0 w q zs sh W2 ∧ Stc W2 w.heap.size [.int .u16 0, .int .u16 0, .int .u32 0] ∧ Stc W2 (w.heap.size + 1) [.int .u16 0, .int .u16 0, .int .u32 0]) := ⟨⟨h.below b12, Fr.of_below b12⟩, s1, s2⟩
  have HN := (show Hid _ from rhalf_any (h.below b12) (by omega))
  clear h b1 b2 b12 s1 s2 z1
  obtain ⟨n1, hn1⟩ : ∃ n1, n1 = numB (zs.take 2) := ⟨_, rfl⟩
  obtain ⟨n2, hn2⟩ : ∃ n2, n2 = numB ((zs.drop 2).take 2) := ⟨_, rfl⟩
  obtain ⟨n3, hn3⟩ : ∃ n3, n3 = numB ((zs.drop 4).take 4) := ⟨_, rfl⟩
  rw [← hn1] at HN ⊢
  rw [← hn2, ← hn3]
  have HNN := (show Hid _ from And.intro hn2 hn3)
  clear hn1 hn2 hn3
  go_enter Tryd.func39, Tryd.ntmps39
  go_wp2_with fail
  rw [← hW1, ← hW2]
  clear hW1 hW2 hz
  refine Calls.mono HN.out ?_
  clear HN
  rintro e w3 hP
  have he := hP.out
  subst he
  obtain ⟨hu, s1, s2⟩ := HU.out
  replace s1 := s1.fr hP.fr (by omega)
  replace s2 := s2.fr hP.fr (by omega)
  replace hu := hu.next hP
  have f0 := s2.free 0
  have c0 := s2.cell 0 _ rfl
  have hf := Fr.setCell (fun k => k = w.heap.size + 1) w3 ⟨w.heap.size + 1, 0, none⟩ (.int .u16 (n1 : Nat)) rfl
  obtain ⟨w4, hw4⟩ : ∃ w4, w4 = w3.setCell ⟨w.heap.size + 1, 0, none⟩ (.int .u16 (n1 : Nat)) := ⟨_, rfl⟩
  have HU4 : Hid (RuS W0 w q (zs.drop 2) sh w4 ∧ Stc w4 w.heap.size [.int .u16 0, .int .u16 0, .int .u32 0] ∧ Stc w4 (w.heap.size + 1) [.int .u16 (n1 : Nat), .int .u16 0, .int .u32 0]) := by
    rw [hw4]
    exact ⟨hu.own (by omega) hql (by omega) hf, s1.fr hf (by omega), s2.set 0 _⟩
  have HN := (show Hid _ from rhalf_any HU4.out.1.rd (by rw [List.length_drop]; omega))
  rw [← HNN.out.1] at HN
  clear HU hP hu s1 s2 hf
  go_wp2_with fail
  rw [← hw4]
  clear hw4 f0 c0
  refine Calls.mono HN.out ?_
  clear HN
  rintro e w5 hP
  have he := hP.out
  subst he
  obtain ⟨hu, s1, s2⟩ := HU4.out
  replace s1 := s1.fr hP.fr (by omega)
  replace s2 := s2.fr hP.fr (by omega)
  replace hu := hu.next hP
  rw [List.drop_drop] at hu
  have f0 := s2.free 1
  have c0 := s2.cell 1 _ rfl
  have hf := Fr.setCell (fun k => k = w.heap.size + 1) w5 ⟨w.heap.size + 1, 1, none⟩ (.int .u16 (n2 : Nat)) rfl
  obtain ⟨w6, hw6⟩ : ∃ w6, w6 = w5.setCell ⟨w.heap.size + 1, 1, none⟩ (.int .u16 (n2 : Nat)) := ⟨_, rfl⟩
  have HU6 : Hid (RuS W0 w q (zs.drop 4) sh w6 ∧ Stc w6 w.heap.size [.int .u16 0, .int .u16 0, .int .u32 0] ∧ Stc w6 (w.heap.size + 1) [.int .u16 (n1 : Nat), .int .u16 (n2 : Nat), .int .u32 0]) := by
    rw [hw6]
    exact ⟨hu.own (by omega) hql (by omega) hf, s1.fr hf (by omega), s2.set 1 _⟩
  have HN := (show Hid _ from rword_any HU6.out.1.rd (by rw [List.length_drop]; omega))
  rw [← HNN.out.2] at HN
  clear HU4 hP hu s1 s2 hf
  go_wp2_with fail
  rw [← hw6]
  clear hw6 f0 c0
  refine Calls.mono HN.out ?_
  clear HN
  rintro e w7 hP
  have he := hP.out
  subst he
  obtain ⟨hu, s1, s2⟩ := HU6.out
  replace s1 := s1.fr hP.fr (by omega)
  replace s2 := s2.fr hP.fr (by omega)
  replace hu := hu.next hP
  rw [List.drop_drop] at hu
  have f0 := s2.free 2
  have c0 := s2.cell 2 _ rfl
  have hf := Fr.setCell (fun k => k = w.heap.size + 1) w7 ⟨w.heap.size + 1, 2, none⟩ (.int .u32 (n3 : Nat)) rfl
  obtain ⟨w8, hw8⟩ : ∃ w8, w8 = w7.setCell ⟨w.heap.size + 1, 2, none⟩ (.int .u32 (n3 : Nat)) := ⟨_, rfl⟩
  have HU8 : Hid (RuS W0 w q (zs.drop 8) sh w8 ∧ Stc w8 w.heap.size [.int .u16 0, .int .u16 0, .int .u32 0] ∧ Stc w8 (w.heap.size + 1) [.int .u16 (n1 : Nat), .int .u16 (n2 : Nat), .int .u32 (n3 : Nat)]) := by
    rw [hw8]
    exact ⟨hu.own (by omega) hql (by omega) hf, s1.fr hf (by omega), s2.set 2 _⟩
  have HN := (show Hid _ from rcut_any HU8.out.1.rd 4 (by rw [List.length_drop]; omega))
  clear HU6 hP hu s1 s2 hf
  go_wp2_with fail
  rw [← hw8]
  clear hw8 f0 c0
  refine Calls.mono HN.out ?_
  clear HN
  rintro e w9 hP
  obtain ⟨cb, co, cc, rfl, _⟩ := hP.ex
  obtain ⟨hu, s1, s2⟩ := HU8.out
  replace s1 := s1.fr hP.fr (by omega)
  replace s2 := s2.fr hP.fr (by omega)
  have hu9 : RuS W0 w q (zs.drop 12) sh w9 := ⟨by have := hP.rd; rwa [List.drop_drop] at this, hu.fr.trans (hP.fr.mono (fun _ _ hk => .inl hk))⟩
  have d0 := s2.cell 0 _ rfl
  have d1 := s2.cell 1 _ rfl
  have d2 := s2.cell 2 _ rfl
  have g0 := s1.free 0
  have g1 := s1.free 1
  have g2 := s1.free 2
  have h0 := s1.cell 0 _ rfl
  have h1 := s1.cell 1 _ rfl
  have h2 := s1.cell 2 _ rfl
  have HF := (show Hid _ from And.intro hu9 s1)
  clear HU8 hP hu s1 s2 hu9
  go_wp2
  try simp only [Exit.inBlock, Exit.then]
  obtain ⟨hu9, s1⟩ := HF.out
  have hput := s1.put [.int .u16 (n1 : Nat), .int .u16 (n2 : Nat), .int .u32 (n3 : Nat)] rfl
  have hff := fr_setCellsX w.heap.size [.int .u16 (n1 : Nat), .int .u16 (n2 : Nat), .int .u32 (n3 : Nat)] 0 w9
  refine bodyPost_ret (results_cellE rfl _ _ w.heap.size 0 [.int .u16 (n1 : Nat), .int .u16 (n2 : Nat), .int .u32 (n3 : Nat)] _ rfl hput.range Tryd.underlying25 rfl (by kernel_rfl)) rfl ?_
  exact (hu9.own (Nat.le_refl _) hql (by omega) hff).done rfl
end Go.Proofs.YtlgfbcfogcmdbaaDoor
