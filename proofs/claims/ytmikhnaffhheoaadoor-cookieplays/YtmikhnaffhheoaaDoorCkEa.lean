/- What cookie.each does where the numbers are laid. -/
import Derived.Test.YtmikhnaffhheoaaDoorCkEv
namespace Go.Proofs.YtmikhnaffhheoaaDoor
open Go.RowKit
/-- A cookie whose times may be. -/
structure Ck where
  made : Nat
  life : Nat
  port : Nat
  pport : Nat
  tag : Nat
  ptag : Nat
  tsn : Nat
  ptsn : Nat
  room : Nat
  outs : Nat
  ins : Nat
  addr : Nat
  other : Nat
def Ck.cells (c : Ck) : List Value := [.int .i64 (c.made : Nat), .int .i64 (c.life : Nat), .int .u16 (c.port : Nat), .int .u16 (c.pport : Nat), .int .u32 (c.tag : Nat), .int .u32 (c.ptag : Nat), .int .u32 (c.tsn : Nat), .int .u32 (c.ptsn : Nat), .int .u32 (c.room : Nat), .int .u16 (c.outs : Nat), .int .u16 (c.ins : Nat), .int .u32 (c.addr : Nat), .int .u32 (c.other : Nat)]
/-- The numbers of a cookie, each with its width. -/
def Ck.ps (c : Ck) : List (Nat × Nat) := [(c.made, 8), (c.life, 4), (c.port, 2), (c.pport, 2), (c.tag, 4), (c.ptag, 4), (c.tsn, 4), (c.ptsn, 4), (c.room, 4), (c.outs, 2), (c.ins, 2), (c.addr, 4), (c.other, 4), (0, 4)]
structure Ck.ok (c : Ck) : Prop where
  made : c.made ≤ 1099511627776
  life : c.life ≤ 600
  port : c.port < 65536
  pport : c.pport < 65536
  tag : c.tag < 4294967296
  ptag : c.ptag < 4294967296
  tsn : c.tsn < 4294967296
  ptsn : c.ptsn < 4294967296
  room : c.room < 4294967296
  outs : c.outs < 65536
  ins : c.ins < 65536
  addr : c.addr < 4294967296
  other : c.other < 4294967296
/-- The numbers stand in the row. -/
structure EaL (nb : Nat) (ps : List (Nat × Nat)) (w : World) (e : Ending) (w' : World) : Prop where
  ans : ∃ v, e = .returned v
  row : ∃ a c, w'.cell? ⟨nb, 0, none⟩ = some (.slice a ps.length c) ∧ OwnN w' w.heap.size a ps.length c ps
  free : w'.frozen? ⟨nb, 0, none⟩ = false
  fr : Fr (fun b => b = nb ∨ w.heap.size ≤ b) w w'
set_option maxRecDepth 100000 in
set_option maxHeartbeats 4000000 in
theorem eachL_any (c : Ck) (hc : c.ok) (nb : Nat) (w : World) (hnb : nb < w.heap.size) (hcell : w.cell? ⟨nb, 0, none⟩ = some (.slice none 0 0)) (hfree : w.frozen? ⟨nb, 0, none⟩ = false) :
    Calls Tryd.prog 19 #[.agg #[.int .i64 (c.made : Nat), .int .i64 (c.life : Nat), .int .u16 (c.port : Nat), .int .u16 (c.pport : Nat), .int .u32 (c.tag : Nat), .int .u32 (c.ptag : Nat), .int .u32 (c.tsn : Nat), .int .u32 (c.ptsn : Nat), .int .u32 (c.room : Nat), .int .u16 (c.outs : Nat), .int .u16 (c.ins : Nat), .int .u32 (c.addr : Nat), .int .u32 (c.other : Nat)], .func (.func 20) #[] #[.pointer (some ⟨nb, 0, none⟩)]] w fun e w' => EaL nb c.ps w e w' := by
  obtain ⟨W1, hW1⟩ : ∃ W, W = w.alloc (.cells #[.int .i64 (c.made : Nat), .int .i64 (c.life : Nat), .int .u16 (c.port : Nat), .int .u16 (c.pport : Nat), .int .u32 (c.tag : Nat), .int .u32 (c.ptag : Nat), .int .u32 (c.tsn : Nat), .int .u32 (c.ptsn : Nat), .int .u32 (c.room : Nat), .int .u16 (c.outs : Nat), .int .u16 (c.ins : Nat), .int .u32 (c.addr : Nat), .int .u32 (c.other : Nat)] 39) := ⟨_, rfl⟩
  obtain ⟨W2, hW2⟩ : ∃ W, W = W1.alloc (.cells #[.func (.func 20) #[] #[.pointer (some ⟨nb, 0, none⟩)]] 64) := ⟨_, rfl⟩
  obtain ⟨W3, hW3⟩ : ∃ W, W = W2.alloc (.cells #[.int .i64 0, .int .i64 0, .int .u16 0, .int .u16 0, .int .u32 0, .int .u32 0, .int .u32 0, .int .u32 0, .int .u32 0, .int .u16 0, .int .u16 0, .int .u32 0, .int .u32 0] 39) := ⟨_, rfl⟩
  have z1 : W1.heap.size = w.heap.size + 1 := by rw [hW1]; simp
  have z2 : W2.heap.size = w.heap.size + 1 + 1 := by rw [hW2]; simp; omega
  have z3 : W3.heap.size = w.heap.size + 1 + 1 + 1 := by rw [hW3]; simp; omega
  have b1 : Below w.heap.size w W1 := by rw [hW1]; exact (Below.refl _ _).alloc (Nat.le_refl _) _
  have b2 : Below W1.heap.size W1 W2 := by rw [hW2]; exact (Below.refl _ _).alloc (Nat.le_refl _) _
  have b3 : Below W2.heap.size W2 W3 := by rw [hW3]; exact (Below.refl _ _).alloc (Nat.le_refl _) _
  have sP := ((Stc.new w [.int .i64 (c.made : Nat), .int .i64 (c.life : Nat), .int .u16 (c.port : Nat), .int .u16 (c.pport : Nat), .int .u32 (c.tag : Nat), .int .u32 (c.ptag : Nat), .int .u32 (c.tsn : Nat), .int .u32 (c.ptsn : Nat), .int .u32 (c.room : Nat), .int .u16 (c.outs : Nat), .int .u16 (c.ins : Nat), .int .u32 (c.addr : Nat), .int .u32 (c.other : Nat)] 39 W1 hW1).below b2).below b3
  have sV := (Stc.new W1 [.func (.func 20) #[] #[.pointer (some ⟨nb, 0, none⟩)]] 64 W2 hW2).below b3
  have sR := Stc.new W2 [.int .i64 0, .int .i64 0, .int .u16 0, .int .u16 0, .int .u32 0, .int .u32 0, .int .u32 0, .int .u32 0, .int .u32 0, .int .u16 0, .int .u16 0, .int .u32 0, .int .u32 0] 39 W3 hW3
  rw [z1] at sV
  rw [z2] at sR
  have b03 : Below w.heap.size w W3 := b1.trans ((b2.trans (b3.mono b2.size)).mono b1.size)
  have g0 : EvL W3 w.heap.size (w.heap.size + 1) nb W3.heap.size [.int .i64 (c.made : Nat), .int .i64 (c.life : Nat), .int .u16 (c.port : Nat), .int .u16 (c.pport : Nat), .int .u32 (c.tag : Nat), .int .u32 (c.ptag : Nat), .int .u32 (c.tsn : Nat), .int .u32 (c.ptsn : Nat), .int .u32 (c.room : Nat), .int .u16 (c.outs : Nat), .int .u16 (c.ins : Nat), .int .u32 (c.addr : Nat), .int .u32 (c.other : Nat)] [] W3 := by
    refine ⟨sP, sV.cell 0 _ rfl, ⟨by omega, Nat.le_refl _, ⟨none, 0, (b03.cell (p := ⟨nb, 0, none⟩) hnb).trans hcell, OwnN.nil _ _⟩, (b03.frozen (p := ⟨nb, 0, none⟩) hnb).trans hfree⟩, by omega, by omega, by omega, by omega, by omega, Fr.refl _ _⟩
  have HR := (show Hid _ from sR)
  have hm := hmf
  clear b1 b2 b3 sP sV sR hcell hfree z1 z2
  go_enter Tryd.func19, Tryd.ntmps19
  go_wp2_with fail
  rw [← hW1, ← hW2, ← hW3]
  clear hW1 hW2 hW3
  refine (g0.whole 0 c.made 8 rfl (by have := hc.made; omega) (by omega) (by simp)).mono ?_
  rintro e w1 ⟨⟨r1, rfl⟩, g1⟩
  clear g0
  go_wp2_with fail
  refine (g1.whole 1 c.life 4 rfl (by have := hc.life; omega) (by omega) (by simp)).mono ?_
  rintro e w2 ⟨⟨r2, rfl⟩, g2⟩
  clear g1
  go_wp2_with fail
  refine (g2.half 2 c.port rfl (by have := hc.port; omega) (by simp)).mono ?_
  rintro e w3 ⟨⟨r3, rfl⟩, g3⟩
  clear g2
  go_wp2_with fail
  refine (g3.half 3 c.pport rfl (by have := hc.pport; omega) (by simp)).mono ?_
  rintro e w4 ⟨⟨r4, rfl⟩, g4⟩
  clear g3
  go_wp2_with fail
  refine (g4.word 4 c.tag rfl (by have := hc.tag; omega) (by simp)).mono ?_
  rintro e w5 ⟨⟨r5, rfl⟩, g5⟩
  clear g4
  go_wp2_with fail
  refine (g5.word 5 c.ptag rfl (by have := hc.ptag; omega) (by simp)).mono ?_
  rintro e w6 ⟨⟨r6, rfl⟩, g6⟩
  clear g5
  go_wp2_with fail
  refine (g6.word 6 c.tsn rfl (by have := hc.tsn; omega) (by simp)).mono ?_
  rintro e w7 ⟨⟨r7, rfl⟩, g7⟩
  clear g6
  go_wp2_with fail
  refine (g7.word 7 c.ptsn rfl (by have := hc.ptsn; omega) (by simp)).mono ?_
  rintro e w8 ⟨⟨r8, rfl⟩, g8⟩
  clear g7
  go_wp2_with fail
  refine (g8.word 8 c.room rfl (by have := hc.room; omega) (by simp)).mono ?_
  rintro e w9 ⟨⟨r9, rfl⟩, g9⟩
  clear g8
  go_wp2_with fail
  refine (g9.half 9 c.outs rfl (by have := hc.outs; omega) (by simp)).mono ?_
  rintro e w10 ⟨⟨r10, rfl⟩, g10⟩
  clear g9
  go_wp2_with fail
  refine (g10.half 10 c.ins rfl (by have := hc.ins; omega) (by simp)).mono ?_
  rintro e w11 ⟨⟨r11, rfl⟩, g11⟩
  clear g10
  go_wp2_with fail
  refine (g11.word 11 c.addr rfl (by have := hc.addr; omega) (by simp)).mono ?_
  rintro e w12 ⟨⟨r12, rfl⟩, g12⟩
  clear g11
  go_wp2_with fail
  refine (g12.word 12 c.other rfl (by have := hc.other; omega) (by simp)).mono ?_
  rintro e w13 ⟨⟨r13, rfl⟩, g13⟩
  clear g12
  have cv := g13.vc
  have hv := visitL_any W3.heap.size nb _ 0 4 w13 g13.nbs (by omega) (by omega) (by simp)
  go_wp2_with fail
  refine hv.mono ?_
  rintro e w14 ⟨rfl, hn, hf⟩
  clear hv cv
  have sx14 : Stc w14 w.heap.size [.int .i64 (c.made : Nat), .int .i64 (c.life : Nat), .int .u16 (c.port : Nat), .int .u16 (c.pport : Nat), .int .u32 (c.tag : Nat), .int .u32 (c.ptag : Nat), .int .u32 (c.tsn : Nat), .int .u32 (c.ptsn : Nat), .int .u32 (c.room : Nat), .int .u16 (c.outs : Nat), .int .u16 (c.ins : Nat), .int .u32 (c.addr : Nat), .int .u32 (c.other : Nat)] := g13.sx.fr hf (by show ¬ (w.heap.size = nb ∨ W3.heap.size ≤ w.heap.size); omega)
  have sr14 : Stc w14 (w.heap.size + 1 + 1) [.int .i64 0, .int .i64 0, .int .u16 0, .int .u16 0, .int .u32 0, .int .u32 0, .int .u32 0, .int .u32 0, .int .u32 0, .int .u16 0, .int .u16 0, .int .u32 0, .int .u32 0] := (HR.out.fr g13.fr (by show ¬ (w.heap.size + 1 + 1 = w.heap.size ∨ w.heap.size + 1 + 1 = nb ∨ W3.heap.size ≤ w.heap.size + 1 + 1); omega)).fr hf (by show ¬ (w.heap.size + 1 + 1 = nb ∨ W3.heap.size ≤ w.heap.size + 1 + 1); omega)
  have f0 : Fr (fun b => b = nb ∨ w.heap.size ≤ b) w w14 := ((Fr.of_below b03).trans (g13.fr.mono (fun k _ e => by show k = nb ∨ w.heap.size ≤ k; rcases e with e | e | e; right; omega; exact .inl e; right; omega))).trans (hf.mono (fun k _ e => by show k = nb ∨ w.heap.size ≤ k; rcases e with e | e; exact .inl e; right; omega))
  have HN := (show Hid _ from (((((((((((((hn.far (w.heap.size + 1 + 1) 0 (.int .i64 (c.made : Nat)) (by omega) (by omega)).far (w.heap.size + 1 + 1) 1 (.int .i64 (c.life : Nat)) (by omega) (by omega)).far (w.heap.size + 1 + 1) 2 (.int .u16 (c.port : Nat)) (by omega) (by omega)).far (w.heap.size + 1 + 1) 3 (.int .u16 (c.pport : Nat)) (by omega) (by omega)).far (w.heap.size + 1 + 1) 4 (.int .u32 (c.tag : Nat)) (by omega) (by omega)).far (w.heap.size + 1 + 1) 5 (.int .u32 (c.ptag : Nat)) (by omega) (by omega)).far (w.heap.size + 1 + 1) 6 (.int .u32 (c.tsn : Nat)) (by omega) (by omega)).far (w.heap.size + 1 + 1) 7 (.int .u32 (c.ptsn : Nat)) (by omega) (by omega)).far (w.heap.size + 1 + 1) 8 (.int .u32 (c.room : Nat)) (by omega) (by omega)).far (w.heap.size + 1 + 1) 9 (.int .u16 (c.outs : Nat)) (by omega) (by omega)).far (w.heap.size + 1 + 1) 10 (.int .u16 (c.ins : Nat)) (by omega) (by omega)).far (w.heap.size + 1 + 1) 11 (.int .u32 (c.addr : Nat)) (by omega) (by omega)).far (w.heap.size + 1 + 1) 12 (.int .u32 (c.other : Nat)) (by omega) (by omega)))
  have HF := (show Hid _ from (((((((((((((f0.trans (Fr.setCell _ _ ⟨w.heap.size + 1 + 1, 0, none⟩ (.int .i64 (c.made : Nat)) (.inr (by show w.heap.size ≤ w.heap.size + 1 + 1; omega)))).trans (Fr.setCell _ _ ⟨w.heap.size + 1 + 1, 1, none⟩ (.int .i64 (c.life : Nat)) (.inr (by show w.heap.size ≤ w.heap.size + 1 + 1; omega)))).trans (Fr.setCell _ _ ⟨w.heap.size + 1 + 1, 2, none⟩ (.int .u16 (c.port : Nat)) (.inr (by show w.heap.size ≤ w.heap.size + 1 + 1; omega)))).trans (Fr.setCell _ _ ⟨w.heap.size + 1 + 1, 3, none⟩ (.int .u16 (c.pport : Nat)) (.inr (by show w.heap.size ≤ w.heap.size + 1 + 1; omega)))).trans (Fr.setCell _ _ ⟨w.heap.size + 1 + 1, 4, none⟩ (.int .u32 (c.tag : Nat)) (.inr (by show w.heap.size ≤ w.heap.size + 1 + 1; omega)))).trans (Fr.setCell _ _ ⟨w.heap.size + 1 + 1, 5, none⟩ (.int .u32 (c.ptag : Nat)) (.inr (by show w.heap.size ≤ w.heap.size + 1 + 1; omega)))).trans (Fr.setCell _ _ ⟨w.heap.size + 1 + 1, 6, none⟩ (.int .u32 (c.tsn : Nat)) (.inr (by show w.heap.size ≤ w.heap.size + 1 + 1; omega)))).trans (Fr.setCell _ _ ⟨w.heap.size + 1 + 1, 7, none⟩ (.int .u32 (c.ptsn : Nat)) (.inr (by show w.heap.size ≤ w.heap.size + 1 + 1; omega)))).trans (Fr.setCell _ _ ⟨w.heap.size + 1 + 1, 8, none⟩ (.int .u32 (c.room : Nat)) (.inr (by show w.heap.size ≤ w.heap.size + 1 + 1; omega)))).trans (Fr.setCell _ _ ⟨w.heap.size + 1 + 1, 9, none⟩ (.int .u16 (c.outs : Nat)) (.inr (by show w.heap.size ≤ w.heap.size + 1 + 1; omega)))).trans (Fr.setCell _ _ ⟨w.heap.size + 1 + 1, 10, none⟩ (.int .u16 (c.ins : Nat)) (.inr (by show w.heap.size ≤ w.heap.size + 1 + 1; omega)))).trans (Fr.setCell _ _ ⟨w.heap.size + 1 + 1, 11, none⟩ (.int .u32 (c.addr : Nat)) (.inr (by show w.heap.size ≤ w.heap.size + 1 + 1; omega)))).trans (Fr.setCell _ _ ⟨w.heap.size + 1 + 1, 12, none⟩ (.int .u32 (c.other : Nat)) (.inr (by show w.heap.size ≤ w.heap.size + 1 + 1; omega)))))
  have x0 := sx14.cell 0 _ rfl
  have x1 := sx14.cell 1 _ rfl
  have x2 := sx14.cell 2 _ rfl
  have x3 := sx14.cell 3 _ rfl
  have x4 := sx14.cell 4 _ rfl
  have x5 := sx14.cell 5 _ rfl
  have x6 := sx14.cell 6 _ rfl
  have x7 := sx14.cell 7 _ rfl
  have x8 := sx14.cell 8 _ rfl
  have x9 := sx14.cell 9 _ rfl
  have x10 := sx14.cell 10 _ rfl
  have x11 := sx14.cell 11 _ rfl
  have x12 := sx14.cell 12 _ rfl
  have y0 := sr14.cell 0 _ rfl
  have y1 := sr14.cell 1 _ rfl
  have y2 := sr14.cell 2 _ rfl
  have y3 := sr14.cell 3 _ rfl
  have y4 := sr14.cell 4 _ rfl
  have y5 := sr14.cell 5 _ rfl
  have y6 := sr14.cell 6 _ rfl
  have y7 := sr14.cell 7 _ rfl
  have y8 := sr14.cell 8 _ rfl
  have y9 := sr14.cell 9 _ rfl
  have y10 := sr14.cell 10 _ rfl
  have y11 := sr14.cell 11 _ rfl
  have y12 := sr14.cell 12 _ rfl
  have y0f := sr14.free 0
  have y1f := sr14.free 1
  have y2f := sr14.free 2
  have y3f := sr14.free 3
  have y4f := sr14.free 4
  have y5f := sr14.free 5
  have y6f := sr14.free 6
  have y7f := sr14.free 7
  have y8f := sr14.free 8
  have y9f := sr14.free 9
  have y10f := sr14.free 10
  have y11f := sr14.free 11
  have y12f := sr14.free 12
  have hR9 := (((((((((((((sr14.set 0 (.int .i64 (c.made : Nat))).set 1 (.int .i64 (c.life : Nat))).set 2 (.int .u16 (c.port : Nat))).set 3 (.int .u16 (c.pport : Nat))).set 4 (.int .u32 (c.tag : Nat))).set 5 (.int .u32 (c.ptag : Nat))).set 6 (.int .u32 (c.tsn : Nat))).set 7 (.int .u32 (c.ptsn : Nat))).set 8 (.int .u32 (c.room : Nat))).set 9 (.int .u16 (c.outs : Nat))).set 10 (.int .u16 (c.ins : Nat))).set 11 (.int .u32 (c.addr : Nat))).set 12 (.int .u32 (c.other : Nat)))
  have HRG := (show Hid _ from hR9.range)
  have hlq : w.heap.size < w14.heap.size := sx14.lt
  have hlr : w.heap.size + 1 + 1 < w14.heap.size := sr14.lt
  have hzz : w.heap.size ≤ W3.heap.size := by omega
  clear hR9 sx14 sr14 f0 hn hf g13 HR z3 b03 hnb hm
  go_wp2
  try simp only [Exit.inBlock, Exit.then]
  refine bodyPost_ret (results_cellE2 rfl _ _ (w.heap.size + 1 + 1) 0 [.int .i64 (c.made : Nat), .int .i64 (c.life : Nat), .int .u16 (c.port : Nat), .int .u16 (c.pport : Nat), .int .u32 (c.tag : Nat), .int .u32 (c.ptag : Nat), .int .u32 (c.tsn : Nat), .int .u32 (c.ptsn : Nat), .int .u32 (c.room : Nat), .int .u16 (c.outs : Nat), .int .u16 (c.ins : Nat), .int .u32 (c.addr : Nat), .int .u32 (c.other : Nat)] _ rfl HRG.out Tryd.underlying39 rfl (by kernel_rfl)) rfl ?_
  obtain ⟨a, c', h1, h2⟩ := HN.out.row
  exact ⟨⟨_, rfl⟩, ⟨a, c', h1, h2.base hzz⟩, HN.out.free, HF.out⟩
end Go.Proofs.YtmikhnaffhheoaaDoor
