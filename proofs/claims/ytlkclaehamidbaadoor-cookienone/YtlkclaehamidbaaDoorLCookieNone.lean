/- Whatever bytes, cookie and tick: the walk of law06.CookieNone ends with true. -/
import Derived.Test.YtlkclaehamidbaaDoorCkOs
namespace Go.Proofs.YtlkclaehamidbaaDoor
open Go.RowKit
set_option maxRecDepth 100000 in
theorem seal_nil (made life : Int) (port pport tag ptag tsn ptsn room outs ins addr other : Nat) (w : World) :
    Calls Tryd.prog 12 #[.pointer none, .agg #[.int .i64 made, .int .i64 life, .int .u16 (port : Nat), .int .u16 (pport : Nat), .int .u32 (tag : Nat), .int .u32 (ptag : Nat), .int .u32 (tsn : Nat), .int .u32 (ptsn : Nat), .int .u32 (room : Nat), .int .u16 (outs : Nat), .int .u16 (ins : Nat), .int .u32 (addr : Nat), .int .u32 (other : Nat)]] w fun e w' => e = .returned (.tuple #[.slice none 0 0, .int .i64 1]) ∧ Below w.heap.size w w' := by
  have hb : Below w.heap.size w (w.alloc (.cells #[.int .i64 made, .int .i64 life, .int .u16 (port : Nat), .int .u16 (pport : Nat), .int .u32 (tag : Nat), .int .u32 (ptag : Nat), .int .u32 (tsn : Nat), .int .u32 (ptsn : Nat), .int .u32 (room : Nat), .int .u16 (outs : Nat), .int .u16 (ins : Nat), .int .u32 (addr : Nat), .int .u32 (other : Nat)] 33)) := (Below.refl _ _).alloc (Nat.le_refl _) _
  go_enter Tryd.func12, Tryd.ntmps12
  go_wp2
  go_ret2
  exact ⟨rfl, hb⟩
set_option maxRecDepth 100000 in
theorem open_nil (a : Option Addr) (n c : Nat) (now : Int) (w : World) :
    Calls Tryd.prog 14 #[.pointer none, .slice a n c, .int .i64 now] w fun e w' => e = .returned (.tuple #[.agg #[.int .i64 0, .int .i64 0, .int .u16 0, .int .u16 0, .int .u32 0, .int .u32 0, .int .u32 0, .int .u32 0, .int .u32 0, .int .u16 0, .int .u16 0, .int .u32 0, .int .u32 0], .int .i64 1]) ∧ Below w.heap.size w w' := by
  have hb : Below w.heap.size w (w.alloc (.cells #[.int .i64 0, .int .i64 0, .int .u16 0, .int .u16 0, .int .u32 0, .int .u32 0, .int .u32 0, .int .u32 0, .int .u32 0, .int .u16 0, .int .u16 0, .int .u32 0, .int .u32 0] 33)) := (Below.refl _ _).alloc (Nat.le_refl _) _
  have HRG := (show Hid _ from (Stc.new w [.int .i64 0, .int .i64 0, .int .u16 0, .int .u16 0, .int .u32 0, .int .u32 0, .int .u32 0, .int .u32 0, .int .u32 0, .int .u16 0, .int .u16 0, .int .u32 0, .int .u32 0] 33 _ rfl).range)
  go_enter Tryd.func14, Tryd.ntmps14
  go_wp2
  try simp only [Exit.inBlock, Exit.then]
  refine bodyPost_ret (results_cellE2 rfl _ _ w.heap.size 0 [.int .i64 0, .int .i64 0, .int .u16 0, .int .u16 0, .int .u32 0, .int .u32 0, .int .u32 0, .int .u32 0, .int .u32 0, .int .u16 0, .int .u16 0, .int .u32 0, .int .u32 0] _ rfl HRG.out Tryd.underlying33 rfl (by kernel_rfl)) rfl ?_
  exact ⟨rfl, hb⟩
theorem turn_nil (a : Option Addr) (n c : Nat) (w : World) :
    Calls Tryd.prog 15 #[.pointer none, .slice a n c] w fun e w' => e = .returned (.int .i64 1) ∧ w' = w := by
  go_enter Tryd.func15, Tryd.ntmps15
  go_wp2
  go_ret
  exact ⟨rfl, rfl⟩
theorem fork_nil (w : World) :
    Calls Tryd.prog 16 #[.pointer none] w fun e w' => e = .returned (.pointer none) ∧ w' = w := by
  go_enter Tryd.func16, Tryd.ntmps16
  go_wp2
  go_ret
  exact ⟨rfl, rfl⟩
set_option maxRecDepth 100000 in
set_option maxHeartbeats 2000000 in
theorem walk_CookieNone (a : Option Addr) (n c : Nat) (zs : List Nat) (made life : Int) (port pport tag ptag tsn ptsn room outs ins addr other : Nat) (now : Int) (w : World) (_h0 : Sl w a n c zs ∧ c * 1 ≤ 140737488351232) (_hm : (Lit.int .i64 made).wf = true) (_hl : (Lit.int .i64 life).wf = true) (_hport : port < 65536) (_hpport : pport < 65536) (_htag : tag < 4294967296) (_hptag : ptag < 4294967296) (_htsn : tsn < 4294967296) (_hptsn : ptsn < 4294967296) (_hroom : room < 4294967296) (_houts : outs < 65536) (_hins : ins < 65536) (_haddr : addr < 4294967296) (_hother : other < 4294967296) (_hn : (Lit.int .i64 now).wf = true) (hkw : KW w) :
    Calls Tryd.prog 8 #[.slice a n c, .agg #[.int .i64 made, .int .i64 life, .int .u16 (port : Nat), .int .u16 (pport : Nat), .int .u32 (tag : Nat), .int .u32 (ptag : Nat), .int .u32 (tsn : Nat), .int .u32 (ptsn : Nat), .int .u32 (room : Nat), .int .u16 (outs : Nat), .int .u16 (ins : Nat), .int .u32 (addr : Nat), .int .u32 (other : Nat)], .int .i64 now] w fun e w' => e = .returned (.bool true) ∧ Below w.heap.size w w' := by
  obtain ⟨W, hW⟩ : ∃ W, W = w.alloc (.cells #[.int .i64 made, .int .i64 life, .int .u16 (port : Nat), .int .u16 (pport : Nat), .int .u32 (tag : Nat), .int .u32 (ptag : Nat), .int .u32 (tsn : Nat), .int .u32 (ptsn : Nat), .int .u32 (room : Nat), .int .u16 (outs : Nat), .int .u16 (ins : Nat), .int .u32 (addr : Nat), .int .u32 (other : Nat)] 33) := ⟨_, rfl⟩
  have bW : Below w.heap.size w W := by rw [hW]; exact (Below.refl _ _).alloc (Nat.le_refl _) _
  have sP := Stc.new w [.int .i64 made, .int .i64 life, .int .u16 (port : Nat), .int .u16 (pport : Nat), .int .u32 (tag : Nat), .int .u32 (ptag : Nat), .int .u32 (tsn : Nat), .int .u32 (ptsn : Nat), .int .u32 (room : Nat), .int .u16 (outs : Nat), .int .u16 (ins : Nat), .int .u32 (addr : Nat), .int .u32 (other : Nat)] 33 W hW
  have x0 := sP.cell 0 _ rfl
  have x1 := sP.cell 1 _ rfl
  have x2 := sP.cell 2 _ rfl
  have x3 := sP.cell 3 _ rfl
  have x4 := sP.cell 4 _ rfl
  have x5 := sP.cell 5 _ rfl
  have x6 := sP.cell 6 _ rfl
  have x7 := sP.cell 7 _ rfl
  have x8 := sP.cell 8 _ rfl
  have x9 := sP.cell 9 _ rfl
  have x10 := sP.cell 10 _ rfl
  have x11 := sP.cell 11 _ rfl
  have x12 := sP.cell 12 _ rfl
  go_enter Tryd.func8, Tryd.ntmps8
  go_wp2_with fail
  rw [← hW]
  clear hW
  refine (seal_nil made life port pport tag ptag tsn ptsn room outs ins addr other W).mono ?_
  rintro e w1 ⟨rfl, b1⟩
  have b01 := bW.trans (b1.mono bW.size)
  clear x0 x1 x2 x3 x4 x5 x6 x7 x8 x9 x10 x11 x12 sP
  go_wp2_with fail
  refine (open_nil a n c now w1).mono ?_
  rintro e w2 ⟨rfl, b2⟩
  have b02 := b01.trans (b2.mono b01.size)
  obtain ⟨w3, hw3⟩ : ∃ W, W = w2.alloc (.cells #[.int .i64 0, .int .i64 0, .int .u16 0, .int .u16 0, .int .u32 0, .int .u32 0, .int .u32 0, .int .u32 0, .int .u32 0, .int .u16 0, .int .u16 0, .int .u32 0, .int .u32 0] 33) := ⟨_, rfl⟩
  have b23 : Below w2.heap.size w2 w3 := by rw [hw3]; exact (Below.refl _ _).alloc (Nat.le_refl _) _
  have sC := Stc.new w2 [.int .i64 0, .int .i64 0, .int .u16 0, .int .u16 0, .int .u32 0, .int .u32 0, .int .u32 0, .int .u32 0, .int .u32 0, .int .u16 0, .int .u16 0, .int .u32 0, .int .u32 0] 33 w3 hw3
  have b03 := b02.trans (b23.mono b02.size)
  go_wp2_with fail
  rw [← hw3]
  clear hw3
  refine (live6_any w3 (hkw.next b03)).mono ?_
  rintro e w4 ⟨rfl, b4⟩
  have sC4 := sC.below b4
  have b04 := b03.trans (b4.mono b03.size)
  have x0 := sC4.cell 0 _ rfl
  have x1 := sC4.cell 1 _ rfl
  have x2 := sC4.cell 2 _ rfl
  have x3 := sC4.cell 3 _ rfl
  have x4 := sC4.cell 4 _ rfl
  have x5 := sC4.cell 5 _ rfl
  have x6 := sC4.cell 6 _ rfl
  have x7 := sC4.cell 7 _ rfl
  have x8 := sC4.cell 8 _ rfl
  have x9 := sC4.cell 9 _ rfl
  have x10 := sC4.cell 10 _ rfl
  have x11 := sC4.cell 11 _ rfl
  have x12 := sC4.cell 12 _ rfl
  go_wp2_with fail
  refine (turn_nil a n c w4).mono ?_
  rintro e w5 ⟨rfl, hw5⟩
  subst hw5
  clear x0 x1 x2 x3 x4 x5 x6 x7 x8 x9 x10 x11 x12 sC4 sC
  go_wp2_with fail
  refine (fork_nil _).mono ?_
  rintro e w6 ⟨rfl, hw6⟩
  subst hw6
  go_wp2
  go_ret
  exact ⟨rfl, b04⟩
end Go.Proofs.YtlkclaehamidbaaDoor
