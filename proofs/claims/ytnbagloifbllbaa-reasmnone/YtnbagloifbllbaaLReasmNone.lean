/- Whatever packet and tick: the walk of law11.ReasmNone ends with true. -/
import Derived.Test.YtnbagloifbllbaaRsL
import Derived.Test.YtnbagloifbllbaaStPacket
namespace Go.Proofs.Ytnbagloifbllbaa
open Go.RowKit
set_option maxRecDepth 100000 in
set_option maxHeartbeats 1000000 in
theorem walk_ReasmNone (sr ds pr tt id : Nat) (dn mo : Bool) (of : Int) (a : Option Addr) (n c : Nat) (zs : List Nat) (now : Int) (w : World) (_hsr : sr < 4294967296) (_hds : ds < 4294967296) (_hpr : pr < 256) (_htt : tt < 256) (_hid : id < 65536) (_hof : (Lit.int .i64 of).wf = true) (_h0 : Sl w a n c zs ∧ c ≤ 140737488351232) (_hnow : (Lit.int .i64 now).wf = true) :
    Calls Try.prog 5 #[.agg #[.int .u32 (sr : Nat), .int .u32 (ds : Nat), .int .u8 (pr : Nat), .int .u8 (tt : Nat), .int .u16 (id : Nat), .bool dn, .bool mo, .int .i64 of, .slice a n c], .int .i64 now] w fun e w' => e = .returned (.bool true) ∧ Below w.heap.size w w' := by
  obtain ⟨W, hW⟩ : ∃ W, W = w.alloc (.cells #[.int .u32 (sr : Nat), .int .u32 (ds : Nat), .int .u8 (pr : Nat), .int .u8 (tt : Nat), .int .u16 (id : Nat), .bool dn, .bool mo, .int .i64 of, .slice a n c] 26) := ⟨_, rfl⟩
  have hX := Stc.new w [.int .u32 (sr : Nat), .int .u32 (ds : Nat), .int .u8 (pr : Nat), .int .u8 (tt : Nat), .int .u16 (id : Nat), .bool dn, .bool mo, .int .i64 of, .slice a n c] 26 W hW
  have hbW : Below w.heap.size w W := by rw [hW]; exact (Below.refl _ _).alloc (Nat.le_refl _) _
  have x0 := hX.cell 0 _ rfl
  have x1 := hX.cell 1 _ rfl
  have x2 := hX.cell 2 _ rfl
  have x3 := hX.cell 3 _ rfl
  have x4 := hX.cell 4 _ rfl
  have x5 := hX.cell 5 _ rfl
  have x6 := hX.cell 6 _ rfl
  have x7 := hX.cell 7 _ rfl
  have x8 := hX.cell 8 _ rfl
  go_enter Try.func5, Try.ntmps5
  go_wp2_with fail
  rw [← hW]
  clear hW
  refine (radd_nil sr ds pr tt id dn mo of a n c now W).mono ?_
  rintro e w1 ⟨rfl, b1⟩
  have bb1 := hbW.trans (b1.mono hbW.size)
  clear x0 x1 x2 x3 x4 x5 x6 x7 x8 hX hbW b1
  obtain ⟨w2, hw2⟩ : ∃ W, W = w1.alloc (.cells #[.int .u32 0, .int .u32 0, .int .u8 0, .int .u8 0, .int .u16 0, .bool false, .bool false, .int .i64 0, .slice none 0 0] 26) := ⟨_, rfl⟩
  have b2 : Below w1.heap.size w1 w2 := by rw [hw2]; exact (Below.refl _ _).alloc (Nat.le_refl _) _
  have s2 := Stc.new w1 [.int .u32 0, .int .u32 0, .int .u8 0, .int .u8 0, .int .u16 0, .bool false, .bool false, .int .i64 0, .slice none 0 0] 26 w2 hw2
  have bb2 := bb1.trans (b2.mono bb1.size)
  go_wp2_with fail
  rw [← hw2]
  clear hw2
  refine (rtick_nil now w2).mono ?_
  rintro e w3 ⟨rfl, b3⟩
  have bb3 := bb2.trans (b3.mono bb2.size)
  have s3 := s2.below b3
  go_wp2_with fail
  refine (count_nil w3).mono ?_
  rintro e w4 ⟨rfl, b4⟩
  have bb4 := bb3.trans (b4.mono bb3.size)
  have s4 := s3.below b4
  go_wp2_with fail
  refine (live11_any w4).mono ?_
  rintro e w5 ⟨rfl, b5⟩
  have bb5 := bb4.trans (b5.mono bb4.size)
  have s5 := s4.below b5
  have y8 := s5.cell 8 _ rfl
  clear bb1 b2 s2 bb2 b3 bb3 s3 b4 bb4 s4 b5
  go_wp2_with fail
  refine (rfork_nil w5).mono ?_
  rintro e w6 ⟨rfl, b6⟩
  have HB := (show Hid _ from bb5.trans (b6.mono bb5.size))
  clear bb5 b6 y8 s5
  go_wp2
  go_ret
  exact ⟨rfl, HB.out⟩
end Go.Proofs.Ytnbagloifbllbaa
