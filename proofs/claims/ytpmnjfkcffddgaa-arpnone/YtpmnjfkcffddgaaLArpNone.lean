/- The walk of trunklinelaw09.ArpNone. -/
import Derived.Test.YtpmnjfkcffddgaaArL
namespace Go.Proofs.Ytpmnjfkcffddgaa
open Go.RowKit
set_option maxRecDepth 100000 in
set_option maxHeartbeats 4000000 in
theorem walk_ArpNone (a : Option Addr) (n c : Nat) (zs : List Nat) (op : Int) (fm fi tm ti : Nat) (now : Int) (w : World) (_h0 : Sl w a n c zs ∧ c * 1 ≤ 140737488351232) (_h1 : (Lit.int .i64 op).wf = true) (_h2 : fm < 18446744073709551616) (_h3 : fi < 4294967296) (_h4 : tm < 18446744073709551616) (_h5 : ti < 4294967296) (_h6 : (Lit.int .i64 now).wf = true) :
    Calls Try.prog 7 #[.slice a n c, .agg #[.int .i64 op, .int .u64 (fm : Nat), .int .u32 (fi : Nat), .int .u64 (tm : Nat), .int .u32 (ti : Nat)], .int .i64 now] w fun e w' => e = .returned (.bool true) ∧ Below w.heap.size w w' := by
  obtain ⟨W, hW⟩ : ∃ W, W = w.alloc (.cells #[.int .i64 op, .int .u64 (fm : Nat), .int .u32 (fi : Nat), .int .u64 (tm : Nat), .int .u32 (ti : Nat)] 31) := ⟨_, rfl⟩
  have b0 : Below w.heap.size w W := by rw [hW]; exact (Below.refl _ _).alloc (Nat.le_refl _) _
  have stB := Stc.new w [.int .i64 op, .int .u64 (fm : Nat), .int .u32 (fi : Nat), .int .u64 (tm : Nat), .int .u32 (ti : Nat)] 31 W hW
  have HB := (show Hid _ from And.intro b0 stB)
  clear b0 stB _h0 _h1 _h2 _h3 _h4 _h5 _h6
  go_enter Try.func7, Try.ntmps7
  go_wp2_with fail
  rw [← hW]
  clear hW
  refine (asend_nil 1 (.slice a n c) now W).mono ?_
  rintro e w1 ⟨rfl, hb1⟩
  have st1 := HB.out.2.below hb1
  have d0 := st1.cell 0 _ rfl
  have d1 := st1.cell 1 _ rfl
  have d2 := st1.cell 2 _ rfl
  have d3 := st1.cell 3 _ rfl
  have d4 := st1.cell 4 _ rfl
  have HB1 : Hid (Below w.heap.size w w1) := HB.out.1.trans (hb1.mono HB.out.1.size)
  clear hb1 st1
  go_wp2_with fail
  refine (atake_nil _ _ _ _ _ now w1).mono ?_
  rintro e w2 ⟨rfl, hb2⟩
  have HB2 : Hid (Below w.heap.size w w2) := HB1.out.trans (hb2.mono HB1.out.size)
  clear hb2 d0 d1 d2 d3 d4
  go_wp2_with fail
  refine (atick_nil now w2).mono ?_
  rintro e w3 ⟨rfl, hb3⟩
  have HB3 : Hid (Below w.heap.size w w3) := HB2.out.trans (hb3.mono HB2.out.size)
  clear hb3
  go_wp2_with fail
  refine (live9_any w3).mono ?_
  rintro e w4 ⟨rfl, hb4⟩
  have HB4 : Hid (Below w.heap.size w w4) := HB3.out.trans (hb4.mono HB3.out.size)
  clear hb4
  go_wp2_with fail
  refine (atable_nil w4).mono ?_
  rintro e w5 ⟨rfl, hb5⟩
  have HB5 : Hid (Below w.heap.size w w5) := HB4.out.trans (hb5.mono HB4.out.size)
  clear hb5
  go_wp2_with fail
  refine (alost_nil w5).mono ?_
  rintro e w6 ⟨rfl, hb6⟩
  have HB6 : Hid (Below w.heap.size w w6) := HB5.out.trans (hb6.mono HB5.out.size)
  clear hb6
  go_wp2_with fail
  refine (afork_nil w6).mono ?_
  rintro e w7 ⟨rfl, hb7⟩
  have HB7 : Hid (Below w.heap.size w w7) := HB6.out.trans (hb7.mono HB6.out.size)
  clear hb7
  go_wp2
  go_ret
  exact ⟨rfl, HB7.out⟩
end Go.Proofs.Ytpmnjfkcffddgaa
