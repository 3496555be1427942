/- Whatever packet: the walk of law10.IpPuts ends with true. -/
import Derived.Test.YtpmfofgnapopaaaIpRPut
import Derived.Test.YtpmfofgnapopaaaIpLive
namespace Go.Proofs.Ytpmfofgnapopaaa
open Go.RowKit
theorem ipV_le (sr ds pr tt id : Nat) (dn mo : Bool) (of : Int) (zs : List Nat) : (ipV sr ds pr tt id dn mo of zs).length ≤ 65535 := by
  unfold ipV
  split
  · rename_i h
    have := mbE_ok h
    rw [List.length_append, ipHd_len]
    omega
  · simp
set_option maxRecDepth 100000 in
set_option maxHeartbeats 1000000 in
theorem walk_IpPuts (sr ds pr tt id : Nat) (dn mo : Bool) (of : Int) (a : Option Addr) (n c : Nat) (zs : List Nat) (w : World) (hsr : sr < 4294967296) (hds : ds < 4294967296) (hpr : pr < 256) (htt : tt < 256) (hid : id < 65536) (_hof : (Lit.int .i64 of).wf = true) (h0 : Sl w a n c zs ∧ c ≤ 140737488351232) :
    Calls Try.prog 3 #[.agg #[.int .u32 (sr : Nat), .int .u32 (ds : Nat), .int .u8 (pr : Nat), .int .u8 (tt : Nat), .int .u16 (id : Nat), .bool dn, .bool mo, .int .i64 of, .slice a n c]] w fun e w' => e = .returned (.bool true) ∧ Below w.heap.size w w' := by
  obtain ⟨h0, hcb⟩ := h0
  clear hcb
  obtain ⟨W, hW⟩ : ∃ W, W = w.alloc (.cells #[.int .u32 (sr : Nat), .int .u32 (ds : Nat), .int .u8 (pr : Nat), .int .u8 (tt : Nat), .int .u16 (id : Nat), .bool dn, .bool mo, .int .i64 of, .slice a n c] 26) := ⟨_, rfl⟩
  have hX := Stc.new w [.int .u32 (sr : Nat), .int .u32 (ds : Nat), .int .u8 (pr : Nat), .int .u8 (tt : Nat), .int .u16 (id : Nat), .bool dn, .bool mo, .int .i64 of, .slice a n c] 26 W hW
  have hbW : Below w.heap.size w W := by rw [hW]; exact (Below.refl _ _).alloc (Nat.le_refl _) _
  have hsW := h0.below hbW
  have x0 := hX.cell 0 _ rfl
  have x1 := hX.cell 1 _ rfl
  have x2 := hX.cell 2 _ rfl
  have x3 := hX.cell 3 _ rfl
  have x4 := hX.cell 4 _ rfl
  have x5 := hX.cell 5 _ rfl
  have x6 := hX.cell 6 _ rfl
  have x7 := hX.cell 7 _ rfl
  have x8 := hX.cell 8 _ rfl
  have hp := iput_any sr ds pr tt id dn mo of a n c zs W hsr hds hpr htt hid hsW
  have hr := fun W h => riput_any sr ds pr tt id dn mo of a n c zs W hsr hds hpr htt hid h
  have hle := ipV_le sr ds pr tt id dn mo of zs
  generalize ipV sr ds pr tt id dn mo of zs = V at *
  generalize mbE mo of n = E at *
  obtain ⟨l, hl⟩ : ∃ l, l = V.length := ⟨_, rfl⟩
  have HL := (show Hid _ from hl)
  have hl2 : l ≤ 65535 := by omega
  clear hl hle
  go_enter Try.func3, Try.ntmps3
  go_wp2_with fail
  rw [← hW]
  clear hW
  refine hp.mono ?_
  rintro e w1 ⟨⟨a1, c1, rfl, o1⟩, b1⟩
  rw [← HL.out] at o1 ⊢
  have hX1 := hX.below b1
  have hs1 := hsW.below b1
  have bb1 : Below w.heap.size w w1 := hbW.trans (b1.mono hbW.size)
  clear x0 x1 x2 x3 x4 x5 x6 x7 x8 hX hsW b1 hbW hp
  have x0 := hX1.cell 0 _ rfl
  have x1 := hX1.cell 1 _ rfl
  have x2 := hX1.cell 2 _ rfl
  have x3 := hX1.cell 3 _ rfl
  have x4 := hX1.cell 4 _ rfl
  have x5 := hX1.cell 5 _ rfl
  have x6 := hX1.cell 6 _ rfl
  have x7 := hX1.cell 7 _ rfl
  have x8 := hX1.cell 8 _ rfl
  go_wp2_with fail
  refine (hr w1 hs1).mono ?_
  rintro e w2 ⟨⟨a2, c2, rfl, o2⟩, b2⟩
  rw [← HL.out] at o2 ⊢
  have o12 := o1.below b2
  have bb2 : Below w.heap.size w w2 := bb1.trans (b2.mono bb1.size)
  clear x0 x1 x2 x3 x4 x5 x6 x7 x8 hX1 hs1 b2 bb1 o1
  go_wp2_with fail
  refine (live10_any w2).mono ?_
  rintro e w3 ⟨rfl, b3⟩
  have k1 := conv_str ((o12.below b3).sl (by omega))
  have k2 := conv_str ((o2.below b3).sl (by omega))
  have bb3 : Below w.heap.size w w3 := bb2.trans (b3.mono bb2.size)
  clear o12 o2 b3 bb2
  go_wp2
  go_ret
  exact ⟨rfl, bb3⟩
end Go.Proofs.Ytpmfofgnapopaaa
