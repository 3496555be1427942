/- Whatever packet, and greatest length: the walk of law10.IpSplits ends with true. -/
import Derived.Test.YtpmfofgnapopaaaIpRSp
import Derived.Test.YtpmfofgnapopaaaIpLSm
import Derived.Test.YtpmfofgnapopaaaIpLive
namespace Go.Proofs.Ytpmfofgnapopaaa
open Go.RowKit
theorem pcR_nil (w : World) (sr ds pr tt id : Nat) (dn mo : Bool) (of : Int) (mtu : Int) : PcR w sr ds pr tt id dn mo of [] mtu (fun _ => 0) [] := ⟨rfl, rfl, fun j x hx => by simp at hx⟩
set_option maxRecDepth 100000 in
set_option maxHeartbeats 1000000 in
theorem walk_IpSplits (sr ds pr tt id : Nat) (dn mo : Bool) (of : Int) (a : Option Addr) (n c : Nat) (zs : List Nat) (mtu : Int) (w : World) (_hsr : sr < 4294967296) (_hds : ds < 4294967296) (_hpr : pr < 256) (_htt : tt < 256) (_hid : id < 65536) (_hof : (Lit.int .i64 of).wf = true) (h0 : Sl w a n c zs ∧ c ≤ 140737488351232) (hmtu : (Lit.int .i64 mtu).wf = true) :
    Calls Try.prog 7 #[.agg #[.int .u32 (sr : Nat), .int .u32 (ds : Nat), .int .u8 (pr : Nat), .int .u8 (tt : Nat), .int .u16 (id : Nat), .bool dn, .bool mo, .int .i64 of, .slice a n c], .int .i64 mtu] w fun e w' => e = .returned (.bool true) ∧ Below w.heap.size w w' := by
  obtain ⟨h0, hcb⟩ := h0
  clear hcb
  have hl := h0.len
  have hsm := h0.small
  obtain ⟨W, hW⟩ : ∃ W, W = w.alloc (.cells #[.int .u32 (sr : Nat), .int .u32 (ds : Nat), .int .u8 (pr : Nat), .int .u8 (tt : Nat), .int .u16 (id : Nat), .bool dn, .bool mo, .int .i64 of, .slice a n c] 26) := ⟨_, rfl⟩
  have hX := Stc.new w [.int .u32 (sr : Nat), .int .u32 (ds : Nat), .int .u8 (pr : Nat), .int .u8 (tt : Nat), .int .u16 (id : Nat), .bool dn, .bool mo, .int .i64 of, .slice a n c] 26 W hW
  have hbW : Below w.heap.size w W := by rw [hW]; exact (Below.refl _ _).alloc (Nat.le_refl _) _
  have hsW := h0.below hbW
  have x0 := hX.cell 0 _ rfl
  have x1 := hX.cell 1 _ rfl
  have x2 := hX.cell 2 _ rfl
  have x3 := hX.cell 3 _ rfl
  have x4 := hX.cell 4 _ rfl
  have x5 := hX.cell 5 _ rfl
  have x6 := hX.cell 6 _ rfl
  have x7 := hX.cell 7 _ rfl
  have x8 := hX.cell 8 _ rfl
  have hsp := split_any sr ds pr tt id dn mo of a n c zs mtu W hsW hmtu
  have hrs := fun W h => rsplit_any sr ds pr tt id dn mo of a n c zs mtu W h hmtu
  obtain ⟨E, hEE⟩ : ∃ E, E = spE dn mo of zs.length mtu := ⟨_, rfl⟩
  have HEE := (show Hid _ from hEE)
  clear hEE
  go_enter Try.func7, Try.ntmps7
  go_wp2_with fail
  rw [← hW]
  clear hW
  refine hsp.mono ?_
  rintro e w1 ⟨⟨a1, c1, ps, rfl, k1, hR⟩, b1⟩
  rw [← HEE.out]
  have hX1 := hX.below b1
  have hs1 := hsW.below b1
  have bb1 : Below w.heap.size w w1 := hbW.trans (b1.mono hbW.size)
  clear x0 x1 x2 x3 x4 x5 x6 x7 x8 hX hsW b1 hsp hbW
  have x0 := hX1.cell 0 _ rfl
  have x1 := hX1.cell 1 _ rfl
  have x2 := hX1.cell 2 _ rfl
  have x3 := hX1.cell 3 _ rfl
  have x4 := hX1.cell 4 _ rfl
  have x5 := hX1.cell 5 _ rfl
  have x6 := hX1.cell 6 _ rfl
  have x7 := hX1.cell 7 _ rfl
  have x8 := hX1.cell 8 _ rfl
  have hpc : (¬ spE dn mo of zs.length mtu = 0 → ps = []) ∧ (spE dn mo of zs.length mtu = 0 → PcR w1 sr ds pr tt id dn mo of zs mtu (spP mtu zs.length) ps ∧ ps.length = spK mtu zs.length) := by
    constructor
    · intro hE
      rcases hR with ⟨_, h⟩ | ⟨h, _⟩ | ⟨h, _⟩
      · exact h
      · exact absurd h hE
      · exact absurd h hE
    · intro hE
      exact spR_pieces2 hR hE (by rw [hl]; exact hsm)
  clear hR
  go_wp2_with fail
  refine (hrs w1 hs1).mono ?_
  rintro e w2 ⟨⟨a2, c2, qs, rfl, k2, hn2, hp2⟩, b2⟩
  rw [← HEE.out]
  have k12 := k1.below b2
  have bb2 : Below w.heap.size w w2 := bb1.trans (b2.mono bb1.size)
  have hpp : (ps.length = qs.length) ∧ ∃ zz P, PcR w2 sr ds pr tt id dn mo of zz mtu P ps ∧ PcR w2 sr ds pr tt id dn mo of zz mtu P qs := by
    by_cases hE : spE dn mo of zs.length mtu = 0
    · obtain ⟨p1, p2⟩ := hpc.2 hE
      obtain ⟨p3, p4⟩ := hp2 hE
      exact ⟨by omega, zs, _, p1.below b2, p3⟩
    · rw [hpc.1 hE, hn2 hE]
      exact ⟨rfl, [], _, pcR_nil _ _ _ _ _ _ _ _ _ _, pcR_nil _ _ _ _ _ _ _ _ _ _⟩
  obtain ⟨hlen, zz, P, q1, q2⟩ := hpp
  have HLEN := (show Hid _ from hlen)
  rw [hlen]
  clear hpc hn2 hp2 k1 bb1 hX1 hs1 x0 x1 x2 x3 x4 x5 x6 x7 x8 hrs b2 hlen hl
  go_wp2_with fail
  refine (live10_any w2).mono ?_
  rintro e w3 ⟨rfl, b3⟩
  have bb3 : Below w.heap.size w w3 := bb2.trans (b3.mono bb2.size)
  have hls := lsame_any sr ds pr tt id dn mo of zz mtu P ps qs _ _ a1 a2 c1 c2 w3 (k12.below b3) (k2.below b3) (q1.below b3) (q2.below b3) HLEN.out.symm
  rw [HLEN.out] at hls
  clear k12 k2 q1 q2 b3 bb2 HLEN
  generalize qs.length = n2 at *
  go_wp2_with fail
  refine hls.mono ?_
  rintro e w4 ⟨rfl, b4⟩
  go_wp2
  go_ret
  exact ⟨rfl, bb3.trans (b4.mono bb3.size)⟩
end Go.Proofs.Ytpmfofgnapopaaa
