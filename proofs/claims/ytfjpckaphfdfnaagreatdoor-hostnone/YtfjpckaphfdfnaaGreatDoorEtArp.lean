/- What ether.PutArp answers. -/
import Derived.Test.YtfjpckaphfdfnaaGreatDoorEtPut2
namespace Go.Proofs.YtfjpckaphfdfnaaGreatDoor
open Go.RowKit
def arpH : List Nat := bytesB 4429186564 6
theorem results_cellE2 {fn : Func} {p u : Tmp} {ty : TypeId} (h : fn.results = #[.cell p ty, .tmp u]) (tmps : Array Value) (w : World) (g o : Nat) (cs : List Value) (d : TypeDesc)
    (hp : tmps.getD p undef = .pointer (some ⟨g, o, none⟩)) (hc : w.rangeAt g o cs) (hu : Tryz.prog.underlying ty = some d) (hd : d.isRow = true) (hi : (Tryz.prog.info? ty).map (·.size) = some cs.length) :
    (results fn tmps).run Tryz.prog w = .ok (.tuple #[.agg cs.toArray, tmps.getD u undef]) w := by
  rw [results_cell_tmp h, hp]
  simp [asAddr, run_loadVar_mid w g o ty cs d hc hu hd hi, Result.andThen]
set_option maxRecDepth 100000 in
set_option maxHeartbeats 4000000 in
theorem eachArp_lay (B pc po : Nat) (gr : Option Nat) (zs : List Nat) (op fm fi tm ti : Nat) (w : World) (h : LyS B pc po gr zs w) (hop : op < 65536) (hfm : fm < 281474976710656) (hfi : fi < 4294967296) (htm : tm < 281474976710656) (hti : ti < 4294967296) (hl : zs.length ≤ 1000) :
    Calls Tryz.prog 198 #[.agg #[.int .i64 (op : Nat), .int .u64 (fm : Nat), .int .u32 (fi : Nat), .int .u64 (tm : Nat), .int .u32 (ti : Nat)], .func (.func 276) #[] #[.pointer (some ⟨pc, 0, none⟩)]] w fun e w' => (∃ v, e = .returned v) ∧ LyQ B pc po gr ((((((zs ++ arpH) ++ bytesB op 2) ++ bytesB fm 6) ++ bytesB fi 4) ++ bytesB tm 6) ++ bytesB ti 4) w w' := by
  have h0 := HdS.start h [.int .i64 (op : Nat), .int .u64 (fm : Nat), .int .u32 (fi : Nat), .int .u64 (tm : Nat), .int .u32 (ti : Nat)] [.int .i64 0, .int .u64 0, .int .u32 0, .int .u64 0, .int .u32 0] 251 251
  obtain ⟨W, hW⟩ : ∃ W, W = (w.alloc (.cells #[.int .i64 (op : Nat), .int .u64 (fm : Nat), .int .u32 (fi : Nat), .int .u64 (tm : Nat), .int .u32 (ti : Nat)] 251)).alloc (.cells #[.int .i64 0, .int .u64 0, .int .u32 0, .int .u64 0, .int .u32 0] 251) := ⟨_, rfl⟩
  change HdS w B pc po gr w.heap.size (w.heap.size + 1) zs _ _ ((w.alloc (.cells #[.int .i64 (op : Nat), .int .u64 (fm : Nat), .int .u32 (fi : Nat), .int .u64 (tm : Nat), .int .u32 (ti : Nat)] 251)).alloc (.cells #[.int .i64 0, .int .u64 0, .int .u32 0, .int .u64 0, .int .u32 0] 251)) at h0
  rw [← hW] at h0
  obtain ⟨L0, hL0⟩ : ∃ L0, L0 = zs ++ arpH := ⟨_, rfl⟩
  obtain ⟨L1, hL1⟩ : ∃ L1, L1 = L0 ++ bytesB op 2 := ⟨_, rfl⟩
  obtain ⟨L2, hL2⟩ : ∃ L2, L2 = L1 ++ bytesB fm 6 := ⟨_, rfl⟩
  obtain ⟨L3, hL3⟩ : ∃ L3, L3 = L2 ++ bytesB fi 4 := ⟨_, rfl⟩
  obtain ⟨L4, hL4⟩ : ∃ L4, L4 = L3 ++ bytesB tm 6 := ⟨_, rfl⟩
  obtain ⟨L5, hL5⟩ : ∃ L5, L5 = L4 ++ bytesB ti 4 := ⟨_, rfl⟩
  have k0 : L0.length ≤ 2000 := by rw [hL0]; simp [arpH, bytesB_len]; omega
  have k1 : L1.length ≤ 3000 := by rw [hL1]; simp [bytesB_len]; omega
  have k2 : L2.length ≤ 4000 := by rw [hL2]; simp [bytesB_len]; omega
  have k3 : L3.length ≤ 5000 := by rw [hL3]; simp [bytesB_len]; omega
  have k4 : L4.length ≤ 6000 := by rw [hL4]; simp [bytesB_len]; omega
  have n0 : (zs ++ bytesB 4429186564 6) = L0 := hL0.symm
  rw [← hL0, ← hL1, ← hL2, ← hL3, ← hL4, ← hL5]
  have N0 := (show Hid _ from n0)
  have N1 := (show Hid _ from hL1.symm)
  have N2 := (show Hid _ from hL2.symm)
  have N3 := (show Hid _ from hL3.symm)
  have N4 := (show Hid _ from hL4.symm)
  have N5 := (show Hid _ from hL5.symm)
  clear h n0 hL0 hL1 hL2 hL3 hL4 hL5
  go_enter Tryz.func198, Tryz.ntmps198
  go_wp2_with fail
  rw [← hW]
  clear hW
  refine (h0.lay 4429186564 6 (by decide) (by omega) (by omega) (by omega)).mono ?_
  rintro e w0 ⟨rfl, g0⟩
  rw [N0.out] at g0
  clear h0
  have a0 := g0.sx.cell 0 _ rfl
  have u0 : IntKind.u64.wrap (op : Int) = (op : Int) := by rw [IntKind.wrap_u64]; omega
  go_wp2_with fail
  refine (g0.lay op 2 (by show op < 256 ^ 2; omega) (by omega) (by omega) (by omega)).mono ?_
  rintro e w1 ⟨rfl, g1'⟩
  rw [N1.out] at g1'
  have b0 := g1'.sx.cell 0 _ rfl
  have b0f := g1'.sx.free 0
  have m0 : IntKind.i64.wrap (op : Int) = (op : Int) := by rw [IntKind.wrap_i64]; omega
  have g1 := g1'.set 0 (.int .i64 (op : Nat))
  clear a0 g0
  have a1 := g1.sx.cell 1 _ rfl
  go_wp2_with fail
  refine (g1.lay fm 6 (by show fm < 256 ^ 6; omega) (by omega) (by omega) (by omega)).mono ?_
  rintro e w2 ⟨rfl, g2'⟩
  rw [N2.out] at g2'
  have b1 := g2'.sx.cell 1 _ rfl
  have b1f := g2'.sx.free 1
  have g2 := g2'.set 1 (.int .u64 (fm : Nat))
  clear a1 g1
  have a2 := g2.sx.cell 2 _ rfl
  go_wp2_with fail
  refine (g2.lay fi 4 (by show fi < 256 ^ 4; omega) (by omega) (by omega) (by omega)).mono ?_
  rintro e w3 ⟨rfl, g3'⟩
  rw [N3.out] at g3'
  have b2 := g3'.sx.cell 2 _ rfl
  have b2f := g3'.sx.free 2
  have m2 : (fi : Int) % 4294967296 = (fi : Int) := by omega
  have g3 := g3'.set 2 (.int .u32 (fi : Nat))
  clear a2 g2
  have a3 := g3.sx.cell 3 _ rfl
  go_wp2_with fail
  refine (g3.lay tm 6 (by show tm < 256 ^ 6; omega) (by omega) (by omega) (by omega)).mono ?_
  rintro e w4 ⟨rfl, g4'⟩
  rw [N4.out] at g4'
  have b3 := g4'.sx.cell 3 _ rfl
  have b3f := g4'.sx.free 3
  have g4 := g4'.set 3 (.int .u64 (tm : Nat))
  clear a3 g3
  have a4 := g4.sx.cell 4 _ rfl
  go_wp2_with fail
  refine (g4.lay ti 4 (by show ti < 256 ^ 4; omega) (by omega) (by omega) (by omega)).mono ?_
  rintro e w5 ⟨rfl, g5'⟩
  rw [N5.out] at g5'
  have b4 := g5'.sx.cell 4 _ rfl
  have b4f := g5'.sx.free 4
  have m4 : (ti : Int) % 4294967296 = (ti : Int) := by omega
  have g5 := g5'.set 4 (.int .u32 (ti : Nat))
  have z0 := g5'.sx.cell 0 _ rfl
  have z1 := g5'.sx.cell 1 _ rfl
  have z2 := g5'.sx.cell 2 _ rfl
  have z3 := g5'.sx.cell 3 _ rfl
  have r0 := g5'.sr.cell 0 _ rfl
  have r1 := g5'.sr.cell 1 _ rfl
  have r2 := g5'.sr.cell 2 _ rfl
  have r3 := g5'.sr.cell 3 _ rfl
  have r4 := g5'.sr.cell 4 _ rfl
  have r0f := g5'.sr.free 0
  have r1f := g5'.sr.free 1
  have r2f := g5'.sr.free 2
  have r3f := g5'.sr.free 3
  have r4f := g5'.sr.free 4
  have g6 := ((((g5.setR 0 (.int .i64 (op : Nat))).setR 1 (.int .u64 (fm : Nat))).setR 2 (.int .u32 (fi : Nat))).setR 3 (.int .u64 (tm : Nat))).setR 4 (.int .u32 (ti : Nat))
  have HF : Hid (LyQ B pc po gr L5 w _) := ⟨by obtain ⟨g, s1, s2, _, _⟩ := g6.st; exact ⟨g, s1, s2⟩, g6.fr⟩
  have HRG := (show Hid _ from g6.sr.range)
  clear g5 g5' g6 a4 g4
  go_wp2
  try simp only [Exit.inBlock, Exit.then]
  refine bodyPost_ret (results_cellE2 rfl _ _ (w.heap.size + 1) 0 [.int .i64 (op : Nat), .int .u64 (fm : Nat), .int .u32 (fi : Nat), .int .u64 (tm : Nat), .int .u32 (ti : Nat)] _ rfl HRG.out Tryz.underlying251 rfl (by kernel_rfl)) rfl ?_
  exact ⟨⟨_, rfl⟩, HF.out⟩
end Go.Proofs.YtfjpckaphfdfnaaGreatDoor
