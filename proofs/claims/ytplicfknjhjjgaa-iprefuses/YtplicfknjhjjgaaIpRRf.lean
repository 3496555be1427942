/- What ref10.Refuse answers. -/
import Derived.Test.YtplicfknjhjjgaaIpRf0
import Derived.Test.YtplicfknjhjjgaaIpRPut
import Derived.Test.YtplicfknjhjjgaaIpRPIc
import Derived.Deep.RegionHeld3
namespace Go.Proofs.Ytplicfknjhjjgaa
open Go.RowKit
set_option maxRecDepth 100000 in
set_option maxHeartbeats 4000000 in
theorem rrefuse_any (sr ds pr tt id : Nat) (dn mo : Bool) (of : Int) (a : Option Addr) (n c : Nat) (zs : List Nat) (code mtu : Int) (w : World) (hsr : sr < 4294967296) (hds : ds < 4294967296) (hpr : pr < 256) (htt : tt < 256) (hid : id < 65536) (hs : Sl w a n c zs) (hcw : (Lit.int .i64 code).wf = true) (hmw : (Lit.int .i64 mtu).wf = true) :
    Calls Try.prog 12 #[.agg #[.int .u32 (sr : Nat), .int .u32 (ds : Nat), .int .u8 (pr : Nat), .int .u8 (tt : Nat), .int .u16 (id : Nat), .bool dn, .bool mo, .int .i64 of, .slice a n c], .int .i64 code, .int .i64 mtu] w fun e w' => RfP sr ds pr tt id dn mo of zs code mtu w e w' := by
  have hln : Hid (zs.length = n) := hs.len
  have hsm := hs.small
  obtain ⟨W1, hW1⟩ : ∃ W, W = w.alloc (.cells #[.int .u32 (sr : Nat), .int .u32 (ds : Nat), .int .u8 (pr : Nat), .int .u8 (tt : Nat), .int .u16 (id : Nat), .bool dn, .bool mo, .int .i64 of, .slice a n c] 26) := ⟨_, rfl⟩
  obtain ⟨W2, hW2⟩ : ∃ W, W = W1.alloc (.cells #[.int .u32 0, .int .u32 0, .int .u8 0, .int .u8 0, .int .u16 0, .bool false, .bool false, .int .i64 0, .slice none 0 0] 26) := ⟨_, rfl⟩
  have z1 : W1.heap.size = w.heap.size + 1 := by rw [hW1]; simp
  have b1 : Below w.heap.size w W1 := by rw [hW1]; exact (Below.refl _ _).alloc (Nat.le_refl _) _
  have b2 : Below W1.heap.size W1 W2 := by rw [hW2]; exact (Below.refl _ _).alloc (Nat.le_refl _) _
  have sP := (Stc.new w [.int .u32 (sr : Nat), .int .u32 (ds : Nat), .int .u8 (pr : Nat), .int .u8 (tt : Nat), .int .u16 (id : Nat), .bool dn, .bool mo, .int .i64 of, .slice a n c] 26 W1 hW1).below b2
  have sR := Stc.new W1 [.int .u32 0, .int .u32 0, .int .u8 0, .int .u8 0, .int .u16 0, .bool false, .bool false, .int .i64 0, .slice none 0 0] 26 W2 hW2
  rw [z1] at sR
  have b02 : Below w.heap.size w W2 := b1.trans (b2.mono b1.size)
  have hs2 := hs.below b02
  clear b1 b2 z1
  have p0 := sP.cell 0 _ rfl
  have p1 := sP.cell 1 _ rfl
  have p2 := sP.cell 2 _ rfl
  have p3 := sP.cell 3 _ rfl
  have p4 := sP.cell 4 _ rfl
  have p5 := sP.cell 5 _ rfl
  have p6 := sP.cell 6 _ rfl
  have p7 := sP.cell 7 _ rfl
  have p8 := sP.cell 8 _ rfl
  have hmb := riput_any sr ds pr tt id dn mo of a n c zs W2 hsr hds hpr htt hid hs2
  go_enter Try.func12, Try.ntmps12
  go_wp2_with fail
  rw [← hW1, ← hW2]
  clear hW1 hW2 p0 p1 p2 p3 p4 p5 p6 p7 p8
  refine hmb.mono ?_
  rintro e w3 ⟨⟨a3, cz, rfl, o3⟩, b3⟩
  have sP3 := sP.below b3
  have sR3 := sR.below b3
  have bb3 : Below w.heap.size w w3 := b02.trans (b3.mono b02.size)
  have hs3 := hs2.below b3
  obtain ⟨M, hM⟩ : ∃ M, M = mbE mo of n := ⟨_, rfl⟩
  rw [← hM]
  have HM : Hid (mbE mo of zs.length = M) := by show _ = _; rw [hM, hln.out]
  have HOK : Hid (M = 0 → n ≤ 65515) := fun h => by have := mbE_ok (hM.symm.trans h); omega
  obtain ⟨V, hV⟩ : ∃ V, V = ipV sr ds pr tt id dn mo of zs := ⟨_, rfl⟩
  obtain ⟨vl, hvl⟩ : ∃ v, v = V.length := ⟨_, rfl⟩
  rw [← hV, ← hvl] at o3
  rw [← hV, ← hvl]
  have HV := (show Hid _ from hV)
  have HVL := (show Hid _ from hvl)
  have hl2 := sR.lt
  clear hM hV hvl sP sR b02 hs2 b3 hmb hsm
  by_cases hE : M = 0
  case neg =>
    have hEb : ((M : Int) != 0) = true := by simp; omega
    have r0 := sR3.cell 0 _ rfl
    have r1 := sR3.cell 1 _ rfl
    have r2 := sR3.cell 2 _ rfl
    have r3 := sR3.cell 3 _ rfl
    have r4 := sR3.cell 4 _ rfl
    have r5 := sR3.cell 5 _ rfl
    have r6 := sR3.cell 6 _ rfl
    have r7 := sR3.cell 7 _ rfl
    have r8 := sR3.cell 8 _ rfl
    have r0f := sR3.free 0
    have r1f := sR3.free 1
    have r2f := sR3.free 2
    have r3f := sR3.free 3
    have r4f := sR3.free 4
    have r5f := sR3.free 5
    have r6f := sR3.free 6
    have r7f := sR3.free 7
    have r8f := sR3.free 8
    have hR9 := (((((((((sR3.set 0 (.int .u32 0)).set 1 (.int .u32 0)).set 2 (.int .u8 0)).set 3 (.int .u8 0)).set 4 (.int .u16 0)).set 5 (.bool false)).set 6 (.bool false)).set 7 (.int .i64 0)).set 8 (.slice none 0 0))
    have hb9 := (((((((((bb3.setCell (p := ⟨w.heap.size + 1, 0, none⟩) (by show w.heap.size ≤ w.heap.size + 1; omega) (.int .u32 0)).setCell (p := ⟨w.heap.size + 1, 1, none⟩) (by show w.heap.size ≤ w.heap.size + 1; omega) (.int .u32 0)).setCell (p := ⟨w.heap.size + 1, 2, none⟩) (by show w.heap.size ≤ w.heap.size + 1; omega) (.int .u8 0)).setCell (p := ⟨w.heap.size + 1, 3, none⟩) (by show w.heap.size ≤ w.heap.size + 1; omega) (.int .u8 0)).setCell (p := ⟨w.heap.size + 1, 4, none⟩) (by show w.heap.size ≤ w.heap.size + 1; omega) (.int .u16 0)).setCell (p := ⟨w.heap.size + 1, 5, none⟩) (by show w.heap.size ≤ w.heap.size + 1; omega) (.bool false)).setCell (p := ⟨w.heap.size + 1, 6, none⟩) (by show w.heap.size ≤ w.heap.size + 1; omega) (.bool false)).setCell (p := ⟨w.heap.size + 1, 7, none⟩) (by show w.heap.size ≤ w.heap.size + 1; omega) (.int .i64 0)).setCell (p := ⟨w.heap.size + 1, 8, none⟩) (by show w.heap.size ≤ w.heap.size + 1; omega) (.slice none 0 0))
    have HRG := (show Hid _ from hR9.range)
    have HBB := (show Hid _ from hb9)
    clear hR9 hb9
    clear sP3 sR3 bb3 hs3 o3
    go_wp2
    try simp only [Exit.inBlock, Exit.then]
    refine bodyPost_ret (results_cellE2 rfl _ _ (w.heap.size + 1) 0 [.int .u32 0, .int .u32 0, .int .u8 0, .int .u8 0, .int .u16 0, .bool false, .bool false, .int .i64 0, .slice none 0 0] _ rfl HRG.out Try.underlying26 rfl (by kernel_rfl)) rfl ?_
    exact rf_no _ _ _ _ _ _ _ _ _ _ _ M (rfE_1 _ _ _ _ _ _ M HM.out hE) hE _ _ HBB.out
  case pos =>
  have hn6 := HOK.out hE
  have hEb : ((M : Int) != 0) = false := by simp; omega
  have HM0 : Hid (mbE mo of zs.length = 0) := by show _ = _; rw [HM.out, hE]
  clear hE HOK HM
  by_cases hC : code < 0 ∨ 15 < code ∨ mtu < 0 ∨ 65535 < mtu
  case pos =>
    have HC : Hid (code < 0 ∨ 15 < code ∨ mtu < 0 ∨ 65535 < mtu) := hC
    have r0 := sR3.cell 0 _ rfl
    have r1 := sR3.cell 1 _ rfl
    have r2 := sR3.cell 2 _ rfl
    have r3 := sR3.cell 3 _ rfl
    have r4 := sR3.cell 4 _ rfl
    have r5 := sR3.cell 5 _ rfl
    have r6 := sR3.cell 6 _ rfl
    have r7 := sR3.cell 7 _ rfl
    have r8 := sR3.cell 8 _ rfl
    have r0f := sR3.free 0
    have r1f := sR3.free 1
    have r2f := sR3.free 2
    have r3f := sR3.free 3
    have r4f := sR3.free 4
    have r5f := sR3.free 5
    have r6f := sR3.free 6
    have r7f := sR3.free 7
    have r8f := sR3.free 8
    have hR9 := (((((((((sR3.set 0 (.int .u32 0)).set 1 (.int .u32 0)).set 2 (.int .u8 0)).set 3 (.int .u8 0)).set 4 (.int .u16 0)).set 5 (.bool false)).set 6 (.bool false)).set 7 (.int .i64 0)).set 8 (.slice none 0 0))
    have hb9 := (((((((((bb3.setCell (p := ⟨w.heap.size + 1, 0, none⟩) (by show w.heap.size ≤ w.heap.size + 1; omega) (.int .u32 0)).setCell (p := ⟨w.heap.size + 1, 1, none⟩) (by show w.heap.size ≤ w.heap.size + 1; omega) (.int .u32 0)).setCell (p := ⟨w.heap.size + 1, 2, none⟩) (by show w.heap.size ≤ w.heap.size + 1; omega) (.int .u8 0)).setCell (p := ⟨w.heap.size + 1, 3, none⟩) (by show w.heap.size ≤ w.heap.size + 1; omega) (.int .u8 0)).setCell (p := ⟨w.heap.size + 1, 4, none⟩) (by show w.heap.size ≤ w.heap.size + 1; omega) (.int .u16 0)).setCell (p := ⟨w.heap.size + 1, 5, none⟩) (by show w.heap.size ≤ w.heap.size + 1; omega) (.bool false)).setCell (p := ⟨w.heap.size + 1, 6, none⟩) (by show w.heap.size ≤ w.heap.size + 1; omega) (.bool false)).setCell (p := ⟨w.heap.size + 1, 7, none⟩) (by show w.heap.size ≤ w.heap.size + 1; omega) (.int .i64 0)).setCell (p := ⟨w.heap.size + 1, 8, none⟩) (by show w.heap.size ≤ w.heap.size + 1; omega) (.slice none 0 0))
    have HRG := (show Hid _ from hR9.range)
    have HBB := (show Hid _ from hb9)
    clear hR9 hb9
    clear sP3 sR3 bb3 hs3 o3
    rcases (show code < 0 ∨ (¬ code < 0 ∧ 15 < code) ∨ (¬ code < 0 ∧ ¬ 15 < code ∧ mtu < 0) ∨ (¬ code < 0 ∧ ¬ 15 < code ∧ ¬ mtu < 0 ∧ 65535 < mtu) by omega) with c1 | ⟨c1, c2⟩ | ⟨c1, c2, c3⟩ | ⟨c1, c2, c3, c4⟩
    all_goals
      clear hC
      go_wp2
      try simp only [Exit.inBlock, Exit.then]
      refine bodyPost_ret (results_cellE2 rfl _ _ (w.heap.size + 1) 0 [.int .u32 0, .int .u32 0, .int .u8 0, .int .u8 0, .int .u16 0, .bool false, .bool false, .int .i64 0, .slice none 0 0] _ rfl HRG.out Try.underlying26 rfl (by kernel_rfl)) rfl ?_
      exact rf_no _ _ _ _ _ _ _ _ _ _ _ 2 (rfE_2 _ _ _ _ _ _ HM0.out HC.out) (by decide) _ _ HBB.out
  case neg =>
  have HC : Hid (¬ (code < 0 ∨ 15 < code ∨ mtu < 0 ∨ 65535 < mtu)) := hC
  obtain ⟨cd, rfl⟩ : ∃ cd : Nat, code = (cd : Int) := ⟨code.toNat, by omega⟩
  obtain ⟨mt, rfl⟩ : ∃ mt : Nat, mtu = (mt : Int) := ⟨mtu.toNat, by omega⟩
  have c1 : ¬ (cd : Int) < 0 := by omega
  have c2 : ¬ (15 : Int) < (cd : Int) := by omega
  have c3 : ¬ (mt : Int) < 0 := by omega
  have c4 : ¬ (65535 : Int) < (mt : Int) := by omega
  clear hC hcw hmw
  have p0 := sP3.cell 0 _ rfl
  have p1 := sP3.cell 1 _ rfl
  have p2 := sP3.cell 2 _ rfl
  have p3 := sP3.cell 3 _ rfl
  have p4 := sP3.cell 4 _ rfl
  have p5 := sP3.cell 5 _ rfl
  have p6 := sP3.cell 6 _ rfl
  have p7 := sP3.cell 7 _ rfl
  have p8 := sP3.cell 8 _ rfl
  cases hB : mbr pr of zs
  case false =>
    have HB := (show Hid _ from hB)
    have hB2 := of_decide_eq_false hB
    clear hB
    have r0 := sR3.cell 0 _ rfl
    have r1 := sR3.cell 1 _ rfl
    have r2 := sR3.cell 2 _ rfl
    have r3 := sR3.cell 3 _ rfl
    have r4 := sR3.cell 4 _ rfl
    have r5 := sR3.cell 5 _ rfl
    have r6 := sR3.cell 6 _ rfl
    have r7 := sR3.cell 7 _ rfl
    have r8 := sR3.cell 8 _ rfl
    have r0f := sR3.free 0
    have r1f := sR3.free 1
    have r2f := sR3.free 2
    have r3f := sR3.free 3
    have r4f := sR3.free 4
    have r5f := sR3.free 5
    have r6f := sR3.free 6
    have r7f := sR3.free 7
    have r8f := sR3.free 8
    have hR9 := (((((((((sR3.set 0 (.int .u32 0)).set 1 (.int .u32 0)).set 2 (.int .u8 0)).set 3 (.int .u8 0)).set 4 (.int .u16 0)).set 5 (.bool false)).set 6 (.bool false)).set 7 (.int .i64 0)).set 8 (.slice none 0 0))
    have hb9 := (((((((((bb3.setCell (p := ⟨w.heap.size + 1, 0, none⟩) (by show w.heap.size ≤ w.heap.size + 1; omega) (.int .u32 0)).setCell (p := ⟨w.heap.size + 1, 1, none⟩) (by show w.heap.size ≤ w.heap.size + 1; omega) (.int .u32 0)).setCell (p := ⟨w.heap.size + 1, 2, none⟩) (by show w.heap.size ≤ w.heap.size + 1; omega) (.int .u8 0)).setCell (p := ⟨w.heap.size + 1, 3, none⟩) (by show w.heap.size ≤ w.heap.size + 1; omega) (.int .u8 0)).setCell (p := ⟨w.heap.size + 1, 4, none⟩) (by show w.heap.size ≤ w.heap.size + 1; omega) (.int .u16 0)).setCell (p := ⟨w.heap.size + 1, 5, none⟩) (by show w.heap.size ≤ w.heap.size + 1; omega) (.bool false)).setCell (p := ⟨w.heap.size + 1, 6, none⟩) (by show w.heap.size ≤ w.heap.size + 1; omega) (.bool false)).setCell (p := ⟨w.heap.size + 1, 7, none⟩) (by show w.heap.size ≤ w.heap.size + 1; omega) (.int .i64 0)).setCell (p := ⟨w.heap.size + 1, 8, none⟩) (by show w.heap.size ≤ w.heap.size + 1; omega) (.slice none 0 0))
    have HRG := (show Hid _ from hR9.range)
    have HBB := (show Hid _ from hb9)
    clear hR9 hb9
    have hsl := hs3.len
    by_cases h1 : of = 0
    case neg =>
      have h1b : (of != 0) = true := by simpa using h1
      clear sP3 sR3 bb3 hs3 o3 hB2 hsl
      go_wp2
      try simp only [Exit.inBlock, Exit.then]
      refine bodyPost_ret (results_cellE2 rfl _ _ (w.heap.size + 1) 0 [.int .u32 0, .int .u32 0, .int .u8 0, .int .u8 0, .int .u16 0, .bool false, .bool false, .int .i64 0, .slice none 0 0] _ rfl HRG.out Try.underlying26 rfl (by kernel_rfl)) rfl ?_
      exact rf_no _ _ _ _ _ _ _ _ _ _ _ 11 (rfE_3 _ _ _ _ _ _ HM0.out HC.out HB.out) (by decide) _ _ HBB.out
    case pos =>
    subst h1
    have hpr1 : pr = 1 := by
      by_cases h : pr = 1
      · exact h
      · exact absurd ⟨rfl, .inl h⟩ hB2
    have h2b : ((pr : Int) == 1) = true := by simp; omega
    by_cases h3 : n = 0
    · have h3b : ((n : Int) == 0) = true := by simp; omega
      have h3c : (n : Int) = 0 := by omega
      clear sP3 sR3 bb3 hs3 o3 hB2 hsl hpr1 h3
      go_wp2
      try simp only [Exit.inBlock, Exit.then]
      refine bodyPost_ret (results_cellE2 rfl _ _ (w.heap.size + 1) 0 [.int .u32 0, .int .u32 0, .int .u8 0, .int .u8 0, .int .u16 0, .bool false, .bool false, .int .i64 0, .slice none 0 0] _ rfl HRG.out Try.underlying26 rfl (by kernel_rfl)) rfl ?_
      exact rf_no _ _ _ _ _ _ _ _ _ _ _ 11 (rfE_3 _ _ _ _ _ _ HM0.out HC.out HB.out) (by decide) _ _ HBB.out
    · have h3b : ((n : Int) == 0) = false := by simp; omega
      have h3c : ¬ (n : Int) = 0 := by omega
      have h3d : (0 : Int) < (n : Int) := by omega
      rcases hs3.at_ with h0 | ⟨g, off, rfl, hlt, hcell⟩
      · omega
      have hc := hcell 0 (by omega)
      rw [Nat.add_zero] at hc
      obtain ⟨x, hx⟩ : ∃ x, x = zs.getD 0 0 := ⟨_, rfl⟩
      rw [← hx] at hc
      have hx2 : ¬ x = 0 ∧ ¬ x = 8 := by
        rw [hx]
        exact ⟨fun h => hB2 ⟨rfl, .inr ⟨by omega, .inl h⟩⟩, fun h => hB2 ⟨rfl, .inr ⟨by omega, .inr h⟩⟩⟩
      have d1 : ((x : Int) != 0) = true := by simp; omega
      have d2 : ((x : Int) != 8) = true := by simp; omega
      clear hcell hx hx2 sP3 sR3 bb3 hs3 o3 hB2 hsl hpr1
      go_wp2
      try simp only [Exit.inBlock, Exit.then]
      refine bodyPost_ret (results_cellE2 rfl _ _ (w.heap.size + 1) 0 [.int .u32 0, .int .u32 0, .int .u8 0, .int .u8 0, .int .u16 0, .bool false, .bool false, .int .i64 0, .slice none 0 0] _ rfl HRG.out Try.underlying26 rfl (by kernel_rfl)) rfl ?_
      exact rf_no _ _ _ _ _ _ _ _ _ _ _ 11 (rfE_3 _ _ _ _ _ _ HM0.out HC.out HB.out) (by decide) _ _ HBB.out
  case true =>
  have HB := (show Hid _ from hB)
  have hBt := of_decide_eq_true hB
  have hof : of = 0 := hBt.1
  clear hB
  subst hof
  have HVE : Hid (V = ipHd sr ds pr tt id (flV dn mo 0) n ++ zs) := by show _ = _; rw [HV.out]; unfold ipV; rw [if_pos HM0.out, hln.out]; rfl
  have hvn : vl = 20 + n := by rw [HVL.out, HVE.out, List.length_append, ipHd_len, hln.out]
  obtain ⟨HD, hHD⟩ : ∃ L, L = ipHd sr ds pr tt id (flV dn mo 0) n := ⟨_, rfl⟩
  rw [← hHD] at HVE
  have hHl : HD.length = 20 := by rw [hHD]; exact ipHd_len _ _ _ _ _ _ _
  have HL0 : Hid (ipHd sr ds pr tt id (flV dn mo (0 : Int).toNat) zs.length ++ zs.take 8 = HD ++ zs.take 8) := by show _ = _; rw [hln.out, hHD]; rfl
  have hsl := hs3.len
  -- what is quoted
  have hq : ∃ k L, L = HD ++ zs.take 8 ∧ k = L.length ∧ Sl w3 a3 k cz L ∧ k ≤ 28 ∧ (if 28 < vl then k = 28 else k = vl) := by
    have s3 := o3.sl (by omega)
    by_cases h28 : 28 < vl
    · refine ⟨28, HD ++ zs.take 8, rfl, by rw [List.length_append, List.length_take, hHl]; omega, ?_, by omega, by rw [if_pos h28]⟩
      have := s3.takeE 28 (by omega) (by omega)
      rw [HVE.out, List.take_append, hHl, List.take_of_length_le (by omega)] at this
      exact this
    · refine ⟨vl, HD ++ zs.take 8, rfl, by rw [List.length_append, List.length_take, hHl]; omega, ?_, by omega, by rw [if_neg h28]⟩
      rw [HVE.out, show zs = zs.take 8 from (List.take_of_length_le (by omega)).symm] at s3
      exact s3
  obtain ⟨k, L, hL, hkL, hsk, hk28, hkk⟩ := hq
  rw [← hL] at HL0
  have HLL : Hid (L.length = k) := hkL.symm
  have hcap := (o3.sl (by omega)).cap
  -- ways through the test
  have hways : (¬ pr = 1) ∨ (pr = 1 ∧ ¬ n = 0 ∧ (zs.getD 0 0 = 0 ∨ zs.getD 0 0 = 8)) := by
    by_cases h : pr = 1
    · rcases hBt.2 with h2 | h2
      · exact absurd h h2
      · exact .inr ⟨h, by omega, h2.2⟩
    · exact .inl h
  clear hL hkL hHl hHD hBt HV HVL HVE o3
  have sPD := sP3.below (show Below w3.heap.size w3 w3.drew from (Below.refl _ _).drew)
  have hskD := hsk.below (show Below w3.heap.size w3 w3.drew from (Below.refl _ _).drew)
  have HSW : Hid (∀ w', Stc w' w.heap.size [.int .u32 (sr : Nat), .int .u32 (ds : Nat), .int .u8 (pr : Nat), .int .u8 (tt : Nat), .int .u16 (id : Nat), .bool dn, .bool mo, .int .i64 0, .slice a n c] → w'.cell? ⟨w.heap.size, 0, none⟩ = some (.int .u32 (sr : Nat)) ∧ w'.cell? ⟨w.heap.size, 1, none⟩ = some (.int .u32 (ds : Nat))) := fun w' p => ⟨p.cell 0 _ rfl, p.cell 1 _ rfl⟩
  have m1 : (cd : Int) % 256 = (cd : Int) := by omega
  have m2 : (mt : Int) % 4294967296 = (mt : Int) := by omega
  have mw1 : IntKind.u8.wrap (cd : Int) = (cd : Int) := by rw [IntKind.wrap_u8]; omega
  have mw2 : IntKind.u32.wrap (mt : Int) = (mt : Int) := by rw [IntKind.wrap_u32]; omega
  rcases hways with h1 | ⟨h1, h2, h3⟩
  · have h1b : ((pr : Int) == 1) = false := by simp; omega
    clear h1
    by_cases h28 : 28 < vl
    · rw [if_pos h28] at hkk
      have hi28 : (28 : Int) < (vl : Int) := by omega
      have hsl2 : ∀ w, (Instr.slice 24 (.slice a3 vl cz) none (some (.int .i64 28)) none).run Try.prog w = .ok (.slice a3 28 cz) w := slice_to a3 vl cz 28 (by omega)
      subst hkk
      clear h28 hvn
      go_wp2_with fail
      go_region_held3 (fun w' => w'.cell? ⟨w.heap.size, 0, none⟩ = some (.int .u32 (sr : Nat)) ∧ w'.cell? ⟨w.heap.size, 1, none⟩ = some (.int .u32 (ds : Nat))) (first | with_reducible exact HSW.out _ sPD | with_reducible exact HSW.out _ sP6 | with_reducible exact HSW.out _ sP9 | fail) (first
        | (go_at_call 6; refine (rputIcmp_any 3 cd mt a3 28 cz L _ (by omega) (by omega) (by omega) hskD (by omega)).mono ?_; rintro e w6 ⟨a9, c9, rfl, o6, b6⟩; have b36 : Below w3.heap.size w3 w6 := (show Below w3.heap.size w3 w3.drew from (Below.refl _ _).drew).trans b6; have sP6 := sP3.below b36; have sR6 := sR3.below b36; have sP9 := (((((((((sP6.other (w.heap.size + 1) 0 (.int .u32 (ds : Nat)) (by omega)).other (w.heap.size + 1) 1 (.int .u32 (sr : Nat)) (by omega)).other (w.heap.size + 1) 2 (.int .u8 1) (by omega)).other (w.heap.size + 1) 3 (.int .u8 64) (by omega)).other (w.heap.size + 1) 4 (.int .u16 0) (by omega)).other (w.heap.size + 1) 5 (.bool false) (by omega)).other (w.heap.size + 1) 6 (.bool false) (by omega)).other (w.heap.size + 1) 7 (.int .i64 0) (by omega)).other (w.heap.size + 1) 8 (.slice a9 (8 + 28) c9) (by omega)); have r0 := sR6.cell 0 _ rfl; have r1 := sR6.cell 1 _ rfl; have r2 := sR6.cell 2 _ rfl; have r3 := sR6.cell 3 _ rfl; have r4 := sR6.cell 4 _ rfl; have r5 := sR6.cell 5 _ rfl; have r6 := sR6.cell 6 _ rfl; have r7 := sR6.cell 7 _ rfl; have r8 := sR6.cell 8 _ rfl; have r0f := sR6.free 0; have r1f := sR6.free 1; have r2f := sR6.free 2; have r3f := sR6.free 3; have r4f := sR6.free 4; have r5f := sR6.free 5; have r6f := sR6.free 6; have r7f := sR6.free 7; have r8f := sR6.free 8)
        | fail)
      all_goals
        have bb6 : Below w.heap.size w w6 := bb3.trans (b36.mono bb3.size)
        have o7 : OwnB w6 (w.heap.size + 2) a9 (8 + 28) c9 (icV 3 cd mt L) := o6.base sR3.lt
        have hR9 := (((((((((sR6.set 0 (.int .u32 (ds : Nat))).set 1 (.int .u32 (sr : Nat))).set 2 (.int .u8 1)).set 3 (.int .u8 64)).set 4 (.int .u16 0)).set 5 (.bool false)).set 6 (.bool false)).set 7 (.int .i64 0)).set 8 (.slice a9 (8 + 28) c9))
        have hb9 := (((((((((bb6.setCell (p := ⟨w.heap.size + 1, 0, none⟩) (by show w.heap.size ≤ w.heap.size + 1; omega) (.int .u32 (ds : Nat))).setCell (p := ⟨w.heap.size + 1, 1, none⟩) (by show w.heap.size ≤ w.heap.size + 1; omega) (.int .u32 (sr : Nat))).setCell (p := ⟨w.heap.size + 1, 2, none⟩) (by show w.heap.size ≤ w.heap.size + 1; omega) (.int .u8 1)).setCell (p := ⟨w.heap.size + 1, 3, none⟩) (by show w.heap.size ≤ w.heap.size + 1; omega) (.int .u8 64)).setCell (p := ⟨w.heap.size + 1, 4, none⟩) (by show w.heap.size ≤ w.heap.size + 1; omega) (.int .u16 0)).setCell (p := ⟨w.heap.size + 1, 5, none⟩) (by show w.heap.size ≤ w.heap.size + 1; omega) (.bool false)).setCell (p := ⟨w.heap.size + 1, 6, none⟩) (by show w.heap.size ≤ w.heap.size + 1; omega) (.bool false)).setCell (p := ⟨w.heap.size + 1, 7, none⟩) (by show w.heap.size ≤ w.heap.size + 1; omega) (.int .i64 0)).setCell (p := ⟨w.heap.size + 1, 8, none⟩) (by show w.heap.size ≤ w.heap.size + 1; omega) (.slice a9 (8 + 28) c9))
        have HOF := (show Hid _ from (((((((((o7.setOther (w.heap.size + 1) 0 (.int .u32 (ds : Nat)) (by omega)).setOther (w.heap.size + 1) 1 (.int .u32 (sr : Nat)) (by omega)).setOther (w.heap.size + 1) 2 (.int .u8 1) (by omega)).setOther (w.heap.size + 1) 3 (.int .u8 64) (by omega)).setOther (w.heap.size + 1) 4 (.int .u16 0) (by omega)).setOther (w.heap.size + 1) 5 (.bool false) (by omega)).setOther (w.heap.size + 1) 6 (.bool false) (by omega)).setOther (w.heap.size + 1) 7 (.int .i64 0) (by omega)).setOther (w.heap.size + 1) 8 (.slice a9 (8 + 28) c9) (by omega)).base (show w.heap.size ≤ w.heap.size + 2 by omega))
        have HRG := (show Hid _ from hR9.range)
        have HBB := (show Hid _ from hb9)
        clear hR9 hb9 sR6 sP6 sP9 bb6 o7 o6 HSW
        go_wp2
        try simp only [Exit.inBlock, Exit.then]
        refine bodyPost_ret (results_cellE2 rfl _ _ (w.heap.size + 1) 0 [.int .u32 (ds : Nat), .int .u32 (sr : Nat), .int .u8 1, .int .u8 64, .int .u16 0, .bool false, .bool false, .int .i64 0, .slice a9 (8 + 28) c9] _ rfl HRG.out Try.underlying26 rfl (by kernel_rfl)) rfl ?_
        exact rf_yes _ _ _ _ _ _ _ _ _ _ _ (rfE_0 _ _ _ _ _ _ HM0.out HC.out HB.out) cd mt 28 L rfl rfl HL0.out HLL.out _ _ _ _ HOF.out HBB.out
    · rw [if_neg h28] at hkk
      have hi28 : ¬ (28 : Int) < (vl : Int) := by omega
      subst hkk
      clear h28 hvn
      go_wp2_with fail
      go_region_held3 (fun w' => w'.cell? ⟨w.heap.size, 0, none⟩ = some (.int .u32 (sr : Nat)) ∧ w'.cell? ⟨w.heap.size, 1, none⟩ = some (.int .u32 (ds : Nat))) (first | with_reducible exact HSW.out _ sPD | with_reducible exact HSW.out _ sP6 | with_reducible exact HSW.out _ sP9 | fail) (first
        | (go_at_call 6; refine (rputIcmp_any 3 cd mt a3 k cz L _ (by omega) (by omega) (by omega) hskD (by omega)).mono ?_; rintro e w6 ⟨a9, c9, rfl, o6, b6⟩; have b36 : Below w3.heap.size w3 w6 := (show Below w3.heap.size w3 w3.drew from (Below.refl _ _).drew).trans b6; have sP6 := sP3.below b36; have sR6 := sR3.below b36; have sP9 := (((((((((sP6.other (w.heap.size + 1) 0 (.int .u32 (ds : Nat)) (by omega)).other (w.heap.size + 1) 1 (.int .u32 (sr : Nat)) (by omega)).other (w.heap.size + 1) 2 (.int .u8 1) (by omega)).other (w.heap.size + 1) 3 (.int .u8 64) (by omega)).other (w.heap.size + 1) 4 (.int .u16 0) (by omega)).other (w.heap.size + 1) 5 (.bool false) (by omega)).other (w.heap.size + 1) 6 (.bool false) (by omega)).other (w.heap.size + 1) 7 (.int .i64 0) (by omega)).other (w.heap.size + 1) 8 (.slice a9 (8 + k) c9) (by omega)); have r0 := sR6.cell 0 _ rfl; have r1 := sR6.cell 1 _ rfl; have r2 := sR6.cell 2 _ rfl; have r3 := sR6.cell 3 _ rfl; have r4 := sR6.cell 4 _ rfl; have r5 := sR6.cell 5 _ rfl; have r6 := sR6.cell 6 _ rfl; have r7 := sR6.cell 7 _ rfl; have r8 := sR6.cell 8 _ rfl; have r0f := sR6.free 0; have r1f := sR6.free 1; have r2f := sR6.free 2; have r3f := sR6.free 3; have r4f := sR6.free 4; have r5f := sR6.free 5; have r6f := sR6.free 6; have r7f := sR6.free 7; have r8f := sR6.free 8)
        | fail)
      all_goals
        have bb6 : Below w.heap.size w w6 := bb3.trans (b36.mono bb3.size)
        have o7 : OwnB w6 (w.heap.size + 2) a9 (8 + k) c9 (icV 3 cd mt L) := o6.base sR3.lt
        have hR9 := (((((((((sR6.set 0 (.int .u32 (ds : Nat))).set 1 (.int .u32 (sr : Nat))).set 2 (.int .u8 1)).set 3 (.int .u8 64)).set 4 (.int .u16 0)).set 5 (.bool false)).set 6 (.bool false)).set 7 (.int .i64 0)).set 8 (.slice a9 (8 + k) c9))
        have hb9 := (((((((((bb6.setCell (p := ⟨w.heap.size + 1, 0, none⟩) (by show w.heap.size ≤ w.heap.size + 1; omega) (.int .u32 (ds : Nat))).setCell (p := ⟨w.heap.size + 1, 1, none⟩) (by show w.heap.size ≤ w.heap.size + 1; omega) (.int .u32 (sr : Nat))).setCell (p := ⟨w.heap.size + 1, 2, none⟩) (by show w.heap.size ≤ w.heap.size + 1; omega) (.int .u8 1)).setCell (p := ⟨w.heap.size + 1, 3, none⟩) (by show w.heap.size ≤ w.heap.size + 1; omega) (.int .u8 64)).setCell (p := ⟨w.heap.size + 1, 4, none⟩) (by show w.heap.size ≤ w.heap.size + 1; omega) (.int .u16 0)).setCell (p := ⟨w.heap.size + 1, 5, none⟩) (by show w.heap.size ≤ w.heap.size + 1; omega) (.bool false)).setCell (p := ⟨w.heap.size + 1, 6, none⟩) (by show w.heap.size ≤ w.heap.size + 1; omega) (.bool false)).setCell (p := ⟨w.heap.size + 1, 7, none⟩) (by show w.heap.size ≤ w.heap.size + 1; omega) (.int .i64 0)).setCell (p := ⟨w.heap.size + 1, 8, none⟩) (by show w.heap.size ≤ w.heap.size + 1; omega) (.slice a9 (8 + k) c9))
        have HOF := (show Hid _ from (((((((((o7.setOther (w.heap.size + 1) 0 (.int .u32 (ds : Nat)) (by omega)).setOther (w.heap.size + 1) 1 (.int .u32 (sr : Nat)) (by omega)).setOther (w.heap.size + 1) 2 (.int .u8 1) (by omega)).setOther (w.heap.size + 1) 3 (.int .u8 64) (by omega)).setOther (w.heap.size + 1) 4 (.int .u16 0) (by omega)).setOther (w.heap.size + 1) 5 (.bool false) (by omega)).setOther (w.heap.size + 1) 6 (.bool false) (by omega)).setOther (w.heap.size + 1) 7 (.int .i64 0) (by omega)).setOther (w.heap.size + 1) 8 (.slice a9 (8 + k) c9) (by omega)).base (show w.heap.size ≤ w.heap.size + 2 by omega))
        have HRG := (show Hid _ from hR9.range)
        have HBB := (show Hid _ from hb9)
        clear hR9 hb9 sR6 sP6 sP9 bb6 o7 o6 HSW
        go_wp2
        try simp only [Exit.inBlock, Exit.then]
        refine bodyPost_ret (results_cellE2 rfl _ _ (w.heap.size + 1) 0 [.int .u32 (ds : Nat), .int .u32 (sr : Nat), .int .u8 1, .int .u8 64, .int .u16 0, .bool false, .bool false, .int .i64 0, .slice a9 (8 + k) c9] _ rfl HRG.out Try.underlying26 rfl (by kernel_rfl)) rfl ?_
        exact rf_yes _ _ _ _ _ _ _ _ _ _ _ (rfE_0 _ _ _ _ _ _ HM0.out HC.out HB.out) cd mt k L rfl rfl HL0.out HLL.out _ _ _ _ HOF.out HBB.out
  · have h1b : ((pr : Int) == 1) = true := by simp; omega
    have h2b : ((n : Int) == 0) = false := by simp; omega
    have h2c : ¬ (n : Int) = 0 := by omega
    have h2d : (0 : Int) < (n : Int) := by omega
    rcases hs3.at_ with h0 | ⟨g, off, rfl, hlt, hcell⟩
    · omega
    have hc := hcell 0 (by omega)
    rw [Nat.add_zero] at hc
    obtain ⟨x, hx⟩ : ∃ x, x = zs.getD 0 0 := ⟨_, rfl⟩
    rw [← hx] at hc h3
    clear hcell hx h1 h2
    rcases h3 with h3 | h3
    · subst h3
      by_cases h28 : 28 < vl
      · rw [if_pos h28] at hkk
        have hi28 : (28 : Int) < (vl : Int) := by omega
        have hsl2 : ∀ w, (Instr.slice 24 (.slice a3 vl cz) none (some (.int .i64 28)) none).run Try.prog w = .ok (.slice a3 28 cz) w := slice_to a3 vl cz 28 (by omega)
        subst hkk
        clear h28 hvn
        go_wp2_with fail
        go_region_held3 (fun w' => w'.cell? ⟨w.heap.size, 0, none⟩ = some (.int .u32 (sr : Nat)) ∧ w'.cell? ⟨w.heap.size, 1, none⟩ = some (.int .u32 (ds : Nat))) (first | with_reducible exact HSW.out _ sPD | with_reducible exact HSW.out _ sP6 | with_reducible exact HSW.out _ sP9 | fail) (first
          | (go_at_call 6; refine (rputIcmp_any 3 cd mt a3 28 cz L _ (by omega) (by omega) (by omega) hskD (by omega)).mono ?_; rintro e w6 ⟨a9, c9, rfl, o6, b6⟩; have b36 : Below w3.heap.size w3 w6 := (show Below w3.heap.size w3 w3.drew from (Below.refl _ _).drew).trans b6; have sP6 := sP3.below b36; have sR6 := sR3.below b36; have sP9 := (((((((((sP6.other (w.heap.size + 1) 0 (.int .u32 (ds : Nat)) (by omega)).other (w.heap.size + 1) 1 (.int .u32 (sr : Nat)) (by omega)).other (w.heap.size + 1) 2 (.int .u8 1) (by omega)).other (w.heap.size + 1) 3 (.int .u8 64) (by omega)).other (w.heap.size + 1) 4 (.int .u16 0) (by omega)).other (w.heap.size + 1) 5 (.bool false) (by omega)).other (w.heap.size + 1) 6 (.bool false) (by omega)).other (w.heap.size + 1) 7 (.int .i64 0) (by omega)).other (w.heap.size + 1) 8 (.slice a9 (8 + 28) c9) (by omega)); have r0 := sR6.cell 0 _ rfl; have r1 := sR6.cell 1 _ rfl; have r2 := sR6.cell 2 _ rfl; have r3 := sR6.cell 3 _ rfl; have r4 := sR6.cell 4 _ rfl; have r5 := sR6.cell 5 _ rfl; have r6 := sR6.cell 6 _ rfl; have r7 := sR6.cell 7 _ rfl; have r8 := sR6.cell 8 _ rfl; have r0f := sR6.free 0; have r1f := sR6.free 1; have r2f := sR6.free 2; have r3f := sR6.free 3; have r4f := sR6.free 4; have r5f := sR6.free 5; have r6f := sR6.free 6; have r7f := sR6.free 7; have r8f := sR6.free 8)
          | fail)
        all_goals
          have bb6 : Below w.heap.size w w6 := bb3.trans (b36.mono bb3.size)
          have o7 : OwnB w6 (w.heap.size + 2) a9 (8 + 28) c9 (icV 3 cd mt L) := o6.base sR3.lt
          have hR9 := (((((((((sR6.set 0 (.int .u32 (ds : Nat))).set 1 (.int .u32 (sr : Nat))).set 2 (.int .u8 1)).set 3 (.int .u8 64)).set 4 (.int .u16 0)).set 5 (.bool false)).set 6 (.bool false)).set 7 (.int .i64 0)).set 8 (.slice a9 (8 + 28) c9))
          have hb9 := (((((((((bb6.setCell (p := ⟨w.heap.size + 1, 0, none⟩) (by show w.heap.size ≤ w.heap.size + 1; omega) (.int .u32 (ds : Nat))).setCell (p := ⟨w.heap.size + 1, 1, none⟩) (by show w.heap.size ≤ w.heap.size + 1; omega) (.int .u32 (sr : Nat))).setCell (p := ⟨w.heap.size + 1, 2, none⟩) (by show w.heap.size ≤ w.heap.size + 1; omega) (.int .u8 1)).setCell (p := ⟨w.heap.size + 1, 3, none⟩) (by show w.heap.size ≤ w.heap.size + 1; omega) (.int .u8 64)).setCell (p := ⟨w.heap.size + 1, 4, none⟩) (by show w.heap.size ≤ w.heap.size + 1; omega) (.int .u16 0)).setCell (p := ⟨w.heap.size + 1, 5, none⟩) (by show w.heap.size ≤ w.heap.size + 1; omega) (.bool false)).setCell (p := ⟨w.heap.size + 1, 6, none⟩) (by show w.heap.size ≤ w.heap.size + 1; omega) (.bool false)).setCell (p := ⟨w.heap.size + 1, 7, none⟩) (by show w.heap.size ≤ w.heap.size + 1; omega) (.int .i64 0)).setCell (p := ⟨w.heap.size + 1, 8, none⟩) (by show w.heap.size ≤ w.heap.size + 1; omega) (.slice a9 (8 + 28) c9))
          have HOF := (show Hid _ from (((((((((o7.setOther (w.heap.size + 1) 0 (.int .u32 (ds : Nat)) (by omega)).setOther (w.heap.size + 1) 1 (.int .u32 (sr : Nat)) (by omega)).setOther (w.heap.size + 1) 2 (.int .u8 1) (by omega)).setOther (w.heap.size + 1) 3 (.int .u8 64) (by omega)).setOther (w.heap.size + 1) 4 (.int .u16 0) (by omega)).setOther (w.heap.size + 1) 5 (.bool false) (by omega)).setOther (w.heap.size + 1) 6 (.bool false) (by omega)).setOther (w.heap.size + 1) 7 (.int .i64 0) (by omega)).setOther (w.heap.size + 1) 8 (.slice a9 (8 + 28) c9) (by omega)).base (show w.heap.size ≤ w.heap.size + 2 by omega))
          have HRG := (show Hid _ from hR9.range)
          have HBB := (show Hid _ from hb9)
          clear hR9 hb9 sR6 sP6 sP9 bb6 o7 o6 HSW
          go_wp2
          try simp only [Exit.inBlock, Exit.then]
          refine bodyPost_ret (results_cellE2 rfl _ _ (w.heap.size + 1) 0 [.int .u32 (ds : Nat), .int .u32 (sr : Nat), .int .u8 1, .int .u8 64, .int .u16 0, .bool false, .bool false, .int .i64 0, .slice a9 (8 + 28) c9] _ rfl HRG.out Try.underlying26 rfl (by kernel_rfl)) rfl ?_
          exact rf_yes _ _ _ _ _ _ _ _ _ _ _ (rfE_0 _ _ _ _ _ _ HM0.out HC.out HB.out) cd mt 28 L rfl rfl HL0.out HLL.out _ _ _ _ HOF.out HBB.out
      · rw [if_neg h28] at hkk
        have hi28 : ¬ (28 : Int) < (vl : Int) := by omega
        subst hkk
        clear h28 hvn
        go_wp2_with fail
        go_region_held3 (fun w' => w'.cell? ⟨w.heap.size, 0, none⟩ = some (.int .u32 (sr : Nat)) ∧ w'.cell? ⟨w.heap.size, 1, none⟩ = some (.int .u32 (ds : Nat))) (first | with_reducible exact HSW.out _ sPD | with_reducible exact HSW.out _ sP6 | with_reducible exact HSW.out _ sP9 | fail) (first
          | (go_at_call 6; refine (rputIcmp_any 3 cd mt a3 k cz L _ (by omega) (by omega) (by omega) hskD (by omega)).mono ?_; rintro e w6 ⟨a9, c9, rfl, o6, b6⟩; have b36 : Below w3.heap.size w3 w6 := (show Below w3.heap.size w3 w3.drew from (Below.refl _ _).drew).trans b6; have sP6 := sP3.below b36; have sR6 := sR3.below b36; have sP9 := (((((((((sP6.other (w.heap.size + 1) 0 (.int .u32 (ds : Nat)) (by omega)).other (w.heap.size + 1) 1 (.int .u32 (sr : Nat)) (by omega)).other (w.heap.size + 1) 2 (.int .u8 1) (by omega)).other (w.heap.size + 1) 3 (.int .u8 64) (by omega)).other (w.heap.size + 1) 4 (.int .u16 0) (by omega)).other (w.heap.size + 1) 5 (.bool false) (by omega)).other (w.heap.size + 1) 6 (.bool false) (by omega)).other (w.heap.size + 1) 7 (.int .i64 0) (by omega)).other (w.heap.size + 1) 8 (.slice a9 (8 + k) c9) (by omega)); have r0 := sR6.cell 0 _ rfl; have r1 := sR6.cell 1 _ rfl; have r2 := sR6.cell 2 _ rfl; have r3 := sR6.cell 3 _ rfl; have r4 := sR6.cell 4 _ rfl; have r5 := sR6.cell 5 _ rfl; have r6 := sR6.cell 6 _ rfl; have r7 := sR6.cell 7 _ rfl; have r8 := sR6.cell 8 _ rfl; have r0f := sR6.free 0; have r1f := sR6.free 1; have r2f := sR6.free 2; have r3f := sR6.free 3; have r4f := sR6.free 4; have r5f := sR6.free 5; have r6f := sR6.free 6; have r7f := sR6.free 7; have r8f := sR6.free 8)
          | fail)
        all_goals
          have bb6 : Below w.heap.size w w6 := bb3.trans (b36.mono bb3.size)
          have o7 : OwnB w6 (w.heap.size + 2) a9 (8 + k) c9 (icV 3 cd mt L) := o6.base sR3.lt
          have hR9 := (((((((((sR6.set 0 (.int .u32 (ds : Nat))).set 1 (.int .u32 (sr : Nat))).set 2 (.int .u8 1)).set 3 (.int .u8 64)).set 4 (.int .u16 0)).set 5 (.bool false)).set 6 (.bool false)).set 7 (.int .i64 0)).set 8 (.slice a9 (8 + k) c9))
          have hb9 := (((((((((bb6.setCell (p := ⟨w.heap.size + 1, 0, none⟩) (by show w.heap.size ≤ w.heap.size + 1; omega) (.int .u32 (ds : Nat))).setCell (p := ⟨w.heap.size + 1, 1, none⟩) (by show w.heap.size ≤ w.heap.size + 1; omega) (.int .u32 (sr : Nat))).setCell (p := ⟨w.heap.size + 1, 2, none⟩) (by show w.heap.size ≤ w.heap.size + 1; omega) (.int .u8 1)).setCell (p := ⟨w.heap.size + 1, 3, none⟩) (by show w.heap.size ≤ w.heap.size + 1; omega) (.int .u8 64)).setCell (p := ⟨w.heap.size + 1, 4, none⟩) (by show w.heap.size ≤ w.heap.size + 1; omega) (.int .u16 0)).setCell (p := ⟨w.heap.size + 1, 5, none⟩) (by show w.heap.size ≤ w.heap.size + 1; omega) (.bool false)).setCell (p := ⟨w.heap.size + 1, 6, none⟩) (by show w.heap.size ≤ w.heap.size + 1; omega) (.bool false)).setCell (p := ⟨w.heap.size + 1, 7, none⟩) (by show w.heap.size ≤ w.heap.size + 1; omega) (.int .i64 0)).setCell (p := ⟨w.heap.size + 1, 8, none⟩) (by show w.heap.size ≤ w.heap.size + 1; omega) (.slice a9 (8 + k) c9))
          have HOF := (show Hid _ from (((((((((o7.setOther (w.heap.size + 1) 0 (.int .u32 (ds : Nat)) (by omega)).setOther (w.heap.size + 1) 1 (.int .u32 (sr : Nat)) (by omega)).setOther (w.heap.size + 1) 2 (.int .u8 1) (by omega)).setOther (w.heap.size + 1) 3 (.int .u8 64) (by omega)).setOther (w.heap.size + 1) 4 (.int .u16 0) (by omega)).setOther (w.heap.size + 1) 5 (.bool false) (by omega)).setOther (w.heap.size + 1) 6 (.bool false) (by omega)).setOther (w.heap.size + 1) 7 (.int .i64 0) (by omega)).setOther (w.heap.size + 1) 8 (.slice a9 (8 + k) c9) (by omega)).base (show w.heap.size ≤ w.heap.size + 2 by omega))
          have HRG := (show Hid _ from hR9.range)
          have HBB := (show Hid _ from hb9)
          clear hR9 hb9 sR6 sP6 sP9 bb6 o7 o6 HSW
          go_wp2
          try simp only [Exit.inBlock, Exit.then]
          refine bodyPost_ret (results_cellE2 rfl _ _ (w.heap.size + 1) 0 [.int .u32 (ds : Nat), .int .u32 (sr : Nat), .int .u8 1, .int .u8 64, .int .u16 0, .bool false, .bool false, .int .i64 0, .slice a9 (8 + k) c9] _ rfl HRG.out Try.underlying26 rfl (by kernel_rfl)) rfl ?_
          exact rf_yes _ _ _ _ _ _ _ _ _ _ _ (rfE_0 _ _ _ _ _ _ HM0.out HC.out HB.out) cd mt k L rfl rfl HL0.out HLL.out _ _ _ _ HOF.out HBB.out
    · subst h3
      by_cases h28 : 28 < vl
      · rw [if_pos h28] at hkk
        have hi28 : (28 : Int) < (vl : Int) := by omega
        have hsl2 : ∀ w, (Instr.slice 24 (.slice a3 vl cz) none (some (.int .i64 28)) none).run Try.prog w = .ok (.slice a3 28 cz) w := slice_to a3 vl cz 28 (by omega)
        subst hkk
        clear h28 hvn
        go_wp2_with fail
        go_region_held3 (fun w' => w'.cell? ⟨w.heap.size, 0, none⟩ = some (.int .u32 (sr : Nat)) ∧ w'.cell? ⟨w.heap.size, 1, none⟩ = some (.int .u32 (ds : Nat))) (first | with_reducible exact HSW.out _ sPD | with_reducible exact HSW.out _ sP6 | with_reducible exact HSW.out _ sP9 | fail) (first
          | (go_at_call 6; refine (rputIcmp_any 3 cd mt a3 28 cz L _ (by omega) (by omega) (by omega) hskD (by omega)).mono ?_; rintro e w6 ⟨a9, c9, rfl, o6, b6⟩; have b36 : Below w3.heap.size w3 w6 := (show Below w3.heap.size w3 w3.drew from (Below.refl _ _).drew).trans b6; have sP6 := sP3.below b36; have sR6 := sR3.below b36; have sP9 := (((((((((sP6.other (w.heap.size + 1) 0 (.int .u32 (ds : Nat)) (by omega)).other (w.heap.size + 1) 1 (.int .u32 (sr : Nat)) (by omega)).other (w.heap.size + 1) 2 (.int .u8 1) (by omega)).other (w.heap.size + 1) 3 (.int .u8 64) (by omega)).other (w.heap.size + 1) 4 (.int .u16 0) (by omega)).other (w.heap.size + 1) 5 (.bool false) (by omega)).other (w.heap.size + 1) 6 (.bool false) (by omega)).other (w.heap.size + 1) 7 (.int .i64 0) (by omega)).other (w.heap.size + 1) 8 (.slice a9 (8 + 28) c9) (by omega)); have r0 := sR6.cell 0 _ rfl; have r1 := sR6.cell 1 _ rfl; have r2 := sR6.cell 2 _ rfl; have r3 := sR6.cell 3 _ rfl; have r4 := sR6.cell 4 _ rfl; have r5 := sR6.cell 5 _ rfl; have r6 := sR6.cell 6 _ rfl; have r7 := sR6.cell 7 _ rfl; have r8 := sR6.cell 8 _ rfl; have r0f := sR6.free 0; have r1f := sR6.free 1; have r2f := sR6.free 2; have r3f := sR6.free 3; have r4f := sR6.free 4; have r5f := sR6.free 5; have r6f := sR6.free 6; have r7f := sR6.free 7; have r8f := sR6.free 8)
          | fail)
        all_goals
          have bb6 : Below w.heap.size w w6 := bb3.trans (b36.mono bb3.size)
          have o7 : OwnB w6 (w.heap.size + 2) a9 (8 + 28) c9 (icV 3 cd mt L) := o6.base sR3.lt
          have hR9 := (((((((((sR6.set 0 (.int .u32 (ds : Nat))).set 1 (.int .u32 (sr : Nat))).set 2 (.int .u8 1)).set 3 (.int .u8 64)).set 4 (.int .u16 0)).set 5 (.bool false)).set 6 (.bool false)).set 7 (.int .i64 0)).set 8 (.slice a9 (8 + 28) c9))
          have hb9 := (((((((((bb6.setCell (p := ⟨w.heap.size + 1, 0, none⟩) (by show w.heap.size ≤ w.heap.size + 1; omega) (.int .u32 (ds : Nat))).setCell (p := ⟨w.heap.size + 1, 1, none⟩) (by show w.heap.size ≤ w.heap.size + 1; omega) (.int .u32 (sr : Nat))).setCell (p := ⟨w.heap.size + 1, 2, none⟩) (by show w.heap.size ≤ w.heap.size + 1; omega) (.int .u8 1)).setCell (p := ⟨w.heap.size + 1, 3, none⟩) (by show w.heap.size ≤ w.heap.size + 1; omega) (.int .u8 64)).setCell (p := ⟨w.heap.size + 1, 4, none⟩) (by show w.heap.size ≤ w.heap.size + 1; omega) (.int .u16 0)).setCell (p := ⟨w.heap.size + 1, 5, none⟩) (by show w.heap.size ≤ w.heap.size + 1; omega) (.bool false)).setCell (p := ⟨w.heap.size + 1, 6, none⟩) (by show w.heap.size ≤ w.heap.size + 1; omega) (.bool false)).setCell (p := ⟨w.heap.size + 1, 7, none⟩) (by show w.heap.size ≤ w.heap.size + 1; omega) (.int .i64 0)).setCell (p := ⟨w.heap.size + 1, 8, none⟩) (by show w.heap.size ≤ w.heap.size + 1; omega) (.slice a9 (8 + 28) c9))
          have HOF := (show Hid _ from (((((((((o7.setOther (w.heap.size + 1) 0 (.int .u32 (ds : Nat)) (by omega)).setOther (w.heap.size + 1) 1 (.int .u32 (sr : Nat)) (by omega)).setOther (w.heap.size + 1) 2 (.int .u8 1) (by omega)).setOther (w.heap.size + 1) 3 (.int .u8 64) (by omega)).setOther (w.heap.size + 1) 4 (.int .u16 0) (by omega)).setOther (w.heap.size + 1) 5 (.bool false) (by omega)).setOther (w.heap.size + 1) 6 (.bool false) (by omega)).setOther (w.heap.size + 1) 7 (.int .i64 0) (by omega)).setOther (w.heap.size + 1) 8 (.slice a9 (8 + 28) c9) (by omega)).base (show w.heap.size ≤ w.heap.size + 2 by omega))
          have HRG := (show Hid _ from hR9.range)
          have HBB := (show Hid _ from hb9)
          clear hR9 hb9 sR6 sP6 sP9 bb6 o7 o6 HSW
          go_wp2
          try simp only [Exit.inBlock, Exit.then]
          refine bodyPost_ret (results_cellE2 rfl _ _ (w.heap.size + 1) 0 [.int .u32 (ds : Nat), .int .u32 (sr : Nat), .int .u8 1, .int .u8 64, .int .u16 0, .bool false, .bool false, .int .i64 0, .slice a9 (8 + 28) c9] _ rfl HRG.out Try.underlying26 rfl (by kernel_rfl)) rfl ?_
          exact rf_yes _ _ _ _ _ _ _ _ _ _ _ (rfE_0 _ _ _ _ _ _ HM0.out HC.out HB.out) cd mt 28 L rfl rfl HL0.out HLL.out _ _ _ _ HOF.out HBB.out
      · rw [if_neg h28] at hkk
        have hi28 : ¬ (28 : Int) < (vl : Int) := by omega
        subst hkk
        clear h28 hvn
        go_wp2_with fail
        go_region_held3 (fun w' => w'.cell? ⟨w.heap.size, 0, none⟩ = some (.int .u32 (sr : Nat)) ∧ w'.cell? ⟨w.heap.size, 1, none⟩ = some (.int .u32 (ds : Nat))) (first | with_reducible exact HSW.out _ sPD | with_reducible exact HSW.out _ sP6 | with_reducible exact HSW.out _ sP9 | fail) (first
          | (go_at_call 6; refine (rputIcmp_any 3 cd mt a3 k cz L _ (by omega) (by omega) (by omega) hskD (by omega)).mono ?_; rintro e w6 ⟨a9, c9, rfl, o6, b6⟩; have b36 : Below w3.heap.size w3 w6 := (show Below w3.heap.size w3 w3.drew from (Below.refl _ _).drew).trans b6; have sP6 := sP3.below b36; have sR6 := sR3.below b36; have sP9 := (((((((((sP6.other (w.heap.size + 1) 0 (.int .u32 (ds : Nat)) (by omega)).other (w.heap.size + 1) 1 (.int .u32 (sr : Nat)) (by omega)).other (w.heap.size + 1) 2 (.int .u8 1) (by omega)).other (w.heap.size + 1) 3 (.int .u8 64) (by omega)).other (w.heap.size + 1) 4 (.int .u16 0) (by omega)).other (w.heap.size + 1) 5 (.bool false) (by omega)).other (w.heap.size + 1) 6 (.bool false) (by omega)).other (w.heap.size + 1) 7 (.int .i64 0) (by omega)).other (w.heap.size + 1) 8 (.slice a9 (8 + k) c9) (by omega)); have r0 := sR6.cell 0 _ rfl; have r1 := sR6.cell 1 _ rfl; have r2 := sR6.cell 2 _ rfl; have r3 := sR6.cell 3 _ rfl; have r4 := sR6.cell 4 _ rfl; have r5 := sR6.cell 5 _ rfl; have r6 := sR6.cell 6 _ rfl; have r7 := sR6.cell 7 _ rfl; have r8 := sR6.cell 8 _ rfl; have r0f := sR6.free 0; have r1f := sR6.free 1; have r2f := sR6.free 2; have r3f := sR6.free 3; have r4f := sR6.free 4; have r5f := sR6.free 5; have r6f := sR6.free 6; have r7f := sR6.free 7; have r8f := sR6.free 8)
          | fail)
        all_goals
          have bb6 : Below w.heap.size w w6 := bb3.trans (b36.mono bb3.size)
          have o7 : OwnB w6 (w.heap.size + 2) a9 (8 + k) c9 (icV 3 cd mt L) := o6.base sR3.lt
          have hR9 := (((((((((sR6.set 0 (.int .u32 (ds : Nat))).set 1 (.int .u32 (sr : Nat))).set 2 (.int .u8 1)).set 3 (.int .u8 64)).set 4 (.int .u16 0)).set 5 (.bool false)).set 6 (.bool false)).set 7 (.int .i64 0)).set 8 (.slice a9 (8 + k) c9))
          have hb9 := (((((((((bb6.setCell (p := ⟨w.heap.size + 1, 0, none⟩) (by show w.heap.size ≤ w.heap.size + 1; omega) (.int .u32 (ds : Nat))).setCell (p := ⟨w.heap.size + 1, 1, none⟩) (by show w.heap.size ≤ w.heap.size + 1; omega) (.int .u32 (sr : Nat))).setCell (p := ⟨w.heap.size + 1, 2, none⟩) (by show w.heap.size ≤ w.heap.size + 1; omega) (.int .u8 1)).setCell (p := ⟨w.heap.size + 1, 3, none⟩) (by show w.heap.size ≤ w.heap.size + 1; omega) (.int .u8 64)).setCell (p := ⟨w.heap.size + 1, 4, none⟩) (by show w.heap.size ≤ w.heap.size + 1; omega) (.int .u16 0)).setCell (p := ⟨w.heap.size + 1, 5, none⟩) (by show w.heap.size ≤ w.heap.size + 1; omega) (.bool false)).setCell (p := ⟨w.heap.size + 1, 6, none⟩) (by show w.heap.size ≤ w.heap.size + 1; omega) (.bool false)).setCell (p := ⟨w.heap.size + 1, 7, none⟩) (by show w.heap.size ≤ w.heap.size + 1; omega) (.int .i64 0)).setCell (p := ⟨w.heap.size + 1, 8, none⟩) (by show w.heap.size ≤ w.heap.size + 1; omega) (.slice a9 (8 + k) c9))
          have HOF := (show Hid _ from (((((((((o7.setOther (w.heap.size + 1) 0 (.int .u32 (ds : Nat)) (by omega)).setOther (w.heap.size + 1) 1 (.int .u32 (sr : Nat)) (by omega)).setOther (w.heap.size + 1) 2 (.int .u8 1) (by omega)).setOther (w.heap.size + 1) 3 (.int .u8 64) (by omega)).setOther (w.heap.size + 1) 4 (.int .u16 0) (by omega)).setOther (w.heap.size + 1) 5 (.bool false) (by omega)).setOther (w.heap.size + 1) 6 (.bool false) (by omega)).setOther (w.heap.size + 1) 7 (.int .i64 0) (by omega)).setOther (w.heap.size + 1) 8 (.slice a9 (8 + k) c9) (by omega)).base (show w.heap.size ≤ w.heap.size + 2 by omega))
          have HRG := (show Hid _ from hR9.range)
          have HBB := (show Hid _ from hb9)
          clear hR9 hb9 sR6 sP6 sP9 bb6 o7 o6 HSW
          go_wp2
          try simp only [Exit.inBlock, Exit.then]
          refine bodyPost_ret (results_cellE2 rfl _ _ (w.heap.size + 1) 0 [.int .u32 (ds : Nat), .int .u32 (sr : Nat), .int .u8 1, .int .u8 64, .int .u16 0, .bool false, .bool false, .int .i64 0, .slice a9 (8 + k) c9] _ rfl HRG.out Try.underlying26 rfl (by kernel_rfl)) rfl ?_
          exact rf_yes _ _ _ _ _ _ _ _ _ _ _ (rfE_0 _ _ _ _ _ _ HM0.out HC.out HB.out) cd mt k L rfl rfl HL0.out HLL.out _ _ _ _ HOF.out HBB.out
end Go.Proofs.Ytplicfknjhjjgaa
