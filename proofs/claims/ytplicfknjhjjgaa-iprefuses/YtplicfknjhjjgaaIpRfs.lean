/- What ip.Refuse answers. -/
import Derived.Test.YtplicfknjhjjgaaIpMbr
import Derived.Deep.RegionHeld3
namespace Go.Proofs.Ytplicfknjhjjgaa
open Go.RowKit
set_option maxRecDepth 100000 in
set_option maxHeartbeats 4000000 in
theorem refuse_any (sr ds pr tt id : Nat) (dn mo : Bool) (of : Int) (a : Option Addr) (n c : Nat) (zs : List Nat) (code mtu : Int) (w : World) (hsr : sr < 4294967296) (hds : ds < 4294967296) (hpr : pr < 256) (htt : tt < 256) (hid : id < 65536) (hs : Sl w a n c zs) (hcw : (Lit.int .i64 code).wf = true) (hmw : (Lit.int .i64 mtu).wf = true) :
    Calls Try.prog 11 #[.agg #[.int .u32 (sr : Nat), .int .u32 (ds : Nat), .int .u8 (pr : Nat), .int .u8 (tt : Nat), .int .u16 (id : Nat), .bool dn, .bool mo, .int .i64 of, .slice a n c], .int .i64 code, .int .i64 mtu] w fun e w' => RfP sr ds pr tt id dn mo of zs code mtu w e w' := by
  have hln : Hid (zs.length = n) := hs.len
  have hsm := hs.small
  obtain ⟨W1, hW1⟩ : ∃ W, W = w.alloc (.cells #[.int .u32 (sr : Nat), .int .u32 (ds : Nat), .int .u8 (pr : Nat), .int .u8 (tt : Nat), .int .u16 (id : Nat), .bool dn, .bool mo, .int .i64 of, .slice a n c] 26) := ⟨_, rfl⟩
  obtain ⟨W2, hW2⟩ : ∃ W, W = W1.alloc (.cells #[.int .u32 0, .int .u32 0, .int .u8 0, .int .u8 0, .int .u16 0, .bool false, .bool false, .int .i64 0, .slice none 0 0] 26) := ⟨_, rfl⟩
  have z1 : W1.heap.size = w.heap.size + 1 := by rw [hW1]; simp
  have b1 : Below w.heap.size w W1 := by rw [hW1]; exact (Below.refl _ _).alloc (Nat.le_refl _) _
  have b2 : Below W1.heap.size W1 W2 := by rw [hW2]; exact (Below.refl _ _).alloc (Nat.le_refl _) _
  have sP := (Stc.new w [.int .u32 (sr : Nat), .int .u32 (ds : Nat), .int .u8 (pr : Nat), .int .u8 (tt : Nat), .int .u16 (id : Nat), .bool dn, .bool mo, .int .i64 of, .slice a n c] 26 W1 hW1).below b2
  have sR := Stc.new W1 [.int .u32 0, .int .u32 0, .int .u8 0, .int .u8 0, .int .u16 0, .bool false, .bool false, .int .i64 0, .slice none 0 0] 26 W2 hW2
  rw [z1] at sR
  have b02 : Below w.heap.size w W2 := b1.trans (b2.mono b1.size)
  have hs2 := hs.below b02
  clear b1 b2 z1
  have p0 := sP.cell 0 _ rfl
  have p1 := sP.cell 1 _ rfl
  have p2 := sP.cell 2 _ rfl
  have p3 := sP.cell 3 _ rfl
  have p4 := sP.cell 4 _ rfl
  have p5 := sP.cell 5 _ rfl
  have p6 := sP.cell 6 _ rfl
  have p7 := sP.cell 7 _ rfl
  have p8 := sP.cell 8 _ rfl
  have hmb := mayBe_any sr ds pr tt id dn mo of a n c W2 (by omega)
  go_enter Try.func11, Try.ntmps11
  go_wp2_with fail
  rw [← hW1, ← hW2]
  clear hW1 hW2 p0 p1 p2 p3 p4 p5 p6 p7 p8
  refine hmb.mono ?_
  rintro e w3 ⟨rfl, b3⟩
  have sP3 := sP.below b3
  have sR3 := sR.below b3
  have bb3 : Below w.heap.size w w3 := b02.trans (b3.mono b02.size)
  have hs3 := hs2.below b3
  obtain ⟨M, hM⟩ : ∃ M, M = mbE mo of n := ⟨_, rfl⟩
  rw [← hM]
  have HM : Hid (mbE mo of zs.length = M) := by show _ = _; rw [hM, hln.out]
  have HOK : Hid (M = 0 → n ≤ 65515) := fun h => by have := mbE_ok (hM.symm.trans h); omega
  clear hM sP sR b02 hs2 b3 hmb hsm
  by_cases hE : M = 0
  case neg =>
    have hEb : ((M : Int) != 0) = true := by simp; omega
    have r0 := sR3.cell 0 _ rfl
    have r1 := sR3.cell 1 _ rfl
    have r2 := sR3.cell 2 _ rfl
    have r3 := sR3.cell 3 _ rfl
    have r4 := sR3.cell 4 _ rfl
    have r5 := sR3.cell 5 _ rfl
    have r6 := sR3.cell 6 _ rfl
    have r7 := sR3.cell 7 _ rfl
    have r8 := sR3.cell 8 _ rfl
    have r0f := sR3.free 0
    have r1f := sR3.free 1
    have r2f := sR3.free 2
    have r3f := sR3.free 3
    have r4f := sR3.free 4
    have r5f := sR3.free 5
    have r6f := sR3.free 6
    have r7f := sR3.free 7
    have r8f := sR3.free 8
    have hR9 := (((((((((sR3.set 0 (.int .u32 0)).set 1 (.int .u32 0)).set 2 (.int .u8 0)).set 3 (.int .u8 0)).set 4 (.int .u16 0)).set 5 (.bool false)).set 6 (.bool false)).set 7 (.int .i64 0)).set 8 (.slice none 0 0))
    have hb9 := (((((((((bb3.setCell (p := ⟨w.heap.size + 1, 0, none⟩) (by show w.heap.size ≤ w.heap.size + 1; omega) (.int .u32 0)).setCell (p := ⟨w.heap.size + 1, 1, none⟩) (by show w.heap.size ≤ w.heap.size + 1; omega) (.int .u32 0)).setCell (p := ⟨w.heap.size + 1, 2, none⟩) (by show w.heap.size ≤ w.heap.size + 1; omega) (.int .u8 0)).setCell (p := ⟨w.heap.size + 1, 3, none⟩) (by show w.heap.size ≤ w.heap.size + 1; omega) (.int .u8 0)).setCell (p := ⟨w.heap.size + 1, 4, none⟩) (by show w.heap.size ≤ w.heap.size + 1; omega) (.int .u16 0)).setCell (p := ⟨w.heap.size + 1, 5, none⟩) (by show w.heap.size ≤ w.heap.size + 1; omega) (.bool false)).setCell (p := ⟨w.heap.size + 1, 6, none⟩) (by show w.heap.size ≤ w.heap.size + 1; omega) (.bool false)).setCell (p := ⟨w.heap.size + 1, 7, none⟩) (by show w.heap.size ≤ w.heap.size + 1; omega) (.int .i64 0)).setCell (p := ⟨w.heap.size + 1, 8, none⟩) (by show w.heap.size ≤ w.heap.size + 1; omega) (.slice none 0 0))
    have HRG := (show Hid _ from hR9.range)
    have HBB := (show Hid _ from hb9)
    clear hR9 hb9
    clear sP3 sR3 bb3 hs3
    go_wp2
    try simp only [Exit.inBlock, Exit.then]
    refine bodyPost_ret (results_cellE2 rfl _ _ (w.heap.size + 1) 0 [.int .u32 0, .int .u32 0, .int .u8 0, .int .u8 0, .int .u16 0, .bool false, .bool false, .int .i64 0, .slice none 0 0] _ rfl HRG.out Try.underlying26 rfl (by kernel_rfl)) rfl ?_
    exact rf_no _ _ _ _ _ _ _ _ _ _ _ M (rfE_1 _ _ _ _ _ _ M HM.out hE) hE _ _ HBB.out
  case pos =>
  have hn6 := HOK.out hE
  have hEb : ((M : Int) != 0) = false := by simp; omega
  have HM0 : Hid (mbE mo of zs.length = 0) := by show _ = _; rw [HM.out, hE]
  clear hE HOK HM
  by_cases hC : code < 0 ∨ 15 < code ∨ mtu < 0 ∨ 65535 < mtu
  case pos =>
    have HC : Hid (code < 0 ∨ 15 < code ∨ mtu < 0 ∨ 65535 < mtu) := hC
    have r0 := sR3.cell 0 _ rfl
    have r1 := sR3.cell 1 _ rfl
    have r2 := sR3.cell 2 _ rfl
    have r3 := sR3.cell 3 _ rfl
    have r4 := sR3.cell 4 _ rfl
    have r5 := sR3.cell 5 _ rfl
    have r6 := sR3.cell 6 _ rfl
    have r7 := sR3.cell 7 _ rfl
    have r8 := sR3.cell 8 _ rfl
    have r0f := sR3.free 0
    have r1f := sR3.free 1
    have r2f := sR3.free 2
    have r3f := sR3.free 3
    have r4f := sR3.free 4
    have r5f := sR3.free 5
    have r6f := sR3.free 6
    have r7f := sR3.free 7
    have r8f := sR3.free 8
    have hR9 := (((((((((sR3.set 0 (.int .u32 0)).set 1 (.int .u32 0)).set 2 (.int .u8 0)).set 3 (.int .u8 0)).set 4 (.int .u16 0)).set 5 (.bool false)).set 6 (.bool false)).set 7 (.int .i64 0)).set 8 (.slice none 0 0))
    have hb9 := (((((((((bb3.setCell (p := ⟨w.heap.size + 1, 0, none⟩) (by show w.heap.size ≤ w.heap.size + 1; omega) (.int .u32 0)).setCell (p := ⟨w.heap.size + 1, 1, none⟩) (by show w.heap.size ≤ w.heap.size + 1; omega) (.int .u32 0)).setCell (p := ⟨w.heap.size + 1, 2, none⟩) (by show w.heap.size ≤ w.heap.size + 1; omega) (.int .u8 0)).setCell (p := ⟨w.heap.size + 1, 3, none⟩) (by show w.heap.size ≤ w.heap.size + 1; omega) (.int .u8 0)).setCell (p := ⟨w.heap.size + 1, 4, none⟩) (by show w.heap.size ≤ w.heap.size + 1; omega) (.int .u16 0)).setCell (p := ⟨w.heap.size + 1, 5, none⟩) (by show w.heap.size ≤ w.heap.size + 1; omega) (.bool false)).setCell (p := ⟨w.heap.size + 1, 6, none⟩) (by show w.heap.size ≤ w.heap.size + 1; omega) (.bool false)).setCell (p := ⟨w.heap.size + 1, 7, none⟩) (by show w.heap.size ≤ w.heap.size + 1; omega) (.int .i64 0)).setCell (p := ⟨w.heap.size + 1, 8, none⟩) (by show w.heap.size ≤ w.heap.size + 1; omega) (.slice none 0 0))
    have HRG := (show Hid _ from hR9.range)
    have HBB := (show Hid _ from hb9)
    clear hR9 hb9
    clear sP3 sR3 bb3 hs3
    rcases (show code < 0 ∨ (¬ code < 0 ∧ 15 < code) ∨ (¬ code < 0 ∧ ¬ 15 < code ∧ mtu < 0) ∨ (¬ code < 0 ∧ ¬ 15 < code ∧ ¬ mtu < 0 ∧ 65535 < mtu) by omega) with c1 | ⟨c1, c2⟩ | ⟨c1, c2, c3⟩ | ⟨c1, c2, c3, c4⟩
    all_goals
      clear hC
      go_wp2
      try simp only [Exit.inBlock, Exit.then]
      refine bodyPost_ret (results_cellE2 rfl _ _ (w.heap.size + 1) 0 [.int .u32 0, .int .u32 0, .int .u8 0, .int .u8 0, .int .u16 0, .bool false, .bool false, .int .i64 0, .slice none 0 0] _ rfl HRG.out Try.underlying26 rfl (by kernel_rfl)) rfl ?_
      exact rf_no _ _ _ _ _ _ _ _ _ _ _ 2 (rfE_2 _ _ _ _ _ _ HM0.out HC.out) (by decide) _ _ HBB.out
  case neg =>
  have HC : Hid (¬ (code < 0 ∨ 15 < code ∨ mtu < 0 ∨ 65535 < mtu)) := hC
  obtain ⟨cd, rfl⟩ : ∃ cd : Nat, code = (cd : Int) := ⟨code.toNat, by omega⟩
  obtain ⟨mt, rfl⟩ : ∃ mt : Nat, mtu = (mt : Int) := ⟨mtu.toNat, by omega⟩
  have c1 : ¬ (cd : Int) < 0 := by omega
  have c2 : ¬ (15 : Int) < (cd : Int) := by omega
  have c3 : ¬ (mt : Int) < 0 := by omega
  have c4 : ¬ (65535 : Int) < (mt : Int) := by omega
  clear hC hcw hmw
  have p0 := sP3.cell 0 _ rfl
  have p1 := sP3.cell 1 _ rfl
  have p2 := sP3.cell 2 _ rfl
  have p3 := sP3.cell 3 _ rfl
  have p4 := sP3.cell 4 _ rfl
  have p5 := sP3.cell 5 _ rfl
  have p6 := sP3.cell 6 _ rfl
  have p7 := sP3.cell 7 _ rfl
  have p8 := sP3.cell 8 _ rfl
  go_wp2_with fail
  refine (mbr_any sr ds pr tt id dn mo of a n c zs w3 hs3).mono ?_
  rintro e w4 ⟨rfl, b4⟩
  have sP4 := sP3.below b4
  have sR4 := sR3.below b4
  have bb4 : Below w.heap.size w w4 := bb3.trans (b4.mono bb3.size)
  have hs4 := hs3.below b4
  clear p0 p1 p2 p3 p4 p5 p6 p7 p8 sP3 sR3 bb3 hs3 b4
  cases hB : mbr pr of zs
  case false =>
    have HB := (show Hid _ from hB)
    clear hB
    have r0 := sR4.cell 0 _ rfl
    have r1 := sR4.cell 1 _ rfl
    have r2 := sR4.cell 2 _ rfl
    have r3 := sR4.cell 3 _ rfl
    have r4 := sR4.cell 4 _ rfl
    have r5 := sR4.cell 5 _ rfl
    have r6 := sR4.cell 6 _ rfl
    have r7 := sR4.cell 7 _ rfl
    have r8 := sR4.cell 8 _ rfl
    have r0f := sR4.free 0
    have r1f := sR4.free 1
    have r2f := sR4.free 2
    have r3f := sR4.free 3
    have r4f := sR4.free 4
    have r5f := sR4.free 5
    have r6f := sR4.free 6
    have r7f := sR4.free 7
    have r8f := sR4.free 8
    have hR9 := (((((((((sR4.set 0 (.int .u32 0)).set 1 (.int .u32 0)).set 2 (.int .u8 0)).set 3 (.int .u8 0)).set 4 (.int .u16 0)).set 5 (.bool false)).set 6 (.bool false)).set 7 (.int .i64 0)).set 8 (.slice none 0 0))
    have hb9 := (((((((((bb4.setCell (p := ⟨w.heap.size + 1, 0, none⟩) (by show w.heap.size ≤ w.heap.size + 1; omega) (.int .u32 0)).setCell (p := ⟨w.heap.size + 1, 1, none⟩) (by show w.heap.size ≤ w.heap.size + 1; omega) (.int .u32 0)).setCell (p := ⟨w.heap.size + 1, 2, none⟩) (by show w.heap.size ≤ w.heap.size + 1; omega) (.int .u8 0)).setCell (p := ⟨w.heap.size + 1, 3, none⟩) (by show w.heap.size ≤ w.heap.size + 1; omega) (.int .u8 0)).setCell (p := ⟨w.heap.size + 1, 4, none⟩) (by show w.heap.size ≤ w.heap.size + 1; omega) (.int .u16 0)).setCell (p := ⟨w.heap.size + 1, 5, none⟩) (by show w.heap.size ≤ w.heap.size + 1; omega) (.bool false)).setCell (p := ⟨w.heap.size + 1, 6, none⟩) (by show w.heap.size ≤ w.heap.size + 1; omega) (.bool false)).setCell (p := ⟨w.heap.size + 1, 7, none⟩) (by show w.heap.size ≤ w.heap.size + 1; omega) (.int .i64 0)).setCell (p := ⟨w.heap.size + 1, 8, none⟩) (by show w.heap.size ≤ w.heap.size + 1; omega) (.slice none 0 0))
    have HRG := (show Hid _ from hR9.range)
    have HBB := (show Hid _ from hb9)
    clear hR9 hb9
    clear sP4 sR4 bb4 hs4
    go_wp2
    try simp only [Exit.inBlock, Exit.then]
    refine bodyPost_ret (results_cellE2 rfl _ _ (w.heap.size + 1) 0 [.int .u32 0, .int .u32 0, .int .u8 0, .int .u8 0, .int .u16 0, .bool false, .bool false, .int .i64 0, .slice none 0 0] _ rfl HRG.out Try.underlying26 rfl (by kernel_rfl)) rfl ?_
    exact rf_no _ _ _ _ _ _ _ _ _ _ _ 11 (rfE_3 _ _ _ _ _ _ HM0.out HC.out HB.out) (by decide) _ _ HBB.out
  case true =>
  have HB := (show Hid _ from hB)
  have hof : of = 0 := (of_decide_eq_true hB).1
  clear hB
  subst hof
  have hhd : ∀ W, Calls Try.prog 26 #[.agg #[.int .u32 (sr : Nat), .int .u32 (ds : Nat), .int .u8 (pr : Nat), .int .u8 (tt : Nat), .int .u16 (id : Nat), .bool dn, .bool mo, .int .i64 0, .slice a n c]] W fun e w' => ∃ a' c', e = .returned (.slice a' 20 c') ∧ OwnB w' W.heap.size a' 20 c' (ipHd sr ds pr tt id (flV dn mo 0) n) ∧ Below W.heap.size W w' := fun W => head_any sr ds pr tt id dn mo 0 a n c W hsr hds hpr htt hid (by omega) hn6
  obtain ⟨k, hk⟩ : ∃ k, k = min 8 n := ⟨_, rfl⟩
  have hkn : k ≤ n := by omega
  have hk8 : k ≤ 8 := by omega
  have HK : Hid (zs.take 8 = zs.take k) := by
    show _ = _
    by_cases h8 : n < 8
    · rw [hk, Nat.min_eq_right (by omega), List.take_of_length_le (by rw [hln.out]; omega), List.take_of_length_le (by rw [hln.out]; exact Nat.le_refl _)]
    · rw [hk, Nat.min_eq_left (by omega)]
  have hcap := hs4.cap
  have hsl := slice_to a n c k (by omega)
  have hsk := hs4.takeE k hkn (by omega)
  have hkl := hsk.len
  obtain ⟨HD, hHD⟩ : ∃ L, L = ipHd sr ds pr tt id (flV dn mo 0) n := ⟨_, rfl⟩
  rw [← hHD] at hhd
  obtain ⟨TK, hTK⟩ : ∃ L, L = zs.take k := ⟨_, rfl⟩
  rw [← hTK] at hsk hkl HK
  have HL : Hid (ipHd sr ds pr tt id (flV dn mo (0 : Int).toNat) zs.length ++ zs.take 8 = HD ++ TK) := by show _ = _; rw [HK.out, hln.out, hHD]; rfl
  have HLL : Hid ((HD ++ TK).length = 20 + k) := by show _ = _; rw [List.length_append, hkl, hHD, ipHd_len]
  clear hTK hHD hs4 hkl
  have hlP := sP4.lt
  have HSW : Hid (∀ w', Below w4.heap.size w4 w' → w'.cell? ⟨w.heap.size, 0, none⟩ = some (.int .u32 (sr : Nat)) ∧ w'.cell? ⟨w.heap.size, 1, none⟩ = some (.int .u32 (ds : Nat)) ∧ w'.cell? ⟨w.heap.size, 2, none⟩ = some (.int .u8 (pr : Nat)) ∧ w'.cell? ⟨w.heap.size, 3, none⟩ = some (.int .u8 (tt : Nat)) ∧ w'.cell? ⟨w.heap.size, 4, none⟩ = some (.int .u16 (id : Nat)) ∧ w'.cell? ⟨w.heap.size, 5, none⟩ = some (.bool dn) ∧ w'.cell? ⟨w.heap.size, 6, none⟩ = some (.bool mo) ∧ w'.cell? ⟨w.heap.size, 7, none⟩ = some (.int .i64 0) ∧ w'.cell? ⟨w.heap.size, 8, none⟩ = some (.slice a n c)) := fun w' hb => by
    have p := sP4.below hb
    exact ⟨p.cell 0 _ rfl, p.cell 1 _ rfl, p.cell 2 _ rfl, p.cell 3 _ rfl, p.cell 4 _ rfl, p.cell 5 _ rfl, p.cell 6 _ rfl, p.cell 7 _ rfl, p.cell 8 _ rfl⟩
  have bD : Below w4.heap.size w4 w4.drew := (Below.refl _ _).drew
  have HMIN : Hid ((n < 8 ∧ k = n) ∨ (¬ n < 8 ∧ k = 8)) := by show _ ∨ _; omega
  clear hk
  go_wp2_with fail
  rcases HMIN.out with ⟨h8, hkk⟩ | ⟨h8, hkk⟩
  · have hmi : (n : Int) < 8 := by omega
    have hkk' := hkk.symm
    subst hkk'
    clear HMIN h8 hkk
    have hsl2 : ∀ w, (Instr.slice 24 (.slice a n c) none (some (.int .i64 (n : Int))) none).run Try.prog w = .ok (.slice a n c) w := hsl
    clear hsl
    go_region_held3 (fun w' => w'.cell? ⟨w.heap.size, 0, none⟩ = some (.int .u32 (sr : Nat)) ∧ w'.cell? ⟨w.heap.size, 1, none⟩ = some (.int .u32 (ds : Nat)) ∧ w'.cell? ⟨w.heap.size, 2, none⟩ = some (.int .u8 (pr : Nat)) ∧ w'.cell? ⟨w.heap.size, 3, none⟩ = some (.int .u8 (tt : Nat)) ∧ w'.cell? ⟨w.heap.size, 4, none⟩ = some (.int .u16 (id : Nat)) ∧ w'.cell? ⟨w.heap.size, 5, none⟩ = some (.bool dn) ∧ w'.cell? ⟨w.heap.size, 6, none⟩ = some (.bool mo) ∧ w'.cell? ⟨w.heap.size, 7, none⟩ = some (.int .i64 0) ∧ w'.cell? ⟨w.heap.size, 8, none⟩ = some (.slice a n c)) (first | with_reducible exact HSW.out _ bD | with_reducible exact HSW.out _ b5 | with_reducible exact HSW.out _ b6 | fail) (first
      | (go_at_call 26; refine (hhd _).mono ?_; rintro e w5 ⟨a5, c5, rfl, o5, b5'⟩; have b5 : Below w4.heap.size w4 w5 := bD.trans b5'; have o5' : OwnB w5 w4.heap.size a5 20 c5 HD := o5; have hsk5 := hsk.below b5)
      | (refine app_step2 (by rfl) _ _ (by rfl) w4.heap.size _ 20 c5 HD (by rfl) (by with_reducible exact o5') _ n c TK (by rfl) (by with_reducible exact hsk5) (by omega) b5.size ?_; intro a6 c6 w6 o6 g6 p6; have b6 : Below w4.heap.size w4 w6 := b5.trans (o5'.up g6 b5.size))
      | fail)
    all_goals
      have sP6 := sP4.below b6
      have sR6 := sR4.below b6
      have bb6 : Below w.heap.size w w6 := bb4.trans (b6.mono bb4.size)
      have hs6 := o6.sl (by omega)
      have hbk := back_any sr ds pr tt id dn mo 0 a n c 3 cd mt a6 (20 + n) c6 (HD ++ TK) w6 (by omega) (by omega) (by omega) hs6 (by omega)
      have m1 : (cd : Int) % 256 = (cd : Int) := by omega
      have m2 : (mt : Int) % 4294967296 = (mt : Int) := by omega
      have p0 := sP6.cell 0 _ rfl
      have p1 := sP6.cell 1 _ rfl
      have p2 := sP6.cell 2 _ rfl
      have p3 := sP6.cell 3 _ rfl
      have p4 := sP6.cell 4 _ rfl
      have p5 := sP6.cell 5 _ rfl
      have p6 := sP6.cell 6 _ rfl
      have p7 := sP6.cell 7 _ rfl
      have p8 := sP6.cell 8 _ rfl
      clear sP4 sR4 bb4 b5 b6 o5 o5' hsk5 g6 p6 b5' bD HSW hhd
      go_wp2_with fail
      refine hbk.mono ?_
      rintro e w7 ⟨a9, c9, rfl, o9, b9⟩
      have sR7 := sR6.below b9
      have bb7 : Below w.heap.size w w7 := bb6.trans (b9.mono bb6.size)
      have o7 : OwnB w7 (w.heap.size + 2) a9 (8 + (20 + n)) c9 (icV 3 cd mt (HD ++ TK)) := o9.base sR6.lt
      have r0 := sR7.cell 0 _ rfl
      have r1 := sR7.cell 1 _ rfl
      have r2 := sR7.cell 2 _ rfl
      have r3 := sR7.cell 3 _ rfl
      have r4 := sR7.cell 4 _ rfl
      have r5 := sR7.cell 5 _ rfl
      have r6 := sR7.cell 6 _ rfl
      have r7 := sR7.cell 7 _ rfl
      have r8 := sR7.cell 8 _ rfl
      have r0f := sR7.free 0
      have r1f := sR7.free 1
      have r2f := sR7.free 2
      have r3f := sR7.free 3
      have r4f := sR7.free 4
      have r5f := sR7.free 5
      have r6f := sR7.free 6
      have r7f := sR7.free 7
      have r8f := sR7.free 8
      have hR9 := (((((((((sR7.set 0 (.int .u32 (ds : Nat))).set 1 (.int .u32 (sr : Nat))).set 2 (.int .u8 1)).set 3 (.int .u8 64)).set 4 (.int .u16 0)).set 5 (.bool false)).set 6 (.bool false)).set 7 (.int .i64 0)).set 8 (.slice a9 (8 + (20 + n)) c9))
      have hb9 := (((((((((bb7.setCell (p := ⟨w.heap.size + 1, 0, none⟩) (by show w.heap.size ≤ w.heap.size + 1; omega) (.int .u32 (ds : Nat))).setCell (p := ⟨w.heap.size + 1, 1, none⟩) (by show w.heap.size ≤ w.heap.size + 1; omega) (.int .u32 (sr : Nat))).setCell (p := ⟨w.heap.size + 1, 2, none⟩) (by show w.heap.size ≤ w.heap.size + 1; omega) (.int .u8 1)).setCell (p := ⟨w.heap.size + 1, 3, none⟩) (by show w.heap.size ≤ w.heap.size + 1; omega) (.int .u8 64)).setCell (p := ⟨w.heap.size + 1, 4, none⟩) (by show w.heap.size ≤ w.heap.size + 1; omega) (.int .u16 0)).setCell (p := ⟨w.heap.size + 1, 5, none⟩) (by show w.heap.size ≤ w.heap.size + 1; omega) (.bool false)).setCell (p := ⟨w.heap.size + 1, 6, none⟩) (by show w.heap.size ≤ w.heap.size + 1; omega) (.bool false)).setCell (p := ⟨w.heap.size + 1, 7, none⟩) (by show w.heap.size ≤ w.heap.size + 1; omega) (.int .i64 0)).setCell (p := ⟨w.heap.size + 1, 8, none⟩) (by show w.heap.size ≤ w.heap.size + 1; omega) (.slice a9 (8 + (20 + n)) c9))
      have HOF := (show Hid _ from (((((((((o7.setOther (w.heap.size + 1) 0 (.int .u32 (ds : Nat)) (by omega)).setOther (w.heap.size + 1) 1 (.int .u32 (sr : Nat)) (by omega)).setOther (w.heap.size + 1) 2 (.int .u8 1) (by omega)).setOther (w.heap.size + 1) 3 (.int .u8 64) (by omega)).setOther (w.heap.size + 1) 4 (.int .u16 0) (by omega)).setOther (w.heap.size + 1) 5 (.bool false) (by omega)).setOther (w.heap.size + 1) 6 (.bool false) (by omega)).setOther (w.heap.size + 1) 7 (.int .i64 0) (by omega)).setOther (w.heap.size + 1) 8 (.slice a9 (8 + (20 + n)) c9) (by omega)).base (show w.heap.size ≤ w.heap.size + 2 by omega))
      have HRG := (show Hid _ from hR9.range)
      have HBB := (show Hid _ from hb9)
      clear hR9 hb9 sR7 sR6 sP6 bb6 bb7 o7 o9 b9 p0 p1 p2 p3 p4 p5 p6 p7 p8 hbk hs6 o6
      go_wp2
      try simp only [Exit.inBlock, Exit.then]
      refine bodyPost_ret (results_cellE2 rfl _ _ (w.heap.size + 1) 0 [.int .u32 (ds : Nat), .int .u32 (sr : Nat), .int .u8 1, .int .u8 64, .int .u16 0, .bool false, .bool false, .int .i64 0, .slice a9 (8 + (20 + n)) c9] _ rfl HRG.out Try.underlying26 rfl (by kernel_rfl)) rfl ?_
      exact rf_yes _ _ _ _ _ _ _ _ _ _ _ (rfE_0 _ _ _ _ _ _ HM0.out HC.out HB.out) cd mt (20 + n) (HD ++ TK) rfl rfl HL.out HLL.out _ _ _ _ HOF.out HBB.out
  · have hmi : ¬ (n : Int) < 8 := by omega
    subst hkk
    have hif : (if (n : Int) < 8 then (n : Int) else 8) = 8 := if_neg hmi
    clear HMIN h8
    have hsl2 : ∀ w, (Instr.slice 24 (.slice a n c) none (some (.int .i64 8)) none).run Try.prog w = .ok (.slice a 8 c) w := hsl
    clear hsl
    go_region_held3 (fun w' => w'.cell? ⟨w.heap.size, 0, none⟩ = some (.int .u32 (sr : Nat)) ∧ w'.cell? ⟨w.heap.size, 1, none⟩ = some (.int .u32 (ds : Nat)) ∧ w'.cell? ⟨w.heap.size, 2, none⟩ = some (.int .u8 (pr : Nat)) ∧ w'.cell? ⟨w.heap.size, 3, none⟩ = some (.int .u8 (tt : Nat)) ∧ w'.cell? ⟨w.heap.size, 4, none⟩ = some (.int .u16 (id : Nat)) ∧ w'.cell? ⟨w.heap.size, 5, none⟩ = some (.bool dn) ∧ w'.cell? ⟨w.heap.size, 6, none⟩ = some (.bool mo) ∧ w'.cell? ⟨w.heap.size, 7, none⟩ = some (.int .i64 0) ∧ w'.cell? ⟨w.heap.size, 8, none⟩ = some (.slice a n c)) (first | with_reducible exact HSW.out _ bD | with_reducible exact HSW.out _ b5 | with_reducible exact HSW.out _ b6 | fail) (first
      | (go_at_call 26; refine (hhd _).mono ?_; rintro e w5 ⟨a5, c5, rfl, o5, b5'⟩; have b5 : Below w4.heap.size w4 w5 := bD.trans b5'; have o5' : OwnB w5 w4.heap.size a5 20 c5 HD := o5; have hsk5 := hsk.below b5)
      | (refine app_step2 (by rfl) _ _ (by rfl) w4.heap.size _ 20 c5 HD (by rfl) (by with_reducible exact o5') _ 8 c TK (by rfl) (by with_reducible exact hsk5) (by omega) b5.size ?_; intro a6 c6 w6 o6 g6 p6; have b6 : Below w4.heap.size w4 w6 := b5.trans (o5'.up g6 b5.size))
      | fail)
    all_goals
      have sP6 := sP4.below b6
      have sR6 := sR4.below b6
      have bb6 : Below w.heap.size w w6 := bb4.trans (b6.mono bb4.size)
      have hs6 := o6.sl (by omega)
      have hbk := back_any sr ds pr tt id dn mo 0 a n c 3 cd mt a6 (20 + 8) c6 (HD ++ TK) w6 (by omega) (by omega) (by omega) hs6 (by omega)
      have m1 : (cd : Int) % 256 = (cd : Int) := by omega
      have m2 : (mt : Int) % 4294967296 = (mt : Int) := by omega
      have p0 := sP6.cell 0 _ rfl
      have p1 := sP6.cell 1 _ rfl
      have p2 := sP6.cell 2 _ rfl
      have p3 := sP6.cell 3 _ rfl
      have p4 := sP6.cell 4 _ rfl
      have p5 := sP6.cell 5 _ rfl
      have p6 := sP6.cell 6 _ rfl
      have p7 := sP6.cell 7 _ rfl
      have p8 := sP6.cell 8 _ rfl
      clear sP4 sR4 bb4 b5 b6 o5 o5' hsk5 g6 p6 b5' bD HSW hhd
      go_wp2_with fail
      refine hbk.mono ?_
      rintro e w7 ⟨a9, c9, rfl, o9, b9⟩
      have sR7 := sR6.below b9
      have bb7 : Below w.heap.size w w7 := bb6.trans (b9.mono bb6.size)
      have o7 : OwnB w7 (w.heap.size + 2) a9 (8 + (20 + 8)) c9 (icV 3 cd mt (HD ++ TK)) := o9.base sR6.lt
      have r0 := sR7.cell 0 _ rfl
      have r1 := sR7.cell 1 _ rfl
      have r2 := sR7.cell 2 _ rfl
      have r3 := sR7.cell 3 _ rfl
      have r4 := sR7.cell 4 _ rfl
      have r5 := sR7.cell 5 _ rfl
      have r6 := sR7.cell 6 _ rfl
      have r7 := sR7.cell 7 _ rfl
      have r8 := sR7.cell 8 _ rfl
      have r0f := sR7.free 0
      have r1f := sR7.free 1
      have r2f := sR7.free 2
      have r3f := sR7.free 3
      have r4f := sR7.free 4
      have r5f := sR7.free 5
      have r6f := sR7.free 6
      have r7f := sR7.free 7
      have r8f := sR7.free 8
      have hR9 := (((((((((sR7.set 0 (.int .u32 (ds : Nat))).set 1 (.int .u32 (sr : Nat))).set 2 (.int .u8 1)).set 3 (.int .u8 64)).set 4 (.int .u16 0)).set 5 (.bool false)).set 6 (.bool false)).set 7 (.int .i64 0)).set 8 (.slice a9 (8 + (20 + 8)) c9))
      have hb9 := (((((((((bb7.setCell (p := ⟨w.heap.size + 1, 0, none⟩) (by show w.heap.size ≤ w.heap.size + 1; omega) (.int .u32 (ds : Nat))).setCell (p := ⟨w.heap.size + 1, 1, none⟩) (by show w.heap.size ≤ w.heap.size + 1; omega) (.int .u32 (sr : Nat))).setCell (p := ⟨w.heap.size + 1, 2, none⟩) (by show w.heap.size ≤ w.heap.size + 1; omega) (.int .u8 1)).setCell (p := ⟨w.heap.size + 1, 3, none⟩) (by show w.heap.size ≤ w.heap.size + 1; omega) (.int .u8 64)).setCell (p := ⟨w.heap.size + 1, 4, none⟩) (by show w.heap.size ≤ w.heap.size + 1; omega) (.int .u16 0)).setCell (p := ⟨w.heap.size + 1, 5, none⟩) (by show w.heap.size ≤ w.heap.size + 1; omega) (.bool false)).setCell (p := ⟨w.heap.size + 1, 6, none⟩) (by show w.heap.size ≤ w.heap.size + 1; omega) (.bool false)).setCell (p := ⟨w.heap.size + 1, 7, none⟩) (by show w.heap.size ≤ w.heap.size + 1; omega) (.int .i64 0)).setCell (p := ⟨w.heap.size + 1, 8, none⟩) (by show w.heap.size ≤ w.heap.size + 1; omega) (.slice a9 (8 + (20 + 8)) c9))
      have HOF := (show Hid _ from (((((((((o7.setOther (w.heap.size + 1) 0 (.int .u32 (ds : Nat)) (by omega)).setOther (w.heap.size + 1) 1 (.int .u32 (sr : Nat)) (by omega)).setOther (w.heap.size + 1) 2 (.int .u8 1) (by omega)).setOther (w.heap.size + 1) 3 (.int .u8 64) (by omega)).setOther (w.heap.size + 1) 4 (.int .u16 0) (by omega)).setOther (w.heap.size + 1) 5 (.bool false) (by omega)).setOther (w.heap.size + 1) 6 (.bool false) (by omega)).setOther (w.heap.size + 1) 7 (.int .i64 0) (by omega)).setOther (w.heap.size + 1) 8 (.slice a9 (8 + (20 + 8)) c9) (by omega)).base (show w.heap.size ≤ w.heap.size + 2 by omega))
      have HRG := (show Hid _ from hR9.range)
      have HBB := (show Hid _ from hb9)
      clear hR9 hb9 sR7 sR6 sP6 bb6 bb7 o7 o9 b9 p0 p1 p2 p3 p4 p5 p6 p7 p8 hbk hs6 o6
      go_wp2
      try simp only [Exit.inBlock, Exit.then]
      refine bodyPost_ret (results_cellE2 rfl _ _ (w.heap.size + 1) 0 [.int .u32 (ds : Nat), .int .u32 (sr : Nat), .int .u8 1, .int .u8 64, .int .u16 0, .bool false, .bool false, .int .i64 0, .slice a9 (8 + (20 + 8)) c9] _ rfl HRG.out Try.underlying26 rfl (by kernel_rfl)) rfl ?_
      exact rf_yes _ _ _ _ _ _ _ _ _ _ _ (rfE_0 _ _ _ _ _ _ HM0.out HC.out HB.out) cd mt (20 + 8) (HD ++ TK) rfl rfl HL.out HLL.out _ _ _ _ HOF.out HBB.out
end Go.Proofs.Ytplicfknjhjjgaa
