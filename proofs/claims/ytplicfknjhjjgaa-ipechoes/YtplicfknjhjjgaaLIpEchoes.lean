/- Whatever packet and message: the walk of law10.IpEchoes ends with true. -/
import Derived.Test.YtplicfknjhjjgaaIpEch
import Derived.Test.YtplicfknjhjjgaaIpREch
import Derived.Test.YtplicfknjhjjgaaIpLive
import Derived.Test.YtplicfknjhjjgaaIpSame
import Derived.Test.YtplicfknjhjjgaaBnM
namespace Go.Proofs.Ytplicfknjhjjgaa
open Go.RowKit
theorem icV_E (ty co re : Nat) (zs : List Nat) : icE (icV ty co re zs) = 0 := by
  unfold icE
  rw [if_neg (by rw [icV_len]; omega)]
  have : net (icV ty co re zs) = 0 := by
    unfold icV icZ
    exact net_stamp (bytesB ty 1 ++ bytesB co 1) (by simp [bytesB_len]) _
  rw [this, if_neg (by simp)]
theorem icV_0 (ty co re : Nat) (zs : List Nat) (h : ty < 256) : icN (icV ty co re zs) 0 1 = ty := by
  unfold icN
  rw [if_pos (icV_E ty co re zs)]
  unfold icV
  generalize net (icZ ty co re zs) = N
  have := numV_at [] ty 1 (bytesB co 1 ++ (bytesB N 2 ++ (bytesB re 4 ++ zs))) (by omega) (by omega) (by show ty < 256; omega) 0 (by rfl)
  simpa [List.append_assoc] using this
/-- An answer is no question. -/
theorem ecO_again (mo : Bool) (of : Int) (pr : Nat) (zs : List Nat) (mo' : Bool) (of' : Int) (pr' : Nat) : ecO mo' of' (if ecO mo of pr zs = true then pr' else 0) (ecV mo of pr zs) = false := by
  unfold ecV
  split
  · unfold ecO
    apply decide_eq_false
    intro h
    have := h.2.2.2.2.1
    rw [icV_0 _ _ _ _ (by omega)] at this
    cases this
  · unfold ecO
    apply decide_eq_false
    intro h
    cases h.2.2.1
theorem ecV_le (mo : Bool) (of : Int) (pr : Nat) (zs : List Nat) : (ecV mo of pr zs).length ≤ zs.length := by
  unfold ecV
  split
  · rename_i h
    have hE : icE zs = 0 := (of_decide_eq_true h).2.2.2.1
    rw [icV_len]
    unfold icB
    rw [if_pos hE, List.length_drop]
    unfold icE at hE
    split at hE
    · cases hE
    · omega
  · simp
set_option maxRecDepth 100000 in
set_option maxHeartbeats 4000000 in
theorem walk_IpEchoes (sr ds pr tt id : Nat) (dn mo : Bool) (of : Int) (a : Option Addr) (n c : Nat) (zs : List Nat) (ty co re : Nat) (a0 : Option Addr) (n0 c0 : Nat) (ys : List Nat) (put : Bool) (w : World) (_hsr : sr < 4294967296) (_hds : ds < 4294967296) (_hpr : pr < 256) (_htt : tt < 256) (_hid : id < 65536) (_hof : (Lit.int .i64 of).wf = true) (h0 : Sl w a n c zs ∧ c ≤ 140737488351232) (hty : ty < 256) (hco : co < 256) (hre : re < 4294967296) (h1 : Sl w a0 n0 c0 ys ∧ c0 ≤ 140737488351232) :
    Calls Try.prog 3 #[.agg #[.int .u32 (sr : Nat), .int .u32 (ds : Nat), .int .u8 (pr : Nat), .int .u8 (tt : Nat), .int .u16 (id : Nat), .bool dn, .bool mo, .int .i64 of, .slice a n c], .agg #[.int .u8 (ty : Nat), .int .u8 (co : Nat), .int .u32 (re : Nat), .slice a0 n0 c0], .bool put] w fun e w' => e = .returned (.bool true) ∧ Below w.heap.size w w' := by
  obtain ⟨hs, hcb⟩ := h0
  obtain ⟨hy, hcy⟩ := h1
  have hcap := hs.cap
  have hcapy := hy.cap
  obtain ⟨W1, hW1⟩ : ∃ W, W = w.alloc (.cells #[.int .u32 (sr : Nat), .int .u32 (ds : Nat), .int .u8 (pr : Nat), .int .u8 (tt : Nat), .int .u16 (id : Nat), .bool dn, .bool mo, .int .i64 of, .slice a n c] 26) := ⟨_, rfl⟩
  obtain ⟨W2, hW2⟩ : ∃ W, W = W1.alloc (.cells #[.int .u8 (ty : Nat), .int .u8 (co : Nat), .int .u32 (re : Nat), .slice a0 n0 c0] 28) := ⟨_, rfl⟩
  have z1 : W1.heap.size = w.heap.size + 1 := by rw [hW1]; simp
  have b1 : Below w.heap.size w W1 := by rw [hW1]; exact (Below.refl _ _).alloc (Nat.le_refl _) _
  have b2 : Below W1.heap.size W1 W2 := by rw [hW2]; exact (Below.refl _ _).alloc (Nat.le_refl _) _
  have sP := (Stc.new w [.int .u32 (sr : Nat), .int .u32 (ds : Nat), .int .u8 (pr : Nat), .int .u8 (tt : Nat), .int .u16 (id : Nat), .bool dn, .bool mo, .int .i64 of, .slice a n c] 26 W1 hW1).below b2
  have sX := Stc.new W1 [.int .u8 (ty : Nat), .int .u8 (co : Nat), .int .u32 (re : Nat), .slice a0 n0 c0] 28 W2 hW2
  rw [z1] at sX
  have bW : Below w.heap.size w W2 := b1.trans (b2.mono b1.size)
  have hs1 := hs.below bW
  have hy1 := hy.below bW
  clear b1 b2 z1
  cases put
  case false =>
    have hn1 : n ≤ 140737488355328 := by omega
    clear hcb hcy hcap hcapy sX hy1
    obtain ⟨W, hW⟩ : ∃ W, W = W2 := ⟨_, rfl⟩
    rw [← hW] at sP bW hs1 hW2
    clear hW W2
    go_enter Try.func3, Try.ntmps3
    go_wp2_with fail
    rw [← hW1, ← hW2]
    clear hW1 hW2
    obtain ⟨pr1, hpr1⟩ : ∃ x, x = pr := ⟨_, rfl⟩
    obtain ⟨a1, ha1⟩ : ∃ x, x = a := ⟨_, rfl⟩
    obtain ⟨n1, hn⟩ : ∃ x, x = n := ⟨_, rfl⟩
    obtain ⟨c1, hc1⟩ : ∃ x, x = c := ⟨_, rfl⟩
    obtain ⟨zs1, hz1⟩ : ∃ x, x = zs := ⟨_, rfl⟩
    subst hpr1 ha1 hn hc1 hz1
    obtain ⟨O, hO⟩ : ∃ O, O = ecO mo of pr1 zs1 := ⟨_, rfl⟩
    obtain ⟨V, hV⟩ : ∃ V, V = ecV mo of pr1 zs1 := ⟨_, rfl⟩
    obtain ⟨m, hm⟩ : ∃ m, m = V.length := ⟨_, rfl⟩
    obtain ⟨S, hS⟩ : ∃ S, S = (if O = true then ds else 0 : Nat) := ⟨_, rfl⟩
    obtain ⟨D, hD⟩ : ∃ S, S = (if O = true then sr else 0 : Nat) := ⟨_, rfl⟩
    obtain ⟨Q, hQ⟩ : ∃ S, S = (if O = true then 1 else 0 : Nat) := ⟨_, rfl⟩
    obtain ⟨T, hT⟩ : ∃ S, S = (if O = true then 64 else 0 : Nat) := ⟨_, rfl⟩
    obtain ⟨I, hI⟩ : ∃ S, S = (if O = true then id else 0 : Nat) := ⟨_, rfl⟩
    have HAG : Hid (ecO false 0 Q V = false) := by show _ = _; rw [hQ, hV, hO]; exact ecO_again mo of pr1 zs1 false 0 1
    have hmb : m ≤ 140737488355328 := by
      have h1 := ecV_le mo of pr1 zs1
      rw [← hV, ← hm, hs1.len] at h1
      omega
    have HO := (show Hid _ from hO)
    have HV := (show Hid _ from hV)
    have HM := (show Hid _ from hm)
    have HS := (show Hid _ from hS)
    have HD := (show Hid _ from hD)
    have HQ := (show Hid _ from hQ)
    have HT := (show Hid _ from hT)
    have HI := (show Hid _ from hI)
    have hOO : (O != O) = false := by cases O <;> rfl
    clear hO hV hm hS hD hQ hT hI
    refine (echo_any sr ds pr1 tt id dn mo of a1 n1 c1 zs1 W hs1 hn1).mono ?_
    rintro e w2 ⟨⟨a2, c2, rfl, o2⟩, b2⟩
    rw [← HO.out, ← HV.out, ← HS.out, ← HD.out, ← HQ.out, ← HT.out, ← HI.out, ← HM.out]
    rw [← HV.out, ← HM.out] at o2
    have sP2 := sP.below b2
    have hs2 := hs1.below b2
    have bb2 : Below w.heap.size w w2 := bW.trans (b2.mono bW.size)
    have hl2 : w.heap.size < w2.heap.size := sP2.lt
    have p0 := sP2.cell 0 _ rfl
    have p1 := sP2.cell 1 _ rfl
    have p2 := sP2.cell 2 _ rfl
    have p3 := sP2.cell 3 _ rfl
    have p4 := sP2.cell 4 _ rfl
    have p5 := sP2.cell 5 _ rfl
    have p6 := sP2.cell 6 _ rfl
    have p7 := sP2.cell 7 _ rfl
    have p8 := sP2.cell 8 _ rfl
    obtain ⟨w3, hw3⟩ : ∃ w3, w3 = w2.alloc (.cells #[.int .u32 (S : Nat), .int .u32 (D : Nat), .int .u8 (Q : Nat), .int .u8 (T : Nat), .int .u16 (I : Nat), .bool false, .bool false, .int .i64 0, .slice a2 m c2] 26) := ⟨_, rfl⟩
    have b23 : Below w2.heap.size w2 w3 := by rw [hw3]; exact (Below.refl _ _).alloc (Nat.le_refl _) _
    have sQ3 := Stc.new w2 [.int .u32 (S : Nat), .int .u32 (D : Nat), .int .u8 (Q : Nat), .int .u8 (T : Nat), .int .u16 (I : Nat), .bool false, .bool false, .int .i64 0, .slice a2 m c2] 26 w3 hw3
    have hs3 := hs2.below b23
    have o3 := o2.below b23
    have bb3 : Below w.heap.size w w3 := bb2.trans (b23.mono bb2.size)
    clear sP sP2 hs2 o2 bb2 b23 b2
    go_wp2_with fail
    rw [← hw3]
    clear hw3 p0 p1 p2 p3 p4 p5 p6 p7 p8 hl2
    refine (recho_any sr ds pr1 tt id dn mo of a1 n1 c1 zs1 w3 hs3 hn1).mono ?_
    rintro e w4 ⟨⟨a4, c4, rfl, o4⟩, b4⟩
    rw [← HO.out, ← HV.out, ← HS.out, ← HD.out, ← HQ.out, ← HT.out, ← HI.out, ← HM.out]
    rw [← HV.out, ← HM.out] at o4
    have sQ4 := sQ3.below b4
    have o34 := (o3.below b4).sl (by omega)
    have bb4 : Below w.heap.size w w4 := bb3.trans (b4.mono bb3.size)
    have hl4 : w2.heap.size < w4.heap.size := sQ4.lt
    obtain ⟨w5, hw5⟩ : ∃ w5, w5 = w4.alloc (.cells #[.int .u32 (S : Nat), .int .u32 (D : Nat), .int .u8 (Q : Nat), .int .u8 (T : Nat), .int .u16 (I : Nat), .bool false, .bool false, .int .i64 0, .slice a4 m c4] 26) := ⟨_, rfl⟩
    have b45 : Below w4.heap.size w4 w5 := by rw [hw5]; exact (Below.refl _ _).alloc (Nat.le_refl _) _
    have sU5 := Stc.new w4 [.int .u32 (S : Nat), .int .u32 (D : Nat), .int .u8 (Q : Nat), .int .u8 (T : Nat), .int .u16 (I : Nat), .bool false, .bool false, .int .i64 0, .slice a4 m c4] 26 w5 hw5
    have o45 := (o4.below b45).sl (by omega)
    have o35 := o34.below b45
    have bb5 : Below w.heap.size w w5 := bb4.trans (b45.mono bb4.size)
    have sQ5 := sQ4.below b45
    have p0 := sQ4.cell 0 _ rfl
    have p1 := sQ4.cell 1 _ rfl
    have p2 := sQ4.cell 2 _ rfl
    have p3 := sQ4.cell 3 _ rfl
    have p4 := sQ4.cell 4 _ rfl
    have p5 := sQ4.cell 5 _ rfl
    have p6 := sQ4.cell 6 _ rfl
    have p7 := sQ4.cell 7 _ rfl
    have p8 := sQ4.cell 8 _ rfl
    clear sQ3 hs3 o3 bb3 b4 b45 bb4 o4 o34
    go_wp2_with fail
    rw [← hw5]
    clear hw5 p0 p1 p2 p3 p4 p5 p6 p7 p8 hl4 sQ4
    refine (isame_any S D Q T I false false 0 a2 m c2 V a4 c4 w5 o35 o45).mono ?_
    rintro e w6 ⟨rfl, b6⟩
    have sQ6 := sQ5.below b6
    have o36 := o35.below b6
    have bb6 : Below w.heap.size w w6 := bb5.trans (b6.mono bb5.size)
    have p0 := sQ6.cell 0 _ rfl
    have p1 := sQ6.cell 1 _ rfl
    have p2 := sQ6.cell 2 _ rfl
    have p3 := sQ6.cell 3 _ rfl
    have p4 := sQ6.cell 4 _ rfl
    have p5 := sQ6.cell 5 _ rfl
    have p6 := sQ6.cell 6 _ rfl
    have p7 := sQ6.cell 7 _ rfl
    have p8 := sQ6.cell 8 _ rfl
    clear sQ5 sU5 o35 o45 bb5 b6
    go_wp2_with fail
    refine (echo_any S D Q T I false false 0 a2 m c2 V w6 o36 hmb).mono ?_
    rintro e w7 ⟨⟨a7, c7, rfl, o7⟩, b7⟩
    rw [HAG.out]
    have bb7 : Below w.heap.size w w7 := bb6.trans (b7.mono bb6.size)
    clear o7 p0 p1 p2 p3 p4 p5 p6 p7 p8 sQ6 o36 bb6 b7
    go_wp2_with fail
    refine (live10_any _).mono ?_
    rintro e w9 ⟨rfl, b9⟩
    have bb9 := (bb7.alloc bb7.size _).trans (b9.mono (Nat.le_trans bb7.size (by simp)))
    go_wp2
    go_ret
    exact ⟨rfl, bb9⟩
  case true =>
    go_enter Try.func3, Try.ntmps3
    go_wp2_with fail
    rw [← hW1, ← hW2]
    clear hW1 hW2
    refine (rputIcmp_any ty co re a0 n0 c0 ys W2 hty hco hre hy1 (by omega)).mono ?_
    rintro e w3 ⟨a1, c1, rfl, o3, b3⟩
    have sP3 := sP.below b3
    have bW3 : Below w.heap.size w w3 := bW.trans (b3.mono bW.size)
    have hlt := sP.lt
    have p0 := sP3.cell 0 _ rfl
    have p1 := sP3.cell 1 _ rfl
    have p2 := sP3.cell 2 _ rfl
    have p3 := sP3.cell 3 _ rfl
    have p4 := sP3.cell 4 _ rfl
    have p5 := sP3.cell 5 _ rfl
    have p6 := sP3.cell 6 _ rfl
    have p7 := sP3.cell 7 _ rfl
    have p8 := sP3.cell 8 _ rfl
    have p2f := sP3.free 2
    have p8f := sP3.free 8
    obtain ⟨W, hW⟩ : ∃ W, W = (w3.setCell ⟨w.heap.size, 2, none⟩ (.int .u8 1)).setCell ⟨w.heap.size, 8, none⟩ (.slice a1 (8 + n0) c1) := ⟨_, rfl⟩
    have sPW := (sP3.set 2 (.int .u8 1)).set 8 (.slice a1 (8 + n0) c1)
    have oW := (o3.setOther w.heap.size 2 (.int .u8 1) hlt).setOther w.heap.size 8 (.slice a1 (8 + n0) c1) hlt
    have bWW := (bW3.setCell (p := ⟨w.heap.size, 2, none⟩) (Nat.le_refl _) (.int .u8 1)).setCell (p := ⟨w.heap.size, 8, none⟩) (Nat.le_refl _) (.slice a1 (8 + n0) c1)
    rw [← hW] at sPW oW bWW
    have hsW := oW.sl (by omega)
    obtain ⟨pr1, hpr1⟩ : ∃ x : Nat, x = 1 := ⟨_, rfl⟩
    have sPN : Stc W w.heap.size [.int .u32 (sr : Nat), .int .u32 (ds : Nat), .int .u8 (pr1 : Nat), .int .u8 (tt : Nat), .int .u16 (id : Nat), .bool dn, .bool mo, .int .i64 of, .slice a1 (8 + n0) c1] := by rw [hpr1]; exact sPW
    have HPR := (show Hid _ from hpr1)
    clear sP sX sP3 o3 oW bW bW3 b3 hs1 hy1 sPW hpr1
    go_wp2_with fail
    rw [← hW]
    clear hW p0 p1 p2 p3 p4 p5 p6 p7 p8 p2f p8f hlt
    rw [show (Value.int .u8 (1 : Int)) = Value.int .u8 ((pr1 : Nat) : Int) from by rw [HPR.out]; rfl]
    have sP := sPN
    have bW := bWW
    obtain ⟨n1, hn1e⟩ : ∃ x, x = 8 + n0 := ⟨_, rfl⟩
    have hn1 : n1 ≤ 140737488355328 := by omega
    rw [← hn1e] at hsW sP ⊢
    have hs1 := hsW
    obtain ⟨zs1, hzs1⟩ : ∃ x, x = icV ty co re ys := ⟨_, rfl⟩
    rw [← hzs1] at hs1
    clear hsW sPN bWW HPR hn1e hzs1 hcb hcy hcap hcapy
    obtain ⟨O, hO⟩ : ∃ O, O = ecO mo of pr1 zs1 := ⟨_, rfl⟩
    obtain ⟨V, hV⟩ : ∃ V, V = ecV mo of pr1 zs1 := ⟨_, rfl⟩
    obtain ⟨m, hm⟩ : ∃ m, m = V.length := ⟨_, rfl⟩
    obtain ⟨S, hS⟩ : ∃ S, S = (if O = true then ds else 0 : Nat) := ⟨_, rfl⟩
    obtain ⟨D, hD⟩ : ∃ S, S = (if O = true then sr else 0 : Nat) := ⟨_, rfl⟩
    obtain ⟨Q, hQ⟩ : ∃ S, S = (if O = true then 1 else 0 : Nat) := ⟨_, rfl⟩
    obtain ⟨T, hT⟩ : ∃ S, S = (if O = true then 64 else 0 : Nat) := ⟨_, rfl⟩
    obtain ⟨I, hI⟩ : ∃ S, S = (if O = true then id else 0 : Nat) := ⟨_, rfl⟩
    have HAG : Hid (ecO false 0 Q V = false) := by show _ = _; rw [hQ, hV, hO]; exact ecO_again mo of pr1 zs1 false 0 1
    have hmb : m ≤ 140737488355328 := by
      have h1 := ecV_le mo of pr1 zs1
      rw [← hV, ← hm, hs1.len] at h1
      omega
    have HO := (show Hid _ from hO)
    have HV := (show Hid _ from hV)
    have HM := (show Hid _ from hm)
    have HS := (show Hid _ from hS)
    have HD := (show Hid _ from hD)
    have HQ := (show Hid _ from hQ)
    have HT := (show Hid _ from hT)
    have HI := (show Hid _ from hI)
    have hOO : (O != O) = false := by cases O <;> rfl
    clear hO hV hm hS hD hQ hT hI
    refine (echo_any sr ds pr1 tt id dn mo of a1 n1 c1 zs1 W hs1 hn1).mono ?_
    rintro e w2 ⟨⟨a2, c2, rfl, o2⟩, b2⟩
    rw [← HO.out, ← HV.out, ← HS.out, ← HD.out, ← HQ.out, ← HT.out, ← HI.out, ← HM.out]
    rw [← HV.out, ← HM.out] at o2
    have sP2 := sP.below b2
    have hs2 := hs1.below b2
    have bb2 : Below w.heap.size w w2 := bW.trans (b2.mono bW.size)
    have hl2 : w.heap.size < w2.heap.size := sP2.lt
    have p0 := sP2.cell 0 _ rfl
    have p1 := sP2.cell 1 _ rfl
    have p2 := sP2.cell 2 _ rfl
    have p3 := sP2.cell 3 _ rfl
    have p4 := sP2.cell 4 _ rfl
    have p5 := sP2.cell 5 _ rfl
    have p6 := sP2.cell 6 _ rfl
    have p7 := sP2.cell 7 _ rfl
    have p8 := sP2.cell 8 _ rfl
    obtain ⟨w3, hw3⟩ : ∃ w3, w3 = w2.alloc (.cells #[.int .u32 (S : Nat), .int .u32 (D : Nat), .int .u8 (Q : Nat), .int .u8 (T : Nat), .int .u16 (I : Nat), .bool false, .bool false, .int .i64 0, .slice a2 m c2] 26) := ⟨_, rfl⟩
    have b23 : Below w2.heap.size w2 w3 := by rw [hw3]; exact (Below.refl _ _).alloc (Nat.le_refl _) _
    have sQ3 := Stc.new w2 [.int .u32 (S : Nat), .int .u32 (D : Nat), .int .u8 (Q : Nat), .int .u8 (T : Nat), .int .u16 (I : Nat), .bool false, .bool false, .int .i64 0, .slice a2 m c2] 26 w3 hw3
    have hs3 := hs2.below b23
    have o3 := o2.below b23
    have bb3 : Below w.heap.size w w3 := bb2.trans (b23.mono bb2.size)
    clear sP sP2 hs2 o2 bb2 b23 b2
    go_wp2_with fail
    rw [← hw3]
    clear hw3 p0 p1 p2 p3 p4 p5 p6 p7 p8 hl2
    refine (recho_any sr ds pr1 tt id dn mo of a1 n1 c1 zs1 w3 hs3 hn1).mono ?_
    rintro e w4 ⟨⟨a4, c4, rfl, o4⟩, b4⟩
    rw [← HO.out, ← HV.out, ← HS.out, ← HD.out, ← HQ.out, ← HT.out, ← HI.out, ← HM.out]
    rw [← HV.out, ← HM.out] at o4
    have sQ4 := sQ3.below b4
    have o34 := (o3.below b4).sl (by omega)
    have bb4 : Below w.heap.size w w4 := bb3.trans (b4.mono bb3.size)
    have hl4 : w2.heap.size < w4.heap.size := sQ4.lt
    obtain ⟨w5, hw5⟩ : ∃ w5, w5 = w4.alloc (.cells #[.int .u32 (S : Nat), .int .u32 (D : Nat), .int .u8 (Q : Nat), .int .u8 (T : Nat), .int .u16 (I : Nat), .bool false, .bool false, .int .i64 0, .slice a4 m c4] 26) := ⟨_, rfl⟩
    have b45 : Below w4.heap.size w4 w5 := by rw [hw5]; exact (Below.refl _ _).alloc (Nat.le_refl _) _
    have sU5 := Stc.new w4 [.int .u32 (S : Nat), .int .u32 (D : Nat), .int .u8 (Q : Nat), .int .u8 (T : Nat), .int .u16 (I : Nat), .bool false, .bool false, .int .i64 0, .slice a4 m c4] 26 w5 hw5
    have o45 := (o4.below b45).sl (by omega)
    have o35 := o34.below b45
    have bb5 : Below w.heap.size w w5 := bb4.trans (b45.mono bb4.size)
    have sQ5 := sQ4.below b45
    have p0 := sQ4.cell 0 _ rfl
    have p1 := sQ4.cell 1 _ rfl
    have p2 := sQ4.cell 2 _ rfl
    have p3 := sQ4.cell 3 _ rfl
    have p4 := sQ4.cell 4 _ rfl
    have p5 := sQ4.cell 5 _ rfl
    have p6 := sQ4.cell 6 _ rfl
    have p7 := sQ4.cell 7 _ rfl
    have p8 := sQ4.cell 8 _ rfl
    clear sQ3 hs3 o3 bb3 b4 b45 bb4 o4 o34
    go_wp2_with fail
    rw [← hw5]
    clear hw5 p0 p1 p2 p3 p4 p5 p6 p7 p8 hl4 sQ4
    refine (isame_any S D Q T I false false 0 a2 m c2 V a4 c4 w5 o35 o45).mono ?_
    rintro e w6 ⟨rfl, b6⟩
    have sQ6 := sQ5.below b6
    have o36 := o35.below b6
    have bb6 : Below w.heap.size w w6 := bb5.trans (b6.mono bb5.size)
    have p0 := sQ6.cell 0 _ rfl
    have p1 := sQ6.cell 1 _ rfl
    have p2 := sQ6.cell 2 _ rfl
    have p3 := sQ6.cell 3 _ rfl
    have p4 := sQ6.cell 4 _ rfl
    have p5 := sQ6.cell 5 _ rfl
    have p6 := sQ6.cell 6 _ rfl
    have p7 := sQ6.cell 7 _ rfl
    have p8 := sQ6.cell 8 _ rfl
    clear sQ5 sU5 o35 o45 bb5 b6
    go_wp2_with fail
    refine (echo_any S D Q T I false false 0 a2 m c2 V w6 o36 hmb).mono ?_
    rintro e w7 ⟨⟨a7, c7, rfl, o7⟩, b7⟩
    rw [HAG.out]
    have bb7 : Below w.heap.size w w7 := bb6.trans (b7.mono bb6.size)
    clear o7 p0 p1 p2 p3 p4 p5 p6 p7 p8 sQ6 o36 bb6 b7
    go_wp2_with fail
    refine (live10_any _).mono ?_
    rintro e w9 ⟨rfl, b9⟩
    have bb9 := (bb7.alloc bb7.size _).trans (b9.mono (Nat.le_trans bb7.size (by simp)))
    go_wp2
    go_ret
    exact ⟨rfl, bb9⟩
end Go.Proofs.Ytplicfknjhjjgaa
