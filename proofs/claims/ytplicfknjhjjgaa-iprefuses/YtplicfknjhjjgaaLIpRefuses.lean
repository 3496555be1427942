/- Whatever packet, code and greatest length: the walk of law10.IpRefuses ends with true. -/
import Derived.Test.YtplicfknjhjjgaaIpRfs
import Derived.Test.YtplicfknjhjjgaaIpRRf
import Derived.Test.YtplicfknjhjjgaaIpLive
import Derived.Test.YtplicfknjhjjgaaIpSame
namespace Go.Proofs.Ytplicfknjhjjgaa
open Go.RowKit
theorem rfV_le (sr ds pr tt id : Nat) (dn mo : Bool) (of : Int) (zs : List Nat) (code mtu : Int) : (rfV sr ds pr tt id dn mo of zs code mtu).length ≤ 36 := by
  unfold rfV
  split
  · rw [icV_len, List.length_append, ipHd_len, List.length_take]
    omega
  · simp
theorem rfE_again (sr ds pr tt id : Nat) (dn mo : Bool) (of : Int) (zs : List Nat) (code mtu : Int) (h : rfE pr mo of zs code mtu = 0) : rfE 1 false 0 (rfV sr ds pr tt id dn mo of zs code mtu) code mtu = 11 := by
  have hl := rfV_le sr ds pr tt id dn mo of zs code mtu
  have hc : ¬ (code < 0 ∨ 15 < code ∨ mtu < 0 ∨ 65535 < mtu) := by
    intro hc
    unfold rfE at h
    by_cases h1 : mbE mo of zs.length ≠ 0
    · rw [if_pos h1] at h; exact h1 h
    · rw [if_neg h1, if_pos hc] at h; cases h
  refine rfE_3 _ _ _ _ _ _ ?_ hc ?_
  · unfold mbE
    rw [if_neg (by simp), if_neg (by omega)]
  · unfold mbr
    apply decide_eq_false
    intro hx
    rcases hx.2 with h1 | ⟨_, h1⟩
    · exact h1 rfl
    · unfold rfV at h1
      rw [if_pos h] at h1
      have : (icV 3 code.toNat mtu.toNat (ipHd sr ds pr tt id (flV dn mo of.toNat) zs.length ++ zs.take 8)).getD 0 0 = 3 := rfl
      rw [this] at h1
      omega
set_option maxRecDepth 100000 in
set_option maxHeartbeats 4000000 in
theorem walk_IpRefuses (sr ds pr tt id : Nat) (dn mo : Bool) (of : Int) (a : Option Addr) (n c : Nat) (zs : List Nat) (code mtu : Int) (w : World) (hsr : sr < 4294967296) (hds : ds < 4294967296) (hpr : pr < 256) (htt : tt < 256) (hid : id < 65536) (_hof : (Lit.int .i64 of).wf = true) (h0 : Sl w a n c zs ∧ c ≤ 140737488351232) (hcw : (Lit.int .i64 code).wf = true) (hmw : (Lit.int .i64 mtu).wf = true) :
    Calls Try.prog 4 #[.agg #[.int .u32 (sr : Nat), .int .u32 (ds : Nat), .int .u8 (pr : Nat), .int .u8 (tt : Nat), .int .u16 (id : Nat), .bool dn, .bool mo, .int .i64 of, .slice a n c], .int .i64 code, .int .i64 mtu] w fun e w' => e = .returned (.bool true) ∧ Below w.heap.size w w' := by
  obtain ⟨hs, hcb⟩ := h0
  clear hcb
  obtain ⟨W, hW⟩ : ∃ W, W = w.alloc (.cells #[.int .u32 (sr : Nat), .int .u32 (ds : Nat), .int .u8 (pr : Nat), .int .u8 (tt : Nat), .int .u16 (id : Nat), .bool dn, .bool mo, .int .i64 of, .slice a n c] 26) := ⟨_, rfl⟩
  have bW : Below w.heap.size w W := by rw [hW]; exact (Below.refl _ _).alloc (Nat.le_refl _) _
  have sP := Stc.new w [.int .u32 (sr : Nat), .int .u32 (ds : Nat), .int .u8 (pr : Nat), .int .u8 (tt : Nat), .int .u16 (id : Nat), .bool dn, .bool mo, .int .i64 of, .slice a n c] 26 W hW
  have hs1 := hs.below bW
  obtain ⟨E, hE⟩ : ∃ E, E = rfE pr mo of zs code mtu := ⟨_, rfl⟩
  obtain ⟨V, hV⟩ : ∃ V, V = rfV sr ds pr tt id dn mo of zs code mtu := ⟨_, rfl⟩
  obtain ⟨m, hm⟩ : ∃ m, m = V.length := ⟨_, rfl⟩
  obtain ⟨S, hS⟩ : ∃ S, S = (if E = 0 then ds else 0 : Nat) := ⟨_, rfl⟩
  obtain ⟨D, hD⟩ : ∃ S, S = (if E = 0 then sr else 0 : Nat) := ⟨_, rfl⟩
  obtain ⟨Q, hQ⟩ : ∃ S, S = (if E = 0 then 1 else 0 : Nat) := ⟨_, rfl⟩
  obtain ⟨T, hT⟩ : ∃ S, S = (if E = 0 then 64 else 0 : Nat) := ⟨_, rfl⟩
  have HAG : Hid (E = 0 → rfE Q false 0 V code mtu = 11) := fun h => by rw [hQ, if_pos h, hV]; exact rfE_again _ _ _ _ _ _ _ _ _ _ _ (hE.symm.trans h)
  have hmb : m ≤ 36 := by rw [hm, hV]; exact rfV_le _ _ _ _ _ _ _ _ _ _ _
  have qS : S < 4294967296 := by rw [hS]; split <;> omega
  have qD : D < 4294967296 := by rw [hD]; split <;> omega
  have qQ : Q < 256 := by rw [hQ]; split <;> omega
  have qT : T < 256 := by rw [hT]; split <;> omega
  have HE := (show Hid _ from hE)
  have HV := (show Hid _ from hV)
  have HM := (show Hid _ from hm)
  have HS := (show Hid _ from hS)
  have HD := (show Hid _ from hD)
  have HQ := (show Hid _ from hQ)
  have HT := (show Hid _ from hT)
  have hEE : ((E : Int) != (E : Int)) = false := by simp
  clear hE hV hm hS hD hQ hT
  have p0 := sP.cell 0 _ rfl
  have p1 := sP.cell 1 _ rfl
  have p2 := sP.cell 2 _ rfl
  have p3 := sP.cell 3 _ rfl
  have p4 := sP.cell 4 _ rfl
  have p5 := sP.cell 5 _ rfl
  have p6 := sP.cell 6 _ rfl
  have p7 := sP.cell 7 _ rfl
  have p8 := sP.cell 8 _ rfl
  go_enter Try.func4, Try.ntmps4
  go_wp2_with fail
  rw [← hW]
  clear hW p0 p1 p2 p3 p4 p5 p6 p7 p8
  refine (refuse_any sr ds pr tt id dn mo of a n c zs code mtu W hsr hds hpr htt hid hs1 hcw hmw).mono ?_
  rintro e w2 ⟨⟨a2, c2, rfl, o2⟩, b2⟩
  rw [← HE.out, ← HV.out, ← HS.out, ← HD.out, ← HQ.out, ← HT.out, ← HM.out]
  rw [← HV.out, ← HM.out] at o2
  have sP2 := sP.below b2
  have hs2 := hs1.below b2
  have bb2 : Below w.heap.size w w2 := bW.trans (b2.mono bW.size)
  have hl2 : w.heap.size < w2.heap.size := sP2.lt
  have p0 := sP2.cell 0 _ rfl
  have p1 := sP2.cell 1 _ rfl
  have p2 := sP2.cell 2 _ rfl
  have p3 := sP2.cell 3 _ rfl
  have p4 := sP2.cell 4 _ rfl
  have p5 := sP2.cell 5 _ rfl
  have p6 := sP2.cell 6 _ rfl
  have p7 := sP2.cell 7 _ rfl
  have p8 := sP2.cell 8 _ rfl
  obtain ⟨w3, hw3⟩ : ∃ w3, w3 = w2.alloc (.cells #[.int .u32 (S : Nat), .int .u32 (D : Nat), .int .u8 (Q : Nat), .int .u8 (T : Nat), .int .u16 0, .bool false, .bool false, .int .i64 0, .slice a2 m c2] 26) := ⟨_, rfl⟩
  have b23 : Below w2.heap.size w2 w3 := by rw [hw3]; exact (Below.refl _ _).alloc (Nat.le_refl _) _
  have sQ3 := Stc.new w2 [.int .u32 (S : Nat), .int .u32 (D : Nat), .int .u8 (Q : Nat), .int .u8 (T : Nat), .int .u16 0, .bool false, .bool false, .int .i64 0, .slice a2 m c2] 26 w3 hw3
  have hs3 := hs2.below b23
  have o3 := o2.below b23
  have bb3 : Below w.heap.size w w3 := bb2.trans (b23.mono bb2.size)
  clear sP sP2 hs2 o2 bb2 b23 b2
  go_wp2_with fail
  rw [← hw3]
  clear hw3 p0 p1 p2 p3 p4 p5 p6 p7 p8 hl2
  refine (rrefuse_any sr ds pr tt id dn mo of a n c zs code mtu w3 hsr hds hpr htt hid hs3 hcw hmw).mono ?_
  rintro e w4 ⟨⟨a4, c4, rfl, o4⟩, b4⟩
  rw [← HE.out, ← HV.out, ← HS.out, ← HD.out, ← HQ.out, ← HT.out, ← HM.out]
  rw [← HV.out, ← HM.out] at o4
  have sQ4 := sQ3.below b4
  have o34 := (o3.below b4).sl (by omega)
  have bb4 : Below w.heap.size w w4 := bb3.trans (b4.mono bb3.size)
  have hl4 : w2.heap.size < w4.heap.size := sQ4.lt
  obtain ⟨w5, hw5⟩ : ∃ w5, w5 = w4.alloc (.cells #[.int .u32 (S : Nat), .int .u32 (D : Nat), .int .u8 (Q : Nat), .int .u8 (T : Nat), .int .u16 0, .bool false, .bool false, .int .i64 0, .slice a4 m c4] 26) := ⟨_, rfl⟩
  have b45 : Below w4.heap.size w4 w5 := by rw [hw5]; exact (Below.refl _ _).alloc (Nat.le_refl _) _
  have o45 := (o4.below b45).sl (by omega)
  have o35 := o34.below b45
  have bb5 : Below w.heap.size w w5 := bb4.trans (b45.mono bb4.size)
  have sQ5 := sQ4.below b45
  have p0 := sQ4.cell 0 _ rfl
  have p1 := sQ4.cell 1 _ rfl
  have p2 := sQ4.cell 2 _ rfl
  have p3 := sQ4.cell 3 _ rfl
  have p4 := sQ4.cell 4 _ rfl
  have p5 := sQ4.cell 5 _ rfl
  have p6 := sQ4.cell 6 _ rfl
  have p7 := sQ4.cell 7 _ rfl
  have p8 := sQ4.cell 8 _ rfl
  clear sQ3 hs3 o3 bb3 b4 b45 bb4 o4 o34
  go_wp2_with fail
  rw [← hw5]
  clear hw5 p0 p1 p2 p3 p4 p5 p6 p7 p8 hl4 sQ4
  have hsa := isame_any S D Q T 0 false false 0 a2 m c2 V a4 c4 w5 o35 o45
  refine hsa.mono ?_
  rintro e w6 ⟨rfl, b6⟩
  have sQ6 := sQ5.below b6
  have o36 := o35.below b6
  have bb6 : Below w.heap.size w w6 := bb5.trans (b6.mono bb5.size)
  have p0 := sQ6.cell 0 _ rfl
  have p1 := sQ6.cell 1 _ rfl
  have p2 := sQ6.cell 2 _ rfl
  have p3 := sQ6.cell 3 _ rfl
  have p4 := sQ6.cell 4 _ rfl
  have p5 := sQ6.cell 5 _ rfl
  have p6 := sQ6.cell 6 _ rfl
  have p7 := sQ6.cell 7 _ rfl
  have p8 := sQ6.cell 8 _ rfl
  clear sQ5 o35 o45 bb5 b6 hsa
  by_cases h0 : E = 0
  case neg =>
    have h0b : ((E : Int) != 0) = true := by simp; omega
    clear p0 p1 p2 p3 p4 p5 p6 p7 p8 sQ6 o36
    go_wp2_with fail
    refine (live10_any w6).mono ?_
    rintro e w9 ⟨rfl, b9⟩
    have bb9 := bb6.trans (b9.mono bb6.size)
    go_wp2
    go_ret
    exact ⟨rfl, bb9⟩
  case pos =>
    have h0b : ((E : Int) != 0) = false := by simp; omega
    have HA := (show Hid _ from HAG.out h0)
    clear HAG h0
    have hre := refuse_any S D Q T 0 false false 0 a2 m c2 V code mtu w6 qS qD qQ qT (by omega) o36 hcw hmw
    go_wp2_with fail
    refine hre.mono ?_
    rintro e w7 ⟨⟨a7, c7, rfl, o7⟩, b7⟩
    rw [HA.out]
    have bb7 : Below w.heap.size w w7 := bb6.trans (b7.mono bb6.size)
    clear o7 p0 p1 p2 p3 p4 p5 p6 p7 p8 sQ6 o36 bb6 b7 hre
    go_wp2_with fail
    refine (live10_any _).mono ?_
    rintro e w9 ⟨rfl, b9⟩
    have bb9 := (bb7.alloc bb7.size _).trans (b9.mono (Nat.le_trans bb7.size (by simp)))
    go_wp2
    go_ret
    exact ⟨rfl, bb9⟩
end Go.Proofs.Ytplicfknjhjjgaa
