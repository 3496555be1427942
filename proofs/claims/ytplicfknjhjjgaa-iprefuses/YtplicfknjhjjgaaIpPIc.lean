/- What ip.PutIcmp answers. -/
import Derived.Test.YtplicfknjhjjgaaIpHead
import Derived.Test.YtplicfknjhjjgaaIpWide
namespace Go.Proofs.Ytplicfknjhjjgaa
open Go.RowKit
/-- A message's bytes, its sum as yet 0. -/
def icZ (ty co re : Nat) (zs : List Nat) : List Nat := (bytesB ty 1 ++ bytesB co 1) ++ ([0, 0] ++ (bytesB re 4 ++ zs))
/-- A message's bytes. -/
def icV (ty co re : Nat) (zs : List Nat) : List Nat := (bytesB ty 1 ++ bytesB co 1) ++ (bytesB (net (icZ ty co re zs)) 2 ++ (bytesB re 4 ++ zs))
theorem icV_len (ty co re : Nat) (zs : List Nat) : (icV ty co re zs).length = 8 + zs.length := by
  unfold icV
  simp only [List.length_append, bytesB_len]
  omega
theorem icV_set (ty co re : Nat) (zs : List Nat) : setV (icZ ty co re zs) ((2 : Nat) : Int) (net (icZ ty co re zs)) 2 = icV ty co re zs := by
  unfold icV
  generalize hN : net (icZ ty co re zs) = N
  have hle : N ≤ 65535 := by rw [← hN]; exact net_le _
  unfold icZ
  rw [setV_mid _ _ _ hle 2 (by simp [bytesB_len])]
set_option maxRecDepth 100000 in
set_option maxHeartbeats 1000000 in
theorem putIcmp_any (ty co re : Nat) (a : Option Addr) (n c : Nat) (zs : List Nat) (w : World) (hty : ty < 256) (hco : co < 256) (hre : re < 4294967296) (hs : Sl w a n c zs) (hn : n ≤ 140737488355320) :
    Calls Try.prog 39 #[.agg #[.int .u8 (ty : Nat), .int .u8 (co : Nat), .int .u32 (re : Nat), .slice a n c]] w fun e w' => ∃ a' c', e = .returned (.slice a' (8 + n) c') ∧ OwnB w' w.heap.size a' (8 + n) c' (icV ty co re zs) ∧ Below w.heap.size w w' := by
  have hl := hs.len
  have HV := (show Hid _ from icV_set ty co re zs)
  have HVL : Hid ((icV ty co re zs).length = 8 + n) := by show _ = _; rw [icV_len, hl]
  obtain ⟨V, hV⟩ : ∃ V, V = icV ty co re zs := ⟨_, rfl⟩
  rw [← hV] at HV HVL ⊢
  clear hV
  obtain ⟨L0, hL0⟩ : ∃ L0 : List Nat, L0 = [] := ⟨_, rfl⟩
  have K0 : Hid (L0.length = 0) := by show _ = _; rw [hL0]; rfl
  obtain ⟨L1, hL1⟩ : ∃ L, L = L0 ++ bytesB ty 1 := ⟨_, rfl⟩
  obtain ⟨L2, hL2⟩ : ∃ L, L = L1 ++ bytesB co 1 := ⟨_, rfl⟩
  obtain ⟨L3, hL3⟩ : ∃ L, L = L2 ++ bytesB 0 2 := ⟨_, rfl⟩
  obtain ⟨L4, hL4⟩ : ∃ L, L = L3 ++ bytesB re 4 := ⟨_, rfl⟩
  have k1 : L1.length = 1 := by rw [hL1]; simp [bytesB_len, hL0]
  have k2 : L2.length = 2 := by rw [hL2]; simp [bytesB_len, k1]
  have k3 : L3.length = 4 := by rw [hL3]; simp [bytesB_len, k2]
  have k4 : L4.length = 8 := by rw [hL4]; simp [bytesB_len, k3]
  have HZ : Hid (icZ ty co re zs = L4 ++ zs) := by
    show _ = _
    rw [hL4, hL3, hL2, hL1, hL0]
    simp [icZ, bytesB_two, List.append_assoc]
  rw [HZ.out] at HV
  have N1 := (show Hid _ from hL1.symm)
  have K1 := (show Hid _ from k1)
  have N2 := (show Hid _ from hL2.symm)
  have K2 := (show Hid _ from k2)
  have N3 := (show Hid _ from hL3.symm)
  have K3 := (show Hid _ from k3)
  have N4 := (show Hid _ from hL4.symm)
  have K4 := (show Hid _ from k4)
  clear hL1 hL2 hL3 hL4 k1 k2 k3 k4
  obtain ⟨W, hW⟩ : ∃ W, W = w.alloc (.cells #[.int .u8 (ty : Nat), .int .u8 (co : Nat), .int .u32 (re : Nat), .slice a n c] 28) := ⟨_, rfl⟩
  obtain ⟨W2, hW2⟩ : ∃ W2, W2 = W.alloc (.cells #[.slice none 0 0] 24) := ⟨_, rfl⟩
  obtain ⟨W3, hW3⟩ : ∃ W3, W3 = W2.alloc (.cells #[.pointer (some ⟨W.heap.size, 0, none⟩)] 84) := ⟨_, rfl⟩
  have g0 := hp_new w W W2 W3 [.int .u8 (ty : Nat), .int .u8 (co : Nat), .int .u32 (re : Nat), .slice a n c] 28 24 84 hW hW2 hW3
  rw [← hL0] at g0
  have HW3 := (show Hid _ from hW3)
  have HZW : Hid (W.heap.size = w.heap.size + 1) := by show _ = _; rw [hW]; simp
  have hm := hmf
  clear hL0 hW3
  go_enter Try.func39, Try.ntmps39
  go_wp2_with fail
  rw [← hW]
  rw [← hW2, ← HZW.out]
  clear hW hW2
  refine (layi_any W.heap.size W2).mono ?_
  rintro e w' ⟨rfl, hw'⟩
  rw [← HW3.out] at hw'
  subst hw'
  have x0 := g0.sx.cell 0 _ rfl
  go_wp2_with fail
  refine (g0.lay ty 1 (by show ty < 256 ^ 1; omega) (by omega) (by omega) (by rw [K0.out]; omega)).mono ?_
  rintro e w1 ⟨⟨r1, rfl⟩, g1⟩
  rw [N1.out] at g1
  clear g0 x0
  have x1 := g1.sx.cell 1 _ rfl
  go_wp2_with fail
  refine (g1.lay co 1 (by show co < 256 ^ 1; omega) (by omega) (by omega) (by rw [K1.out]; omega)).mono ?_
  rintro e w2 ⟨⟨r2, rfl⟩, g2⟩
  rw [N2.out] at g2
  clear g1 x1
  go_wp2_with fail
  refine (g2.lay 0 2 (by decide) (by omega) (by omega) (by rw [K2.out]; omega)).mono ?_
  rintro e w3 ⟨⟨r3, rfl⟩, g3⟩
  rw [N3.out] at g3
  clear g2
  have x2 := g3.sx.cell 2 _ rfl
  go_wp2_with fail
  refine (g3.lay re 4 (by show re < 256 ^ 4; omega) (by omega) (by omega) (by rw [K3.out]; omega)).mono ?_
  rintro e w4 ⟨⟨r4, rfl⟩, g4⟩
  rw [N4.out] at g4
  clear g3 x2
  obtain ⟨g, hS, hg, hgx⟩ := g4.st
  obtain ⟨ar, cr, hrow, hown, hgr⟩ := hS.row
  rw [K4.out] at hrow hown
  have x3 := g4.sx.cell 3 _ rfl
  have hs4 := hs.below g4.bel
  have bb := g4.bel
  have HB := (show Hid _ from bb)
  have hbz := bb.size
  clear g4 hS hg hgx hgr bb
  go_wp2_with (at_builtin; go_must (refine app_list2 rfl _ _ rfl w.heap.size ar 8 cr L4 rfl hown _ n c zs rfl hs4 (by omega) hbz ?_))
  intro a5 c5 w5 o5 g5 p5
  have b5 : Below w.heap.size w w5 := HB.out.trans (hown.up g5 hbz)
  clear hown g5 p5 hrow x3 hs4
  have r5 := o5.sl (by omega)
  go_wp2_with fail
  refine (stamped_anyW a5 (8 + n) c5 (L4 ++ zs) 2 w5 r5 (by omega)).mono ?_
  rintro e w6 ⟨a6, c6, rfl, o6, b6⟩
  rw [HV.out, HVL.out] at o6 ⊢
  have b7 := b5.trans (b6.mono b5.size)
  have o7 := o6.base b5.size
  go_wp2
  go_ret
  exact ⟨a6, c6, rfl, o7, b7⟩
end Go.Proofs.Ytplicfknjhjjgaa
