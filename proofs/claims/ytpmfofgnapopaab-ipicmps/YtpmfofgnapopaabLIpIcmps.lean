/- Whatever message and bytes: the walk of law10.IpIcmps ends with true. -/
import Derived.Test.YtpmfofgnapopaabIpRPIc
import Derived.Test.YtpmfofgnapopaabIpRTIc
import Derived.Test.YtpmfofgnapopaabIpLive
import Derived.Test.YtpmfofgnapopaabBnM
import Derived.Deep.RegionHeld3
namespace Go.Proofs.Ytpmfofgnapopaab
open Go.RowKit
theorem icV_E (ty co re : Nat) (zs : List Nat) : icE (icV ty co re zs) = 0 := by
  unfold icE
  rw [if_neg (by rw [icV_len]; omega)]
  have : net (icV ty co re zs) = 0 := by
    unfold icV icZ
    exact net_stamp (bytesB ty 1 ++ bytesB co 1) (by simp [bytesB_len]) _
  rw [this, if_neg (by simp)]
theorem icV_0 (ty co re : Nat) (zs : List Nat) (h : ty < 256) : icN (icV ty co re zs) 0 1 = ty := by
  unfold icN
  rw [if_pos (icV_E ty co re zs)]
  unfold icV
  generalize net (icZ ty co re zs) = N
  have := numV_at [] ty 1 (bytesB co 1 ++ (bytesB N 2 ++ (bytesB re 4 ++ zs))) (by omega) (by omega) (by show ty < 256; omega) 0 (by rfl)
  simpa [List.append_assoc] using this
theorem icV_1 (ty co re : Nat) (zs : List Nat) (h : co < 256) : icN (icV ty co re zs) 1 1 = co := by
  unfold icN
  rw [if_pos (icV_E ty co re zs)]
  unfold icV
  generalize net (icZ ty co re zs) = N
  have := numV_at (bytesB ty 1) co 1 (bytesB N 2 ++ (bytesB re 4 ++ zs)) (by omega) (by omega) (by show co < 256; omega) 1 (by simp [bytesB_len])
  simpa [List.append_assoc] using this
theorem icV_4 (ty co re : Nat) (zs : List Nat) (h : re < 4294967296) : icN (icV ty co re zs) 4 4 = re := by
  unfold icN
  rw [if_pos (icV_E ty co re zs)]
  unfold icV
  generalize net (icZ ty co re zs) = N
  have := numV_at (bytesB ty 1 ++ bytesB co 1 ++ bytesB N 2) re 4 zs (by omega) (by omega) (by show re < 4294967296; omega) 4 (by simp [bytesB_len])
  simpa [List.append_assoc] using this
theorem icV_B (ty co re : Nat) (zs : List Nat) : icB (icV ty co re zs) = zs := by
  unfold icB
  rw [if_pos (icV_E ty co re zs)]
  unfold icV
  generalize net (icZ ty co re zs) = N
  rw [show bytesB ty 1 ++ bytesB co 1 ++ (bytesB N 2 ++ (bytesB re 4 ++ zs)) = (bytesB ty 1 ++ bytesB co 1 ++ bytesB N 2 ++ bytesB re 4) ++ zs from by simp [List.append_assoc]]
  exact List.drop_left' (by simp [bytesB_len])
set_option maxRecDepth 100000 in
set_option maxHeartbeats 2000000 in
theorem walk_IpIcmps (ty co re : Nat) (a : Option Addr) (n c : Nat) (zs : List Nat) (a0 : Option Addr) (n0 c0 : Nat) (ys : List Nat) (w : World) (hty : ty < 256) (hco : co < 256) (hre : re < 4294967296) (h0 : Sl w a n c zs ∧ c ≤ 140737488351232) (h1 : Sl w a0 n0 c0 ys ∧ c0 * 1 ≤ 140737488351232) :
    Calls Try.prog 3 #[.agg #[.int .u8 (ty : Nat), .int .u8 (co : Nat), .int .u32 (re : Nat), .slice a n c], .slice a0 n0 c0] w fun e w' => e = .returned (.bool true) ∧ Below w.heap.size w w' := by
  obtain ⟨h0, hcb⟩ := h0
  obtain ⟨hy, hcb0⟩ := h1
  have hcap := h0.cap
  have hcap0 := hy.cap
  have hnb : n ≤ 140737488351232 := by omega
  have hnb0 : n0 ≤ 140737488351232 := by omega
  clear hcb hcb0 hcap hcap0
  have HE := (show Hid _ from icV_E ty co re zs)
  have H0 := (show Hid _ from icV_0 ty co re zs hty)
  have H1 := (show Hid _ from icV_1 ty co re zs hco)
  have H4 := (show Hid _ from icV_4 ty co re zs hre)
  have HB := (show Hid _ from icV_B ty co re zs)
  have HL : Hid (zs.length = n) := h0.len
  obtain ⟨W, hW⟩ : ∃ W, W = w.alloc (.cells #[.int .u8 (ty : Nat), .int .u8 (co : Nat), .int .u32 (re : Nat), .slice a n c] 25) := ⟨_, rfl⟩
  have hX := Stc.new w [.int .u8 (ty : Nat), .int .u8 (co : Nat), .int .u32 (re : Nat), .slice a n c] 25 W hW
  have hbW : Below w.heap.size w W := by rw [hW]; exact (Below.refl _ _).alloc (Nat.le_refl _) _
  have hsW := h0.below hbW
  have hyW := hy.below hbW
  have x0 := hX.cell 0 _ rfl
  have x1 := hX.cell 1 _ rfl
  have x2 := hX.cell 2 _ rfl
  have x3 := hX.cell 3 _ rfl
  have hp := putIcmp_any ty co re a n c zs W hty hco hre hsW (by omega)
  have hr := fun W h => rputIcmp_any ty co re a n c zs W hty hco hre h (by omega)
  generalize icV ty co re zs = V at *
  go_enter Try.func3, Try.ntmps3
  go_wp2_with fail
  rw [← hW]
  clear hW
  refine hp.mono ?_
  rintro e w1 ⟨a1, c1, rfl, o1, b1⟩
  have hX1 := hX.below b1
  have hs1 := hsW.below b1
  have hy1 := hyW.below b1
  have bb1 : Below w.heap.size w w1 := hbW.trans (b1.mono hbW.size)
  have r1 := o1.sl (by omega)
  clear x0 x1 x2 x3 hX hsW hyW hbW b1 hp
  have x0 := hX1.cell 0 _ rfl
  have x1 := hX1.cell 1 _ rfl
  have x2 := hX1.cell 2 _ rfl
  have x3 := hX1.cell 3 _ rfl
  have bd : Below w1.heap.size w1 w1.drew := (Below.refl _ _).drew
  have kD := conv_str (r1.below bd)
  have hXd := hX1.below bd
  have xd0 := hXd.cell 0 _ rfl
  have xd1 := hXd.cell 1 _ rfl
  have xd2 := hXd.cell 2 _ rfl
  have xd3 := hXd.cell 3 _ rfl
  have hsD := hs1.below bd
  obtain ⟨ye, hye⟩ : ∃ x, x = icE ys := ⟨_, rfl⟩
  obtain ⟨y0, hy0⟩ : ∃ x, x = icN ys 0 1 := ⟨_, rfl⟩
  obtain ⟨yc1, hyc1⟩ : ∃ x, x = icN ys 1 1 := ⟨_, rfl⟩
  obtain ⟨y4, hy4⟩ : ∃ x, x = icN ys 4 4 := ⟨_, rfl⟩
  obtain ⟨YB, hYB⟩ : ∃ x, x = icB ys := ⟨_, rfl⟩
  have hml : YB.length ≤ n0 := by
    rw [hYB, ← hy.len]
    unfold icB
    split
    · rw [List.length_drop]; omega
    · simp
  have G1 := (show Hid _ from hye)
  have G2 := (show Hid _ from hy0)
  have G3 := (show Hid _ from hyc1)
  have G4 := (show Hid _ from hy4)
  have G5 := (show Hid _ from hYB)
  obtain ⟨m, hm⟩ : ∃ m, m = YB.length := ⟨_, rfl⟩
  have hmb : m ≤ 140737488351232 := by omega
  have G6 := (show Hid _ from hm)
  clear hye hy0 hyc1 hy4 hYB hml hm x0 x1 x2 x3
  go_wp2_with fail
  refine wp_region_held_drew (S := (fun w' => (convert 23 9 (.slice a1 (8 + n) c1)).run Try.prog w' = .ok (.string (strOf V)) w' ∧ w'.cell? ⟨w.heap.size, 0, none⟩ = some (.int .u8 (ty : Nat)) ∧ w'.cell? ⟨w.heap.size, 1, none⟩ = some (.int .u8 (co : Nat)) ∧ w'.cell? ⟨w.heap.size, 2, none⟩ = some (.int .u32 (re : Nat)) ∧ w'.cell? ⟨w.heap.size, 3, none⟩ = some (.slice a n c))) (by kernel_rfl) ?hS (fun hHeld => ?_)
  case hS => (first | with_reducible exact ⟨kD, xd0, xd1, xd2, xd3⟩)
  refine wpAnyH_take (i := 0) (v := ?v0) (by simp only [List.getElem?_toArray, List.getElem?_cons_zero]; rfl) (by kernel_rfl) (by kernel_rfl) (by kernel_rfl) (by exact fun _ _ _ h => h) (Or.inl ⟨by rfl, ?hy0⟩) (by assumption) ?rest0
  case hy0 => (intro w hSw; (try dsimp only at hSw); go_simp; try with_reducible rfl)
  try simp only [Act.put, List.setIfInBounds_toArray, List.set_cons_zero, List.set_cons_succ]
  refine wpAnyH_take (i := 1) (v := ?v1) (by simp only [List.getElem?_toArray, List.getElem?_cons_succ, List.getElem?_cons_zero]; rfl) (by kernel_rfl) (by kernel_rfl) (by kernel_rfl) (by exact fun _ _ _ h => h) (Or.inl ⟨by rfl, ?hy1⟩) (by assumption) ?rest1
  case hy1 => (intro w hSw; (try dsimp only at hSw); go_simp; try with_reducible rfl)
  try simp only [Act.put, List.setIfInBounds_toArray, List.set_cons_zero, List.set_cons_succ]
  refine wpAnyH_take (i := 2) (v := ?v2) (by simp only [List.getElem?_toArray, List.getElem?_cons_succ, List.getElem?_cons_zero]; rfl) (by kernel_rfl) (by kernel_rfl) (by kernel_rfl) (by exact fun _ _ _ h => h) (Or.inl ⟨by rfl, ?hy2⟩) (by assumption) ?rest2
  case hy2 => (intro w hSw; (try dsimp only at hSw); go_simp; try with_reducible rfl)
  try simp only [Act.put, List.setIfInBounds_toArray, List.set_cons_zero, List.set_cons_succ]
  refine wpAnyH_ready (rs := [3]) (by kernel_rfl) (by simp) ?_
  refine AllReadyH.cons rfl (fun K hK => ?_) AllReadyH.nil
  go_simp
  refine (hr _ hsD).mono ?_
  rintro e w2 ⟨a2, c2, rfl, o2, b2⟩
  have b12 : Below w1.heap.size w1 w2 := bd.trans b2
  have k12 := conv_str (r1.below b12)
  have k2 := conv_str (o2.sl (by omega))
  have hX2 := hX1.below b12
  have xe0 := hX2.cell 0 _ rfl
  have xe1 := hX2.cell 1 _ rfl
  have xe2 := hX2.cell 2 _ rfl
  have xe3 := hX2.cell 3 _ rfl
  try go_wp2_with fail
  refine hK.out _ _ ?hS3 (fun hHeld2 => ?_)
  case hS3 => (first | with_reducible exact ⟨k12, xe0, xe1, xe2, xe3⟩)
  clear hK K
  clear hHeld
  have hHeld := hHeld2
  clear hHeld2
  refine wpAnyH_ready (rs := [4]) (by kernel_rfl) (by simp) ?_
  refine AllReadyH.cons rfl (fun K hK => ?_) AllReadyH.nil
  go_simp
  skip
  try go_wp2_with fail
  refine hK.out _ _ ?hS4 (fun hHeld2 => ?_)
  case hS4 => (first | with_reducible exact ⟨k12, xe0, xe1, xe2, xe3⟩)
  clear hK K
  clear hHeld
  have hHeld := hHeld2
  clear hHeld2
  refine wpAnyH_take (i := 5) (v := ?v5) (by simp only [List.getElem?_toArray, List.getElem?_cons_succ, List.getElem?_cons_zero]; rfl) (by kernel_rfl) (by kernel_rfl) (by kernel_rfl) (by exact fun _ _ _ h => h) (Or.inl ⟨by rfl, ?hy5⟩) (by assumption) ?rest5
  case hy5 => (intro w hSw; (try dsimp only at hSw); go_simp; try with_reducible rfl)
  try simp only [Act.put, List.setIfInBounds_toArray, List.set_cons_zero, List.set_cons_succ]
  refine wpAnyH_done (by kernel_rfl) ?_ _
  all_goals
    have hs2 := hs1.below b12
    have hy2 := hy1.below b12
    have r12 := r1.below b12
    have bb2 : Below w.heap.size w w2 := bb1.trans (b12.mono bb1.size)
    clear kD hXd xd0 xd1 xd2 xd3 hsD bd hr o1 o2 r1 hX1 hs1 hy1 bb1 b12 b2
    go_wp2_with fail
    refine (takeIcmp_any a1 (8 + n) c1 V w2 r12 (by omega)).mono ?_
    rintro e w3 ⟨⟨a3, c3, rfl, o3⟩, b3⟩
    rw [H0.out, H1.out, H4.out, HB.out, HE.out, HL.out]
    rw [HB.out, HL.out] at o3
    obtain ⟨w4, hw4⟩ : ∃ w4, w4 = w3.alloc (.cells #[.int .u8 (ty : Nat), .int .u8 (co : Nat), .int .u32 (re : Nat), .slice a3 n c3] 25) := ⟨_, rfl⟩
    have b34 : Below w3.heap.size w3 w4 := by rw [hw4]; exact (Below.refl _ _).alloc (Nat.le_refl _) _
    have hY4 := Stc.new w3 [.int .u8 (ty : Nat), .int .u8 (co : Nat), .int .u32 (re : Nat), .slice a3 n c3] 25 w4 hw4
    have b24 : Below w2.heap.size w2 w4 := b3.trans (b34.mono b3.size)
    have q4 := (o3.below b34).sl (by omega)
    have hX4 := hX2.below b24
    have hs4 := hs2.below b24
    have hy4' := hy2.below b24
    have bb4 : Below w.heap.size w w4 := bb2.trans (b24.mono bb2.size)
    clear o3 b3 b34 b24 hX2 hs2 hy2 r12 bb2 xe0 xe1 xe2 xe3 k12 k2
    go_wp2_with fail
    rw [← hw4]
    clear hw4
    refine (takeIcmp_any a0 n0 c0 ys w4 hy4' (by omega)).mono ?_
    rintro e w5 ⟨⟨a5, c5, rfl, o5⟩, b5⟩
    rw [← G1.out, ← G2.out, ← G3.out, ← G4.out, ← G5.out, ← G6.out]
    rw [← G5.out, ← G6.out] at o5
    obtain ⟨w6, hw6⟩ : ∃ w6, w6 = w5.alloc (.cells #[.int .u8 (y0 : Nat), .int .u8 (yc1 : Nat), .int .u32 (y4 : Nat), .slice a5 m c5] 25) := ⟨_, rfl⟩
    have b56 : Below w5.heap.size w5 w6 := by rw [hw6]; exact (Below.refl _ _).alloc (Nat.le_refl _) _
    have hZ6 := Stc.new w5 [.int .u8 (y0 : Nat), .int .u8 (yc1 : Nat), .int .u32 (y4 : Nat), .slice a5 m c5] 25 w6 hw6
    have b46 : Below w4.heap.size w4 w6 := b5.trans (b56.mono b5.size)
    have p6 := (o5.below b56).sl (by omega)
    have q6 := q4.below b46
    have hX6 := hX4.below b46
    have hY6 := hY4.below b46
    have hs6 := hs4.below b46
    have hy6 := hy4'.below b46
    have bb6 : Below w.heap.size w w6 := bb4.trans (b46.mono bb4.size)
    clear o5 b5 b56 b46 hX4 hY4 hs4 hy4' q4 bb4
    go_wp2_with fail
    rw [← hw6]
    clear hw6
    refine (rtakeIcmp_any a0 n0 c0 ys w6 hy6 (by omega)).mono ?_
    rintro e w7 ⟨⟨a7, c7, rfl, o7⟩, b7⟩
    rw [← G1.out, ← G2.out, ← G3.out, ← G4.out, ← G5.out, ← G6.out]
    rw [← G5.out, ← G6.out] at o7
    obtain ⟨w8, hw8⟩ : ∃ w8, w8 = w7.alloc (.cells #[.int .u8 (y0 : Nat), .int .u8 (yc1 : Nat), .int .u32 (y4 : Nat), .slice a7 m c7] 25) := ⟨_, rfl⟩
    have b78 : Below w7.heap.size w7 w8 := by rw [hw8]; exact (Below.refl _ _).alloc (Nat.le_refl _) _
    have hU8 := Stc.new w7 [.int .u8 (y0 : Nat), .int .u8 (yc1 : Nat), .int .u32 (y4 : Nat), .slice a7 m c7] 25 w8 hw8
    have b68 : Below w6.heap.size w6 w8 := b7.trans (b78.mono b7.size)
    have u8 := (o7.below b78).sl (by omega)
    have p8 := p6.below b68
    have q8 := q6.below b68
    have hX8 := hX6.below b68
    have hY8 := hY6.below b68
    have hZ8 := hZ6.below b68
    have hs8 := hs6.below b68
    have bb8 : Below w.heap.size w w8 := bb6.trans (b68.mono bb6.size)
    clear o7 b7 b78 b68 hX6 hY6 hZ6 hs6 hy6 q6 p6 bb6
    go_wp2_with fail
    rw [← hw8]
    clear hw8
    refine (live10_any w8).mono ?_
    rintro e w9 ⟨rfl, b9⟩
    have f1 := conv_str (q8.below b9)
    have f2 := conv_str (hs8.below b9)
    have f3 := conv_str (p8.below b9)
    have f4 := conv_str (u8.below b9)
    have hX9 := hX8.below b9
    have hY9 := hY8.below b9
    have hZ9 := hZ8.below b9
    have hU9 := hU8.below b9
    have bb9 : Below w.heap.size w w9 := bb8.trans (b9.mono bb8.size)
    have tx0 := hX9.cell 0 _ rfl
    have tx1 := hX9.cell 1 _ rfl
    have tx2 := hX9.cell 2 _ rfl
    have tx3 := hX9.cell 3 _ rfl
    have ty0 := hY9.cell 0 _ rfl
    have ty1 := hY9.cell 1 _ rfl
    have ty2 := hY9.cell 2 _ rfl
    have ty3 := hY9.cell 3 _ rfl
    have tz0 := hZ9.cell 0 _ rfl
    have tz1 := hZ9.cell 1 _ rfl
    have tz2 := hZ9.cell 2 _ rfl
    have tz3 := hZ9.cell 3 _ rfl
    have tu0 := hU9.cell 0 _ rfl
    have tu1 := hU9.cell 1 _ rfl
    have tu2 := hU9.cell 2 _ rfl
    have tu3 := hU9.cell 3 _ rfl
    clear hX8 hY8 hZ8 hU8 hX9 hY9 hZ9 hU9 hs8 p8 q8 u8 bb8 b9
    go_wp2
    go_ret
    exact ⟨rfl, bb9⟩
end Go.Proofs.Ytpmfofgnapopaab
