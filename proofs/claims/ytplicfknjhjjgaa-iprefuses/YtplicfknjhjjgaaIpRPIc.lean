/- What ref10.PutIcmp answers. -/
import Derived.Test.YtplicfknjhjjgaaIpPIc
import Derived.Test.YtplicfknjhjjgaaRLay
import Derived.Test.YtplicfknjhjjgaaRefNetI
namespace Go.Proofs.Ytplicfknjhjjgaa
open Go.RowKit
theorem ic_two (ty co : Nat) (hty : ty < 256) (hco : co < 256) : bytesB ty 1 ++ bytesB co 1 = [ty, co] := by simp [bytesB, Nat.mod_eq_of_lt hty, Nat.mod_eq_of_lt hco]
theorem icV_ref (ty co re : Nat) (zs : List Nat) (hty : ty < 256) (hco : co < 256) : icV ty co re zs = ([ty, co] ++ bytesB (net ([ty, co] ++ (bytesB re 4 ++ zs))) 2) ++ (bytesB re 4 ++ zs) := by
  unfold icV icZ
  rw [ic_two ty co hty hco, net_mid [ty, co] (by simp), List.append_assoc]
set_option maxRecDepth 100000 in
set_option maxHeartbeats 1000000 in
theorem rputIcmp_any (ty co re : Nat) (a : Option Addr) (n c : Nat) (zs : List Nat) (w : World) (hty : ty < 256) (hco : co < 256) (hre : re < 4294967296) (hs : Sl w a n c zs) (hn : n ≤ 140737488355320) :
    Calls Try.prog 6 #[.agg #[.int .u8 (ty : Nat), .int .u8 (co : Nat), .int .u32 (re : Nat), .slice a n c]] w fun e w' => ∃ a' c', e = .returned (.slice a' (8 + n) c') ∧ OwnB w' w.heap.size a' (8 + n) c' (icV ty co re zs) ∧ Below w.heap.size w w' := by
  have hl := hs.len
  have HV := (show Hid _ from icV_ref ty co re zs hty hco)
  obtain ⟨V, hV⟩ : ∃ V, V = icV ty co re zs := ⟨_, rfl⟩
  rw [← hV] at HV ⊢
  clear hV
  obtain ⟨E1, hE1⟩ : ∃ L, L = [] ++ bytesB re 4 := ⟨_, rfl⟩
  have j1 : E1.length = 4 := by rw [hE1]; simp [bytesB_len]
  have M1 := (show Hid _ from hE1.symm)
  have J1 := (show Hid _ from j1)
  rw [show bytesB re 4 = E1 from by rw [hE1]; rfl] at HV
  obtain ⟨E2, hE2⟩ : ∃ L, L = E1 ++ zs := ⟨_, rfl⟩
  rw [← hE2] at HV
  have M2 := (show Hid _ from hE2.symm)
  have hNle := net_le ([ty, co] ++ E2)
  obtain ⟨NN, hNN⟩ : ∃ N, N = net ([ty, co] ++ E2) := ⟨_, rfl⟩
  rw [← hNN] at HV hNle
  have HNN := (show Hid _ from hNN.symm)
  clear hE1 hE2 j1 hNN
  obtain ⟨W, hW⟩ : ∃ W, W = w.alloc (.cells #[.int .u8 (ty : Nat), .int .u8 (co : Nat), .int .u32 (re : Nat), .slice a n c] 28) := ⟨_, rfl⟩
  have hX := Stc.new w [.int .u8 (ty : Nat), .int .u8 (co : Nat), .int .u32 (re : Nat), .slice a n c] 28 W hW
  have hbW : Below w.heap.size w W := by rw [hW]; exact (Below.refl _ _).alloc (Nat.le_refl _) _
  have hsW := hs.below hbW
  have x2 := hX.cell 2 _ rfl
  go_enter Try.func6, Try.ntmps6
  go_wp2_with fail
  rw [← hW]
  clear hW
  refine (rlayF_any W.heap.size none 0 0 [] re 4 W (OwnB.nil _ _) (Nat.le_refl _) (by show re < 256 ^ 4; omega) (by omega) (by omega) (by omega)).mono ?_
  rintro e w1 ⟨⟨a1, c1, rfl, e1, p1⟩, r1⟩
  rw [M1.out, J1.out] at e1 ⊢
  have b1 : Below W.heap.size W w1 := r1.below _ (Nat.le_refl _) (fun k hk => by cases hk)
  have hz1 := b1.size
  have hX1 := hX.below b1
  have hs1 := hsW.below b1
  have y3 := hX1.cell 3 _ rfl
  clear x2 r1 p1
  go_wp2_with (at_builtin; go_must (refine app_list rfl _ _ rfl W.heap.size a1 4 c1 E1 rfl e1 _ n c zs rfl hs1 (by omega) hz1 ?_))
  intro a2 c2 w2 e2 g2
  rw [M2.out] at e2
  have b2 : Below W.heap.size W w2 := b1.trans (e1.up g2 hz1)
  have hz2 := b2.size
  have hX2 := hX.below b2
  have y0 := hX2.cell 0 _ rfl
  have y1 := hX2.cell 1 _ rfl
  clear y3 e1 g2 hX1 hs1 b1 hz1
  have bA : Below w2.heap.size w2 (w2.alloc (.cells #[.int .u8 (ty : Nat), .int .u8 (co : Nat)] 5)) := (Below.refl _ _).alloc (Nat.le_refl _) _
  have f0 : OwnB (w2.alloc (.cells #[.int .u8 (ty : Nat), .int .u8 (co : Nat)] 5)) w2.heap.size (some ⟨w2.heap.size, 0, none⟩) 2 2 [ty, co] := own_lit w2 [ty, co] (getD_bnd _ (by simp [hty, hco])) (by simp)
  have rE := (e2.below bA).sl (by omega)
  go_wp2_with (at_builtin; go_must (refine app_list rfl _ _ rfl w2.heap.size _ 2 2 [ty, co] rfl f0 _ (4 + n) c2 E2 rfl rE (by omega) (by simp) ?_))
  intro a4 c4 w4 f4 g4
  have b24 : Below w2.heap.size w2 w4 := bA.trans (f0.up g4 (by simp))
  have b4 : Below W.heap.size W w4 := b2.trans (b24.mono hz2)
  have hz4 := b4.size
  have e24 := e2.below b24
  have hX4 := hX.below b4
  clear y0 y1 bA f0 rE g4 e2 hX2
  go_wp2_with fail
  refine (refnet_any a4 (2 + (4 + n)) c4 ([ty, co] ++ E2) w4 (f4.sl (by omega))).mono ?_
  rintro e w' ⟨rfl, hw'⟩
  subst w'
  rw [HNN.out]
  have y0 := hX4.cell 0 _ rfl
  have y1 := hX4.cell 1 _ rfl
  clear f4
  obtain ⟨w5, hw5⟩ : ∃ w5, w5 = w4.alloc (.cells #[.int .u8 (ty : Nat), .int .u8 (co : Nat)] 5) := ⟨_, rfl⟩
  have b45 : Below w4.heap.size w4 w5 := by rw [hw5]; exact (Below.refl _ _).alloc (Nat.le_refl _) _
  have f5 : OwnB w5 w4.heap.size (some ⟨w4.heap.size, 0, none⟩) 2 2 [ty, co] := by rw [hw5]; exact own_lit w4 [ty, co] (getD_bnd _ (by simp [hty, hco])) (by simp)
  have hz45 := b45.size
  go_wp2_with fail
  rw [← hw5]
  clear hw5
  refine (rlayF_any w4.heap.size (some ⟨w4.heap.size, 0, none⟩) 2 2 [ty, co] NN 2 w5 f5 hz45 (by show NN < 256 ^ 2; omega) (by omega) (by omega) (by omega)).mono ?_
  rintro e w6 ⟨⟨a6, c6, rfl, h1, p6⟩, r6⟩
  have hhl : ([ty, co] ++ bytesB NN 2).length = 4 := by simp [bytesB_len]
  rw [hhl] at h1 ⊢
  have b46 : Below w4.heap.size w4 w6 := b45.trans (r6.below _ hz45 (fun k hk => (f5.own.lt k hk).1))
  have hz46 := b46.size
  have rE6 := (e24.below b46).sl (by omega)
  clear r6 p6 f5 b45 y0 y1
  go_wp2_with (at_builtin; go_must (refine app_list rfl _ _ rfl w4.heap.size a6 4 c6 _ rfl h1 _ (4 + n) c2 E2 rfl rE6 (by omega) hz46 ?_))
  intro a7 c7 w7 h2 g7
  have b47 : Below w4.heap.size w4 w7 := b46.trans (h1.up g7 hz46)
  have b7 : Below w.heap.size w w7 := hbW.trans ((b4.trans (b47.mono hz4)).mono hbW.size)
  have h3 := h2.base (Nat.le_trans hbW.size hz4)
  have h5 : OwnB w7 w.heap.size a7 (8 + n) c7 V := by
    rw [HV.out, show 8 + n = 4 + (4 + n) from by omega]
    simpa using h3
  clear h1 h2 h3 g7 rE6 e24 b46 b47
  go_wp2
  go_ret
  exact ⟨a7, c7, by rw [show 8 + n = 4 + (4 + n) from by omega]; rfl, h5, b7⟩
end Go.Proofs.Ytplicfknjhjjgaa
