/- What ref10.Put answers. -/
import Derived.Test.YtplicfknjhjjgaaIpPut
import Derived.Test.YtplicfknjhjjgaaRLay
import Derived.Test.YtplicfknjhjjgaaRefNetI
import Derived.Test.YtplicfknjhjjgaaIpRChk
namespace Go.Proofs.Ytplicfknjhjjgaa
open Go.RowKit
theorem ref_front (n id fl tt pr : Nat) : ((([69, 0] ++ bytesB (20 + n) 2) ++ bytesB id 2) ++ bytesB fl 2) ++ [tt % 256, pr % 256] = ipA n id fl tt pr := by
  simp [ipA, bytesB]
set_option maxRecDepth 100000 in
set_option maxHeartbeats 1000000 in
theorem riput_any (sr ds pr tt id : Nat) (dn mo : Bool) (of : Int) (a : Option Addr) (n c : Nat) (zs : List Nat) (w : World) (hsr : sr < 4294967296) (hds : ds < 4294967296) (hpr : pr < 256) (htt : tt < 256) (hid : id < 65536) (hs : Sl w a n c zs) :
    Calls Try.prog 27 #[.agg #[.int .u32 (sr : Nat), .int .u32 (ds : Nat), .int .u8 (pr : Nat), .int .u8 (tt : Nat), .int .u16 (id : Nat), .bool dn, .bool mo, .int .i64 of, .slice a n c]] w fun e w' => RowE w (ipV sr ds pr tt id dn mo of zs) (mbE mo of n) e w' := by
  have hl := hs.len
  have hsm := hs.small
  obtain ⟨W, hW⟩ : ∃ W, W = w.alloc (.cells #[.int .u32 (sr : Nat), .int .u32 (ds : Nat), .int .u8 (pr : Nat), .int .u8 (tt : Nat), .int .u16 (id : Nat), .bool dn, .bool mo, .int .i64 of, .slice a n c] 26) := ⟨_, rfl⟩
  have hX := Stc.new w [.int .u32 (sr : Nat), .int .u32 (ds : Nat), .int .u8 (pr : Nat), .int .u8 (tt : Nat), .int .u16 (id : Nat), .bool dn, .bool mo, .int .i64 of, .slice a n c] 26 W hW
  have hbW : Below w.heap.size w W := by rw [hW]; exact (Below.refl _ _).alloc (Nat.le_refl _) _
  have hsW := hs.below hbW
  have x0 := hX.cell 0 _ rfl
  have x1 := hX.cell 1 _ rfl
  have x2 := hX.cell 2 _ rfl
  have x3 := hX.cell 3 _ rfl
  have x4 := hX.cell 4 _ rfl
  have x5 := hX.cell 5 _ rfl
  have x6 := hX.cell 6 _ rfl
  have x7 := hX.cell 7 _ rfl
  have x8 := hX.cell 8 _ rfl
  have hmb := fun W => check_any sr ds pr tt id dn mo of a n c W hsm
  by_cases hE : mbE mo of n = 0
  case neg =>
    have hne : ¬ ((mbE mo of n : Nat) : Int) = 0 := by omega
    have hne2 : (((mbE mo of n : Nat) : Int) != 0) = true := by simpa using hne
    have HV : Hid (ipV sr ds pr tt id dn mo of zs = []) := by show _ = _; unfold ipV; rw [hl, if_neg hE]
    generalize mbE mo of n = E at *
    go_enter Try.func27, Try.ntmps27
    go_wp2_with fail
    rw [← hW]
    clear hW
    refine (hmb W).mono ?_
    rintro e w1 ⟨rfl, b1⟩
    go_wp2
    go_ret2
    rw [HV.out]
    exact ⟨⟨none, 0, rfl, OwnB.nil _ _⟩, hbW.trans (b1.mono hbW.size)⟩
  case pos =>
  obtain ⟨q1, q2, q3, q4, q5⟩ := mbE_ok hE
  obtain ⟨o, ho⟩ : ∃ o : Nat, of = (o : Int) := ⟨of.toNat, by omega⟩
  subst ho
  have HV : Hid (ipV sr ds pr tt id dn mo (o : Int) zs = ipHd sr ds pr tt id (flV dn mo o) n ++ zs) := by show _ = _; unfold ipV; rw [hl, if_pos hE, Int.toNat_natCast]
  have HL : Hid ((ipV sr ds pr tt id dn mo (o : Int) zs).length = 20 + n) := by show _ = _; rw [HV.out, List.length_append, ipHd_len, hl]
  have HE := (show Hid _ from hE)
  rw [hE] at hmb
  have hfl := flV_lt dn mo o (by omega)
  have HFL : Hid (flV dn mo o = o / 8 + (if dn = true then 16384 else 0) + (if mo = true then 8192 else 0)) := rfl
  have HHD : Hid (ipHd sr ds pr tt id (flV dn mo o) n = ipA n id (flV dn mo o) tt pr ++ (bytesB (net (ipA n id (flV dn mo o) tt pr ++ ipR sr ds)) 2 ++ ipR sr ds)) := by
    show _ = _
    unfold ipHd
    rw [net_mid _ (by rw [ipA_len])]
  have HFR := (show Hid _ from ref_front n id (flV dn mo o) tt pr)
  obtain ⟨fl, hfle⟩ : ∃ fl, fl = flV dn mo o := ⟨_, rfl⟩
  rw [← hfle] at HV hfl HFL HHD HFR
  have hfq : o / 8 < 8192 := by omega
  clear q3 q4 hE hfle
  go_enter Try.func27, Try.ntmps27
  go_wp2_with fail
  rw [← hW]
  clear hW
  refine (hmb W).mono ?_
  rintro e w1 ⟨rfl, b1⟩
  have hX1 := hX.below b1
  have hs1 := hsW.below b1
  have bb1 : Below w.heap.size w w1 := hbW.trans (b1.mono hbW.size)
  have hz1 : w.heap.size < w1.heap.size := hX1.lt
  clear x0 x1 x2 x3 x4 x5 x6 x7 x8 hX hsW hbW b1 hmb
  have x0 := hX1.cell 0 _ rfl
  have x1 := hX1.cell 1 _ rfl
  have x2 := hX1.cell 2 _ rfl
  have x3 := hX1.cell 3 _ rfl
  have x4 := hX1.cell 4 _ rfl
  have x5 := hX1.cell 5 _ rfl
  have x6 := hX1.cell 6 _ rfl
  have x7 := hX1.cell 7 _ rfl
  have x8 := hX1.cell 8 _ rfl
  obtain ⟨w2, hw2⟩ : ∃ w2, w2 = w1.alloc (.cells #[.int .u8 69, .int .u8 0] 5) := ⟨_, rfl⟩
  have f0 : OwnB w2 w1.heap.size (some ⟨w1.heap.size, 0, none⟩) 2 2 [69, 0] := by rw [hw2]; exact own_lit w1 [69, 0] (getD_bnd _ (by decide)) (by decide)
  have b12 : Below w1.heap.size w1 w2 := by rw [hw2]; exact (Below.refl _ _).alloc (Nat.le_refl _) _
  have hz2 := b12.size
  have hX2a : ∀ cs, Stc (w1.alloc (.cells cs 5)) w.heap.size [.int .u32 (sr : Nat), .int .u32 (ds : Nat), .int .u8 (pr : Nat), .int .u8 (tt : Nat), .int .u16 (id : Nat), .bool dn, .bool mo, .int .i64 ((o : Nat) : Int), .slice a n c] := fun cs => hX1.below ((Below.refl _ _).alloc (Nat.le_refl _) _)
  have x8a := fun cs => (hX2a cs).cell 8 _ rfl
  -- the flags
  have HHX : Hid (∀ W', Below w1.heap.size w1 W' → Stc W' w.heap.size [.int .u32 (sr : Nat), .int .u32 (ds : Nat), .int .u8 (pr : Nat), .int .u8 (tt : Nat), .int .u16 (id : Nat), .bool dn, .bool mo, .int .i64 ((o : Nat) : Int), .slice a n c] ∧ Sl W' a n c zs) := fun W' h => ⟨hX1.below h, hs1.below h⟩
  have hR4 : (ipR sr ds).length = 8 := ipR_len sr ds
  have hA4 : (ipA n id fl tt pr).length = 10 := ipA_len n id fl tt pr
  obtain ⟨L1, hL1⟩ : ∃ L, L = [69, 0] ++ bytesB (20 + n) 2 := ⟨_, rfl⟩
  obtain ⟨L2, hL2⟩ : ∃ L, L = L1 ++ bytesB id 2 := ⟨_, rfl⟩
  obtain ⟨L3, hL3⟩ : ∃ L, L = L2 ++ bytesB fl 2 := ⟨_, rfl⟩
  obtain ⟨L4, hL4⟩ : ∃ L, L = L3 ++ [tt, pr] := ⟨_, rfl⟩
  obtain ⟨E1, hE1⟩ : ∃ L, L = [] ++ bytesB sr 4 := ⟨_, rfl⟩
  obtain ⟨E2, hE2⟩ : ∃ L, L = E1 ++ bytesB ds 4 := ⟨_, rfl⟩
  have k1 : L1.length = 4 := by rw [hL1]; simp [bytesB_len]
  have k2 : L2.length = 6 := by rw [hL2]; simp [bytesB_len, k1]
  have k3 : L3.length = 8 := by rw [hL3]; simp [bytesB_len, k2]
  have k4 : L4.length = 10 := by rw [hL4]; simp [k3]
  have j1 : E1.length = 4 := by rw [hE1]; simp [bytesB_len]
  have j2 : E2.length = 8 := by rw [hE2]; simp [bytesB_len, j1]
  have HA : Hid (ipA n id fl tt pr = L4) := by
    show _ = _
    rw [← HFR.out, hL4, hL3, hL2, hL1, Nat.mod_eq_of_lt htt, Nat.mod_eq_of_lt hpr]
  have HR : Hid (ipR sr ds = E2) := by show _ = _; rw [hE2, hE1]; rfl
  rw [HA.out, HR.out] at HHD
  have N1 := (show Hid _ from hL1.symm)
  have N2 := (show Hid _ from hL2.symm)
  have N3 := (show Hid _ from hL3.symm)
  have N4 := (show Hid _ from hL4.symm)
  have M1 := (show Hid _ from hE1.symm)
  have M2 := (show Hid _ from hE2.symm)
  have K1 := (show Hid _ from k1)
  have K2 := (show Hid _ from k2)
  have K3 := (show Hid _ from k3)
  have K4 := (show Hid _ from k4)
  have J1 := (show Hid _ from j1)
  have J2 := (show Hid _ from j2)
  have hNle := net_le (L4 ++ E2)
  obtain ⟨NN, hNN⟩ : ∃ N, N = net (L4 ++ E2) := ⟨_, rfl⟩
  rw [← hNN] at HHD hNle
  have HNN := (show Hid _ from hNN.symm)
  clear hL1 hL2 hL3 hL4 hE1 hE2 k1 k2 k3 k4 j1 j2 hR4 hA4 hNN hX1 hs1
  cases dn <;> cases mo
  all_goals
    have HFV : Hid _ := HFL.out
    simp at HFV
    clear HFL
    go_wp2_with fail
    rw [← hw2, show (20 : Int) + (n : Int) = ((20 + n : Nat) : Int) from by omega]
    clear hw2 x8a hX2a
    refine (rlayF_any w1.heap.size (some ⟨w1.heap.size, 0, none⟩) 2 2 [69, 0] (20 + n) 2 w2 f0 hz2 (by show 20 + n < 256 ^ 2; omega) (by omega) (by omega) (by omega)).mono ?_
    rintro e w3 ⟨⟨a3, c3, rfl, f1, p3⟩, r3⟩
    rw [N1.out, K1.out] at f1 ⊢
    have b13 : Below w1.heap.size w1 w3 := b12.trans (r3.below _ hz2 (fun k hk => (f0.own.lt k hk).1))
    have hz3 := b13.size
    have hX3 := (HHX.out w3 b13).1
    clear x0 x1 x2 x3 x4 x5 x6 x7 x8
    have x4 := hX3.cell 4 _ rfl
    clear f0 r3 p3 b12
    go_wp2_with fail
    refine (rlayF_any w1.heap.size a3 4 c3 L1 id 2 w3 f1 hz3 (by show id < 256 ^ 2; omega) (by omega) (by omega) (by omega)).mono ?_
    rintro e w4 ⟨⟨a4, c4, rfl, f2, p4⟩, r4⟩
    rw [N2.out, K2.out] at f2 ⊢
    have b14 : Below w1.heap.size w1 w4 := b13.trans (r4.below _ hz3 (fun k hk => (f1.own.lt k hk).1))
    have hz4 := b14.size
    clear f1 r4 p4 b13 x4 hX3
    go_wp2_with fail
    first
      | rw [show (o : Int) / 8 + 16384 + 8192 = ((fl : Nat) : Int) from by have := HFV.out; omega]
      | rw [show (o : Int) / 8 + 16384 = ((fl : Nat) : Int) from by have := HFV.out; omega]
      | rw [show (o : Int) / 8 + 8192 = ((fl : Nat) : Int) from by have := HFV.out; omega]
      | rw [show (o : Int) / 8 = ((fl : Nat) : Int) from by have := HFV.out; omega]
    refine (rlayF_any w1.heap.size a4 6 c4 L2 fl 2 w4 f2 hz4 (by show fl < 256 ^ 2; omega) (by omega) (by omega) (by omega)).mono ?_
    rintro e w5 ⟨⟨a5, c5, rfl, f3, p5⟩, r5⟩
    rw [N3.out, K3.out] at f3 ⊢
    have b15 : Below w1.heap.size w1 w5 := b14.trans (r5.below _ hz4 (fun k hk => (f2.own.lt k hk).1))
    have hz5 := b15.size
    have hX5 := (HHX.out w5 b15).1
    have x2 := hX5.cell 2 _ rfl
    have x3 := hX5.cell 3 _ rfl
    clear f2 r5 p5 b14
    have bA : Below w5.heap.size w5 (w5.alloc (.cells #[.int .u8 (tt : Nat), .int .u8 (pr : Nat)] 5)) := (Below.refl _ _).alloc (Nat.le_refl _) _
    have f3a := f3.below bA
    have s2 := sl_two w5 5 (tt : Int) (pr : Int) tt pr rfl rfl htt hpr
    go_wp2_with (at_builtin; go_must (refine app_list rfl _ _ rfl w1.heap.size a5 8 c5 L3 rfl f3a _ 2 2 [tt, pr] rfl s2 (by omega) (by simp; omega) ?_))
    intro a6 c6 w6 f4 g6
    rw [N4.out] at f4
    have b16 : Below w1.heap.size w1 w6 := (b15.trans (bA.mono hz5)).trans (f3a.up g6 (by simp; omega))
    have hz6 := b16.size
    have hX6 := (HHX.out w6 b16).1
    have y0 := hX6.cell 0 _ rfl
    clear f3 f3a g6 bA s2 b15 x2 x3 hX5
    go_wp2_with fail
    refine (rlayF_any w6.heap.size none 0 0 [] sr 4 w6 (OwnB.nil _ _) (Nat.le_refl _) (by show sr < 256 ^ 4; omega) (by omega) (by omega) (by omega)).mono ?_
    rintro e w7 ⟨⟨a7, c7, rfl, e1, p7⟩, r7⟩
    rw [M1.out, J1.out] at e1 ⊢
    have f47 := f4.fr r7 (fun k hk h => by cases h)
    have hfb : ∀ g, (Value.slice a6 10 c6).ownBlock = some g → g < w6.heap.size := fun g hg => (f4.own.lt g hg).2
    have b67 : Below w6.heap.size w6 w7 := r7.below _ (Nat.le_refl _) (fun k hk => by cases hk)
    have hz67 := b67.size
    have b17 : Below w1.heap.size w1 w7 := b16.trans (b67.mono hz6)
    have hX7 := (HHX.out w7 b17).1
    have y1 := hX7.cell 1 _ rfl
    clear f4 r7 p7 y0 hX6 b16
    go_wp2_with fail
    refine (rlayF_any w6.heap.size a7 4 c7 E1 ds 4 w7 e1 hz67 (by show ds < 256 ^ 4; omega) (by omega) (by omega) (by omega)).mono ?_
    rintro e w8 ⟨⟨a8, c8, rfl, e2, p8⟩, r8⟩
    rw [M2.out, J2.out] at e2 ⊢
    have f48 := f47.fr r8 (fun k hk h => by have := hfb k hk; have := (e1.own.lt k h).1; omega)
    have b68 : Below w6.heap.size w6 w8 := b67.trans (r8.below _ hz67 (fun k hk => (e1.own.lt k hk).1))
    have hz68 := b68.size
    have b18 : Below w1.heap.size w1 w8 := (b17.trans (r8.below _ b17.size (fun k hk => by have := (e1.own.lt k hk).1; omega)))
    clear f47 r8 p8 e1 y1 hX7 b17 b67
    have hz18 := b18.size
    have ho : OwnB (w8.alloc (.cells #[] 5)) w8.heap.size (some ⟨w8.heap.size, 0, none⟩) 0 0 [] := own_empty w8
    have bB : Below w8.heap.size w8 (w8.alloc (.cells #[] 5)) := (Below.refl _ _).alloc (Nat.le_refl _) _
    have rF := (f48.sl (by omega)).below bB
    go_wp2_with (at_builtin; go_must (refine app_list rfl _ _ rfl w8.heap.size _ 0 0 [] rfl ho _ 10 c6 L4 rfl rF (by omega) (by simp) ?_))
    intro a9 c9 w9 t9 g9
    have b89 : Below w8.heap.size w8 w9 := bB.trans (ho.up g9 (by simp))
    have hz89 := b89.size
    have e29 := e2.below b89
    have rE := e29.sl (by omega)
    have t9' : OwnB w9 w8.heap.size a9 10 c9 L4 := by simpa using t9
    clear ho bB rF g9 t9
    go_wp2_with (at_builtin; go_must (refine app_list rfl _ _ rfl w8.heap.size _ 10 c9 L4 (by simp [Act.eval]) t9' _ 8 c8 E2 rfl rE (by omega) (by omega) ?_))
    intro a10 c10 w10 t10 g10
    have b810 : Below w8.heap.size w8 w10 := b89.trans (t9'.up g10 (by omega))
    have f410 := f48.below b810
    have e210 := e2.below b810
    clear t9' g10 rE e29 b89 f48 e2
    go_wp2_with fail
    refine (refnet_any a10 (10 + 8) c10 (L4 ++ E2) w10 (t10.sl (by omega))).mono ?_
    rintro e w' ⟨rfl, hw'⟩
    subst w'
    rw [HNN.out]
    have b110 : Below w1.heap.size w1 w10 := b18.trans (b810.mono b18.size)
    have hz110 := b110.size
    clear t10
    have heb : ∀ g, (Value.slice a8 8 c8).ownBlock = some g → w6.heap.size ≤ g := fun g hg => (e210.own.lt g hg).1
    go_wp2_with fail
    refine (rlayF_any w1.heap.size a6 10 c6 L4 NN 2 w10 f410 hz110 (by show NN < 256 ^ 2; omega) (by omega) (by omega) (by omega)).mono ?_
    rintro e w11 ⟨⟨a11, c11, rfl, h1, p11⟩, r11⟩
    have hhl : (L4 ++ bytesB NN 2).length = 12 := by rw [List.length_append, K4.out, bytesB_len]
    rw [hhl] at h1 ⊢
    have e211 := e210.fr r11 (fun k hk h => by have := hfb k h; have := heb k hk; omega)
    have b111 : Below w1.heap.size w1 w11 := b110.trans (r11.below _ hz110 (fun k hk => (f410.own.lt k hk).1))
    have hz111 := b111.size
    have rE2 := e211.sl (by omega)
    clear r11 p11 f410 e210 b110 b810 b18
    go_wp2_with (at_builtin; go_must (refine app_list rfl _ _ rfl w1.heap.size a11 12 c11 _ rfl h1 _ 8 c8 E2 rfl rE2 (by omega) hz111 ?_))
    intro a12 c12 w12 h2 g12
    have b112 : Below w1.heap.size w1 w12 := b111.trans (h1.up g12 hz111)
    have hz112 := b112.size
    have hX12 := (HHX.out w12 b112).1
    have hs12 := (HHX.out w12 b112).2
    have y8 := hX12.cell 8 _ rfl
    clear h1 g12 rE2 e211 b111 hX12 b68
    go_wp2_with (at_builtin; go_must (refine app_list rfl _ _ rfl w1.heap.size a12 (12 + 8) c12 _ rfl h2 _ n c zs rfl hs12 (by omega) hz112 ?_))
    intro a13 c13 w13 h3 g13
    have b113 : Below w1.heap.size w1 w13 := b112.trans (h2.up g13 hz112)
    have bb13 : Below w.heap.size w w13 := bb1.trans (b113.mono bb1.size)
    have h4 := h3.base bb1.size
    have h5 : OwnB w13 w.heap.size a13 (20 + n) c13 (ipHd sr ds pr tt id fl n ++ zs) := by
      rw [HHD.out]
      simpa [List.append_assoc] using h4
    rw [← HV.out] at h5
    clear h3 h2 h4 g13 b112 b113
    go_wp2
    go_ret2
    exact ⟨⟨a13, c13, by rw [HL.out, HE.out]; rfl, by rw [HL.out]; exact h5⟩, bb13⟩
end Go.Proofs.Ytplicfknjhjjgaa
