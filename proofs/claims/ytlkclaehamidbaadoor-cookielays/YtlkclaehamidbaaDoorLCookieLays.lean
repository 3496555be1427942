/- Whatever secret and cookies: the walk of law06.CookieLays ends with true. -/
import Derived.Test.YtlkclaehamidbaaDoorCkSa
import Derived.Test.YtlkclaehamidbaaDoorCkEq
import Derived.Deep.RegionHeld3
namespace Go.Proofs.YtlkclaehamidbaaDoor
open Go.RowKit
theorem strOf_ne {A B : List Nat} (hA : ∀ i, A.getD i 0 < 256) (hB : ∀ i, B.getD i 0 < 256) (h : ¬ A = B) : ((strOf A).toList == (strOf B).toList) = false := by
  have inj : ∀ (A B : List Nat), (∀ i, A.getD i 0 < 256) → (∀ i, B.getD i 0 < 256) → A.map UInt8.ofNat = B.map UInt8.ofNat → A = B := by
    intro A
    induction A with
    | nil => intro B _ _ h; cases B; rfl; cases h
    | cons x A ih =>
      intro B hA hB h
      cases B with
      | nil => cases h
      | cons y B =>
        injection h with h1 h2
        have hx := hA 0
        have hy := hB 0
        simp only [List.getD_cons_zero] at hx hy
        have e := congrArg UInt8.toNat h1
        rw [UInt8.toNat_ofNat', UInt8.toNat_ofNat', Nat.mod_eq_of_lt hx, Nat.mod_eq_of_lt hy] at e
        rw [e, ih B (fun i => hA (i + 1)) (fun i => hB (i + 1)) h2]
  cases e : ((strOf A).toList == (strOf B).toList) with
  | false => rfl
  | true =>
    have e1 := eq_of_beq e
    rw [Lib.toList_data, Lib.toList_data] at e1
    exact absurd (inj A B hA hB (by simpa [strOf] using e1)) h
set_option maxRecDepth 100000 in
set_option maxHeartbeats 4000000 in
theorem walk_CookieLays (a : Option Addr) (n c0 : Nat) (zs : List Nat) (made life : Int) (port pport tag ptag tsn ptsn room outs ins addr other : Nat) (qmade qlife : Int) (qport qpport qtag qptag qtsn qptsn qroom qouts qins qaddr qother : Nat) (w : World) (h0 : Sl w a n c0 zs ∧ c0 * 1 ≤ 140737488351232) (hm : (Lit.int .i64 made).wf = true) (hl : (Lit.int .i64 life).wf = true) (hport : port < 65536) (hpport : pport < 65536) (htag : tag < 4294967296) (hptag : ptag < 4294967296) (htsn : tsn < 4294967296) (hptsn : ptsn < 4294967296) (hroom : room < 4294967296) (houts : outs < 65536) (hins : ins < 65536) (haddr : addr < 4294967296) (hother : other < 4294967296) (hqm : (Lit.int .i64 qmade).wf = true) (hql : (Lit.int .i64 qlife).wf = true) (hqport : qport < 65536) (hqpport : qpport < 65536) (hqtag : qtag < 4294967296) (hqptag : qptag < 4294967296) (hqtsn : qtsn < 4294967296) (hqptsn : qptsn < 4294967296) (hqroom : qroom < 4294967296) (hqouts : qouts < 65536) (hqins : qins < 65536) (hqaddr : qaddr < 4294967296) (hqother : qother < 4294967296) (hkw : KW w) :
    Calls Tryd.prog 6 #[.slice a n c0, .agg #[.int .i64 made, .int .i64 life, .int .u16 (port : Nat), .int .u16 (pport : Nat), .int .u32 (tag : Nat), .int .u32 (ptag : Nat), .int .u32 (tsn : Nat), .int .u32 (ptsn : Nat), .int .u32 (room : Nat), .int .u16 (outs : Nat), .int .u16 (ins : Nat), .int .u32 (addr : Nat), .int .u32 (other : Nat)], .agg #[.int .i64 qmade, .int .i64 qlife, .int .u16 (qport : Nat), .int .u16 (qpport : Nat), .int .u32 (qtag : Nat), .int .u32 (qptag : Nat), .int .u32 (qtsn : Nat), .int .u32 (qptsn : Nat), .int .u32 (qroom : Nat), .int .u16 (qouts : Nat), .int .u16 (qins : Nat), .int .u32 (qaddr : Nat), .int .u32 (qother : Nat)]] w fun e w' => e = .returned (.bool true) ∧ Below w.heap.size w w' := by
  obtain ⟨hs, hcb⟩ := h0
  have hcap := hs.cap
  obtain ⟨W1, hW1⟩ : ∃ W, W = w.alloc (.cells #[.int .i64 made, .int .i64 life, .int .u16 (port : Nat), .int .u16 (pport : Nat), .int .u32 (tag : Nat), .int .u32 (ptag : Nat), .int .u32 (tsn : Nat), .int .u32 (ptsn : Nat), .int .u32 (room : Nat), .int .u16 (outs : Nat), .int .u16 (ins : Nat), .int .u32 (addr : Nat), .int .u32 (other : Nat)] 33) := ⟨_, rfl⟩
  obtain ⟨W, hW⟩ : ∃ W, W = W1.alloc (.cells #[.int .i64 qmade, .int .i64 qlife, .int .u16 (qport : Nat), .int .u16 (qpport : Nat), .int .u32 (qtag : Nat), .int .u32 (qptag : Nat), .int .u32 (qtsn : Nat), .int .u32 (qptsn : Nat), .int .u32 (qroom : Nat), .int .u16 (qouts : Nat), .int .u16 (qins : Nat), .int .u32 (qaddr : Nat), .int .u32 (qother : Nat)] 33) := ⟨_, rfl⟩
  have z1 : W1.heap.size = w.heap.size + 1 := by rw [hW1]; simp
  have b1 : Below w.heap.size w W1 := by rw [hW1]; exact (Below.refl _ _).alloc (Nat.le_refl _) _
  have b2 : Below W1.heap.size W1 W := by rw [hW]; exact (Below.refl _ _).alloc (Nat.le_refl _) _
  have bW : Below w.heap.size w W := b1.trans (b2.mono b1.size)
  have sP := (Stc.new w [.int .i64 made, .int .i64 life, .int .u16 (port : Nat), .int .u16 (pport : Nat), .int .u32 (tag : Nat), .int .u32 (ptag : Nat), .int .u32 (tsn : Nat), .int .u32 (ptsn : Nat), .int .u32 (room : Nat), .int .u16 (outs : Nat), .int .u16 (ins : Nat), .int .u32 (addr : Nat), .int .u32 (other : Nat)] 33 W1 hW1).below b2
  have sQ := Stc.new W1 [.int .i64 qmade, .int .i64 qlife, .int .u16 (qport : Nat), .int .u16 (qpport : Nat), .int .u32 (qtag : Nat), .int .u32 (qptag : Nat), .int .u32 (qtsn : Nat), .int .u32 (qptsn : Nat), .int .u32 (qroom : Nat), .int .u16 (qouts : Nat), .int .u16 (qins : Nat), .int .u32 (qaddr : Nat), .int .u32 (qother : Nat)] 33 W hW
  rw [z1] at sQ
  have hsW := hs.below bW
  have hsl := fun (kp : Nat) (w : World) => seal_all kp zs none made life port pport tag ptag tsn ptsn room outs ins addr other w hm hl hport hpport htag hptag htsn hptsn hroom houts hins haddr hother
  have hsq := fun (kp : Nat) (w : World) => seal_all kp zs none qmade qlife qport qpport qtag qptag qtsn qptsn qroom qouts qins qaddr qother w hqm hql hqport hqpport hqtag hqptag hqtsn hqptsn hqroom hqouts hqins hqaddr hqother
  clear b1 b2 z1
  go_enter Tryd.func6, Tryd.ntmps6
  go_wp2_with fail
  rw [← hW1, ← hW]
  clear hW1 hW
  refine (knew_any a n c0 zs W hsW (by omega)).mono ?_
  rintro e w1 ⟨⟨kp, rfl, hky, hge⟩, b1⟩
  have sP1 := sP.below b1
  have sQ1 := sQ.below b1
  have b01 := bW.trans (b1.mono bW.size)
  have hkw1 := hkw.next b01
  clear sP sQ bW b1 hsW hs hcb hcap hge
  obtain ⟨S1, hS1⟩ : ∃ S, S = (if ckMay made life = true then sealV zs ⟨made.toNat, life.toNat, port, pport, tag, ptag, tsn, ptsn, room, outs, ins, addr, other⟩ else []) := ⟨_, rfl⟩
  obtain ⟨S2, hS2⟩ : ∃ S, S = (if ckMay qmade qlife = true then sealV zs ⟨qmade.toNat, qlife.toNat, qport, qpport, qtag, qptag, qtsn, qptsn, qroom, qouts, qins, qaddr, qother⟩ else []) := ⟨_, rfl⟩
  obtain ⟨E1, hE1⟩ : ∃ E, E = (if ckMay made life = true then 0 else 6 : Nat) := ⟨_, rfl⟩
  obtain ⟨E2, hE2⟩ : ∃ E, E = (if ckMay qmade qlife = true then 0 else 6 : Nat) := ⟨_, rfl⟩
  rw [← hS1, ← hE1] at hsl
  rw [← hS2, ← hE2] at hsq
  have HS1 := (show Hid _ from hS1)
  have HS2 := (show Hid _ from hS2)
  have HE1 := (show Hid _ from hE1)
  have HE2 := (show Hid _ from hE2)
  have hl1 : S1.length ≤ 84 := by rw [hS1]; split; rw [sealV_len]; exact Nat.le_refl _; simp
  have hl2 : S2.length ≤ 84 := by rw [hS2]; split; rw [sealV_len]; exact Nat.le_refl _; simp
  obtain ⟨l1, hll1⟩ : ∃ l, l = S1.length := ⟨_, rfl⟩
  obtain ⟨l2, hll2⟩ : ∃ l, l = S2.length := ⟨_, rfl⟩
  rw [← hll1] at hl1
  rw [← hll2] at hl2
  have HL1 := (show Hid _ from hll1)
  have HL2 := (show Hid _ from hll2)
  clear hS1 hS2 hE1 hE2 hll1 hll2
  have x0 := sP1.cell 0 _ rfl
  have x1 := sP1.cell 1 _ rfl
  have x2 := sP1.cell 2 _ rfl
  have x3 := sP1.cell 3 _ rfl
  have x4 := sP1.cell 4 _ rfl
  have x5 := sP1.cell 5 _ rfl
  have x6 := sP1.cell 6 _ rfl
  have x7 := sP1.cell 7 _ rfl
  have x8 := sP1.cell 8 _ rfl
  have x9 := sP1.cell 9 _ rfl
  have x10 := sP1.cell 10 _ rfl
  have x11 := sP1.cell 11 _ rfl
  have x12 := sP1.cell 12 _ rfl
  go_wp2_with fail
  refine (hsl kp w1 hky hkw1).mono ?_
  rintro e w2 ⟨⟨a2, c2, rfl, o2⟩, b2⟩
  rw [← HL1.out] at o2 ⊢
  have sP2 := sP1.below b2
  have sQ2 := sQ1.below b2
  have b02 := b01.trans (b2.mono b01.size)
  have s2 := o2.sl (by omega)
  have hky2 := hky.below b2
  have hkw2 := hkw1.next b2
  clear x0 x1 x2 x3 x4 x5 x6 x7 x8 x9 x10 x11 x12 sP1 sQ1 o2 b2 hky b01 hkw1 hsl
  have x0 := sQ2.cell 0 _ rfl
  have x1 := sQ2.cell 1 _ rfl
  have x2 := sQ2.cell 2 _ rfl
  have x3 := sQ2.cell 3 _ rfl
  have x4 := sQ2.cell 4 _ rfl
  have x5 := sQ2.cell 5 _ rfl
  have x6 := sQ2.cell 6 _ rfl
  have x7 := sQ2.cell 7 _ rfl
  have x8 := sQ2.cell 8 _ rfl
  have x9 := sQ2.cell 9 _ rfl
  have x10 := sQ2.cell 10 _ rfl
  have x11 := sQ2.cell 11 _ rfl
  have x12 := sQ2.cell 12 _ rfl
  go_wp2_with fail
  refine (hsq kp w2 hky2 hkw2).mono ?_
  rintro e w3 ⟨⟨a3, c3, rfl, o3⟩, b3⟩
  rw [← HL2.out] at o3 ⊢
  have sP3 := sP2.below b3
  have sQ3 := sQ2.below b3
  have b03 := b02.trans (b3.mono b02.size)
  have s3 := o3.sl (by omega)
  have s23 := s2.below b3
  have hkw3 := hkw2.next b3
  clear x0 x1 x2 x3 x4 x5 x6 x7 x8 x9 x10 x11 x12 sP2 sQ2 o3 b3 hky2 b02 hkw2 hsq s2
  cases hM1 : ckMay made life
  case false =>
    have e1 : E1 = 6 := by rw [HE1.out, hM1]; rfl
    have f1 : l1 = 0 := by rw [HL1.out, HS1.out, hM1]; rfl
    have hmy := fun w => rMay_any made life port pport tag ptag tsn ptsn room outs ins addr other w
    rw [hM1] at hmy
    have hl2i : (l2 : Int) ≤ 84 := by omega
    subst e1 f1
    clear hM1 HE1 HE2 HS1 HS2 HL1 HL2
    go_wp2_with fail
    refine (live6_any w3 hkw3).mono ?_
    rintro e w4 ⟨rfl, b4⟩
    have sP4 := sP3.below b4
    have b04 := b03.trans (b4.mono b03.size)
    have x0 := sP4.cell 0 _ rfl
    have x1 := sP4.cell 1 _ rfl
    have x2 := sP4.cell 2 _ rfl
    have x3 := sP4.cell 3 _ rfl
    have x4 := sP4.cell 4 _ rfl
    have x5 := sP4.cell 5 _ rfl
    have x6 := sP4.cell 6 _ rfl
    have x7 := sP4.cell 7 _ rfl
    have x8 := sP4.cell 8 _ rfl
    have x9 := sP4.cell 9 _ rfl
    have x10 := sP4.cell 10 _ rfl
    have x11 := sP4.cell 11 _ rfl
    have x12 := sP4.cell 12 _ rfl
    go_wp2_with fail
    refine (hmy w4).mono ?_
    rintro e w5 ⟨rfl, b5⟩
    have b05 := b04.trans (b5.mono b04.size)
    go_wp2
    go_ret
    exact ⟨rfl, b05⟩
  case true =>
  cases hM2 : ckMay qmade qlife
  case false =>
    have e1 : E1 = 0 := by rw [HE1.out, hM1]; rfl
    have e2 : E2 = 6 := by rw [HE2.out, hM2]; rfl
    have f1 : l1 = 84 := by rw [HL1.out, HS1.out, hM1]; exact sealV_len _ _
    have f2 : l2 = 0 := by rw [HL2.out, HS2.out, hM2]; rfl
    have hmy := fun w => rMay_any made life port pport tag ptag tsn ptsn room outs ins addr other w
    have hmy2 := fun w => rMay_any qmade qlife qport qpport qtag qptag qtsn qptsn qroom qouts qins qaddr qother w
    rw [hM1] at hmy
    rw [hM2] at hmy2
    subst e1 e2 f1 f2
    clear hM1 hM2 HE1 HE2 HS1 HS2 HL1 HL2
    go_wp2_with fail
    refine (live6_any w3 hkw3).mono ?_
    rintro e w4 ⟨rfl, b4⟩
    have sP4 := sP3.below b4
    have sQ4 := sQ3.below b4
    have b04 := b03.trans (b4.mono b03.size)
    have x0 := sP4.cell 0 _ rfl
    have x1 := sP4.cell 1 _ rfl
    have x2 := sP4.cell 2 _ rfl
    have x3 := sP4.cell 3 _ rfl
    have x4 := sP4.cell 4 _ rfl
    have x5 := sP4.cell 5 _ rfl
    have x6 := sP4.cell 6 _ rfl
    have x7 := sP4.cell 7 _ rfl
    have x8 := sP4.cell 8 _ rfl
    have x9 := sP4.cell 9 _ rfl
    have x10 := sP4.cell 10 _ rfl
    have x11 := sP4.cell 11 _ rfl
    have x12 := sP4.cell 12 _ rfl
    go_wp2_with fail
    refine (hmy w4).mono ?_
    rintro e w5 ⟨rfl, b5⟩
    have sQ5 := sQ4.below b5
    have b05 := b04.trans (b5.mono b04.size)
    clear x0 x1 x2 x3 x4 x5 x6 x7 x8 x9 x10 x11 x12
    have x0 := sQ5.cell 0 _ rfl
    have x1 := sQ5.cell 1 _ rfl
    have x2 := sQ5.cell 2 _ rfl
    have x3 := sQ5.cell 3 _ rfl
    have x4 := sQ5.cell 4 _ rfl
    have x5 := sQ5.cell 5 _ rfl
    have x6 := sQ5.cell 6 _ rfl
    have x7 := sQ5.cell 7 _ rfl
    have x8 := sQ5.cell 8 _ rfl
    have x9 := sQ5.cell 9 _ rfl
    have x10 := sQ5.cell 10 _ rfl
    have x11 := sQ5.cell 11 _ rfl
    have x12 := sQ5.cell 12 _ rfl
    go_wp2_with fail
    refine (hmy2 w5).mono ?_
    rintro e w6 ⟨rfl, b6⟩
    have b06 := b05.trans (b6.mono b05.size)
    go_wp2
    go_ret
    exact ⟨rfl, b06⟩
  case true =>
    have e1 : E1 = 0 := by rw [HE1.out, hM1]; rfl
    have e2 : E2 = 0 := by rw [HE2.out, hM2]; rfl
    have f1 : l1 = 84 := by rw [HL1.out, HS1.out, hM1]; exact sealV_len _ _
    have f2 : l2 = 84 := by rw [HL2.out, HS2.out, hM2]; exact sealV_len _ _
    subst e1 e2 f1 f2
    have hm1 := of_decide_eq_true hM1
    have hm2 := of_decide_eq_true hM2
    have HV1 : Hid (S1 = sealV zs ⟨made.toNat, life.toNat, port, pport, tag, ptag, tsn, ptsn, room, outs, ins, addr, other⟩) := by show _ = _; rw [HS1.out, hM1]; rfl
    have HV2 : Hid (S2 = sealV zs ⟨qmade.toNat, qlife.toNat, qport, qpport, qtag, qptag, qtsn, qptsn, qroom, qouts, qins, qaddr, qother⟩) := by show _ = _; rw [HS2.out, hM2]; rfl
    have ok1 : Ck.ok ⟨made.toNat, life.toNat, port, pport, tag, ptag, tsn, ptsn, room, outs, ins, addr, other⟩ := ⟨by show made.toNat ≤ _; omega, by show life.toNat ≤ _; omega, hport, hpport, htag, hptag, htsn, hptsn, hroom, houts, hins, haddr, hother⟩
    have ok2 : Ck.ok ⟨qmade.toNat, qlife.toNat, qport, qpport, qtag, qptag, qtsn, qptsn, qroom, qouts, qins, qaddr, qother⟩ := ⟨by show qmade.toNat ≤ _; omega, by show qlife.toNat ≤ _; omega, hqport, hqpport, hqtag, hqptag, hqtsn, hqptsn, hqroom, hqouts, hqins, hqaddr, hqother⟩
    obtain ⟨r, heq, hiff⟩ := ck_eq made life port pport tag ptag tsn ptsn room outs ins addr other qmade qlife qport qpport qtag qptag qtsn qptsn qroom qouts qins qaddr qother hm hl hport hpport htag hptag htsn hptsn hroom houts hins haddr hother hqm hql hqport hqpport hqtag hqptag hqtsn hqptsn hqroom hqouts hqins hqaddr hqother
    have T1 := s23.takeE 52 (by omega) (by omega)
    have T2 := s3.takeE 52 (by omega) (by omega)
    have HC1 : Hid (r = true → S1 = S2) := by
      intro h
      have hL := hiff.1 h
      simp only [List.cons.injEq, Lit.int.injEq, true_and, and_true] at hL
      obtain ⟨g0, g1, g2, g3, g4, g5, g6, g7, g8, g9, g10, g11, g12⟩ := hL
      rw [HV1.out, HV2.out, g0, g1]
      congr 1
      simp only [Ck.mk.injEq, true_and]
      omega
    have HC2 : Hid (S1.take 52 = S2.take 52 → r = true) := by
      intro h
      rw [HV1.out, HV2.out, seal_take, seal_take] at h
      apply hiff.2
      have k0 : (Ck.made ⟨made.toNat, life.toNat, port, pport, tag, ptag, tsn, ptsn, room, outs, ins, addr, other⟩) = (Ck.made ⟨qmade.toNat, qlife.toNat, qport, qpport, qtag, qptag, qtsn, qptsn, qroom, qouts, qins, qaddr, qother⟩) := (ps_made _ ok1).symm.trans ((congrArg (fun L => numV L ((0 : Nat) : Int) ((8 : Nat) : Int)) h).trans (ps_made _ ok2))
      have k1 : (Ck.life ⟨made.toNat, life.toNat, port, pport, tag, ptag, tsn, ptsn, room, outs, ins, addr, other⟩) = (Ck.life ⟨qmade.toNat, qlife.toNat, qport, qpport, qtag, qptag, qtsn, qptsn, qroom, qouts, qins, qaddr, qother⟩) := (ps_life _ ok1).symm.trans ((congrArg (fun L => numV L ((8 : Nat) : Int) ((4 : Nat) : Int)) h).trans (ps_life _ ok2))
      have k2 : (Ck.port ⟨made.toNat, life.toNat, port, pport, tag, ptag, tsn, ptsn, room, outs, ins, addr, other⟩) = (Ck.port ⟨qmade.toNat, qlife.toNat, qport, qpport, qtag, qptag, qtsn, qptsn, qroom, qouts, qins, qaddr, qother⟩) := (ps_port _ ok1).symm.trans ((congrArg (fun L => numV L ((12 : Nat) : Int) ((2 : Nat) : Int)) h).trans (ps_port _ ok2))
      have k3 : (Ck.pport ⟨made.toNat, life.toNat, port, pport, tag, ptag, tsn, ptsn, room, outs, ins, addr, other⟩) = (Ck.pport ⟨qmade.toNat, qlife.toNat, qport, qpport, qtag, qptag, qtsn, qptsn, qroom, qouts, qins, qaddr, qother⟩) := (ps_pport _ ok1).symm.trans ((congrArg (fun L => numV L ((14 : Nat) : Int) ((2 : Nat) : Int)) h).trans (ps_pport _ ok2))
      have k4 : (Ck.tag ⟨made.toNat, life.toNat, port, pport, tag, ptag, tsn, ptsn, room, outs, ins, addr, other⟩) = (Ck.tag ⟨qmade.toNat, qlife.toNat, qport, qpport, qtag, qptag, qtsn, qptsn, qroom, qouts, qins, qaddr, qother⟩) := (ps_tag _ ok1).symm.trans ((congrArg (fun L => numV L ((16 : Nat) : Int) ((4 : Nat) : Int)) h).trans (ps_tag _ ok2))
      have k5 : (Ck.ptag ⟨made.toNat, life.toNat, port, pport, tag, ptag, tsn, ptsn, room, outs, ins, addr, other⟩) = (Ck.ptag ⟨qmade.toNat, qlife.toNat, qport, qpport, qtag, qptag, qtsn, qptsn, qroom, qouts, qins, qaddr, qother⟩) := (ps_ptag _ ok1).symm.trans ((congrArg (fun L => numV L ((20 : Nat) : Int) ((4 : Nat) : Int)) h).trans (ps_ptag _ ok2))
      have k6 : (Ck.tsn ⟨made.toNat, life.toNat, port, pport, tag, ptag, tsn, ptsn, room, outs, ins, addr, other⟩) = (Ck.tsn ⟨qmade.toNat, qlife.toNat, qport, qpport, qtag, qptag, qtsn, qptsn, qroom, qouts, qins, qaddr, qother⟩) := (ps_tsn _ ok1).symm.trans ((congrArg (fun L => numV L ((24 : Nat) : Int) ((4 : Nat) : Int)) h).trans (ps_tsn _ ok2))
      have k7 : (Ck.ptsn ⟨made.toNat, life.toNat, port, pport, tag, ptag, tsn, ptsn, room, outs, ins, addr, other⟩) = (Ck.ptsn ⟨qmade.toNat, qlife.toNat, qport, qpport, qtag, qptag, qtsn, qptsn, qroom, qouts, qins, qaddr, qother⟩) := (ps_ptsn _ ok1).symm.trans ((congrArg (fun L => numV L ((28 : Nat) : Int) ((4 : Nat) : Int)) h).trans (ps_ptsn _ ok2))
      have k8 : (Ck.room ⟨made.toNat, life.toNat, port, pport, tag, ptag, tsn, ptsn, room, outs, ins, addr, other⟩) = (Ck.room ⟨qmade.toNat, qlife.toNat, qport, qpport, qtag, qptag, qtsn, qptsn, qroom, qouts, qins, qaddr, qother⟩) := (ps_room _ ok1).symm.trans ((congrArg (fun L => numV L ((32 : Nat) : Int) ((4 : Nat) : Int)) h).trans (ps_room _ ok2))
      have k9 : (Ck.outs ⟨made.toNat, life.toNat, port, pport, tag, ptag, tsn, ptsn, room, outs, ins, addr, other⟩) = (Ck.outs ⟨qmade.toNat, qlife.toNat, qport, qpport, qtag, qptag, qtsn, qptsn, qroom, qouts, qins, qaddr, qother⟩) := (ps_outs _ ok1).symm.trans ((congrArg (fun L => numV L ((36 : Nat) : Int) ((2 : Nat) : Int)) h).trans (ps_outs _ ok2))
      have k10 : (Ck.ins ⟨made.toNat, life.toNat, port, pport, tag, ptag, tsn, ptsn, room, outs, ins, addr, other⟩) = (Ck.ins ⟨qmade.toNat, qlife.toNat, qport, qpport, qtag, qptag, qtsn, qptsn, qroom, qouts, qins, qaddr, qother⟩) := (ps_ins _ ok1).symm.trans ((congrArg (fun L => numV L ((38 : Nat) : Int) ((2 : Nat) : Int)) h).trans (ps_ins _ ok2))
      have k11 : (Ck.addr ⟨made.toNat, life.toNat, port, pport, tag, ptag, tsn, ptsn, room, outs, ins, addr, other⟩) = (Ck.addr ⟨qmade.toNat, qlife.toNat, qport, qpport, qtag, qptag, qtsn, qptsn, qroom, qouts, qins, qaddr, qother⟩) := (ps_addr _ ok1).symm.trans ((congrArg (fun L => numV L ((40 : Nat) : Int) ((4 : Nat) : Int)) h).trans (ps_addr _ ok2))
      have k12 : (Ck.other ⟨made.toNat, life.toNat, port, pport, tag, ptag, tsn, ptsn, room, outs, ins, addr, other⟩) = (Ck.other ⟨qmade.toNat, qlife.toNat, qport, qpport, qtag, qptag, qtsn, qptsn, qroom, qouts, qins, qaddr, qother⟩) := (ps_other _ ok1).symm.trans ((congrArg (fun L => numV L ((44 : Nat) : Int) ((4 : Nat) : Int)) h).trans (ps_other _ ok2))
      have j0 : made = qmade := by have : made.toNat = qmade.toNat := k0; omega
      have j1 : life = qlife := by have : life.toNat = qlife.toNat := k1; omega
      rw [j0, j1]
      rw [show port = qport from k2]
      rw [show pport = qpport from k3]
      rw [show tag = qtag from k4]
      rw [show ptag = qptag from k5]
      rw [show tsn = qtsn from k6]
      rw [show ptsn = qptsn from k7]
      rw [show room = qroom from k8]
      rw [show outs = qouts from k9]
      rw [show ins = qins from k10]
      rw [show addr = qaddr from k11]
      rw [show other = qother from k12]
    have hx1 : ((strOf (S1.take 52)).toList == (strOf (S2.take 52)).toList) = r := by
      cases r
      · exact strOf_ne T1.bnd T2.bnd (fun h => by have := HC2.out h; cases this)
      · rw [HC1.out rfl]; simp
    have hx2 : r = true → ((strOf S1).toList == (strOf S2).toList) = true := fun h => by rw [HC1.out h]; simp
    have b3d : Below w3.heap.size w3 w3.drew := (Below.refl _ _).drew
    have hkwd := hkw3.next b3d
    obtain ⟨X1, hX1⟩ : ∃ x, x = strOf (S1.take 52) := ⟨_, rfl⟩
    obtain ⟨X2, hX2⟩ : ∃ x, x = strOf (S2.take 52) := ⟨_, rfl⟩
    obtain ⟨Y1, hY1⟩ : ∃ x, x = strOf S1 := ⟨_, rfl⟩
    obtain ⟨Y2, hY2⟩ : ∃ x, x = strOf S2 := ⟨_, rfl⟩
    rw [← hX1, ← hX2] at hx1
    rw [← hY1, ← hY2] at hx2
    have HALL : Hid (∀ w', Below w3.heap.size w3 w' → (convert 22 9 (.slice a2 52 c2)).run Tryd.prog w' = .ok (.string X1) w' ∧ (convert 22 9 (.slice a3 52 c3)).run Tryd.prog w' = .ok (.string X2) w' ∧ (convert 22 9 (.slice a2 84 c2)).run Tryd.prog w' = .ok (.string Y1) w' ∧ (convert 22 9 (.slice a3 84 c3)).run Tryd.prog w' = .ok (.string Y2) w' ∧ w'.cell? ⟨w.heap.size, 0, none⟩ = some (.int .i64 made) ∧ w'.cell? ⟨w.heap.size, 1, none⟩ = some (.int .i64 life) ∧ w'.cell? ⟨w.heap.size, 2, none⟩ = some (.int .u16 (port : Nat)) ∧ w'.cell? ⟨w.heap.size, 3, none⟩ = some (.int .u16 (pport : Nat)) ∧ w'.cell? ⟨w.heap.size, 4, none⟩ = some (.int .u32 (tag : Nat)) ∧ w'.cell? ⟨w.heap.size, 5, none⟩ = some (.int .u32 (ptag : Nat)) ∧ w'.cell? ⟨w.heap.size, 6, none⟩ = some (.int .u32 (tsn : Nat)) ∧ w'.cell? ⟨w.heap.size, 7, none⟩ = some (.int .u32 (ptsn : Nat)) ∧ w'.cell? ⟨w.heap.size, 8, none⟩ = some (.int .u32 (room : Nat)) ∧ w'.cell? ⟨w.heap.size, 9, none⟩ = some (.int .u16 (outs : Nat)) ∧ w'.cell? ⟨w.heap.size, 10, none⟩ = some (.int .u16 (ins : Nat)) ∧ w'.cell? ⟨w.heap.size, 11, none⟩ = some (.int .u32 (addr : Nat)) ∧ w'.cell? ⟨w.heap.size, 12, none⟩ = some (.int .u32 (other : Nat)) ∧ w'.cell? ⟨w.heap.size + 1, 0, none⟩ = some (.int .i64 qmade) ∧ w'.cell? ⟨w.heap.size + 1, 1, none⟩ = some (.int .i64 qlife) ∧ w'.cell? ⟨w.heap.size + 1, 2, none⟩ = some (.int .u16 (qport : Nat)) ∧ w'.cell? ⟨w.heap.size + 1, 3, none⟩ = some (.int .u16 (qpport : Nat)) ∧ w'.cell? ⟨w.heap.size + 1, 4, none⟩ = some (.int .u32 (qtag : Nat)) ∧ w'.cell? ⟨w.heap.size + 1, 5, none⟩ = some (.int .u32 (qptag : Nat)) ∧ w'.cell? ⟨w.heap.size + 1, 6, none⟩ = some (.int .u32 (qtsn : Nat)) ∧ w'.cell? ⟨w.heap.size + 1, 7, none⟩ = some (.int .u32 (qptsn : Nat)) ∧ w'.cell? ⟨w.heap.size + 1, 8, none⟩ = some (.int .u32 (qroom : Nat)) ∧ w'.cell? ⟨w.heap.size + 1, 9, none⟩ = some (.int .u16 (qouts : Nat)) ∧ w'.cell? ⟨w.heap.size + 1, 10, none⟩ = some (.int .u16 (qins : Nat)) ∧ w'.cell? ⟨w.heap.size + 1, 11, none⟩ = some (.int .u32 (qaddr : Nat)) ∧ w'.cell? ⟨w.heap.size + 1, 12, none⟩ = some (.int .u32 (qother : Nat))) := fun w' hb => by
      have p := sP3.below hb
      have q := sQ3.below hb
      have e1 := conv_str (T1.below hb)
      have e2 := conv_str (T2.below hb)
      have e3 := conv_str (s23.below hb)
      have e4 := conv_str (s3.below hb)
      rw [← hX1] at e1
      rw [← hX2] at e2
      rw [← hY1] at e3
      rw [← hY2] at e4
      exact ⟨e1, e2, e3, e4, p.cell 0 _ rfl, p.cell 1 _ rfl, p.cell 2 _ rfl, p.cell 3 _ rfl, p.cell 4 _ rfl, p.cell 5 _ rfl, p.cell 6 _ rfl, p.cell 7 _ rfl, p.cell 8 _ rfl, p.cell 9 _ rfl, p.cell 10 _ rfl, p.cell 11 _ rfl, p.cell 12 _ rfl, q.cell 0 _ rfl, q.cell 1 _ rfl, q.cell 2 _ rfl, q.cell 3 _ rfl, q.cell 4 _ rfl, q.cell 5 _ rfl, q.cell 6 _ rfl, q.cell 7 _ rfl, q.cell 8 _ rfl, q.cell 9 _ rfl, q.cell 10 _ rfl, q.cell 11 _ rfl, q.cell 12 _ rfl⟩
    have st1 : ∀ w, (Instr.slice 22 (.slice a2 84 c2) none (some (.int .i64 52)) none).run Tryd.prog w = .ok (.slice a2 52 c2) w := slice_to a2 84 c2 52 (by have := s23.cap; omega)
    have st2 : ∀ w, (Instr.slice 22 (.slice a3 84 c3) none (some (.int .i64 52)) none).run Tryd.prog w = .ok (.slice a3 52 c3) w := slice_to a3 84 c3 52 (by have := s3.cap; omega)
    have b03' := b03
    clear hX1 hX2 hY1 hY2 HC1 HC2 hiff T1 T2 ok1 ok2 HV1 HV2 hM1 hM2 HS1 HS2 HE1 HE2 HL1 HL2 hm1 hm2
    go_wp2_with fail
    cases r
    · clear hx2
      refine wp_region_held_drew (S := (fun w' => (convert 22 9 (.slice a2 52 c2)).run Tryd.prog w' = .ok (.string X1) w' ∧ (convert 22 9 (.slice a3 52 c3)).run Tryd.prog w' = .ok (.string X2) w' ∧ (convert 22 9 (.slice a2 84 c2)).run Tryd.prog w' = .ok (.string Y1) w' ∧ (convert 22 9 (.slice a3 84 c3)).run Tryd.prog w' = .ok (.string Y2) w' ∧ w'.cell? ⟨w.heap.size, 0, none⟩ = some (.int .i64 made) ∧ w'.cell? ⟨w.heap.size, 1, none⟩ = some (.int .i64 life) ∧ w'.cell? ⟨w.heap.size, 2, none⟩ = some (.int .u16 (port : Nat)) ∧ w'.cell? ⟨w.heap.size, 3, none⟩ = some (.int .u16 (pport : Nat)) ∧ w'.cell? ⟨w.heap.size, 4, none⟩ = some (.int .u32 (tag : Nat)) ∧ w'.cell? ⟨w.heap.size, 5, none⟩ = some (.int .u32 (ptag : Nat)) ∧ w'.cell? ⟨w.heap.size, 6, none⟩ = some (.int .u32 (tsn : Nat)) ∧ w'.cell? ⟨w.heap.size, 7, none⟩ = some (.int .u32 (ptsn : Nat)) ∧ w'.cell? ⟨w.heap.size, 8, none⟩ = some (.int .u32 (room : Nat)) ∧ w'.cell? ⟨w.heap.size, 9, none⟩ = some (.int .u16 (outs : Nat)) ∧ w'.cell? ⟨w.heap.size, 10, none⟩ = some (.int .u16 (ins : Nat)) ∧ w'.cell? ⟨w.heap.size, 11, none⟩ = some (.int .u32 (addr : Nat)) ∧ w'.cell? ⟨w.heap.size, 12, none⟩ = some (.int .u32 (other : Nat)) ∧ w'.cell? ⟨w.heap.size + 1, 0, none⟩ = some (.int .i64 qmade) ∧ w'.cell? ⟨w.heap.size + 1, 1, none⟩ = some (.int .i64 qlife) ∧ w'.cell? ⟨w.heap.size + 1, 2, none⟩ = some (.int .u16 (qport : Nat)) ∧ w'.cell? ⟨w.heap.size + 1, 3, none⟩ = some (.int .u16 (qpport : Nat)) ∧ w'.cell? ⟨w.heap.size + 1, 4, none⟩ = some (.int .u32 (qtag : Nat)) ∧ w'.cell? ⟨w.heap.size + 1, 5, none⟩ = some (.int .u32 (qptag : Nat)) ∧ w'.cell? ⟨w.heap.size + 1, 6, none⟩ = some (.int .u32 (qtsn : Nat)) ∧ w'.cell? ⟨w.heap.size + 1, 7, none⟩ = some (.int .u32 (qptsn : Nat)) ∧ w'.cell? ⟨w.heap.size + 1, 8, none⟩ = some (.int .u32 (qroom : Nat)) ∧ w'.cell? ⟨w.heap.size + 1, 9, none⟩ = some (.int .u16 (qouts : Nat)) ∧ w'.cell? ⟨w.heap.size + 1, 10, none⟩ = some (.int .u16 (qins : Nat)) ∧ w'.cell? ⟨w.heap.size + 1, 11, none⟩ = some (.int .u32 (qaddr : Nat)) ∧ w'.cell? ⟨w.heap.size + 1, 12, none⟩ = some (.int .u32 (qother : Nat)))) (by kernel_rfl) ?hS (fun hHeld => ?_)
      case hS => (first | with_reducible exact HALL.out _ b3d)
      refine wpAnyH_ready (rs := [0]) (by kernel_rfl) (by simp) ?_
      refine AllReadyH.cons rfl (fun K hK => ?_) AllReadyH.nil
      go_simp
      refine (live6_any _ hkwd).mono ?_; rintro e w4 ⟨rfl, b4⟩; have b34 : Below w3.heap.size w3 w4 := b3d.trans b4
      try go_wp2_with fail
      refine hK.out _ _ ?hS0 (fun hHeld2 => ?_)
      case hS0 => (first | with_reducible exact HALL.out _ b34)
      clear hK K
      clear hHeld
      have hHeld := hHeld2
      clear hHeld2
      refine wpAnyH_take (i := 1) (v := ?v1) (by simp only [List.getElem?_toArray, List.getElem?_cons_succ, List.getElem?_cons_zero]; rfl) (by kernel_rfl) (by kernel_rfl) (by kernel_rfl) (by exact fun _ _ _ h => h) (Or.inl ⟨by rfl, ?hy1⟩) (by assumption) ?rest1
      case hy1 => (intro w hSw; (try dsimp only at hSw); go_simp; try with_reducible rfl)
      try simp only [Act.put, List.setIfInBounds_toArray, List.set_cons_zero, List.set_cons_succ]
      refine wpAnyH_take (i := 2) (v := ?v2) (by simp only [List.getElem?_toArray, List.getElem?_cons_succ, List.getElem?_cons_zero]; rfl) (by kernel_rfl) (by kernel_rfl) (by kernel_rfl) (by exact fun _ _ _ h => h) (Or.inl ⟨by rfl, ?hy2⟩) (by assumption) ?rest2
      case hy2 => (intro w hSw; (try dsimp only at hSw); go_simp; try with_reducible rfl)
      try simp only [Act.put, List.setIfInBounds_toArray, List.set_cons_zero, List.set_cons_succ]
      refine wpAnyH_take (i := 3) (v := ?v3) (by simp only [List.getElem?_toArray, List.getElem?_cons_succ, List.getElem?_cons_zero]; rfl) (by kernel_rfl) (by kernel_rfl) (by kernel_rfl) (by exact fun _ _ _ h => h) (Or.inl ⟨by rfl, ?hy3⟩) (by assumption) ?rest3
      case hy3 => (intro w hSw; (try dsimp only at hSw); go_simp; try with_reducible rfl)
      try simp only [Act.put, List.setIfInBounds_toArray, List.set_cons_zero, List.set_cons_succ]
      refine wpAnyH_take (i := 4) (v := ?v4) (by simp only [List.getElem?_toArray, List.getElem?_cons_succ, List.getElem?_cons_zero]; rfl) (by kernel_rfl) (by kernel_rfl) (by kernel_rfl) (by exact fun _ _ _ h => h) (Or.inl ⟨by rfl, ?hy4⟩) (by assumption) ?rest4
      case hy4 => (intro w hSw; (try dsimp only at hSw); go_simp; try with_reducible rfl)
      try simp only [Act.put, List.setIfInBounds_toArray, List.set_cons_zero, List.set_cons_succ]
      refine wpAnyH_take (i := 5) (v := ?v5) (by simp only [List.getElem?_toArray, List.getElem?_cons_succ, List.getElem?_cons_zero]; rfl) (by kernel_rfl) (by kernel_rfl) (by kernel_rfl) (by exact fun _ _ _ h => h) (Or.inl ⟨by rfl, ?hy5⟩) (by assumption) ?rest5
      case hy5 => (intro w hSw; (try dsimp only at hSw); go_simp; try with_reducible rfl)
      try simp only [Act.put, List.setIfInBounds_toArray, List.set_cons_zero, List.set_cons_succ]
      refine wpAnyH_take (i := 6) (v := ?v6) (by simp only [List.getElem?_toArray, List.getElem?_cons_succ, List.getElem?_cons_zero]; rfl) (by kernel_rfl) (by kernel_rfl) (by kernel_rfl) (by exact fun _ _ _ h => h) (Or.inl ⟨by rfl, ?hy6⟩) (by assumption) ?rest6
      case hy6 => (intro w hSw; (try dsimp only at hSw); go_simp; try with_reducible rfl)
      try simp only [Act.put, List.setIfInBounds_toArray, List.set_cons_zero, List.set_cons_succ]
      refine wpAnyH_take (i := 7) (v := ?v7) (by simp only [List.getElem?_toArray, List.getElem?_cons_succ, List.getElem?_cons_zero]; rfl) (by kernel_rfl) (by kernel_rfl) (by kernel_rfl) (by exact fun _ _ _ h => h) (Or.inl ⟨by rfl, ?hy7⟩) (by assumption) ?rest7
      case hy7 => (intro w hSw; (try dsimp only at hSw); go_simp; try with_reducible rfl)
      try simp only [Act.put, List.setIfInBounds_toArray, List.set_cons_zero, List.set_cons_succ]
      refine wpAnyH_take (i := 8) (v := ?v8) (by simp only [List.getElem?_toArray, List.getElem?_cons_succ, List.getElem?_cons_zero]; rfl) (by kernel_rfl) (by kernel_rfl) (by kernel_rfl) (by exact fun _ _ _ h => h) (Or.inl ⟨by rfl, ?hy8⟩) (by assumption) ?rest8
      case hy8 => (intro w hSw; (try dsimp only at hSw); go_simp; try with_reducible rfl)
      try simp only [Act.put, List.setIfInBounds_toArray, List.set_cons_zero, List.set_cons_succ]
      refine wpAnyH_take (i := 9) (v := ?v9) (by simp only [List.getElem?_toArray, List.getElem?_cons_succ, List.getElem?_cons_zero]; rfl) (by kernel_rfl) (by kernel_rfl) (by kernel_rfl) (by exact fun _ _ _ h => h) (Or.inl ⟨by rfl, ?hy9⟩) (by assumption) ?rest9
      case hy9 => (intro w hSw; (try dsimp only at hSw); go_simp; try with_reducible rfl)
      try simp only [Act.put, List.setIfInBounds_toArray, List.set_cons_zero, List.set_cons_succ]
      refine wpAnyH_take (i := 10) (v := ?v10) (by simp only [List.getElem?_toArray, List.getElem?_cons_succ, List.getElem?_cons_zero]; rfl) (by kernel_rfl) (by kernel_rfl) (by kernel_rfl) (by exact fun _ _ _ h => h) (Or.inl ⟨by rfl, ?hy10⟩) (by assumption) ?rest10
      case hy10 => (intro w hSw; (try dsimp only at hSw); go_simp; try with_reducible rfl)
      try simp only [Act.put, List.setIfInBounds_toArray, List.set_cons_zero, List.set_cons_succ]
      refine wpAnyH_take (i := 11) (v := ?v11) (by simp only [List.getElem?_toArray, List.getElem?_cons_succ, List.getElem?_cons_zero]; rfl) (by kernel_rfl) (by kernel_rfl) (by kernel_rfl) (by exact fun _ _ _ h => h) (Or.inl ⟨by rfl, ?hy11⟩) (by assumption) ?rest11
      case hy11 => (intro w hSw; (try dsimp only at hSw); go_simp; try with_reducible rfl)
      try simp only [Act.put, List.setIfInBounds_toArray, List.set_cons_zero, List.set_cons_succ]
      refine wpAnyH_take (i := 12) (v := ?v12) (by simp only [List.getElem?_toArray, List.getElem?_cons_succ, List.getElem?_cons_zero]; rfl) (by kernel_rfl) (by kernel_rfl) (by kernel_rfl) (by exact fun _ _ _ h => h) (Or.inl ⟨by rfl, ?hy12⟩) (by assumption) ?rest12
      case hy12 => (intro w hSw; (try dsimp only at hSw); go_simp; try with_reducible rfl)
      try simp only [Act.put, List.setIfInBounds_toArray, List.set_cons_zero, List.set_cons_succ]
      refine wpAnyH_take (i := 13) (v := ?v13) (by simp only [List.getElem?_toArray, List.getElem?_cons_succ, List.getElem?_cons_zero]; rfl) (by kernel_rfl) (by kernel_rfl) (by kernel_rfl) (by exact fun _ _ _ h => h) (Or.inl ⟨by rfl, ?hy13⟩) (by assumption) ?rest13
      case hy13 => (intro w hSw; (try dsimp only at hSw); go_simp; try with_reducible rfl)
      try simp only [Act.put, List.setIfInBounds_toArray, List.set_cons_zero, List.set_cons_succ]
      refine wpAnyH_take (i := 14) (v := ?v14) (by simp only [List.getElem?_toArray, List.getElem?_cons_succ, List.getElem?_cons_zero]; rfl) (by kernel_rfl) (by kernel_rfl) (by kernel_rfl) (by exact fun _ _ _ h => h) (Or.inl ⟨by rfl, ?hy14⟩) (by assumption) ?rest14
      case hy14 => (intro w hSw; (try dsimp only at hSw); go_simp; try with_reducible rfl)
      try simp only [Act.put, List.setIfInBounds_toArray, List.set_cons_zero, List.set_cons_succ]
      refine wpAnyH_take (i := 15) (v := ?v15) (by simp only [List.getElem?_toArray, List.getElem?_cons_succ, List.getElem?_cons_zero]; rfl) (by kernel_rfl) (by kernel_rfl) (by kernel_rfl) (by exact fun _ _ _ h => h) (Or.inl ⟨by rfl, ?hy15⟩) (by assumption) ?rest15
      case hy15 => (intro w hSw; (try dsimp only at hSw); go_simp; try with_reducible rfl)
      try simp only [Act.put, List.setIfInBounds_toArray, List.set_cons_zero, List.set_cons_succ]
      refine wpAnyH_take (i := 16) (v := ?v16) (by simp only [List.getElem?_toArray, List.getElem?_cons_succ, List.getElem?_cons_zero]; rfl) (by kernel_rfl) (by kernel_rfl) (by kernel_rfl) (by exact fun _ _ _ h => h) (Or.inl ⟨by rfl, ?hy16⟩) (by assumption) ?rest16
      case hy16 => (intro w hSw; (try dsimp only at hSw); go_simp; try with_reducible rfl)
      try simp only [Act.put, List.setIfInBounds_toArray, List.set_cons_zero, List.set_cons_succ]
      refine wpAnyH_take (i := 17) (v := ?v17) (by simp only [List.getElem?_toArray, List.getElem?_cons_succ, List.getElem?_cons_zero]; rfl) (by kernel_rfl) (by kernel_rfl) (by kernel_rfl) (by exact fun _ _ _ h => h) (Or.inl ⟨by rfl, ?hy17⟩) (by assumption) ?rest17
      case hy17 => (intro w hSw; (try dsimp only at hSw); go_simp; try with_reducible rfl)
      try simp only [Act.put, List.setIfInBounds_toArray, List.set_cons_zero, List.set_cons_succ]
      refine wpAnyH_take (i := 18) (v := ?v18) (by simp only [List.getElem?_toArray, List.getElem?_cons_succ, List.getElem?_cons_zero]; rfl) (by kernel_rfl) (by kernel_rfl) (by kernel_rfl) (by exact fun _ _ _ h => h) (Or.inl ⟨by rfl, ?hy18⟩) (by assumption) ?rest18
      case hy18 => (intro w hSw; (try dsimp only at hSw); go_simp; try with_reducible rfl)
      try simp only [Act.put, List.setIfInBounds_toArray, List.set_cons_zero, List.set_cons_succ]
      refine wpAnyH_take (i := 19) (v := undef) (by simp only [List.getElem?_toArray, List.getElem?_cons_succ, List.getElem?_cons_zero]; rfl) (by kernel_rfl) (by kernel_rfl) (by kernel_rfl) (by exact fun _ _ _ h => h) (Or.inr ⟨by rfl, rfl⟩) (by assumption) ?_
      try simp only [Act.put, List.setIfInBounds_toArray, List.set_cons_zero, List.set_cons_succ]
      refine wpAnyH_take (i := 20) (v := undef) (by simp only [List.getElem?_toArray, List.getElem?_cons_succ, List.getElem?_cons_zero]; rfl) (by kernel_rfl) (by kernel_rfl) (by kernel_rfl) (by exact fun _ _ _ h => h) (Or.inr ⟨by rfl, rfl⟩) (by assumption) ?_
      try simp only [Act.put, List.setIfInBounds_toArray, List.set_cons_zero, List.set_cons_succ]
      refine wpAnyH_take (i := 21) (v := undef) (by simp only [List.getElem?_toArray, List.getElem?_cons_succ, List.getElem?_cons_zero]; rfl) (by kernel_rfl) (by kernel_rfl) (by kernel_rfl) (by exact fun _ _ _ h => h) (Or.inr ⟨by rfl, rfl⟩) (by assumption) ?_
      try simp only [Act.put, List.setIfInBounds_toArray, List.set_cons_zero, List.set_cons_succ]
      refine wpAnyH_take (i := 22) (v := undef) (by simp only [List.getElem?_toArray, List.getElem?_cons_succ, List.getElem?_cons_zero]; rfl) (by kernel_rfl) (by kernel_rfl) (by kernel_rfl) (by exact fun _ _ _ h => h) (Or.inr ⟨by rfl, rfl⟩) (by assumption) ?_
      try simp only [Act.put, List.setIfInBounds_toArray, List.set_cons_zero, List.set_cons_succ]
      refine wpAnyH_take (i := 23) (v := undef) (by simp only [List.getElem?_toArray, List.getElem?_cons_succ, List.getElem?_cons_zero]; rfl) (by kernel_rfl) (by kernel_rfl) (by kernel_rfl) (by exact fun _ _ _ h => h) (Or.inr ⟨by rfl, rfl⟩) (by assumption) ?_
      try simp only [Act.put, List.setIfInBounds_toArray, List.set_cons_zero, List.set_cons_succ]
      refine wpAnyH_take (i := 24) (v := ?v24) (by simp only [List.getElem?_toArray, List.getElem?_cons_succ, List.getElem?_cons_zero]; rfl) (by kernel_rfl) (by kernel_rfl) (by kernel_rfl) (by exact fun _ _ _ h => h) (Or.inl ⟨by rfl, ?hy24⟩) (by assumption) ?rest24
      case hy24 => (intro w hSw; (try dsimp only at hSw); go_simp; try with_reducible rfl)
      try simp only [Act.put, List.setIfInBounds_toArray, List.set_cons_zero, List.set_cons_succ]
      refine wpAnyH_take (i := 25) (v := ?v25) (by simp only [List.getElem?_toArray, List.getElem?_cons_succ, List.getElem?_cons_zero]; rfl) (by kernel_rfl) (by kernel_rfl) (by kernel_rfl) (by exact fun _ _ _ h => h) (Or.inl ⟨by rfl, ?hy25⟩) (by assumption) ?rest25
      case hy25 => (intro w hSw; (try dsimp only at hSw); go_simp; try with_reducible rfl)
      try simp only [Act.put, List.setIfInBounds_toArray, List.set_cons_zero, List.set_cons_succ]
      refine wpAnyH_take (i := 26) (v := ?v26) (by simp only [List.getElem?_toArray, List.getElem?_cons_succ, List.getElem?_cons_zero]; rfl) (by kernel_rfl) (by kernel_rfl) (by kernel_rfl) (by exact fun _ _ _ h => h) (Or.inl ⟨by rfl, ?hy26⟩) (by assumption) ?rest26
      case hy26 => (intro w hSw; (try dsimp only at hSw); go_simp; try with_reducible rfl)
      try simp only [Act.put, List.setIfInBounds_toArray, List.set_cons_zero, List.set_cons_succ]
      refine wpAnyH_done (by kernel_rfl) ?_ _
      have b04 := b03'.trans (b34.mono b03'.size)
      go_wp2
      go_ret
      exact ⟨rfl, b04⟩
    · have hx3 := hx2 rfl
      clear hx2
      refine wp_region_held_drew (S := (fun w' => (convert 22 9 (.slice a2 52 c2)).run Tryd.prog w' = .ok (.string X1) w' ∧ (convert 22 9 (.slice a3 52 c3)).run Tryd.prog w' = .ok (.string X2) w' ∧ (convert 22 9 (.slice a2 84 c2)).run Tryd.prog w' = .ok (.string Y1) w' ∧ (convert 22 9 (.slice a3 84 c3)).run Tryd.prog w' = .ok (.string Y2) w' ∧ w'.cell? ⟨w.heap.size, 0, none⟩ = some (.int .i64 made) ∧ w'.cell? ⟨w.heap.size, 1, none⟩ = some (.int .i64 life) ∧ w'.cell? ⟨w.heap.size, 2, none⟩ = some (.int .u16 (port : Nat)) ∧ w'.cell? ⟨w.heap.size, 3, none⟩ = some (.int .u16 (pport : Nat)) ∧ w'.cell? ⟨w.heap.size, 4, none⟩ = some (.int .u32 (tag : Nat)) ∧ w'.cell? ⟨w.heap.size, 5, none⟩ = some (.int .u32 (ptag : Nat)) ∧ w'.cell? ⟨w.heap.size, 6, none⟩ = some (.int .u32 (tsn : Nat)) ∧ w'.cell? ⟨w.heap.size, 7, none⟩ = some (.int .u32 (ptsn : Nat)) ∧ w'.cell? ⟨w.heap.size, 8, none⟩ = some (.int .u32 (room : Nat)) ∧ w'.cell? ⟨w.heap.size, 9, none⟩ = some (.int .u16 (outs : Nat)) ∧ w'.cell? ⟨w.heap.size, 10, none⟩ = some (.int .u16 (ins : Nat)) ∧ w'.cell? ⟨w.heap.size, 11, none⟩ = some (.int .u32 (addr : Nat)) ∧ w'.cell? ⟨w.heap.size, 12, none⟩ = some (.int .u32 (other : Nat)) ∧ w'.cell? ⟨w.heap.size + 1, 0, none⟩ = some (.int .i64 qmade) ∧ w'.cell? ⟨w.heap.size + 1, 1, none⟩ = some (.int .i64 qlife) ∧ w'.cell? ⟨w.heap.size + 1, 2, none⟩ = some (.int .u16 (qport : Nat)) ∧ w'.cell? ⟨w.heap.size + 1, 3, none⟩ = some (.int .u16 (qpport : Nat)) ∧ w'.cell? ⟨w.heap.size + 1, 4, none⟩ = some (.int .u32 (qtag : Nat)) ∧ w'.cell? ⟨w.heap.size + 1, 5, none⟩ = some (.int .u32 (qptag : Nat)) ∧ w'.cell? ⟨w.heap.size + 1, 6, none⟩ = some (.int .u32 (qtsn : Nat)) ∧ w'.cell? ⟨w.heap.size + 1, 7, none⟩ = some (.int .u32 (qptsn : Nat)) ∧ w'.cell? ⟨w.heap.size + 1, 8, none⟩ = some (.int .u32 (qroom : Nat)) ∧ w'.cell? ⟨w.heap.size + 1, 9, none⟩ = some (.int .u16 (qouts : Nat)) ∧ w'.cell? ⟨w.heap.size + 1, 10, none⟩ = some (.int .u16 (qins : Nat)) ∧ w'.cell? ⟨w.heap.size + 1, 11, none⟩ = some (.int .u32 (qaddr : Nat)) ∧ w'.cell? ⟨w.heap.size + 1, 12, none⟩ = some (.int .u32 (qother : Nat)))) (by kernel_rfl) ?zhS (fun hHeld => ?_)
      case zhS => (first | with_reducible exact HALL.out _ b3d)
      refine wpAnyH_ready (rs := [0]) (by kernel_rfl) (by simp) ?_
      refine AllReadyH.cons rfl (fun K hK => ?_) AllReadyH.nil
      go_simp
      refine (live6_any _ hkwd).mono ?_; rintro e w4 ⟨rfl, b4⟩; have b34 : Below w3.heap.size w3 w4 := b3d.trans b4
      try go_wp2_with fail
      refine hK.out _ _ ?zhS0 (fun hHeld2 => ?_)
      case zhS0 => (first | with_reducible exact HALL.out _ b34)
      clear hK K
      clear hHeld
      have hHeld := hHeld2
      clear hHeld2
      refine wpAnyH_take (i := 1) (v := ?zv1) (by simp only [List.getElem?_toArray, List.getElem?_cons_succ, List.getElem?_cons_zero]; rfl) (by kernel_rfl) (by kernel_rfl) (by kernel_rfl) (by exact fun _ _ _ h => h) (Or.inl ⟨by rfl, ?zhy1⟩) (by assumption) ?zrest1
      case zhy1 => (intro w hSw; (try dsimp only at hSw); go_simp; try with_reducible rfl)
      try simp only [Act.put, List.setIfInBounds_toArray, List.set_cons_zero, List.set_cons_succ]
      refine wpAnyH_take (i := 2) (v := ?zv2) (by simp only [List.getElem?_toArray, List.getElem?_cons_succ, List.getElem?_cons_zero]; rfl) (by kernel_rfl) (by kernel_rfl) (by kernel_rfl) (by exact fun _ _ _ h => h) (Or.inl ⟨by rfl, ?zhy2⟩) (by assumption) ?zrest2
      case zhy2 => (intro w hSw; (try dsimp only at hSw); go_simp; try with_reducible rfl)
      try simp only [Act.put, List.setIfInBounds_toArray, List.set_cons_zero, List.set_cons_succ]
      refine wpAnyH_take (i := 3) (v := ?zv3) (by simp only [List.getElem?_toArray, List.getElem?_cons_succ, List.getElem?_cons_zero]; rfl) (by kernel_rfl) (by kernel_rfl) (by kernel_rfl) (by exact fun _ _ _ h => h) (Or.inl ⟨by rfl, ?zhy3⟩) (by assumption) ?zrest3
      case zhy3 => (intro w hSw; (try dsimp only at hSw); go_simp; try with_reducible rfl)
      try simp only [Act.put, List.setIfInBounds_toArray, List.set_cons_zero, List.set_cons_succ]
      refine wpAnyH_take (i := 4) (v := ?zv4) (by simp only [List.getElem?_toArray, List.getElem?_cons_succ, List.getElem?_cons_zero]; rfl) (by kernel_rfl) (by kernel_rfl) (by kernel_rfl) (by exact fun _ _ _ h => h) (Or.inl ⟨by rfl, ?zhy4⟩) (by assumption) ?zrest4
      case zhy4 => (intro w hSw; (try dsimp only at hSw); go_simp; try with_reducible rfl)
      try simp only [Act.put, List.setIfInBounds_toArray, List.set_cons_zero, List.set_cons_succ]
      refine wpAnyH_take (i := 5) (v := ?zv5) (by simp only [List.getElem?_toArray, List.getElem?_cons_succ, List.getElem?_cons_zero]; rfl) (by kernel_rfl) (by kernel_rfl) (by kernel_rfl) (by exact fun _ _ _ h => h) (Or.inl ⟨by rfl, ?zhy5⟩) (by assumption) ?zrest5
      case zhy5 => (intro w hSw; (try dsimp only at hSw); go_simp; try with_reducible rfl)
      try simp only [Act.put, List.setIfInBounds_toArray, List.set_cons_zero, List.set_cons_succ]
      refine wpAnyH_take (i := 6) (v := ?zv6) (by simp only [List.getElem?_toArray, List.getElem?_cons_succ, List.getElem?_cons_zero]; rfl) (by kernel_rfl) (by kernel_rfl) (by kernel_rfl) (by exact fun _ _ _ h => h) (Or.inl ⟨by rfl, ?zhy6⟩) (by assumption) ?zrest6
      case zhy6 => (intro w hSw; (try dsimp only at hSw); go_simp; try with_reducible rfl)
      try simp only [Act.put, List.setIfInBounds_toArray, List.set_cons_zero, List.set_cons_succ]
      refine wpAnyH_take (i := 7) (v := ?zv7) (by simp only [List.getElem?_toArray, List.getElem?_cons_succ, List.getElem?_cons_zero]; rfl) (by kernel_rfl) (by kernel_rfl) (by kernel_rfl) (by exact fun _ _ _ h => h) (Or.inl ⟨by rfl, ?zhy7⟩) (by assumption) ?zrest7
      case zhy7 => (intro w hSw; (try dsimp only at hSw); go_simp; try with_reducible rfl)
      try simp only [Act.put, List.setIfInBounds_toArray, List.set_cons_zero, List.set_cons_succ]
      refine wpAnyH_take (i := 8) (v := ?zv8) (by simp only [List.getElem?_toArray, List.getElem?_cons_succ, List.getElem?_cons_zero]; rfl) (by kernel_rfl) (by kernel_rfl) (by kernel_rfl) (by exact fun _ _ _ h => h) (Or.inl ⟨by rfl, ?zhy8⟩) (by assumption) ?zrest8
      case zhy8 => (intro w hSw; (try dsimp only at hSw); go_simp; try with_reducible rfl)
      try simp only [Act.put, List.setIfInBounds_toArray, List.set_cons_zero, List.set_cons_succ]
      refine wpAnyH_take (i := 9) (v := ?zv9) (by simp only [List.getElem?_toArray, List.getElem?_cons_succ, List.getElem?_cons_zero]; rfl) (by kernel_rfl) (by kernel_rfl) (by kernel_rfl) (by exact fun _ _ _ h => h) (Or.inl ⟨by rfl, ?zhy9⟩) (by assumption) ?zrest9
      case zhy9 => (intro w hSw; (try dsimp only at hSw); go_simp; try with_reducible rfl)
      try simp only [Act.put, List.setIfInBounds_toArray, List.set_cons_zero, List.set_cons_succ]
      refine wpAnyH_take (i := 10) (v := ?zv10) (by simp only [List.getElem?_toArray, List.getElem?_cons_succ, List.getElem?_cons_zero]; rfl) (by kernel_rfl) (by kernel_rfl) (by kernel_rfl) (by exact fun _ _ _ h => h) (Or.inl ⟨by rfl, ?zhy10⟩) (by assumption) ?zrest10
      case zhy10 => (intro w hSw; (try dsimp only at hSw); go_simp; try with_reducible rfl)
      try simp only [Act.put, List.setIfInBounds_toArray, List.set_cons_zero, List.set_cons_succ]
      refine wpAnyH_take (i := 11) (v := ?zv11) (by simp only [List.getElem?_toArray, List.getElem?_cons_succ, List.getElem?_cons_zero]; rfl) (by kernel_rfl) (by kernel_rfl) (by kernel_rfl) (by exact fun _ _ _ h => h) (Or.inl ⟨by rfl, ?zhy11⟩) (by assumption) ?zrest11
      case zhy11 => (intro w hSw; (try dsimp only at hSw); go_simp; try with_reducible rfl)
      try simp only [Act.put, List.setIfInBounds_toArray, List.set_cons_zero, List.set_cons_succ]
      refine wpAnyH_take (i := 12) (v := ?zv12) (by simp only [List.getElem?_toArray, List.getElem?_cons_succ, List.getElem?_cons_zero]; rfl) (by kernel_rfl) (by kernel_rfl) (by kernel_rfl) (by exact fun _ _ _ h => h) (Or.inl ⟨by rfl, ?zhy12⟩) (by assumption) ?zrest12
      case zhy12 => (intro w hSw; (try dsimp only at hSw); go_simp; try with_reducible rfl)
      try simp only [Act.put, List.setIfInBounds_toArray, List.set_cons_zero, List.set_cons_succ]
      refine wpAnyH_take (i := 13) (v := ?zv13) (by simp only [List.getElem?_toArray, List.getElem?_cons_succ, List.getElem?_cons_zero]; rfl) (by kernel_rfl) (by kernel_rfl) (by kernel_rfl) (by exact fun _ _ _ h => h) (Or.inl ⟨by rfl, ?zhy13⟩) (by assumption) ?zrest13
      case zhy13 => (intro w hSw; (try dsimp only at hSw); go_simp; try with_reducible rfl)
      try simp only [Act.put, List.setIfInBounds_toArray, List.set_cons_zero, List.set_cons_succ]
      refine wpAnyH_take (i := 14) (v := ?zv14) (by simp only [List.getElem?_toArray, List.getElem?_cons_succ, List.getElem?_cons_zero]; rfl) (by kernel_rfl) (by kernel_rfl) (by kernel_rfl) (by exact fun _ _ _ h => h) (Or.inl ⟨by rfl, ?zhy14⟩) (by assumption) ?zrest14
      case zhy14 => (intro w hSw; (try dsimp only at hSw); go_simp; try with_reducible rfl)
      try simp only [Act.put, List.setIfInBounds_toArray, List.set_cons_zero, List.set_cons_succ]
      refine wpAnyH_take (i := 15) (v := ?zv15) (by simp only [List.getElem?_toArray, List.getElem?_cons_succ, List.getElem?_cons_zero]; rfl) (by kernel_rfl) (by kernel_rfl) (by kernel_rfl) (by exact fun _ _ _ h => h) (Or.inl ⟨by rfl, ?zhy15⟩) (by assumption) ?zrest15
      case zhy15 => (intro w hSw; (try dsimp only at hSw); go_simp; try with_reducible rfl)
      try simp only [Act.put, List.setIfInBounds_toArray, List.set_cons_zero, List.set_cons_succ]
      refine wpAnyH_take (i := 16) (v := ?zv16) (by simp only [List.getElem?_toArray, List.getElem?_cons_succ, List.getElem?_cons_zero]; rfl) (by kernel_rfl) (by kernel_rfl) (by kernel_rfl) (by exact fun _ _ _ h => h) (Or.inl ⟨by rfl, ?zhy16⟩) (by assumption) ?zrest16
      case zhy16 => (intro w hSw; (try dsimp only at hSw); go_simp; try with_reducible rfl)
      try simp only [Act.put, List.setIfInBounds_toArray, List.set_cons_zero, List.set_cons_succ]
      refine wpAnyH_take (i := 17) (v := ?zv17) (by simp only [List.getElem?_toArray, List.getElem?_cons_succ, List.getElem?_cons_zero]; rfl) (by kernel_rfl) (by kernel_rfl) (by kernel_rfl) (by exact fun _ _ _ h => h) (Or.inl ⟨by rfl, ?zhy17⟩) (by assumption) ?zrest17
      case zhy17 => (intro w hSw; (try dsimp only at hSw); go_simp; try with_reducible rfl)
      try simp only [Act.put, List.setIfInBounds_toArray, List.set_cons_zero, List.set_cons_succ]
      refine wpAnyH_take (i := 18) (v := ?zv18) (by simp only [List.getElem?_toArray, List.getElem?_cons_succ, List.getElem?_cons_zero]; rfl) (by kernel_rfl) (by kernel_rfl) (by kernel_rfl) (by exact fun _ _ _ h => h) (Or.inl ⟨by rfl, ?zhy18⟩) (by assumption) ?zrest18
      case zhy18 => (intro w hSw; (try dsimp only at hSw); go_simp; try with_reducible rfl)
      try simp only [Act.put, List.setIfInBounds_toArray, List.set_cons_zero, List.set_cons_succ]
      refine wpAnyH_take (i := 19) (v := ?zv19) (by simp only [List.getElem?_toArray, List.getElem?_cons_succ, List.getElem?_cons_zero]; rfl) (by kernel_rfl) (by kernel_rfl) (by kernel_rfl) (by exact fun _ _ _ h => h) (Or.inl ⟨by rfl, ?zhy19⟩) (by assumption) ?zrest19
      case zhy19 => (intro w hSw; (try dsimp only at hSw); go_simp; try with_reducible rfl)
      try simp only [Act.put, List.setIfInBounds_toArray, List.set_cons_zero, List.set_cons_succ]
      refine wpAnyH_take (i := 20) (v := ?zv20) (by simp only [List.getElem?_toArray, List.getElem?_cons_succ, List.getElem?_cons_zero]; rfl) (by kernel_rfl) (by kernel_rfl) (by kernel_rfl) (by exact fun _ _ _ h => h) (Or.inl ⟨by rfl, ?zhy20⟩) (by assumption) ?zrest20
      case zhy20 => (intro w hSw; (try dsimp only at hSw); go_simp; try with_reducible rfl)
      try simp only [Act.put, List.setIfInBounds_toArray, List.set_cons_zero, List.set_cons_succ]
      refine wpAnyH_take (i := 21) (v := ?zv21) (by simp only [List.getElem?_toArray, List.getElem?_cons_succ, List.getElem?_cons_zero]; rfl) (by kernel_rfl) (by kernel_rfl) (by kernel_rfl) (by exact fun _ _ _ h => h) (Or.inl ⟨by rfl, ?zhy21⟩) (by assumption) ?zrest21
      case zhy21 => (intro w hSw; (try dsimp only at hSw); go_simp; try with_reducible rfl)
      try simp only [Act.put, List.setIfInBounds_toArray, List.set_cons_zero, List.set_cons_succ]
      refine wpAnyH_take (i := 22) (v := ?zv22) (by simp only [List.getElem?_toArray, List.getElem?_cons_succ, List.getElem?_cons_zero]; rfl) (by kernel_rfl) (by kernel_rfl) (by kernel_rfl) (by exact fun _ _ _ h => h) (Or.inl ⟨by rfl, ?zhy22⟩) (by assumption) ?zrest22
      case zhy22 => (intro w hSw; (try dsimp only at hSw); go_simp; try with_reducible rfl)
      try simp only [Act.put, List.setIfInBounds_toArray, List.set_cons_zero, List.set_cons_succ]
      refine wpAnyH_take (i := 23) (v := ?zv23) (by simp only [List.getElem?_toArray, List.getElem?_cons_succ, List.getElem?_cons_zero]; rfl) (by kernel_rfl) (by kernel_rfl) (by kernel_rfl) (by exact fun _ _ _ h => h) (Or.inl ⟨by rfl, ?zhy23⟩) (by assumption) ?zrest23
      case zhy23 => (intro w hSw; (try dsimp only at hSw); go_simp; try with_reducible rfl)
      try simp only [Act.put, List.setIfInBounds_toArray, List.set_cons_zero, List.set_cons_succ]
      refine wpAnyH_take (i := 24) (v := ?zv24) (by simp only [List.getElem?_toArray, List.getElem?_cons_succ, List.getElem?_cons_zero]; rfl) (by kernel_rfl) (by kernel_rfl) (by kernel_rfl) (by exact fun _ _ _ h => h) (Or.inl ⟨by rfl, ?zhy24⟩) (by assumption) ?zrest24
      case zhy24 => (intro w hSw; (try dsimp only at hSw); go_simp; try with_reducible rfl)
      try simp only [Act.put, List.setIfInBounds_toArray, List.set_cons_zero, List.set_cons_succ]
      refine wpAnyH_take (i := 25) (v := ?zv25) (by simp only [List.getElem?_toArray, List.getElem?_cons_succ, List.getElem?_cons_zero]; rfl) (by kernel_rfl) (by kernel_rfl) (by kernel_rfl) (by exact fun _ _ _ h => h) (Or.inl ⟨by rfl, ?zhy25⟩) (by assumption) ?zrest25
      case zhy25 => (intro w hSw; (try dsimp only at hSw); go_simp; try with_reducible rfl)
      try simp only [Act.put, List.setIfInBounds_toArray, List.set_cons_zero, List.set_cons_succ]
      refine wpAnyH_take (i := 26) (v := ?zv26) (by simp only [List.getElem?_toArray, List.getElem?_cons_succ, List.getElem?_cons_zero]; rfl) (by kernel_rfl) (by kernel_rfl) (by kernel_rfl) (by exact fun _ _ _ h => h) (Or.inl ⟨by rfl, ?zhy26⟩) (by assumption) ?zrest26
      case zhy26 => (intro w hSw; (try dsimp only at hSw); go_simp; try with_reducible rfl)
      try simp only [Act.put, List.setIfInBounds_toArray, List.set_cons_zero, List.set_cons_succ]
      refine wpAnyH_done (by kernel_rfl) ?_ _
      have b04 := b03'.trans (b34.mono b03'.size)
      go_wp2
      go_ret
      exact ⟨rfl, b04⟩
end Go.Proofs.YtlkclaehamidbaaDoor
