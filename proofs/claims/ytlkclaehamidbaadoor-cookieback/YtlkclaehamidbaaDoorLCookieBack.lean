/- Whatever secrets, cookie, and how long it has lived: the walk of law06.CookieBack ends with true. -/
import Derived.Test.YtlkclaehamidbaaDoorCkSa
import Derived.Deep.QuietTactic
import Derived.BigQuiet
namespace Go.Proofs.YtlkclaehamidbaaDoor
open Go.RowKit
theorem fr_grown {kp : Nat} {w w' : World} (h : Fr (fun b => b = kp) w w') : w.grownBy w' (some kp) := ⟨h.os, h.tape, h.output, h.size, fun k hk hn => h.block k hk (fun e => hn (by rw [e]))⟩
set_option maxRecDepth 100000 in
set_option maxHeartbeats 4000000 in
theorem walk_CookieBack (a0 : Option Addr) (n0 k0 : Nat) (z0 : List Nat) (a1 : Option Addr) (n1 k1 : Nat) (z1 : List Nat) (made life : Int) (port pport tag ptag tsn ptsn room outs ins addr other : Nat) (lv : Nat) (w : World) (h0 : Sl w a0 n0 k0 z0 ∧ k0 ≤ 140737488351232) (h1 : Sl w a1 n1 k1 z1 ∧ k1 ≤ 140737488351232) (hm : (Lit.int .i64 made).wf = true) (hl : (Lit.int .i64 life).wf = true) (hport : port < 65536) (hpport : pport < 65536) (htag : tag < 4294967296) (hptag : ptag < 4294967296) (htsn : tsn < 4294967296) (hptsn : ptsn < 4294967296) (hroom : room < 4294967296) (houts : outs < 65536) (hins : ins < 65536) (haddr : addr < 4294967296) (hother : other < 4294967296) (_hlv : lv < 65536) (hkw : KW w) :
    Calls Tryd.prog 4 #[.agg #[.slice a0 n0 k0, .slice a1 n1 k1], .agg #[.int .i64 made, .int .i64 life, .int .u16 (port : Nat), .int .u16 (pport : Nat), .int .u32 (tag : Nat), .int .u32 (ptag : Nat), .int .u32 (tsn : Nat), .int .u32 (ptsn : Nat), .int .u32 (room : Nat), .int .u16 (outs : Nat), .int .u16 (ins : Nat), .int .u32 (addr : Nat), .int .u32 (other : Nat)], .int .u16 (lv : Nat)] w fun e w' => e = .returned (.bool true) ∧ Below w.heap.size w w' := by
  obtain ⟨hs, hcb⟩ := h0
  obtain ⟨hs1, hcb1⟩ := h1
  have hcap := hs.cap
  have hcap1 := hs1.cap
  obtain ⟨W1, hW1⟩ : ∃ W, W = w.alloc (.cells #[.slice a0 n0 k0, .slice a1 n1 k1] 29) := ⟨_, rfl⟩
  obtain ⟨W, hW⟩ : ∃ W, W = W1.alloc (.cells #[.int .i64 made, .int .i64 life, .int .u16 (port : Nat), .int .u16 (pport : Nat), .int .u32 (tag : Nat), .int .u32 (ptag : Nat), .int .u32 (tsn : Nat), .int .u32 (ptsn : Nat), .int .u32 (room : Nat), .int .u16 (outs : Nat), .int .u16 (ins : Nat), .int .u32 (addr : Nat), .int .u32 (other : Nat)] 33) := ⟨_, rfl⟩
  have z1' : W1.heap.size = w.heap.size + 1 := by rw [hW1]; simp
  have b1 : Below w.heap.size w W1 := by rw [hW1]; exact (Below.refl _ _).alloc (Nat.le_refl _) _
  have b2 : Below W1.heap.size W1 W := by rw [hW]; exact (Below.refl _ _).alloc (Nat.le_refl _) _
  have bW : Below w.heap.size w W := b1.trans (b2.mono b1.size)
  have sA := (Stc.new w [.slice a0 n0 k0, .slice a1 n1 k1] 29 W1 hW1).below b2
  have sP := Stc.new W1 [.int .i64 made, .int .i64 life, .int .u16 (port : Nat), .int .u16 (pport : Nat), .int .u32 (tag : Nat), .int .u32 (ptag : Nat), .int .u32 (tsn : Nat), .int .u32 (ptsn : Nat), .int .u32 (room : Nat), .int .u16 (outs : Nat), .int .u16 (ins : Nat), .int .u32 (addr : Nat), .int .u32 (other : Nat)] 33 W hW
  rw [z1'] at sP
  have hsW := hs.below bW
  have hsW1 := hs1.below bW
  have y0 := sA.cell 0 _ rfl
  have hsl := fun (kp : Nat) (w : World) => seal_all kp z0 none made life port pport tag ptag tsn ptsn room outs ins addr other w hm hl hport hpport htag hptag htsn hptsn hroom houts hins haddr hother
  clear b1 b2 z1'
  go_enter Tryd.func4, Tryd.ntmps4
  go_wp2_with fail
  rw [← hW1, ← hW]
  clear hW1 hW y0
  refine (knew_any a0 n0 k0 z0 W hsW (by omega)).mono ?_
  rintro e w1 ⟨⟨kp, rfl, hky, hge⟩, b1⟩
  have sP1 := sP.below b1
  have sA1 := sA.below b1
  have hlP := sP.lt
  have b01 := bW.trans (b1.mono bW.size)
  have hkw1 := hkw.next b01
  have hs11 := hsW1.below b1
  have hzW := bW.size
  obtain ⟨_, _, _, _, _, _, hkS, _⟩ := hky.ex
  have hkl := hkS.lt
  clear sP sA b1 hsW hs hcb hcap hkS hs1 hsW1
  obtain ⟨S1, hS1⟩ : ∃ S, S = (if ckMay made life = true then sealV z0 ⟨made.toNat, life.toNat, port, pport, tag, ptag, tsn, ptsn, room, outs, ins, addr, other⟩ else []) := ⟨_, rfl⟩
  obtain ⟨E1, hE1⟩ : ∃ E, E = (if ckMay made life = true then 0 else 6 : Nat) := ⟨_, rfl⟩
  rw [← hS1, ← hE1] at hsl
  have HS1 := (show Hid _ from hS1)
  have HE1 := (show Hid _ from hE1)
  have hl1 : S1.length ≤ 84 := by rw [hS1]; split; rw [sealV_len]; exact Nat.le_refl _; simp
  obtain ⟨l1, hll1⟩ : ∃ l, l = S1.length := ⟨_, rfl⟩
  rw [← hll1] at hl1
  have HL1 := (show Hid _ from hll1)
  clear hS1 hE1 hll1
  have x0 := sP1.cell 0 _ rfl
  have x1 := sP1.cell 1 _ rfl
  have x2 := sP1.cell 2 _ rfl
  have x3 := sP1.cell 3 _ rfl
  have x4 := sP1.cell 4 _ rfl
  have x5 := sP1.cell 5 _ rfl
  have x6 := sP1.cell 6 _ rfl
  have x7 := sP1.cell 7 _ rfl
  have x8 := sP1.cell 8 _ rfl
  have x9 := sP1.cell 9 _ rfl
  have x10 := sP1.cell 10 _ rfl
  have x11 := sP1.cell 11 _ rfl
  have x12 := sP1.cell 12 _ rfl
  go_wp2_with fail
  refine (hsl kp w1 hky hkw1).mono ?_
  rintro e w2 ⟨⟨a2, c2, rfl, o2⟩, b2⟩
  rw [← HL1.out] at o2 ⊢
  have sP2 := sP1.below b2
  have sA2 := sA1.below b2
  have b02 := b01.trans (b2.mono b01.size)
  have hky2 := hky.below b2
  have hkw2 := hkw1.next b2
  have hs12 := hs11.below b2
  have hz12 := b2.size
  clear x0 x1 x2 x3 x4 x5 x6 x7 x8 x9 x10 x11 x12 sP1 sA1 b2 hky b01 hkw1 hsl hs11
  have x0 := sP2.cell 0 _ rfl
  have x1 := sP2.cell 1 _ rfl
  have x2 := sP2.cell 2 _ rfl
  have x3 := sP2.cell 3 _ rfl
  have x4 := sP2.cell 4 _ rfl
  have x5 := sP2.cell 5 _ rfl
  have x6 := sP2.cell 6 _ rfl
  have x7 := sP2.cell 7 _ rfl
  have x8 := sP2.cell 8 _ rfl
  have x9 := sP2.cell 9 _ rfl
  have x10 := sP2.cell 10 _ rfl
  have x11 := sP2.cell 11 _ rfl
  have x12 := sP2.cell 12 _ rfl
  go_wp2_with fail
  refine (rMay_any made life port pport tag ptag tsn ptsn room outs ins addr other w2).mono ?_
  rintro e w3 ⟨rfl, b3⟩
  have sP3 := sP2.below b3
  have sA3 := sA2.below b3
  have o3 := o2.below b3
  have b03 := b02.trans (b3.mono b02.size)
  have hky3 := hky2.below b3
  have hkw3 := hkw2.next b3
  have hs13 := hs12.below b3
  have hz13 : w1.heap.size ≤ w3.heap.size := Nat.le_trans hz12 b3.size
  clear x0 x1 x2 x3 x4 x5 x6 x7 x8 x9 x10 x11 x12 sP2 sA2 b3 hky2 b02 hkw2 o2 hs12
  cases hM : ckMay made life
  case false =>
    have e1 : E1 = 6 := by rw [HE1.out, hM]; rfl
    subst e1
    have hmy := fun w => rMay_any made life port pport tag ptag tsn ptsn room outs ins addr other w
    rw [hM] at hmy
    clear hM
    go_wp2_with fail
    refine (live6_any w3 hkw3).mono ?_
    rintro e w4 ⟨rfl, b4⟩
    have sP4 := sP3.below b4
    have b04 := b03.trans (b4.mono b03.size)
    have x0 := sP4.cell 0 _ rfl
    have x1 := sP4.cell 1 _ rfl
    have x2 := sP4.cell 2 _ rfl
    have x3 := sP4.cell 3 _ rfl
    have x4 := sP4.cell 4 _ rfl
    have x5 := sP4.cell 5 _ rfl
    have x6 := sP4.cell 6 _ rfl
    have x7 := sP4.cell 7 _ rfl
    have x8 := sP4.cell 8 _ rfl
    have x9 := sP4.cell 9 _ rfl
    have x10 := sP4.cell 10 _ rfl
    have x11 := sP4.cell 11 _ rfl
    have x12 := sP4.cell 12 _ rfl
    go_wp2_with fail
    refine (hmy w4).mono ?_
    rintro e w5 ⟨rfl, b5⟩
    have b05 := b04.trans (b5.mono b04.size)
    go_wp2
    go_ret
    exact ⟨rfl, b05⟩
  case true =>
  have hmm := of_decide_eq_true hM
  have e1 : E1 = 0 := by rw [HE1.out, hM]; rfl
  have hmy := fun w => rMay_any made life port pport tag ptag tsn ptsn room outs ins addr other w
  rw [hM] at hmy
  subst e1
  have x0 := sP3.cell 0 _ rfl
  by_cases hbig : 1099511627176 < made
  case pos =>
    clear hM
    go_wp2_with fail
    refine (live6_any w3 hkw3).mono ?_
    rintro e w4 ⟨rfl, b4⟩
    have sP4 := sP3.below b4
    have b04 := b03.trans (b4.mono b03.size)
    clear x0
    have x0 := sP4.cell 0 _ rfl
    have x1 := sP4.cell 1 _ rfl
    have x2 := sP4.cell 2 _ rfl
    have x3 := sP4.cell 3 _ rfl
    have x4 := sP4.cell 4 _ rfl
    have x5 := sP4.cell 5 _ rfl
    have x6 := sP4.cell 6 _ rfl
    have x7 := sP4.cell 7 _ rfl
    have x8 := sP4.cell 8 _ rfl
    have x9 := sP4.cell 9 _ rfl
    have x10 := sP4.cell 10 _ rfl
    have x11 := sP4.cell 11 _ rfl
    have x12 := sP4.cell 12 _ rfl
    go_wp2_with fail
    refine (hmy w4).mono ?_
    rintro e w5 ⟨rfl, b5⟩
    have b05 := b04.trans (b5.mono b04.size)
    go_wp2
    go_ret
    exact ⟨rfl, b05⟩
  case neg =>
    obtain ⟨m1, m2, m3, m4⟩ := hmm
    have f1 : l1 = 84 := by rw [HL1.out, HS1.out, hM]; exact sealV_len _ _
    have HSV : Hid (S1 = sealV z0 ⟨made.toNat, life.toNat, port, pport, tag, ptag, tsn, ptsn, room, outs, ins, addr, other⟩) := by show _ = _; rw [HS1.out, hM]; rfl
    subst f1
    obtain ⟨q, hq⟩ : ∃ q, q = lv % (life.toNat + 1) := ⟨_, rfl⟩
    have hq1 : (lv : Int) % (life + 1) = (q : Int) := by
      rw [hq, show life + 1 = ((life.toNat + 1 : Nat) : Int) from by omega]
      exact (Int.natCast_emod _ _).symm
    have hq2 : Int.tmod (lv : Int) (life + 1) = (q : Int) := by rw [Int.tmod_eq_emod_of_nonneg (by omega)]; exact hq1
    have hql : (q : Int) ≤ life := by have := Nat.mod_lt lv (show 0 < life.toNat + 1 by omega); omega
    have hd0 : ¬ life + 1 = 0 := by omega
    have hdw : IntKind.i64.wrap (life + 1) = life + 1 := by rw [IntKind.wrap_i64]; omega
    have hdw2 : IntKind.i64.wrap (made + (q : Int)) = made + (q : Int) := by rw [IntKind.wrap_i64]; omega
    have hok : Ck.ok ⟨made.toNat, life.toNat, port, pport, tag, ptag, tsn, ptsn, room, outs, ins, addr, other⟩ := ⟨by show made.toNat ≤ _; omega, by show life.toNat ≤ _; omega, hport, hpport, htag, hptag, htsn, hptsn, hroom, houts, hins, haddr, hother⟩
    have hop : ∀ (cur : List Nat) (fm : Option (List Nat)) (_ : z0 = cur ∨ fm = some z0) (a : Option Addr) (cc : Nat) (w : World), Ky w kp cur fm → Sl w a 84 cc S1 → KW w → Calls Tryd.prog 14 #[.pointer (some ⟨kp, 0, none⟩), .slice a 84 cc, .int .i64 (made + (q : Int))] w fun e w' => e = .returned (.tuple #[.agg #[.int .i64 made, .int .i64 life, .int .u16 (port : Nat), .int .u16 (pport : Nat), .int .u32 (tag : Nat), .int .u32 (ptag : Nat), .int .u32 (tsn : Nat), .int .u32 (ptsn : Nat), .int .u32 (room : Nat), .int .u16 (outs : Nat), .int .u16 (ins : Nat), .int .u32 (addr : Nat), .int .u32 (other : Nat)], .int .i64 0]) ∧ Below w.heap.size w w' := by
      intro cur fm hk a cc w g1 g2 g3
      refine (open_sealed kp cur fm z0 ⟨made.toNat, life.toNat, port, pport, tag, ptag, tsn, ptsn, room, outs, ins, addr, other⟩ hok hk a cc (made + (q : Int)) w g1 (by rw [← HSV.out]; exact g2) g3).mono ?_
      rintro e w' ⟨h, hb⟩
      have t1 : ((made.toNat : Nat) : Int) = made := by omega
      have t2 : ((life.toNat : Nat) : Int) = life := by omega
      have hE : osE ⟨made.toNat, life.toNat, port, pport, tag, ptag, tsn, ptsn, room, outs, ins, addr, other⟩ (made + (q : Int)) = 0 := by
        unfold osE
        rw [if_neg (by omega), if_neg (by show ¬ (made + (q : Int) < ((made.toNat : Nat) : Int) ∨ ((made.toNat : Nat) : Int) + ((life.toNat : Nat) : Int) < made + (q : Int)); omega)]
      rw [hE] at h
      rcases h with ⟨_, h⟩ | ⟨h, _⟩
      · refine ⟨?_, hb⟩
        simp only [t1, t2] at h
        exact h
      · exact absurd rfl h
    clear hM hq HS1 HE1 HL1 hok hmy
    have x1 := sP3.cell 1 _ rfl
    go_wp2_with fail
    go_quiet (fail)
    obtain ⟨v3, hv3⟩ : ∃ W, W = w3.drewN nq := ⟨_, rfl⟩
    have bq : Below w3.heap.size w3 v3 := by rw [hv3]; exact ⟨rfl, rfl, rfl, Nat.le_refl _, fun _ _ => rfl⟩
    rw [← hv3]
    have sP3 := sP3.below bq
    have sA3 := sA3.below bq
    have o3 := o3.below bq
    have hky3 := hky3.below bq
    have hkw3 := hkw3.next bq
    have hs13 := hs13.below bq
    have hz13 : w1.heap.size ≤ v3.heap.size := Nat.le_trans hz13 bq.size
    have b03 := b03.trans (bq.mono b03.size)
    have s3 := o3.sl (by omega)
    clear hv3 x0 x1
    go_wp2_with fail
    refine (hop z0 none (.inl rfl) a2 c2 v3 hky3 s3 hkw3).mono ?_
    rintro e w4 ⟨rfl, b4⟩
    have sP4 := sP3.below b4
    have sA4 := sA3.below b4
    have o4 := o3.below b4
    have b04 := b03.trans (b4.mono b03.size)
    have hky4 := hky3.below b4
    have hkw4 := hkw3.next b4
    have hs14 := hs13.below b4
    have hz14 : w1.heap.size ≤ w4.heap.size := Nat.le_trans hz13 b4.size
    obtain ⟨w5, hw5⟩ : ∃ W, W = w4.alloc (.cells #[.int .i64 made, .int .i64 life, .int .u16 (port : Nat), .int .u16 (pport : Nat), .int .u32 (tag : Nat), .int .u32 (ptag : Nat), .int .u32 (tsn : Nat), .int .u32 (ptsn : Nat), .int .u32 (room : Nat), .int .u16 (outs : Nat), .int .u16 (ins : Nat), .int .u32 (addr : Nat), .int .u32 (other : Nat)] 33) := ⟨_, rfl⟩
    have b45 : Below w4.heap.size w4 w5 := by rw [hw5]; exact (Below.refl _ _).alloc (Nat.le_refl _) _
    have sX5 := Stc.new w4 [.int .i64 made, .int .i64 life, .int .u16 (port : Nat), .int .u16 (pport : Nat), .int .u32 (tag : Nat), .int .u32 (ptag : Nat), .int .u32 (tsn : Nat), .int .u32 (ptsn : Nat), .int .u32 (room : Nat), .int .u16 (outs : Nat), .int .u16 (ins : Nat), .int .u32 (addr : Nat), .int .u32 (other : Nat)] 33 w5 hw5
    have y1 := sA4.cell 1 _ rfl
    have hlA := sA4.lt
    have b05 := b04.trans (b45.mono b04.size)
    clear sP3 sA3 o3 s3 b03 hky3 hkw3 hs13 b4
    go_wp2_with fail
    rw [← hw5]
    clear hw5 y1
    refine (turn_any kp z0 none a1 n1 k1 z1 w5 (hky4.below b45) (hs14.below b45) (by omega)).mono ?_
    rintro e w6 ⟨rfl, hky6, f6⟩
    have sP6 : Stc w6 (w.heap.size + 1) [.int .i64 made, .int .i64 life, .int .u16 (port : Nat), .int .u16 (pport : Nat), .int .u32 (tag : Nat), .int .u32 (ptag : Nat), .int .u32 (tsn : Nat), .int .u32 (ptsn : Nat), .int .u32 (room : Nat), .int .u16 (outs : Nat), .int .u16 (ins : Nat), .int .u32 (addr : Nat), .int .u32 (other : Nat)] := (sP4.below b45).fr f6 (by show ¬ w.heap.size + 1 = kp; omega)
    have sX6 : Stc w6 w4.heap.size [.int .i64 made, .int .i64 life, .int .u16 (port : Nat), .int .u16 (pport : Nat), .int .u32 (tag : Nat), .int .u32 (ptag : Nat), .int .u32 (tsn : Nat), .int .u32 (ptsn : Nat), .int .u32 (room : Nat), .int .u16 (outs : Nat), .int .u16 (ins : Nat), .int .u32 (addr : Nat), .int .u32 (other : Nat)] := sX5.fr f6 (by show ¬ w4.heap.size = kp; omega)
    have b06 : Below w.heap.size w w6 := b05.trans (f6.below w.heap.size b05.size (fun k hk => by omega))
    have o6 : OwnB w6 w1.heap.size a2 84 c2 S1 := (o4.below b45).kept (fr_grown f6) (by
      cases hq : (Value.slice a2 84 c2).ownBlock with
      | none => exact .inl rfl
      | some g => exact .inr (fun e => by have := (o4.own.lt g hq).1; injection e with e; omega))
    have hkw6 : KW w6 := hkw.next b06
    have s6 := o6.sl (by omega)
    clear sP4 sA4 sX5 o4 b04 hky4 hkw4 hs14 b45 b05 f6 hlA
    go_wp2_with fail
    refine (hop z1 (some z0) (.inr rfl) a2 c2 w6 hky6 s6 hkw6).mono ?_
    rintro e w7 ⟨rfl, b7⟩
    have sP7 := sP6.below b7
    have sX7 := sX6.below b7
    have b07 := b06.trans (b7.mono b06.size)
    have hkw7 := hkw6.next b7
    obtain ⟨w8, hw8⟩ : ∃ W, W = w7.alloc (.cells #[.int .i64 made, .int .i64 life, .int .u16 (port : Nat), .int .u16 (pport : Nat), .int .u32 (tag : Nat), .int .u32 (ptag : Nat), .int .u32 (tsn : Nat), .int .u32 (ptsn : Nat), .int .u32 (room : Nat), .int .u16 (outs : Nat), .int .u16 (ins : Nat), .int .u32 (addr : Nat), .int .u32 (other : Nat)] 33) := ⟨_, rfl⟩
    have b78 : Below w7.heap.size w7 w8 := by rw [hw8]; exact (Below.refl _ _).alloc (Nat.le_refl _) _
    have sY8 := Stc.new w7 [.int .i64 made, .int .i64 life, .int .u16 (port : Nat), .int .u16 (pport : Nat), .int .u32 (tag : Nat), .int .u32 (ptag : Nat), .int .u32 (tsn : Nat), .int .u32 (ptsn : Nat), .int .u32 (room : Nat), .int .u16 (outs : Nat), .int .u16 (ins : Nat), .int .u32 (addr : Nat), .int .u32 (other : Nat)] 33 w8 hw8
    have b08 := b07.trans (b78.mono b07.size)
    have sP8 := sP7.below b78
    have sX8 := sX7.below b78
    clear sP6 sX6 sP7 sX7 o6 s6 hky6 hkw6 b06 b7 hop
    go_wp2_with fail
    rw [← hw8]
    clear hw8
    refine (live6_any w8 (hkw7.next b78)).mono ?_
    rintro e w9 ⟨rfl, b9⟩
    have sP9 := sP8.below b9
    have sX9 := sX8.below b9
    have sY9 := sY8.below b9
    have b09 := b08.trans (b9.mono b08.size)
    have x0 := sP9.cell 0 _ rfl
    have x1 := sP9.cell 1 _ rfl
    have x2 := sP9.cell 2 _ rfl
    have x3 := sP9.cell 3 _ rfl
    have x4 := sP9.cell 4 _ rfl
    have x5 := sP9.cell 5 _ rfl
    have x6 := sP9.cell 6 _ rfl
    have x7 := sP9.cell 7 _ rfl
    have x8 := sP9.cell 8 _ rfl
    have x9 := sP9.cell 9 _ rfl
    have x10 := sP9.cell 10 _ rfl
    have x11 := sP9.cell 11 _ rfl
    have x12 := sP9.cell 12 _ rfl
    have y0 := sX9.cell 0 _ rfl
    have y1 := sX9.cell 1 _ rfl
    have y2 := sX9.cell 2 _ rfl
    have y3 := sX9.cell 3 _ rfl
    have y4 := sX9.cell 4 _ rfl
    have y5 := sX9.cell 5 _ rfl
    have y6 := sX9.cell 6 _ rfl
    have y7 := sX9.cell 7 _ rfl
    have y8 := sX9.cell 8 _ rfl
    have y9 := sX9.cell 9 _ rfl
    have y10 := sX9.cell 10 _ rfl
    have y11 := sX9.cell 11 _ rfl
    have y12 := sX9.cell 12 _ rfl
    have u0 := sY9.cell 0 _ rfl
    have u1 := sY9.cell 1 _ rfl
    have u2 := sY9.cell 2 _ rfl
    have u3 := sY9.cell 3 _ rfl
    have u4 := sY9.cell 4 _ rfl
    have u5 := sY9.cell 5 _ rfl
    have u6 := sY9.cell 6 _ rfl
    have u7 := sY9.cell 7 _ rfl
    have u8 := sY9.cell 8 _ rfl
    have u9 := sY9.cell 9 _ rfl
    have u10 := sY9.cell 10 _ rfl
    have u11 := sY9.cell 11 _ rfl
    have u12 := sY9.cell 12 _ rfl
    clear sP8 sX8 sY8 sP9 sX9 sY9 b9 b08
    go_wp2
    go_ret
    exact ⟨rfl, b09⟩
end Go.Proofs.YtlkclaehamidbaaDoor
