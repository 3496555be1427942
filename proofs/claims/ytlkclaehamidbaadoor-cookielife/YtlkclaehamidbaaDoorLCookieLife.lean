/- Whatever secret, cookie and tick: the walk of law06.CookieLife ends with true. -/
import Derived.Test.YtlkclaehamidbaaDoorCkOs
namespace Go.Proofs.YtlkclaehamidbaaDoor
open Go.RowKit
set_option maxRecDepth 100000 in
set_option maxHeartbeats 4000000 in
theorem walk_CookieLife (a : Option Addr) (n c0 : Nat) (zs : List Nat) (made life : Int) (port pport tag ptag tsn ptsn room outs ins addr other : Nat) (now : Int) (w : World) (h0 : Sl w a n c0 zs ∧ c0 * 1 ≤ 140737488351232) (_hm : (Lit.int .i64 made).wf = true) (_hl : (Lit.int .i64 life).wf = true) (hport : port < 65536) (hpport : pport < 65536) (htag : tag < 4294967296) (hptag : ptag < 4294967296) (htsn : tsn < 4294967296) (hptsn : ptsn < 4294967296) (hroom : room < 4294967296) (houts : outs < 65536) (hins : ins < 65536) (haddr : addr < 4294967296) (hother : other < 4294967296) (_hn : (Lit.int .i64 now).wf = true) (hkw : KW w) :
    Calls Tryd.prog 5 #[.slice a n c0, .agg #[.int .i64 made, .int .i64 life, .int .u16 (port : Nat), .int .u16 (pport : Nat), .int .u32 (tag : Nat), .int .u32 (ptag : Nat), .int .u32 (tsn : Nat), .int .u32 (ptsn : Nat), .int .u32 (room : Nat), .int .u16 (outs : Nat), .int .u16 (ins : Nat), .int .u32 (addr : Nat), .int .u32 (other : Nat)], .int .i64 now] w fun e w' => e = .returned (.bool true) ∧ Below w.heap.size w w' := by
  obtain ⟨hs, hcb⟩ := h0
  have hcap := hs.cap
  obtain ⟨c, hc⟩ : ∃ c : Ck, c = ⟨made.toNat, life.toNat, port, pport, tag, ptag, tsn, ptsn, room, outs, ins, addr, other⟩ := ⟨_, rfl⟩
  obtain ⟨W, hW⟩ : ∃ W, W = w.alloc (.cells #[.int .i64 made, .int .i64 life, .int .u16 (port : Nat), .int .u16 (pport : Nat), .int .u32 (tag : Nat), .int .u32 (ptag : Nat), .int .u32 (tsn : Nat), .int .u32 (ptsn : Nat), .int .u32 (room : Nat), .int .u16 (outs : Nat), .int .u16 (ins : Nat), .int .u32 (addr : Nat), .int .u32 (other : Nat)] 33) := ⟨_, rfl⟩
  have bW : Below w.heap.size w W := by rw [hW]; exact (Below.refl _ _).alloc (Nat.le_refl _) _
  have sP := Stc.new w [.int .i64 made, .int .i64 life, .int .u16 (port : Nat), .int .u16 (pport : Nat), .int .u32 (tag : Nat), .int .u32 (ptag : Nat), .int .u32 (tsn : Nat), .int .u32 (ptsn : Nat), .int .u32 (room : Nat), .int .u16 (outs : Nat), .int .u16 (ins : Nat), .int .u32 (addr : Nat), .int .u32 (other : Nat)] 33 W hW
  have hsW := hs.below bW
  go_enter Tryd.func5, Tryd.ntmps5
  go_wp2_with fail
  rw [← hW]
  clear hW
  refine (knew_any a n c0 zs W hsW (by omega)).mono ?_
  rintro e w1 ⟨⟨kp, rfl, hky, hge⟩, b1⟩
  have sP1 := sP.below b1
  have b01 := bW.trans (b1.mono bW.size)
  have hkw1 := hkw.next b01
  clear sP bW b1 hsW hs hcb hcap hge
  have x0 := sP1.cell 0 _ rfl
  have x1 := sP1.cell 1 _ rfl
  have x2 := sP1.cell 2 _ rfl
  have x3 := sP1.cell 3 _ rfl
  have x4 := sP1.cell 4 _ rfl
  have x5 := sP1.cell 5 _ rfl
  have x6 := sP1.cell 6 _ rfl
  have x7 := sP1.cell 7 _ rfl
  have x8 := sP1.cell 8 _ rfl
  have x9 := sP1.cell 9 _ rfl
  have x10 := sP1.cell 10 _ rfl
  have x11 := sP1.cell 11 _ rfl
  have x12 := sP1.cell 12 _ rfl
  cases hM : ckMay made life
  case false =>
    have hse := seal_no kp made life ⟨0, 0, port, pport, tag, ptag, tsn, ptsn, room, outs, ins, addr, other⟩ w1 hM
    clear hM hc
    go_wp2_with fail
    refine hse.mono ?_
    rintro e w2 ⟨⟨a2, c2, rfl, o2⟩, b2⟩
    have b02 := b01.trans (b2.mono b01.size)
    clear x0 x1 x2 x3 x4 x5 x6 x7 x8 x9 x10 x11 x12 sP1
    go_wp2_with fail
    refine (live6_any w2 (hkw1.next b2)).mono ?_
    rintro e w3 ⟨rfl, b3⟩
    have b03 := b02.trans (b3.mono b02.size)
    go_wp2
    go_ret
    exact ⟨rfl, b03⟩
  case true =>
    have hm := of_decide_eq_true hM
    have hok : c.ok := by rw [hc]; exact ⟨by show made.toNat ≤ _; omega, by show life.toNat ≤ _; omega, hport, hpport, htag, hptag, htsn, hptsn, hroom, houts, hins, haddr, hother⟩
    have hse := seal_ok kp zs none c hok w1 hky hkw1
    have hop := fun (a : Option Addr) (cc : Nat) (w : World) => open_sealed kp zs none zs c hok (.inl rfl) a cc now w
    have HSL := (show Hid _ from sealV_len zs c)
    have em : (c.made : Int) = made := by rw [hc]; show ((made.toNat : Nat) : Int) = made; omega
    have el : (c.life : Int) = life := by rw [hc]; show ((life.toNat : Nat) : Int) = life; omega
    have HOE : Hid (osE c now = if now < 0 ∨ 1099511627776 < now then 2 else if now < made ∨ made + life < now then 8 else 0) := by show _ = _; unfold osE; rw [em, el]
    obtain ⟨m1, m2, m3, m4⟩ := hm
    obtain ⟨E, hE⟩ : ∃ E, E = osE c now := ⟨_, rfl⟩
    rw [← hE] at HOE
    obtain ⟨SV, hSV⟩ : ∃ SV, SV = sealV zs c := ⟨_, rfl⟩
    rw [← hSV] at hse HSL
    have hop2 : ∀ (a : Option Addr) (cc : Nat) (w : World), Ky w kp zs none → Sl w a 84 cc SV → KW w → Calls Tryd.prog 14 #[.pointer (some ⟨kp, 0, none⟩), .slice a 84 cc, .int .i64 now] w fun e w' => ((E = 0 ∧ e = .returned (.tuple #[.agg #[.int .i64 made, .int .i64 life, .int .u16 (port : Nat), .int .u16 (pport : Nat), .int .u32 (tag : Nat), .int .u32 (ptag : Nat), .int .u32 (tsn : Nat), .int .u32 (ptsn : Nat), .int .u32 (room : Nat), .int .u16 (outs : Nat), .int .u16 (ins : Nat), .int .u32 (addr : Nat), .int .u32 (other : Nat)], .int .i64 0])) ∨ (¬ E = 0 ∧ e = .returned (.tuple #[.agg #[.int .i64 0, .int .i64 0, .int .u16 0, .int .u16 0, .int .u32 0, .int .u32 0, .int .u32 0, .int .u32 0, .int .u32 0, .int .u16 0, .int .u16 0, .int .u32 0, .int .u32 0], .int .i64 (E : Nat)]))) ∧ Below w.heap.size w w' := by
      intro a cc w h1 h2 h3
      refine (hop a cc w h1 (by rw [← hSV]; exact h2) h3).mono ?_
      rintro e w' ⟨h, hb⟩
      rw [← hE, em, el] at h
      refine ⟨?_, hb⟩
      rw [hc] at h
      exact h
    rw [show sealV zs c = SV from hSV.symm] at *
    have hse2 : Calls Tryd.prog 12 #[.pointer (some ⟨kp, 0, none⟩), .agg #[.int .i64 made, .int .i64 life, .int .u16 (port : Nat), .int .u16 (pport : Nat), .int .u32 (tag : Nat), .int .u32 (ptag : Nat), .int .u32 (tsn : Nat), .int .u32 (ptsn : Nat), .int .u32 (room : Nat), .int .u16 (outs : Nat), .int .u16 (ins : Nat), .int .u32 (addr : Nat), .int .u32 (other : Nat)]] w1 fun e w' => RowC w1 SV 0 e w' := by
      rw [em, el] at hse
      rw [hc] at hse
      exact hse
    clear hM hc hok hse hop em el hE hSV c
    go_wp2_with fail
    refine hse2.mono ?_
    rintro e w2 ⟨⟨a2, c2, rfl, o2⟩, b2⟩
    rw [HSL.out] at o2 ⊢
    have b02 := b01.trans (b2.mono b01.size)
    have sP2 := sP1.below b2
    have s2 := o2.sl (by omega)
    have hky2 := hky.below b2
    have hkw2 := hkw1.next b2
    clear x0 x1 x2 x3 x4 x5 x6 x7 x8 x9 x10 x11 x12 sP1 o2 b2 hse2 hky b01 hkw1
    go_wp2_with fail
    refine (hop2 a2 c2 w2 hky2 s2 hkw2).mono ?_
    rintro e w3 ⟨h, b3⟩
    have sP3 := sP2.below b3
    have b03 := b02.trans (b3.mono b02.size)
    have hkw3 := hkw2.next b3
    have hl3 := sP3.lt
    clear hop2 hky2 s2 b02 sP2 b3 hkw2
    rcases h with ⟨h0, rfl⟩ | ⟨h0, rfl⟩
    · -- it is opened
      have hE0 : ¬ (now < 0 ∨ 1099511627776 < now) ∧ ¬ (now < made ∨ made + life < now) := by
        have h := HOE.out
        rw [h0] at h
        split at h
        · cases h
        · split at h
          · cases h
          · exact ⟨by assumption, by assumption⟩
      have d1 : ¬ now < 0 := by omega
      have d2 : ¬ 1099511627776 < now := by omega
      have d3 : ¬ now < made := by omega
      have d4 : ¬ life < now - made := by omega
      have dw : IntKind.i64.wrap (now - made) = now - made := by rw [IntKind.wrap_i64]; omega
      clear hE0 HOE h0
      obtain ⟨w4, hw4⟩ : ∃ W, W = w3.alloc (.cells #[.int .i64 made, .int .i64 life, .int .u16 (port : Nat), .int .u16 (pport : Nat), .int .u32 (tag : Nat), .int .u32 (ptag : Nat), .int .u32 (tsn : Nat), .int .u32 (ptsn : Nat), .int .u32 (room : Nat), .int .u16 (outs : Nat), .int .u16 (ins : Nat), .int .u32 (addr : Nat), .int .u32 (other : Nat)] 33) := ⟨_, rfl⟩
      have b34 : Below w3.heap.size w3 w4 := by rw [hw4]; exact (Below.refl _ _).alloc (Nat.le_refl _) _
      have sD4 := Stc.new w3 [.int .i64 made, .int .i64 life, .int .u16 (port : Nat), .int .u16 (pport : Nat), .int .u32 (tag : Nat), .int .u32 (ptag : Nat), .int .u32 (tsn : Nat), .int .u32 (ptsn : Nat), .int .u32 (room : Nat), .int .u16 (outs : Nat), .int .u16 (ins : Nat), .int .u32 (addr : Nat), .int .u32 (other : Nat)] 33 w4 hw4
      have b04 := b03.trans (b34.mono b03.size)
      have sP4 := sP3.below b34
      have y0 := sP3.cell 0 _ rfl
      have y1 := sP3.cell 1 _ rfl
      go_wp2_with fail
      rw [← hw4]
      clear hw4 y0 y1
      refine (live6_any w4 (hkw3.next b34)).mono ?_
      rintro e w5 ⟨rfl, b5⟩
      have sD5 := sD4.below b5
      have sP5 := sP4.below b5
      have b05 := b04.trans (b5.mono b04.size)
      have x0 := sD5.cell 0 _ rfl
      have x1 := sD5.cell 1 _ rfl
      have x2 := sD5.cell 2 _ rfl
      have x3 := sD5.cell 3 _ rfl
      have x4 := sD5.cell 4 _ rfl
      have x5 := sD5.cell 5 _ rfl
      have x6 := sD5.cell 6 _ rfl
      have x7 := sD5.cell 7 _ rfl
      have x8 := sD5.cell 8 _ rfl
      have x9 := sD5.cell 9 _ rfl
      have x10 := sD5.cell 10 _ rfl
      have x11 := sD5.cell 11 _ rfl
      have x12 := sD5.cell 12 _ rfl
      have y0 := sP5.cell 0 _ rfl
      have y1 := sP5.cell 1 _ rfl
      have y2 := sP5.cell 2 _ rfl
      have y3 := sP5.cell 3 _ rfl
      have y4 := sP5.cell 4 _ rfl
      have y5 := sP5.cell 5 _ rfl
      have y6 := sP5.cell 6 _ rfl
      have y7 := sP5.cell 7 _ rfl
      have y8 := sP5.cell 8 _ rfl
      have y9 := sP5.cell 9 _ rfl
      have y10 := sP5.cell 10 _ rfl
      have y11 := sP5.cell 11 _ rfl
      have y12 := sP5.cell 12 _ rfl
      clear sD4 sP4 sD5 sP5 b5 b04 b34
      go_wp2
      go_ret
      exact ⟨rfl, b05⟩
    · -- it is not
      obtain ⟨w4, hw4⟩ : ∃ W, W = w3.alloc (.cells #[.int .i64 0, .int .i64 0, .int .u16 0, .int .u16 0, .int .u32 0, .int .u32 0, .int .u32 0, .int .u32 0, .int .u32 0, .int .u16 0, .int .u16 0, .int .u32 0, .int .u32 0] 33) := ⟨_, rfl⟩
      have b34 : Below w3.heap.size w3 w4 := by rw [hw4]; exact (Below.refl _ _).alloc (Nat.le_refl _) _
      have sD4 := Stc.new w3 [.int .i64 0, .int .i64 0, .int .u16 0, .int .u16 0, .int .u32 0, .int .u32 0, .int .u32 0, .int .u32 0, .int .u32 0, .int .u16 0, .int .u16 0, .int .u32 0, .int .u32 0] 33 w4 hw4
      have b04 := b03.trans (b34.mono b03.size)
      have y0 := sP3.cell 0 _ rfl
      have y1 := sP3.cell 1 _ rfl
      by_cases hr : now < 0 ∨ 1099511627776 < now
      · have hEE : E = 2 := by rw [HOE.out, if_pos hr]
        subst hEE
        rcases (show now < 0 ∨ (¬ now < 0 ∧ 1099511627776 < now) by omega) with g1 | ⟨g1, g2⟩
        all_goals
          clear hr HOE h0
          go_wp2_with fail
          rw [← hw4]
          clear hw4
          refine (live6_any w4 (hkw3.next b34)).mono ?_
          rintro e w5 ⟨rfl, b5⟩
          have b05 := b04.trans (b5.mono b04.size)
          go_wp2
          go_ret
          exact ⟨rfl, b05⟩
      · have hEE : E = 8 := by
          have h := HOE.out
          rw [if_neg hr] at h
          split at h
          · exact h
          · exact absurd h h0
        have hst : now < made ∨ made + life < now := by
          have h := HOE.out
          rw [if_neg hr, hEE] at h
          split at h
          · assumption
          · cases h
        subst hEE
        have d1 : ¬ now < 0 := by omega
        have d2 : ¬ 1099511627776 < now := by omega
        have dw : IntKind.i64.wrap (now - made) = now - made := by rw [IntKind.wrap_i64]; omega
        rcases (show now < made ∨ (¬ now < made ∧ life < now - made) by omega) with g1 | ⟨g1, g2⟩
        all_goals
          clear hr HOE h0 hst
          go_wp2_with fail
          rw [← hw4]
          clear hw4
          refine (live6_any w4 (hkw3.next b34)).mono ?_
          rintro e w5 ⟨rfl, b5⟩
          have sD5 := sD4.below b5
          have b05 := b04.trans (b5.mono b04.size)
          have x0 := sD5.cell 0 _ rfl
          have x1 := sD5.cell 1 _ rfl
          have x2 := sD5.cell 2 _ rfl
          have x3 := sD5.cell 3 _ rfl
          have x4 := sD5.cell 4 _ rfl
          have x5 := sD5.cell 5 _ rfl
          have x6 := sD5.cell 6 _ rfl
          have x7 := sD5.cell 7 _ rfl
          have x8 := sD5.cell 8 _ rfl
          have x9 := sD5.cell 9 _ rfl
          have x10 := sD5.cell 10 _ rfl
          have x11 := sD5.cell 11 _ rfl
          have x12 := sD5.cell 12 _ rfl
          clear sD5 sD4
          go_wp2
          go_ret
          exact ⟨rfl, b05⟩
end Go.Proofs.YtlkclaehamidbaaDoor
