/- Whatever secret and cookies: the walk of law06.CookieLays ends with true. -/
import Derived.Test.YtmikhnaffhheoaaDoorRows
import Derived.Test.YtmikhnaffhheoaaDoorWork
import Derived.Lib.LaidU8
import Derived.PinnedBridge
import Derived.MakeChecks
import Derived.Test.YtmikhnaffhheoaaDoorZ2
import Derived.Test.YtmikhnaffhheoaaDoorZ1
import Derived.Lib.SlBytesConst
namespace Go.Proofs.YtmikhnaffhheoaaDoor
open Go.Shelf Go.Lib Go.RowKit
theorem rw_eq : (Rows.laid_trunkline_hash_roundWords : DataW Unit) = tabData .u32 (kW.map fun z : Nat => (z : Int)) := by kernel_rfl
theorem kw_of_laid {W : World} (h : laidMet Tryd.prog [("trunkline/hash.roundWords", Rows.laid_trunkline_hash_roundWords)] W) : KW W := by
  rw [rw_eq] at h
  obtain ⟨g, t, cs, fuel, p, hg, hty, hvar, hd⟩ := Lib.laidMet.reads h (List.mem_singleton.2 rfl)
  have hg0 : Tryd.prog.globalNamed "trunkline/hash.roundWords" = some 0 := by kernel_rfl
  have ht0 : (Tryd.prog.globals[0]?).map (·.type) = some 109 := by kernel_rfl
  obtain rfl := Option.some.inj (hg0.symm.trans hg)
  obtain rfl := Option.some.inj (ht0.symm.trans hty)
  have hcs := cells_of_tab Tryd.underlying109 Tryd.underlying37 (by kernel_rfl) (by kernel_rfl) hd
  have hcell : ∀ i, i < 64 → W.cell? ⟨0, i, none⟩ = some (.int .u32 (kW.getD i 0 : Nat)) := by
    intro i hi
    rw [World.var?_cell hg hvar i, ← Array.getElem?_toList, hcs]
    have hkl : kW.length = 64 := by decide
    simp [List.getD_eq_getElem?_getD, hkl, hi]
  refine ⟨?_, hcell⟩
  have h0 := hcell 0 (by omega)
  rcases Nat.lt_or_ge 0 W.heap.size with h' | h'
  · exact h'
  · simp [World.cell?, Array.getElem?_eq_none h'] at h0
end Go.Proofs.YtmikhnaffhheoaaDoor
namespace Go.Proofs.YtmikhnaffhheoaaDoor
open Go.RowKit
/-- The error of a sealed cookie at a tick. -/
def osE (c : Ck) (now : Int) : Nat := if now < 0 ∨ 1099511627776 < now then 2 else if now < (c.made : Int) ∨ (c.made : Int) + (c.life : Int) < now then 8 else 0
structure OsP (E : Nat) (c : Ck) (w : World) (e : Ending) (w' : World) : Prop where
  ans : (E = 0 ∧ e = .returned (.tuple #[.agg #[.int .i64 (c.made : Nat), .int .i64 (c.life : Nat), .int .u16 (c.port : Nat), .int .u16 (c.pport : Nat), .int .u32 (c.tag : Nat), .int .u32 (c.ptag : Nat), .int .u32 (c.tsn : Nat), .int .u32 (c.ptsn : Nat), .int .u32 (c.room : Nat), .int .u16 (c.outs : Nat), .int .u16 (c.ins : Nat), .int .u32 (c.addr : Nat), .int .u32 (c.other : Nat)], .int .i64 0])) ∨ (¬ E = 0 ∧ e = .returned (.tuple #[.agg #[.int .i64 0, .int .i64 0, .int .u16 0, .int .u16 0, .int .u32 0, .int .u32 0, .int .u32 0, .int .u32 0, .int .u32 0, .int .u16 0, .int .u16 0, .int .u32 0, .int .u32 0], .int .i64 (E : Nat)]))
  bel : Below w.heap.size w w'
theorem open_sealed (kp : Nat) (cur : List Nat) (fm : Option (List Nat)) (ks : List Nat) (c : Ck) (hc : c.ok) (hks : ks = cur ∨ fm = some ks) (a : Option Addr) (cc : Nat) (now : Int) (w : World) (hk : Ky w kp cur fm) (hs : Sl w a 84 cc (sealV ks c)) (hkw : KW w) :
    Calls Tryd.prog 13 #[.pointer (some ⟨kp, 0, none⟩), .slice a 84 cc, .int .i64 now] w fun e w' => OsP (osE c now) c w e w' := by
  refine (open_any kp cur fm a 84 cc (sealV ks c) now w hk hs hkw).mono ?_
  rintro e w' ⟨h, hb⟩
  have hE : opE cur fm (sealV ks c) now = osE c now := op_seal cur fm ks c hc hks now
  rw [hE, seal_take] at h
  rw [ps_made c hc, ps_life c hc, ps_port c hc, ps_pport c hc, ps_tag c hc, ps_ptag c hc, ps_tsn c hc, ps_ptsn c hc, ps_room c hc, ps_outs c hc, ps_ins c hc, ps_addr c hc, ps_other c hc, wrap_small _ (by have := hc.made; omega), wrap_small _ (by have := hc.life; omega)] at h
  exact ⟨h, hb⟩
theorem slB_newC (w : World) (t : TypeId) (fr : Nat × Nat) (zs : List Nat) (hb : zs.all (· < 256) = true) (hn : zs.length ≤ 1000) :
    Sl (w.alloc (.cells (zs.map fun z => Value.int .u8 (z : Nat)).toArray t fr)) (some ⟨w.heap.size, 0, none⟩) zs.length zs.length zs := sl_new w t fr zs hb hn _ rfl
def c0 : Ck := ⟨5, 9, 0, 0, 7, 0, 0, 0, 0, 0, 0, 0, 0⟩
theorem c0_ok : c0.ok := by constructor <;> decide
set_option maxRecDepth 100000 in
set_option maxHeartbeats 2000000 in
theorem live6_any (w : World) (hkw : KW w) :
    Calls Tryd.prog 6 #[] w fun e w' => e = .returned (.bool true) ∧ Below w.heap.size w w' := by
  have hse : ∀ kp (w : World), Ky w kp [115] none → KW w → Calls Tryd.prog 10 #[.pointer (some ⟨kp, 0, none⟩), .agg #[.int .i64 5, .int .i64 9, .int .u16 0, .int .u16 0, .int .u32 7, .int .u32 0, .int .u32 0, .int .u32 0, .int .u32 0, .int .u16 0, .int .u16 0, .int .u32 0, .int .u32 0]] w fun e w' => RowC w (sealV [115] c0) 0 e w' := fun kp w h1 h2 => seal_ok kp [115] none c0 c0_ok w h1 h2
  have hop : ∀ kp (a : Option Addr) cc (w : World), Ky w kp [115] none → Sl w a 84 cc (sealV [115] c0) → KW w → Calls Tryd.prog 13 #[.pointer (some ⟨kp, 0, none⟩), .slice a 84 cc, .int .i64 14] w fun e w' => e = .returned (.tuple #[.agg #[.int .i64 5, .int .i64 9, .int .u16 0, .int .u16 0, .int .u32 7, .int .u32 0, .int .u32 0, .int .u32 0, .int .u32 0, .int .u16 0, .int .u16 0, .int .u32 0, .int .u32 0], .int .i64 0]) ∧ Below w.heap.size w w' := by
    intro kp a cc w h1 h2 h3
    refine (open_sealed kp [115] none [115] c0 c0_ok (.inl rfl) a cc 14 w h1 h2 h3).mono ?_
    rintro e w' ⟨h, hb⟩
    rcases h with ⟨_, h⟩ | ⟨h, _⟩
    · exact ⟨h, hb⟩
    · exact absurd (show osE c0 14 = 0 by decide) h
  have hop2 : ∀ kp (a : Option Addr) cc (w : World), Ky w kp [115] none → Sl w a 84 cc (sealV [115] c0) → KW w → Calls Tryd.prog 13 #[.pointer (some ⟨kp, 0, none⟩), .slice a 84 cc, .int .i64 15] w fun e w' => e = .returned (.tuple #[.agg #[.int .i64 0, .int .i64 0, .int .u16 0, .int .u16 0, .int .u32 0, .int .u32 0, .int .u32 0, .int .u32 0, .int .u32 0, .int .u16 0, .int .u16 0, .int .u32 0, .int .u32 0], .int .i64 8]) ∧ Below w.heap.size w w' := by
    intro kp a cc w h1 h2 h3
    refine (open_sealed kp [115] none [115] c0 c0_ok (.inl rfl) a cc 15 w h1 h2 h3).mono ?_
    rintro e w' ⟨h, hb⟩
    rcases h with ⟨h, _⟩ | ⟨_, h⟩
    · exact absurd h (show ¬ osE c0 15 = 0 by decide)
    · exact ⟨h, hb⟩
  have HSL := (show Hid _ from sealV_len [115] c0)
  generalize sealV [115] c0 = SV at *
  have kc := fun (w : World) (C : Array Value) (n c : Nat) => Lib.run_convert_bytes_const (P := Tryd.prog) w 22 5 C n c Tryd.underlying22 Tryd.underlying5
  go_enter Tryd.func6, Tryd.ntmps6
  go_wp2_with fail
  obtain ⟨w1, hw1⟩ : ∃ w1, w1 = w.alloc (.cells #[.int .u8 115] 5 (1, 2)) := ⟨_, rfl⟩
  have b1 : Below w.heap.size w w1 := by rw [hw1]; exact (Below.refl _ _).alloc (Nat.le_refl _) _
  have hs1 : Sl w1 (some ⟨w.heap.size, 0, none⟩) 1 1 [115] := by rw [hw1]; exact slB_newC w 5 (1, 2) [115] rfl (by decide)
  rw [← hw1]
  clear hw1
  refine (knew_any _ 1 1 [115] w1 hs1 (by omega)).mono ?_
  rintro e w2 ⟨⟨kp, rfl, hky, hge⟩, b2⟩
  have b02 := b1.trans (b2.mono b1.size)
  clear hs1 b1 b2 kc
  go_wp2_with fail
  refine (hse kp w2 hky (hkw.next b02)).mono ?_
  rintro e w3 ⟨⟨a3, c3, rfl, o3⟩, b3⟩
  rw [HSL.out] at o3 ⊢
  have b03 := b02.trans (b3.mono b02.size)
  have hk3 := hky.below b3
  have s3 := o3.sl (by omega)
  clear o3 hse hky
  go_wp2_with fail
  refine (hop kp a3 c3 w3 hk3 s3 (hkw.next b03)).mono ?_
  rintro e w4 ⟨rfl, b4⟩
  have b04 := b03.trans (b4.mono b03.size)
  have hk4 := hk3.below b4
  have s4 := s3.below b4
  obtain ⟨w5, hw5⟩ : ∃ W, W = w4.alloc (.cells #[.int .i64 5, .int .i64 9, .int .u16 0, .int .u16 0, .int .u32 7, .int .u32 0, .int .u32 0, .int .u32 0, .int .u32 0, .int .u16 0, .int .u16 0, .int .u32 0, .int .u32 0] 39) := ⟨_, rfl⟩
  have b45 : Below w4.heap.size w4 w5 := by rw [hw5]; exact (Below.refl _ _).alloc (Nat.le_refl _) _
  have sC := Stc.new w4 [.int .i64 5, .int .i64 9, .int .u16 0, .int .u16 0, .int .u32 7, .int .u32 0, .int .u32 0, .int .u32 0, .int .u32 0, .int .u16 0, .int .u16 0, .int .u32 0, .int .u32 0] 39 w5 hw5
  have b05 := b04.trans (b45.mono b04.size)
  clear hop hk3 s3 b03 b3 b4
  go_wp2_with fail
  rw [← hw5]
  clear hw5
  refine (hop2 kp a3 c3 w5 (hk4.below b45) (s4.below b45) (hkw.next b05)).mono ?_
  rintro e w6 ⟨rfl, b6⟩
  have sC6 := sC.below b6
  have b06 := b05.trans (b6.mono b05.size)
  have x0 := sC6.cell 0 _ rfl
  have x4 := sC6.cell 4 _ rfl
  have hlc := sC6.lt
  have HB6 : Hid (∀ o, Below w.heap.size w (w6.alloc o)) := fun o => b06.alloc b06.size o
  have HB7 := (show Hid _ from b06)
  clear sC sC6 hop2 hk4 s4 b45 b05 b6 b06 b02 hge b04
  go_wp2
  go_ret
  exact ⟨rfl, by first | exact HB7.out | exact HB6.out _⟩
end Go.Proofs.YtmikhnaffhheoaaDoor
namespace Go.Proofs.YtmikhnaffhheoaaDoor
open Go.RowKit
set_option maxRecDepth 100000 in
set_option maxHeartbeats 1000000 in
theorem rMay_any (made life : Int) (port pport tag ptag tsn ptsn room outs ins addr other : Nat) (w : World) :
    Calls Tryd.prog 26 #[.agg #[.int .i64 made, .int .i64 life, .int .u16 (port : Nat), .int .u16 (pport : Nat), .int .u32 (tag : Nat), .int .u32 (ptag : Nat), .int .u32 (tsn : Nat), .int .u32 (ptsn : Nat), .int .u32 (room : Nat), .int .u16 (outs : Nat), .int .u16 (ins : Nat), .int .u32 (addr : Nat), .int .u32 (other : Nat)]] w fun e w' => e = .returned (.bool (ckMay made life)) ∧ Below w.heap.size w w' := by
  have hb : Below w.heap.size w (w.alloc (.cells #[.int .i64 made, .int .i64 life, .int .u16 (port : Nat), .int .u16 (pport : Nat), .int .u32 (tag : Nat), .int .u32 (ptag : Nat), .int .u32 (tsn : Nat), .int .u32 (ptsn : Nat), .int .u32 (room : Nat), .int .u16 (outs : Nat), .int .u16 (ins : Nat), .int .u32 (addr : Nat), .int .u32 (other : Nat)] 39)) := (Below.refl _ _).alloc (Nat.le_refl _) _
  rcases (show made < 0 ∨ (0 ≤ made ∧ 1099511627776 < made) ∨ (0 ≤ made ∧ made ≤ 1099511627776 ∧ life < 0) ∨ (0 ≤ made ∧ made ≤ 1099511627776 ∧ 0 ≤ life ∧ 600 < life) ∨ (0 ≤ made ∧ made ≤ 1099511627776 ∧ 0 ≤ life ∧ life ≤ 600) by omega) with h | ⟨h, h2⟩ | ⟨h, h2, h3⟩ | ⟨h, h2, h3, h4⟩ | ⟨h, h2, h3, h4⟩
  · have HE : Hid (ckMay made life = false) := by show _ = _; unfold ckMay; exact decide_eq_false (by omega)
    go_enter Tryd.func26, Tryd.ntmps26
    go_wp2
    go_ret
    exact ⟨by rw [HE.out]; rfl, hb⟩
  · have HE : Hid (ckMay made life = false) := by show _ = _; unfold ckMay; exact decide_eq_false (by omega)
    go_enter Tryd.func26, Tryd.ntmps26
    go_wp2
    go_ret
    exact ⟨by rw [HE.out]; rfl, hb⟩
  · have HE : Hid (ckMay made life = false) := by show _ = _; unfold ckMay; exact decide_eq_false (by omega)
    go_enter Tryd.func26, Tryd.ntmps26
    go_wp2
    go_ret
    exact ⟨by rw [HE.out]; rfl, hb⟩
  · have HE : Hid (ckMay made life = false) := by show _ = _; unfold ckMay; exact decide_eq_false (by omega)
    have h5 : ¬ life ≤ 600 := by omega
    go_enter Tryd.func26, Tryd.ntmps26
    go_wp2
    go_ret
    exact ⟨by rw [HE.out]; first | rfl | simp [h5], hb⟩
  · have HE : Hid (ckMay made life = true) := by show _ = _; unfold ckMay; exact decide_eq_true ⟨h, h2, h3, h4⟩
    go_enter Tryd.func26, Tryd.ntmps26
    go_wp2
    go_ret
    exact ⟨by rw [HE.out]; first | rfl | simp [h4], hb⟩
/-- What Seal answers, whatever the cookie. -/
theorem seal_all (kp : Nat) (cur : List Nat) (fm : Option (List Nat)) (made life : Int) (port pport tag ptag tsn ptsn room outs ins addr other : Nat) (w : World) (_hm : (Lit.int .i64 made).wf = true) (_hl : (Lit.int .i64 life).wf = true) (hport : port < 65536) (hpport : pport < 65536) (htag : tag < 4294967296) (hptag : ptag < 4294967296) (htsn : tsn < 4294967296) (hptsn : ptsn < 4294967296) (hroom : room < 4294967296) (houts : outs < 65536) (hins : ins < 65536) (haddr : addr < 4294967296) (hother : other < 4294967296) (hky : Ky w kp cur fm) (hkw : KW w) :
    Calls Tryd.prog 10 #[.pointer (some ⟨kp, 0, none⟩), .agg #[.int .i64 made, .int .i64 life, .int .u16 (port : Nat), .int .u16 (pport : Nat), .int .u32 (tag : Nat), .int .u32 (ptag : Nat), .int .u32 (tsn : Nat), .int .u32 (ptsn : Nat), .int .u32 (room : Nat), .int .u16 (outs : Nat), .int .u16 (ins : Nat), .int .u32 (addr : Nat), .int .u32 (other : Nat)]] w fun e w' => RowC w (if ckMay made life = true then sealV cur ⟨made.toNat, life.toNat, port, pport, tag, ptag, tsn, ptsn, room, outs, ins, addr, other⟩ else []) (if ckMay made life = true then 0 else 6) e w' := by
  cases hM : ckMay made life
  · rw [if_neg (by simp), if_neg (by simp)]
    exact seal_no kp made life ⟨0, 0, port, pport, tag, ptag, tsn, ptsn, room, outs, ins, addr, other⟩ w hM
  · have hm := of_decide_eq_true hM
    rw [if_pos rfl, if_pos rfl]
    have hok : Ck.ok ⟨made.toNat, life.toNat, port, pport, tag, ptag, tsn, ptsn, room, outs, ins, addr, other⟩ := ⟨by show made.toNat ≤ _; omega, by show life.toNat ≤ _; omega, hport, hpport, htag, hptag, htsn, hptsn, hroom, houts, hins, haddr, hother⟩
    have hse := seal_ok kp cur fm ⟨made.toNat, life.toNat, port, pport, tag, ptag, tsn, ptsn, room, outs, ins, addr, other⟩ hok w hky hkw
    have e1 : ((made.toNat : Nat) : Int) = made := by omega
    have e2 : ((life.toNat : Nat) : Int) = life := by omega
    simp only [e1, e2] at hse
    exact hse
end Go.Proofs.YtmikhnaffhheoaaDoor
