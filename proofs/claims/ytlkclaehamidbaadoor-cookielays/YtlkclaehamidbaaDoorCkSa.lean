/- Whatever secret and cookies: the walk of law06.CookieLays ends with true. -/
import Derived.Test.YtlkclaehamidbaaDoorCkOs
import Derived.Test.YtlkclaehamidbaaDoorStr
namespace Go.Proofs.YtlkclaehamidbaaDoor
open Go.RowKit
set_option maxRecDepth 100000 in
set_option maxHeartbeats 1000000 in
theorem rMay_any (made life : Int) (port pport tag ptag tsn ptsn room outs ins addr other : Nat) (w : World) :
    Calls Tryd.prog 13 #[.agg #[.int .i64 made, .int .i64 life, .int .u16 (port : Nat), .int .u16 (pport : Nat), .int .u32 (tag : Nat), .int .u32 (ptag : Nat), .int .u32 (tsn : Nat), .int .u32 (ptsn : Nat), .int .u32 (room : Nat), .int .u16 (outs : Nat), .int .u16 (ins : Nat), .int .u32 (addr : Nat), .int .u32 (other : Nat)]] w fun e w' => e = .returned (.bool (ckMay made life)) ∧ Below w.heap.size w w' := by
  have hb : Below w.heap.size w (w.alloc (.cells #[.int .i64 made, .int .i64 life, .int .u16 (port : Nat), .int .u16 (pport : Nat), .int .u32 (tag : Nat), .int .u32 (ptag : Nat), .int .u32 (tsn : Nat), .int .u32 (ptsn : Nat), .int .u32 (room : Nat), .int .u16 (outs : Nat), .int .u16 (ins : Nat), .int .u32 (addr : Nat), .int .u32 (other : Nat)] 33)) := (Below.refl _ _).alloc (Nat.le_refl _) _
  rcases (show made < 0 ∨ (0 ≤ made ∧ 1099511627776 < made) ∨ (0 ≤ made ∧ made ≤ 1099511627776 ∧ life < 0) ∨ (0 ≤ made ∧ made ≤ 1099511627776 ∧ 0 ≤ life ∧ 600 < life) ∨ (0 ≤ made ∧ made ≤ 1099511627776 ∧ 0 ≤ life ∧ life ≤ 600) by omega) with h | ⟨h, h2⟩ | ⟨h, h2, h3⟩ | ⟨h, h2, h3, h4⟩ | ⟨h, h2, h3, h4⟩
  · have HE : Hid (ckMay made life = false) := by show _ = _; unfold ckMay; exact decide_eq_false (by omega)
    go_enter Tryd.func13, Tryd.ntmps13
    go_wp2
    go_ret
    exact ⟨by rw [HE.out]; rfl, hb⟩
  · have HE : Hid (ckMay made life = false) := by show _ = _; unfold ckMay; exact decide_eq_false (by omega)
    go_enter Tryd.func13, Tryd.ntmps13
    go_wp2
    go_ret
    exact ⟨by rw [HE.out]; rfl, hb⟩
  · have HE : Hid (ckMay made life = false) := by show _ = _; unfold ckMay; exact decide_eq_false (by omega)
    go_enter Tryd.func13, Tryd.ntmps13
    go_wp2
    go_ret
    exact ⟨by rw [HE.out]; rfl, hb⟩
  · have HE : Hid (ckMay made life = false) := by show _ = _; unfold ckMay; exact decide_eq_false (by omega)
    have h5 : ¬ life ≤ 600 := by omega
    go_enter Tryd.func13, Tryd.ntmps13
    go_wp2
    go_ret
    exact ⟨by rw [HE.out]; first | rfl | simp [h5], hb⟩
  · have HE : Hid (ckMay made life = true) := by show _ = _; unfold ckMay; exact decide_eq_true ⟨h, h2, h3, h4⟩
    go_enter Tryd.func13, Tryd.ntmps13
    go_wp2
    go_ret
    exact ⟨by rw [HE.out]; first | rfl | simp [h4], hb⟩
/-- What Seal answers, whatever the cookie. -/
theorem seal_all (kp : Nat) (cur : List Nat) (fm : Option (List Nat)) (made life : Int) (port pport tag ptag tsn ptsn room outs ins addr other : Nat) (w : World) (_hm : (Lit.int .i64 made).wf = true) (_hl : (Lit.int .i64 life).wf = true) (hport : port < 65536) (hpport : pport < 65536) (htag : tag < 4294967296) (hptag : ptag < 4294967296) (htsn : tsn < 4294967296) (hptsn : ptsn < 4294967296) (hroom : room < 4294967296) (houts : outs < 65536) (hins : ins < 65536) (haddr : addr < 4294967296) (hother : other < 4294967296) (hky : Ky w kp cur fm) (hkw : KW w) :
    Calls Tryd.prog 12 #[.pointer (some ⟨kp, 0, none⟩), .agg #[.int .i64 made, .int .i64 life, .int .u16 (port : Nat), .int .u16 (pport : Nat), .int .u32 (tag : Nat), .int .u32 (ptag : Nat), .int .u32 (tsn : Nat), .int .u32 (ptsn : Nat), .int .u32 (room : Nat), .int .u16 (outs : Nat), .int .u16 (ins : Nat), .int .u32 (addr : Nat), .int .u32 (other : Nat)]] w fun e w' => RowC w (if ckMay made life = true then sealV cur ⟨made.toNat, life.toNat, port, pport, tag, ptag, tsn, ptsn, room, outs, ins, addr, other⟩ else []) (if ckMay made life = true then 0 else 6) e w' := by
  cases hM : ckMay made life
  · rw [if_neg (by simp), if_neg (by simp)]
    exact seal_no kp made life ⟨0, 0, port, pport, tag, ptag, tsn, ptsn, room, outs, ins, addr, other⟩ w hM
  · have hm := of_decide_eq_true hM
    rw [if_pos rfl, if_pos rfl]
    have hok : Ck.ok ⟨made.toNat, life.toNat, port, pport, tag, ptag, tsn, ptsn, room, outs, ins, addr, other⟩ := ⟨by show made.toNat ≤ _; omega, by show life.toNat ≤ _; omega, hport, hpport, htag, hptag, htsn, hptsn, hroom, houts, hins, haddr, hother⟩
    have hse := seal_ok kp cur fm ⟨made.toNat, life.toNat, port, pport, tag, ptag, tsn, ptsn, room, outs, ins, addr, other⟩ hok w hky hkw
    have e1 : ((made.toNat : Nat) : Int) = made := by omega
    have e2 : ((life.toNat : Nat) : Int) = life := by omega
    simp only [e1, e2] at hse
    exact hse
end Go.Proofs.YtlkclaehamidbaaDoor
