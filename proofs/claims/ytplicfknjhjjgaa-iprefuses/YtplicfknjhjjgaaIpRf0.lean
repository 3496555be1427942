/- What tells that a packet is not taken. -/
import Derived.Test.YtplicfknjhjjgaaIpBk
import Derived.Test.YtplicfknjhjjgaaIpHead
namespace Go.Proofs.Ytplicfknjhjjgaa
open Go.RowKit
/-- May who sent it be told? -/
def mbr (pr : Nat) (of : Int) (zs : List Nat) : Bool := decide (of = 0 ∧ (pr ≠ 1 ∨ (0 < zs.length ∧ (zs.getD 0 0 = 0 ∨ zs.getD 0 0 = 8))))
def rfE (pr : Nat) (mo : Bool) (of : Int) (zs : List Nat) (code mtu : Int) : Nat := if mbE mo of zs.length ≠ 0 then mbE mo of zs.length else if code < 0 ∨ 15 < code ∨ mtu < 0 ∨ 65535 < mtu then 2 else if mbr pr of zs = false then 11 else 0
def rfV (sr ds pr tt id : Nat) (dn mo : Bool) (of : Int) (zs : List Nat) (code mtu : Int) : List Nat := if rfE pr mo of zs code mtu = 0 then icV 3 code.toNat mtu.toNat (ipHd sr ds pr tt id (flV dn mo of.toNat) zs.length ++ zs.take 8) else []
structure RfP (sr ds pr tt id : Nat) (dn mo : Bool) (of : Int) (zs : List Nat) (code mtu : Int) (w : World) (e : Ending) (w' : World) : Prop where
  ans : ∃ a c, e = .returned (.tuple #[.agg #[.int .u32 ((if rfE pr mo of zs code mtu = 0 then ds else 0 : Nat) : Int), .int .u32 ((if rfE pr mo of zs code mtu = 0 then sr else 0 : Nat) : Int), .int .u8 ((if rfE pr mo of zs code mtu = 0 then 1 else 0 : Nat) : Int), .int .u8 ((if rfE pr mo of zs code mtu = 0 then 64 else 0 : Nat) : Int), .int .u16 0, .bool false, .bool false, .int .i64 0, .slice a (rfV sr ds pr tt id dn mo of zs code mtu).length c], .int .i64 (rfE pr mo of zs code mtu : Nat)]) ∧ OwnB w' w.heap.size a (rfV sr ds pr tt id dn mo of zs code mtu).length c (rfV sr ds pr tt id dn mo of zs code mtu)
  bel : Below w.heap.size w w'
theorem rf_no (sr ds pr tt id : Nat) (dn mo : Bool) (of : Int) (zs : List Nat) (code mtu : Int) (E : Nat) (h : rfE pr mo of zs code mtu = E) (hE : ¬ E = 0) (w w' : World) (hb : Below w.heap.size w w') : RfP sr ds pr tt id dn mo of zs code mtu w (.returned (.tuple #[.agg #[.int .u32 0, .int .u32 0, .int .u8 0, .int .u8 0, .int .u16 0, .bool false, .bool false, .int .i64 0, .slice none 0 0], .int .i64 (E : Nat)])) w' := by
  have hV : rfV sr ds pr tt id dn mo of zs code mtu = [] := by unfold rfV; rw [if_neg (by omega)]
  refine ⟨⟨none, 0, ?_, ?_⟩, hb⟩
  · rw [hV, h, if_neg hE, if_neg hE, if_neg hE, if_neg hE]; rfl
  · rw [hV]; exact OwnB.nil _ _
theorem rf_yes (sr ds pr tt id : Nat) (dn mo : Bool) (of : Int) (zs : List Nat) (code mtu : Int) (h : rfE pr mo of zs code mtu = 0) (cd mt q : Nat) (L : List Nat) (hc : code = (cd : Int)) (hm : mtu = (mt : Int)) (hL : ipHd sr ds pr tt id (flV dn mo of.toNat) zs.length ++ zs.take 8 = L) (hq : L.length = q) (a : Option Addr) (c : Nat) (w w' : World) (ho : OwnB w' w.heap.size a (8 + q) c (icV 3 cd mt L)) (hb : Below w.heap.size w w') : RfP sr ds pr tt id dn mo of zs code mtu w (.returned (.tuple #[.agg #[.int .u32 (ds : Nat), .int .u32 (sr : Nat), .int .u8 1, .int .u8 64, .int .u16 0, .bool false, .bool false, .int .i64 0, .slice a (8 + q) c], .int .i64 0])) w' := by
  have hV : rfV sr ds pr tt id dn mo of zs code mtu = icV 3 cd mt L := by unfold rfV; rw [if_pos h, hL, hc, hm]; rfl
  refine ⟨⟨a, c, ?_, ?_⟩, hb⟩
  · rw [hV, h, icV_len, hq]; rfl
  · rw [hV, icV_len, hq]; exact ho
theorem rfE_1 (pr : Nat) (mo : Bool) (of : Int) (zs : List Nat) (code mtu : Int) (E : Nat) (h : mbE mo of zs.length = E) (hE : ¬ E = 0) : rfE pr mo of zs code mtu = E := by
  unfold rfE; rw [h, if_pos hE]
theorem rfE_2 (pr : Nat) (mo : Bool) (of : Int) (zs : List Nat) (code mtu : Int) (h : mbE mo of zs.length = 0) (h2 : code < 0 ∨ 15 < code ∨ mtu < 0 ∨ 65535 < mtu) : rfE pr mo of zs code mtu = 2 := by
  unfold rfE; rw [h, if_neg (by simp), if_pos h2]
theorem rfE_3 (pr : Nat) (mo : Bool) (of : Int) (zs : List Nat) (code mtu : Int) (h : mbE mo of zs.length = 0) (h2 : ¬ (code < 0 ∨ 15 < code ∨ mtu < 0 ∨ 65535 < mtu)) (h3 : mbr pr of zs = false) : rfE pr mo of zs code mtu = 11 := by
  unfold rfE; rw [h, if_neg (by simp), if_neg h2, if_pos h3]
theorem rfE_0 (pr : Nat) (mo : Bool) (of : Int) (zs : List Nat) (code mtu : Int) (h : mbE mo of zs.length = 0) (h2 : ¬ (code < 0 ∨ 15 < code ∨ mtu < 0 ∨ 65535 < mtu)) (h3 : mbr pr of zs = true) : rfE pr mo of zs code mtu = 0 := by
  unfold rfE; rw [h, if_neg (by simp), if_neg h2, h3]; rfl
end Go.Proofs.Ytplicfknjhjjgaa
