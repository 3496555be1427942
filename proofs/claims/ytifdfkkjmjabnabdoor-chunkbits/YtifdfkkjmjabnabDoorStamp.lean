/- What sums.Stamp answers. -/
import Derived.Test.YtifdfkkjmjabnabDoorSet
import Derived.Test.YtifdfkkjmjabnabDoorCrc
import Derived.Test.YtifdfkkjmjabnabDoorStr
namespace Go.Proofs.YtifdfkkjmjabnabDoor
open Go.RowKit
/-- A number's four bytes, the lowest first. -/
def le4 (x : Nat) : List Nat := [x % 256, x / 256 % 256, x / 65536 % 256, x / 16777216 % 256]
def rev4 (x : Nat) : Nat := x / 16777216 + x / 65536 % 256 * 256 + x / 256 % 256 * 65536 + x % 256 * 16777216
theorem rev4_lt (x : Nat) (h : x < 4294967296) : rev4 x < 4294967296 := by unfold rev4; omega
theorem rev4_E (x : Nat) (h : x < 4294967296) : bytesE (rev4 x) 4 = 0 := by
  unfold bytesE
  rw [if_neg (by omega), if_pos]
  have := rev4_lt x h
  show rev4 x / 4294967296 = 0
  omega
theorem rev4_bytes (x : Nat) (h : x < 4294967296) : bytesV (rev4 x) 4 = le4 x := by
  unfold bytesV
  rw [if_pos (rev4_E x h)]
  show [rev4 x / 16777216 % 256, rev4 x / 65536 % 256, rev4 x / 256 % 256, rev4 x / 1 % 256] = le4 x
  unfold le4 rev4
  obtain ⟨a, b, c, d, ha, hb, hc, hd, rfl⟩ : ∃ a b c d, a < 256 ∧ b < 256 ∧ c < 256 ∧ d < 256 ∧ x = a + b * 256 + c * 65536 + d * 16777216 :=
    ⟨x % 256, x / 256 % 256, x / 65536 % 256, x / 16777216, by omega, by omega, by omega, by omega, by omega⟩
  have e0 : (a + b * 256 + c * 65536 + d * 16777216) % 256 = a := by omega
  have e1 : (a + b * 256 + c * 65536 + d * 16777216) / 256 % 256 = b := by omega
  have e2 : (a + b * 256 + c * 65536 + d * 16777216) / 65536 % 256 = c := by omega
  have e3 : (a + b * 256 + c * 65536 + d * 16777216) / 16777216 = d := by omega
  rw [e0, e1, e2, e3]
  clear e0 e1 e2 e3 h
  simp only [List.cons.injEq, and_true]
  refine ⟨?_, ?_, ?_, ?_⟩ <;> omega
theorem mask_ff (x : Nat) : x &&& 16711935 = x % 256 + x / 65536 % 256 * 65536 := by
  have h1 : (x &&& 16711935) % 65536 = (x % 65536) &&& (16711935 % 65536) := Nat.and_mod_two_pow (n := 16)
  have h2 : (x &&& 16711935) / 65536 = (x / 65536) &&& (16711935 / 65536) := Nat.and_div_two_pow (n := 16)
  have h3 : (x % 65536) &&& 255 = x % 65536 % 256 := Nat.and_two_pow_sub_one_eq_mod _ 8
  have h4 : (x / 65536) &&& 255 = x / 65536 % 256 := Nat.and_two_pow_sub_one_eq_mod _ 8
  rw [show 16711935 % 65536 = 255 from rfl, h3] at h1
  rw [show 16711935 / 65536 = 255 from rfl, h4] at h2
  omega
theorem or_mid (A B : Nat) (hA1 : A % 65536 < 256) (hA2 : A / 65536 < 256) (hB1 : B % 65536 % 256 = 0) (hB2 : B / 65536 % 256 = 0) : A ||| B = A + B := by
  have h1 : (A ||| B) % 65536 = (A % 65536) ||| (B % 65536) := Nat.or_mod_two_pow (n := 16)
  have h2 : (A ||| B) / 65536 = (A / 65536) ||| (B / 65536) := Nat.or_div_two_pow (n := 16)
  rw [Nat.or_comm (A % 65536), nat_join 8 _ _ hB1 hA1] at h1
  rw [Nat.or_comm (A / 65536), nat_join 8 _ _ hB2 hA2] at h2
  omega
theorem rev_eq (x : Nat) (h : x < 4294967296) :
    bits .or .u32 (bits .or .u32 (bits .and .u32 ((x : Int) / 256) 16711935) (bits .and .u32 (x : Int) 16711935 * 256 % 4294967296) / 65536)
      (bits .or .u32 (bits .and .u32 ((x : Int) / 256) 16711935) (bits .and .u32 (x : Int) 16711935 * 256 % 4294967296) * 65536 % 4294967296) = ((rev4 x : Nat) : Int) := by
  have m1 := u32_and_nat (x / 256) 16711935 (by omega) (by omega)
  have m2 := u32_and_nat x 16711935 h (by omega)
  rw [mask_ff] at m1 m2
  rw [show ((x / 256 : Nat) : Int) = (x : Int) / 256 from by omega] at m1
  rw [show ((16711935 : Nat) : Int) = 16711935 from rfl] at m1 m2
  rw [m1, m2]
  clear m1 m2
  obtain ⟨a, b, c, d, ha, hb, hc, hd, rfl⟩ : ∃ a b c d, a < 256 ∧ b < 256 ∧ c < 256 ∧ d < 256 ∧ x = a + b * 256 + c * 65536 + d * 16777216 :=
    ⟨x % 256, x / 256 % 256, x / 65536 % 256, x / 16777216, by omega, by omega, by omega, by omega, by omega⟩
  clear h
  rw [show (a + b * 256 + c * 65536 + d * 16777216) / 256 % 256 + (a + b * 256 + c * 65536 + d * 16777216) / 256 / 65536 % 256 * 65536 = b + d * 65536 from by omega,
    show (a + b * 256 + c * 65536 + d * 16777216) % 256 + (a + b * 256 + c * 65536 + d * 16777216) / 65536 % 256 * 65536 = a + c * 65536 from by omega,
    show ((a + c * 65536 : Nat) : Int) * 256 % 4294967296 = ((a * 256 + c * 16777216 : Nat) : Int) from by omega,
    u32_or_nat _ _ (by omega) (by omega), or_mid _ _ (by omega) (by omega) (by omega) (by omega),
    show ((b + d * 65536 + (a * 256 + c * 16777216) : Nat) : Int) / 65536 = ((d + c * 256 : Nat) : Int) from by omega,
    show ((b + d * 65536 + (a * 256 + c * 16777216) : Nat) : Int) * 65536 % 4294967296 = (((b + a * 256) * 65536 : Nat) : Int) from by omega,
    u32_or_nat _ _ (by omega) (by omega), Nat.or_comm, nat_join 16 _ _ (by omega) (by omega)]
  have e : rev4 (a + b * 256 + c * 65536 + d * 16777216) = (b + a * 256) * 65536 + (d + c * 256) := by
    unfold rev4
    have e0 : (a + b * 256 + c * 65536 + d * 16777216) % 256 = a := by omega
    have e1 : (a + b * 256 + c * 65536 + d * 16777216) / 256 % 256 = b := by omega
    have e2 : (a + b * 256 + c * 65536 + d * 16777216) / 65536 % 256 = c := by omega
    have e3 : (a + b * 256 + c * 65536 + d * 16777216) / 16777216 = d := by omega
    rw [e0, e1, e2, e3]
    clear e0 e1 e2 e3
    omega
  rw [e]
set_option maxHeartbeats 400000 in
theorem rev_any (x : Nat) (w : World) (h : x < 4294967296) :
    Calls Tryd.prog 35 #[.int .u32 (x : Nat)] w fun e w' => e = .returned (.int .u32 (rev4 x : Nat)) ∧ w' = w := by
  have HR := (show Hid _ from rev_eq x h)
  go_enter Tryd.func35, Tryd.ntmps35
  go_wp2
  go_ret
  exact ⟨ret_int HR.out, rfl⟩
/-- What Stamp answers. -/
def blank (zs : List Nat) : List Nat := lay zs 8 [0, 0, 0, 0]
def stampV (zs : List Nat) : List Nat := if zs.length < 12 then [] else lay (blank zs) 8 (le4 (crc (blank zs)))
def stampE (n : Nat) : Nat := if n < 12 then 3 else 0
theorem blank_len (zs : List Nat) (h : 12 ≤ zs.length) : (blank zs).length = zs.length := lay_len zs 8 _ (by simpa using h)
theorem stampV_len (zs : List Nat) (h : 12 ≤ zs.length) : (stampV zs).length = zs.length := by
  unfold stampV
  rw [if_neg (by omega), lay_len _ 8 _ (by rw [blank_len zs h]; simpa [le4] using h), blank_len zs h]
theorem set_blank (zs : List Nat) (h : 12 ≤ zs.length) : setE zs.length 8 0 4 = 0 ∧ setV zs 8 0 4 = blank zs := by
  have h1 : nspanE zs.length 8 4 = 0 := by unfold nspanE spanE; rw [if_neg (by omega), if_neg (by omega), if_neg (by omega)]
  have h2 : bytesE 0 4 = 0 := by decide
  have h3 : setE zs.length 8 0 4 = 0 := by unfold setE; rw [if_pos h1]; exact h2
  refine ⟨h3, ?_⟩
  unfold setV
  rw [if_pos h3]
  rfl
theorem set_sum (zs : List Nat) (h : 12 ≤ zs.length) (x : Nat) (hx : x < 4294967296) : setE zs.length 8 (rev4 x) 4 = 0 ∧ setV zs 8 (rev4 x) 4 = lay zs 8 (le4 x) := by
  have h1 : nspanE zs.length 8 4 = 0 := by unfold nspanE spanE; rw [if_neg (by omega), if_neg (by omega), if_neg (by omega)]
  have h2 := rev4_E x hx
  have h3 : setE zs.length 8 (rev4 x) 4 = 0 := by unfold setE; rw [if_pos h1]; exact h2
  refine ⟨h3, ?_⟩
  unfold setV
  rw [if_pos h3, rev4_bytes x hx]
  rfl
set_option maxHeartbeats 1000000 in
theorem stamp_any (a : Option Addr) (n c : Nat) (zs : List Nat) (w : World) (hs : Sl w a n c zs) (hn : n ≤ 140737488351232) :
    Calls Tryd.prog 20 #[.slice a n c] w fun e w' => ∃ a' c', e = .returned (.tuple #[.slice a' (stampV zs).length c', .int .i64 (stampE n : Nat)]) ∧ OwnB w' w.heap.size a' (stampV zs).length c' (stampV zs) ∧ Below w.heap.size w w' := by
  have hl := hs.len
  by_cases h12 : n < 12
  · have HE : Hid (stampE n = 3) := by show _ = _; unfold stampE; rw [if_pos h12]
    have HV : Hid (stampV zs = []) := by show _ = _; unfold stampV; rw [if_pos (by omega)]
    go_enter Tryd.func20, Tryd.ntmps20
    go_wp2
    go_ret2
    rw [HE.out, HV.out]
    exact ⟨none, 0, rfl, OwnB.nil _ _, Below.refl _ _⟩
  · have HE : Hid (stampE n = 0) := by show _ = _; unfold stampE; rw [if_neg h12]
    have HV : Hid (stampV zs = lay (blank zs) 8 (le4 (crc (blank zs)))) := by show _ = _; unfold stampV; rw [if_neg (by omega)]
    have hbl : (blank zs).length = n := by rw [blank_len zs (by omega), hl]
    have HS := set_blank zs (by omega)
    have hx := crc_lt (blank zs)
    have HT := set_sum (blank zs) (by omega) (crc (blank zs)) hx
    have hrl := rev4_lt _ hx
    have HL : Hid ((stampV zs).length = n) := by show _ = _; rw [stampV_len zs (by omega), hl]
    rw [hl] at HS
    rw [hbl] at HT
    have HS1 := (show Hid _ from HS.1)
    have HS2 := (show Hid _ from HS.2)
    have HT1 := (show Hid _ from HT.1)
    have HT2 := (show Hid _ from HT.2)
    have HB := (show Hid _ from hbl)
    clear HS HT hbl
    go_enter Tryd.func20, Tryd.ntmps20
    go_wp2_with fail
    refine (set_any _ _ _ zs 8 0 4 _ hs hn (by omega)).mono ?_
    rintro e w1 ⟨a1, c1, rfl, ho1, hb1⟩
    rw [HS1.out, HS2.out, HB.out]
    rw [HS2.out, HB.out] at ho1
    generalize blank zs = bz at *
    go_wp2_with fail
    refine (crc_any _ _ _ bz _ (ho1.sl (by omega))).mono ?_
    rintro e w2 ⟨rfl, hw2⟩
    subst hw2
    go_wp2_with fail
    refine (rev_any (crc bz) _ hx).mono ?_
    rintro e w3 ⟨rfl, hw3⟩
    subst hw3
    generalize rev4 (crc bz) = rv at *
    go_wp2_with fail
    refine (set_any _ _ _ bz 8 rv 4 _ (ho1.sl (by omega)) hn (by omega)).mono ?_
    rintro e w4 ⟨a4, c4, rfl, ho4, hb4⟩
    rw [HT1.out, HT2.out, ← HV.out, HL.out]
    rw [HT2.out, ← HV.out, HL.out] at ho4
    go_wp2
    go_ret2
    rw [HL.out, HE.out]
    exact ⟨a4, c4, rfl, ho4.base hb1.size, hb1.trans (hb4.mono hb1.size)⟩
end Go.Proofs.YtifdfkkjmjabnabDoor
