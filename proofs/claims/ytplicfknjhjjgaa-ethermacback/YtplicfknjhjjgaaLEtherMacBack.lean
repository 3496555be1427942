/- Whatever number: the walk of law08.EtherMacBack ends with true. -/
import Derived.Test.YtplicfknjhjjgaaEtMacP
import Derived.Test.YtplicfknjhjjgaaEtLive
namespace Go.Proofs.Ytplicfknjhjjgaa
open Go.RowKit
theorem hexv_hexd (q : Nat) (h : q < 16) : hexv (hexd q) = some q := by
  unfold hexv hexd
  by_cases h10 : q < 10
  · rw [if_pos h10, if_pos (by omega)]
    congr 1
    omega
  · rw [if_neg h10, if_neg (by omega), if_pos (by omega)]
    congr 1
    omega
theorem mc_dig (t : List Nat) (p m q : Nat) (hq : q < 16) (hp : p < 17) (h3 : p % 3 ≠ 2) : mcF (hexd q :: t) p m = mcF t (p + 1) (m * 16 + q) := by
  rw [mcF, if_neg (by omega), if_neg h3, hexv_hexd q hq]
theorem mc_col (t : List Nat) (p m : Nat) (hp : p < 17) (h3 : p % 3 = 2) : mcF (58 :: t) p m = mcF t (p + 1) m := by
  rw [mcF, if_neg (by omega), if_pos h3, if_pos rfl]
theorem hexd_back (q : Nat) (h : q < 16) : (UInt8.ofNat (hexd q)).toNat = hexd q := by
  rw [UInt8.toNat_ofNat']
  exact Nat.mod_eq_of_lt (hexd_lt q h)
theorem nats_macS (m : Nat) : natsOf (macS m) = [hexd (m / 256 ^ 5 % 256 / 16), hexd (m / 256 ^ 5 % 256 % 16), 58, hexd (m / 256 ^ 4 % 256 / 16), hexd (m / 256 ^ 4 % 256 % 16), 58, hexd (m / 256 ^ 3 % 256 / 16), hexd (m / 256 ^ 3 % 256 % 16), 58, hexd (m / 256 ^ 2 % 256 / 16), hexd (m / 256 ^ 2 % 256 % 16), 58, hexd (m / 256 ^ 1 % 256 / 16), hexd (m / 256 ^ 1 % 256 % 16), 58, hexd (m / 256 ^ 0 % 256 / 16), hexd (m / 256 ^ 0 % 256 % 16)] := by
  have e : mcL m 6 = [hx2 (m / 256 ^ 5 % 256), hx2 (m / 256 ^ 4 % 256), hx2 (m / 256 ^ 3 % 256), hx2 (m / 256 ^ 2 % 256), hx2 (m / 256 ^ 1 % 256), hx2 (m / 256 ^ 0 % 256)] := rfl
  have h2 : ∀ x, (hx2 x).data.toList = [UInt8.ofNat (hexd (x / 16)), UInt8.ofNat (hexd (x % 16))] := fun x => by simp [hx2, strOf, hexL]
  unfold natsOf macS
  rw [e]
  simp only [List.map_cons, List.map_nil, h2]
  rw [Lib.join_cons]
  simp only [Lib.joinTail, List.map_cons, List.map_nil, List.flatten_cons, List.flatten_nil, List.append_nil, List.cons_append, List.nil_append]
  have hb : ∀ x, x < 256 → (UInt8.ofNat (hexd (x / 16))).toNat = hexd (x / 16) := fun x hx => hexd_back _ (by omega)
  have hb' : ∀ x, (UInt8.ofNat (hexd (x % 16))).toNat = hexd (x % 16) := fun x => hexd_back _ (by omega)
  simp only [hb', hb _ (Nat.mod_lt _ (by decide : 256 > 0))]
  rfl
theorem mc_back (m : Nat) (h : m < 281474976710656) : mcOf (macS m) = (m, 0, 0) := by
  unfold mcOf
  rw [nats_macS]
  obtain ⟨d5, h5⟩ : ∃ d, d = m / 256 ^ 5 % 256 := ⟨_, rfl⟩
  obtain ⟨d4, h4⟩ : ∃ d, d = m / 256 ^ 4 % 256 := ⟨_, rfl⟩
  obtain ⟨d3, h3⟩ : ∃ d, d = m / 256 ^ 3 % 256 := ⟨_, rfl⟩
  obtain ⟨d2, h2⟩ : ∃ d, d = m / 256 ^ 2 % 256 := ⟨_, rfl⟩
  obtain ⟨d1, h1⟩ : ∃ d, d = m / 256 ^ 1 % 256 := ⟨_, rfl⟩
  obtain ⟨d0, h0⟩ : ∃ d, d = m / 256 ^ 0 % 256 := ⟨_, rfl⟩
  rw [← h5, ← h4, ← h3, ← h2, ← h1, ← h0]
  rw [mc_dig _ 0 _ _ (by omega) (by omega) (by omega), mc_dig _ 1 _ _ (by omega) (by omega) (by omega), mc_col _ 2 _ (by omega) (by omega)]
  rw [mc_dig _ 3 _ _ (by omega) (by omega) (by omega), mc_dig _ 4 _ _ (by omega) (by omega) (by omega), mc_col _ 5 _ (by omega) (by omega)]
  rw [mc_dig _ 6 _ _ (by omega) (by omega) (by omega), mc_dig _ 7 _ _ (by omega) (by omega) (by omega), mc_col _ 8 _ (by omega) (by omega)]
  rw [mc_dig _ 9 _ _ (by omega) (by omega) (by omega), mc_dig _ 10 _ _ (by omega) (by omega) (by omega), mc_col _ 11 _ (by omega) (by omega)]
  rw [mc_dig _ 12 _ _ (by omega) (by omega) (by omega), mc_dig _ 13 _ _ (by omega) (by omega) (by omega), mc_col _ 14 _ (by omega) (by omega)]
  rw [mc_dig _ 15 _ _ (by omega) (by omega) (by omega), mc_dig _ 16 _ _ (by omega) (by omega) (by omega)]
  rw [mcF, if_neg (by omega)]
  congr 1
  rw [h5, h4, h3, h2, h1, h0]
  simp only [Nat.reducePow]
  omega
set_option maxRecDepth 100000 in
set_option maxHeartbeats 1000000 in
theorem macText_no (m : Nat) (w : World) (h1 : 281474976710656 ≤ m) (h2 : m < 18446744073709551616) :
    Calls Try.prog 13 #[.int .u64 (m : Nat)] w fun e w' => e = .returned (.tuple #[.string ⟨#[]⟩, .int .i64 2]) ∧ Below w.heap.size w w' := by
  have hby := bytes_any m 6 w h2
  obtain ⟨E, hE⟩ : ∃ E, E = bytesE m 6 := ⟨_, rfl⟩
  have hEn : ¬ E = 0 := by
    rw [hE]
    unfold bytesE
    rw [if_neg (by omega), if_neg (by show ¬ m / 256 ^ 6 = 0; intro e; have := Nat.div_add_mod m (256 ^ 6); have := Nat.mod_lt m (show 256 ^ 6 > 0 by decide); omega)]
    omega
  rw [← hE] at hby
  have hEi : ((E : Int) != 0) = true := by simp; omega
  clear hE hEn h1 h2
  go_enter Try.func13, Try.ntmps13
  go_wp2_with fail
  refine hby.mono ?_
  rintro e w1 ⟨ad, cd, rfl, hod, hb1⟩
  go_wp2
  go_ret2
  exact ⟨rfl, hb1⟩
set_option maxRecDepth 100000 in
set_option maxHeartbeats 1000000 in
theorem walk_EtherMacBack (m : Nat) (w : World) (hm : m < 18446744073709551616) :
    Calls Try.prog 5 #[.int .u64 (m : Nat)] w fun e w' => e = .returned (.bool true) ∧ Below w.heap.size w w' := by
  by_cases h : m < 281474976710656
  · have HB := (show Hid _ from mc_back m h)
    have hT := macText_ok m w h
    generalize macS m = s at *
    clear h hm
    go_enter Try.func5, Try.ntmps5
    go_wp2_with fail
    refine hT.mono ?_
    rintro e w1 ⟨rfl, b1⟩
    go_wp2_with fail
    refine (mac_any s w1).mono ?_
    rintro e w2 ⟨rfl, b2⟩
    rw [HB.out]
    have b02 := b1.trans (b2.mono b1.size)
    go_wp2_with fail
    refine (live8_any w2).mono ?_
    rintro e w3 ⟨rfl, b3⟩
    have b03 := b02.trans (b3.mono b02.size)
    go_wp2
    go_ret
    exact ⟨rfl, b03⟩
  · have hT := macText_no m w (by omega) hm
    have hq : ((m : Int) / 281474976710656 != 0) = true := by simp; omega
    clear h hm
    go_enter Try.func5, Try.ntmps5
    go_wp2_with fail
    refine hT.mono ?_
    rintro e w1 ⟨rfl, b1⟩
    go_wp2_with fail
    refine (live8_any w1).mono ?_
    rintro e w3 ⟨rfl, b3⟩
    have b03 := b1.trans (b3.mono b1.size)
    go_wp2
    go_ret
    exact ⟨rfl, b03⟩
end Go.Proofs.Ytplicfknjhjjgaa
