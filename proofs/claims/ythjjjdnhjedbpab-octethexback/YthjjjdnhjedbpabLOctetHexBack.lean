/- Whatever bytes: the walk of trunklinelaw01.OctetHexBack ends with true, and writes nothing that was there. -/
import Derived.Test.YthjjjdnhjedbpabHex
import Derived.Test.YthjjjdnhjedbpabLiveO
namespace Go.Proofs.Ythjjjdnhjedbpab
open Go.RowKit
theorem hexv_hexd (q : Nat) (h : q < 16) : hexv (hexd q) = some q := by
  unfold hexv hexd
  by_cases h1 : q < 10
  · rw [if_pos h1, if_pos (by omega)]; congr 1; omega
  · rw [if_neg h1, if_neg (by omega), if_pos (by omega)]; congr 1; omega
theorem strOf_size (zs : List Nat) : (strOf zs).size = zs.length := by simp [strOf, ByteArray.size]
theorem strOf_get (zs : List Nat) (i : Nat) (h : i < (strOf zs).size) : ((strOf zs)[i]'h) = UInt8.ofNat (zs.getD i 0) := by
  have h2 : i < zs.length := by rw [strOf_size] at h; exact h
  show (strOf zs).data[i] = _
  simp [strOf, List.getD_eq_getElem?_getD, h2]
theorem dec_strOf (zs : List Nat) (i : Nat) (h : i < zs.length) (ha : zs.getD i 0 < 128) : Utf8.decode (strOf zs) i = (zs.getD i 0, 1) := by
  have h1 : i < (strOf zs).size := by rw [strOf_size]; exact h
  have e : ((strOf zs)[i]'h1).toNat = zs.getD i 0 := by rw [strOf_get, UInt8.toNat_ofNat']; omega
  rw [decode_ascii (strOf zs) i h1 (by rw [e]; exact ha), e]
theorem hexL_getD (zs : List Nat) (i : Nat) (h : i < zs.length) : (hexL zs).getD (2 * i) 0 = hexd (zs.getD i 0 / 16) ∧ (hexL zs).getD (2 * i + 1) 0 = hexd (zs.getD i 0 % 16) := by
  revert i
  refine snoc_ind (P := fun zs => ∀ i, i < zs.length → (hexL zs).getD (2 * i) 0 = hexd (zs.getD i 0 / 16) ∧ (hexL zs).getD (2 * i + 1) 0 = hexd (zs.getD i 0 % 16)) (by intro i h; simp at h) (fun zs x ih i h => ?_) zs
  rw [hexL_snoc, getD_app, getD_app, getD_app, hexL_len]
  simp at h
  by_cases h1 : i < zs.length
  · simp only [show 2 * i < 2 * zs.length from by omega, show 2 * i + 1 < 2 * zs.length from by omega, h1, if_true]
    exact ih i h1
  · have e : i = zs.length := by omega
    subst e
    simp only [show ¬ 2 * zs.length < 2 * zs.length from by omega, show ¬ 2 * zs.length + 1 < 2 * zs.length from by omega, show ¬ zs.length < zs.length from by omega, if_false, show 2 * zs.length - 2 * zs.length = 0 from by omega, show 2 * zs.length + 1 - 2 * zs.length = 1 from by omega, show zs.length - zs.length = 0 from by omega]
    exact ⟨rfl, rfl⟩
theorem uh_hex (zs : List Nat) (hb : ∀ i, zs.getD i 0 < 256) : ∀ (m j high : Nat), m + j = zs.length → uhRun (strOf (hexL zs)) (2 * m + 1) (2 * j) (2 * j) high (zs.take j) = (zs, 0, 0) := by
  intro m
  induction m with
  | zero =>
    intro j high h
    have hj : j = zs.length := by omega
    subst hj
    have hz : ¬ 2 * zs.length < (strOf (hexL zs)).size := by rw [strOf_size, hexL_len]; omega
    simp only [uhRun, hz, if_false]
    rw [if_pos (by omega), List.take_length]
  | succ m ih =>
    intro j high h
    have hj : j < zs.length := by omega
    have hbj := hb j
    obtain ⟨g1, g2⟩ := hexL_getD zs j hj
    have hl := hexL_len zs
    have hd1 : hexd (zs.getD j 0 / 16) < 128 := by unfold hexd; split <;> omega
    have hd2 : hexd (zs.getD j 0 % 16) < 128 := by unfold hexd; split <;> omega
    have d1 := dec_strOf (hexL zs) (2 * j) (by omega) (by rw [g1]; exact hd1)
    have d2 := dec_strOf (hexL zs) (2 * j + 1) (by omega) (by rw [g2]; exact hd2)
    rw [g1] at d1
    rw [g2] at d2
    have s1 : 2 * j < (strOf (hexL zs)).size := by rw [strOf_size, hl]; omega
    have s2 : 2 * j + 1 < (strOf (hexL zs)).size := by rw [strOf_size, hl]; omega
    have v1 := hexv_hexd (zs.getD j 0 / 16) (by omega)
    have v2 := hexv_hexd (zs.getD j 0 % 16) (by omega)
    rw [show 2 * (m + 1) + 1 = 2 * m + 1 + 1 + 1 from by omega]
    rw [uhRun, if_pos s1, d1]
    simp only [v1]
    rw [if_pos (by omega), uhRun, if_pos s2, d2]
    simp only [v2]
    rw [if_neg (by omega), show 2 * j + 1 + 1 = 2 * (j + 1) from by omega, show zs.getD j 0 / 16 * 16 + zs.getD j 0 % 16 = zs.getD j 0 from by omega, ← take_snocN zs j hj]
    exact ih (j + 1) _ (by omega)
theorem uhOf_hex (zs : List Nat) (hb : ∀ i, zs.getD i 0 < 256) (hn : zs.length ≤ 2048) : uhOf (strOf (hexL zs)) = (zs, 0, 0) := by
  unfold uhOf
  rw [strOf_size, hexL_len, if_neg (by omega)]
  have := uh_hex zs hb zs.length 0 0 (by omega)
  simpa using this
set_option maxHeartbeats 1000000 in
theorem walk_OctetHexBack (a : Option Addr) (n c : Nat) (zs : List Nat) (w : World) (hl0 : Sl w a n c zs ∧ c * 1 ≤ 140737488351232) :
    Calls Try.prog 3 #[.slice a n c] w fun e w' => e = .returned (.bool true) ∧ Below w.heap.size w w' := by
  obtain ⟨hl, _⟩ := hl0
  by_cases hbig : 2048 < n
  · have hsm := hl.small
    go_enter Try.func3, Try.ntmps3
    go_wp2_with fail
    refine (live_any _).mono ?_
    rintro e w1 ⟨rfl, hb1⟩
    go_wp2
    go_ret
    exact ⟨rfl, hb1⟩
  · have hlen := hl.len
    have HU := (show Hid _ from uhOf_hex zs hl.bnd (by omega))
    have hsz : (strOf (hexL zs)).size ≤ 281474976710656 := by rw [strOf_size, hexL_len]; omega
    go_enter Try.func3, Try.ntmps3
    go_wp2_with fail
    refine (hex_any _ _ _ zs _ hl (by omega)).mono ?_
    rintro e w1 ⟨rfl, hb1⟩
    generalize strOf (hexL zs) = s at *
    go_wp2_with fail
    refine (unhex_any s _ hsz).mono ?_
    rintro e w2 ⟨a2, c2, rfl, ho2, hb2⟩
    rw [HU.out] at ho2
    rw [HU.out]
    have ho3 : OwnB w2 w1.heap.size a2 zs.length c2 zs := ho2
    rw [hlen] at ho3
    simp only [hlen]
    clear ho2
    have hb3 := hb1.trans (hb2.mono hb1.size)
    clear hb1 hb2
    go_wp2_with fail
    refine (live_any _).mono ?_
    rintro e w4 ⟨rfl, hb4⟩
    have hb5 := hb3.trans (hb4.mono hb3.size)
    have hc1 := conv_str ((ho3.below hb4).sl (by omega))
    have hc2 := conv_str (hl.below hb5)
    clear ho3
    go_wp2
    go_ret
    exact ⟨rfl, hb5⟩
end Go.Proofs.Ythjjjdnhjedbpab
