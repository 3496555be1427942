/- What octet.Num answers, and the tests of places. -/
import Derived.Test.YthjjjdnhjedbpaaProg
import Derived.Test.YthjjjdnhjedbpaaBase
import Derived.Outline
import Derived.WalkLawsBesides
import Derived.WalkSpells
namespace Go.Proofs.Ythjjjdnhjedbpaa
open Go.RowKit
/-- The error of n bytes from at on, among size bytes. -/
def spanE (size : Nat) (p n : Int) : Nat := if p < 0 ∨ (size : Int) < p ∨ n < 0 then 2 else if (size : Int) - p < n then 3 else 0
def nspanE (size : Nat) (p n : Int) : Nat := if n < 1 ∨ 8 < n then 2 else spanE size p n
theorem nspan_ok {size : Nat} {p n : Int} (h : nspanE size p n = 0) : 1 ≤ n ∧ n ≤ 8 ∧ 0 ≤ p ∧ p + n ≤ size := by
  unfold nspanE spanE at h
  split at h
  · cases h
  · split at h
    · cases h
    · split at h
      · cases h
      · omega
theorem span_ok {size : Nat} {p n : Int} (h : spanE size p n = 0) : 0 ≤ n ∧ 0 ≤ p ∧ p + n ≤ size := by
  unfold spanE at h
  split at h
  · cases h
  · split at h
    · cases h
    · omega
set_option maxHeartbeats 400000 in
theorem isWidth_yes (n : Int) (w : World) (h1 : 1 ≤ n) (h8 : n ≤ 8) :
    Calls Try.prog 23 #[.int .i64 n] w fun e w' => e = .returned (.bool true) ∧ w' = w := by
  go_enter Try.func23, Try.ntmps23
  go_wp2
  go_ret
  exact ⟨rfl, rfl⟩
set_option maxHeartbeats 400000 in
theorem isWidth_no (n : Int) (w : World) (h : n < 1 ∨ 8 < n) :
    Calls Try.prog 23 #[.int .i64 n] w fun e w' => e = .returned (.bool false) ∧ w' = w := by
  by_cases h1 : n < 1
  · have hd : decide (1 ≤ n) = false := by simp; omega
    clear h
    go_enter Try.func23, Try.ntmps23
    go_wp2
    go_ret
    exact ⟨rfl, rfl⟩
  · have h2 : 1 ≤ n := by omega
    have h3 : ¬ n ≤ 8 := by omega
    clear h h1
    go_enter Try.func23, Try.ntmps23
    go_wp2
    go_ret
    exact ⟨by simp, rfl⟩
set_option maxHeartbeats 1000000 in
theorem span_any (size : Nat) (p n : Int) (w : World) (hs : size ≤ 281474976710656) :
    Calls Try.prog 25 #[.int .i64 size, .int .i64 p, .int .i64 n] w fun e w' => e = .returned (.int .i64 (spanE size p n : Nat)) ∧ w' = w := by
  by_cases h1 : p < 0
  · have HE : Hid (spanE size p n = 2) := by show _ = _; unfold spanE; rw [if_pos (by omega)]
    go_enter Try.func25, Try.ntmps25
    go_wp2
    go_ret
    exact ⟨ret_int (by rw [HE.out]; rfl), rfl⟩
  · by_cases h2 : (size : Int) < p
    · have HE : Hid (spanE size p n = 2) := by show _ = _; unfold spanE; rw [if_pos (by omega)]
      go_enter Try.func25, Try.ntmps25
      go_wp2
      go_ret
      exact ⟨ret_int (by rw [HE.out]; rfl), rfl⟩
    · by_cases h3 : n < 0
      · have HE : Hid (spanE size p n = 2) := by show _ = _; unfold spanE; rw [if_pos (by omega)]
        go_enter Try.func25, Try.ntmps25
        go_wp2
        go_ret
        exact ⟨ret_int (by rw [HE.out]; rfl), rfl⟩
      · by_cases h4 : (size : Int) - p < n
        · have HE : Hid (spanE size p n = 3) := by show _ = _; unfold spanE; rw [if_neg (by omega), if_pos h4]
          go_enter Try.func25, Try.ntmps25
          go_wp2
          go_ret
          exact ⟨ret_int (by rw [HE.out]; rfl), rfl⟩
        · have HE : Hid (spanE size p n = 0) := by show _ = _; unfold spanE; rw [if_neg (by omega), if_neg h4]
          go_enter Try.func25, Try.ntmps25
          go_wp2
          go_ret
          exact ⟨ret_int (by rw [HE.out]; rfl), rfl⟩
set_option maxHeartbeats 1000000 in
theorem nspan_any (size : Nat) (p n : Int) (w : World) (hs : size ≤ 281474976710656) :
    Calls Try.prog 20 #[.int .i64 size, .int .i64 p, .int .i64 n] w fun e w' => e = .returned (.int .i64 (nspanE size p n : Nat)) ∧ w' = w := by
  by_cases h : n < 1 ∨ 8 < n
  · have HE : Hid (nspanE size p n = 2) := by show _ = _; unfold nspanE; rw [if_pos h]
    go_enter Try.func20, Try.ntmps20
    go_wp2_with (go_at_call 23; refine (isWidth_no n _ h).mono ?_; rintro e w' ⟨rfl, rfl⟩)
    go_ret
    exact ⟨ret_int (by rw [HE.out]; rfl), rfl⟩
  · have HE : Hid (nspanE size p n = spanE size p n) := by show _ = _; unfold nspanE; rw [if_neg h]
    go_enter Try.func20, Try.ntmps20
    go_wp2_with (first | (go_at_call 23; refine (isWidth_yes n _ (by omega) (by omega)).mono ?_; rintro e w' ⟨rfl, rfl⟩) | (go_at_call 25; refine (span_any size p n _ hs).mono ?_; rintro e w' ⟨rfl, rfl⟩))
    go_ret
    exact ⟨ret_int (by rw [HE.out]), rfl⟩
/-- Bytes as a number, the highest first. -/
def numB (zs : List Nat) : Nat := zs.foldl (fun v d => v * 256 + d) 0
theorem numB_snoc (zs : List Nat) (z : Nat) : numB (zs ++ [z]) = numB zs * 256 + z := by simp [numB, List.foldl_append]
theorem numB_lt (zs : List Nat) (hb : ∀ i, zs.getD i 0 < 256) : numB zs < 256 ^ zs.length := by
  revert hb
  refine snoc_ind (P := fun zs => (∀ i, zs.getD i 0 < 256) → numB zs < 256 ^ zs.length) (by intro _; decide) (fun zs z ih hb => ?_) zs
  have h1 := ih (fun i => by
    by_cases hi : i < zs.length
    · have := hb i; rw [getD_app, if_pos hi] at this; exact this
    · simp [List.getD_eq_getElem?_getD, hi])
  have h2 := hb zs.length
  rw [getD_app, if_neg (by omega)] at h2
  simp at h2
  rw [numB_snoc, List.length_append, List.length_singleton, Nat.pow_succ]
  omega
theorem mid_getD (zs : List Nat) (p k i : Nat) (h : i < k) : ((zs.drop p).take k).getD i 0 = zs.getD (p + i) 0 := by
  simp [List.getD_eq_getElem?_getD, h]
theorem mid_bnd (zs : List Nat) (p k : Nat) (hb : ∀ i, zs.getD i 0 < 256) : ∀ i, ((zs.drop p).take k).getD i 0 < 256 := by
  intro i
  by_cases h : i < k
  · rw [mid_getD zs p k i h]; exact hb _
  · rw [List.getD_eq_getElem?_getD, List.getElem?_eq_none (by simp; omega)]; exact Nat.zero_lt_succ _
/-- What Num answers. -/
def numV (zs : List Nat) (p n : Int) : Nat := if nspanE zs.length p n = 0 then numB ((zs.drop p.toNat).take n.toNat) else 0
theorem or8 (v d : Nat) (hv : v < 72057594037927936) (hd : d < 256) : bits .or .u64 ((v : Int) * 256) (d : Int) = ((v * 256 + d : Nat) : Int) := by
  have h1 := u64_or_nat (v * 256) d (by omega) (by omega)
  rw [nat_join 8 (v * 256) d (by omega) (by omega)] at h1
  rw [show ((v * 256 : Nat) : Int) = (v : Int) * 256 from by omega] at h1
  exact h1
theorem pow_small (k : Nat) (h : k < 8) : 256 ^ k ≤ 72057594037927936 := by
  have : 256 ^ k ≤ 256 ^ 7 := Nat.pow_le_pow_right (by omega) (by omega)
  omega
set_option maxHeartbeats 2000000 in
theorem num_any (a : Option Addr) (n c : Nat) (zs : List Nat) (p k : Int) (w : World) (hs : Sl w a n c zs) :
    Calls Try.prog 9 #[.slice a n c, .int .i64 p, .int .i64 k] w fun e w' => e = .returned (.tuple #[.int .u64 (numV zs p k : Nat), .int .i64 (nspanE n p k : Nat)]) ∧ w' = w := by
  have hl := hs.len
  by_cases he : nspanE n p k = 0
  · obtain ⟨hk1, hk8, hp0, hpk⟩ := nspan_ok he
    have HE := (show Hid _ from he)
    have HV : Hid (numV zs p k = numB ((zs.drop p.toNat).take k.toNat)) := by show _ = _; unfold numV; rw [hl, if_pos he]
    clear he
    obtain ⟨p, rfl⟩ := Int.eq_ofNat_of_zero_le hp0
    obtain ⟨k, rfl⟩ := Int.eq_ofNat_of_zero_le (show 0 ≤ k by omega)
    rw [Int.toNat_natCast, Int.toNat_natCast] at HV
    have hk8' : k ≤ 8 := by omega
    have hpk' : p + k ≤ n := by omega
    have hk1' : 1 ≤ k := by omega
    have hmid := mid_bnd zs p k hs.bnd
    have hml : ((zs.drop p).take k).length = k := by simp; omega
    obtain ⟨_, hcap, hroom, hsm, _, hb, hat⟩ := hs
    rcases hat with h0 | ⟨b, off, rfl, hlt, hcell⟩
    · omega
    have hcell2 : ∀ i, i < k → w.cell? ⟨b, off + p + i, none⟩ = some (.int .u8 (((zs.drop p).take k).getD i 0 : Nat)) := by
      intro i hi
      rw [mid_getD zs p k i hi, Nat.add_assoc]
      exact hcell (p + i) (by omega)
    clear hcell hb
    generalize (zs.drop p).take k = ys at *
    have hpc : ¬ c = p := by omega
    have hpkp : p + k - p = k := by omega
    go_enter Try.func9, Try.ntmps9
    go_wp2_with (go_at_call 20; refine (nspan_any n p k _ hsm).mono ?_; rintro e w' ⟨rfl, rfl⟩; rw [HE.out])
    go_loop [9, 27] (fun v i => ∃ j : Nat, j ≤ k ∧ i = .int .i64 j ∧ v = .int .u64 (numB (ys.take j) : Nat)) (fun _ i => k - (intOf i).toNat)
    case atStart => exact ⟨0, by omega, rfl, rfl⟩
    case round =>
      obtain ⟨j, hj, rfl, rfl⟩ := hrel
      by_cases hjk : j < k
      · have hc := hcell2 j hjk
        have hx := hmid j
        have HN : Hid (numB (ys.take (j + 1)) = numB (ys.take j) * 256 + ys.getD j 0) := by show _ = _; rw [take_snocN ys j (by omega), numB_snoc]
        have hq : numB (ys.take j) < 72057594037927936 := by
          have h1 := numB_lt (ys.take j) (fun i => by
            by_cases hi : i < j
            · simp [List.getD_eq_getElem?_getD, hi]; have := hmid i; simp [List.getD_eq_getElem?_getD] at this; exact this
            · rw [List.getD_eq_getElem?_getD, List.getElem?_eq_none (by simp; omega)]; exact Nat.zero_lt_succ _)
          have h2 := pow_small j (by omega)
          rw [List.length_take, Nat.min_eq_left (by omega)] at h1
          omega
        have HO := (show Hid _ from or8 _ _ hq hx)
        clear hcell2 hmid
        generalize numB (ys.take j) = q at *
        generalize ys.getD j 0 = x at *
        go_wp2
        go_round
        case rel => exact ⟨j + 1, by omega, by go_num, by rw [HN.out, ← HO.out]⟩
        case measure => simp [intOf]; omega
      · obtain rfl : j = k := by omega
        have HT : Hid (ys.take j = ys) := by show _ = _; rw [List.take_of_length_le (by omega)]
        go_wp2
        go_ret2
        exact ⟨by rw [HT.out, HV.out, HE.out]; rfl, rfl⟩
  · have HV : Hid (numV zs p k = 0) := by show _ = _; unfold numV; rw [hl, if_neg he]
    have hne : ((nspanE n p k : Int) != 0) = true := by simp; omega
    have hsm := hs.small
    go_enter Try.func9, Try.ntmps9
    go_wp2_with (go_at_call 20; refine (nspan_any n p k _ hsm).mono ?_; rintro e w' ⟨rfl, rfl⟩)
    go_ret2
    exact ⟨by rw [HV.out]; rfl, rfl⟩
end Go.Proofs.Ythjjjdnhjedbpaa
