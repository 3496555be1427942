/- The tests of places. -/
import Derived.Test.YtfjpckaphfdfnaaGreatDoorProg
import Derived.Test.YtfjpckaphfdfnaaGreatDoorBase
import Derived.Outline
import Derived.WalkLawsBesides
import Derived.WalkSpells
namespace Go.Proofs.YtfjpckaphfdfnaaGreatDoor
open Go.RowKit
/-- The error of n bytes from at on, among size bytes. -/
def spanE (size : Nat) (p n : Int) : Nat := if p < 0 ∨ (size : Int) < p ∨ n < 0 then 2 else if (size : Int) - p < n then 3 else 0
def nspanE (size : Nat) (p n : Int) : Nat := if n < 1 ∨ 8 < n then 2 else spanE size p n
theorem nspan_ok {size : Nat} {p n : Int} (h : nspanE size p n = 0) : 1 ≤ n ∧ n ≤ 8 ∧ 0 ≤ p ∧ p + n ≤ size := by
  unfold nspanE spanE at h
  split at h
  · cases h
  · split at h
    · cases h
    · split at h
      · cases h
      · omega
theorem span_ok {size : Nat} {p n : Int} (h : spanE size p n = 0) : 0 ≤ n ∧ 0 ≤ p ∧ p + n ≤ size := by
  unfold spanE at h
  split at h
  · cases h
  · split at h
    · cases h
    · omega
set_option maxHeartbeats 400000 in
theorem isWidth_yes (n : Int) (w : World) (h1 : 1 ≤ n) (h8 : n ≤ 8) :
    Calls Tryz.prog 221 #[.int .i64 n] w fun e w' => e = .returned (.bool true) ∧ w' = w := by
  go_enter Tryz.func221, Tryz.ntmps221
  go_wp2
  go_ret
  exact ⟨rfl, rfl⟩
set_option maxHeartbeats 400000 in
theorem isWidth_no (n : Int) (w : World) (h : n < 1 ∨ 8 < n) :
    Calls Tryz.prog 221 #[.int .i64 n] w fun e w' => e = .returned (.bool false) ∧ w' = w := by
  by_cases h1 : n < 1
  · have hd : decide (1 ≤ n) = false := by simp; omega
    clear h
    go_enter Tryz.func221, Tryz.ntmps221
    go_wp2
    go_ret
    exact ⟨rfl, rfl⟩
  · have h2 : 1 ≤ n := by omega
    have h3 : ¬ n ≤ 8 := by omega
    clear h h1
    go_enter Tryz.func221, Tryz.ntmps221
    go_wp2
    go_ret
    exact ⟨by simp, rfl⟩
set_option maxHeartbeats 1000000 in
theorem span_any (size : Nat) (p n : Int) (w : World) (hs : size ≤ 281474976710656) :
    Calls Tryz.prog 284 #[.int .i64 size, .int .i64 p, .int .i64 n] w fun e w' => e = .returned (.int .i64 (spanE size p n : Nat)) ∧ w' = w := by
  by_cases h1 : p < 0
  · have HE : Hid (spanE size p n = 2) := by show _ = _; unfold spanE; rw [if_pos (by omega)]
    go_enter Tryz.func284, Tryz.ntmps284
    go_wp2
    go_ret
    exact ⟨ret_int (by rw [HE.out]; rfl), rfl⟩
  · by_cases h2 : (size : Int) < p
    · have HE : Hid (spanE size p n = 2) := by show _ = _; unfold spanE; rw [if_pos (by omega)]
      go_enter Tryz.func284, Tryz.ntmps284
      go_wp2
      go_ret
      exact ⟨ret_int (by rw [HE.out]; rfl), rfl⟩
    · by_cases h3 : n < 0
      · have HE : Hid (spanE size p n = 2) := by show _ = _; unfold spanE; rw [if_pos (by omega)]
        go_enter Tryz.func284, Tryz.ntmps284
        go_wp2
        go_ret
        exact ⟨ret_int (by rw [HE.out]; rfl), rfl⟩
      · by_cases h4 : (size : Int) - p < n
        · have HE : Hid (spanE size p n = 3) := by show _ = _; unfold spanE; rw [if_neg (by omega), if_pos h4]
          go_enter Tryz.func284, Tryz.ntmps284
          go_wp2
          go_ret
          exact ⟨ret_int (by rw [HE.out]; rfl), rfl⟩
        · have HE : Hid (spanE size p n = 0) := by show _ = _; unfold spanE; rw [if_neg (by omega), if_neg h4]
          go_enter Tryz.func284, Tryz.ntmps284
          go_wp2
          go_ret
          exact ⟨ret_int (by rw [HE.out]; rfl), rfl⟩
set_option maxHeartbeats 1000000 in
theorem nspan_any (size : Nat) (p n : Int) (w : World) (hs : size ≤ 281474976710656) :
    Calls Tryz.prog 240 #[.int .i64 size, .int .i64 p, .int .i64 n] w fun e w' => e = .returned (.int .i64 (nspanE size p n : Nat)) ∧ w' = w := by
  by_cases h : n < 1 ∨ 8 < n
  · have HE : Hid (nspanE size p n = 2) := by show _ = _; unfold nspanE; rw [if_pos h]
    go_enter Tryz.func240, Tryz.ntmps240
    go_wp2_with (go_at_call 221; refine (isWidth_no n _ h).mono ?_; rintro e w' ⟨rfl, rfl⟩)
    go_ret
    exact ⟨ret_int (by rw [HE.out]; rfl), rfl⟩
  · have HE : Hid (nspanE size p n = spanE size p n) := by show _ = _; unfold nspanE; rw [if_neg h]
    go_enter Tryz.func240, Tryz.ntmps240
    go_wp2_with (first | (go_at_call 221; refine (isWidth_yes n _ (by omega) (by omega)).mono ?_; rintro e w' ⟨rfl, rfl⟩) | (go_at_call 284; refine (span_any size p n _ hs).mono ?_; rintro e w' ⟨rfl, rfl⟩))
    go_ret
    exact ⟨ret_int (by rw [HE.out]), rfl⟩
/-- Bytes as a number, the highest first. -/
def numB (zs : List Nat) : Nat := zs.foldl (fun v d => v * 256 + d) 0
theorem numB_snoc (zs : List Nat) (z : Nat) : numB (zs ++ [z]) = numB zs * 256 + z := by simp [numB, List.foldl_append]
theorem numB_lt (zs : List Nat) (hb : ∀ i, zs.getD i 0 < 256) : numB zs < 256 ^ zs.length := by
  revert hb
  refine snoc_ind (P := fun zs => (∀ i, zs.getD i 0 < 256) → numB zs < 256 ^ zs.length) (by intro _; decide) (fun zs z ih hb => ?_) zs
  have h1 := ih (fun i => by
    by_cases hi : i < zs.length
    · have := hb i; rw [getD_app, if_pos hi] at this; exact this
    · simp [List.getD_eq_getElem?_getD, hi])
  have h2 := hb zs.length
  rw [getD_app, if_neg (by omega)] at h2
  simp at h2
  rw [numB_snoc, List.length_append, List.length_singleton, Nat.pow_succ]
  omega
theorem mid_getD (zs : List Nat) (p k i : Nat) (h : i < k) : ((zs.drop p).take k).getD i 0 = zs.getD (p + i) 0 := by
  simp [List.getD_eq_getElem?_getD, h]
theorem mid_bnd (zs : List Nat) (p k : Nat) (hb : ∀ i, zs.getD i 0 < 256) : ∀ i, ((zs.drop p).take k).getD i 0 < 256 := by
  intro i
  by_cases h : i < k
  · rw [mid_getD zs p k i h]; exact hb _
  · rw [List.getD_eq_getElem?_getD, List.getElem?_eq_none (by simp; omega)]; exact Nat.zero_lt_succ _
/-- What Num answers. -/
def numV (zs : List Nat) (p n : Int) : Nat := if nspanE zs.length p n = 0 then numB ((zs.drop p.toNat).take n.toNat) else 0
theorem or8 (v d : Nat) (hv : v < 72057594037927936) (hd : d < 256) : bits .or .u64 ((v : Int) * 256) (d : Int) = ((v * 256 + d : Nat) : Int) := by
  have h1 := u64_or_nat (v * 256) d (by omega) (by omega)
  rw [nat_join 8 (v * 256) d (by omega) (by omega)] at h1
  rw [show ((v * 256 : Nat) : Int) = (v : Int) * 256 from by omega] at h1
  exact h1
theorem pow_small (k : Nat) (h : k < 8) : 256 ^ k ≤ 72057594037927936 := by
  have : 256 ^ k ≤ 256 ^ 7 := Nat.pow_le_pow_right (by omega) (by omega)
  omega
end Go.Proofs.YtfjpckaphfdfnaaGreatDoor
