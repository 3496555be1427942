/- What octet.Bytes answers. -/
import Derived.Test.YtfjpckaphfdfnaaGreatDoorSpan
import Derived.Test.YtfjpckaphfdfnaaGreatDoorOwn
import Derived.Deep.OwnRows
namespace Go.Proofs.YtfjpckaphfdfnaaGreatDoor
open Go.RowKit
/-- A number's k lowest bytes, the highest first. -/
def bytesB (v : Nat) : Nat → List Nat
  | 0 => []
  | j + 1 => (v / 256 ^ j % 256) :: bytesB v j
theorem bytesB_len (v k : Nat) : (bytesB v k).length = k := by
  induction k with
  | zero => rfl
  | succ k ih => simp [bytesB, ih]
theorem OwnB.store {w : World} {B g n c : Nat} {zs : List Nat} (h : OwnB w B (some ⟨g, 0, none⟩) n c zs) (j x : Nat) (hx : x < 256) : OwnB (w.setCell ⟨g, j, none⟩ (.int .u8 (x : Nat))) B (some ⟨g, 0, none⟩) n c (zs.set j x) := by
  refine ⟨by rw [List.length_set]; exact h.len, ?_, fun i => ?_⟩
  · have := h.own.stored j (.int .u8 (x : Nat))
    have e : vals (zs.set j x) = (vals zs).set j (.int .u8 (x : Nat)) := by simp [vals, List.map_set]
    rw [e]
    exact this.1
  · simp only [List.getD_eq_getElem?_getD, List.getElem?_set]
    split
    · split
      · exact hx
      · exact Nat.zero_lt_succ _
    · have := h.bnd i
      rw [List.getD_eq_getElem?_getD] at this
      exact this
theorem OwnB.cell {w : World} {B g n c : Nat} {zs : List Nat} (h : OwnB w B (some ⟨g, 0, none⟩) n c zs) (j : Nat) (hj : j < n) : w.cell? ⟨g, j, none⟩ = some (.int .u8 (zs.getD j 0 : Nat)) := by
  rw [h.own.cellAt j (by omega), vals_at zs j (by rw [h.len]; exact hj)]
theorem OwnB.free {w : World} {B g n c : Nat} {zs : List Nat} (h : OwnB w B (some ⟨g, 0, none⟩) n c zs) (j : Nat) : w.frozen? ⟨g, j, none⟩ = false := h.own.frozenAt j
theorem made_list (n : Nat) : (madeCells #[Value.int .u8 0] n).toList = vals (List.replicate n 0) := by
  apply List.ext_getElem?
  intro i
  by_cases h : i < n
  · simp [madeCells, vals, h, Nat.mod_one]
  · simp [madeCells, vals, h]
theorem own_full (w : World) (n : Nat) (hn : n ≤ 140737488355328) : OwnB (w.alloc (.cells (madeCells #[.int .u8 0] n) 5)) w.heap.size (some ⟨w.heap.size, 0, none⟩) n n (List.replicate n 0) := by
  refine ⟨by simp, ⟨by simp [vals], .inr ⟨w.heap.size, n, madeCells #[.int .u8 0] n, rfl, Nat.le_refl _, ?_, Nat.le_refl _, by unfold maxLen; omega, by rw [size_madeCells]; omega, ?_⟩⟩, fun i => by simp [List.getD_eq_getElem?_getD, List.getElem?_replicate]; split <;> simp⟩
  · show (w.heap.push _)[w.heap.size]? = _
    simp
  · rw [made_list, List.take_of_length_le (by simp [vals])]
theorem rep_set (m : Nat) (ys : List Nat) (x : Nat) : (List.replicate (m + 1) 0 ++ ys).set m x = List.replicate m 0 ++ (x :: ys) := by
  rw [List.replicate_succ', List.append_assoc, List.set_append_right _ _ (by simp)]
  simp
/-- What Bytes answers. -/
def bytesE (v : Nat) (k : Int) : Nat := if k < 1 ∨ 8 < k then 2 else if v / 256 ^ k.toNat = 0 then 0 else 6
def bytesV (v : Nat) (k : Int) : List Nat := if bytesE v k = 0 then bytesB v k.toNat else []
theorem bytesV_len (v : Nat) (k : Int) : (bytesV v k).length ≤ 8 := by
  unfold bytesV
  split
  · rename_i h
    unfold bytesE at h
    split at h
    · cases h
    · rw [bytesB_len]; omega
  · simp
theorem bytesE_ok {v : Nat} {k : Int} (h : bytesE v k = 0) : 1 ≤ k ∧ k ≤ 8 ∧ v < 256 ^ k.toNat := by
  unfold bytesE at h
  split at h
  · cases h
  · split at h
    · rename_i h1 h2
      refine ⟨by omega, by omega, ?_⟩
      rcases Nat.lt_or_ge v (256 ^ k.toNat) with h3 | h3
      · exact h3
      · have := Nat.div_pos h3 (Nat.pow_pos (by omega)); omega
    · cases h
theorem numB_bytes (v k : Nat) : ∀ acc, (bytesB v k).foldl (fun v d => v * 256 + d) acc = acc * 256 ^ k + v % 256 ^ k := by
  induction k with
  | zero => intro acc; simp [bytesB, Nat.mod_one]
  | succ k ih =>
    intro acc
    show (bytesB v k).foldl _ (acc * 256 + v / 256 ^ k % 256) = _
    rw [ih, Nat.mod_pow_succ, Nat.pow_succ]
    generalize v / 256 ^ k % 256 = d
    generalize v % 256 ^ k = m
    generalize 256 ^ k = P
    rw [Nat.add_mul, Nat.mul_comm d P, Nat.mul_assoc acc 256 P, Nat.mul_comm 256 P]
    omega
theorem num_bytes {v : Nat} {k : Int} (h : bytesE v k = 0) : numB (bytesV v k) = v := by
  obtain ⟨_, _, h3⟩ := bytesE_ok h
  unfold bytesV
  rw [if_pos h]
  show (bytesB v k.toNat).foldl _ 0 = v
  rw [numB_bytes, Nat.mod_eq_of_lt h3]
  omega
theorem mkn (c : Nat) (hc : c ≤ 140737488355328) (w : World) : (Instr.makeSlice 24 (.int .i64 (c : Int)) (.int .i64 (c : Int))).run Tryz.prog w = .ok (.slice (some ⟨w.heap.size, 0, none⟩) c c) (w.alloc (.cells (madeCells #[.int .u8 0] c) 5)) :=
  run_make_row' 24 5 (.int .u8 0) 1 Tryz.underlying24 own_info rfl .i64 .i64 c (by omega) (by omega) w
theorem div_step (v m k : Nat) (h : m < k) : v / 256 ^ (k - (m + 1)) / 256 = v / 256 ^ (k - m) := by
  rw [Nat.div_div_eq_div_mul, ← Nat.pow_succ, Nat.succ_eq_add_one, show k - (m + 1) + 1 = k - m from by omega]
set_option maxHeartbeats 2000000 in
theorem bytes_any (v : Nat) (k : Int) (w : World) (hv : v < 18446744073709551616) :
    Calls Tryz.prog 169 #[.int .u64 (v : Nat), .int .i64 k] w fun e w' => ∃ a c, e = .returned (.tuple #[.slice a (bytesV v k).length c, .int .i64 (bytesE v k : Nat)]) ∧ OwnB w' w.heap.size a (bytesV v k).length c (bytesV v k) ∧ Below w.heap.size w w' := by
  by_cases hk : k < 1 ∨ 8 < k
  · have HE : Hid (bytesE v k = 2) := by show _ = _; unfold bytesE; rw [if_pos hk]
    have HV : Hid (bytesV v k = []) := by show _ = _; unfold bytesV; rw [HE.out]; rfl
    go_enter Tryz.func169, Tryz.ntmps169
    go_wp2_with (go_at_call 221; refine (isWidth_no k _ hk).mono ?_; rintro e w' ⟨rfl, rfl⟩)
    go_ret2
    rw [HE.out, HV.out]
    exact ⟨none, 0, rfl, OwnB.nil _ _, Below.refl _ _⟩
  · have hk1 : 1 ≤ k := by omega
    have hk8 : k ≤ 8 := by omega
    have HE : Hid (bytesE v k = if v / 256 ^ k.toNat = 0 then 0 else 6) := by show _ = _; unfold bytesE; rw [if_neg hk]
    have HV : Hid (bytesV v k = if bytesE v k = 0 then bytesB v k.toNat else []) := rfl
    obtain ⟨k, rfl⟩ := Int.eq_ofNat_of_zero_le (show 0 ≤ k by omega)
    rw [Int.toNat_natCast] at HE HV
    have hmk := mkn k (by omega)
    have hfull := own_full w k (by omega)
    clear hk
    go_enter Tryz.func169, Tryz.ntmps169
    go_wp2_with (go_at_call 221; refine (isWidth_yes k _ hk1 hk8).mono ?_; rintro e w' ⟨rfl, rfl⟩)
    go_loopw [0, 7] (fun vv i wr => ∃ m : Nat, m ≤ k ∧ ((m = 0 ∧ i = .int .i64 (-1)) ∨ ∃ q : Nat, m = q + 1 ∧ i = .int .i64 q) ∧ vv = .int .u64 (v / 256 ^ (k - m) : Nat) ∧ OwnB wr w'.heap.size (some ⟨w'.heap.size, 0, none⟩) k k (List.replicate m 0 ++ bytesB v (k - m)) ∧ Below w'.heap.size w' wr) (fun _ i _ => (intOf i + 1).toNat)
    case atStart =>
      refine ⟨k, Nat.le_refl _, .inr ⟨k - 1, by omega, by go_num⟩, by simp, by simpa [bytesB] using hfull, (Below.refl _ _).alloc (Nat.le_refl _) _⟩
    case round =>
      obtain ⟨m, hm, hcase, rfl, hown, hbel⟩ := hrel
      have hd : v / 256 ^ (k - m) < 18446744073709551616 := Nat.lt_of_le_of_lt (Nat.div_le_self _ _) hv
      rcases hcase with ⟨rfl, rfl⟩ | ⟨q, rfl, rfl⟩
      · have HB : Hid (List.replicate 0 0 ++ bytesB v (k - 0) = bytesB v k) := by show _ = _; simp
        rw [HB.out] at hown
        rw [Nat.sub_zero] at *
        have hbl := bytesB_len v k
        by_cases hz : v / 256 ^ k = 0
        · rw [if_pos hz] at HE
          rw [HE.out, if_pos rfl] at HV
          rw [hz]
          go_wp2
          go_ret2
          rw [HV.out, HE.out]
          exact ⟨some ⟨w'.heap.size, 0, none⟩, k, by rw [hbl]; rfl, by rw [hbl]; exact hown, hbel⟩
        · rw [if_neg hz] at HE
          rw [HE.out, if_neg (by omega)] at HV
          generalize v / 256 ^ k = u at *
          have hz' : ((u : Int) != 0) = true := by simp; omega
          go_wp2
          go_ret2
          rw [HV.out, HE.out]
          exact ⟨none, 0, rfl, OwnB.nil _ _, hbel⟩
      · have hc := hown.cell q (by omega)
        have hf := hown.free q
        have HS : Hid ((List.replicate (q + 1) 0 ++ bytesB v (k - (q + 1))).set q (v / 256 ^ (k - (q + 1)) % 256) = List.replicate q 0 ++ bytesB v (k - q)) := by
          show _ = _
          rw [rep_set, show k - q = k - (q + 1) + 1 from by omega]
          rfl
        have HD := (show Hid _ from div_step v q k (by omega))
        generalize (List.replicate (q + 1) 0 ++ bytesB v (k - (q + 1))) = ys at *
        generalize v / 256 ^ (k - (q + 1)) = u at *
        have hqk : (q : Int) < (k : Int) := by omega
        go_wp2
        go_roundw
        case rel =>
          refine ⟨q, by omega, ?_, ?_, ?_, hbel.setCell (Nat.le_refl _) _⟩
          · by_cases hq0 : q = 0
            · subst hq0; exact .inl ⟨rfl, by go_num⟩
            · exact .inr ⟨q - 1, by omega, by go_num⟩
          · rw [← HD.out]; go_num
          · rw [← HS.out, show ((u : Int) % 256) = ((u % 256 : Nat) : Int) from by omega]
            exact hown.store q (u % 256) (by omega)
        case measure => simp [intOf]
end Go.Proofs.YtfjpckaphfdfnaaGreatDoor
