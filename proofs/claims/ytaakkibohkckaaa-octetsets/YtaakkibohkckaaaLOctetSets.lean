/- Whatever bytes, place and number: the walk of trunklinelaw01.OctetSets ends with true, and writes nothing that was there. -/
import Derived.Test.YtaakkibohkckaaaLiveO
import Derived.Test.YtaakkibohkckaaaRefSet
import Derived.Test.YtaakkibohkckaaaMid
import Derived.Test.YtaakkibohkckaaaSlc
import Derived.Deep.RegionHeld3
namespace Go.Proofs.Ytaakkibohkckaaa
open Go.RowKit
theorem lay_take (zs : List Nat) (p : Nat) (ys : List Nat) (h : p ≤ zs.length) : (lay zs p ys).take p = zs.take p := by
  unfold lay
  rw [List.take_append_of_le_length (by simp; omega), List.take_take, Nat.min_self]
theorem lay_drop (zs : List Nat) (p : Nat) (ys : List Nat) (h : p ≤ zs.length) : (lay zs p ys).drop (p + ys.length) = zs.drop (p + ys.length) := by
  unfold lay
  have e : (zs.take p).length = p := by simp; omega
  rw [← List.append_assoc, List.drop_append_of_le_length (by simp; omega), List.drop_of_length_le (by simp; omega), List.nil_append]
theorem lay_mid (zs : List Nat) (p : Nat) (ys : List Nat) (h : p ≤ zs.length) : ((lay zs p ys).drop p).take ys.length = ys := by
  unfold lay
  have e : (zs.take p).length = p := by simp; omega
  rw [List.drop_append_of_le_length (by omega), List.drop_of_length_le (by omega), List.nil_append, List.take_left]
theorem num_set {zs : List Nat} {p : Int} {v : Nat} {k : Int} (h : setE zs.length p v k = 0) : nspanE (setV zs p v k).length p k = 0 ∧ numV (setV zs p v k) p k = v := by
  obtain ⟨h1, h2⟩ := setE_ok h
  obtain ⟨a1, a2, a3, a4⟩ := nspan_ok h1
  have hl := setV_len h
  refine ⟨by rw [hl]; exact h1, ?_⟩
  unfold numV
  rw [hl, if_pos h1]
  unfold setV
  rw [if_pos h]
  have e := lay_mid zs p.toNat (bytesV v k) (by omega)
  rw [bytesV_length h2] at e
  rw [e]
  exact num_bytes h2
theorem sl_head {w : World} {b off n c : Nat} {zs : List Nat} (hs : Sl w (some ⟨b, off, none⟩) n c zs) (p : Nat) (h : p ≤ n) : Sl w (some ⟨b, off, none⟩) p c (zs.take p) := by
  by_cases hp : p = 0
  · subst hp; simpa using sl_zero w ⟨b, off, none⟩ c hs.room
  · have := sl_mid hs 0 p (by omega) (by omega)
    simpa using this
theorem sl_tail {w : World} {b off n c : Nat} {zs : List Nat} (hs : Sl w (some ⟨b, off, none⟩) n c zs) (p : Nat) (h : p ≤ n) (x : Addr) (hx : p < n → x = ⟨b, off + p, none⟩) : Sl w (some x) (n - p) (c - p) (zs.drop p) := by
  by_cases hp : p = n
  · subst hp
    rw [List.drop_of_length_le (by rw [hs.len]; exact Nat.le_refl _), Nat.sub_self]
    exact sl_zero w x _ (by have := hs.room; omega)
  · rw [hx (by omega)]
    have := sl_mid hs p (n - p) (by omega) (by omega)
    rw [List.take_of_length_le (by rw [List.length_drop, hs.len]; exact Nat.le_refl _)] at this
    exact this
structure SetC (w0 : World) (v k g n c1 : Nat) (ys : List Nat) (b off c : Nat) (zs : List Nat) (w : World) : Prop where
  p0 : w.cell? ⟨w0.heap.size, 0, none⟩ = some (.int .u64 (v : Nat))
  p1 : w.cell? ⟨w0.heap.size, 1, none⟩ = some (.int .i64 (k : Nat))
  lt : w0.heap.size < w.heap.size
  s1 : Sl w (some ⟨g, 0, none⟩) n c1 ys
  s0 : Sl w (some ⟨b, off, none⟩) n c zs
  bel : Below w0.heap.size w0 w
theorem SetC.next {w0 : World} {v k g n c1 : Nat} {ys : List Nat} {b off c : Nat} {zs : List Nat} {w w' : World} (h : SetC w0 v k g n c1 ys b off c zs w) (hb : Below w.heap.size w w') : SetC w0 v k g n c1 ys b off c zs w' :=
  ⟨(hb.cell (p := ⟨w0.heap.size, 0, none⟩) h.lt).trans h.p0, (hb.cell (p := ⟨w0.heap.size, 1, none⟩) h.lt).trans h.p1, Nat.lt_of_lt_of_le h.lt hb.size, h.s1.below hb, h.s0.below hb, h.bel.trans (hb.mono h.bel.size)⟩
theorem SetC.all {w0 : World} {v k g n c1 : Nat} {ys : List Nat} {b off c : Nat} {zs : List Nat} {w : World} (h : SetC w0 v k g n c1 ys b off c zs w) (p : Nat) (hpk : p + k ≤ n) (x1 x0 : Addr) (hx1 : p + k < n → x1 = ⟨g, 0 + (p + k), none⟩) (hx0 : p + k < n → x0 = ⟨b, off + (p + k), none⟩) (t1 : ys.take p = zs.take p) (t2 : ys.drop (p + k) = zs.drop (p + k)) :
    w.cell? ⟨w0.heap.size, 0, none⟩ = some (.int .u64 (v : Nat)) ∧ w.cell? ⟨w0.heap.size, 1, none⟩ = some (.int .i64 (k : Nat)) ∧
    (convert 22 9 (.slice (some ⟨g, 0, none⟩) p c1)).run Try.prog w = .ok (.string (strOf (zs.take p))) w ∧
    (convert 22 9 (.slice (some ⟨b, off, none⟩) p c)).run Try.prog w = .ok (.string (strOf (zs.take p))) w ∧
    (convert 22 9 (.slice (some x1) (n - (p + k)) (c1 - (p + k)))).run Try.prog w = .ok (.string (strOf (zs.drop (p + k)))) w ∧
    (convert 22 9 (.slice (some x0) (n - (p + k)) (c - (p + k)))).run Try.prog w = .ok (.string (strOf (zs.drop (p + k)))) w ∧ SetC w0 v k g n c1 ys b off c zs w := by
  refine ⟨h.p0, h.p1, ?_, conv_str (sl_head h.s0 p (by omega)), ?_, conv_str (sl_tail h.s0 (p + k) hpk x0 hx0), h⟩
  · rw [← t1]; exact conv_str (sl_head h.s1 p (by omega))
  · rw [← t2]; exact conv_str (sl_tail h.s1 (p + k) hpk x1 hx1)
set_option maxHeartbeats 4000000 in
theorem walk_OctetSets (a : Option Addr) (n c : Nat) (zs : List Nat) (p : Int) (v : Nat) (k : Int) (w : World) (hl0 : Sl w a n c zs ∧ c * 1 ≤ 140737488351232) (_hp : (Lit.int .i64 p).wf = true) (hv : v < 18446744073709551616) :
    Calls Try.prog 3 #[.slice a n c, .int .i64 p, .agg #[.int .u64 (v : Nat), .int .i64 k]] w fun e w' => e = .returned (.bool true) ∧ Below w.heap.size w w' := by
  obtain ⟨hl, hcb⟩ := hl0
  have hn : n ≤ 140737488351232 := by have := hl.cap; omega
  have hlen := hl.len
  clear hcb
  have hb0 : Below w.heap.size w (w.alloc (.cells #[.int .u64 (v : Nat), .int .i64 k] 25)) := (Below.refl _ _).alloc (Nat.le_refl _) _
  have hz0 : (w.alloc (.cells #[.int .u64 (v : Nat), .int .i64 k] 25)).heap.size = w.heap.size + 1 := by simp
  have hl0 := hl.below hb0
  have hle : (setV zs p v k).length ≤ n := by
    by_cases h : setE zs.length p v k = 0
    · rw [setV_len h, hlen]; exact Nat.le_refl _
    · unfold setV; rw [if_neg h]; simp
  by_cases he : setE n p v k = 0
  · have hez := he
    rw [← hlen] at hez
    obtain ⟨h1, h2⟩ := setE_ok he
    obtain ⟨a1, a2, a3, a4⟩ := nspan_ok h1
    obtain ⟨HN1, HN2⟩ := num_set hez
    have hsl := setV_len hez
    rw [hlen] at hsl
    rw [hsl] at HN1
    have hVl : setV zs p v k = lay zs p.toNat (bytesV v k) := by unfold setV; rw [if_pos hez]
    have hyl := bytesV_length h2
    have t1 := lay_take zs p.toNat (bytesV v k) (by omega)
    have t2 := lay_drop zs p.toNat (bytesV v k) (by omega)
    rw [← hVl] at t1 t2
    rw [hyl] at t2
    clear hVl hyl h1 h2 hez
    have HE := (show Hid _ from he)
    have T1 := (show Hid _ from t1)
    have T2 := (show Hid _ from t2)
    have N1 := (show Hid _ from HN1)
    have N2 := (show Hid _ from HN2)
    clear he t1 t2 HN1 HN2
    obtain ⟨p, rfl⟩ := Int.eq_ofNat_of_zero_le a3
    obtain ⟨k, rfl⟩ := Int.eq_ofNat_of_zero_le (show 0 ≤ k by omega)
    rw [Int.toNat_natCast] at T1
    rw [Int.toNat_natCast, Int.toNat_natCast] at T2
    have hpk : p + k ≤ n := by omega
    have hk1 : 1 ≤ k := by omega
    rcases hl.at_ with h0 | ⟨b, off, rfl, hlt, _⟩
    · omega
    go_enter Try.func3, Try.ntmps3
    go_wp2_with fail
    refine (set_any _ _ _ zs p v k _ hl0 hn hv).mono ?_
    rintro e w1 ⟨g1, c1, rfl, ho1, hb1⟩
    rw [HE.out, hsl]
    rw [hsl] at ho1
    have hP0 : w1.cell? ⟨w.heap.size, 0, none⟩ = some (.int .u64 (v : Nat)) := by rw [hb1.cell (p := ⟨w.heap.size, 0, none⟩) (by rw [hz0]; show w.heap.size < _; omega)]; simp
    have hP1 : w1.cell? ⟨w.heap.size, 1, none⟩ = some (.int .i64 (k : Nat)) := by rw [hb1.cell (p := ⟨w.heap.size, 1, none⟩) (by rw [hz0]; show w.heap.size < _; omega)]; simp
    have hz1 := hb1.size
    rw [hz0] at hz1
    have hb01 := hb0.trans (hb1.mono (by rw [hz0]; omega))
    have hl1 := hl.below hb01
    clear hb0 hb1 hl0
    go_wp2_with fail
    refine (refset_any _ _ _ zs p v k _ hl1 hn hv).mono ?_
    rintro e w2 ⟨g2, c2, rfl, ho2, hb2⟩
    rw [HE.out, hsl]
    rw [hsl] at ho2
    have hP0b : w2.cell? ⟨w.heap.size, 0, none⟩ = some (.int .u64 (v : Nat)) := by rw [hb2.cell (p := ⟨w.heap.size, 0, none⟩) (by show w.heap.size < _; omega)]; exact hP0
    have hP1b : w2.cell? ⟨w.heap.size, 1, none⟩ = some (.int .i64 (k : Nat)) := by rw [hb2.cell (p := ⟨w.heap.size, 1, none⟩) (by show w.heap.size < _; omega)]; exact hP1
    have hz2 := hb2.size
    have hb02 := hb01.trans (hb2.mono hb01.size)
    have ho1b := ho1.below hb2
    clear ho1 hb2 hP0 hP1 hb01 hl1
    generalize setV zs p v k = ys at *
    have k1 := conv_str (ho1b.sl (by omega))
    have k2 := conv_str (ho2.sl (by omega))
    go_wp2_with fail
    clear k1 k2 ho2
    refine (num_any _ _ _ ys p k _ (ho1b.sl (by omega))).mono ?_
    rintro e w3 ⟨rfl, hw3⟩
    subst hw3
    rw [N1.out, N2.out]
    obtain ⟨g, hg⟩ : ∃ g, g1 = some ⟨g, 0, none⟩ := by
      rcases ho1b.own.2 with ⟨_, h0⟩ | ⟨g, cap, cur, hv, _⟩
      · omega
      · injection hv with e1
        exact ⟨g, e1⟩
    subst hg
    have q1 := (ho1b.sl (by omega)).cap
    have q0 := hl.cap
    have hPl : w.heap.size < w3.heap.size := by omega
    have hC : SetC w v k g n c1 ys b off c zs w3.drew := SetC.next ⟨hP0b, hP1b, hPl, ho1b.sl (by omega), hl.below hb02, hb02⟩ (Below.refl _ _).drew
    obtain ⟨x1, l1, hx1⟩ := slice_from g 0 n c1 ((p : Int) + (k : Int)) (p + k) (by omega) hpk q1
    obtain ⟨x0, l0, hx0⟩ := slice_from b off n c ((p : Int) + (k : Int)) (p + k) (by omega) hpk q0
    have l2 := slice_to (some ⟨g, 0, none⟩) n c1 p (by omega)
    have l3 := slice_to (some ⟨b, off, none⟩) n c p (by omega)
    have HALL : Hid (∀ w', SetC w v k g n c1 ys b off c zs w' → _) := fun w' h => SetC.all h p hpk x1 x0 hx1 hx0 T1.out T2.out
    obtain ⟨hc0, hc1, hc2, hc3, hc4, hc5, hC'⟩ := HALL.out _ hC
    have hwr : IntKind.i64.wrap ((p : Int) + (k : Int)) = (p : Int) + (k : Int) := by rw [IntKind.wrap_i64]; omega
    clear ho1b hl hP0b hP1b hb02 hC hx1 hx0 T1 T2 q1 q0
    go_wp2_with fail
    go_region_held3 (fun w' => w'.cell? ⟨w.heap.size, 0, none⟩ = some (.int .u64 (v : Nat)) ∧ w'.cell? ⟨w.heap.size, 1, none⟩ = some (.int .i64 (k : Nat)) ∧ (convert 22 9 (.slice (some ⟨g, 0, none⟩) p c1)).run Try.prog w' = .ok (.string (strOf (zs.take p))) w' ∧ (convert 22 9 (.slice (some ⟨b, off, none⟩) p c)).run Try.prog w' = .ok (.string (strOf (zs.take p))) w' ∧ (convert 22 9 (.slice (some x1) (n - (p + k)) (c1 - (p + k)))).run Try.prog w' = .ok (.string (strOf (zs.drop (p + k)))) w' ∧ (convert 22 9 (.slice (some x0) (n - (p + k)) (c - (p + k)))).run Try.prog w' = .ok (.string (strOf (zs.drop (p + k)))) w' ∧ SetC w v k g n c1 ys b off c zs w') (first | assumption | exact HALL.out _ (by assumption) | exact HALL.out _ (SetC.next (by assumption) (by assumption))) (first | (go_at_call 8; refine (live_any _).mono ?_; rintro e w9 ⟨rfl, hb9⟩))
    all_goals
      go_wp2
      go_ret
      exact ⟨rfl, (hC'.next hb9).bel⟩
  · have hne : ((setE n p v k : Int) != 0) = true := by simp; omega
    have HV : Hid (setV zs p v k = []) := by show _ = _; unfold setV; rw [hlen, if_neg he]
    clear he
    go_enter Try.func3, Try.ntmps3
    go_wp2_with fail
    refine (set_any _ _ _ zs p v k _ hl0 hn hv).mono ?_
    rintro e w1 ⟨g1, c1, rfl, ho1, hb1⟩
    have hP0 : w1.cell? ⟨w.heap.size, 0, none⟩ = some (.int .u64 (v : Nat)) := by rw [hb1.cell (p := ⟨w.heap.size, 0, none⟩) (by rw [hz0]; show w.heap.size < _; omega)]; simp
    have hP1 : w1.cell? ⟨w.heap.size, 1, none⟩ = some (.int .i64 k) := by rw [hb1.cell (p := ⟨w.heap.size, 1, none⟩) (by rw [hz0]; show w.heap.size < _; omega)]; simp
    have hb01 := hb0.trans (hb1.mono (by rw [hz0]; omega))
    have hl1 := hl.below hb01
    clear hb0 hb1 hl0
    go_wp2_with fail
    refine (refset_any _ _ _ zs p v k _ hl1 hn hv).mono ?_
    rintro e w2 ⟨g2, c2, rfl, ho2, hb2⟩
    have hb02 := hb01.trans (hb2.mono hb01.size)
    have k1 := conv_str ((ho1.below hb2).sl (by omega))
    have k2 := conv_str (ho2.sl (by omega))
    clear ho1 ho2 hP0 hP1 hb2 hb01 hl1
    generalize setV zs p v k = ys at *
    generalize setE n p v k = en at *
    go_wp2_with fail
    refine (live_any _).mono ?_
    rintro e w3 ⟨rfl, hb3⟩
    go_wp2
    go_ret
    exact ⟨rfl, hb02.trans (hb3.mono hb02.size)⟩
end Go.Proofs.Ytaakkibohkckaaa
