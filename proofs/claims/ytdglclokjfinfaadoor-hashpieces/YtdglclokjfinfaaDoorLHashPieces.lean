/- Whatever pieces (of up to a stated length in all): the walk of law05.HashPieces ends with true. -/
import Derived.Test.YtdglclokjfinfaaDoorEqArr
import Derived.Test.YtdglclokjfinfaaDoorRfSum
import Derived.Test.YtdglclokjfinfaaDoorRowsR
namespace Go.Proofs.YtdglclokjfinfaaDoor
open Go.RowKit
theorem Fr.grownQ {p : Nat} {w w' : World} (h : Fr (fun k => k = p) w w') : w.grownBy w' (some p) :=
  ⟨h.os, h.tape, h.output, h.size, fun k hk hn => h.block k hk (fun e => hn (by rw [e]))⟩
theorem Fr.of_below' {B : Nat} {w w' : World} (h : Below B w w') : Fr (fun k => B ≤ k) w w' := ⟨h.os, h.tape, h.output, h.size, fun k _ hk => h.block k (by simpa using hk)⟩
set_option maxRecDepth 100000 in
set_option maxHeartbeats 4000000 in
theorem walk_HashPieces (a : Option Addr) (n c : Nat) (rr : List (Option Addr × Nat × Nat × List Nat)) (w : World) (h1 : SlR w a n c rr ∧ (flatB rr).length ≤ 1048576 ∧ n ≤ 9223372036854775807) (hk : KW w) :
    Calls Tryd.prog 6 #[.slice a n c] w fun e w' => e = .returned (.bool true) ∧ Below w.heap.size w w' := by
  obtain ⟨hR, hfl, hn⟩ := h1
  have hkg := hk.1
  have hrl := hR.len
  go_enter Tryd.func6, Tryd.ntmps6
  go_wp2_with fail
  refine (hnew_any w).mono ?_
  rintro e w1 ⟨p, rfl, hH1, hb1⟩
  have hB1 : HB w1 w.heap.size p [] := ⟨_, hH1, fun i hi => by simp at hi⟩
  have hpw : w.heap.size ≤ p := hH1.base
  have hp1 : p < w1.heap.size := hH1.lt
  have hpg : p ≠ 0 := by omega
  clear hH1
  go_wp2_with fail
  go_loopw [4, 5] (fun av iv wr => ∃ (i : Nat) (aa : Option Addr) (ca m : Nat), i ≤ n ∧ m = (flatB (rr.take i)).length ∧ iv = .int .i64 i ∧ av = .slice aa m ca ∧ OwnB wr w1.heap.size aa m ca (flatB (rr.take i)) ∧ HB wr w.heap.size p (flatB (rr.take i)) ∧ w1.heap.size ≤ wr.heap.size ∧ Below w.heap.size w wr) (fun _ iv _ => n - (intOf iv).toNat)
  case atStart => exact ⟨0, none, 0, 0, by omega, rfl, rfl, rfl, OwnB.nil _ _, hB1, Nat.le_refl _, hb1⟩
  case round =>
    obtain ⟨i, aa, ca, m, hi, hm, rfl, rfl, hoA, hBA, hsz1, hbA⟩ := hrel
    have hkA := hk.below (Nat.le_refl _) hbA
    have hmle : m ≤ 1048576 := by rw [hm]; exact Nat.le_trans (flatB_le rr i) hfl
    clear hB1
    by_cases hin : i < n
    · have hRA := hR.below hbA
      obtain ⟨x, hx⟩ : ∃ x, rr[i]? = some x := ⟨rr[i]'(by omega), List.getElem?_eq_getElem (by omega)⟩
      have hsn := flatB_snoc rr i x hx
      have hle := Nat.le_trans (flatB_le rr (i + 1)) hfl
      have hsX0 := hR.rows i x hx
      have hsXA := hRA.rows i x hx
      rcases hRA.at_ with h00 | ⟨b, off, rfl, hltb, hcb⟩
      · omega
      have hcx := hcb i x hx
      obtain ⟨ax, nx, cx, xs⟩ := x
      simp only at hsX0 hsXA hcx hsn
      have hlx := hsX0.len
      obtain ⟨L, hL⟩ : ∃ L, L = flatB (rr.take i) := ⟨_, rfl⟩
      rw [← hL] at hoA hBA hm hsn
      have hLn : L.length + nx ≤ 1048576 := by rw [hsn] at hle; simp at hle; omega
      have HSN : Hid (flatB (rr.take (i + 1)) = L ++ xs) := hsn
      have hap : blkOf ax nx ≠ some p := fun e => by have := (slB_of hsX0).2 p e; omega
      have hneA : (Value.slice aa m ca).ownBlock = none ∨ (Value.slice aa m ca).ownBlock ≠ some p := by
        cases hg : (Value.slice aa m ca).ownBlock with
        | none => exact .inl rfl
        | some g => exact .inr (fun e => by have := (hoA.own.lt g hg).1; injection e with e; omega)
      have hii : (i : Int) < (n : Int) := by omega
      have hlb : b < wr.heap.size := hltb
      have HLT : Hid (b < w.heap.size) := by
        show _ < _
        rcases hR.at_ with h00 | ⟨b', off', e, hlt', _⟩
        · omega
        · injection e with e
          injection e with e1 _
          omega
      clear hL hsn hle hcb hx hRA hm
      go_wp2_with fail
      refine (hwrite_any w.heap.size p L ax nx cx xs wr hBA hkA hpg hsXA hap (by omega)).mono ?_
      rintro e w2 ⟨rfl, hB2, hk2, hf2⟩
      have hb02 : Below w.heap.size w w2 := hbA.trans (hf2.below w.heap.size hbA.size (fun k e => by omega))
      have ho2 := hoA.kept hf2.grownQ hneA
      have hz2 := hf2.size
      have hsX2 := hsX0.below hb02
      have hcx2 : w2.cell? ⟨b, off + i, none⟩ = some (.slice ax nx cx) := (hf2.cell ⟨b, off + i, none⟩ hlb (by have := HLT.out; show ¬ b = p; omega)).trans hcx
      have hzw : w1.heap.size ≤ w2.heap.size := by omega
      clear hBA hoA hneA hf2 hcx hsXA hkA hbA
      go_wp2_with (at_builtin; go_must (refine app_list rfl _ _ rfl w1.heap.size aa m ca L rfl ho2 _ nx cx xs rfl hsX2 (by omega) hzw ?_))
      intro a3 c3 w3 ho3 hg3
      have hb23 : Below w1.heap.size w2 w3 := ho2.up hg3 hzw
      have hB3 : HB w3 w.heap.size p (L ++ xs) := hB2.fr (Fr.of_below' hb23) (by omega)
      have hb03 : Below w.heap.size w w3 := hb02.trans (hb23.mono hb1.size)
      have hz3 := hb23.size
      have hk3 := hk.below (Nat.le_refl _) hb03
      have hllx : (L ++ xs).length = m + nx := ho3.len
      clear hg3 hB2 hb02 hb23 ho2 hsX2 hcx2 hk2
      by_cases h3 : i % 3 = 0
      · have h3' : ((i : Int) % 3 == 0) = true := by simp; omega
        have h3'' : (i : Int) % 3 = 0 := by omega
        obtain ⟨m1, hm1⟩ : ∃ m1, m1 = (vals (shaN (L ++ xs))).toArray := ⟨_, rfl⟩
        have heq1 := fun W => eq_vals (shaN (L ++ xs)) (shaN_len _) (shaN_bnd _) W
        have hs1 := hsum_any w.heap.size p (L ++ xs) w3 hB3 hk3 (by rw [hllx]; omega)
        rw [← hm1] at heq1 hs1
        have HM1 := (show Hid _ from hm1)
        clear hm1
        go_wp2_with fail
        refine hs1.mono ?_
        rintro e w4 ⟨rfl, hk4, hb4⟩
        have ho4 := ho3.below hb4
        have hB4 := hB3.below hb4
        have hb04 : Below w.heap.size w w4 := hb03.trans (hb4.mono hb03.size)
        have hrs := rsum_any a3 (m + nx) c3 (L ++ xs) w4 (ho4.sl (by omega)) (by omega)
        rw [← HM1.out] at hrs
        have hz4 := hb4.size
        clear hs1 ho3 hB3 hb03 hk3 hk4 hb4
        go_wp2_with fail
        refine hrs.mono ?_
        rintro e w5 ⟨rfl, hb5⟩
        have he5 := heq1 w5
        have ho5 := ho4.below hb5
        have hB5 := hB4.below hb5
        have hb05 : Below w.heap.size w w5 := hb04.trans (hb5.mono hb04.size)
        have hz5 := hb5.size
        clear hrs ho4 hB4 hb04 hb5
        go_wp2
        go_roundw
        case rel => exact ⟨i + 1, a3, c3, m + nx, by omega, by rw [HSN.out, hllx], by go_num, rfl, by rw [HSN.out]; exact ho5, by rw [HSN.out]; exact hB5, by omega, hb05⟩
        case measure => simp [intOf]; omega
      · have h3' : ((i : Int) % 3 == 0) = false := by simp; omega
        have h3'' : ¬ (i : Int) % 3 = 0 := by omega
        go_wp2
        go_roundw
        case rel => exact ⟨i + 1, a3, c3, m + nx, by omega, by rw [HSN.out, hllx], by go_num, rfl, by rw [HSN.out]; exact ho3, by rw [HSN.out]; exact hB3, by omega, hb03⟩
        case measure => simp [intOf]; omega
    · have hii : ¬ (i : Int) < (n : Int) := by omega
      have HT : Hid (rr.take i = rr) := by show _ = _; rw [List.take_of_length_le]; omega
      rw [HT.out] at hoA hBA hm
      obtain ⟨L, hL⟩ : ∃ L, L = flatB rr := ⟨_, rfl⟩
      rw [← hL] at hoA hBA hm hfl
      clear hL
      have hLm : L.length ≤ 1048576 := hfl
      clear hm
      go_wp2_with fail
      refine (live5_any _ hkA).mono ?_
      rintro e w2 ⟨rfl, hk2, hb2⟩
      have ho2 := hoA.below hb2
      have hB2 := hBA.below hb2
      have hb02 : Below w.heap.size w w2 := hbA.trans (hb2.mono hbA.size)
      obtain ⟨m1, hm1⟩ : ∃ m1, m1 = (vals (shaN L)).toArray := ⟨_, rfl⟩
      have heq1 := fun W => eq_vals (shaN L) (shaN_len _) (shaN_bnd _) W
      have hs1 := hsum_any w.heap.size p L w2 hB2 hk2 (by omega)
      rw [← hm1] at heq1 hs1
      have HM1 := (show Hid _ from hm1)
      clear hm1 hoA hBA hb2 hbA
      go_wp2_with fail
      refine hs1.mono ?_
      rintro e w3 ⟨rfl, hk3, hb3⟩
      have ho3 := ho2.below hb3
      have hB3 := hB2.below hb3
      have hb03 : Below w.heap.size w w3 := hb02.trans (hb3.mono hb02.size)
      have hrs := rsum_any aa m ca L w3 (ho3.sl (by omega)) (by omega)
      rw [← HM1.out] at hrs
      clear hs1 ho2 hB2 hb02 hb3 hk2
      go_wp2_with fail
      refine hrs.mono ?_
      rintro e w4 ⟨rfl, hb4⟩
      have he4 := heq1 w4
      have ho4 := ho3.below hb4
      have hB4 := hB3.below hb4
      have hk4 := hk3.below (Nat.le_refl _) hb4
      have hb04 : Below w.heap.size w w4 := hb03.trans (hb4.mono hb03.size)
      have hs4 := hsum_any w.heap.size p L w4 hB4 hk4 (by omega)
      rw [← HM1.out] at hs4
      clear hrs ho3 hB3 hb03 hb4 hk3
      go_wp2_with fail
      refine hs4.mono ?_
      rintro e w5 ⟨rfl, hk5, hb5⟩
      have ho5 := ho4.below hb5
      have hb05 : Below w.heap.size w w5 := hb04.trans (hb5.mono hb04.size)
      have hs5 := hashSum_any aa m ca L w5 (slB_of (ho5.sl (by omega))) hk5 (by omega)
      rw [← HM1.out] at hs5
      clear hs4 ho4 hB4 hb04 hb5 hk4 he4
      go_wp2_with fail
      refine hs5.mono ?_
      rintro e w6 ⟨rfl, hk6, hb6⟩
      have he6 := heq1 w6
      go_wp2
      go_ret
      exact ⟨rfl, hb05.trans (hb6.mono hb05.size)⟩
end Go.Proofs.YtdglclokjfinfaaDoor
