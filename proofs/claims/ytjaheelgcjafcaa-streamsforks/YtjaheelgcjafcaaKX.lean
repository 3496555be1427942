/- ref12.Value of Sack. -/
import Derived.Test.YtjaheelgcjafcaaKW
namespace Go.Proofs.Ytjaheelgcjafcaa
open Go.RowKit
set_option linter.unusedVariables false in
set_option maxRecDepth 100000 in
set_option maxHeartbeats 4000000 in
theorem value_prms (k : Nat) (f t st ss pp tg rm os is : Nat) (b1 : Option Addr) (b2 b3 : Nat) (d1 : Option Addr) (d2 d3 : Nat) (p1 : Option Addr) (p2 p3 : Nat) (x1 : Option Addr) (x2 x3 : Nat) (w : World) (hk : k = 4 ∨ k = 5 ∨ k = 6 ∨ k = 9) {ps : List Pm} (hPm : PmR w p1 p2 p3 ps) (hp16 : p2 ≤ 16) (hpm : ∀ p ∈ ps, p.zs.length ≤ 2000) :
    Calls Try.prog 73 #[.agg #[.int .u8 (k : Nat), .int .u8 (f : Nat), .int .u32 (t : Nat), .int .u16 (st : Nat), .int .u16 (ss : Nat), .int .u32 (pp : Nat), .int .u32 (tg : Nat), .int .u32 (rm : Nat), .int .u16 (os : Nat), .int .u16 (is : Nat), .slice b1 b2 b3, .slice d1 d2 d3, .slice p1 p2 p3, .slice x1 x2 x3]] w (RowV w (pmsV ps)) := by
  obtain ⟨W1, hW1⟩ : ∃ W1, W1 = w.alloc (.cells #[.int .u8 (k : Nat), .int .u8 (f : Nat), .int .u32 (t : Nat), .int .u16 (st : Nat), .int .u16 (ss : Nat), .int .u32 (pp : Nat), .int .u32 (tg : Nat), .int .u32 (rm : Nat), .int .u16 (os : Nat), .int .u16 (is : Nat), .slice b1 b2 b3, .slice d1 d2 d3, .slice p1 p2 p3, .slice x1 x2 x3] 47) := ⟨_, rfl⟩
  obtain ⟨W2, hW2⟩ : ∃ W2, W2 = W1.alloc (.cells #[] 5) := ⟨_, rfl⟩
  have H0 : Hid (VaS w [.int .u8 (k : Nat), .int .u8 (f : Nat), .int .u32 (t : Nat), .int .u16 (st : Nat), .int .u16 (ss : Nat), .int .u32 (pp : Nat), .int .u32 (tg : Nat), .int .u32 (rm : Nat), .int .u16 (os : Nat), .int .u16 (is : Nat), .slice b1 b2 b3, .slice d1 d2 d3, .slice p1 p2 p3, .slice x1 x2 x3] W2 (some ⟨w.heap.size + 1, 0, none⟩) 0 0 []) := VaS.start w W1 W2 [.int .u8 (k : Nat), .int .u8 (f : Nat), .int .u32 (t : Nat), .int .u16 (st : Nat), .int .u16 (ss : Nat), .int .u32 (pp : Nat), .int .u32 (tg : Nat), .int .u32 (rm : Nat), .int .u16 (os : Nat), .int .u16 (is : Nat), .slice b1 b2 b3, .slice d1 d2 d3, .slice p1 p2 p3, .slice x1 x2 x3] hW1 hW2
  have HW := (show Hid _ from And.intro hW1 hW2)
  clear hW1 hW2
  have HD := (show Hid _ from fun W => hasData_any k (by omega) W)
  have HP := (show Hid _ from fun W => hasParams_any k (by omega) W)
  have hd7 : hdB12 k = false := decide_eq_false (by omega)
  have hp7 : hpB k = true := decide_eq_true (by omega)
  rw [hd7] at HD
  rw [hp7] at HP
  clear hd7 hp7
  have g0 : ((k : Int) == 0) = false := by simp; omega
  have g1 : ((k : Int) == 1) = false := by simp; omega
  have g2 : ((k : Int) == 2) = false := by simp; omega
  have g3 : ((k : Int) == 3) = false := by simp; omega
  have g7 : ((k : Int) == 7) = false := by simp; omega
  clear hk
  obtain ⟨hh, hhh⟩ : ∃ hh : List Nat, hh = [] := ⟨_, rfl⟩
  have HH4 : Hid (hh.length % 4 = 0) := by rw [hhh]; rfl
  have hh2 : hh.length ≤ 20 := by rw [hhh]; simp
  rw [← hhh] at H0
  rw [show pmsV ps = hh ++ pmsV ps from by rw [hhh]; rfl]
  clear hhh
  go_enter Try.func73, Try.ntmps73
  go_wp2_with fail
  rw [← HW.out.1, ← HW.out.2]
  clear HW
  refine Calls.mono (HD.out W2) ?_
  rintro e wA ⟨rfl, bA⟩
  have HA := (show Hid _ from H0.out.below bA)
  clear bA H0 HD
  have k1 := HA.out.box.cell 0 _ rfl
  have hcap := hPm.cap
  have hlen := hPm.len
  have HPm := (show Hid _ from And.intro hPm hpm)
  have HS0 : Hid (VaS w [.int .u8 (k : Nat), .int .u8 (f : Nat), .int .u32 (t : Nat), .int .u16 (st : Nat), .int .u16 (ss : Nat), .int .u32 (pp : Nat), .int .u32 (tg : Nat), .int .u32 (rm : Nat), .int .u16 (os : Nat), .int .u16 (is : Nat), .slice b1 b2 b3, .slice d1 d2 d3, .slice p1 p2 p3, .slice x1 x2 x3] wA (some ⟨w.heap.size + 1, 0, none⟩) 0 0 (hh ++ pmsV (ps.take 0))) := by
    show VaS _ _ _ _ _ _ (hh ++ [])
    rw [List.append_nil]
    exact HA.out
  clear hPm hpm HA
  go_wp2_with fail
  go_loopw [3, 6] (fun u3 u6 wr => ∃ (i : Nat) (a : Option Addr) (n c : Nat), i ≤ p2 ∧ u6 = .int .i64 (i : Nat) ∧ u3 = .slice a n c ∧ VaS w [.int .u8 (k : Nat), .int .u8 (f : Nat), .int .u32 (t : Nat), .int .u16 (st : Nat), .int .u16 (ss : Nat), .int .u32 (pp : Nat), .int .u32 (tg : Nat), .int .u32 (rm : Nat), .int .u16 (os : Nat), .int .u16 (is : Nat), .slice b1 b2 b3, .slice d1 d2 d3, .slice p1 p2 p3, .slice x1 x2 x3] wr a n c (hh ++ pmsV (ps.take i))) (fun _ u6 _ => p2 - (intOf u6).toNat)
  case atStart => exact ⟨0, _, _, _, by omega, rfl, rfl, HS0.out⟩
  case round =>
    obtain ⟨i, a, n, c, hin, rfl, rfl, hS⟩ := hrel
    have HS := (show Hid _ from hS)
    clear hS HS0 k1
    have k1 := HS.out.box.cell 0 _ rfl
    go_wp2_with fail
    refine Calls.mono (HP.out wr) ?_
    rintro e w5 ⟨rfl, b5⟩
    have HT := (show Hid _ from HS.out.below b5)
    clear b5 HS k1
    have k12 := HT.out.box.cell 12 _ rfl
    by_cases hlt : i < p2
    · have hlt1 : (i : Int) < (p2 : Int) := by omega
      obtain ⟨p, hpi⟩ : ∃ p, ps[i]? = some p := ⟨_, List.getElem?_eq_getElem (by omega)⟩
      obtain ⟨b, off, hab, hbl, hrow⟩ : ∃ b off, p1 = some ⟨b, off, none⟩ ∧ b < w.heap.size ∧ ∀ i p, ps[i]? = some p → p.k < 65536 ∧ ∃ va vc, w.cell? ⟨b, off + i * 2, none⟩ = some (.int .u16 (p.k : Nat)) ∧ w.cell? ⟨b, off + i * 2 + 1, none⟩ = some (.slice va p.zs.length vc) ∧ Sl w va p.zs.length vc p.zs := by
        rcases HPm.out.1.at_ with e | e
        · omega
        · exact e
      obtain ⟨hkb, va, vc, c0, c1, hsl⟩ := hrow i p hpi
      have hzl := HPm.out.2 p (List.mem_of_getElem? hpi)
      have hvl := pmsV_le (ps.take i) (M := 2000) (fun q hq => HPm.out.2 q (List.mem_of_mem_take hq))
      have hvl2 : (pmsV (ps.take i)).length ≤ 16 * 2007 := Nat.le_trans hvl (by rw [List.length_take]; exact Nat.mul_le_mul_right _ (by omega))
      obtain ⟨yy, hyy⟩ : ∃ yy, yy = hh ++ pmsV (ps.take i) := ⟨_, rfl⟩
      have hyl : yy.length ≤ 40000 := by rw [hyy, List.length_append]; omega
      have HPD := (show Hid _ from pms_pad hh ps i HH4.out)
      have HNX := (show Hid _ from pmsV_next ps i p hpi)
      rw [← hyy] at HPD HT
      have hT := HT.out
      have hny := hT.own.len
      obtain ⟨pk, pz⟩ := p
      dsimp only at hkb c0 c1 hsl hzl HNX
      have HC := (show Hid _ from And.intro c0 (And.intro c1 hsl))
      have HN1 : Hid (yy.length = n) := hny
      obtain ⟨W5, hW5⟩ : ∃ W5, W5 = w5 := ⟨_, rfl⟩
      subst hW5
      have HT0 : Hid (VaS w [.int .u8 (k : Nat), .int .u8 (f : Nat), .int .u32 (t : Nat), .int .u16 (st : Nat), .int .u16 (ss : Nat), .int .u32 (pp : Nat), .int .u32 (tg : Nat), .int .u32 (rm : Nat), .int .u16 (os : Nat), .int .u16 (is : Nat), .slice b1 b2 b3, .slice d1 d2 d3, .slice p1 p2 p3, .slice x1 x2 x3] W5 a n c (yy ++ List.replicate 0 0)) := by
        show VaS _ _ _ _ _ _ (yy ++ [])
        rw [List.append_nil]
        exact hT
      have hyl1 : n ≤ 40000 := by omega
      clear hT hny hvl hvl2 hyy HT hrow hsl c0 c1 hpi hyl
      go_wp2_with fail
      go_loopw [3] (fun u3 wr => ∃ (j : Nat) (a : Option Addr) (n' c : Nat), j ≤ padN yy.length ∧ u3 = .slice a n' c ∧ VaS w [.int .u8 (k : Nat), .int .u8 (f : Nat), .int .u32 (t : Nat), .int .u16 (st : Nat), .int .u16 (ss : Nat), .int .u32 (pp : Nat), .int .u32 (tg : Nat), .int .u32 (rm : Nat), .int .u16 (os : Nat), .int .u16 (is : Nat), .slice b1 b2 b3, .slice d1 d2 d3, .slice p1 p2 p3, .slice x1 x2 x3] wr a n' c (yy ++ List.replicate j 0)) (fun u3 _ => match u3 with | .slice _ n' _ => n + 4 - n' | _ => 0)
      case atStart => exact ⟨0, _, _, _, Nat.zero_le _, rfl, HT0.out⟩
      case round =>
        obtain ⟨j, a2, n2, c2, hj, rfl, hS⟩ := hrel
        have hn2 : n2 = n + j := by
          have := hS.own.len
          rw [List.length_append, List.length_replicate, HN1.out] at this
          omega
        have hj3 := padN_lt yy.length
        have hpd : padN yy.length = (4 - n % 4) % 4 := by rw [HN1.out]; rfl
        have HS := (show Hid _ from hS)
        clear hS HT0
        by_cases hm : n2 % 4 = 0
        · have hm1 : (((n2 : Nat) : Int) % 4 != 0) = false := by simp; omega
          have ej : j = padN yy.length := by omega
          have hT := HS.out
          rw [ej, ← HPD.out] at hT
          have HT := (show Hid _ from hT)
          have hbn : n2 ≤ 40010 := by omega
          have hC := HC.out
          have k0 := (hT.bel.cell (p := ⟨b, off + i * 2, none⟩) hbl).trans hC.1
          have k12 := hT.box.cell 12 _ rfl
          have HN := (show Hid _ from HT.out.call pk 2 (by omega) (by omega) (by omega) (by omega) (by omega))
          subst hab
          clear hT hm hpd ej hj hC HS HPD hj3 hn2
          go_wp2_with fail
          refine Calls.mono HN.out ?_
          clear HN k0 k12 hm1
          rintro e w6 hP
          obtain ⟨a6, n6, c6, rfl, hn6, h6⟩ := hP
          have hb6 : n6 ≤ 40012 := by omega
          have H6 := (show Hid _ from h6)
          have k0 := (h6.bel.cell (p := ⟨b, off + i * 2 + 1, none⟩) hbl).trans HC.out.2.1
          have k12 := h6.box.cell 12 _ rfl
          have HN := (show Hid _ from h6.call (4 + pz.length) 2 (by omega) (by omega) (by omega) (by omega) (by omega))
          obtain ⟨m, hm⟩ : ∃ m, m = pz.length := ⟨_, rfl⟩
          have HM := (show Hid _ from hm)
          rw [← hm] at HN k0 hzl
          rw [show ((4 + m : Nat) : Int) = 4 + (m : Int) from by omega] at HN
          have hw4 : IntKind.u32.wrap (4 + (m : Int)) = 4 + (m : Int) := by rw [IntKind.wrap_u32]; omega
          clear hn6 h6 hm HT
          go_wp2_with fail
          refine Calls.mono HN.out ?_
          clear HN k0 k12 hw4
          rintro e w7 hP
          obtain ⟨a7, n7, c7, rfl, hn7, h7⟩ := hP
          have hb7 : n7 ≤ 40014 := by omega
          have H7 := (show Hid _ from h7)
          have k0 := (h7.bel.cell (p := ⟨b, off + i * 2 + 1, none⟩) hbl).trans HC.out.2.1
          have k12 := h7.box.cell 12 _ rfl
          have hsl := HC.out.2.2.below h7.bel
          rw [← HM.out] at k0 hsl
          have HO := (show Hid _ from h7.own)
          have hz1 : w.heap.size + 1 ≤ w7.heap.size := by have := h7.box.lt; omega
          clear hn7 h7 H6
          go_wp2_with (at_builtin; go_must (refine app_list2 rfl _ _ rfl (w.heap.size + 1) _ _ _ _ rfl HO.out _ _ _ _ rfl hsl (by omega) hz1 ?_))
          intro a8 c8 w8 ho8 hg8 hp8
          have h8 := H7.out.grow ho8 hg8
          have e8 : hh ++ (pmsB (ps.take i) ++ (bytesB pk 2 ++ (bytesB (4 + m) 2 ++ pz))) = hh ++ pmsV (ps.take (i + 1)) := by
            rw [HNX.out]
            unfold pmV
            dsimp only
            rw [← HM.out]
          try simp only [List.append_assoc] at h8
          rw [e8] at h8
          have HF := (show Hid _ from h8)
          clear h8 e8 ho8 hg8 hp8 H7 k0 k12 hsl hz1 HO
          go_wp2
          go_roundw
          case rel => exact ⟨i + 1, _, _, _, by omega, by go_num, rfl, HF.out⟩
          case measure => simp [intOf]; omega
        · have hm1 : (((n2 : Nat) : Int) % 4 != 0) = true := by simp; omega
          have hz1 : w.heap.size + 1 ≤ wr.heap.size := by have := HS.out.box.lt; omega
          have hjl : j < padN yy.length := by omega
          have HJ : Hid (j < padN yy.length ∧ n2 ≤ n + 3) := ⟨hjl, by omega⟩
          have HO := (show Hid _ from HS.out.own)
          have hb2 : n2 ≤ 40010 := by omega
          clear hjl hpd hj3 hn2 hm hj
          go_wp2_with (at_builtin; go_must (refine app_list2 rfl _ _ rfl (w.heap.size + 1) _ _ _ _ rfl (HO.out.alloc _) _ 1 1 [0] rfl (sl_one wr 5 _ 0 rfl (by decide)) (by omega) (by simp; omega) ?_))
          intro a8 c8 w8 ho8 hg8 hp8
          have h8 := (HS.out.below ((Below.refl _ _).alloc (Nat.le_refl _) _)).grow ho8 hg8
          have e8 : yy ++ (List.replicate j 0 ++ [0]) = yy ++ List.replicate (j + 1) 0 := by rw [List.replicate_succ']
          try simp only [List.append_assoc] at h8
          rw [e8] at h8
          have HF := (show Hid _ from h8)
          clear h8 e8 ho8 hg8 hp8 HS hz1 HO hb2 hm1
          go_wp2
          go_roundw
          case rel => exact ⟨j + 1, _, _, _, HJ.out.1, rfl, HF.out⟩
          case measure =>
            have := HJ.out.2
            show n + 4 - (n2 + 1) < n + 4 - n2
            omega
    · have hlt1 : ¬ (i : Int) < (p2 : Int) := by omega
      have hF := HT.out.row
      rw [show ps.take i = ps from List.take_of_length_le (by omega)] at hF
      have HF := (show Hid _ from hF)
      clear hF HT HP
      go_wp2
      go_ret
      exact HF.out
set_option linter.unusedVariables false in
set_option maxRecDepth 100000 in
set_option maxHeartbeats 4000000 in
theorem value_init1 (f t st ss pp tg rm os is : Nat) (b1 : Option Addr) (b2 b3 : Nat) (d1 : Option Addr) (d2 d3 : Nat) (p1 : Option Addr) (p2 p3 : Nat) (x1 : Option Addr) (x2 x3 : Nat) (w : World) (ht : t < 4294967296) (htg : tg < 4294967296) (hrm : rm < 4294967296) (hos : os < 65536) (his : is < 65536) {ps : List Pm} (hPm : PmR w p1 p2 p3 ps) (hp16 : p2 ≤ 16) (hpm : ∀ p ∈ ps, p.zs.length ≤ 2000) :
    Calls Try.prog 73 #[.agg #[.int .u8 1, .int .u8 (f : Nat), .int .u32 (t : Nat), .int .u16 (st : Nat), .int .u16 (ss : Nat), .int .u32 (pp : Nat), .int .u32 (tg : Nat), .int .u32 (rm : Nat), .int .u16 (os : Nat), .int .u16 (is : Nat), .slice b1 b2 b3, .slice d1 d2 d3, .slice p1 p2 p3, .slice x1 x2 x3]] w (RowV w (bytesB tg 4 ++ (bytesB rm 4 ++ (bytesB os 2 ++ (bytesB is 2 ++ (bytesB t 4 ++ pmsV ps)))))) := by
  obtain ⟨W1, hW1⟩ : ∃ W1, W1 = w.alloc (.cells #[.int .u8 1, .int .u8 (f : Nat), .int .u32 (t : Nat), .int .u16 (st : Nat), .int .u16 (ss : Nat), .int .u32 (pp : Nat), .int .u32 (tg : Nat), .int .u32 (rm : Nat), .int .u16 (os : Nat), .int .u16 (is : Nat), .slice b1 b2 b3, .slice d1 d2 d3, .slice p1 p2 p3, .slice x1 x2 x3] 47) := ⟨_, rfl⟩
  obtain ⟨W2, hW2⟩ : ∃ W2, W2 = W1.alloc (.cells #[] 5) := ⟨_, rfl⟩
  have H0 : Hid (VaS w [.int .u8 1, .int .u8 (f : Nat), .int .u32 (t : Nat), .int .u16 (st : Nat), .int .u16 (ss : Nat), .int .u32 (pp : Nat), .int .u32 (tg : Nat), .int .u32 (rm : Nat), .int .u16 (os : Nat), .int .u16 (is : Nat), .slice b1 b2 b3, .slice d1 d2 d3, .slice p1 p2 p3, .slice x1 x2 x3] W2 (some ⟨w.heap.size + 1, 0, none⟩) 0 0 []) := VaS.start w W1 W2 [.int .u8 1, .int .u8 (f : Nat), .int .u32 (t : Nat), .int .u16 (st : Nat), .int .u16 (ss : Nat), .int .u32 (pp : Nat), .int .u32 (tg : Nat), .int .u32 (rm : Nat), .int .u16 (os : Nat), .int .u16 (is : Nat), .slice b1 b2 b3, .slice d1 d2 d3, .slice p1 p2 p3, .slice x1 x2 x3] hW1 hW2
  have HW := (show Hid _ from And.intro hW1 hW2)
  clear hW1 hW2
  have HD := (show Hid _ from fun W => hasData_any 1 (by omega) W)
  have HP := (show Hid _ from fun W => hasParams_any 1 (by omega) W)
  have hd7 : hdB12 1 = false := decide_eq_false (by omega)
  have hp7 : hpB 1 = true := decide_eq_true (by omega)
  rw [hd7] at HD
  rw [hp7] at HP
  clear hd7 hp7
  obtain ⟨hh, hhh⟩ : ∃ hh : List Nat, hh = bytesB tg 4 ++ (bytesB rm 4 ++ (bytesB os 2 ++ (bytesB is 2 ++ bytesB t 4))) := ⟨_, rfl⟩
  have hh4 : hh.length % 4 = 0 := by rw [hhh]; simp [bytesB_len]
  have HH4 := (show Hid _ from hh4)
  have hh2 : hh.length ≤ 20 := by rw [hhh]; simp [bytesB_len]
  have HHH := (show Hid _ from hhh)
  rw [show bytesB tg 4 ++ (bytesB rm 4 ++ (bytesB os 2 ++ (bytesB is 2 ++ (bytesB t 4 ++ pmsV ps)))) = hh ++ pmsV ps from by rw [hhh]; simp only [List.append_assoc]]
  clear hhh hh4
  have HN := (show Hid _ from H0.out.call tg 4 (by omega) (by omega) (by omega) (by omega) (by omega))
  go_enter Try.func73, Try.ntmps73
  go_wp2_with fail
  rw [← HW.out.1, ← HW.out.2]
  clear HW
  refine Calls.mono HN.out ?_
  clear HN
  rintro e w1v hP
  obtain ⟨a1, n1, c1, rfl, hn1, h1⟩ := hP
  have H1 := (show Hid _ from h1)
  have hb1 : n1 ≤ 4 := by omega
  clear hn1 h1 H0
  have k1 := H1.out.box.cell 7 _ rfl
  have HN := (show Hid _ from H1.out.call rm 4 (by omega) (by omega) (by omega) (by omega) (by omega))
  go_wp2_with fail
  refine Calls.mono HN.out ?_
  clear HN k1
  rintro e w2v hP
  obtain ⟨a2, n2, c2, rfl, hn2, h2⟩ := hP
  have H2 := (show Hid _ from h2)
  have hb2 : n2 ≤ 8 := by omega
  clear hn2 h2 H1 hb1
  have k1 := H2.out.box.cell 8 _ rfl
  have HN := (show Hid _ from H2.out.call os 2 (by omega) (by omega) (by omega) (by omega) (by omega))
  go_wp2_with fail
  refine Calls.mono HN.out ?_
  clear HN k1
  rintro e w3v hP
  obtain ⟨a3, n3, c3, rfl, hn3, h3⟩ := hP
  have H3 := (show Hid _ from h3)
  have hb3 : n3 ≤ 10 := by omega
  clear hn3 h3 H2 hb2
  have k1 := H3.out.box.cell 9 _ rfl
  have HN := (show Hid _ from H3.out.call is 2 (by omega) (by omega) (by omega) (by omega) (by omega))
  go_wp2_with fail
  refine Calls.mono HN.out ?_
  clear HN k1
  rintro e w4v hP
  obtain ⟨a4, n4, c4, rfl, hn4, h4⟩ := hP
  have H4 := (show Hid _ from h4)
  have hb4 : n4 ≤ 12 := by omega
  clear hn4 h4 H3 hb3
  have k1 := H4.out.box.cell 2 _ rfl
  have HN := (show Hid _ from H4.out.call t 4 (by omega) (by omega) (by omega) (by omega) (by omega))
  go_wp2_with fail
  refine Calls.mono HN.out ?_
  clear HN k1
  rintro e w5v hP
  obtain ⟨a5, n5, c5, rfl, hn5, h5⟩ := hP
  have H5 := (show Hid _ from h5)
  have hb5 : n5 ≤ 16 := by omega
  clear hn5 h5 H4 hb4
  have k1 := H5.out.box.cell 0 _ rfl
  go_wp2_with fail
  refine Calls.mono (HD.out w5v) ?_
  rintro e wA ⟨rfl, bA⟩
  have HA := (show Hid _ from H5.out.below bA)
  clear bA H5 HD k1
  have k1 := HA.out.box.cell 0 _ rfl
  have hA := HA.out
  try simp only [List.append_assoc, List.nil_append] at hA
  rw [← HHH.out] at hA
  replace HA := (show Hid _ from hA)
  clear hA
  have hcap := hPm.cap
  have hlen := hPm.len
  have HPm := (show Hid _ from And.intro hPm hpm)
  have HS0 : Hid (VaS w [.int .u8 1, .int .u8 (f : Nat), .int .u32 (t : Nat), .int .u16 (st : Nat), .int .u16 (ss : Nat), .int .u32 (pp : Nat), .int .u32 (tg : Nat), .int .u32 (rm : Nat), .int .u16 (os : Nat), .int .u16 (is : Nat), .slice b1 b2 b3, .slice d1 d2 d3, .slice p1 p2 p3, .slice x1 x2 x3] wA a5 n5 c5 (hh ++ pmsV (ps.take 0))) := by
    show VaS _ _ _ _ _ _ (hh ++ [])
    rw [List.append_nil]
    exact HA.out
  clear hPm hpm HA
  go_wp2_with fail
  go_loopw [3, 6] (fun u3 u6 wr => ∃ (i : Nat) (a : Option Addr) (n c : Nat), i ≤ p2 ∧ u6 = .int .i64 (i : Nat) ∧ u3 = .slice a n c ∧ VaS w [.int .u8 1, .int .u8 (f : Nat), .int .u32 (t : Nat), .int .u16 (st : Nat), .int .u16 (ss : Nat), .int .u32 (pp : Nat), .int .u32 (tg : Nat), .int .u32 (rm : Nat), .int .u16 (os : Nat), .int .u16 (is : Nat), .slice b1 b2 b3, .slice d1 d2 d3, .slice p1 p2 p3, .slice x1 x2 x3] wr a n c (hh ++ pmsV (ps.take i))) (fun _ u6 _ => p2 - (intOf u6).toNat)
  case atStart => exact ⟨0, _, _, _, by omega, rfl, rfl, HS0.out⟩
  case round =>
    obtain ⟨i, a, n, c, hin, rfl, rfl, hS⟩ := hrel
    have HS := (show Hid _ from hS)
    clear hS HS0 k1
    have k1 := HS.out.box.cell 0 _ rfl
    go_wp2_with fail
    refine Calls.mono (HP.out wr) ?_
    rintro e w5 ⟨rfl, b5⟩
    have HT := (show Hid _ from HS.out.below b5)
    clear b5 HS k1
    have k12 := HT.out.box.cell 12 _ rfl
    by_cases hlt : i < p2
    · have hlt1 : (i : Int) < (p2 : Int) := by omega
      obtain ⟨p, hpi⟩ : ∃ p, ps[i]? = some p := ⟨_, List.getElem?_eq_getElem (by omega)⟩
      obtain ⟨b, off, hab, hbl, hrow⟩ : ∃ b off, p1 = some ⟨b, off, none⟩ ∧ b < w.heap.size ∧ ∀ i p, ps[i]? = some p → p.k < 65536 ∧ ∃ va vc, w.cell? ⟨b, off + i * 2, none⟩ = some (.int .u16 (p.k : Nat)) ∧ w.cell? ⟨b, off + i * 2 + 1, none⟩ = some (.slice va p.zs.length vc) ∧ Sl w va p.zs.length vc p.zs := by
        rcases HPm.out.1.at_ with e | e
        · omega
        · exact e
      obtain ⟨hkb, va, vc, c0, c1, hsl⟩ := hrow i p hpi
      have hzl := HPm.out.2 p (List.mem_of_getElem? hpi)
      have hvl := pmsV_le (ps.take i) (M := 2000) (fun q hq => HPm.out.2 q (List.mem_of_mem_take hq))
      have hvl2 : (pmsV (ps.take i)).length ≤ 16 * 2007 := Nat.le_trans hvl (by rw [List.length_take]; exact Nat.mul_le_mul_right _ (by omega))
      obtain ⟨yy, hyy⟩ : ∃ yy, yy = hh ++ pmsV (ps.take i) := ⟨_, rfl⟩
      have hyl : yy.length ≤ 40000 := by rw [hyy, List.length_append]; omega
      have HPD := (show Hid _ from pms_pad hh ps i HH4.out)
      have HNX := (show Hid _ from pmsV_next ps i p hpi)
      rw [← hyy] at HPD HT
      have hT := HT.out
      have hny := hT.own.len
      obtain ⟨pk, pz⟩ := p
      dsimp only at hkb c0 c1 hsl hzl HNX
      have HC := (show Hid _ from And.intro c0 (And.intro c1 hsl))
      have HN1 : Hid (yy.length = n) := hny
      obtain ⟨W5, hW5⟩ : ∃ W5, W5 = w5 := ⟨_, rfl⟩
      subst hW5
      have HT0 : Hid (VaS w [.int .u8 1, .int .u8 (f : Nat), .int .u32 (t : Nat), .int .u16 (st : Nat), .int .u16 (ss : Nat), .int .u32 (pp : Nat), .int .u32 (tg : Nat), .int .u32 (rm : Nat), .int .u16 (os : Nat), .int .u16 (is : Nat), .slice b1 b2 b3, .slice d1 d2 d3, .slice p1 p2 p3, .slice x1 x2 x3] W5 a n c (yy ++ List.replicate 0 0)) := by
        show VaS _ _ _ _ _ _ (yy ++ [])
        rw [List.append_nil]
        exact hT
      have hyl1 : n ≤ 40000 := by omega
      clear hT hny hvl hvl2 hyy HT hrow hsl c0 c1 hpi hyl
      go_wp2_with fail
      go_loopw [3] (fun u3 wr => ∃ (j : Nat) (a : Option Addr) (n' c : Nat), j ≤ padN yy.length ∧ u3 = .slice a n' c ∧ VaS w [.int .u8 1, .int .u8 (f : Nat), .int .u32 (t : Nat), .int .u16 (st : Nat), .int .u16 (ss : Nat), .int .u32 (pp : Nat), .int .u32 (tg : Nat), .int .u32 (rm : Nat), .int .u16 (os : Nat), .int .u16 (is : Nat), .slice b1 b2 b3, .slice d1 d2 d3, .slice p1 p2 p3, .slice x1 x2 x3] wr a n' c (yy ++ List.replicate j 0)) (fun u3 _ => match u3 with | .slice _ n' _ => n + 4 - n' | _ => 0)
      case atStart => exact ⟨0, _, _, _, Nat.zero_le _, rfl, HT0.out⟩
      case round =>
        obtain ⟨j, a2, n2, c2, hj, rfl, hS⟩ := hrel
        have hn2 : n2 = n + j := by
          have := hS.own.len
          rw [List.length_append, List.length_replicate, HN1.out] at this
          omega
        have hj3 := padN_lt yy.length
        have hpd : padN yy.length = (4 - n % 4) % 4 := by rw [HN1.out]; rfl
        have HS := (show Hid _ from hS)
        clear hS HT0
        by_cases hm : n2 % 4 = 0
        · have hm1 : (((n2 : Nat) : Int) % 4 != 0) = false := by simp; omega
          have ej : j = padN yy.length := by omega
          have hT := HS.out
          rw [ej, ← HPD.out] at hT
          have HT := (show Hid _ from hT)
          have hbn : n2 ≤ 40010 := by omega
          have hC := HC.out
          have k0 := (hT.bel.cell (p := ⟨b, off + i * 2, none⟩) hbl).trans hC.1
          have k12 := hT.box.cell 12 _ rfl
          have HN := (show Hid _ from HT.out.call pk 2 (by omega) (by omega) (by omega) (by omega) (by omega))
          subst hab
          clear hT hm hpd ej hj hC HS HPD hj3 hn2
          go_wp2_with fail
          refine Calls.mono HN.out ?_
          clear HN k0 k12 hm1
          rintro e w6 hP
          obtain ⟨a6, n6, c6, rfl, hn6, h6⟩ := hP
          have hb6 : n6 ≤ 40012 := by omega
          have H6 := (show Hid _ from h6)
          have k0 := (h6.bel.cell (p := ⟨b, off + i * 2 + 1, none⟩) hbl).trans HC.out.2.1
          have k12 := h6.box.cell 12 _ rfl
          have HN := (show Hid _ from h6.call (4 + pz.length) 2 (by omega) (by omega) (by omega) (by omega) (by omega))
          obtain ⟨m, hm⟩ : ∃ m, m = pz.length := ⟨_, rfl⟩
          have HM := (show Hid _ from hm)
          rw [← hm] at HN k0 hzl
          rw [show ((4 + m : Nat) : Int) = 4 + (m : Int) from by omega] at HN
          have hw4 : IntKind.u32.wrap (4 + (m : Int)) = 4 + (m : Int) := by rw [IntKind.wrap_u32]; omega
          clear hn6 h6 hm HT
          go_wp2_with fail
          refine Calls.mono HN.out ?_
          clear HN k0 k12 hw4
          rintro e w7 hP
          obtain ⟨a7, n7, c7, rfl, hn7, h7⟩ := hP
          have hb7 : n7 ≤ 40014 := by omega
          have H7 := (show Hid _ from h7)
          have k0 := (h7.bel.cell (p := ⟨b, off + i * 2 + 1, none⟩) hbl).trans HC.out.2.1
          have k12 := h7.box.cell 12 _ rfl
          have hsl := HC.out.2.2.below h7.bel
          rw [← HM.out] at k0 hsl
          have HO := (show Hid _ from h7.own)
          have hz1 : w.heap.size + 1 ≤ w7.heap.size := by have := h7.box.lt; omega
          clear hn7 h7 H6
          go_wp2_with (at_builtin; go_must (refine app_list2 rfl _ _ rfl (w.heap.size + 1) _ _ _ _ rfl HO.out _ _ _ _ rfl hsl (by omega) hz1 ?_))
          intro a8 c8 w8 ho8 hg8 hp8
          have h8 := H7.out.grow ho8 hg8
          have e8 : hh ++ (pmsB (ps.take i) ++ (bytesB pk 2 ++ (bytesB (4 + m) 2 ++ pz))) = hh ++ pmsV (ps.take (i + 1)) := by
            rw [HNX.out]
            unfold pmV
            dsimp only
            rw [← HM.out]
          try simp only [List.append_assoc] at h8
          rw [e8] at h8
          have HF := (show Hid _ from h8)
          clear h8 e8 ho8 hg8 hp8 H7 k0 k12 hsl hz1 HO
          go_wp2
          go_roundw
          case rel => exact ⟨i + 1, _, _, _, by omega, by go_num, rfl, HF.out⟩
          case measure => simp [intOf]; omega
        · have hm1 : (((n2 : Nat) : Int) % 4 != 0) = true := by simp; omega
          have hz1 : w.heap.size + 1 ≤ wr.heap.size := by have := HS.out.box.lt; omega
          have hjl : j < padN yy.length := by omega
          have HJ : Hid (j < padN yy.length ∧ n2 ≤ n + 3) := ⟨hjl, by omega⟩
          have HO := (show Hid _ from HS.out.own)
          have hb2 : n2 ≤ 40010 := by omega
          clear hjl hpd hj3 hn2 hm hj
          go_wp2_with (at_builtin; go_must (refine app_list2 rfl _ _ rfl (w.heap.size + 1) _ _ _ _ rfl (HO.out.alloc _) _ 1 1 [0] rfl (sl_one wr 5 _ 0 rfl (by decide)) (by omega) (by simp; omega) ?_))
          intro a8 c8 w8 ho8 hg8 hp8
          have h8 := (HS.out.below ((Below.refl _ _).alloc (Nat.le_refl _) _)).grow ho8 hg8
          have e8 : yy ++ (List.replicate j 0 ++ [0]) = yy ++ List.replicate (j + 1) 0 := by rw [List.replicate_succ']
          try simp only [List.append_assoc] at h8
          rw [e8] at h8
          have HF := (show Hid _ from h8)
          clear h8 e8 ho8 hg8 hp8 HS hz1 HO hb2 hm1
          go_wp2
          go_roundw
          case rel => exact ⟨j + 1, _, _, _, HJ.out.1, rfl, HF.out⟩
          case measure =>
            have := HJ.out.2
            show n + 4 - (n2 + 1) < n + 4 - n2
            omega
    · have hlt1 : ¬ (i : Int) < (p2 : Int) := by omega
      have hF := HT.out.row
      rw [show ps.take i = ps from List.take_of_length_le (by omega)] at hF
      have HF := (show Hid _ from hF)
      clear hF HT HP
      go_wp2
      go_ret
      exact HF.out
set_option linter.unusedVariables false in
set_option maxRecDepth 100000 in
set_option maxHeartbeats 4000000 in
theorem value_init2 (f t st ss pp tg rm os is : Nat) (b1 : Option Addr) (b2 b3 : Nat) (d1 : Option Addr) (d2 d3 : Nat) (p1 : Option Addr) (p2 p3 : Nat) (x1 : Option Addr) (x2 x3 : Nat) (w : World) (ht : t < 4294967296) (htg : tg < 4294967296) (hrm : rm < 4294967296) (hos : os < 65536) (his : is < 65536) {ps : List Pm} (hPm : PmR w p1 p2 p3 ps) (hp16 : p2 ≤ 16) (hpm : ∀ p ∈ ps, p.zs.length ≤ 2000) :
    Calls Try.prog 73 #[.agg #[.int .u8 2, .int .u8 (f : Nat), .int .u32 (t : Nat), .int .u16 (st : Nat), .int .u16 (ss : Nat), .int .u32 (pp : Nat), .int .u32 (tg : Nat), .int .u32 (rm : Nat), .int .u16 (os : Nat), .int .u16 (is : Nat), .slice b1 b2 b3, .slice d1 d2 d3, .slice p1 p2 p3, .slice x1 x2 x3]] w (RowV w (bytesB tg 4 ++ (bytesB rm 4 ++ (bytesB os 2 ++ (bytesB is 2 ++ (bytesB t 4 ++ pmsV ps)))))) := by
  obtain ⟨W1, hW1⟩ : ∃ W1, W1 = w.alloc (.cells #[.int .u8 2, .int .u8 (f : Nat), .int .u32 (t : Nat), .int .u16 (st : Nat), .int .u16 (ss : Nat), .int .u32 (pp : Nat), .int .u32 (tg : Nat), .int .u32 (rm : Nat), .int .u16 (os : Nat), .int .u16 (is : Nat), .slice b1 b2 b3, .slice d1 d2 d3, .slice p1 p2 p3, .slice x1 x2 x3] 47) := ⟨_, rfl⟩
  obtain ⟨W2, hW2⟩ : ∃ W2, W2 = W1.alloc (.cells #[] 5) := ⟨_, rfl⟩
  have H0 : Hid (VaS w [.int .u8 2, .int .u8 (f : Nat), .int .u32 (t : Nat), .int .u16 (st : Nat), .int .u16 (ss : Nat), .int .u32 (pp : Nat), .int .u32 (tg : Nat), .int .u32 (rm : Nat), .int .u16 (os : Nat), .int .u16 (is : Nat), .slice b1 b2 b3, .slice d1 d2 d3, .slice p1 p2 p3, .slice x1 x2 x3] W2 (some ⟨w.heap.size + 1, 0, none⟩) 0 0 []) := VaS.start w W1 W2 [.int .u8 2, .int .u8 (f : Nat), .int .u32 (t : Nat), .int .u16 (st : Nat), .int .u16 (ss : Nat), .int .u32 (pp : Nat), .int .u32 (tg : Nat), .int .u32 (rm : Nat), .int .u16 (os : Nat), .int .u16 (is : Nat), .slice b1 b2 b3, .slice d1 d2 d3, .slice p1 p2 p3, .slice x1 x2 x3] hW1 hW2
  have HW := (show Hid _ from And.intro hW1 hW2)
  clear hW1 hW2
  have HD := (show Hid _ from fun W => hasData_any 2 (by omega) W)
  have HP := (show Hid _ from fun W => hasParams_any 2 (by omega) W)
  have hd7 : hdB12 2 = false := decide_eq_false (by omega)
  have hp7 : hpB 2 = true := decide_eq_true (by omega)
  rw [hd7] at HD
  rw [hp7] at HP
  clear hd7 hp7
  obtain ⟨hh, hhh⟩ : ∃ hh : List Nat, hh = bytesB tg 4 ++ (bytesB rm 4 ++ (bytesB os 2 ++ (bytesB is 2 ++ bytesB t 4))) := ⟨_, rfl⟩
  have hh4 : hh.length % 4 = 0 := by rw [hhh]; simp [bytesB_len]
  have HH4 := (show Hid _ from hh4)
  have hh2 : hh.length ≤ 20 := by rw [hhh]; simp [bytesB_len]
  have HHH := (show Hid _ from hhh)
  rw [show bytesB tg 4 ++ (bytesB rm 4 ++ (bytesB os 2 ++ (bytesB is 2 ++ (bytesB t 4 ++ pmsV ps)))) = hh ++ pmsV ps from by rw [hhh]; simp only [List.append_assoc]]
  clear hhh hh4
  have HN := (show Hid _ from H0.out.call tg 4 (by omega) (by omega) (by omega) (by omega) (by omega))
  go_enter Try.func73, Try.ntmps73
  go_wp2_with fail
  rw [← HW.out.1, ← HW.out.2]
  clear HW
  refine Calls.mono HN.out ?_
  clear HN
  rintro e w1v hP
  obtain ⟨a1, n1, c1, rfl, hn1, h1⟩ := hP
  have H1 := (show Hid _ from h1)
  have hb1 : n1 ≤ 4 := by omega
  clear hn1 h1 H0
  have k1 := H1.out.box.cell 7 _ rfl
  have HN := (show Hid _ from H1.out.call rm 4 (by omega) (by omega) (by omega) (by omega) (by omega))
  go_wp2_with fail
  refine Calls.mono HN.out ?_
  clear HN k1
  rintro e w2v hP
  obtain ⟨a2, n2, c2, rfl, hn2, h2⟩ := hP
  have H2 := (show Hid _ from h2)
  have hb2 : n2 ≤ 8 := by omega
  clear hn2 h2 H1 hb1
  have k1 := H2.out.box.cell 8 _ rfl
  have HN := (show Hid _ from H2.out.call os 2 (by omega) (by omega) (by omega) (by omega) (by omega))
  go_wp2_with fail
  refine Calls.mono HN.out ?_
  clear HN k1
  rintro e w3v hP
  obtain ⟨a3, n3, c3, rfl, hn3, h3⟩ := hP
  have H3 := (show Hid _ from h3)
  have hb3 : n3 ≤ 10 := by omega
  clear hn3 h3 H2 hb2
  have k1 := H3.out.box.cell 9 _ rfl
  have HN := (show Hid _ from H3.out.call is 2 (by omega) (by omega) (by omega) (by omega) (by omega))
  go_wp2_with fail
  refine Calls.mono HN.out ?_
  clear HN k1
  rintro e w4v hP
  obtain ⟨a4, n4, c4, rfl, hn4, h4⟩ := hP
  have H4 := (show Hid _ from h4)
  have hb4 : n4 ≤ 12 := by omega
  clear hn4 h4 H3 hb3
  have k1 := H4.out.box.cell 2 _ rfl
  have HN := (show Hid _ from H4.out.call t 4 (by omega) (by omega) (by omega) (by omega) (by omega))
  go_wp2_with fail
  refine Calls.mono HN.out ?_
  clear HN k1
  rintro e w5v hP
  obtain ⟨a5, n5, c5, rfl, hn5, h5⟩ := hP
  have H5 := (show Hid _ from h5)
  have hb5 : n5 ≤ 16 := by omega
  clear hn5 h5 H4 hb4
  have k1 := H5.out.box.cell 0 _ rfl
  go_wp2_with fail
  refine Calls.mono (HD.out w5v) ?_
  rintro e wA ⟨rfl, bA⟩
  have HA := (show Hid _ from H5.out.below bA)
  clear bA H5 HD k1
  have k1 := HA.out.box.cell 0 _ rfl
  have hA := HA.out
  try simp only [List.append_assoc, List.nil_append] at hA
  rw [← HHH.out] at hA
  replace HA := (show Hid _ from hA)
  clear hA
  have hcap := hPm.cap
  have hlen := hPm.len
  have HPm := (show Hid _ from And.intro hPm hpm)
  have HS0 : Hid (VaS w [.int .u8 2, .int .u8 (f : Nat), .int .u32 (t : Nat), .int .u16 (st : Nat), .int .u16 (ss : Nat), .int .u32 (pp : Nat), .int .u32 (tg : Nat), .int .u32 (rm : Nat), .int .u16 (os : Nat), .int .u16 (is : Nat), .slice b1 b2 b3, .slice d1 d2 d3, .slice p1 p2 p3, .slice x1 x2 x3] wA a5 n5 c5 (hh ++ pmsV (ps.take 0))) := by
    show VaS _ _ _ _ _ _ (hh ++ [])
    rw [List.append_nil]
    exact HA.out
  clear hPm hpm HA
  go_wp2_with fail
  go_loopw [3, 6] (fun u3 u6 wr => ∃ (i : Nat) (a : Option Addr) (n c : Nat), i ≤ p2 ∧ u6 = .int .i64 (i : Nat) ∧ u3 = .slice a n c ∧ VaS w [.int .u8 2, .int .u8 (f : Nat), .int .u32 (t : Nat), .int .u16 (st : Nat), .int .u16 (ss : Nat), .int .u32 (pp : Nat), .int .u32 (tg : Nat), .int .u32 (rm : Nat), .int .u16 (os : Nat), .int .u16 (is : Nat), .slice b1 b2 b3, .slice d1 d2 d3, .slice p1 p2 p3, .slice x1 x2 x3] wr a n c (hh ++ pmsV (ps.take i))) (fun _ u6 _ => p2 - (intOf u6).toNat)
  case atStart => exact ⟨0, _, _, _, by omega, rfl, rfl, HS0.out⟩
  case round =>
    obtain ⟨i, a, n, c, hin, rfl, rfl, hS⟩ := hrel
    have HS := (show Hid _ from hS)
    clear hS HS0 k1
    have k1 := HS.out.box.cell 0 _ rfl
    go_wp2_with fail
    refine Calls.mono (HP.out wr) ?_
    rintro e w5 ⟨rfl, b5⟩
    have HT := (show Hid _ from HS.out.below b5)
    clear b5 HS k1
    have k12 := HT.out.box.cell 12 _ rfl
    by_cases hlt : i < p2
    · have hlt1 : (i : Int) < (p2 : Int) := by omega
      obtain ⟨p, hpi⟩ : ∃ p, ps[i]? = some p := ⟨_, List.getElem?_eq_getElem (by omega)⟩
      obtain ⟨b, off, hab, hbl, hrow⟩ : ∃ b off, p1 = some ⟨b, off, none⟩ ∧ b < w.heap.size ∧ ∀ i p, ps[i]? = some p → p.k < 65536 ∧ ∃ va vc, w.cell? ⟨b, off + i * 2, none⟩ = some (.int .u16 (p.k : Nat)) ∧ w.cell? ⟨b, off + i * 2 + 1, none⟩ = some (.slice va p.zs.length vc) ∧ Sl w va p.zs.length vc p.zs := by
        rcases HPm.out.1.at_ with e | e
        · omega
        · exact e
      obtain ⟨hkb, va, vc, c0, c1, hsl⟩ := hrow i p hpi
      have hzl := HPm.out.2 p (List.mem_of_getElem? hpi)
      have hvl := pmsV_le (ps.take i) (M := 2000) (fun q hq => HPm.out.2 q (List.mem_of_mem_take hq))
      have hvl2 : (pmsV (ps.take i)).length ≤ 16 * 2007 := Nat.le_trans hvl (by rw [List.length_take]; exact Nat.mul_le_mul_right _ (by omega))
      obtain ⟨yy, hyy⟩ : ∃ yy, yy = hh ++ pmsV (ps.take i) := ⟨_, rfl⟩
      have hyl : yy.length ≤ 40000 := by rw [hyy, List.length_append]; omega
      have HPD := (show Hid _ from pms_pad hh ps i HH4.out)
      have HNX := (show Hid _ from pmsV_next ps i p hpi)
      rw [← hyy] at HPD HT
      have hT := HT.out
      have hny := hT.own.len
      obtain ⟨pk, pz⟩ := p
      dsimp only at hkb c0 c1 hsl hzl HNX
      have HC := (show Hid _ from And.intro c0 (And.intro c1 hsl))
      have HN1 : Hid (yy.length = n) := hny
      obtain ⟨W5, hW5⟩ : ∃ W5, W5 = w5 := ⟨_, rfl⟩
      subst hW5
      have HT0 : Hid (VaS w [.int .u8 2, .int .u8 (f : Nat), .int .u32 (t : Nat), .int .u16 (st : Nat), .int .u16 (ss : Nat), .int .u32 (pp : Nat), .int .u32 (tg : Nat), .int .u32 (rm : Nat), .int .u16 (os : Nat), .int .u16 (is : Nat), .slice b1 b2 b3, .slice d1 d2 d3, .slice p1 p2 p3, .slice x1 x2 x3] W5 a n c (yy ++ List.replicate 0 0)) := by
        show VaS _ _ _ _ _ _ (yy ++ [])
        rw [List.append_nil]
        exact hT
      have hyl1 : n ≤ 40000 := by omega
      clear hT hny hvl hvl2 hyy HT hrow hsl c0 c1 hpi hyl
      go_wp2_with fail
      go_loopw [3] (fun u3 wr => ∃ (j : Nat) (a : Option Addr) (n' c : Nat), j ≤ padN yy.length ∧ u3 = .slice a n' c ∧ VaS w [.int .u8 2, .int .u8 (f : Nat), .int .u32 (t : Nat), .int .u16 (st : Nat), .int .u16 (ss : Nat), .int .u32 (pp : Nat), .int .u32 (tg : Nat), .int .u32 (rm : Nat), .int .u16 (os : Nat), .int .u16 (is : Nat), .slice b1 b2 b3, .slice d1 d2 d3, .slice p1 p2 p3, .slice x1 x2 x3] wr a n' c (yy ++ List.replicate j 0)) (fun u3 _ => match u3 with | .slice _ n' _ => n + 4 - n' | _ => 0)
      case atStart => exact ⟨0, _, _, _, Nat.zero_le _, rfl, HT0.out⟩
      case round =>
        obtain ⟨j, a2, n2, c2, hj, rfl, hS⟩ := hrel
        have hn2 : n2 = n + j := by
          have := hS.own.len
          rw [List.length_append, List.length_replicate, HN1.out] at this
          omega
        have hj3 := padN_lt yy.length
        have hpd : padN yy.length = (4 - n % 4) % 4 := by rw [HN1.out]; rfl
        have HS := (show Hid _ from hS)
        clear hS HT0
        by_cases hm : n2 % 4 = 0
        · have hm1 : (((n2 : Nat) : Int) % 4 != 0) = false := by simp; omega
          have ej : j = padN yy.length := by omega
          have hT := HS.out
          rw [ej, ← HPD.out] at hT
          have HT := (show Hid _ from hT)
          have hbn : n2 ≤ 40010 := by omega
          have hC := HC.out
          have k0 := (hT.bel.cell (p := ⟨b, off + i * 2, none⟩) hbl).trans hC.1
          have k12 := hT.box.cell 12 _ rfl
          have HN := (show Hid _ from HT.out.call pk 2 (by omega) (by omega) (by omega) (by omega) (by omega))
          subst hab
          clear hT hm hpd ej hj hC HS HPD hj3 hn2
          go_wp2_with fail
          refine Calls.mono HN.out ?_
          clear HN k0 k12 hm1
          rintro e w6 hP
          obtain ⟨a6, n6, c6, rfl, hn6, h6⟩ := hP
          have hb6 : n6 ≤ 40012 := by omega
          have H6 := (show Hid _ from h6)
          have k0 := (h6.bel.cell (p := ⟨b, off + i * 2 + 1, none⟩) hbl).trans HC.out.2.1
          have k12 := h6.box.cell 12 _ rfl
          have HN := (show Hid _ from h6.call (4 + pz.length) 2 (by omega) (by omega) (by omega) (by omega) (by omega))
          obtain ⟨m, hm⟩ : ∃ m, m = pz.length := ⟨_, rfl⟩
          have HM := (show Hid _ from hm)
          rw [← hm] at HN k0 hzl
          rw [show ((4 + m : Nat) : Int) = 4 + (m : Int) from by omega] at HN
          have hw4 : IntKind.u32.wrap (4 + (m : Int)) = 4 + (m : Int) := by rw [IntKind.wrap_u32]; omega
          clear hn6 h6 hm HT
          go_wp2_with fail
          refine Calls.mono HN.out ?_
          clear HN k0 k12 hw4
          rintro e w7 hP
          obtain ⟨a7, n7, c7, rfl, hn7, h7⟩ := hP
          have hb7 : n7 ≤ 40014 := by omega
          have H7 := (show Hid _ from h7)
          have k0 := (h7.bel.cell (p := ⟨b, off + i * 2 + 1, none⟩) hbl).trans HC.out.2.1
          have k12 := h7.box.cell 12 _ rfl
          have hsl := HC.out.2.2.below h7.bel
          rw [← HM.out] at k0 hsl
          have HO := (show Hid _ from h7.own)
          have hz1 : w.heap.size + 1 ≤ w7.heap.size := by have := h7.box.lt; omega
          clear hn7 h7 H6
          go_wp2_with (at_builtin; go_must (refine app_list2 rfl _ _ rfl (w.heap.size + 1) _ _ _ _ rfl HO.out _ _ _ _ rfl hsl (by omega) hz1 ?_))
          intro a8 c8 w8 ho8 hg8 hp8
          have h8 := H7.out.grow ho8 hg8
          have e8 : hh ++ (pmsB (ps.take i) ++ (bytesB pk 2 ++ (bytesB (4 + m) 2 ++ pz))) = hh ++ pmsV (ps.take (i + 1)) := by
            rw [HNX.out]
            unfold pmV
            dsimp only
            rw [← HM.out]
          try simp only [List.append_assoc] at h8
          rw [e8] at h8
          have HF := (show Hid _ from h8)
          clear h8 e8 ho8 hg8 hp8 H7 k0 k12 hsl hz1 HO
          go_wp2
          go_roundw
          case rel => exact ⟨i + 1, _, _, _, by omega, by go_num, rfl, HF.out⟩
          case measure => simp [intOf]; omega
        · have hm1 : (((n2 : Nat) : Int) % 4 != 0) = true := by simp; omega
          have hz1 : w.heap.size + 1 ≤ wr.heap.size := by have := HS.out.box.lt; omega
          have hjl : j < padN yy.length := by omega
          have HJ : Hid (j < padN yy.length ∧ n2 ≤ n + 3) := ⟨hjl, by omega⟩
          have HO := (show Hid _ from HS.out.own)
          have hb2 : n2 ≤ 40010 := by omega
          clear hjl hpd hj3 hn2 hm hj
          go_wp2_with (at_builtin; go_must (refine app_list2 rfl _ _ rfl (w.heap.size + 1) _ _ _ _ rfl (HO.out.alloc _) _ 1 1 [0] rfl (sl_one wr 5 _ 0 rfl (by decide)) (by omega) (by simp; omega) ?_))
          intro a8 c8 w8 ho8 hg8 hp8
          have h8 := (HS.out.below ((Below.refl _ _).alloc (Nat.le_refl _) _)).grow ho8 hg8
          have e8 : yy ++ (List.replicate j 0 ++ [0]) = yy ++ List.replicate (j + 1) 0 := by rw [List.replicate_succ']
          try simp only [List.append_assoc] at h8
          rw [e8] at h8
          have HF := (show Hid _ from h8)
          clear h8 e8 ho8 hg8 hp8 HS hz1 HO hb2 hm1
          go_wp2
          go_roundw
          case rel => exact ⟨j + 1, _, _, _, HJ.out.1, rfl, HF.out⟩
          case measure =>
            have := HJ.out.2
            show n + 4 - (n2 + 1) < n + 4 - n2
            omega
    · have hlt1 : ¬ (i : Int) < (p2 : Int) := by omega
      have hF := HT.out.row
      rw [show ps.take i = ps from List.take_of_length_le (by omega)] at hF
      have HF := (show Hid _ from hF)
      clear hF HT HP
      go_wp2
      go_ret
      exact HF.out
end Go.Proofs.Ytjaheelgcjafcaa
namespace Go.Proofs.Ytjaheelgcjafcaa
open Go.RowKit
set_option linter.unusedVariables false in
set_option maxRecDepth 100000 in
set_option maxHeartbeats 4000000 in
theorem value_sack (f t st ss pp tg rm os is : Nat) (b1 : Option Addr) (b2 b3 : Nat) (d1 : Option Addr) (d2 d3 : Nat) (p1 : Option Addr) (p2 p3 : Nat) (x1 : Option Addr) (x2 x3 : Nat) (w : World) (ht : t < 4294967296) (hrm : rm < 4294967296) {bs : List (Nat × Nat)} {ds : List Nat} (hB : BkR w b1 b2 b3 bs) (hD : SlK .u32 4294967296 w d1 d2 d3 ds) (hb16 : b2 ≤ 16) (hd16 : d2 ≤ 16) :
    Calls Try.prog 73 #[.agg #[.int .u8 3, .int .u8 (f : Nat), .int .u32 (t : Nat), .int .u16 (st : Nat), .int .u16 (ss : Nat), .int .u32 (pp : Nat), .int .u32 (tg : Nat), .int .u32 (rm : Nat), .int .u16 (os : Nat), .int .u16 (is : Nat), .slice b1 b2 b3, .slice d1 d2 d3, .slice p1 p2 p3, .slice x1 x2 x3]] w (RowV w (bytesB t 4 ++ (bytesB rm 4 ++ (bytesB b2 2 ++ (bytesB d2 2 ++ (bksB bs ++ dusB ds)))))) := by
  obtain ⟨W1, hW1⟩ : ∃ W1, W1 = w.alloc (.cells #[.int .u8 3, .int .u8 (f : Nat), .int .u32 (t : Nat), .int .u16 (st : Nat), .int .u16 (ss : Nat), .int .u32 (pp : Nat), .int .u32 (tg : Nat), .int .u32 (rm : Nat), .int .u16 (os : Nat), .int .u16 (is : Nat), .slice b1 b2 b3, .slice d1 d2 d3, .slice p1 p2 p3, .slice x1 x2 x3] 47) := ⟨_, rfl⟩
  obtain ⟨W2, hW2⟩ : ∃ W2, W2 = W1.alloc (.cells #[] 5) := ⟨_, rfl⟩
  have H0 : Hid (VaS w [.int .u8 3, .int .u8 (f : Nat), .int .u32 (t : Nat), .int .u16 (st : Nat), .int .u16 (ss : Nat), .int .u32 (pp : Nat), .int .u32 (tg : Nat), .int .u32 (rm : Nat), .int .u16 (os : Nat), .int .u16 (is : Nat), .slice b1 b2 b3, .slice d1 d2 d3, .slice p1 p2 p3, .slice x1 x2 x3] W2 (some ⟨w.heap.size + 1, 0, none⟩) 0 0 []) := VaS.start w W1 W2 [.int .u8 3, .int .u8 (f : Nat), .int .u32 (t : Nat), .int .u16 (st : Nat), .int .u16 (ss : Nat), .int .u32 (pp : Nat), .int .u32 (tg : Nat), .int .u32 (rm : Nat), .int .u16 (os : Nat), .int .u16 (is : Nat), .slice b1 b2 b3, .slice d1 d2 d3, .slice p1 p2 p3, .slice x1 x2 x3] hW1 hW2
  have HW := (show Hid _ from And.intro hW1 hW2)
  clear hW1 hW2
  have HD := (show Hid _ from fun W => hasData_any 3 (by omega) W)
  have HP := (show Hid _ from fun W => hasParams_any 3 (by omega) W)
  have hd7 : hdB12 3 = false := decide_eq_false (by omega)
  have hp7 : hpB 3 = false := decide_eq_false (by omega)
  rw [hd7] at HD
  rw [hp7] at HP
  clear hd7 hp7
  have hbc := hB.cap
  have hdc := hD.cap
  have hbl := hB.len
  have hdl := hD.len
  have HBD := (show Hid _ from And.intro hB hD)
  clear hB hD
  obtain ⟨hh, hhh⟩ : ∃ hh : List Nat, hh = bytesB t 4 ++ (bytesB rm 4 ++ (bytesB b2 2 ++ bytesB d2 2)) := ⟨_, rfl⟩
  have hh2 : hh.length ≤ 20 := by rw [hhh]; simp [bytesB_len]
  have HHH := (show Hid _ from hhh)
  obtain ⟨h2, hh2e⟩ : ∃ h2 : List Nat, h2 = hh ++ bksB bs := ⟨_, rfl⟩
  have h2l : h2.length ≤ 100 := by rw [hh2e, List.length_append, bksB_len]; omega
  have HH2 := (show Hid _ from hh2e)
  rw [show bytesB t 4 ++ (bytesB rm 4 ++ (bytesB b2 2 ++ (bytesB d2 2 ++ (bksB bs ++ dusB ds)))) = h2 ++ dusB ds from by rw [hh2e, hhh]; simp only [List.append_assoc]]
  clear hhh hh2e
  have HN := (show Hid _ from H0.out.call t 4 (by omega) (by omega) (by omega) (by omega) (by omega))
  go_enter Try.func73, Try.ntmps73
  go_wp2_with fail
  rw [← HW.out.1, ← HW.out.2]
  clear HW
  refine Calls.mono HN.out ?_
  clear HN
  rintro e w1v hP
  obtain ⟨a1, n1, c1, rfl, hn1, h1⟩ := hP
  have H1 := (show Hid _ from h1)
  have hb1 : n1 ≤ 4 := by omega
  clear hn1 h1 H0
  have k1 := H1.out.box.cell 7 _ rfl
  have HN := (show Hid _ from H1.out.call rm 4 (by omega) (by omega) (by omega) (by omega) (by omega))
  go_wp2_with fail
  refine Calls.mono HN.out ?_
  clear HN k1
  rintro e w2v hP
  obtain ⟨a2, n2, c2, rfl, hn2, h2⟩ := hP
  have H2 := (show Hid _ from h2)
  have hb2 : n2 ≤ 8 := by omega
  clear hn2 h2 H1 hb1
  have k1 := H2.out.box.cell 10 _ rfl
  have HN := (show Hid _ from H2.out.call b2 2 (by omega) (by omega) (by omega) (by omega) (by omega))
  have hw1 : IntKind.u32.wrap (b2 : Int) = b2 := by rw [IntKind.wrap_u32]; omega
  go_wp2_with fail
  refine Calls.mono HN.out ?_
  clear HN k1
  rintro e w3v hP
  obtain ⟨a3, n3, c3, rfl, hn3, h3⟩ := hP
  have H3 := (show Hid _ from h3)
  have hb3 : n3 ≤ 10 := by omega
  clear hw1 hn3 h3 H2 hb2
  have k1 := H3.out.box.cell 11 _ rfl
  have HN := (show Hid _ from H3.out.call d2 2 (by omega) (by omega) (by omega) (by omega) (by omega))
  have hw1 : IntKind.u32.wrap (d2 : Int) = d2 := by rw [IntKind.wrap_u32]; omega
  go_wp2_with fail
  refine Calls.mono HN.out ?_
  clear HN k1
  rintro e w4v hP
  obtain ⟨a4, n4, c4, rfl, hn4, h4⟩ := hP
  have H4 := (show Hid _ from h4)
  have hb4 : n4 ≤ 12 := by omega
  clear hw1 hn4 h4 H3 hb3
  have hA := H4.out
  try simp only [List.append_assoc, List.nil_append] at hA
  rw [← HHH.out] at hA
  replace H4 := (show Hid _ from hA)
  clear hA
  have HS0 : Hid (VaS w [.int .u8 3, .int .u8 (f : Nat), .int .u32 (t : Nat), .int .u16 (st : Nat), .int .u16 (ss : Nat), .int .u32 (pp : Nat), .int .u32 (tg : Nat), .int .u32 (rm : Nat), .int .u16 (os : Nat), .int .u16 (is : Nat), .slice b1 b2 b3, .slice d1 d2 d3, .slice p1 p2 p3, .slice x1 x2 x3] w4v a4 n4 c4 (hh ++ bksB (bs.take 0))) := by
    show VaS _ _ _ _ _ _ (hh ++ [])
    rw [List.append_nil]
    exact H4.out
  clear H4
  go_wp2_with fail
  go_loopw [3, 4] (fun u3 u4 wr => ∃ (i : Nat) (a : Option Addr) (n c : Nat), i ≤ b2 ∧ u4 = .int .i64 (i : Nat) ∧ u3 = .slice a n c ∧ VaS w [.int .u8 3, .int .u8 (f : Nat), .int .u32 (t : Nat), .int .u16 (st : Nat), .int .u16 (ss : Nat), .int .u32 (pp : Nat), .int .u32 (tg : Nat), .int .u32 (rm : Nat), .int .u16 (os : Nat), .int .u16 (is : Nat), .slice b1 b2 b3, .slice d1 d2 d3, .slice p1 p2 p3, .slice x1 x2 x3] wr a n c (hh ++ bksB (bs.take i))) (fun _ u4 _ => b2 - (intOf u4).toNat)
  case atStart => exact ⟨0, _, _, _, by omega, rfl, rfl, HS0.out⟩
  case round =>
    obtain ⟨i, a, n, c, hin, rfl, rfl, hS⟩ := hrel
    have hny := hS.own.len
    rw [List.length_append, bksB_len, List.length_take] at hny
    have hnb : n ≤ 100 := by omega
    have HS := (show Hid _ from hS)
    clear hS HS0 hny
    have k10 := HS.out.box.cell 10 _ rfl
    by_cases hlt : i < b2
    · have hlt1 : (i : Int) < (b2 : Int) := by omega
      obtain ⟨p, hpi⟩ : ∃ p, bs[i]? = some p := ⟨_, List.getElem?_eq_getElem (by omega)⟩
      obtain ⟨b, off, hab, hbl2, hrow⟩ : ∃ b off, b1 = some ⟨b, off, none⟩ ∧ b < w.heap.size ∧ ∀ i p, bs[i]? = some p → p.1 < 65536 ∧ p.2 < 65536 ∧ w.cell? ⟨b, off + i * 2, none⟩ = some (.int .u16 (p.1 : Nat)) ∧ w.cell? ⟨b, off + i * 2 + 1, none⟩ = some (.int .u16 (p.2 : Nat)) := by
        rcases HBD.out.1.at_ with e | e
        · omega
        · exact e
      subst hab
      obtain ⟨hp1, hp2, c0, c1⟩ := hrow i p hpi
      have HSN := (show Hid _ from bks_snoc bs i p hpi)
      obtain ⟨f1, f2⟩ := p
      dsimp only at hp1 hp2 c0 c1 HSN
      have HC := (show Hid _ from And.intro c0 c1)
      have k0 := (HS.out.bel.cell (p := ⟨b, off + i * 2, none⟩) hbl2).trans c0
      have HN := (show Hid _ from HS.out.call f1 2 (by omega) (by omega) (by omega) (by omega) (by omega))
      clear hrow hpi c0 c1
      go_wp2_with fail
      refine Calls.mono HN.out ?_
      clear HN k0 k10
      rintro e w6 hP
      obtain ⟨a6, n6, c6, rfl, hn6, h6⟩ := hP
      have hb6 : n6 ≤ 102 := by omega
      have H6 := (show Hid _ from h6)
      have k0 := (h6.bel.cell (p := ⟨b, off + i * 2 + 1, none⟩) hbl2).trans HC.out.2
      have k10 := h6.box.cell 10 _ rfl
      have HN := (show Hid _ from h6.call f2 2 (by omega) (by omega) (by omega) (by omega) (by omega))
      clear hn6 h6 HS
      go_wp2_with fail
      refine Calls.mono HN.out ?_
      clear HN k0 k10
      rintro e w7 hP
      obtain ⟨a7, n7, c7, rfl, hn7, h7⟩ := hP
      have e7 : hh ++ (bksB (bs.take i) ++ (bytesB f1 2 ++ bytesB f2 2)) = hh ++ bksB (bs.take (i + 1)) := by
        rw [HSN.out]
      try simp only [List.append_assoc] at h7
      rw [e7] at h7
      have HF := (show Hid _ from h7)
      clear h7 e7 hn7 H6
      go_wp2
      go_roundw
      case rel => exact ⟨i + 1, _, _, _, by omega, by go_num, rfl, HF.out⟩
      case measure => simp [intOf]; omega
    · have hlt1 : ¬ (i : Int) < (b2 : Int) := by omega
      obtain ⟨w8, hw8⟩ : ∃ w8, w8 = wr := ⟨_, rfl⟩
      subst hw8
      have hT := HS.out
      rw [show bs.take i = bs from List.take_of_length_le (by omega)] at hT
      rw [← HH2.out] at hT
      have HS0 : Hid (VaS w [.int .u8 3, .int .u8 (f : Nat), .int .u32 (t : Nat), .int .u16 (st : Nat), .int .u16 (ss : Nat), .int .u32 (pp : Nat), .int .u32 (tg : Nat), .int .u32 (rm : Nat), .int .u16 (os : Nat), .int .u16 (is : Nat), .slice b1 b2 b3, .slice d1 d2 d3, .slice p1 p2 p3, .slice x1 x2 x3] w8 a n c (h2 ++ dusB (ds.take 0))) := by
        show VaS _ _ _ _ _ _ (h2 ++ [])
        rw [List.append_nil]
        exact hT
      clear hT HS
      go_wp2_with fail
      clear k10
      go_loopw [3, 5] (fun u3 u5 wr => ∃ (i : Nat) (a : Option Addr) (n c : Nat), i ≤ d2 ∧ u5 = .int .i64 (i : Nat) ∧ u3 = .slice a n c ∧ VaS w [.int .u8 3, .int .u8 (f : Nat), .int .u32 (t : Nat), .int .u16 (st : Nat), .int .u16 (ss : Nat), .int .u32 (pp : Nat), .int .u32 (tg : Nat), .int .u32 (rm : Nat), .int .u16 (os : Nat), .int .u16 (is : Nat), .slice b1 b2 b3, .slice d1 d2 d3, .slice p1 p2 p3, .slice x1 x2 x3] wr a n c (h2 ++ dusB (ds.take i))) (fun _ u5 _ => d2 - (intOf u5).toNat)
      case atStart => exact ⟨0, _, _, _, by omega, rfl, rfl, HS0.out⟩
      case round =>
        obtain ⟨i, a, n, c, hin, rfl, rfl, hS⟩ := hrel
        have hny := hS.own.len
        rw [List.length_append, dusB_len, List.length_take] at hny
        have hnb : n ≤ 200 := by omega
        have HS := (show Hid _ from hS)
        clear hS HS0 hny
        have k11 := HS.out.box.cell 11 _ rfl
        by_cases hlt : i < d2
        · have hlt2 : (i : Int) < (d2 : Int) := by omega
          obtain ⟨d, hdi⟩ : ∃ d, ds[i]? = some d := ⟨_, List.getElem?_eq_getElem (by omega)⟩
          have hgd : ds.getD i 0 = d := by rw [List.getD_eq_getElem?_getD, hdi]; rfl
          have hdb : d < 4294967296 := by have := HBD.out.2.bnd i; rw [hgd] at this; exact this
          obtain ⟨b, off, hab, hbl2, hrow⟩ : ∃ b off, d1 = some ⟨b, off, none⟩ ∧ b < w.heap.size ∧ w.cell? ⟨b, off + i, none⟩ = some (.int .u32 (d : Nat)) := by
            rcases HBD.out.2.at_ with e | ⟨b, off, e1, e2, e3⟩
            · omega
            · exact ⟨b, off, e1, e2, by rw [e3 i hlt, hgd]⟩
          subst hab
          have HSN := (show Hid _ from dus_snoc ds i d hdi)
          have k0 := (HS.out.bel.cell (p := ⟨b, off + i, none⟩) hbl2).trans hrow
          have HN := (show Hid _ from HS.out.call d 4 (by omega) (by omega) (by omega) (by omega) (by omega))
          clear hrow hdi hgd
          go_wp2_with fail
          refine Calls.mono HN.out ?_
          clear HN k0 k11
          rintro e w6 hP
          obtain ⟨a6, n6, c6, rfl, hn6, h6⟩ := hP
          have e7 : h2 ++ (dusB (ds.take i) ++ bytesB d 4) = h2 ++ dusB (ds.take (i + 1)) := by
            rw [HSN.out]
          try simp only [List.append_assoc] at h6
          rw [e7] at h6
          have HF := (show Hid _ from h6)
          clear h6 e7 hn6 HS
          go_wp2
          go_roundw
          case rel => exact ⟨i + 1, _, _, _, by omega, by go_num, rfl, HF.out⟩
          case measure => simp [intOf]; omega
        · have hlt2 : ¬ (i : Int) < (d2 : Int) := by omega
          obtain ⟨w9, hw9⟩ : ∃ w9, w9 = wr := ⟨_, rfl⟩
          subst hw9
          have hT := HS.out
          rw [show ds.take i = ds from List.take_of_length_le (by omega)] at hT
          have H4 := (show Hid _ from hT)
          clear hT HS
          have k1 := H4.out.box.cell 0 _ rfl
          go_wp2_with fail
          refine Calls.mono (HD.out w9) ?_
          rintro e wA ⟨rfl, bA⟩
          have HA := (show Hid _ from H4.out.below bA)
          clear bA H4 HD k1
          have k1 := HA.out.box.cell 0 _ rfl
          go_wp2_with fail
          go_loopw [3, 6] (fun u3 u6 wr => u3 = .slice a n c ∧ u6 = .int .i64 0 ∧ wr = wA) (fun _ _ _ => 0)
          case atStart => exact ⟨rfl, rfl, rfl⟩
          case round =>
            obtain ⟨rfl, rfl, rfl⟩ := hrel
            go_wp2_with fail
            refine Calls.mono (HP.out wr) ?_
            rintro e w5 ⟨rfl, b5⟩
            have hf := (HA.out.below b5).row
            try simp only [List.append_assoc, List.nil_append] at hf
            have HF := (show Hid _ from hf)
            clear hf
            clear b5 HA HP k1
            go_wp2
            go_ret
            exact HF.out
end Go.Proofs.Ytjaheelgcjafcaa
