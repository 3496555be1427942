/- ref12.Value of Data, and of kinds that have Data alone. -/
import Derived.Test.YtjaheelgcjafcaaKM
import Derived.Deep.DeepMust
import Derived.Deep.OwnRows
import Derived.Test.YtjaheelgcjafcaaKB
import Derived.Test.YtjaheelgcjafcaaKG
import Derived.Test.YtjaheelgcjafcaaKK
namespace Go.Proofs.Ytjaheelgcjafcaa
open Go.RowKit
set_option maxHeartbeats 2000000 in
theorem refbytes_any (v : Nat) (k : Int) (w : World) (hv : v < 18446744073709551616) :
    Calls Try.prog 82 #[.int .u64 (v : Nat), .int .i64 k] w fun e w' => ∃ a c, e = .returned (.tuple #[.slice a (bytesV v k).length c, .int .i64 (bytesE v k : Nat)]) ∧ OwnB w' w.heap.size a (bytesV v k).length c (bytesV v k) ∧ Below w.heap.size w w' := by
  by_cases hk : k < 1 ∨ 8 < k
  · have HE : Hid (bytesE v k = 2) := by show _ = _; unfold bytesE; rw [if_pos hk]
    have HV : Hid (bytesV v k = []) := by show _ = _; unfold bytesV; rw [HE.out]; rfl
    by_cases hk1 : k < 1
    · go_enter Try.func82, Try.ntmps82
      go_wp2
      go_ret2
      rw [HE.out, HV.out]
      exact ⟨none, 0, rfl, OwnB.nil _ _, Below.refl _ _⟩
    · have hk8 : 8 < k := by omega
      go_enter Try.func82, Try.ntmps82
      go_wp2
      go_ret2
      rw [HE.out, HV.out]
      exact ⟨none, 0, rfl, OwnB.nil _ _, Below.refl _ _⟩
  · have hk1 : 1 ≤ k := by omega
    have hk8 : k ≤ 8 := by omega
    have HE : Hid (bytesE v k = if v / 256 ^ k.toNat = 0 then 0 else 6) := by show _ = _; unfold bytesE; rw [if_neg hk]
    have HV : Hid (bytesV v k = if bytesE v k = 0 then bytesB v k.toNat else []) := rfl
    obtain ⟨k, rfl⟩ := Int.eq_ofNat_of_zero_le (show 0 ≤ k by omega)
    rw [Int.toNat_natCast] at HE HV
    have hmk := mkn k (by omega)
    have hfull := own_full w k (by omega)
    clear hk
    go_enter Try.func82, Try.ntmps82
    go_wp2
    go_loopw [0, 7] (fun vv i wr => ∃ m : Nat, m ≤ k ∧ ((m = 0 ∧ i = .int .i64 (-1)) ∨ ∃ q : Nat, m = q + 1 ∧ i = .int .i64 q) ∧ vv = .int .u64 (v / 256 ^ (k - m) : Nat) ∧ OwnB wr w.heap.size (some ⟨w.heap.size, 0, none⟩) k k (List.replicate m 0 ++ bytesB v (k - m)) ∧ Below w.heap.size w wr) (fun _ i _ => (intOf i + 1).toNat)
    case atStart =>
      refine ⟨k, Nat.le_refl _, .inr ⟨k - 1, by omega, by go_num⟩, by simp, by simpa [bytesB] using hfull, (Below.refl _ _).alloc (Nat.le_refl _) _⟩
    case round =>
      obtain ⟨m, hm, hcase, rfl, hown, hbel⟩ := hrel
      have hd : v / 256 ^ (k - m) < 18446744073709551616 := Nat.lt_of_le_of_lt (Nat.div_le_self _ _) hv
      rcases hcase with ⟨rfl, rfl⟩ | ⟨q, rfl, rfl⟩
      · have HB : Hid (List.replicate 0 0 ++ bytesB v (k - 0) = bytesB v k) := by show _ = _; simp
        rw [HB.out] at hown
        rw [Nat.sub_zero] at *
        have hbl := bytesB_len v k
        by_cases hz : v / 256 ^ k = 0
        · rw [if_pos hz] at HE
          rw [HE.out, if_pos rfl] at HV
          rw [hz]
          go_wp2
          go_ret2
          rw [HV.out, HE.out]
          exact ⟨some ⟨w.heap.size, 0, none⟩, k, by rw [hbl]; rfl, by rw [hbl]; exact hown, hbel⟩
        · rw [if_neg hz] at HE
          rw [HE.out, if_neg (by omega)] at HV
          generalize v / 256 ^ k = u at *
          have hz' : (0 : Int) < (u : Int) := by omega
          go_wp2
          go_ret2
          rw [HV.out, HE.out]
          exact ⟨none, 0, rfl, OwnB.nil _ _, hbel⟩
      · have hc := hown.cell q (by omega)
        have hf := hown.free q
        have HS : Hid ((List.replicate (q + 1) 0 ++ bytesB v (k - (q + 1))).set q (v / 256 ^ (k - (q + 1)) % 256) = List.replicate q 0 ++ bytesB v (k - q)) := by
          show _ = _
          rw [rep_set, show k - q = k - (q + 1) + 1 from by omega]
          rfl
        have HD := (show Hid _ from div_step v q k (by omega))
        generalize (List.replicate (q + 1) 0 ++ bytesB v (k - (q + 1))) = ys at *
        generalize v / 256 ^ (k - (q + 1)) = u at *
        have hqk : (q : Int) < (k : Int) := by omega
        go_wp2
        go_roundw
        case rel =>
          refine ⟨q, by omega, ?_, ?_, ?_, hbel.setCell (Nat.le_refl _) _⟩
          · by_cases hq0 : q = 0
            · subst hq0; exact .inl ⟨rfl, by go_num⟩
            · exact .inr ⟨q - 1, by omega, by go_num⟩
          · rw [← HD.out]; go_num
          · rw [← HS.out, show ((u : Int) % 256) = ((u % 256 : Nat) : Int) from by omega]
            exact hown.store q (u % 256) (by omega)
        case measure => simp [intOf]
end Go.Proofs.Ytjaheelgcjafcaa
namespace Go.Proofs.Ytjaheelgcjafcaa
open Go.RowKit
/-- A row that was laid on: where it lies, and what stays. -/
structure LayF (B : Nat) (v : Value) (L : List Nat) (w : World) (e : Ending) (w' : World) : Prop where
  row : ∃ a c, e = .returned (.slice a L.length c) ∧ OwnB w' B a L.length c L ∧ (∀ g, (Value.slice a L.length c).ownBlock = some g → v.ownBlock = some g ∨ w.heap.size ≤ g)
  fr : Fr (fun b => v.ownBlock = some b) w w'
theorem bytesE_okL {v k : Nat} (h1 : 1 ≤ k) (h8 : k ≤ 8) (hv : v < 256 ^ k) : bytesE v (k : Int) = 0 := by
  unfold bytesE
  rw [if_neg (by omega), Int.toNat_natCast, if_pos (Nat.div_eq_of_lt hv)]
set_option maxRecDepth 100000 in
set_option maxHeartbeats 1000000 in
theorem rlayF_any (B : Nat) (a : Option Addr) (n c : Nat) (zs : List Nat) (v k : Nat) (w : World) (h : OwnB w B a n c zs) (hB : B ≤ w.heap.size) (hv : v < 256 ^ k) (h1 : 1 ≤ k) (h8 : k ≤ 8) (hn : n ≤ 100000) :
    Calls Try.prog 78 #[.slice a n c, .int .u64 (v : Nat), .int .i64 (k : Nat)] w fun e w' => LayF B (.slice a n c) (zs ++ bytesB v k) w e w' := by
  have hv64 : v < 18446744073709551616 := Nat.lt_of_lt_of_le hv (Nat.le_trans (Nat.pow_le_pow_right (by omega) h8) (by decide))
  have hby := refbytes_any v (k : Int) w hv64
  rw [bytesE_okL h1 h8 hv, bytesV_ok h1 h8 hv, bytesB_len] at hby
  obtain ⟨D, hD⟩ : ∃ D, D = bytesB v k := ⟨_, rfl⟩
  rw [← hD] at hby ⊢
  clear hD hv
  go_enter Try.func78, Try.ntmps78
  go_wp2_with fail
  refine hby.mono ?_
  rintro e w1 ⟨ad, cd, rfl, hod, hb1⟩
  have ho1 := h.below hb1
  have hsd := hod.sl (by omega)
  have hz1 : B ≤ w1.heap.size := Nat.le_trans hB hb1.size
  have hzz := hb1.size
  go_wp2_with (at_builtin; go_must (refine app_list2 rfl _ _ rfl B a n c zs rfl ho1 _ k cd D rfl hsd (by omega) hz1 ?_))
  intro a2 c2 w2 ho2 hg2 hp2
  have HL : Hid ((zs ++ D).length = n + k) := ho2.len
  have hf : Fr (fun b => (Value.slice a n c).ownBlock = some b) w w2 := (Fr.of_below hb1).trans (Fr.grown hg2 (fun k hk => hk))
  go_wp2
  go_ret
  exact ⟨⟨a2, c2, by rw [HL.out]; rfl, by rw [HL.out]; exact ho2, by rw [HL.out]; exact fun g hg => (hp2 g hg).imp id (fun h => by omega)⟩, hf⟩
set_option maxRecDepth 100000 in
set_option maxHeartbeats 1000000 in
theorem rlay12_any (B : Nat) (a : Option Addr) (n c : Nat) (zs : List Nat) (v k : Nat) (w : World) (h : OwnB w B a n c zs) (hB : B ≤ w.heap.size) (hv : v < 256 ^ k) (hv32 : v < 4294967296) (h1 : 1 ≤ k) (h8 : k ≤ 8) (hn : n ≤ 100000) :
    Calls Try.prog 74 #[.slice a n c, .int .u32 (v : Nat), .int .i64 (k : Nat)] w fun e w' => LayF B (.slice a n c) (zs ++ bytesB v k) w e w' := by
  have HC := (show Hid _ from rlayF_any B a n c zs v k w h hB hv h1 h8 hn)
  clear h hB hv
  go_enter Try.func74, Try.ntmps74
  go_wp2_with fail
  refine Calls.mono HC.out ?_
  rintro e w1 hP
  obtain ⟨a1, c1, rfl, ho, hp⟩ := hP.row
  have HF : Hid (LayF B (.slice a n c) (zs ++ bytesB v k) w (.returned (.slice a1 (zs ++ bytesB v k).length c1)) w1) := hP
  clear ho hp hP HC
  obtain ⟨l, hl⟩ : ∃ l, l = (zs ++ bytesB v k).length := ⟨_, rfl⟩
  rw [← hl] at HF ⊢
  clear hl
  go_wp2
  go_ret
  exact HF.out
end Go.Proofs.Ytjaheelgcjafcaa
namespace Go.Proofs.Ytjaheelgcjafcaa
open Go.RowKit
def hpB (k : Nat) : Bool := decide (k = 1 ∨ k = 2 ∨ k = 4 ∨ k = 5 ∨ k = 6 ∨ k = 9)
def hdB12 (k : Nat) : Bool := decide (k = 10 ∨ k = 12 ∨ k = 13 ∨ 14 < k)
set_option linter.unusedVariables false in
set_option maxRecDepth 100000 in
set_option maxHeartbeats 2000000 in
theorem hasParams_any (k : Nat) (hk : k < 256) (w : World) : Calls Try.prog 71 #[.int .u8 (k : Nat)] w fun e w' => e = .returned (.bool (hpB k)) ∧ Below w.heap.size w w' := by
  by_cases h : k = 1 ∨ k = 2 ∨ k = 4 ∨ k = 5 ∨ k = 6 ∨ k = 9
  · rw [show hpB k = true from decide_eq_true h]
    rcases h with rfl | rfl | rfl | rfl | rfl | rfl
    all_goals
      go_enter Try.func71, Try.ntmps71
      go_wp2
      go_ret
      exact ⟨rfl, Below.refl _ _⟩
  · rw [show hpB k = false from decide_eq_false h]
    have h1 : ((k : Int) == 1) = false := by simp; omega
    have h2 : ((k : Int) == 2) = false := by simp; omega
    have h3 : ((k : Int) == 4) = false := by simp; omega
    have h4 : ((k : Int) == 5) = false := by simp; omega
    have h5 : ((k : Int) == 6) = false := by simp; omega
    have h6 : ((k : Int) == 9) = false := by simp; omega
    clear h
    go_enter Try.func71, Try.ntmps71
    go_wp2
    go_ret
    exact ⟨rfl, Below.refl _ _⟩
set_option linter.unusedVariables false in
set_option maxRecDepth 100000 in
set_option maxHeartbeats 2000000 in
theorem hasData_any (k : Nat) (hk : k < 256) (w : World) : Calls Try.prog 72 #[.int .u8 (k : Nat)] w fun e w' => e = .returned (.bool (hdB12 k)) ∧ Below w.heap.size w w' := by
  by_cases h : k = 10 ∨ k = 12 ∨ k = 13
  · rw [show hdB12 k = true from decide_eq_true (by omega)]
    rcases h with rfl | rfl | rfl
    all_goals
      go_enter Try.func72, Try.ntmps72
      go_wp2
      go_ret
      exact ⟨rfl, Below.refl _ _⟩
  · have h1 : ((k : Int) == 10) = false := by simp; omega
    have h2 : ((k : Int) == 12) = false := by simp; omega
    have h3 : ((k : Int) == 13) = false := by simp; omega
    have e : hdB12 k = decide ((14 : Int) < (k : Int)) := by
      unfold hdB12
      by_cases h4 : 14 < k
      · rw [decide_eq_true (show k = 10 ∨ k = 12 ∨ k = 13 ∨ 14 < k by omega), decide_eq_true (show (14 : Int) < (k : Int) by omega)]
      · rw [decide_eq_false (show ¬ (k = 10 ∨ k = 12 ∨ k = 13 ∨ 14 < k) by omega), decide_eq_false (show ¬ (14 : Int) < (k : Int) by omega)]
    rw [e]
    clear h e
    go_enter Try.func72, Try.ntmps72
    go_wp2
    go_ret
    exact ⟨rfl, Below.refl _ _⟩
end Go.Proofs.Ytjaheelgcjafcaa
namespace Go.Proofs.Ytjaheelgcjafcaa
open Go.RowKit
/-- The chunk in its box, the row so far. -/
structure VaS (w : World) (cs : List Value) (V : World) (a : Option Addr) (n c : Nat) (zs : List Nat) : Prop where
  box : Stc V w.heap.size cs
  own : OwnB V (w.heap.size + 1) a n c zs
  bel : Below w.heap.size w V
theorem VaS.lay {w : World} {cs : List Value} {V V' : World} {a : Option Addr} {n c : Nat} {zs L : List Nat} {e : Ending} (h : VaS w cs V a n c zs) (hp : LayF (w.heap.size + 1) (.slice a n c) L V e V') : ∃ a' c', e = .returned (.slice a' L.length c') ∧ VaS w cs V' a' L.length c' L := by
  obtain ⟨a', c', he, ho, _⟩ := hp.row
  have hge : ∀ g, (Value.slice a n c).ownBlock = some g → w.heap.size + 1 ≤ g := fun g hg => (h.own.own.lt g hg).1
  exact ⟨a', c', he, h.box.fr hp.fr (fun hg => by have := hge _ hg; omega), ho, h.bel.trans (hp.fr.below _ h.bel.size (fun k hk => by have := hge k hk; omega))⟩
structure RowV (w : World) (L : List Nat) (e : Ending) (w' : World) : Prop where
  ex : ∃ a c, e = .returned (.slice a L.length c) ∧ OwnB w' w.heap.size a L.length c L
  bel : Below w.heap.size w w'
theorem own0 (w : World) : OwnB (w.alloc (.cells #[] 5)) w.heap.size (some ⟨w.heap.size, 0, none⟩) 0 0 [] := by
  refine ⟨rfl, ⟨by simp [vals], .inr ⟨w.heap.size, 0, #[], rfl, Nat.le_refl _, ?_, Nat.le_refl _, by unfold maxLen; omega, by simp, ?_⟩⟩, fun i => by simp⟩
  · show (w.heap.push _)[w.heap.size]? = _
    simp
  · simp [vals]
theorem VaS.start (w W1 W2 : World) (cs : List Value) (h1 : W1 = w.alloc (.cells cs.toArray 47)) (h2 : W2 = W1.alloc (.cells #[] 5)) : VaS w cs W2 (some ⟨w.heap.size + 1, 0, none⟩) 0 0 [] := by
  have b1 : Below w.heap.size w W1 := by rw [h1]; exact (Below.refl _ _).alloc (Nat.le_refl _) _
  have s1 := Stc.new w cs 47 W1 h1
  have z1 : W1.heap.size = w.heap.size + 1 := by rw [h1]; simp
  have b2 : Below W1.heap.size W1 W2 := by rw [h2]; exact (Below.refl _ _).alloc (Nat.le_refl _) _
  have o := own0 W1
  rw [← h2, z1] at o
  exact ⟨s1.below b2, o, b1.trans (b2.mono b1.size)⟩
set_option linter.unusedVariables false in
set_option maxRecDepth 100000 in
set_option maxHeartbeats 4000000 in
theorem value_tsnv (f t st ss pp tg rm os is : Nat) (b1 : Option Addr) (b2 b3 : Nat) (d1 : Option Addr) (d2 d3 : Nat) (p1 : Option Addr) (p2 p3 : Nat) (x1 : Option Addr) (x2 x3 : Nat) (w : World) (ht : t < 4294967296) :
    Calls Try.prog 73 #[.agg #[.int .u8 7, .int .u8 (f : Nat), .int .u32 (t : Nat), .int .u16 (st : Nat), .int .u16 (ss : Nat), .int .u32 (pp : Nat), .int .u32 (tg : Nat), .int .u32 (rm : Nat), .int .u16 (os : Nat), .int .u16 (is : Nat), .slice b1 b2 b3, .slice d1 d2 d3, .slice p1 p2 p3, .slice x1 x2 x3]] w (RowV w (bytesB t 4)) := by
  obtain ⟨W1, hW1⟩ : ∃ W1, W1 = w.alloc (.cells #[.int .u8 7, .int .u8 (f : Nat), .int .u32 (t : Nat), .int .u16 (st : Nat), .int .u16 (ss : Nat), .int .u32 (pp : Nat), .int .u32 (tg : Nat), .int .u32 (rm : Nat), .int .u16 (os : Nat), .int .u16 (is : Nat), .slice b1 b2 b3, .slice d1 d2 d3, .slice p1 p2 p3, .slice x1 x2 x3] 47) := ⟨_, rfl⟩
  obtain ⟨W2, hW2⟩ : ∃ W2, W2 = W1.alloc (.cells #[] 5) := ⟨_, rfl⟩
  have h0 := VaS.start w W1 W2 [.int .u8 7, .int .u8 (f : Nat), .int .u32 (t : Nat), .int .u16 (st : Nat), .int .u16 (ss : Nat), .int .u32 (pp : Nat), .int .u32 (tg : Nat), .int .u32 (rm : Nat), .int .u16 (os : Nat), .int .u16 (is : Nat), .slice b1 b2 b3, .slice d1 d2 d3, .slice p1 p2 p3, .slice x1 x2 x3] hW1 hW2
  have HL := (show Hid _ from rlay12_any (w.heap.size + 1) _ 0 0 [] t 4 W2 h0.own h0.box.lt (by omega) ht (by omega) (by omega) (by omega))
  have H0 := (show Hid _ from h0)
  have HD := (show Hid _ from fun W => hasData_any 7 (by omega) W)
  have HP := (show Hid _ from fun W => hasParams_any 7 (by omega) W)
  have hd7 : hdB12 7 = false := rfl
  have hp7 : hpB 7 = false := rfl
  rw [hd7] at HD
  rw [hp7] at HP
  have HW := (show Hid _ from And.intro hW1 hW2)
  clear h0 hW1 hW2 hd7 hp7
  go_enter Try.func73, Try.ntmps73
  go_wp2_with fail
  rw [← HW.out.1, ← HW.out.2]
  refine Calls.mono HL.out ?_
  clear HL HW
  rintro e w3 hp
  obtain ⟨a3, c3, rfl, h3⟩ := H0.out.lay hp
  have hl4 : ([] ++ bytesB t 4).length = 4 := by simp [bytesB_len]
  rw [hl4] at h3 ⊢
  have e4 : [] ++ bytesB t 4 = bytesB t 4 := rfl
  rw [e4] at h3
  have H3 := (show Hid _ from h3)
  have k0 := h3.box.cell 0 _ rfl
  clear hp h3 H0 hl4 e4
  go_wp2_with fail
  refine Calls.mono (HD.out w3) ?_
  rintro e w4 ⟨rfl, b4⟩
  have H4 : Hid (VaS w [.int .u8 7, .int .u8 (f : Nat), .int .u32 (t : Nat), .int .u16 (st : Nat), .int .u16 (ss : Nat), .int .u32 (pp : Nat), .int .u32 (tg : Nat), .int .u32 (rm : Nat), .int .u16 (os : Nat), .int .u16 (is : Nat), .slice b1 b2 b3, .slice d1 d2 d3, .slice p1 p2 p3, .slice x1 x2 x3] w4 a3 4 c3 (bytesB t 4)) := ⟨H3.out.box.below b4, H3.out.own.below b4, H3.out.bel.trans (b4.mono H3.out.bel.size)⟩
  have k1 := H4.out.box.cell 0 _ rfl
  clear b4 H3 HD k0
  go_wp2_with fail
  go_loopw [3, 6] (fun u3 u6 wr => u3 = .slice a3 4 c3 ∧ u6 = .int .i64 0 ∧ wr = w4) (fun _ _ _ => 0)
  case atStart => exact ⟨rfl, rfl, rfl⟩
  case round =>
    obtain ⟨rfl, rfl, rfl⟩ := hrel
    go_wp2_with fail
    refine Calls.mono (HP.out wr) ?_
    rintro e w5 ⟨rfl, b5⟩
    have HF : Hid (RowV w (bytesB t 4) (.returned (.slice a3 4 c3)) w5) := by
      have hl : (bytesB t 4).length = 4 := bytesB_len t 4
      exact ⟨⟨a3, c3, by rw [hl], by rw [hl]; exact (H4.out.own.below b5).base (by omega)⟩, H4.out.bel.trans (b5.mono H4.out.bel.size)⟩
    clear b5 H4 HP k1
    go_wp2
    go_ret
    exact HF.out
end Go.Proofs.Ytjaheelgcjafcaa
namespace Go.Proofs.Ytjaheelgcjafcaa
open Go.RowKit
set_option linter.unusedVariables false in
set_option maxRecDepth 100000 in
set_option maxHeartbeats 4000000 in
theorem value_none (k f t st ss pp tg rm os is : Nat) (b1 : Option Addr) (b2 b3 : Nat) (d1 : Option Addr) (d2 d3 : Nat) (p1 : Option Addr) (p2 p3 : Nat) (x1 : Option Addr) (x2 x3 : Nat) (w : World) (hk : k = 8 ∨ k = 11 ∨ k = 14) :
    Calls Try.prog 73 #[.agg #[.int .u8 (k : Nat), .int .u8 (f : Nat), .int .u32 (t : Nat), .int .u16 (st : Nat), .int .u16 (ss : Nat), .int .u32 (pp : Nat), .int .u32 (tg : Nat), .int .u32 (rm : Nat), .int .u16 (os : Nat), .int .u16 (is : Nat), .slice b1 b2 b3, .slice d1 d2 d3, .slice p1 p2 p3, .slice x1 x2 x3]] w (RowV w []) := by
  obtain ⟨W1, hW1⟩ : ∃ W1, W1 = w.alloc (.cells #[.int .u8 (k : Nat), .int .u8 (f : Nat), .int .u32 (t : Nat), .int .u16 (st : Nat), .int .u16 (ss : Nat), .int .u32 (pp : Nat), .int .u32 (tg : Nat), .int .u32 (rm : Nat), .int .u16 (os : Nat), .int .u16 (is : Nat), .slice b1 b2 b3, .slice d1 d2 d3, .slice p1 p2 p3, .slice x1 x2 x3] 47) := ⟨_, rfl⟩
  obtain ⟨W2, hW2⟩ : ∃ W2, W2 = W1.alloc (.cells #[] 5) := ⟨_, rfl⟩
  have h0 := VaS.start w W1 W2 [.int .u8 (k : Nat), .int .u8 (f : Nat), .int .u32 (t : Nat), .int .u16 (st : Nat), .int .u16 (ss : Nat), .int .u32 (pp : Nat), .int .u32 (tg : Nat), .int .u32 (rm : Nat), .int .u16 (os : Nat), .int .u16 (is : Nat), .slice b1 b2 b3, .slice d1 d2 d3, .slice p1 p2 p3, .slice x1 x2 x3] hW1 hW2
  have H0 := (show Hid _ from h0)
  have HD := (show Hid _ from fun W => hasData_any k (by omega) W)
  have HP := (show Hid _ from fun W => hasParams_any k (by omega) W)
  have hd7 : hdB12 k = false := decide_eq_false (by omega)
  have hp7 : hpB k = false := decide_eq_false (by omega)
  rw [hd7] at HD
  rw [hp7] at HP
  have HW := (show Hid _ from And.intro hW1 hW2)
  have g0 : ((k : Int) == 0) = false := by simp; omega
  have g1 : ((k : Int) == 1) = false := by simp; omega
  have g2 : ((k : Int) == 2) = false := by simp; omega
  have g3 : ((k : Int) == 3) = false := by simp; omega
  have g7 : ((k : Int) == 7) = false := by simp; omega
  clear h0 hW1 hW2 hd7 hp7 hk
  go_enter Try.func73, Try.ntmps73
  go_wp2_with fail
  rw [← HW.out.1, ← HW.out.2]
  clear HW
  refine Calls.mono (HD.out W2) ?_
  rintro e w4 ⟨rfl, b4⟩
  have H4 : Hid (VaS w [.int .u8 (k : Nat), .int .u8 (f : Nat), .int .u32 (t : Nat), .int .u16 (st : Nat), .int .u16 (ss : Nat), .int .u32 (pp : Nat), .int .u32 (tg : Nat), .int .u32 (rm : Nat), .int .u16 (os : Nat), .int .u16 (is : Nat), .slice b1 b2 b3, .slice d1 d2 d3, .slice p1 p2 p3, .slice x1 x2 x3] w4 (some ⟨w.heap.size + 1, 0, none⟩) 0 0 []) := ⟨H0.out.box.below b4, H0.out.own.below b4, H0.out.bel.trans (b4.mono H0.out.bel.size)⟩
  have k1 := H4.out.box.cell 0 _ rfl
  clear b4 H0 HD
  go_wp2_with fail
  go_loopw [3, 6] (fun u3 u6 wr => u3 = .slice (some ⟨w.heap.size + 1, 0, none⟩) 0 0 ∧ u6 = .int .i64 0 ∧ wr = w4) (fun _ _ _ => 0)
  case atStart => exact ⟨rfl, rfl, rfl⟩
  case round =>
    obtain ⟨rfl, rfl, rfl⟩ := hrel
    go_wp2_with fail
    refine Calls.mono (HP.out wr) ?_
    rintro e w5 ⟨rfl, b5⟩
    have HF : Hid (RowV w [] (.returned (.slice (some ⟨w.heap.size + 1, 0, none⟩) 0 0)) w5) := ⟨⟨_, _, rfl, (H4.out.own.below b5).base (by omega)⟩, H4.out.bel.trans (b5.mono H4.out.bel.size)⟩
    clear b5 H4 HP k1
    go_wp2
    go_ret
    exact HF.out
end Go.Proofs.Ytjaheelgcjafcaa
namespace Go.Proofs.Ytjaheelgcjafcaa
open Go.RowKit
theorem VaS.grow {w : World} {cs : List Value} {V V' : World} {a : Option Addr} {n c : Nat} {zs : List Nat} {a' : Option Addr} {n' c' : Nat} {zs' : List Nat} (h : VaS w cs V a n c zs) (ho : OwnB V' (w.heap.size + 1) a' n' c' zs') (hg : V.grownBy V' (Value.slice a n c).ownBlock) : VaS w cs V' a' n' c' zs' := by
  have hge : ∀ g, (Value.slice a n c).ownBlock = some g → w.heap.size + 1 ≤ g := fun g hg => (h.own.own.lt g hg).1
  have hf : Fr (fun b => (Value.slice a n c).ownBlock = some b) V V' := Fr.grown hg (fun k hk => hk)
  exact ⟨h.box.fr hf (fun hg => by have := hge _ hg; omega), ho, h.bel.trans (hf.below _ h.bel.size (fun k hk => by have := hge k hk; omega))⟩
theorem VaS.below {w : World} {cs : List Value} {V V' : World} {a : Option Addr} {n c : Nat} {zs : List Nat} (h : VaS w cs V a n c zs) (b : Below V.heap.size V V') : VaS w cs V' a n c zs := ⟨h.box.below b, h.own.below b, h.bel.trans (b.mono h.bel.size)⟩
theorem VaS.row {w : World} {cs : List Value} {V : World} {a : Option Addr} {n c : Nat} {zs : List Nat} (h : VaS w cs V a n c zs) : RowV w zs (.returned (.slice a n c)) V := by
  have e := h.own.len
  exact ⟨⟨a, c, by rw [e], by rw [e]; exact h.own.base (by omega)⟩, h.bel⟩
theorem VaS.call {w : World} {cs : List Value} {V : World} {a : Option Addr} {n c : Nat} {zs : List Nat} (h : VaS w cs V a n c zs) (v k : Nat) (hv : v < 256 ^ k) (hv32 : v < 4294967296) (h1 : 1 ≤ k) (h8 : k ≤ 8) (hn : n ≤ 100000) :
    Calls Try.prog 74 #[.slice a n c, .int .u32 (v : Nat), .int .i64 (k : Nat)] V fun e V' => ∃ a' n' c', e = .returned (.slice a' n' c') ∧ n' = n + k ∧ VaS w cs V' a' n' c' (zs ++ bytesB v k) := by
  have hlt := h.box.lt
  refine Calls.mono (rlay12_any (w.heap.size + 1) a n c zs v k V h.own (by omega) hv hv32 h1 h8 hn) ?_
  rintro e V' hP
  obtain ⟨a', c', rfl, h'⟩ := h.lay hP
  exact ⟨a', _, c', rfl, by rw [List.length_append, bytesB_len, h.own.len], h'⟩
theorem pmsV_next (ps : List Pm) (i : Nat) (p : Pm) (h : ps[i]? = some p) : pmsV (ps.take (i + 1)) = pmsB (ps.take i) ++ pmV p := by
  have e : ps.take (i + 1) = ps.take i ++ [p] := by rw [List.take_add_one, h]; rfl
  rw [e]
  unfold pmsV
  simp only [List.getLast?_append, List.getLast?_singleton, Option.some_or, List.dropLast_concat]
theorem pmsV_le (ps : List Pm) {M : Nat} (h : ∀ p ∈ ps, p.zs.length ≤ M) : (pmsV ps).length ≤ ps.length * (M + 7) := by
  have h1 := pmsB_le ps h
  rw [pms_split, List.length_append] at h1
  omega
theorem pms_pad (hd : List Nat) (ps : List Pm) (i : Nat) (h4 : hd.length % 4 = 0) : hd ++ pmsB (ps.take i) = (hd ++ pmsV (ps.take i)) ++ List.replicate (padN (hd ++ pmsV (ps.take i)).length) 0 := by
  have e : padN (hd ++ pmsV (ps.take i)).length = padN (pmsV (ps.take i)).length := by
    rw [List.length_append]
    unfold padN
    omega
  rw [e, pms_split, List.append_assoc]
end Go.Proofs.Ytjaheelgcjafcaa
namespace Go.Proofs.Ytjaheelgcjafcaa
open Go.RowKit
set_option linter.unusedVariables false in
set_option maxRecDepth 100000 in
set_option maxHeartbeats 4000000 in
theorem value_raw (k : Nat) (f t st ss pp tg rm os is : Nat) (b1 : Option Addr) (b2 b3 : Nat) (d1 : Option Addr) (d2 d3 : Nat) (p1 : Option Addr) (p2 p3 : Nat) (x1 : Option Addr) (x2 x3 : Nat) (w : World) (hk : ¬ k = 0 ∧ ¬ k = 1 ∧ ¬ k = 2 ∧ ¬ k = 3 ∧ ¬ k = 4 ∧ ¬ k = 5 ∧ ¬ k = 6 ∧ ¬ k = 7 ∧ ¬ k = 8 ∧ ¬ k = 9 ∧ ¬ k = 11 ∧ ¬ k = 14) (hkb : k < 256) {xs : List Nat} (hX : Sl w x1 x2 x3 xs) (hx : x2 ≤ 2000) :
    Calls Try.prog 73 #[.agg #[.int .u8 (k : Nat), .int .u8 (f : Nat), .int .u32 (t : Nat), .int .u16 (st : Nat), .int .u16 (ss : Nat), .int .u32 (pp : Nat), .int .u32 (tg : Nat), .int .u32 (rm : Nat), .int .u16 (os : Nat), .int .u16 (is : Nat), .slice b1 b2 b3, .slice d1 d2 d3, .slice p1 p2 p3, .slice x1 x2 x3]] w (RowV w xs) := by
  obtain ⟨W1, hW1⟩ : ∃ W1, W1 = w.alloc (.cells #[.int .u8 (k : Nat), .int .u8 (f : Nat), .int .u32 (t : Nat), .int .u16 (st : Nat), .int .u16 (ss : Nat), .int .u32 (pp : Nat), .int .u32 (tg : Nat), .int .u32 (rm : Nat), .int .u16 (os : Nat), .int .u16 (is : Nat), .slice b1 b2 b3, .slice d1 d2 d3, .slice p1 p2 p3, .slice x1 x2 x3] 47) := ⟨_, rfl⟩
  obtain ⟨W2, hW2⟩ : ∃ W2, W2 = W1.alloc (.cells #[] 5) := ⟨_, rfl⟩
  have H0 : Hid (VaS w [.int .u8 (k : Nat), .int .u8 (f : Nat), .int .u32 (t : Nat), .int .u16 (st : Nat), .int .u16 (ss : Nat), .int .u32 (pp : Nat), .int .u32 (tg : Nat), .int .u32 (rm : Nat), .int .u16 (os : Nat), .int .u16 (is : Nat), .slice b1 b2 b3, .slice d1 d2 d3, .slice p1 p2 p3, .slice x1 x2 x3] W2 (some ⟨w.heap.size + 1, 0, none⟩) 0 0 []) := VaS.start w W1 W2 [.int .u8 (k : Nat), .int .u8 (f : Nat), .int .u32 (t : Nat), .int .u16 (st : Nat), .int .u16 (ss : Nat), .int .u32 (pp : Nat), .int .u32 (tg : Nat), .int .u32 (rm : Nat), .int .u16 (os : Nat), .int .u16 (is : Nat), .slice b1 b2 b3, .slice d1 d2 d3, .slice p1 p2 p3, .slice x1 x2 x3] hW1 hW2
  have HW := (show Hid _ from And.intro hW1 hW2)
  clear hW1 hW2
  have HD := (show Hid _ from fun W => hasData_any k (by omega) W)
  have HP := (show Hid _ from fun W => hasParams_any k (by omega) W)
  have hd7 : hdB12 k = true := decide_eq_true (by omega)
  have hp7 : hpB k = false := decide_eq_false (by omega)
  rw [hd7] at HD
  rw [hp7] at HP
  clear hd7 hp7
  have g0 : ((k : Int) == 0) = false := by simp; omega
  have g1 : ((k : Int) == 1) = false := by simp; omega
  have g2 : ((k : Int) == 2) = false := by simp; omega
  have g3 : ((k : Int) == 3) = false := by simp; omega
  have g7 : ((k : Int) == 7) = false := by simp; omega
  clear hk
  go_enter Try.func73, Try.ntmps73
  go_wp2_with fail
  rw [← HW.out.1, ← HW.out.2]
  clear HW
  refine Calls.mono (HD.out W2) ?_
  rintro e wB ⟨rfl, bB⟩
  have HB := (show Hid _ from H0.out.below bB)
  clear bB H0 HD
  have k1 := HB.out.box.cell 0 _ rfl
  have k13 := HB.out.box.cell 13 _ rfl
  have hsl := hX.below HB.out.bel
  have hz1 : w.heap.size + 1 ≤ wB.heap.size := by have := HB.out.box.lt; omega
  have HO := (show Hid _ from HB.out.own)
  go_wp2_with (at_builtin; go_must (refine app_list2 rfl _ _ rfl (w.heap.size + 1) _ _ _ _ rfl HO.out _ _ _ _ rfl hsl (by omega) hz1 ?_))
  intro aX cX wX hoX hgX hpX
  have HA := (show Hid _ from HB.out.grow hoX hgX)
  clear k1
  have k1 := HA.out.box.cell 0 _ rfl
  clear hoX hgX hpX HB k13 hsl hz1 HO
  go_wp2_with fail
  go_loopw [3, 6] (fun u3 u6 wr => u3 = .slice aX x2 cX ∧ u6 = .int .i64 0 ∧ wr = wX) (fun _ _ _ => 0)
  case atStart => exact ⟨rfl, rfl, rfl⟩
  case round =>
    obtain ⟨rfl, rfl, rfl⟩ := hrel
    go_wp2_with fail
    refine Calls.mono (HP.out wr) ?_
    rintro e w5 ⟨rfl, b5⟩
    have hf := (HA.out.below b5).row
    try simp only [List.append_assoc, List.nil_append] at hf
    have HF := (show Hid _ from hf)
    clear hf
    clear b5 HA HP k1
    go_wp2
    go_ret
    exact HF.out
set_option linter.unusedVariables false in
set_option maxRecDepth 100000 in
set_option maxHeartbeats 4000000 in
theorem value_data (f t st ss pp tg rm os is : Nat) (b1 : Option Addr) (b2 b3 : Nat) (d1 : Option Addr) (d2 d3 : Nat) (p1 : Option Addr) (p2 p3 : Nat) (x1 : Option Addr) (x2 x3 : Nat) (w : World) {xs : List Nat} (hX : Sl w x1 x2 x3 xs) (hx : x2 ≤ 2000) (ht : t < 4294967296) (hst : st < 65536) (hss : ss < 65536) (hpp : pp < 4294967296) :
    Calls Try.prog 73 #[.agg #[.int .u8 0, .int .u8 (f : Nat), .int .u32 (t : Nat), .int .u16 (st : Nat), .int .u16 (ss : Nat), .int .u32 (pp : Nat), .int .u32 (tg : Nat), .int .u32 (rm : Nat), .int .u16 (os : Nat), .int .u16 (is : Nat), .slice b1 b2 b3, .slice d1 d2 d3, .slice p1 p2 p3, .slice x1 x2 x3]] w (RowV w (bytesB t 4 ++ (bytesB st 2 ++ (bytesB ss 2 ++ (bytesB pp 4 ++ xs))))) := by
  obtain ⟨W1, hW1⟩ : ∃ W1, W1 = w.alloc (.cells #[.int .u8 0, .int .u8 (f : Nat), .int .u32 (t : Nat), .int .u16 (st : Nat), .int .u16 (ss : Nat), .int .u32 (pp : Nat), .int .u32 (tg : Nat), .int .u32 (rm : Nat), .int .u16 (os : Nat), .int .u16 (is : Nat), .slice b1 b2 b3, .slice d1 d2 d3, .slice p1 p2 p3, .slice x1 x2 x3] 47) := ⟨_, rfl⟩
  obtain ⟨W2, hW2⟩ : ∃ W2, W2 = W1.alloc (.cells #[] 5) := ⟨_, rfl⟩
  have H0 : Hid (VaS w [.int .u8 0, .int .u8 (f : Nat), .int .u32 (t : Nat), .int .u16 (st : Nat), .int .u16 (ss : Nat), .int .u32 (pp : Nat), .int .u32 (tg : Nat), .int .u32 (rm : Nat), .int .u16 (os : Nat), .int .u16 (is : Nat), .slice b1 b2 b3, .slice d1 d2 d3, .slice p1 p2 p3, .slice x1 x2 x3] W2 (some ⟨w.heap.size + 1, 0, none⟩) 0 0 []) := VaS.start w W1 W2 [.int .u8 0, .int .u8 (f : Nat), .int .u32 (t : Nat), .int .u16 (st : Nat), .int .u16 (ss : Nat), .int .u32 (pp : Nat), .int .u32 (tg : Nat), .int .u32 (rm : Nat), .int .u16 (os : Nat), .int .u16 (is : Nat), .slice b1 b2 b3, .slice d1 d2 d3, .slice p1 p2 p3, .slice x1 x2 x3] hW1 hW2
  have HW := (show Hid _ from And.intro hW1 hW2)
  clear hW1 hW2
  have HP := (show Hid _ from fun W => hasParams_any 0 (by omega) W)
  have hp7 : hpB 0 = false := rfl
  rw [hp7] at HP
  clear hp7
  have HN := (show Hid _ from H0.out.call t 4 (by omega) (by omega) (by omega) (by omega) (by omega))
  go_enter Try.func73, Try.ntmps73
  go_wp2_with fail
  rw [← HW.out.1, ← HW.out.2]
  clear HW
  refine Calls.mono HN.out ?_
  clear HN
  rintro e w1v hP
  obtain ⟨a1, n1, c1, rfl, hn1, h1⟩ := hP
  have H1 := (show Hid _ from h1)
  have hb1 : n1 ≤ 4 := by omega
  clear hn1 h1 H0
  have k1 := H1.out.box.cell 3 _ rfl
  have HN := (show Hid _ from H1.out.call st 2 (by omega) (by omega) (by omega) (by omega) (by omega))
  go_wp2_with fail
  refine Calls.mono HN.out ?_
  clear HN k1
  rintro e w2v hP
  obtain ⟨a2, n2, c2, rfl, hn2, h2⟩ := hP
  have H2 := (show Hid _ from h2)
  have hb2 : n2 ≤ 6 := by omega
  clear hn2 h2 H1 hb1
  have k1 := H2.out.box.cell 4 _ rfl
  have HN := (show Hid _ from H2.out.call ss 2 (by omega) (by omega) (by omega) (by omega) (by omega))
  go_wp2_with fail
  refine Calls.mono HN.out ?_
  clear HN k1
  rintro e w3v hP
  obtain ⟨a3, n3, c3, rfl, hn3, h3⟩ := hP
  have H3 := (show Hid _ from h3)
  have hb3 : n3 ≤ 8 := by omega
  clear hn3 h3 H2 hb2
  have k1 := H3.out.box.cell 5 _ rfl
  have HN := (show Hid _ from H3.out.call pp 4 (by omega) (by omega) (by omega) (by omega) (by omega))
  go_wp2_with fail
  refine Calls.mono HN.out ?_
  clear HN k1
  rintro e w4v hP
  obtain ⟨a4, n4, c4, rfl, hn4, h4⟩ := hP
  have H4 := (show Hid _ from h4)
  have hb4 : n4 ≤ 12 := by omega
  clear hn4 h4 H3 hb3
  have k1 := H4.out.box.cell 0 _ rfl
  have k13 := H4.out.box.cell 13 _ rfl
  have hsl := hX.below H4.out.bel
  have hz1 : w.heap.size + 1 ≤ w4v.heap.size := by have := H4.out.box.lt; omega
  have HO := (show Hid _ from H4.out.own)
  go_wp2_with (at_builtin; go_must (refine app_list2 rfl _ _ rfl (w.heap.size + 1) _ _ _ _ rfl HO.out _ _ _ _ rfl hsl (by omega) hz1 ?_))
  intro aX cX wX hoX hgX hpX
  have HA := (show Hid _ from H4.out.grow hoX hgX)
  clear k1
  have k1 := HA.out.box.cell 0 _ rfl
  clear hoX hgX hpX H4 k13 hsl hz1 HO
  go_wp2_with fail
  go_loopw [3, 6] (fun u3 u6 wr => u3 = .slice aX (n4 + x2) cX ∧ u6 = .int .i64 0 ∧ wr = wX) (fun _ _ _ => 0)
  case atStart => exact ⟨rfl, rfl, rfl⟩
  case round =>
    obtain ⟨rfl, rfl, rfl⟩ := hrel
    go_wp2_with fail
    refine Calls.mono (HP.out wr) ?_
    rintro e w5 ⟨rfl, b5⟩
    have hf := (HA.out.below b5).row
    try simp only [List.append_assoc, List.nil_append] at hf
    have HF := (show Hid _ from hf)
    clear hf
    clear b5 HA HP k1
    go_wp2
    go_ret
    exact HF.out
end Go.Proofs.Ytjaheelgcjafcaa
