/- ref12.Bytes, Check and Size of any chunk: the program's answers. -/
import Derived.Test.YtlgfbcfogcmdbaaDoorBytes
import Derived.Test.YtlgfbcfogcmdbaaDoorWr1
import Derived.Deep.DeepMust
import Derived.Deep.OwnRows
import Derived.Test.YtlgfbcfogcmdbaaDoorChB
import Derived.Test.YtlgfbcfogcmdbaaDoorWr2
import Derived.Test.YtlgfbcfogcmdbaaDoorKG
import Derived.Test.YtlgfbcfogcmdbaaDoorWr8
import Derived.Test.YtlgfbcfogcmdbaaDoorRgX
import Derived.Deep.Cut
import Derived.Test.YtlgfbcfogcmdbaaDoorKB
namespace Go.Proofs.YtlgfbcfogcmdbaaDoor
open Go.RowKit
set_option maxHeartbeats 2000000 in
theorem refbytes_any (v : Nat) (k : Int) (w : World) (hv : v < 18446744073709551616) :
    Calls Tryd.prog 51 #[.int .u64 (v : Nat), .int .i64 k] w fun e w' => ∃ a c, e = .returned (.tuple #[.slice a (bytesV v k).length c, .int .i64 (bytesE v k : Nat)]) ∧ OwnB w' w.heap.size a (bytesV v k).length c (bytesV v k) ∧ Below w.heap.size w w' := by
  by_cases hk : k < 1 ∨ 8 < k
  · have HE : Hid (bytesE v k = 2) := by show _ = _; unfold bytesE; rw [if_pos hk]
    have HV : Hid (bytesV v k = []) := by show _ = _; unfold bytesV; rw [HE.out]; rfl
    by_cases hk1 : k < 1
    · go_enter Tryd.func51, Tryd.ntmps51
      go_wp2
      go_ret2
      rw [HE.out, HV.out]
      exact ⟨none, 0, rfl, OwnB.nil _ _, Below.refl _ _⟩
    · have hk8 : 8 < k := by omega
      go_enter Tryd.func51, Tryd.ntmps51
      go_wp2
      go_ret2
      rw [HE.out, HV.out]
      exact ⟨none, 0, rfl, OwnB.nil _ _, Below.refl _ _⟩
  · have hk1 : 1 ≤ k := by omega
    have hk8 : k ≤ 8 := by omega
    have HE : Hid (bytesE v k = if v / 256 ^ k.toNat = 0 then 0 else 6) := by show _ = _; unfold bytesE; rw [if_neg hk]
    have HV : Hid (bytesV v k = if bytesE v k = 0 then bytesB v k.toNat else []) := rfl
    obtain ⟨k, rfl⟩ := Int.eq_ofNat_of_zero_le (show 0 ≤ k by omega)
    rw [Int.toNat_natCast] at HE HV
    have hmk := mkn k (by omega)
    have hfull := own_full w k (by omega)
    clear hk
    go_enter Tryd.func51, Tryd.ntmps51
    go_wp2
    go_loopw [0, 7] (fun vv i wr => ∃ m : Nat, m ≤ k ∧ ((m = 0 ∧ i = .int .i64 (-1)) ∨ ∃ q : Nat, m = q + 1 ∧ i = .int .i64 q) ∧ vv = .int .u64 (v / 256 ^ (k - m) : Nat) ∧ OwnB wr w.heap.size (some ⟨w.heap.size, 0, none⟩) k k (List.replicate m 0 ++ bytesB v (k - m)) ∧ Below w.heap.size w wr) (fun _ i _ => (intOf i + 1).toNat)
    case atStart =>
      refine ⟨k, Nat.le_refl _, .inr ⟨k - 1, by omega, by go_num⟩, by simp, by simpa [bytesB] using hfull, (Below.refl _ _).alloc (Nat.le_refl _) _⟩
    case round =>
      obtain ⟨m, hm, hcase, rfl, hown, hbel⟩ := hrel
      have hd : v / 256 ^ (k - m) < 18446744073709551616 := Nat.lt_of_le_of_lt (Nat.div_le_self _ _) hv
      rcases hcase with ⟨rfl, rfl⟩ | ⟨q, rfl, rfl⟩
      · have HB : Hid (List.replicate 0 0 ++ bytesB v (k - 0) = bytesB v k) := by show _ = _; simp
        rw [HB.out] at hown
        rw [Nat.sub_zero] at *
        have hbl := bytesB_len v k
        by_cases hz : v / 256 ^ k = 0
        · rw [if_pos hz] at HE
          rw [HE.out, if_pos rfl] at HV
          rw [hz]
          go_wp2
          go_ret2
          rw [HV.out, HE.out]
          exact ⟨some ⟨w.heap.size, 0, none⟩, k, by rw [hbl]; rfl, by rw [hbl]; exact hown, hbel⟩
        · rw [if_neg hz] at HE
          rw [HE.out, if_neg (by omega)] at HV
          generalize v / 256 ^ k = u at *
          have hz' : (0 : Int) < (u : Int) := by omega
          go_wp2
          go_ret2
          rw [HV.out, HE.out]
          exact ⟨none, 0, rfl, OwnB.nil _ _, hbel⟩
      · have hc := hown.cell q (by omega)
        have hf := hown.free q
        have HS : Hid ((List.replicate (q + 1) 0 ++ bytesB v (k - (q + 1))).set q (v / 256 ^ (k - (q + 1)) % 256) = List.replicate q 0 ++ bytesB v (k - q)) := by
          show _ = _
          rw [rep_set, show k - q = k - (q + 1) + 1 from by omega]
          rfl
        have HD := (show Hid _ from div_step v q k (by omega))
        generalize (List.replicate (q + 1) 0 ++ bytesB v (k - (q + 1))) = ys at *
        generalize v / 256 ^ (k - (q + 1)) = u at *
        have hqk : (q : Int) < (k : Int) := by omega
        go_wp2
        go_roundw
        case rel =>
          refine ⟨q, by omega, ?_, ?_, ?_, hbel.setCell (Nat.le_refl _) _⟩
          · by_cases hq0 : q = 0
            · subst hq0; exact .inl ⟨rfl, by go_num⟩
            · exact .inr ⟨q - 1, by omega, by go_num⟩
          · rw [← HD.out]; go_num
          · rw [← HS.out, show ((u : Int) % 256) = ((u % 256 : Nat) : Int) from by omega]
            exact hown.store q (u % 256) (by omega)
        case measure => simp [intOf]
end Go.Proofs.YtlgfbcfogcmdbaaDoor
namespace Go.Proofs.YtlgfbcfogcmdbaaDoor
open Go.RowKit
/-- A row that was laid on: where it lies, and what stays. -/
structure LayF (B : Nat) (v : Value) (L : List Nat) (w : World) (e : Ending) (w' : World) : Prop where
  row : ∃ a c, e = .returned (.slice a L.length c) ∧ OwnB w' B a L.length c L ∧ (∀ g, (Value.slice a L.length c).ownBlock = some g → v.ownBlock = some g ∨ w.heap.size ≤ g)
  fr : Fr (fun b => v.ownBlock = some b) w w'
theorem bytesE_okL {v k : Nat} (h1 : 1 ≤ k) (h8 : k ≤ 8) (hv : v < 256 ^ k) : bytesE v (k : Int) = 0 := by
  unfold bytesE
  rw [if_neg (by omega), Int.toNat_natCast, if_pos (Nat.div_eq_of_lt hv)]
set_option maxRecDepth 100000 in
set_option maxHeartbeats 1000000 in
theorem rlayF_any (B : Nat) (a : Option Addr) (n c : Nat) (zs : List Nat) (v k : Nat) (w : World) (h : OwnB w B a n c zs) (hB : B ≤ w.heap.size) (hv : v < 256 ^ k) (h1 : 1 ≤ k) (h8 : k ≤ 8) (hn : n ≤ 100000) :
    Calls Tryd.prog 33 #[.slice a n c, .int .u64 (v : Nat), .int .i64 (k : Nat)] w fun e w' => LayF B (.slice a n c) (zs ++ bytesB v k) w e w' := by
  have hv64 : v < 18446744073709551616 := Nat.lt_of_lt_of_le hv (Nat.le_trans (Nat.pow_le_pow_right (by omega) h8) (by decide))
  have hby := refbytes_any v (k : Int) w hv64
  rw [bytesE_okL h1 h8 hv, bytesV_ok h1 h8 hv, bytesB_len] at hby
  obtain ⟨D, hD⟩ : ∃ D, D = bytesB v k := ⟨_, rfl⟩
  rw [← hD] at hby ⊢
  clear hD hv
  go_enter Tryd.func33, Tryd.ntmps33
  go_wp2_with fail
  refine hby.mono ?_
  rintro e w1 ⟨ad, cd, rfl, hod, hb1⟩
  have ho1 := h.below hb1
  have hsd := hod.sl (by omega)
  have hz1 : B ≤ w1.heap.size := Nat.le_trans hB hb1.size
  have hzz := hb1.size
  go_wp2_with (at_builtin; go_must (refine app_list2 rfl _ _ rfl B a n c zs rfl ho1 _ k cd D rfl hsd (by omega) hz1 ?_))
  intro a2 c2 w2 ho2 hg2 hp2
  have HL : Hid ((zs ++ D).length = n + k) := ho2.len
  have hf : Fr (fun b => (Value.slice a n c).ownBlock = some b) w w2 := (Fr.of_below hb1).trans (Fr.grown hg2 (fun k hk => hk))
  go_wp2
  go_ret
  exact ⟨⟨a2, c2, by rw [HL.out]; rfl, by rw [HL.out]; exact ho2, by rw [HL.out]; exact fun g hg => (hp2 g hg).imp id (fun h => by omega)⟩, hf⟩
set_option maxRecDepth 100000 in
set_option maxHeartbeats 1000000 in
theorem rlay12_any (B : Nat) (a : Option Addr) (n c : Nat) (zs : List Nat) (v k : Nat) (w : World) (h : OwnB w B a n c zs) (hB : B ≤ w.heap.size) (hv : v < 256 ^ k) (hv32 : v < 4294967296) (h1 : 1 ≤ k) (h8 : k ≤ 8) (hn : n ≤ 100000) :
    Calls Tryd.prog 18 #[.slice a n c, .int .u32 (v : Nat), .int .i64 (k : Nat)] w fun e w' => LayF B (.slice a n c) (zs ++ bytesB v k) w e w' := by
  have HC := (show Hid _ from rlayF_any B a n c zs v k w h hB hv h1 h8 hn)
  clear h hB hv
  go_enter Tryd.func18, Tryd.ntmps18
  go_wp2_with fail
  refine Calls.mono HC.out ?_
  rintro e w1 hP
  obtain ⟨a1, c1, rfl, ho, hp⟩ := hP.row
  have HF : Hid (LayF B (.slice a n c) (zs ++ bytesB v k) w (.returned (.slice a1 (zs ++ bytesB v k).length c1)) w1) := hP
  clear ho hp hP HC
  obtain ⟨l, hl⟩ : ∃ l, l = (zs ++ bytesB v k).length := ⟨_, rfl⟩
  rw [← hl] at HF ⊢
  clear hl
  go_wp2
  go_ret
  exact HF.out
end Go.Proofs.YtlgfbcfogcmdbaaDoor
namespace Go.Proofs.YtlgfbcfogcmdbaaDoor
open Go.RowKit
def hpB (k : Nat) : Bool := decide (k = 1 ∨ k = 2 ∨ k = 4 ∨ k = 5 ∨ k = 6 ∨ k = 9)
def hdB12 (k : Nat) : Bool := decide (k = 10 ∨ k = 12 ∨ k = 13 ∨ 14 < k)
set_option linter.unusedVariables false in
set_option maxRecDepth 100000 in
set_option maxHeartbeats 2000000 in
theorem hasParams_any (k : Nat) (hk : k < 256) (w : World) : Calls Tryd.prog 52 #[.int .u8 (k : Nat)] w fun e w' => e = .returned (.bool (hpB k)) ∧ Below w.heap.size w w' := by
  by_cases h : k = 1 ∨ k = 2 ∨ k = 4 ∨ k = 5 ∨ k = 6 ∨ k = 9
  · rw [show hpB k = true from decide_eq_true h]
    rcases h with rfl | rfl | rfl | rfl | rfl | rfl
    all_goals
      go_enter Tryd.func52, Tryd.ntmps52
      go_wp2
      go_ret
      exact ⟨rfl, Below.refl _ _⟩
  · rw [show hpB k = false from decide_eq_false h]
    have h1 : ((k : Int) == 1) = false := by simp; omega
    have h2 : ((k : Int) == 2) = false := by simp; omega
    have h3 : ((k : Int) == 4) = false := by simp; omega
    have h4 : ((k : Int) == 5) = false := by simp; omega
    have h5 : ((k : Int) == 6) = false := by simp; omega
    have h6 : ((k : Int) == 9) = false := by simp; omega
    clear h
    go_enter Tryd.func52, Tryd.ntmps52
    go_wp2
    go_ret
    exact ⟨rfl, Below.refl _ _⟩
set_option linter.unusedVariables false in
set_option maxRecDepth 100000 in
set_option maxHeartbeats 2000000 in
theorem hasData_any (k : Nat) (hk : k < 256) (w : World) : Calls Tryd.prog 53 #[.int .u8 (k : Nat)] w fun e w' => e = .returned (.bool (hdB12 k)) ∧ Below w.heap.size w w' := by
  by_cases h : k = 10 ∨ k = 12 ∨ k = 13
  · rw [show hdB12 k = true from decide_eq_true (by omega)]
    rcases h with rfl | rfl | rfl
    all_goals
      go_enter Tryd.func53, Tryd.ntmps53
      go_wp2
      go_ret
      exact ⟨rfl, Below.refl _ _⟩
  · have h1 : ((k : Int) == 10) = false := by simp; omega
    have h2 : ((k : Int) == 12) = false := by simp; omega
    have h3 : ((k : Int) == 13) = false := by simp; omega
    have e : hdB12 k = decide ((14 : Int) < (k : Int)) := by
      unfold hdB12
      by_cases h4 : 14 < k
      · rw [decide_eq_true (show k = 10 ∨ k = 12 ∨ k = 13 ∨ 14 < k by omega), decide_eq_true (show (14 : Int) < (k : Int) by omega)]
      · rw [decide_eq_false (show ¬ (k = 10 ∨ k = 12 ∨ k = 13 ∨ 14 < k) by omega), decide_eq_false (show ¬ (14 : Int) < (k : Int) by omega)]
    rw [e]
    clear h e
    go_enter Tryd.func53, Tryd.ntmps53
    go_wp2
    go_ret
    exact ⟨rfl, Below.refl _ _⟩
end Go.Proofs.YtlgfbcfogcmdbaaDoor
namespace Go.Proofs.YtlgfbcfogcmdbaaDoor
open Go.RowKit
/-- The chunk in its box, the row so far. -/
structure VaS (w : World) (cs : List Value) (V : World) (a : Option Addr) (n c : Nat) (zs : List Nat) : Prop where
  box : Stc V w.heap.size cs
  own : OwnB V (w.heap.size + 1) a n c zs
  bel : Below w.heap.size w V
theorem VaS.lay {w : World} {cs : List Value} {V V' : World} {a : Option Addr} {n c : Nat} {zs L : List Nat} {e : Ending} (h : VaS w cs V a n c zs) (hp : LayF (w.heap.size + 1) (.slice a n c) L V e V') : ∃ a' c', e = .returned (.slice a' L.length c') ∧ VaS w cs V' a' L.length c' L := by
  obtain ⟨a', c', he, ho, _⟩ := hp.row
  have hge : ∀ g, (Value.slice a n c).ownBlock = some g → w.heap.size + 1 ≤ g := fun g hg => (h.own.own.lt g hg).1
  exact ⟨a', c', he, h.box.fr hp.fr (fun hg => by have := hge _ hg; omega), ho, h.bel.trans (hp.fr.below _ h.bel.size (fun k hk => by have := hge k hk; omega))⟩
structure RowV (w : World) (L : List Nat) (e : Ending) (w' : World) : Prop where
  ex : ∃ a c, e = .returned (.slice a L.length c) ∧ OwnB w' w.heap.size a L.length c L
  bel : Below w.heap.size w w'
theorem own0 (w : World) : OwnB (w.alloc (.cells #[] 5)) w.heap.size (some ⟨w.heap.size, 0, none⟩) 0 0 [] := by
  refine ⟨rfl, ⟨by simp [vals], .inr ⟨w.heap.size, 0, #[], rfl, Nat.le_refl _, ?_, Nat.le_refl _, by unfold maxLen; omega, by simp, ?_⟩⟩, fun i => by simp⟩
  · show (w.heap.push _)[w.heap.size]? = _
    simp
  · simp [vals]
theorem VaS.start (w W1 W2 : World) (cs : List Value) (h1 : W1 = w.alloc (.cells cs.toArray 32)) (h2 : W2 = W1.alloc (.cells #[] 5)) : VaS w cs W2 (some ⟨w.heap.size + 1, 0, none⟩) 0 0 [] := by
  have b1 : Below w.heap.size w W1 := by rw [h1]; exact (Below.refl _ _).alloc (Nat.le_refl _) _
  have s1 := Stc.new w cs 32 W1 h1
  have z1 : W1.heap.size = w.heap.size + 1 := by rw [h1]; simp
  have b2 : Below W1.heap.size W1 W2 := by rw [h2]; exact (Below.refl _ _).alloc (Nat.le_refl _) _
  have o := own0 W1
  rw [← h2, z1] at o
  exact ⟨s1.below b2, o, b1.trans (b2.mono b1.size)⟩
set_option linter.unusedVariables false in
set_option maxRecDepth 100000 in
set_option maxHeartbeats 4000000 in
theorem value_tsnv (f t st ss pp tg rm os is : Nat) (b1 : Option Addr) (b2 b3 : Nat) (d1 : Option Addr) (d2 d3 : Nat) (p1 : Option Addr) (p2 p3 : Nat) (x1 : Option Addr) (x2 x3 : Nat) (w : World) (ht : t < 4294967296) :
    Calls Tryd.prog 35 #[.agg #[.int .u8 7, .int .u8 (f : Nat), .int .u32 (t : Nat), .int .u16 (st : Nat), .int .u16 (ss : Nat), .int .u32 (pp : Nat), .int .u32 (tg : Nat), .int .u32 (rm : Nat), .int .u16 (os : Nat), .int .u16 (is : Nat), .slice b1 b2 b3, .slice d1 d2 d3, .slice p1 p2 p3, .slice x1 x2 x3]] w (RowV w (bytesB t 4)) := by
  obtain ⟨W1, hW1⟩ : ∃ W1, W1 = w.alloc (.cells #[.int .u8 7, .int .u8 (f : Nat), .int .u32 (t : Nat), .int .u16 (st : Nat), .int .u16 (ss : Nat), .int .u32 (pp : Nat), .int .u32 (tg : Nat), .int .u32 (rm : Nat), .int .u16 (os : Nat), .int .u16 (is : Nat), .slice b1 b2 b3, .slice d1 d2 d3, .slice p1 p2 p3, .slice x1 x2 x3] 32) := ⟨_, rfl⟩
  obtain ⟨W2, hW2⟩ : ∃ W2, W2 = W1.alloc (.cells #[] 5) := ⟨_, rfl⟩
  have h0 := VaS.start w W1 W2 [.int .u8 7, .int .u8 (f : Nat), .int .u32 (t : Nat), .int .u16 (st : Nat), .int .u16 (ss : Nat), .int .u32 (pp : Nat), .int .u32 (tg : Nat), .int .u32 (rm : Nat), .int .u16 (os : Nat), .int .u16 (is : Nat), .slice b1 b2 b3, .slice d1 d2 d3, .slice p1 p2 p3, .slice x1 x2 x3] hW1 hW2
  have HL := (show Hid _ from rlay12_any (w.heap.size + 1) _ 0 0 [] t 4 W2 h0.own h0.box.lt (by omega) ht (by omega) (by omega) (by omega))
  have H0 := (show Hid _ from h0)
  have HD := (show Hid _ from fun W => hasData_any 7 (by omega) W)
  have HP := (show Hid _ from fun W => hasParams_any 7 (by omega) W)
  have hd7 : hdB12 7 = false := rfl
  have hp7 : hpB 7 = false := rfl
  rw [hd7] at HD
  rw [hp7] at HP
  have HW := (show Hid _ from And.intro hW1 hW2)
  clear h0 hW1 hW2 hd7 hp7
  go_enter Tryd.func35, Tryd.ntmps35
  go_wp2_with fail
  rw [← HW.out.1, ← HW.out.2]
  refine Calls.mono HL.out ?_
  clear HL HW
  rintro e w3 hp
  obtain ⟨a3, c3, rfl, h3⟩ := H0.out.lay hp
  have hl4 : ([] ++ bytesB t 4).length = 4 := by simp [bytesB_len]
  rw [hl4] at h3 ⊢
  have e4 : [] ++ bytesB t 4 = bytesB t 4 := rfl
  rw [e4] at h3
  have H3 := (show Hid _ from h3)
  have k0 := h3.box.cell 0 _ rfl
  clear hp h3 H0 hl4 e4
  go_wp2_with fail
  refine Calls.mono (HD.out w3) ?_
  rintro e w4 ⟨rfl, b4⟩
  have H4 : Hid (VaS w [.int .u8 7, .int .u8 (f : Nat), .int .u32 (t : Nat), .int .u16 (st : Nat), .int .u16 (ss : Nat), .int .u32 (pp : Nat), .int .u32 (tg : Nat), .int .u32 (rm : Nat), .int .u16 (os : Nat), .int .u16 (is : Nat), .slice b1 b2 b3, .slice d1 d2 d3, .slice p1 p2 p3, .slice x1 x2 x3] w4 a3 4 c3 (bytesB t 4)) := ⟨H3.out.box.below b4, H3.out.own.below b4, H3.out.bel.trans (b4.mono H3.out.bel.size)⟩
  have k1 := H4.out.box.cell 0 _ rfl
  clear b4 H3 HD k0
  go_wp2_with fail
  go_loopw [3, 6] (fun u3 u6 wr => u3 = .slice a3 4 c3 ∧ u6 = .int .i64 0 ∧ wr = w4) (fun _ _ _ => 0)
  case atStart => exact ⟨rfl, rfl, rfl⟩
  case round =>
    obtain ⟨rfl, rfl, rfl⟩ := hrel
    go_wp2_with fail
    refine Calls.mono (HP.out wr) ?_
    rintro e w5 ⟨rfl, b5⟩
    have HF : Hid (RowV w (bytesB t 4) (.returned (.slice a3 4 c3)) w5) := by
      have hl : (bytesB t 4).length = 4 := bytesB_len t 4
      exact ⟨⟨a3, c3, by rw [hl], by rw [hl]; exact (H4.out.own.below b5).base (by omega)⟩, H4.out.bel.trans (b5.mono H4.out.bel.size)⟩
    clear b5 H4 HP k1
    go_wp2
    go_ret
    exact HF.out
end Go.Proofs.YtlgfbcfogcmdbaaDoor
namespace Go.Proofs.YtlgfbcfogcmdbaaDoor
open Go.RowKit
set_option linter.unusedVariables false in
set_option maxRecDepth 100000 in
set_option maxHeartbeats 4000000 in
theorem value_none (k f t st ss pp tg rm os is : Nat) (b1 : Option Addr) (b2 b3 : Nat) (d1 : Option Addr) (d2 d3 : Nat) (p1 : Option Addr) (p2 p3 : Nat) (x1 : Option Addr) (x2 x3 : Nat) (w : World) (hk : k = 8 ∨ k = 11 ∨ k = 14) :
    Calls Tryd.prog 35 #[.agg #[.int .u8 (k : Nat), .int .u8 (f : Nat), .int .u32 (t : Nat), .int .u16 (st : Nat), .int .u16 (ss : Nat), .int .u32 (pp : Nat), .int .u32 (tg : Nat), .int .u32 (rm : Nat), .int .u16 (os : Nat), .int .u16 (is : Nat), .slice b1 b2 b3, .slice d1 d2 d3, .slice p1 p2 p3, .slice x1 x2 x3]] w (RowV w []) := by
  obtain ⟨W1, hW1⟩ : ∃ W1, W1 = w.alloc (.cells #[.int .u8 (k : Nat), .int .u8 (f : Nat), .int .u32 (t : Nat), .int .u16 (st : Nat), .int .u16 (ss : Nat), .int .u32 (pp : Nat), .int .u32 (tg : Nat), .int .u32 (rm : Nat), .int .u16 (os : Nat), .int .u16 (is : Nat), .slice b1 b2 b3, .slice d1 d2 d3, .slice p1 p2 p3, .slice x1 x2 x3] 32) := ⟨_, rfl⟩
  obtain ⟨W2, hW2⟩ : ∃ W2, W2 = W1.alloc (.cells #[] 5) := ⟨_, rfl⟩
  have h0 := VaS.start w W1 W2 [.int .u8 (k : Nat), .int .u8 (f : Nat), .int .u32 (t : Nat), .int .u16 (st : Nat), .int .u16 (ss : Nat), .int .u32 (pp : Nat), .int .u32 (tg : Nat), .int .u32 (rm : Nat), .int .u16 (os : Nat), .int .u16 (is : Nat), .slice b1 b2 b3, .slice d1 d2 d3, .slice p1 p2 p3, .slice x1 x2 x3] hW1 hW2
  have H0 := (show Hid _ from h0)
  have HD := (show Hid _ from fun W => hasData_any k (by omega) W)
  have HP := (show Hid _ from fun W => hasParams_any k (by omega) W)
  have hd7 : hdB12 k = false := decide_eq_false (by omega)
  have hp7 : hpB k = false := decide_eq_false (by omega)
  rw [hd7] at HD
  rw [hp7] at HP
  have HW := (show Hid _ from And.intro hW1 hW2)
  have g0 : ((k : Int) == 0) = false := by simp; omega
  have g1 : ((k : Int) == 1) = false := by simp; omega
  have g2 : ((k : Int) == 2) = false := by simp; omega
  have g3 : ((k : Int) == 3) = false := by simp; omega
  have g7 : ((k : Int) == 7) = false := by simp; omega
  clear h0 hW1 hW2 hd7 hp7 hk
  go_enter Tryd.func35, Tryd.ntmps35
  go_wp2_with fail
  rw [← HW.out.1, ← HW.out.2]
  clear HW
  refine Calls.mono (HD.out W2) ?_
  rintro e w4 ⟨rfl, b4⟩
  have H4 : Hid (VaS w [.int .u8 (k : Nat), .int .u8 (f : Nat), .int .u32 (t : Nat), .int .u16 (st : Nat), .int .u16 (ss : Nat), .int .u32 (pp : Nat), .int .u32 (tg : Nat), .int .u32 (rm : Nat), .int .u16 (os : Nat), .int .u16 (is : Nat), .slice b1 b2 b3, .slice d1 d2 d3, .slice p1 p2 p3, .slice x1 x2 x3] w4 (some ⟨w.heap.size + 1, 0, none⟩) 0 0 []) := ⟨H0.out.box.below b4, H0.out.own.below b4, H0.out.bel.trans (b4.mono H0.out.bel.size)⟩
  have k1 := H4.out.box.cell 0 _ rfl
  clear b4 H0 HD
  go_wp2_with fail
  go_loopw [3, 6] (fun u3 u6 wr => u3 = .slice (some ⟨w.heap.size + 1, 0, none⟩) 0 0 ∧ u6 = .int .i64 0 ∧ wr = w4) (fun _ _ _ => 0)
  case atStart => exact ⟨rfl, rfl, rfl⟩
  case round =>
    obtain ⟨rfl, rfl, rfl⟩ := hrel
    go_wp2_with fail
    refine Calls.mono (HP.out wr) ?_
    rintro e w5 ⟨rfl, b5⟩
    have HF : Hid (RowV w [] (.returned (.slice (some ⟨w.heap.size + 1, 0, none⟩) 0 0)) w5) := ⟨⟨_, _, rfl, (H4.out.own.below b5).base (by omega)⟩, H4.out.bel.trans (b5.mono H4.out.bel.size)⟩
    clear b5 H4 HP k1
    go_wp2
    go_ret
    exact HF.out
end Go.Proofs.YtlgfbcfogcmdbaaDoor
namespace Go.Proofs.YtlgfbcfogcmdbaaDoor
open Go.RowKit
theorem VaS.grow {w : World} {cs : List Value} {V V' : World} {a : Option Addr} {n c : Nat} {zs : List Nat} {a' : Option Addr} {n' c' : Nat} {zs' : List Nat} (h : VaS w cs V a n c zs) (ho : OwnB V' (w.heap.size + 1) a' n' c' zs') (hg : V.grownBy V' (Value.slice a n c).ownBlock) : VaS w cs V' a' n' c' zs' := by
  have hge : ∀ g, (Value.slice a n c).ownBlock = some g → w.heap.size + 1 ≤ g := fun g hg => (h.own.own.lt g hg).1
  have hf : Fr (fun b => (Value.slice a n c).ownBlock = some b) V V' := Fr.grown hg (fun k hk => hk)
  exact ⟨h.box.fr hf (fun hg => by have := hge _ hg; omega), ho, h.bel.trans (hf.below _ h.bel.size (fun k hk => by have := hge k hk; omega))⟩
theorem VaS.below {w : World} {cs : List Value} {V V' : World} {a : Option Addr} {n c : Nat} {zs : List Nat} (h : VaS w cs V a n c zs) (b : Below V.heap.size V V') : VaS w cs V' a n c zs := ⟨h.box.below b, h.own.below b, h.bel.trans (b.mono h.bel.size)⟩
theorem VaS.row {w : World} {cs : List Value} {V : World} {a : Option Addr} {n c : Nat} {zs : List Nat} (h : VaS w cs V a n c zs) : RowV w zs (.returned (.slice a n c)) V := by
  have e := h.own.len
  exact ⟨⟨a, c, by rw [e], by rw [e]; exact h.own.base (by omega)⟩, h.bel⟩
theorem VaS.call {w : World} {cs : List Value} {V : World} {a : Option Addr} {n c : Nat} {zs : List Nat} (h : VaS w cs V a n c zs) (v k : Nat) (hv : v < 256 ^ k) (hv32 : v < 4294967296) (h1 : 1 ≤ k) (h8 : k ≤ 8) (hn : n ≤ 100000) :
    Calls Tryd.prog 18 #[.slice a n c, .int .u32 (v : Nat), .int .i64 (k : Nat)] V fun e V' => ∃ a' n' c', e = .returned (.slice a' n' c') ∧ n' = n + k ∧ VaS w cs V' a' n' c' (zs ++ bytesB v k) := by
  have hlt := h.box.lt
  refine Calls.mono (rlay12_any (w.heap.size + 1) a n c zs v k V h.own (by omega) hv hv32 h1 h8 hn) ?_
  rintro e V' hP
  obtain ⟨a', c', rfl, h'⟩ := h.lay hP
  exact ⟨a', _, c', rfl, by rw [List.length_append, bytesB_len, h.own.len], h'⟩
theorem pmsV_next (ps : List Pm) (i : Nat) (p : Pm) (h : ps[i]? = some p) : pmsV (ps.take (i + 1)) = pmsB (ps.take i) ++ pmV p := by
  have e : ps.take (i + 1) = ps.take i ++ [p] := by rw [List.take_add_one, h]; rfl
  rw [e]
  unfold pmsV
  simp only [List.getLast?_append, List.getLast?_singleton, Option.some_or, List.dropLast_concat]
theorem pmsV_le (ps : List Pm) {M : Nat} (h : ∀ p ∈ ps, p.zs.length ≤ M) : (pmsV ps).length ≤ ps.length * (M + 7) := by
  have h1 := pmsB_le ps h
  rw [pms_split, List.length_append] at h1
  omega
theorem pms_pad (hd : List Nat) (ps : List Pm) (i : Nat) (h4 : hd.length % 4 = 0) : hd ++ pmsB (ps.take i) = (hd ++ pmsV (ps.take i)) ++ List.replicate (padN (hd ++ pmsV (ps.take i)).length) 0 := by
  have e : padN (hd ++ pmsV (ps.take i)).length = padN (pmsV (ps.take i)).length := by
    rw [List.length_append]
    unfold padN
    omega
  rw [e, pms_split, List.append_assoc]
end Go.Proofs.YtlgfbcfogcmdbaaDoor
namespace Go.Proofs.YtlgfbcfogcmdbaaDoor
open Go.RowKit
set_option linter.unusedVariables false in
set_option maxRecDepth 100000 in
set_option maxHeartbeats 4000000 in
theorem value_raw (k : Nat) (f t st ss pp tg rm os is : Nat) (b1 : Option Addr) (b2 b3 : Nat) (d1 : Option Addr) (d2 d3 : Nat) (p1 : Option Addr) (p2 p3 : Nat) (x1 : Option Addr) (x2 x3 : Nat) (w : World) (hk : ¬ k = 0 ∧ ¬ k = 1 ∧ ¬ k = 2 ∧ ¬ k = 3 ∧ ¬ k = 4 ∧ ¬ k = 5 ∧ ¬ k = 6 ∧ ¬ k = 7 ∧ ¬ k = 8 ∧ ¬ k = 9 ∧ ¬ k = 11 ∧ ¬ k = 14) (hkb : k < 256) {xs : List Nat} (hX : Sl w x1 x2 x3 xs) (hx : x2 ≤ 2000) :
    Calls Tryd.prog 35 #[.agg #[.int .u8 (k : Nat), .int .u8 (f : Nat), .int .u32 (t : Nat), .int .u16 (st : Nat), .int .u16 (ss : Nat), .int .u32 (pp : Nat), .int .u32 (tg : Nat), .int .u32 (rm : Nat), .int .u16 (os : Nat), .int .u16 (is : Nat), .slice b1 b2 b3, .slice d1 d2 d3, .slice p1 p2 p3, .slice x1 x2 x3]] w (RowV w xs) := by
  obtain ⟨W1, hW1⟩ : ∃ W1, W1 = w.alloc (.cells #[.int .u8 (k : Nat), .int .u8 (f : Nat), .int .u32 (t : Nat), .int .u16 (st : Nat), .int .u16 (ss : Nat), .int .u32 (pp : Nat), .int .u32 (tg : Nat), .int .u32 (rm : Nat), .int .u16 (os : Nat), .int .u16 (is : Nat), .slice b1 b2 b3, .slice d1 d2 d3, .slice p1 p2 p3, .slice x1 x2 x3] 32) := ⟨_, rfl⟩
  obtain ⟨W2, hW2⟩ : ∃ W2, W2 = W1.alloc (.cells #[] 5) := ⟨_, rfl⟩
  have H0 : Hid (VaS w [.int .u8 (k : Nat), .int .u8 (f : Nat), .int .u32 (t : Nat), .int .u16 (st : Nat), .int .u16 (ss : Nat), .int .u32 (pp : Nat), .int .u32 (tg : Nat), .int .u32 (rm : Nat), .int .u16 (os : Nat), .int .u16 (is : Nat), .slice b1 b2 b3, .slice d1 d2 d3, .slice p1 p2 p3, .slice x1 x2 x3] W2 (some ⟨w.heap.size + 1, 0, none⟩) 0 0 []) := VaS.start w W1 W2 [.int .u8 (k : Nat), .int .u8 (f : Nat), .int .u32 (t : Nat), .int .u16 (st : Nat), .int .u16 (ss : Nat), .int .u32 (pp : Nat), .int .u32 (tg : Nat), .int .u32 (rm : Nat), .int .u16 (os : Nat), .int .u16 (is : Nat), .slice b1 b2 b3, .slice d1 d2 d3, .slice p1 p2 p3, .slice x1 x2 x3] hW1 hW2
  have HW := (show Hid _ from And.intro hW1 hW2)
  clear hW1 hW2
  have HD := (show Hid _ from fun W => hasData_any k (by omega) W)
  have HP := (show Hid _ from fun W => hasParams_any k (by omega) W)
  have hd7 : hdB12 k = true := decide_eq_true (by omega)
  have hp7 : hpB k = false := decide_eq_false (by omega)
  rw [hd7] at HD
  rw [hp7] at HP
  clear hd7 hp7
  have g0 : ((k : Int) == 0) = false := by simp; omega
  have g1 : ((k : Int) == 1) = false := by simp; omega
  have g2 : ((k : Int) == 2) = false := by simp; omega
  have g3 : ((k : Int) == 3) = false := by simp; omega
  have g7 : ((k : Int) == 7) = false := by simp; omega
  clear hk
  go_enter Tryd.func35, Tryd.ntmps35
  go_wp2_with fail
  rw [← HW.out.1, ← HW.out.2]
  clear HW
  refine Calls.mono (HD.out W2) ?_
  rintro e wB ⟨rfl, bB⟩
  have HB := (show Hid _ from H0.out.below bB)
  clear bB H0 HD
  have k1 := HB.out.box.cell 0 _ rfl
  have k13 := HB.out.box.cell 13 _ rfl
  have hsl := hX.below HB.out.bel
  have hz1 : w.heap.size + 1 ≤ wB.heap.size := by have := HB.out.box.lt; omega
  have HO := (show Hid _ from HB.out.own)
  go_wp2_with (at_builtin; go_must (refine app_list2 rfl _ _ rfl (w.heap.size + 1) _ _ _ _ rfl HO.out _ _ _ _ rfl hsl (by omega) hz1 ?_))
  intro aX cX wX hoX hgX hpX
  have HA := (show Hid _ from HB.out.grow hoX hgX)
  clear k1
  have k1 := HA.out.box.cell 0 _ rfl
  clear hoX hgX hpX HB k13 hsl hz1 HO
  go_wp2_with fail
  go_loopw [3, 6] (fun u3 u6 wr => u3 = .slice aX x2 cX ∧ u6 = .int .i64 0 ∧ wr = wX) (fun _ _ _ => 0)
  case atStart => exact ⟨rfl, rfl, rfl⟩
  case round =>
    obtain ⟨rfl, rfl, rfl⟩ := hrel
    go_wp2_with fail
    refine Calls.mono (HP.out wr) ?_
    rintro e w5 ⟨rfl, b5⟩
    have hf := (HA.out.below b5).row
    try simp only [List.append_assoc, List.nil_append] at hf
    have HF := (show Hid _ from hf)
    clear hf
    clear b5 HA HP k1
    go_wp2
    go_ret
    exact HF.out
set_option linter.unusedVariables false in
set_option maxRecDepth 100000 in
set_option maxHeartbeats 4000000 in
theorem value_data (f t st ss pp tg rm os is : Nat) (b1 : Option Addr) (b2 b3 : Nat) (d1 : Option Addr) (d2 d3 : Nat) (p1 : Option Addr) (p2 p3 : Nat) (x1 : Option Addr) (x2 x3 : Nat) (w : World) {xs : List Nat} (hX : Sl w x1 x2 x3 xs) (hx : x2 ≤ 2000) (ht : t < 4294967296) (hst : st < 65536) (hss : ss < 65536) (hpp : pp < 4294967296) :
    Calls Tryd.prog 35 #[.agg #[.int .u8 0, .int .u8 (f : Nat), .int .u32 (t : Nat), .int .u16 (st : Nat), .int .u16 (ss : Nat), .int .u32 (pp : Nat), .int .u32 (tg : Nat), .int .u32 (rm : Nat), .int .u16 (os : Nat), .int .u16 (is : Nat), .slice b1 b2 b3, .slice d1 d2 d3, .slice p1 p2 p3, .slice x1 x2 x3]] w (RowV w (bytesB t 4 ++ (bytesB st 2 ++ (bytesB ss 2 ++ (bytesB pp 4 ++ xs))))) := by
  obtain ⟨W1, hW1⟩ : ∃ W1, W1 = w.alloc (.cells #[.int .u8 0, .int .u8 (f : Nat), .int .u32 (t : Nat), .int .u16 (st : Nat), .int .u16 (ss : Nat), .int .u32 (pp : Nat), .int .u32 (tg : Nat), .int .u32 (rm : Nat), .int .u16 (os : Nat), .int .u16 (is : Nat), .slice b1 b2 b3, .slice d1 d2 d3, .slice p1 p2 p3, .slice x1 x2 x3] 32) := ⟨_, rfl⟩
  obtain ⟨W2, hW2⟩ : ∃ W2, W2 = W1.alloc (.cells #[] 5) := ⟨_, rfl⟩
  have H0 : Hid (VaS w [.int .u8 0, .int .u8 (f : Nat), .int .u32 (t : Nat), .int .u16 (st : Nat), .int .u16 (ss : Nat), .int .u32 (pp : Nat), .int .u32 (tg : Nat), .int .u32 (rm : Nat), .int .u16 (os : Nat), .int .u16 (is : Nat), .slice b1 b2 b3, .slice d1 d2 d3, .slice p1 p2 p3, .slice x1 x2 x3] W2 (some ⟨w.heap.size + 1, 0, none⟩) 0 0 []) := VaS.start w W1 W2 [.int .u8 0, .int .u8 (f : Nat), .int .u32 (t : Nat), .int .u16 (st : Nat), .int .u16 (ss : Nat), .int .u32 (pp : Nat), .int .u32 (tg : Nat), .int .u32 (rm : Nat), .int .u16 (os : Nat), .int .u16 (is : Nat), .slice b1 b2 b3, .slice d1 d2 d3, .slice p1 p2 p3, .slice x1 x2 x3] hW1 hW2
  have HW := (show Hid _ from And.intro hW1 hW2)
  clear hW1 hW2
  have HP := (show Hid _ from fun W => hasParams_any 0 (by omega) W)
  have hp7 : hpB 0 = false := rfl
  rw [hp7] at HP
  clear hp7
  have HN := (show Hid _ from H0.out.call t 4 (by omega) (by omega) (by omega) (by omega) (by omega))
  go_enter Tryd.func35, Tryd.ntmps35
  go_wp2_with fail
  rw [← HW.out.1, ← HW.out.2]
  clear HW
  refine Calls.mono HN.out ?_
  clear HN
  rintro e w1v hP
  obtain ⟨a1, n1, c1, rfl, hn1, h1⟩ := hP
  have H1 := (show Hid _ from h1)
  have hb1 : n1 ≤ 4 := by omega
  clear hn1 h1 H0
  have k1 := H1.out.box.cell 3 _ rfl
  have HN := (show Hid _ from H1.out.call st 2 (by omega) (by omega) (by omega) (by omega) (by omega))
  go_wp2_with fail
  refine Calls.mono HN.out ?_
  clear HN k1
  rintro e w2v hP
  obtain ⟨a2, n2, c2, rfl, hn2, h2⟩ := hP
  have H2 := (show Hid _ from h2)
  have hb2 : n2 ≤ 6 := by omega
  clear hn2 h2 H1 hb1
  have k1 := H2.out.box.cell 4 _ rfl
  have HN := (show Hid _ from H2.out.call ss 2 (by omega) (by omega) (by omega) (by omega) (by omega))
  go_wp2_with fail
  refine Calls.mono HN.out ?_
  clear HN k1
  rintro e w3v hP
  obtain ⟨a3, n3, c3, rfl, hn3, h3⟩ := hP
  have H3 := (show Hid _ from h3)
  have hb3 : n3 ≤ 8 := by omega
  clear hn3 h3 H2 hb2
  have k1 := H3.out.box.cell 5 _ rfl
  have HN := (show Hid _ from H3.out.call pp 4 (by omega) (by omega) (by omega) (by omega) (by omega))
  go_wp2_with fail
  refine Calls.mono HN.out ?_
  clear HN k1
  rintro e w4v hP
  obtain ⟨a4, n4, c4, rfl, hn4, h4⟩ := hP
  have H4 := (show Hid _ from h4)
  have hb4 : n4 ≤ 12 := by omega
  clear hn4 h4 H3 hb3
  have k1 := H4.out.box.cell 0 _ rfl
  have k13 := H4.out.box.cell 13 _ rfl
  have hsl := hX.below H4.out.bel
  have hz1 : w.heap.size + 1 ≤ w4v.heap.size := by have := H4.out.box.lt; omega
  have HO := (show Hid _ from H4.out.own)
  go_wp2_with (at_builtin; go_must (refine app_list2 rfl _ _ rfl (w.heap.size + 1) _ _ _ _ rfl HO.out _ _ _ _ rfl hsl (by omega) hz1 ?_))
  intro aX cX wX hoX hgX hpX
  have HA := (show Hid _ from H4.out.grow hoX hgX)
  clear k1
  have k1 := HA.out.box.cell 0 _ rfl
  clear hoX hgX hpX H4 k13 hsl hz1 HO
  go_wp2_with fail
  go_loopw [3, 6] (fun u3 u6 wr => u3 = .slice aX (n4 + x2) cX ∧ u6 = .int .i64 0 ∧ wr = wX) (fun _ _ _ => 0)
  case atStart => exact ⟨rfl, rfl, rfl⟩
  case round =>
    obtain ⟨rfl, rfl, rfl⟩ := hrel
    go_wp2_with fail
    refine Calls.mono (HP.out wr) ?_
    rintro e w5 ⟨rfl, b5⟩
    have hf := (HA.out.below b5).row
    try simp only [List.append_assoc, List.nil_append] at hf
    have HF := (show Hid _ from hf)
    clear hf
    clear b5 HA HP k1
    go_wp2
    go_ret
    exact HF.out
end Go.Proofs.YtlgfbcfogcmdbaaDoor
namespace Go.Proofs.YtlgfbcfogcmdbaaDoor
open Go.RowKit
set_option linter.unusedVariables false in
set_option maxRecDepth 100000 in
set_option maxHeartbeats 4000000 in
theorem value_prms (k : Nat) (f t st ss pp tg rm os is : Nat) (b1 : Option Addr) (b2 b3 : Nat) (d1 : Option Addr) (d2 d3 : Nat) (p1 : Option Addr) (p2 p3 : Nat) (x1 : Option Addr) (x2 x3 : Nat) (w : World) (hk : k = 4 ∨ k = 5 ∨ k = 6 ∨ k = 9) {ps : List Pm} (hPm : PmR w p1 p2 p3 ps) (hp16 : p2 ≤ 16) (hpm : ∀ p ∈ ps, p.zs.length ≤ 2000) :
    Calls Tryd.prog 35 #[.agg #[.int .u8 (k : Nat), .int .u8 (f : Nat), .int .u32 (t : Nat), .int .u16 (st : Nat), .int .u16 (ss : Nat), .int .u32 (pp : Nat), .int .u32 (tg : Nat), .int .u32 (rm : Nat), .int .u16 (os : Nat), .int .u16 (is : Nat), .slice b1 b2 b3, .slice d1 d2 d3, .slice p1 p2 p3, .slice x1 x2 x3]] w (RowV w (pmsV ps)) := by
  obtain ⟨W1, hW1⟩ : ∃ W1, W1 = w.alloc (.cells #[.int .u8 (k : Nat), .int .u8 (f : Nat), .int .u32 (t : Nat), .int .u16 (st : Nat), .int .u16 (ss : Nat), .int .u32 (pp : Nat), .int .u32 (tg : Nat), .int .u32 (rm : Nat), .int .u16 (os : Nat), .int .u16 (is : Nat), .slice b1 b2 b3, .slice d1 d2 d3, .slice p1 p2 p3, .slice x1 x2 x3] 32) := ⟨_, rfl⟩
  obtain ⟨W2, hW2⟩ : ∃ W2, W2 = W1.alloc (.cells #[] 5) := ⟨_, rfl⟩
  have H0 : Hid (VaS w [.int .u8 (k : Nat), .int .u8 (f : Nat), .int .u32 (t : Nat), .int .u16 (st : Nat), .int .u16 (ss : Nat), .int .u32 (pp : Nat), .int .u32 (tg : Nat), .int .u32 (rm : Nat), .int .u16 (os : Nat), .int .u16 (is : Nat), .slice b1 b2 b3, .slice d1 d2 d3, .slice p1 p2 p3, .slice x1 x2 x3] W2 (some ⟨w.heap.size + 1, 0, none⟩) 0 0 []) := VaS.start w W1 W2 [.int .u8 (k : Nat), .int .u8 (f : Nat), .int .u32 (t : Nat), .int .u16 (st : Nat), .int .u16 (ss : Nat), .int .u32 (pp : Nat), .int .u32 (tg : Nat), .int .u32 (rm : Nat), .int .u16 (os : Nat), .int .u16 (is : Nat), .slice b1 b2 b3, .slice d1 d2 d3, .slice p1 p2 p3, .slice x1 x2 x3] hW1 hW2
  have HW := (show Hid _ from And.intro hW1 hW2)
  clear hW1 hW2
  have HD := (show Hid _ from fun W => hasData_any k (by omega) W)
  have HP := (show Hid _ from fun W => hasParams_any k (by omega) W)
  have hd7 : hdB12 k = false := decide_eq_false (by omega)
  have hp7 : hpB k = true := decide_eq_true (by omega)
  rw [hd7] at HD
  rw [hp7] at HP
  clear hd7 hp7
  have g0 : ((k : Int) == 0) = false := by simp; omega
  have g1 : ((k : Int) == 1) = false := by simp; omega
  have g2 : ((k : Int) == 2) = false := by simp; omega
  have g3 : ((k : Int) == 3) = false := by simp; omega
  have g7 : ((k : Int) == 7) = false := by simp; omega
  clear hk
  obtain ⟨hh, hhh⟩ : ∃ hh : List Nat, hh = [] := ⟨_, rfl⟩
  have HH4 : Hid (hh.length % 4 = 0) := by rw [hhh]; rfl
  have hh2 : hh.length ≤ 20 := by rw [hhh]; simp
  rw [← hhh] at H0
  rw [show pmsV ps = hh ++ pmsV ps from by rw [hhh]; rfl]
  clear hhh
  go_enter Tryd.func35, Tryd.ntmps35
  go_wp2_with fail
  rw [← HW.out.1, ← HW.out.2]
  clear HW
  refine Calls.mono (HD.out W2) ?_
  rintro e wA ⟨rfl, bA⟩
  have HA := (show Hid _ from H0.out.below bA)
  clear bA H0 HD
  have k1 := HA.out.box.cell 0 _ rfl
  have hcap := hPm.cap
  have hlen := hPm.len
  have HPm := (show Hid _ from And.intro hPm hpm)
  have HS0 : Hid (VaS w [.int .u8 (k : Nat), .int .u8 (f : Nat), .int .u32 (t : Nat), .int .u16 (st : Nat), .int .u16 (ss : Nat), .int .u32 (pp : Nat), .int .u32 (tg : Nat), .int .u32 (rm : Nat), .int .u16 (os : Nat), .int .u16 (is : Nat), .slice b1 b2 b3, .slice d1 d2 d3, .slice p1 p2 p3, .slice x1 x2 x3] wA (some ⟨w.heap.size + 1, 0, none⟩) 0 0 (hh ++ pmsV (ps.take 0))) := by
    show VaS _ _ _ _ _ _ (hh ++ [])
    rw [List.append_nil]
    exact HA.out
  clear hPm hpm HA
  go_wp2_with fail
  go_loopw [3, 6] (fun u3 u6 wr => ∃ (i : Nat) (a : Option Addr) (n c : Nat), i ≤ p2 ∧ u6 = .int .i64 (i : Nat) ∧ u3 = .slice a n c ∧ VaS w [.int .u8 (k : Nat), .int .u8 (f : Nat), .int .u32 (t : Nat), .int .u16 (st : Nat), .int .u16 (ss : Nat), .int .u32 (pp : Nat), .int .u32 (tg : Nat), .int .u32 (rm : Nat), .int .u16 (os : Nat), .int .u16 (is : Nat), .slice b1 b2 b3, .slice d1 d2 d3, .slice p1 p2 p3, .slice x1 x2 x3] wr a n c (hh ++ pmsV (ps.take i))) (fun _ u6 _ => p2 - (intOf u6).toNat)
  case atStart => exact ⟨0, _, _, _, by omega, rfl, rfl, HS0.out⟩
  case round =>
    obtain ⟨i, a, n, c, hin, rfl, rfl, hS⟩ := hrel
    have HS := (show Hid _ from hS)
    clear hS HS0 k1
    have k1 := HS.out.box.cell 0 _ rfl
    go_wp2_with fail
    refine Calls.mono (HP.out wr) ?_
    rintro e w5 ⟨rfl, b5⟩
    have HT := (show Hid _ from HS.out.below b5)
    clear b5 HS k1
    have k12 := HT.out.box.cell 12 _ rfl
    by_cases hlt : i < p2
    · have hlt1 : (i : Int) < (p2 : Int) := by omega
      obtain ⟨p, hpi⟩ : ∃ p, ps[i]? = some p := ⟨_, List.getElem?_eq_getElem (by omega)⟩
      obtain ⟨b, off, hab, hbl, hrow⟩ : ∃ b off, p1 = some ⟨b, off, none⟩ ∧ b < w.heap.size ∧ ∀ i p, ps[i]? = some p → p.k < 65536 ∧ ∃ va vc, w.cell? ⟨b, off + i * 2, none⟩ = some (.int .u16 (p.k : Nat)) ∧ w.cell? ⟨b, off + i * 2 + 1, none⟩ = some (.slice va p.zs.length vc) ∧ Sl w va p.zs.length vc p.zs := by
        rcases HPm.out.1.at_ with e | e
        · omega
        · exact e
      obtain ⟨hkb, va, vc, c0, c1, hsl⟩ := hrow i p hpi
      have hzl := HPm.out.2 p (List.mem_of_getElem? hpi)
      have hvl := pmsV_le (ps.take i) (M := 2000) (fun q hq => HPm.out.2 q (List.mem_of_mem_take hq))
      have hvl2 : (pmsV (ps.take i)).length ≤ 16 * 2007 := Nat.le_trans hvl (by rw [List.length_take]; exact Nat.mul_le_mul_right _ (by omega))
      obtain ⟨yy, hyy⟩ : ∃ yy, yy = hh ++ pmsV (ps.take i) := ⟨_, rfl⟩
      have hyl : yy.length ≤ 40000 := by rw [hyy, List.length_append]; omega
      have HPD := (show Hid _ from pms_pad hh ps i HH4.out)
      have HNX := (show Hid _ from pmsV_next ps i p hpi)
      rw [← hyy] at HPD HT
      have hT := HT.out
      have hny := hT.own.len
      obtain ⟨pk, pz⟩ := p
      dsimp only at hkb c0 c1 hsl hzl HNX
      have HC := (show Hid _ from And.intro c0 (And.intro c1 hsl))
      have HN1 : Hid (yy.length = n) := hny
      obtain ⟨W5, hW5⟩ : ∃ W5, W5 = w5 := ⟨_, rfl⟩
      subst hW5
      have HT0 : Hid (VaS w [.int .u8 (k : Nat), .int .u8 (f : Nat), .int .u32 (t : Nat), .int .u16 (st : Nat), .int .u16 (ss : Nat), .int .u32 (pp : Nat), .int .u32 (tg : Nat), .int .u32 (rm : Nat), .int .u16 (os : Nat), .int .u16 (is : Nat), .slice b1 b2 b3, .slice d1 d2 d3, .slice p1 p2 p3, .slice x1 x2 x3] W5 a n c (yy ++ List.replicate 0 0)) := by
        show VaS _ _ _ _ _ _ (yy ++ [])
        rw [List.append_nil]
        exact hT
      have hyl1 : n ≤ 40000 := by omega
      clear hT hny hvl hvl2 hyy HT hrow hsl c0 c1 hpi hyl
      go_wp2_with fail
      go_loopw [3] (fun u3 wr => ∃ (j : Nat) (a : Option Addr) (n' c : Nat), j ≤ padN yy.length ∧ u3 = .slice a n' c ∧ VaS w [.int .u8 (k : Nat), .int .u8 (f : Nat), .int .u32 (t : Nat), .int .u16 (st : Nat), .int .u16 (ss : Nat), .int .u32 (pp : Nat), .int .u32 (tg : Nat), .int .u32 (rm : Nat), .int .u16 (os : Nat), .int .u16 (is : Nat), .slice b1 b2 b3, .slice d1 d2 d3, .slice p1 p2 p3, .slice x1 x2 x3] wr a n' c (yy ++ List.replicate j 0)) (fun u3 _ => match u3 with | .slice _ n' _ => n + 4 - n' | _ => 0)
      case atStart => exact ⟨0, _, _, _, Nat.zero_le _, rfl, HT0.out⟩
      case round =>
        obtain ⟨j, a2, n2, c2, hj, rfl, hS⟩ := hrel
        have hn2 : n2 = n + j := by
          have := hS.own.len
          rw [List.length_append, List.length_replicate, HN1.out] at this
          omega
        have hj3 := padN_lt yy.length
        have hpd : padN yy.length = (4 - n % 4) % 4 := by rw [HN1.out]; rfl
        have HS := (show Hid _ from hS)
        clear hS HT0
        by_cases hm : n2 % 4 = 0
        · have hm1 : (((n2 : Nat) : Int) % 4 != 0) = false := by simp; omega
          have ej : j = padN yy.length := by omega
          have hT := HS.out
          rw [ej, ← HPD.out] at hT
          have HT := (show Hid _ from hT)
          have hbn : n2 ≤ 40010 := by omega
          have hC := HC.out
          have k0 := (hT.bel.cell (p := ⟨b, off + i * 2, none⟩) hbl).trans hC.1
          have k12 := hT.box.cell 12 _ rfl
          have HN := (show Hid _ from HT.out.call pk 2 (by omega) (by omega) (by omega) (by omega) (by omega))
          subst hab
          clear hT hm hpd ej hj hC HS HPD hj3 hn2
          go_wp2_with fail
          refine Calls.mono HN.out ?_
          clear HN k0 k12 hm1
          rintro e w6 hP
          obtain ⟨a6, n6, c6, rfl, hn6, h6⟩ := hP
          have hb6 : n6 ≤ 40012 := by omega
          have H6 := (show Hid _ from h6)
          have k0 := (h6.bel.cell (p := ⟨b, off + i * 2 + 1, none⟩) hbl).trans HC.out.2.1
          have k12 := h6.box.cell 12 _ rfl
          have HN := (show Hid _ from h6.call (4 + pz.length) 2 (by omega) (by omega) (by omega) (by omega) (by omega))
          obtain ⟨m, hm⟩ : ∃ m, m = pz.length := ⟨_, rfl⟩
          have HM := (show Hid _ from hm)
          rw [← hm] at HN k0 hzl
          rw [show ((4 + m : Nat) : Int) = 4 + (m : Int) from by omega] at HN
          have hw4 : IntKind.u32.wrap (4 + (m : Int)) = 4 + (m : Int) := by rw [IntKind.wrap_u32]; omega
          clear hn6 h6 hm HT
          go_wp2_with fail
          refine Calls.mono HN.out ?_
          clear HN k0 k12 hw4
          rintro e w7 hP
          obtain ⟨a7, n7, c7, rfl, hn7, h7⟩ := hP
          have hb7 : n7 ≤ 40014 := by omega
          have H7 := (show Hid _ from h7)
          have k0 := (h7.bel.cell (p := ⟨b, off + i * 2 + 1, none⟩) hbl).trans HC.out.2.1
          have k12 := h7.box.cell 12 _ rfl
          have hsl := HC.out.2.2.below h7.bel
          rw [← HM.out] at k0 hsl
          have HO := (show Hid _ from h7.own)
          have hz1 : w.heap.size + 1 ≤ w7.heap.size := by have := h7.box.lt; omega
          clear hn7 h7 H6
          go_wp2_with (at_builtin; go_must (refine app_list2 rfl _ _ rfl (w.heap.size + 1) _ _ _ _ rfl HO.out _ _ _ _ rfl hsl (by omega) hz1 ?_))
          intro a8 c8 w8 ho8 hg8 hp8
          have h8 := H7.out.grow ho8 hg8
          have e8 : hh ++ (pmsB (ps.take i) ++ (bytesB pk 2 ++ (bytesB (4 + m) 2 ++ pz))) = hh ++ pmsV (ps.take (i + 1)) := by
            rw [HNX.out]
            unfold pmV
            dsimp only
            rw [← HM.out]
          try simp only [List.append_assoc] at h8
          rw [e8] at h8
          have HF := (show Hid _ from h8)
          clear h8 e8 ho8 hg8 hp8 H7 k0 k12 hsl hz1 HO
          go_wp2
          go_roundw
          case rel => exact ⟨i + 1, _, _, _, by omega, by go_num, rfl, HF.out⟩
          case measure => simp [intOf]; omega
        · have hm1 : (((n2 : Nat) : Int) % 4 != 0) = true := by simp; omega
          have hz1 : w.heap.size + 1 ≤ wr.heap.size := by have := HS.out.box.lt; omega
          have hjl : j < padN yy.length := by omega
          have HJ : Hid (j < padN yy.length ∧ n2 ≤ n + 3) := ⟨hjl, by omega⟩
          have HO := (show Hid _ from HS.out.own)
          have hb2 : n2 ≤ 40010 := by omega
          clear hjl hpd hj3 hn2 hm hj
          go_wp2_with (at_builtin; go_must (refine app_list2 rfl _ _ rfl (w.heap.size + 1) _ _ _ _ rfl (HO.out.alloc _) _ 1 1 [0] rfl (sl_one wr 5 _ 0 rfl (by decide)) (by omega) (by simp; omega) ?_))
          intro a8 c8 w8 ho8 hg8 hp8
          have h8 := (HS.out.below ((Below.refl _ _).alloc (Nat.le_refl _) _)).grow ho8 hg8
          have e8 : yy ++ (List.replicate j 0 ++ [0]) = yy ++ List.replicate (j + 1) 0 := by rw [List.replicate_succ']
          try simp only [List.append_assoc] at h8
          rw [e8] at h8
          have HF := (show Hid _ from h8)
          clear h8 e8 ho8 hg8 hp8 HS hz1 HO hb2 hm1
          go_wp2
          go_roundw
          case rel => exact ⟨j + 1, _, _, _, HJ.out.1, rfl, HF.out⟩
          case measure =>
            have := HJ.out.2
            show n + 4 - (n2 + 1) < n + 4 - n2
            omega
    · have hlt1 : ¬ (i : Int) < (p2 : Int) := by omega
      have hF := HT.out.row
      rw [show ps.take i = ps from List.take_of_length_le (by omega)] at hF
      have HF := (show Hid _ from hF)
      clear hF HT HP
      go_wp2
      go_ret
      exact HF.out
set_option linter.unusedVariables false in
set_option maxRecDepth 100000 in
set_option maxHeartbeats 4000000 in
theorem value_init1 (f t st ss pp tg rm os is : Nat) (b1 : Option Addr) (b2 b3 : Nat) (d1 : Option Addr) (d2 d3 : Nat) (p1 : Option Addr) (p2 p3 : Nat) (x1 : Option Addr) (x2 x3 : Nat) (w : World) (ht : t < 4294967296) (htg : tg < 4294967296) (hrm : rm < 4294967296) (hos : os < 65536) (his : is < 65536) {ps : List Pm} (hPm : PmR w p1 p2 p3 ps) (hp16 : p2 ≤ 16) (hpm : ∀ p ∈ ps, p.zs.length ≤ 2000) :
    Calls Tryd.prog 35 #[.agg #[.int .u8 1, .int .u8 (f : Nat), .int .u32 (t : Nat), .int .u16 (st : Nat), .int .u16 (ss : Nat), .int .u32 (pp : Nat), .int .u32 (tg : Nat), .int .u32 (rm : Nat), .int .u16 (os : Nat), .int .u16 (is : Nat), .slice b1 b2 b3, .slice d1 d2 d3, .slice p1 p2 p3, .slice x1 x2 x3]] w (RowV w (bytesB tg 4 ++ (bytesB rm 4 ++ (bytesB os 2 ++ (bytesB is 2 ++ (bytesB t 4 ++ pmsV ps)))))) := by
  obtain ⟨W1, hW1⟩ : ∃ W1, W1 = w.alloc (.cells #[.int .u8 1, .int .u8 (f : Nat), .int .u32 (t : Nat), .int .u16 (st : Nat), .int .u16 (ss : Nat), .int .u32 (pp : Nat), .int .u32 (tg : Nat), .int .u32 (rm : Nat), .int .u16 (os : Nat), .int .u16 (is : Nat), .slice b1 b2 b3, .slice d1 d2 d3, .slice p1 p2 p3, .slice x1 x2 x3] 32) := ⟨_, rfl⟩
  obtain ⟨W2, hW2⟩ : ∃ W2, W2 = W1.alloc (.cells #[] 5) := ⟨_, rfl⟩
  have H0 : Hid (VaS w [.int .u8 1, .int .u8 (f : Nat), .int .u32 (t : Nat), .int .u16 (st : Nat), .int .u16 (ss : Nat), .int .u32 (pp : Nat), .int .u32 (tg : Nat), .int .u32 (rm : Nat), .int .u16 (os : Nat), .int .u16 (is : Nat), .slice b1 b2 b3, .slice d1 d2 d3, .slice p1 p2 p3, .slice x1 x2 x3] W2 (some ⟨w.heap.size + 1, 0, none⟩) 0 0 []) := VaS.start w W1 W2 [.int .u8 1, .int .u8 (f : Nat), .int .u32 (t : Nat), .int .u16 (st : Nat), .int .u16 (ss : Nat), .int .u32 (pp : Nat), .int .u32 (tg : Nat), .int .u32 (rm : Nat), .int .u16 (os : Nat), .int .u16 (is : Nat), .slice b1 b2 b3, .slice d1 d2 d3, .slice p1 p2 p3, .slice x1 x2 x3] hW1 hW2
  have HW := (show Hid _ from And.intro hW1 hW2)
  clear hW1 hW2
  have HD := (show Hid _ from fun W => hasData_any 1 (by omega) W)
  have HP := (show Hid _ from fun W => hasParams_any 1 (by omega) W)
  have hd7 : hdB12 1 = false := decide_eq_false (by omega)
  have hp7 : hpB 1 = true := decide_eq_true (by omega)
  rw [hd7] at HD
  rw [hp7] at HP
  clear hd7 hp7
  obtain ⟨hh, hhh⟩ : ∃ hh : List Nat, hh = bytesB tg 4 ++ (bytesB rm 4 ++ (bytesB os 2 ++ (bytesB is 2 ++ bytesB t 4))) := ⟨_, rfl⟩
  have hh4 : hh.length % 4 = 0 := by rw [hhh]; simp [bytesB_len]
  have HH4 := (show Hid _ from hh4)
  have hh2 : hh.length ≤ 20 := by rw [hhh]; simp [bytesB_len]
  have HHH := (show Hid _ from hhh)
  rw [show bytesB tg 4 ++ (bytesB rm 4 ++ (bytesB os 2 ++ (bytesB is 2 ++ (bytesB t 4 ++ pmsV ps)))) = hh ++ pmsV ps from by rw [hhh]; simp only [List.append_assoc]]
  clear hhh hh4
  have HN := (show Hid _ from H0.out.call tg 4 (by omega) (by omega) (by omega) (by omega) (by omega))
  go_enter Tryd.func35, Tryd.ntmps35
  go_wp2_with fail
  rw [← HW.out.1, ← HW.out.2]
  clear HW
  refine Calls.mono HN.out ?_
  clear HN
  rintro e w1v hP
  obtain ⟨a1, n1, c1, rfl, hn1, h1⟩ := hP
  have H1 := (show Hid _ from h1)
  have hb1 : n1 ≤ 4 := by omega
  clear hn1 h1 H0
  have k1 := H1.out.box.cell 7 _ rfl
  have HN := (show Hid _ from H1.out.call rm 4 (by omega) (by omega) (by omega) (by omega) (by omega))
  go_wp2_with fail
  refine Calls.mono HN.out ?_
  clear HN k1
  rintro e w2v hP
  obtain ⟨a2, n2, c2, rfl, hn2, h2⟩ := hP
  have H2 := (show Hid _ from h2)
  have hb2 : n2 ≤ 8 := by omega
  clear hn2 h2 H1 hb1
  have k1 := H2.out.box.cell 8 _ rfl
  have HN := (show Hid _ from H2.out.call os 2 (by omega) (by omega) (by omega) (by omega) (by omega))
  go_wp2_with fail
  refine Calls.mono HN.out ?_
  clear HN k1
  rintro e w3v hP
  obtain ⟨a3, n3, c3, rfl, hn3, h3⟩ := hP
  have H3 := (show Hid _ from h3)
  have hb3 : n3 ≤ 10 := by omega
  clear hn3 h3 H2 hb2
  have k1 := H3.out.box.cell 9 _ rfl
  have HN := (show Hid _ from H3.out.call is 2 (by omega) (by omega) (by omega) (by omega) (by omega))
  go_wp2_with fail
  refine Calls.mono HN.out ?_
  clear HN k1
  rintro e w4v hP
  obtain ⟨a4, n4, c4, rfl, hn4, h4⟩ := hP
  have H4 := (show Hid _ from h4)
  have hb4 : n4 ≤ 12 := by omega
  clear hn4 h4 H3 hb3
  have k1 := H4.out.box.cell 2 _ rfl
  have HN := (show Hid _ from H4.out.call t 4 (by omega) (by omega) (by omega) (by omega) (by omega))
  go_wp2_with fail
  refine Calls.mono HN.out ?_
  clear HN k1
  rintro e w5v hP
  obtain ⟨a5, n5, c5, rfl, hn5, h5⟩ := hP
  have H5 := (show Hid _ from h5)
  have hb5 : n5 ≤ 16 := by omega
  clear hn5 h5 H4 hb4
  have k1 := H5.out.box.cell 0 _ rfl
  go_wp2_with fail
  refine Calls.mono (HD.out w5v) ?_
  rintro e wA ⟨rfl, bA⟩
  have HA := (show Hid _ from H5.out.below bA)
  clear bA H5 HD k1
  have k1 := HA.out.box.cell 0 _ rfl
  have hA := HA.out
  try simp only [List.append_assoc, List.nil_append] at hA
  rw [← HHH.out] at hA
  replace HA := (show Hid _ from hA)
  clear hA
  have hcap := hPm.cap
  have hlen := hPm.len
  have HPm := (show Hid _ from And.intro hPm hpm)
  have HS0 : Hid (VaS w [.int .u8 1, .int .u8 (f : Nat), .int .u32 (t : Nat), .int .u16 (st : Nat), .int .u16 (ss : Nat), .int .u32 (pp : Nat), .int .u32 (tg : Nat), .int .u32 (rm : Nat), .int .u16 (os : Nat), .int .u16 (is : Nat), .slice b1 b2 b3, .slice d1 d2 d3, .slice p1 p2 p3, .slice x1 x2 x3] wA a5 n5 c5 (hh ++ pmsV (ps.take 0))) := by
    show VaS _ _ _ _ _ _ (hh ++ [])
    rw [List.append_nil]
    exact HA.out
  clear hPm hpm HA
  go_wp2_with fail
  go_loopw [3, 6] (fun u3 u6 wr => ∃ (i : Nat) (a : Option Addr) (n c : Nat), i ≤ p2 ∧ u6 = .int .i64 (i : Nat) ∧ u3 = .slice a n c ∧ VaS w [.int .u8 1, .int .u8 (f : Nat), .int .u32 (t : Nat), .int .u16 (st : Nat), .int .u16 (ss : Nat), .int .u32 (pp : Nat), .int .u32 (tg : Nat), .int .u32 (rm : Nat), .int .u16 (os : Nat), .int .u16 (is : Nat), .slice b1 b2 b3, .slice d1 d2 d3, .slice p1 p2 p3, .slice x1 x2 x3] wr a n c (hh ++ pmsV (ps.take i))) (fun _ u6 _ => p2 - (intOf u6).toNat)
  case atStart => exact ⟨0, _, _, _, by omega, rfl, rfl, HS0.out⟩
  case round =>
    obtain ⟨i, a, n, c, hin, rfl, rfl, hS⟩ := hrel
    have HS := (show Hid _ from hS)
    clear hS HS0 k1
    have k1 := HS.out.box.cell 0 _ rfl
    go_wp2_with fail
    refine Calls.mono (HP.out wr) ?_
    rintro e w5 ⟨rfl, b5⟩
    have HT := (show Hid _ from HS.out.below b5)
    clear b5 HS k1
    have k12 := HT.out.box.cell 12 _ rfl
    by_cases hlt : i < p2
    · have hlt1 : (i : Int) < (p2 : Int) := by omega
      obtain ⟨p, hpi⟩ : ∃ p, ps[i]? = some p := ⟨_, List.getElem?_eq_getElem (by omega)⟩
      obtain ⟨b, off, hab, hbl, hrow⟩ : ∃ b off, p1 = some ⟨b, off, none⟩ ∧ b < w.heap.size ∧ ∀ i p, ps[i]? = some p → p.k < 65536 ∧ ∃ va vc, w.cell? ⟨b, off + i * 2, none⟩ = some (.int .u16 (p.k : Nat)) ∧ w.cell? ⟨b, off + i * 2 + 1, none⟩ = some (.slice va p.zs.length vc) ∧ Sl w va p.zs.length vc p.zs := by
        rcases HPm.out.1.at_ with e | e
        · omega
        · exact e
      obtain ⟨hkb, va, vc, c0, c1, hsl⟩ := hrow i p hpi
      have hzl := HPm.out.2 p (List.mem_of_getElem? hpi)
      have hvl := pmsV_le (ps.take i) (M := 2000) (fun q hq => HPm.out.2 q (List.mem_of_mem_take hq))
      have hvl2 : (pmsV (ps.take i)).length ≤ 16 * 2007 := Nat.le_trans hvl (by rw [List.length_take]; exact Nat.mul_le_mul_right _ (by omega))
      obtain ⟨yy, hyy⟩ : ∃ yy, yy = hh ++ pmsV (ps.take i) := ⟨_, rfl⟩
      have hyl : yy.length ≤ 40000 := by rw [hyy, List.length_append]; omega
      have HPD := (show Hid _ from pms_pad hh ps i HH4.out)
      have HNX := (show Hid _ from pmsV_next ps i p hpi)
      rw [← hyy] at HPD HT
      have hT := HT.out
      have hny := hT.own.len
      obtain ⟨pk, pz⟩ := p
      dsimp only at hkb c0 c1 hsl hzl HNX
      have HC := (show Hid _ from And.intro c0 (And.intro c1 hsl))
      have HN1 : Hid (yy.length = n) := hny
      obtain ⟨W5, hW5⟩ : ∃ W5, W5 = w5 := ⟨_, rfl⟩
      subst hW5
      have HT0 : Hid (VaS w [.int .u8 1, .int .u8 (f : Nat), .int .u32 (t : Nat), .int .u16 (st : Nat), .int .u16 (ss : Nat), .int .u32 (pp : Nat), .int .u32 (tg : Nat), .int .u32 (rm : Nat), .int .u16 (os : Nat), .int .u16 (is : Nat), .slice b1 b2 b3, .slice d1 d2 d3, .slice p1 p2 p3, .slice x1 x2 x3] W5 a n c (yy ++ List.replicate 0 0)) := by
        show VaS _ _ _ _ _ _ (yy ++ [])
        rw [List.append_nil]
        exact hT
      have hyl1 : n ≤ 40000 := by omega
      clear hT hny hvl hvl2 hyy HT hrow hsl c0 c1 hpi hyl
      go_wp2_with fail
      go_loopw [3] (fun u3 wr => ∃ (j : Nat) (a : Option Addr) (n' c : Nat), j ≤ padN yy.length ∧ u3 = .slice a n' c ∧ VaS w [.int .u8 1, .int .u8 (f : Nat), .int .u32 (t : Nat), .int .u16 (st : Nat), .int .u16 (ss : Nat), .int .u32 (pp : Nat), .int .u32 (tg : Nat), .int .u32 (rm : Nat), .int .u16 (os : Nat), .int .u16 (is : Nat), .slice b1 b2 b3, .slice d1 d2 d3, .slice p1 p2 p3, .slice x1 x2 x3] wr a n' c (yy ++ List.replicate j 0)) (fun u3 _ => match u3 with | .slice _ n' _ => n + 4 - n' | _ => 0)
      case atStart => exact ⟨0, _, _, _, Nat.zero_le _, rfl, HT0.out⟩
      case round =>
        obtain ⟨j, a2, n2, c2, hj, rfl, hS⟩ := hrel
        have hn2 : n2 = n + j := by
          have := hS.own.len
          rw [List.length_append, List.length_replicate, HN1.out] at this
          omega
        have hj3 := padN_lt yy.length
        have hpd : padN yy.length = (4 - n % 4) % 4 := by rw [HN1.out]; rfl
        have HS := (show Hid _ from hS)
        clear hS HT0
        by_cases hm : n2 % 4 = 0
        · have hm1 : (((n2 : Nat) : Int) % 4 != 0) = false := by simp; omega
          have ej : j = padN yy.length := by omega
          have hT := HS.out
          rw [ej, ← HPD.out] at hT
          have HT := (show Hid _ from hT)
          have hbn : n2 ≤ 40010 := by omega
          have hC := HC.out
          have k0 := (hT.bel.cell (p := ⟨b, off + i * 2, none⟩) hbl).trans hC.1
          have k12 := hT.box.cell 12 _ rfl
          have HN := (show Hid _ from HT.out.call pk 2 (by omega) (by omega) (by omega) (by omega) (by omega))
          subst hab
          clear hT hm hpd ej hj hC HS HPD hj3 hn2
          go_wp2_with fail
          refine Calls.mono HN.out ?_
          clear HN k0 k12 hm1
          rintro e w6 hP
          obtain ⟨a6, n6, c6, rfl, hn6, h6⟩ := hP
          have hb6 : n6 ≤ 40012 := by omega
          have H6 := (show Hid _ from h6)
          have k0 := (h6.bel.cell (p := ⟨b, off + i * 2 + 1, none⟩) hbl).trans HC.out.2.1
          have k12 := h6.box.cell 12 _ rfl
          have HN := (show Hid _ from h6.call (4 + pz.length) 2 (by omega) (by omega) (by omega) (by omega) (by omega))
          obtain ⟨m, hm⟩ : ∃ m, m = pz.length := ⟨_, rfl⟩
          have HM := (show Hid _ from hm)
          rw [← hm] at HN k0 hzl
          rw [show ((4 + m : Nat) : Int) = 4 + (m : Int) from by omega] at HN
          have hw4 : IntKind.u32.wrap (4 + (m : Int)) = 4 + (m : Int) := by rw [IntKind.wrap_u32]; omega
          clear hn6 h6 hm HT
          go_wp2_with fail
          refine Calls.mono HN.out ?_
          clear HN k0 k12 hw4
          rintro e w7 hP
          obtain ⟨a7, n7, c7, rfl, hn7, h7⟩ := hP
          have hb7 : n7 ≤ 40014 := by omega
          have H7 := (show Hid _ from h7)
          have k0 := (h7.bel.cell (p := ⟨b, off + i * 2 + 1, none⟩) hbl).trans HC.out.2.1
          have k12 := h7.box.cell 12 _ rfl
          have hsl := HC.out.2.2.below h7.bel
          rw [← HM.out] at k0 hsl
          have HO := (show Hid _ from h7.own)
          have hz1 : w.heap.size + 1 ≤ w7.heap.size := by have := h7.box.lt; omega
          clear hn7 h7 H6
          go_wp2_with (at_builtin; go_must (refine app_list2 rfl _ _ rfl (w.heap.size + 1) _ _ _ _ rfl HO.out _ _ _ _ rfl hsl (by omega) hz1 ?_))
          intro a8 c8 w8 ho8 hg8 hp8
          have h8 := H7.out.grow ho8 hg8
          have e8 : hh ++ (pmsB (ps.take i) ++ (bytesB pk 2 ++ (bytesB (4 + m) 2 ++ pz))) = hh ++ pmsV (ps.take (i + 1)) := by
            rw [HNX.out]
            unfold pmV
            dsimp only
            rw [← HM.out]
          try simp only [List.append_assoc] at h8
          rw [e8] at h8
          have HF := (show Hid _ from h8)
          clear h8 e8 ho8 hg8 hp8 H7 k0 k12 hsl hz1 HO
          go_wp2
          go_roundw
          case rel => exact ⟨i + 1, _, _, _, by omega, by go_num, rfl, HF.out⟩
          case measure => simp [intOf]; omega
        · have hm1 : (((n2 : Nat) : Int) % 4 != 0) = true := by simp; omega
          have hz1 : w.heap.size + 1 ≤ wr.heap.size := by have := HS.out.box.lt; omega
          have hjl : j < padN yy.length := by omega
          have HJ : Hid (j < padN yy.length ∧ n2 ≤ n + 3) := ⟨hjl, by omega⟩
          have HO := (show Hid _ from HS.out.own)
          have hb2 : n2 ≤ 40010 := by omega
          clear hjl hpd hj3 hn2 hm hj
          go_wp2_with (at_builtin; go_must (refine app_list2 rfl _ _ rfl (w.heap.size + 1) _ _ _ _ rfl (HO.out.alloc _) _ 1 1 [0] rfl (sl_one wr 5 _ 0 rfl (by decide)) (by omega) (by simp; omega) ?_))
          intro a8 c8 w8 ho8 hg8 hp8
          have h8 := (HS.out.below ((Below.refl _ _).alloc (Nat.le_refl _) _)).grow ho8 hg8
          have e8 : yy ++ (List.replicate j 0 ++ [0]) = yy ++ List.replicate (j + 1) 0 := by rw [List.replicate_succ']
          try simp only [List.append_assoc] at h8
          rw [e8] at h8
          have HF := (show Hid _ from h8)
          clear h8 e8 ho8 hg8 hp8 HS hz1 HO hb2 hm1
          go_wp2
          go_roundw
          case rel => exact ⟨j + 1, _, _, _, HJ.out.1, rfl, HF.out⟩
          case measure =>
            have := HJ.out.2
            show n + 4 - (n2 + 1) < n + 4 - n2
            omega
    · have hlt1 : ¬ (i : Int) < (p2 : Int) := by omega
      have hF := HT.out.row
      rw [show ps.take i = ps from List.take_of_length_le (by omega)] at hF
      have HF := (show Hid _ from hF)
      clear hF HT HP
      go_wp2
      go_ret
      exact HF.out
set_option linter.unusedVariables false in
set_option maxRecDepth 100000 in
set_option maxHeartbeats 4000000 in
theorem value_init2 (f t st ss pp tg rm os is : Nat) (b1 : Option Addr) (b2 b3 : Nat) (d1 : Option Addr) (d2 d3 : Nat) (p1 : Option Addr) (p2 p3 : Nat) (x1 : Option Addr) (x2 x3 : Nat) (w : World) (ht : t < 4294967296) (htg : tg < 4294967296) (hrm : rm < 4294967296) (hos : os < 65536) (his : is < 65536) {ps : List Pm} (hPm : PmR w p1 p2 p3 ps) (hp16 : p2 ≤ 16) (hpm : ∀ p ∈ ps, p.zs.length ≤ 2000) :
    Calls Tryd.prog 35 #[.agg #[.int .u8 2, .int .u8 (f : Nat), .int .u32 (t : Nat), .int .u16 (st : Nat), .int .u16 (ss : Nat), .int .u32 (pp : Nat), .int .u32 (tg : Nat), .int .u32 (rm : Nat), .int .u16 (os : Nat), .int .u16 (is : Nat), .slice b1 b2 b3, .slice d1 d2 d3, .slice p1 p2 p3, .slice x1 x2 x3]] w (RowV w (bytesB tg 4 ++ (bytesB rm 4 ++ (bytesB os 2 ++ (bytesB is 2 ++ (bytesB t 4 ++ pmsV ps)))))) := by
  obtain ⟨W1, hW1⟩ : ∃ W1, W1 = w.alloc (.cells #[.int .u8 2, .int .u8 (f : Nat), .int .u32 (t : Nat), .int .u16 (st : Nat), .int .u16 (ss : Nat), .int .u32 (pp : Nat), .int .u32 (tg : Nat), .int .u32 (rm : Nat), .int .u16 (os : Nat), .int .u16 (is : Nat), .slice b1 b2 b3, .slice d1 d2 d3, .slice p1 p2 p3, .slice x1 x2 x3] 32) := ⟨_, rfl⟩
  obtain ⟨W2, hW2⟩ : ∃ W2, W2 = W1.alloc (.cells #[] 5) := ⟨_, rfl⟩
  have H0 : Hid (VaS w [.int .u8 2, .int .u8 (f : Nat), .int .u32 (t : Nat), .int .u16 (st : Nat), .int .u16 (ss : Nat), .int .u32 (pp : Nat), .int .u32 (tg : Nat), .int .u32 (rm : Nat), .int .u16 (os : Nat), .int .u16 (is : Nat), .slice b1 b2 b3, .slice d1 d2 d3, .slice p1 p2 p3, .slice x1 x2 x3] W2 (some ⟨w.heap.size + 1, 0, none⟩) 0 0 []) := VaS.start w W1 W2 [.int .u8 2, .int .u8 (f : Nat), .int .u32 (t : Nat), .int .u16 (st : Nat), .int .u16 (ss : Nat), .int .u32 (pp : Nat), .int .u32 (tg : Nat), .int .u32 (rm : Nat), .int .u16 (os : Nat), .int .u16 (is : Nat), .slice b1 b2 b3, .slice d1 d2 d3, .slice p1 p2 p3, .slice x1 x2 x3] hW1 hW2
  have HW := (show Hid _ from And.intro hW1 hW2)
  clear hW1 hW2
  have HD := (show Hid _ from fun W => hasData_any 2 (by omega) W)
  have HP := (show Hid _ from fun W => hasParams_any 2 (by omega) W)
  have hd7 : hdB12 2 = false := decide_eq_false (by omega)
  have hp7 : hpB 2 = true := decide_eq_true (by omega)
  rw [hd7] at HD
  rw [hp7] at HP
  clear hd7 hp7
  obtain ⟨hh, hhh⟩ : ∃ hh : List Nat, hh = bytesB tg 4 ++ (bytesB rm 4 ++ (bytesB os 2 ++ (bytesB is 2 ++ bytesB t 4))) := ⟨_, rfl⟩
  have hh4 : hh.length % 4 = 0 := by rw [hhh]; simp [bytesB_len]
  have HH4 := (show Hid _ from hh4)
  have hh2 : hh.length ≤ 20 := by rw [hhh]; simp [bytesB_len]
  have HHH := (show Hid _ from hhh)
  rw [show bytesB tg 4 ++ (bytesB rm 4 ++ (bytesB os 2 ++ (bytesB is 2 ++ (bytesB t 4 ++ pmsV ps)))) = hh ++ pmsV ps from by rw [hhh]; simp only [List.append_assoc]]
  clear hhh hh4
  have HN := (show Hid _ from H0.out.call tg 4 (by omega) (by omega) (by omega) (by omega) (by omega))
  go_enter Tryd.func35, Tryd.ntmps35
  go_wp2_with fail
  rw [← HW.out.1, ← HW.out.2]
  clear HW
  refine Calls.mono HN.out ?_
  clear HN
  rintro e w1v hP
  obtain ⟨a1, n1, c1, rfl, hn1, h1⟩ := hP
  have H1 := (show Hid _ from h1)
  have hb1 : n1 ≤ 4 := by omega
  clear hn1 h1 H0
  have k1 := H1.out.box.cell 7 _ rfl
  have HN := (show Hid _ from H1.out.call rm 4 (by omega) (by omega) (by omega) (by omega) (by omega))
  go_wp2_with fail
  refine Calls.mono HN.out ?_
  clear HN k1
  rintro e w2v hP
  obtain ⟨a2, n2, c2, rfl, hn2, h2⟩ := hP
  have H2 := (show Hid _ from h2)
  have hb2 : n2 ≤ 8 := by omega
  clear hn2 h2 H1 hb1
  have k1 := H2.out.box.cell 8 _ rfl
  have HN := (show Hid _ from H2.out.call os 2 (by omega) (by omega) (by omega) (by omega) (by omega))
  go_wp2_with fail
  refine Calls.mono HN.out ?_
  clear HN k1
  rintro e w3v hP
  obtain ⟨a3, n3, c3, rfl, hn3, h3⟩ := hP
  have H3 := (show Hid _ from h3)
  have hb3 : n3 ≤ 10 := by omega
  clear hn3 h3 H2 hb2
  have k1 := H3.out.box.cell 9 _ rfl
  have HN := (show Hid _ from H3.out.call is 2 (by omega) (by omega) (by omega) (by omega) (by omega))
  go_wp2_with fail
  refine Calls.mono HN.out ?_
  clear HN k1
  rintro e w4v hP
  obtain ⟨a4, n4, c4, rfl, hn4, h4⟩ := hP
  have H4 := (show Hid _ from h4)
  have hb4 : n4 ≤ 12 := by omega
  clear hn4 h4 H3 hb3
  have k1 := H4.out.box.cell 2 _ rfl
  have HN := (show Hid _ from H4.out.call t 4 (by omega) (by omega) (by omega) (by omega) (by omega))
  go_wp2_with fail
  refine Calls.mono HN.out ?_
  clear HN k1
  rintro e w5v hP
  obtain ⟨a5, n5, c5, rfl, hn5, h5⟩ := hP
  have H5 := (show Hid _ from h5)
  have hb5 : n5 ≤ 16 := by omega
  clear hn5 h5 H4 hb4
  have k1 := H5.out.box.cell 0 _ rfl
  go_wp2_with fail
  refine Calls.mono (HD.out w5v) ?_
  rintro e wA ⟨rfl, bA⟩
  have HA := (show Hid _ from H5.out.below bA)
  clear bA H5 HD k1
  have k1 := HA.out.box.cell 0 _ rfl
  have hA := HA.out
  try simp only [List.append_assoc, List.nil_append] at hA
  rw [← HHH.out] at hA
  replace HA := (show Hid _ from hA)
  clear hA
  have hcap := hPm.cap
  have hlen := hPm.len
  have HPm := (show Hid _ from And.intro hPm hpm)
  have HS0 : Hid (VaS w [.int .u8 2, .int .u8 (f : Nat), .int .u32 (t : Nat), .int .u16 (st : Nat), .int .u16 (ss : Nat), .int .u32 (pp : Nat), .int .u32 (tg : Nat), .int .u32 (rm : Nat), .int .u16 (os : Nat), .int .u16 (is : Nat), .slice b1 b2 b3, .slice d1 d2 d3, .slice p1 p2 p3, .slice x1 x2 x3] wA a5 n5 c5 (hh ++ pmsV (ps.take 0))) := by
    show VaS _ _ _ _ _ _ (hh ++ [])
    rw [List.append_nil]
    exact HA.out
  clear hPm hpm HA
  go_wp2_with fail
  go_loopw [3, 6] (fun u3 u6 wr => ∃ (i : Nat) (a : Option Addr) (n c : Nat), i ≤ p2 ∧ u6 = .int .i64 (i : Nat) ∧ u3 = .slice a n c ∧ VaS w [.int .u8 2, .int .u8 (f : Nat), .int .u32 (t : Nat), .int .u16 (st : Nat), .int .u16 (ss : Nat), .int .u32 (pp : Nat), .int .u32 (tg : Nat), .int .u32 (rm : Nat), .int .u16 (os : Nat), .int .u16 (is : Nat), .slice b1 b2 b3, .slice d1 d2 d3, .slice p1 p2 p3, .slice x1 x2 x3] wr a n c (hh ++ pmsV (ps.take i))) (fun _ u6 _ => p2 - (intOf u6).toNat)
  case atStart => exact ⟨0, _, _, _, by omega, rfl, rfl, HS0.out⟩
  case round =>
    obtain ⟨i, a, n, c, hin, rfl, rfl, hS⟩ := hrel
    have HS := (show Hid _ from hS)
    clear hS HS0 k1
    have k1 := HS.out.box.cell 0 _ rfl
    go_wp2_with fail
    refine Calls.mono (HP.out wr) ?_
    rintro e w5 ⟨rfl, b5⟩
    have HT := (show Hid _ from HS.out.below b5)
    clear b5 HS k1
    have k12 := HT.out.box.cell 12 _ rfl
    by_cases hlt : i < p2
    · have hlt1 : (i : Int) < (p2 : Int) := by omega
      obtain ⟨p, hpi⟩ : ∃ p, ps[i]? = some p := ⟨_, List.getElem?_eq_getElem (by omega)⟩
      obtain ⟨b, off, hab, hbl, hrow⟩ : ∃ b off, p1 = some ⟨b, off, none⟩ ∧ b < w.heap.size ∧ ∀ i p, ps[i]? = some p → p.k < 65536 ∧ ∃ va vc, w.cell? ⟨b, off + i * 2, none⟩ = some (.int .u16 (p.k : Nat)) ∧ w.cell? ⟨b, off + i * 2 + 1, none⟩ = some (.slice va p.zs.length vc) ∧ Sl w va p.zs.length vc p.zs := by
        rcases HPm.out.1.at_ with e | e
        · omega
        · exact e
      obtain ⟨hkb, va, vc, c0, c1, hsl⟩ := hrow i p hpi
      have hzl := HPm.out.2 p (List.mem_of_getElem? hpi)
      have hvl := pmsV_le (ps.take i) (M := 2000) (fun q hq => HPm.out.2 q (List.mem_of_mem_take hq))
      have hvl2 : (pmsV (ps.take i)).length ≤ 16 * 2007 := Nat.le_trans hvl (by rw [List.length_take]; exact Nat.mul_le_mul_right _ (by omega))
      obtain ⟨yy, hyy⟩ : ∃ yy, yy = hh ++ pmsV (ps.take i) := ⟨_, rfl⟩
      have hyl : yy.length ≤ 40000 := by rw [hyy, List.length_append]; omega
      have HPD := (show Hid _ from pms_pad hh ps i HH4.out)
      have HNX := (show Hid _ from pmsV_next ps i p hpi)
      rw [← hyy] at HPD HT
      have hT := HT.out
      have hny := hT.own.len
      obtain ⟨pk, pz⟩ := p
      dsimp only at hkb c0 c1 hsl hzl HNX
      have HC := (show Hid _ from And.intro c0 (And.intro c1 hsl))
      have HN1 : Hid (yy.length = n) := hny
      obtain ⟨W5, hW5⟩ : ∃ W5, W5 = w5 := ⟨_, rfl⟩
      subst hW5
      have HT0 : Hid (VaS w [.int .u8 2, .int .u8 (f : Nat), .int .u32 (t : Nat), .int .u16 (st : Nat), .int .u16 (ss : Nat), .int .u32 (pp : Nat), .int .u32 (tg : Nat), .int .u32 (rm : Nat), .int .u16 (os : Nat), .int .u16 (is : Nat), .slice b1 b2 b3, .slice d1 d2 d3, .slice p1 p2 p3, .slice x1 x2 x3] W5 a n c (yy ++ List.replicate 0 0)) := by
        show VaS _ _ _ _ _ _ (yy ++ [])
        rw [List.append_nil]
        exact hT
      have hyl1 : n ≤ 40000 := by omega
      clear hT hny hvl hvl2 hyy HT hrow hsl c0 c1 hpi hyl
      go_wp2_with fail
      go_loopw [3] (fun u3 wr => ∃ (j : Nat) (a : Option Addr) (n' c : Nat), j ≤ padN yy.length ∧ u3 = .slice a n' c ∧ VaS w [.int .u8 2, .int .u8 (f : Nat), .int .u32 (t : Nat), .int .u16 (st : Nat), .int .u16 (ss : Nat), .int .u32 (pp : Nat), .int .u32 (tg : Nat), .int .u32 (rm : Nat), .int .u16 (os : Nat), .int .u16 (is : Nat), .slice b1 b2 b3, .slice d1 d2 d3, .slice p1 p2 p3, .slice x1 x2 x3] wr a n' c (yy ++ List.replicate j 0)) (fun u3 _ => match u3 with | .slice _ n' _ => n + 4 - n' | _ => 0)
      case atStart => exact ⟨0, _, _, _, Nat.zero_le _, rfl, HT0.out⟩
      case round =>
        obtain ⟨j, a2, n2, c2, hj, rfl, hS⟩ := hrel
        have hn2 : n2 = n + j := by
          have := hS.own.len
          rw [List.length_append, List.length_replicate, HN1.out] at this
          omega
        have hj3 := padN_lt yy.length
        have hpd : padN yy.length = (4 - n % 4) % 4 := by rw [HN1.out]; rfl
        have HS := (show Hid _ from hS)
        clear hS HT0
        by_cases hm : n2 % 4 = 0
        · have hm1 : (((n2 : Nat) : Int) % 4 != 0) = false := by simp; omega
          have ej : j = padN yy.length := by omega
          have hT := HS.out
          rw [ej, ← HPD.out] at hT
          have HT := (show Hid _ from hT)
          have hbn : n2 ≤ 40010 := by omega
          have hC := HC.out
          have k0 := (hT.bel.cell (p := ⟨b, off + i * 2, none⟩) hbl).trans hC.1
          have k12 := hT.box.cell 12 _ rfl
          have HN := (show Hid _ from HT.out.call pk 2 (by omega) (by omega) (by omega) (by omega) (by omega))
          subst hab
          clear hT hm hpd ej hj hC HS HPD hj3 hn2
          go_wp2_with fail
          refine Calls.mono HN.out ?_
          clear HN k0 k12 hm1
          rintro e w6 hP
          obtain ⟨a6, n6, c6, rfl, hn6, h6⟩ := hP
          have hb6 : n6 ≤ 40012 := by omega
          have H6 := (show Hid _ from h6)
          have k0 := (h6.bel.cell (p := ⟨b, off + i * 2 + 1, none⟩) hbl).trans HC.out.2.1
          have k12 := h6.box.cell 12 _ rfl
          have HN := (show Hid _ from h6.call (4 + pz.length) 2 (by omega) (by omega) (by omega) (by omega) (by omega))
          obtain ⟨m, hm⟩ : ∃ m, m = pz.length := ⟨_, rfl⟩
          have HM := (show Hid _ from hm)
          rw [← hm] at HN k0 hzl
          rw [show ((4 + m : Nat) : Int) = 4 + (m : Int) from by omega] at HN
          have hw4 : IntKind.u32.wrap (4 + (m : Int)) = 4 + (m : Int) := by rw [IntKind.wrap_u32]; omega
          clear hn6 h6 hm HT
          go_wp2_with fail
          refine Calls.mono HN.out ?_
          clear HN k0 k12 hw4
          rintro e w7 hP
          obtain ⟨a7, n7, c7, rfl, hn7, h7⟩ := hP
          have hb7 : n7 ≤ 40014 := by omega
          have H7 := (show Hid _ from h7)
          have k0 := (h7.bel.cell (p := ⟨b, off + i * 2 + 1, none⟩) hbl).trans HC.out.2.1
          have k12 := h7.box.cell 12 _ rfl
          have hsl := HC.out.2.2.below h7.bel
          rw [← HM.out] at k0 hsl
          have HO := (show Hid _ from h7.own)
          have hz1 : w.heap.size + 1 ≤ w7.heap.size := by have := h7.box.lt; omega
          clear hn7 h7 H6
          go_wp2_with (at_builtin; go_must (refine app_list2 rfl _ _ rfl (w.heap.size + 1) _ _ _ _ rfl HO.out _ _ _ _ rfl hsl (by omega) hz1 ?_))
          intro a8 c8 w8 ho8 hg8 hp8
          have h8 := H7.out.grow ho8 hg8
          have e8 : hh ++ (pmsB (ps.take i) ++ (bytesB pk 2 ++ (bytesB (4 + m) 2 ++ pz))) = hh ++ pmsV (ps.take (i + 1)) := by
            rw [HNX.out]
            unfold pmV
            dsimp only
            rw [← HM.out]
          try simp only [List.append_assoc] at h8
          rw [e8] at h8
          have HF := (show Hid _ from h8)
          clear h8 e8 ho8 hg8 hp8 H7 k0 k12 hsl hz1 HO
          go_wp2
          go_roundw
          case rel => exact ⟨i + 1, _, _, _, by omega, by go_num, rfl, HF.out⟩
          case measure => simp [intOf]; omega
        · have hm1 : (((n2 : Nat) : Int) % 4 != 0) = true := by simp; omega
          have hz1 : w.heap.size + 1 ≤ wr.heap.size := by have := HS.out.box.lt; omega
          have hjl : j < padN yy.length := by omega
          have HJ : Hid (j < padN yy.length ∧ n2 ≤ n + 3) := ⟨hjl, by omega⟩
          have HO := (show Hid _ from HS.out.own)
          have hb2 : n2 ≤ 40010 := by omega
          clear hjl hpd hj3 hn2 hm hj
          go_wp2_with (at_builtin; go_must (refine app_list2 rfl _ _ rfl (w.heap.size + 1) _ _ _ _ rfl (HO.out.alloc _) _ 1 1 [0] rfl (sl_one wr 5 _ 0 rfl (by decide)) (by omega) (by simp; omega) ?_))
          intro a8 c8 w8 ho8 hg8 hp8
          have h8 := (HS.out.below ((Below.refl _ _).alloc (Nat.le_refl _) _)).grow ho8 hg8
          have e8 : yy ++ (List.replicate j 0 ++ [0]) = yy ++ List.replicate (j + 1) 0 := by rw [List.replicate_succ']
          try simp only [List.append_assoc] at h8
          rw [e8] at h8
          have HF := (show Hid _ from h8)
          clear h8 e8 ho8 hg8 hp8 HS hz1 HO hb2 hm1
          go_wp2
          go_roundw
          case rel => exact ⟨j + 1, _, _, _, HJ.out.1, rfl, HF.out⟩
          case measure =>
            have := HJ.out.2
            show n + 4 - (n2 + 1) < n + 4 - n2
            omega
    · have hlt1 : ¬ (i : Int) < (p2 : Int) := by omega
      have hF := HT.out.row
      rw [show ps.take i = ps from List.take_of_length_le (by omega)] at hF
      have HF := (show Hid _ from hF)
      clear hF HT HP
      go_wp2
      go_ret
      exact HF.out
end Go.Proofs.YtlgfbcfogcmdbaaDoor
namespace Go.Proofs.YtlgfbcfogcmdbaaDoor
open Go.RowKit
set_option linter.unusedVariables false in
set_option maxRecDepth 100000 in
set_option maxHeartbeats 4000000 in
theorem value_sack (f t st ss pp tg rm os is : Nat) (b1 : Option Addr) (b2 b3 : Nat) (d1 : Option Addr) (d2 d3 : Nat) (p1 : Option Addr) (p2 p3 : Nat) (x1 : Option Addr) (x2 x3 : Nat) (w : World) (ht : t < 4294967296) (hrm : rm < 4294967296) {bs : List (Nat × Nat)} {ds : List Nat} (hB : BkR w b1 b2 b3 bs) (hD : SlK .u32 4294967296 w d1 d2 d3 ds) (hb16 : b2 ≤ 16) (hd16 : d2 ≤ 16) :
    Calls Tryd.prog 35 #[.agg #[.int .u8 3, .int .u8 (f : Nat), .int .u32 (t : Nat), .int .u16 (st : Nat), .int .u16 (ss : Nat), .int .u32 (pp : Nat), .int .u32 (tg : Nat), .int .u32 (rm : Nat), .int .u16 (os : Nat), .int .u16 (is : Nat), .slice b1 b2 b3, .slice d1 d2 d3, .slice p1 p2 p3, .slice x1 x2 x3]] w (RowV w (bytesB t 4 ++ (bytesB rm 4 ++ (bytesB b2 2 ++ (bytesB d2 2 ++ (bksB bs ++ dusB ds)))))) := by
  obtain ⟨W1, hW1⟩ : ∃ W1, W1 = w.alloc (.cells #[.int .u8 3, .int .u8 (f : Nat), .int .u32 (t : Nat), .int .u16 (st : Nat), .int .u16 (ss : Nat), .int .u32 (pp : Nat), .int .u32 (tg : Nat), .int .u32 (rm : Nat), .int .u16 (os : Nat), .int .u16 (is : Nat), .slice b1 b2 b3, .slice d1 d2 d3, .slice p1 p2 p3, .slice x1 x2 x3] 32) := ⟨_, rfl⟩
  obtain ⟨W2, hW2⟩ : ∃ W2, W2 = W1.alloc (.cells #[] 5) := ⟨_, rfl⟩
  have H0 : Hid (VaS w [.int .u8 3, .int .u8 (f : Nat), .int .u32 (t : Nat), .int .u16 (st : Nat), .int .u16 (ss : Nat), .int .u32 (pp : Nat), .int .u32 (tg : Nat), .int .u32 (rm : Nat), .int .u16 (os : Nat), .int .u16 (is : Nat), .slice b1 b2 b3, .slice d1 d2 d3, .slice p1 p2 p3, .slice x1 x2 x3] W2 (some ⟨w.heap.size + 1, 0, none⟩) 0 0 []) := VaS.start w W1 W2 [.int .u8 3, .int .u8 (f : Nat), .int .u32 (t : Nat), .int .u16 (st : Nat), .int .u16 (ss : Nat), .int .u32 (pp : Nat), .int .u32 (tg : Nat), .int .u32 (rm : Nat), .int .u16 (os : Nat), .int .u16 (is : Nat), .slice b1 b2 b3, .slice d1 d2 d3, .slice p1 p2 p3, .slice x1 x2 x3] hW1 hW2
  have HW := (show Hid _ from And.intro hW1 hW2)
  clear hW1 hW2
  have HD := (show Hid _ from fun W => hasData_any 3 (by omega) W)
  have HP := (show Hid _ from fun W => hasParams_any 3 (by omega) W)
  have hd7 : hdB12 3 = false := decide_eq_false (by omega)
  have hp7 : hpB 3 = false := decide_eq_false (by omega)
  rw [hd7] at HD
  rw [hp7] at HP
  clear hd7 hp7
  have hbc := hB.cap
  have hdc := hD.cap
  have hbl := hB.len
  have hdl := hD.len
  have HBD := (show Hid _ from And.intro hB hD)
  clear hB hD
  obtain ⟨hh, hhh⟩ : ∃ hh : List Nat, hh = bytesB t 4 ++ (bytesB rm 4 ++ (bytesB b2 2 ++ bytesB d2 2)) := ⟨_, rfl⟩
  have hh2 : hh.length ≤ 20 := by rw [hhh]; simp [bytesB_len]
  have HHH := (show Hid _ from hhh)
  obtain ⟨h2, hh2e⟩ : ∃ h2 : List Nat, h2 = hh ++ bksB bs := ⟨_, rfl⟩
  have h2l : h2.length ≤ 100 := by rw [hh2e, List.length_append, bksB_len]; omega
  have HH2 := (show Hid _ from hh2e)
  rw [show bytesB t 4 ++ (bytesB rm 4 ++ (bytesB b2 2 ++ (bytesB d2 2 ++ (bksB bs ++ dusB ds)))) = h2 ++ dusB ds from by rw [hh2e, hhh]; simp only [List.append_assoc]]
  clear hhh hh2e
  have HN := (show Hid _ from H0.out.call t 4 (by omega) (by omega) (by omega) (by omega) (by omega))
  go_enter Tryd.func35, Tryd.ntmps35
  go_wp2_with fail
  rw [← HW.out.1, ← HW.out.2]
  clear HW
  refine Calls.mono HN.out ?_
  clear HN
  rintro e w1v hP
  obtain ⟨a1, n1, c1, rfl, hn1, h1⟩ := hP
  have H1 := (show Hid _ from h1)
  have hb1 : n1 ≤ 4 := by omega
  clear hn1 h1 H0
  have k1 := H1.out.box.cell 7 _ rfl
  have HN := (show Hid _ from H1.out.call rm 4 (by omega) (by omega) (by omega) (by omega) (by omega))
  go_wp2_with fail
  refine Calls.mono HN.out ?_
  clear HN k1
  rintro e w2v hP
  obtain ⟨a2, n2, c2, rfl, hn2, h2⟩ := hP
  have H2 := (show Hid _ from h2)
  have hb2 : n2 ≤ 8 := by omega
  clear hn2 h2 H1 hb1
  have k1 := H2.out.box.cell 10 _ rfl
  have HN := (show Hid _ from H2.out.call b2 2 (by omega) (by omega) (by omega) (by omega) (by omega))
  have hw1 : IntKind.u32.wrap (b2 : Int) = b2 := by rw [IntKind.wrap_u32]; omega
  go_wp2_with fail
  refine Calls.mono HN.out ?_
  clear HN k1
  rintro e w3v hP
  obtain ⟨a3, n3, c3, rfl, hn3, h3⟩ := hP
  have H3 := (show Hid _ from h3)
  have hb3 : n3 ≤ 10 := by omega
  clear hw1 hn3 h3 H2 hb2
  have k1 := H3.out.box.cell 11 _ rfl
  have HN := (show Hid _ from H3.out.call d2 2 (by omega) (by omega) (by omega) (by omega) (by omega))
  have hw1 : IntKind.u32.wrap (d2 : Int) = d2 := by rw [IntKind.wrap_u32]; omega
  go_wp2_with fail
  refine Calls.mono HN.out ?_
  clear HN k1
  rintro e w4v hP
  obtain ⟨a4, n4, c4, rfl, hn4, h4⟩ := hP
  have H4 := (show Hid _ from h4)
  have hb4 : n4 ≤ 12 := by omega
  clear hw1 hn4 h4 H3 hb3
  have hA := H4.out
  try simp only [List.append_assoc, List.nil_append] at hA
  rw [← HHH.out] at hA
  replace H4 := (show Hid _ from hA)
  clear hA
  have HS0 : Hid (VaS w [.int .u8 3, .int .u8 (f : Nat), .int .u32 (t : Nat), .int .u16 (st : Nat), .int .u16 (ss : Nat), .int .u32 (pp : Nat), .int .u32 (tg : Nat), .int .u32 (rm : Nat), .int .u16 (os : Nat), .int .u16 (is : Nat), .slice b1 b2 b3, .slice d1 d2 d3, .slice p1 p2 p3, .slice x1 x2 x3] w4v a4 n4 c4 (hh ++ bksB (bs.take 0))) := by
    show VaS _ _ _ _ _ _ (hh ++ [])
    rw [List.append_nil]
    exact H4.out
  clear H4
  go_wp2_with fail
  go_loopw [3, 4] (fun u3 u4 wr => ∃ (i : Nat) (a : Option Addr) (n c : Nat), i ≤ b2 ∧ u4 = .int .i64 (i : Nat) ∧ u3 = .slice a n c ∧ VaS w [.int .u8 3, .int .u8 (f : Nat), .int .u32 (t : Nat), .int .u16 (st : Nat), .int .u16 (ss : Nat), .int .u32 (pp : Nat), .int .u32 (tg : Nat), .int .u32 (rm : Nat), .int .u16 (os : Nat), .int .u16 (is : Nat), .slice b1 b2 b3, .slice d1 d2 d3, .slice p1 p2 p3, .slice x1 x2 x3] wr a n c (hh ++ bksB (bs.take i))) (fun _ u4 _ => b2 - (intOf u4).toNat)
  case atStart => exact ⟨0, _, _, _, by omega, rfl, rfl, HS0.out⟩
  case round =>
    obtain ⟨i, a, n, c, hin, rfl, rfl, hS⟩ := hrel
    have hny := hS.own.len
    rw [List.length_append, bksB_len, List.length_take] at hny
    have hnb : n ≤ 100 := by omega
    have HS := (show Hid _ from hS)
    clear hS HS0 hny
    have k10 := HS.out.box.cell 10 _ rfl
    by_cases hlt : i < b2
    · have hlt1 : (i : Int) < (b2 : Int) := by omega
      obtain ⟨p, hpi⟩ : ∃ p, bs[i]? = some p := ⟨_, List.getElem?_eq_getElem (by omega)⟩
      obtain ⟨b, off, hab, hbl2, hrow⟩ : ∃ b off, b1 = some ⟨b, off, none⟩ ∧ b < w.heap.size ∧ ∀ i p, bs[i]? = some p → p.1 < 65536 ∧ p.2 < 65536 ∧ w.cell? ⟨b, off + i * 2, none⟩ = some (.int .u16 (p.1 : Nat)) ∧ w.cell? ⟨b, off + i * 2 + 1, none⟩ = some (.int .u16 (p.2 : Nat)) := by
        rcases HBD.out.1.at_ with e | e
        · omega
        · exact e
      subst hab
      obtain ⟨hp1, hp2, c0, c1⟩ := hrow i p hpi
      have HSN := (show Hid _ from bks_snoc bs i p hpi)
      obtain ⟨f1, f2⟩ := p
      dsimp only at hp1 hp2 c0 c1 HSN
      have HC := (show Hid _ from And.intro c0 c1)
      have k0 := (HS.out.bel.cell (p := ⟨b, off + i * 2, none⟩) hbl2).trans c0
      have HN := (show Hid _ from HS.out.call f1 2 (by omega) (by omega) (by omega) (by omega) (by omega))
      clear hrow hpi c0 c1
      go_wp2_with fail
      refine Calls.mono HN.out ?_
      clear HN k0 k10
      rintro e w6 hP
      obtain ⟨a6, n6, c6, rfl, hn6, h6⟩ := hP
      have hb6 : n6 ≤ 102 := by omega
      have H6 := (show Hid _ from h6)
      have k0 := (h6.bel.cell (p := ⟨b, off + i * 2 + 1, none⟩) hbl2).trans HC.out.2
      have k10 := h6.box.cell 10 _ rfl
      have HN := (show Hid _ from h6.call f2 2 (by omega) (by omega) (by omega) (by omega) (by omega))
      clear hn6 h6 HS
      go_wp2_with fail
      refine Calls.mono HN.out ?_
      clear HN k0 k10
      rintro e w7 hP
      obtain ⟨a7, n7, c7, rfl, hn7, h7⟩ := hP
      have e7 : hh ++ (bksB (bs.take i) ++ (bytesB f1 2 ++ bytesB f2 2)) = hh ++ bksB (bs.take (i + 1)) := by
        rw [HSN.out]
      try simp only [List.append_assoc] at h7
      rw [e7] at h7
      have HF := (show Hid _ from h7)
      clear h7 e7 hn7 H6
      go_wp2
      go_roundw
      case rel => exact ⟨i + 1, _, _, _, by omega, by go_num, rfl, HF.out⟩
      case measure => simp [intOf]; omega
    · have hlt1 : ¬ (i : Int) < (b2 : Int) := by omega
      obtain ⟨w8, hw8⟩ : ∃ w8, w8 = wr := ⟨_, rfl⟩
      subst hw8
      have hT := HS.out
      rw [show bs.take i = bs from List.take_of_length_le (by omega)] at hT
      rw [← HH2.out] at hT
      have HS0 : Hid (VaS w [.int .u8 3, .int .u8 (f : Nat), .int .u32 (t : Nat), .int .u16 (st : Nat), .int .u16 (ss : Nat), .int .u32 (pp : Nat), .int .u32 (tg : Nat), .int .u32 (rm : Nat), .int .u16 (os : Nat), .int .u16 (is : Nat), .slice b1 b2 b3, .slice d1 d2 d3, .slice p1 p2 p3, .slice x1 x2 x3] w8 a n c (h2 ++ dusB (ds.take 0))) := by
        show VaS _ _ _ _ _ _ (h2 ++ [])
        rw [List.append_nil]
        exact hT
      clear hT HS
      go_wp2_with fail
      clear k10
      go_loopw [3, 5] (fun u3 u5 wr => ∃ (i : Nat) (a : Option Addr) (n c : Nat), i ≤ d2 ∧ u5 = .int .i64 (i : Nat) ∧ u3 = .slice a n c ∧ VaS w [.int .u8 3, .int .u8 (f : Nat), .int .u32 (t : Nat), .int .u16 (st : Nat), .int .u16 (ss : Nat), .int .u32 (pp : Nat), .int .u32 (tg : Nat), .int .u32 (rm : Nat), .int .u16 (os : Nat), .int .u16 (is : Nat), .slice b1 b2 b3, .slice d1 d2 d3, .slice p1 p2 p3, .slice x1 x2 x3] wr a n c (h2 ++ dusB (ds.take i))) (fun _ u5 _ => d2 - (intOf u5).toNat)
      case atStart => exact ⟨0, _, _, _, by omega, rfl, rfl, HS0.out⟩
      case round =>
        obtain ⟨i, a, n, c, hin, rfl, rfl, hS⟩ := hrel
        have hny := hS.own.len
        rw [List.length_append, dusB_len, List.length_take] at hny
        have hnb : n ≤ 200 := by omega
        have HS := (show Hid _ from hS)
        clear hS HS0 hny
        have k11 := HS.out.box.cell 11 _ rfl
        by_cases hlt : i < d2
        · have hlt2 : (i : Int) < (d2 : Int) := by omega
          obtain ⟨d, hdi⟩ : ∃ d, ds[i]? = some d := ⟨_, List.getElem?_eq_getElem (by omega)⟩
          have hgd : ds.getD i 0 = d := by rw [List.getD_eq_getElem?_getD, hdi]; rfl
          have hdb : d < 4294967296 := by have := HBD.out.2.bnd i; rw [hgd] at this; exact this
          obtain ⟨b, off, hab, hbl2, hrow⟩ : ∃ b off, d1 = some ⟨b, off, none⟩ ∧ b < w.heap.size ∧ w.cell? ⟨b, off + i, none⟩ = some (.int .u32 (d : Nat)) := by
            rcases HBD.out.2.at_ with e | ⟨b, off, e1, e2, e3⟩
            · omega
            · exact ⟨b, off, e1, e2, by rw [e3 i hlt, hgd]⟩
          subst hab
          have HSN := (show Hid _ from dus_snoc ds i d hdi)
          have k0 := (HS.out.bel.cell (p := ⟨b, off + i, none⟩) hbl2).trans hrow
          have HN := (show Hid _ from HS.out.call d 4 (by omega) (by omega) (by omega) (by omega) (by omega))
          clear hrow hdi hgd
          go_wp2_with fail
          refine Calls.mono HN.out ?_
          clear HN k0 k11
          rintro e w6 hP
          obtain ⟨a6, n6, c6, rfl, hn6, h6⟩ := hP
          have e7 : h2 ++ (dusB (ds.take i) ++ bytesB d 4) = h2 ++ dusB (ds.take (i + 1)) := by
            rw [HSN.out]
          try simp only [List.append_assoc] at h6
          rw [e7] at h6
          have HF := (show Hid _ from h6)
          clear h6 e7 hn6 HS
          go_wp2
          go_roundw
          case rel => exact ⟨i + 1, _, _, _, by omega, by go_num, rfl, HF.out⟩
          case measure => simp [intOf]; omega
        · have hlt2 : ¬ (i : Int) < (d2 : Int) := by omega
          obtain ⟨w9, hw9⟩ : ∃ w9, w9 = wr := ⟨_, rfl⟩
          subst hw9
          have hT := HS.out
          rw [show ds.take i = ds from List.take_of_length_le (by omega)] at hT
          have H4 := (show Hid _ from hT)
          clear hT HS
          have k1 := H4.out.box.cell 0 _ rfl
          go_wp2_with fail
          refine Calls.mono (HD.out w9) ?_
          rintro e wA ⟨rfl, bA⟩
          have HA := (show Hid _ from H4.out.below bA)
          clear bA H4 HD k1
          have k1 := HA.out.box.cell 0 _ rfl
          go_wp2_with fail
          go_loopw [3, 6] (fun u3 u6 wr => u3 = .slice a n c ∧ u6 = .int .i64 0 ∧ wr = wA) (fun _ _ _ => 0)
          case atStart => exact ⟨rfl, rfl, rfl⟩
          case round =>
            obtain ⟨rfl, rfl, rfl⟩ := hrel
            go_wp2_with fail
            refine Calls.mono (HP.out wr) ?_
            rintro e w5 ⟨rfl, b5⟩
            have hf := (HA.out.below b5).row
            try simp only [List.append_assoc, List.nil_append] at hf
            have HF := (show Hid _ from hf)
            clear hf
            clear b5 HA HP k1
            go_wp2
            go_ret
            exact HF.out
end Go.Proofs.YtlgfbcfogcmdbaaDoor
namespace Go.Proofs.YtlgfbcfogcmdbaaDoor
open Go.RowKit
/-- What operation i reads is written by none, or ahead of it; slots are written once. -/
def chkP (ops : Array Oper) : Bool := (List.range ops.size).all fun i => match ops[i]? with
  | none => true
  | some o => plainD o && ((o.looksAt ops).all fun t => (List.range ops.size).all fun j => !wrD ops j t || decide (j < i)) && ((List.range ops.size).all fun j => match o.dst with | none => true | some d => !wrD ops j d || i == j)
theorem chkP_spec {ops : Array Oper} (h : chkP ops = true) {i : Nat} {o : Oper} (ho : ops[i]? = some o) :
    plainD o = true ∧ (∀ t ∈ o.looksAt ops, ∀ j p, ops[j]? = some p → p.dst = some t → j < i) ∧ ∀ j o' d, ops[j]? = some o' → o.dst = some d → o'.dst = some d → i = j := by
  have hi := (Array.getElem?_eq_some_iff.1 ho).1
  unfold chkP at h
  rw [List.all_eq_true] at h
  have h1 := h i (by simpa using hi)
  rw [ho] at h1
  simp only [Bool.and_eq_true, List.all_eq_true, List.mem_range] at h1
  obtain ⟨⟨h1, h2⟩, h3⟩ := h1
  refine ⟨h1, fun t ht j p hp hpt => ?_, fun j o' d hj hd hd' => ?_⟩
  · have hjl := (Array.getElem?_eq_some_iff.1 hp).1
    have := h2 t ht j hjl
    simp only [wrD, hp, Option.bind_some, hpt, beq_self_eq_true, Bool.not_true, Bool.false_or, decide_eq_true_eq] at this
    exact this
  · have hjl := (Array.getElem?_eq_some_iff.1 hj).1
    have := h3 j hjl
    rw [hd] at this
    simp only [wrD, hj, Option.bind_some, hd'] at this
    simpa using this
structure FixP (ops : Array Oper) (a : Act) (Z : Array Value) (G : World → Prop) (k : Nat) (A : Act) (w : World) : Prop where
  sz : A.tmps.size = Z.size
  df : A.defers = a.defers
  on : ∀ i o d, i < k → ops[i]? = some o → o.dst = some d → A.tmps.getD d undef = Z.getD d undef
  off : ∀ t, (∀ i o, i < k → ops[i]? = some o → o.dst ≠ some t) → A.tmps.getD t undef = a.tmps.getD t undef
  g : G w
theorem FixP.put {ops : Array Oper} {a : Act} {Z : Array Value} {G : World → Prop} {k : Nat} {A : Act} {w w' : World} (h : FixP ops a Z G k A w) (hok : chkP ops = true) {o : Oper} (ho : ops[k]? = some o) (v : Value) (hv : ∀ d, o.dst = some d → v = Z.getD d undef) (hin : ∀ d, o.dst = some d → d < Z.size) (hG : G w') :
    FixP ops a Z G (k + 1) (A.put o.dst v) w' := by
  refine ⟨by rw [put_size]; exact h.sz, by rw [Go.Proofs.YtlgfbcfogcmdbaaDoor.put_defers]; exact h.df, fun i p d hi hp hpd => ?_, fun t ht => ?_, hG⟩
  · by_cases hik : i = k
    · subst hik
      rw [ho] at hp
      injection hp with hp
      subst hp
      rw [hpd, put_same v (by rw [h.sz]; exact hin d hpd)]
      exact hv d hpd
    · have h1 := h.on i p d (by omega) hp hpd
      cases hod : o.dst with
      | none => exact h1
      | some d' =>
        have hne : d ≠ d' := fun e => hik ((chkP_spec hok hp).2.2 k o d ho hpd (by rw [hod, e]))
        rw [put_other v hne]
        exact h1
  · have h1 := h.off t (fun i p hi hp => ht i p (by omega) hp)
    cases hod : o.dst with
    | none => exact h1
    | some d' =>
      have hne : t ≠ d' := fun e => ht k o (by omega) ho (by rw [hod, e])
      rw [put_other v hne]
      exact h1
theorem wpList_fixP {P : Program} {os : List Oper} {Q : Exit → Act → World → Prop} {a : Act} (G : World → Prop) (Z : Array Value) (hok : chkP os.toArray = true) (hin : ∀ o ∈ os, ∀ d, o.dst = some d → d < Z.size) (hb : ∀ t, (∀ o ∈ os, o.dst ≠ some t) → Z.getD t undef = a.tmps.getD t undef)
    (hops : FixAll P os.toArray (fun _ => Z) Z G 0 os) (he : ∀ w, G w → Q .normal ⟨Z, a.defers⟩ w) :
    ∀ (l : List Oper) (k : Nat), (∀ j, l[j]? = os[k + j]?) → ∀ A W, FixP os.toArray a Z G k A W → wpList P os.toArray Q l A W := by
  intro l
  induction l with
  | nil =>
    intro k hl A W hI
    refine wpList_nil ?_
    have hk : os.length ≤ k := by
      have := hl 0
      simp at this
      exact this
    have hA : A = ⟨Z, a.defers⟩ := by
      obtain ⟨t, d⟩ := A
      have h1 := hI.sz
      have h2 := hI.df
      dsimp only at h1 h2
      subst h2
      congr 1
      apply Array.ext_getElem?
      intro s
      refine getElem?_of_getD h1 ?_
      by_cases hw : ∃ (j : Nat) (p : Oper), os.toArray[j]? = some p ∧ p.dst = some s
      · obtain ⟨j, p, hp, hpk⟩ := hw
        have hjl := (Array.getElem?_eq_some_iff.1 hp).1
        exact hI.on j p s (by simp at hjl; omega) hp hpk
      · have h3 := hI.off s (fun j p _ hp hpk => hw ⟨j, p, hp, hpk⟩)
        rw [h3, hb s (fun p hp hpt => by
          obtain ⟨j, hj⟩ := List.getElem?_of_mem hp
          exact hw ⟨j, p, by simpa using hj, hpt⟩)]
    rw [hA]
    exact he W hI.g
  | cons o rest ih =>
    intro k hl A W hI
    have hok0 : os[k]? = some o := by simpa using (hl 0).symm
    have ho : os.toArray[k]? = some o := by simpa using hok0
    have hsp := chkP_spec hok ho
    have hfix := fixAll_at os 0 hops k o hok0
    have hval : ∀ t, t ∈ o.looksAt os.toArray → A.tmps.getD t undef = Z.getD t undef := by
      intro t ht
      by_cases hw : ∃ (j : Nat) (p : Oper), os.toArray[j]? = some p ∧ p.dst = some t
      · obtain ⟨j, p, hp, hpt⟩ := hw
        exact hI.on j p t (hsp.2.1 t ht j p hp hpt) hp hpt
      · have h3 := hI.off t (fun j p _ hp hpt => hw ⟨j, p, hp, hpt⟩)
        rw [h3, hb t (fun p hp hpt => by
          obtain ⟨j, hj⟩ := List.getElem?_of_mem hp
          exact hw ⟨j, p, by simpa using hj, hpt⟩)]
    have hsz : A.tmps.size = Z.size := hI.sz
    have hpl : ∀ cs b, o.op ≠ .select cs b := fun cs b e => by have := hsp.1; unfold plainD at this; rw [e] at this; cases this
    have hex : execOp A.eval o = execOp (Act.eval ⟨Z, []⟩) o := execOp_congr o hpl (fun x hx => by
      cases x with
      | tmp t =>
        have ht : t ∈ o.looksAt os.toArray := List.mem_append_left _ (List.mem_filterMap.2 ⟨.tmp t, by simpa using hx, rfl⟩)
        simpa [Act.eval] using hval t ht
      | _ => rfl)
    have hwa : Region.wanted o (yielded os.toArray A.tmps) = Region.wanted o (yielded os.toArray Z) := by
      unfold Region.wanted
      cases hg : o.guard with
      | none => rfl
      | some gw =>
        obtain ⟨g, want⟩ := gw
        have hy : yielded os.toArray A.tmps g = yielded os.toArray Z g := by
          unfold yielded
          cases ht : (os.toArray[g]?).bind (·.dst) with
          | none => rfl
          | some t =>
            have hlk : t ∈ o.looksAt os.toArray := by simp only [Oper.looksAt, hg, ht]; simp
            have := getElem?_of_getD hsz (hval t hlk)
            simp only [Option.bind_some, this]
        simp only [hy]
    have hind : ∀ d, o.dst = some d → d < Z.size := hin o (List.mem_of_getElem? hok0)
    have hrest : ∀ A' W', FixP os.toArray a Z G (k + 1) A' W' → wpList P os.toArray Q rest A' W' := fun A' W' hI' => ih (k + 1) (fun j => by have := hl (j + 1); simpa [Nat.add_assoc, Nat.add_comm 1 j] using this) A' W' hI'
    refine wpList_step fun K hK => ?_
    rw [hwa]
    rcases hfix W hI.g with ⟨hw, hgv⟩ | ⟨hw, hu⟩
    · rw [if_pos hw]
      unfold Oper.wp
      rw [hex]
      unfold Gives at hgv
      generalize (execOp (Act.eval ⟨Z, []⟩) o).run P W = r at *
      cases r with
      | ok n w' =>
        cases n with
        | value u =>
          obtain ⟨rfl, hG⟩ := hgv
          exact hK _ _ (hrest _ _ (hI.put hok ho _ (fun d hd' => by rw [hd']; rfl) hind hG))
        | skip =>
          obtain ⟨h1, hG⟩ := hgv
          exact hK _ _ (hrest _ _ (hI.put hok ho _ (fun d hd' => by rw [hd'] at h1; exact h1.symm) hind hG))
        | enter f args =>
          refine Calls.mono hgv (fun e w'' hp => ?_)
          obtain ⟨rfl, hG⟩ := hp
          exact hK _ _ (hrest _ _ (hI.put hok ho _ (fun d hd' => by rw [hd']; rfl) hind hG))
        | _ => exact hgv.elim
      | halt x w' => exact hgv.elim
    · rw [if_neg (by rw [hw]; decide)]
      exact hK _ _ (hrest _ _ (hI.put hok ho _ (fun d hd' => (hu d hd').symm) hind hI.g))
/-- The law, with what is laid (ws). -/
theorem wp_region_fixP {P : Program} {os : List Oper} {Q : Exit → Act → World → Prop} {id : Nat} {a : Act} {w : World} (G : World → Prop) (ws : List (Nat × Value)) (Z : Array Value)
    (hZ : ws.foldl (fun F p => F.setIfInBounds p.1 p.2) a.tmps = Z) (hok : chkP os.toArray = true) (hws : ws.map (·.1) = os.filterMap (·.dst)) (hin : (ws.all fun p => decide (p.1 < a.tmps.size)) = true)
    (h0 : G w) (hops : FixAll P os.toArray (fun _ => Z) Z G 0 os) (he : ∀ w, G w → Q .normal ⟨Z, a.defers⟩ w) : (Code.region id os.toArray false).wp P Q a w := by
  have hsz : Z.size = a.tmps.size := by rw [← hZ, foldl_size]
  refine wp_region_lit (wpList_fixP (a := a) G Z hok (fun o ho d hd => ?_) (fun k hk => ?_) hops he os 0 (fun j => by rw [Nat.zero_add]) a w ⟨hsz.symm, rfl, fun i o d hi => (by omega), fun _ _ => rfl, h0⟩)
  · have h1 : d ∈ ws.map (·.1) := by rw [hws]; exact List.mem_filterMap.2 ⟨o, ho, hd⟩
    obtain ⟨p, hp, rfl⟩ := List.mem_map.1 h1
    rw [List.all_eq_true] at hin
    have := hin p hp
    rw [hsz]
    simpa using this
  · rw [← hZ, Array.getD_eq_getD_getElem?, Array.getD_eq_getD_getElem?, foldl_other ws _ k (fun p hp e => ?_)]
    have h1 : p.1 ∈ os.filterMap (·.dst) := by rw [← hws]; exact List.mem_map.2 ⟨p, hp, rfl⟩
    obtain ⟨o, ho, hd⟩ := List.mem_filterMap.1 h1
    exact hk o ho (by rw [hd, e])
end Go.Proofs.YtlgfbcfogcmdbaaDoor
namespace Go.Proofs.YtlgfbcfogcmdbaaDoor
open Go.RowKit
set_option linter.unusedVariables false in
set_option maxRecDepth 100000 in
set_option maxHeartbeats 8000000 in
theorem odd_letters (k f t st ss pp tg rm os is : Nat) (b1 : Option Addr) (b2 b3 : Nat) (d1 : Option Addr) (d2 d3 : Nat) (p1 : Option Addr) (p2 p3 : Nat) (x1 : Option Addr) (x2 x3 : Nat) (w : World)
    (k0 n3 n4 n5 k1 k2 k3 k7 n2 n6 n8 n9 n7 n10 n11 hp n12 hd n13 : Bool) (HBk0 : Hid (((k : Int) != 0) = k0)) (HBn3 : Hid (((st : Int) != 0) = n3)) (HBn4 : Hid (((ss : Int) != 0) = n4)) (HBn5 : Hid (((pp : Int) != 0) = n5)) (HBk1 : Hid (((k : Int) != 1) = k1)) (HBk2 : Hid (((k : Int) != 2) = k2)) (HBk3 : Hid (((k : Int) != 3) = k3)) (HBk7 : Hid (((k : Int) != 7) = k7)) (HBn2 : Hid (((t : Int) != 0) = n2)) (HBn6 : Hid (((tg : Int) != 0) = n6)) (HBn8 : Hid (((os : Int) != 0) = n8)) (HBn9 : Hid (((is : Int) != 0) = n9)) (HBn7 : Hid (((rm : Int) != 0) = n7)) (HBn10 : Hid (decide (0 < b2) = n10)) (HBn11 : Hid (decide (0 < d2) = n11)) (HBn12 : Hid (decide (0 < p2) = n12)) (HBn13 : Hid (decide (0 < x2) = n13))
    (HHP : Hid (∀ W, Calls Tryd.prog 52 #[.int .u8 (k : Nat)] W fun e w' => e = .returned (.bool hp) ∧ Below W.heap.size W w')) (HHD : Hid (∀ W, Calls Tryd.prog 53 #[.int .u8 (k : Nat)] W fun e w' => e = .returned (.bool hd) ∧ Below W.heap.size W w'))
    (g1 p16 g2 p21 p22 g3 g4 p29 g5 p33 g6 p37 g7 p41 g8 p46 p47 g9 g10 p54 g11 g12 p63 g13 p68 p69 p70 g14 g15 p77 g16 p81 g17 p86 p87 g18 g19 g20 p101 p102 p103 g21 uhp g22 p113 p114 g23 g24 uhd p122 g25 p128 p129 : Bool) (Hg1 : Hid (g1 = (k0 && !n3))) (Hp16 : Hid (p16 = (n3 || n4))) (Hg2 : Hid (g2 = (k0 && !p16))) (Hp21 : Hid (p21 = (p16 || n5))) (Hp22 : Hid (p22 = (k0 && p21))) (Hg3 : Hid (g3 = !p22)) (Hg4 : Hid (g4 = (g3 && k0))) (Hp29 : Hid (p29 = (k0 && k1))) (Hg5 : Hid (g5 = (g3 && p29))) (Hp33 : Hid (p33 = (p29 && k2))) (Hg6 : Hid (g6 = (g3 && p33))) (Hp37 : Hid (p37 = (p33 && k3))) (Hg7 : Hid (g7 = (g3 && p37))) (Hp41 : Hid (p41 = (p37 && k7))) (Hg8 : Hid (g8 = (g3 && p41))) (Hp46 : Hid (p46 = (p41 && n2))) (Hp47 : Hid (p47 = (p22 || p46))) (Hg9 : Hid (g9 = !p47)) (Hg10 : Hid (g10 = (g9 && k1))) (Hp54 : Hid (p54 = (k1 && k2))) (Hg11 : Hid (g11 = (g9 && p54))) (Hg12 : Hid (g12 = (g11 && !n6))) (Hp63 : Hid (p63 = (n6 || n8))) (Hg13 : Hid (g13 = (g11 && !p63))) (Hp68 : Hid (p68 = (p63 || n9))) (Hp69 : Hid (p69 = (p54 && p68))) (Hp70 : Hid (p70 = (p47 || p69))) (Hg14 : Hid (g14 = !p70)) (Hg15 : Hid (g15 = (g14 && k1))) (Hp77 : Hid (p77 = (k1 && k2))) (Hg16 : Hid (g16 = (g14 && p77))) (Hp81 : Hid (p81 = (p77 && k3))) (Hg17 : Hid (g17 = (g14 && p81))) (Hp86 : Hid (p86 = (p81 && n7))) (Hp87 : Hid (p87 = (p70 || p86))) (Hg18 : Hid (g18 = !p87)) (Hg19 : Hid (g19 = (g18 && k3))) (Hg20 : Hid (g20 = (g19 && !n10))) (Hp101 : Hid (p101 = (n10 || n11))) (Hp102 : Hid (p102 = (k3 && p101))) (Hp103 : Hid (p103 = (p87 || p102))) (Hg21 : Hid (g21 = !p103)) (Huhp : Hid (uhp = !hp)) (Hg22 : Hid (g22 = (g21 && uhp))) (Hp113 : Hid (p113 = (uhp && n12))) (Hp114 : Hid (p114 = (p103 || p113))) (Hg23 : Hid (g23 = !p114)) (Hg24 : Hid (g24 = (g23 && k0))) (Huhd : Hid (uhd = !hd)) (Hp122 : Hid (p122 = (k0 && uhd))) (Hg25 : Hid (g25 = (g23 && p122))) (Hp128 : Hid (p128 = (p122 && n13))) (Hp129 : Hid (p129 = (p114 || p128))) :
    Calls Tryd.prog 34 #[.agg #[.int .u8 (k : Nat), .int .u8 (f : Nat), .int .u32 (t : Nat), .int .u16 (st : Nat), .int .u16 (ss : Nat), .int .u32 (pp : Nat), .int .u32 (tg : Nat), .int .u32 (rm : Nat), .int .u16 (os : Nat), .int .u16 (is : Nat), .slice b1 b2 b3, .slice d1 d2 d3, .slice p1 p2 p3, .slice x1 x2 x3]] w fun e w' => e = .returned (.bool p129) ∧ Below w.heap.size w w' := by
  obtain ⟨W1, hW1⟩ : ∃ W1, W1 = w.alloc (.cells #[.int .u8 (k : Nat), .int .u8 (f : Nat), .int .u32 (t : Nat), .int .u16 (st : Nat), .int .u16 (ss : Nat), .int .u32 (pp : Nat), .int .u32 (tg : Nat), .int .u32 (rm : Nat), .int .u16 (os : Nat), .int .u16 (is : Nat), .slice b1 b2 b3, .slice d1 d2 d3, .slice p1 p2 p3, .slice x1 x2 x3] 32) := ⟨_, rfl⟩
  have bb1 : Below w.heap.size w W1 := by rw [hW1]; exact (Below.refl _ _).alloc (Nat.le_refl _) _
  have s1 := Stc.new w [.int .u8 (k : Nat), .int .u8 (f : Nat), .int .u32 (t : Nat), .int .u16 (st : Nat), .int .u16 (ss : Nat), .int .u32 (pp : Nat), .int .u32 (tg : Nat), .int .u32 (rm : Nat), .int .u16 (os : Nat), .int .u16 (is : Nat), .slice b1 b2 b3, .slice d1 d2 d3, .slice p1 p2 p3, .slice x1 x2 x3] 32 W1 hW1
  have HC : Hid (∀ V, Below W1.heap.size W1 V → V.cell? ⟨w.heap.size, 0, none⟩ = some (.int .u8 (k : Nat)) ∧ V.cell? ⟨w.heap.size, 2, none⟩ = some (.int .u32 (t : Nat)) ∧ V.cell? ⟨w.heap.size, 3, none⟩ = some (.int .u16 (st : Nat)) ∧ V.cell? ⟨w.heap.size, 4, none⟩ = some (.int .u16 (ss : Nat)) ∧ V.cell? ⟨w.heap.size, 5, none⟩ = some (.int .u32 (pp : Nat)) ∧ V.cell? ⟨w.heap.size, 6, none⟩ = some (.int .u32 (tg : Nat)) ∧ V.cell? ⟨w.heap.size, 7, none⟩ = some (.int .u32 (rm : Nat)) ∧ V.cell? ⟨w.heap.size, 8, none⟩ = some (.int .u16 (os : Nat)) ∧ V.cell? ⟨w.heap.size, 9, none⟩ = some (.int .u16 (is : Nat)) ∧ V.cell? ⟨w.heap.size, 10, none⟩ = some (.slice b1 b2 b3) ∧ V.cell? ⟨w.heap.size, 11, none⟩ = some (.slice d1 d2 d3) ∧ V.cell? ⟨w.heap.size, 12, none⟩ = some (.slice p1 p2 p3) ∧ V.cell? ⟨w.heap.size, 13, none⟩ = some (.slice x1 x2 x3)) := by
    show ∀ _, _
    intro V hV
    have s := s1.below hV
    exact ⟨s.cell 0 _ rfl, s.cell 2 _ rfl, s.cell 3 _ rfl, s.cell 4 _ rfl, s.cell 5 _ rfl, s.cell 6 _ rfl, s.cell 7 _ rfl, s.cell 8 _ rfl, s.cell 9 _ rfl, s.cell 10 _ rfl, s.cell 11 _ rfl, s.cell 12 _ rfl, s.cell 13 _ rfl⟩
  have HB1 := (show Hid _ from bb1)
  clear s1 bb1
  go_enter Tryd.func34, Tryd.ntmps34
  go_upto_region 2 with fail
  rw [← hW1]
  clear hW1
  refine wp_region_fixP (fun V => Below W1.heap.size W1 V) [(6, .int .u8 (k : Nat)), (7, .bool k0), (8, .bool k0), (9, bif k0 then .pointer (some ⟨w.heap.size, 3, none⟩) else undef), (10, bif k0 then .int .u16 (st : Nat) else undef), (11, bif k0 then .bool n3 else undef), (12, bif k0 then .bool n3 else undef), (13, bif g1 then .pointer (some ⟨w.heap.size, 4, none⟩) else undef), (14, bif g1 then .int .u16 (ss : Nat) else undef), (15, bif g1 then .bool n4 else undef), (16, bif k0 then .bool p16 else undef), (17, bif k0 then .bool p16 else undef), (18, bif g2 then .pointer (some ⟨w.heap.size, 5, none⟩) else undef), (19, bif g2 then .int .u32 (pp : Nat) else undef), (20, bif g2 then .bool n5 else undef), (21, bif k0 then .bool p21 else undef), (22, .bool p22), (23, .bool p22), (24, bif g3 then .int .u8 (k : Nat) else undef), (25, bif g3 then .bool k0 else undef), (26, bif g3 then .bool k0 else undef), (27, bif g4 then .int .u8 (k : Nat) else undef), (28, bif g4 then .bool k1 else undef), (29, bif g3 then .bool p29 else undef), (30, bif g3 then .bool p29 else undef), (31, bif g5 then .int .u8 (k : Nat) else undef), (32, bif g5 then .bool k2 else undef), (33, bif g3 then .bool p33 else undef), (34, bif g3 then .bool p33 else undef), (35, bif g6 then .int .u8 (k : Nat) else undef), (36, bif g6 then .bool k3 else undef), (37, bif g3 then .bool p37 else undef), (38, bif g3 then .bool p37 else undef), (39, bif g7 then .int .u8 (k : Nat) else undef), (40, bif g7 then .bool k7 else undef), (41, bif g3 then .bool p41 else undef), (42, bif g3 then .bool p41 else undef), (43, bif g8 then .pointer (some ⟨w.heap.size, 2, none⟩) else undef), (44, bif g8 then .int .u32 (t : Nat) else undef), (45, bif g8 then .bool n2 else undef), (46, bif g3 then .bool p46 else undef), (47, .bool p47), (48, .bool p47), (49, bif g9 then .int .u8 (k : Nat) else undef), (50, bif g9 then .bool k1 else undef), (51, bif g9 then .bool k1 else undef), (52, bif g10 then .int .u8 (k : Nat) else undef), (53, bif g10 then .bool k2 else undef), (54, bif g9 then .bool p54 else undef), (55, bif g9 then .bool p54 else undef), (56, bif g11 then .pointer (some ⟨w.heap.size, 6, none⟩) else undef), (57, bif g11 then .int .u32 (tg : Nat) else undef), (58, bif g11 then .bool n6 else undef), (59, bif g11 then .bool n6 else undef), (60, bif g12 then .pointer (some ⟨w.heap.size, 8, none⟩) else undef), (61, bif g12 then .int .u16 (os : Nat) else undef), (62, bif g12 then .bool n8 else undef), (63, bif g11 then .bool p63 else undef), (64, bif g11 then .bool p63 else undef), (65, bif g13 then .pointer (some ⟨w.heap.size, 9, none⟩) else undef), (66, bif g13 then .int .u16 (is : Nat) else undef), (67, bif g13 then .bool n9 else undef), (68, bif g11 then .bool p68 else undef), (69, bif g9 then .bool p69 else undef), (70, .bool p70), (71, .bool p70), (72, bif g14 then .int .u8 (k : Nat) else undef), (73, bif g14 then .bool k1 else undef), (74, bif g14 then .bool k1 else undef), (75, bif g15 then .int .u8 (k : Nat) else undef), (76, bif g15 then .bool k2 else undef), (77, bif g14 then .bool p77 else undef), (78, bif g14 then .bool p77 else undef), (79, bif g16 then .int .u8 (k : Nat) else undef), (80, bif g16 then .bool k3 else undef), (81, bif g14 then .bool p81 else undef), (82, bif g14 then .bool p81 else undef), (83, bif g17 then .pointer (some ⟨w.heap.size, 7, none⟩) else undef), (84, bif g17 then .int .u32 (rm : Nat) else undef), (85, bif g17 then .bool n7 else undef), (86, bif g14 then .bool p86 else undef), (87, .bool p87), (88, .bool p87), (89, bif g18 then .int .u8 (k : Nat) else undef), (90, bif g18 then .bool k3 else undef), (91, bif g18 then .bool k3 else undef), (92, bif g19 then .pointer (some ⟨w.heap.size, 10, none⟩) else undef), (93, bif g19 then .slice b1 b2 b3 else undef), (94, bif g19 then .int .i64 (b2 : Nat) else undef), (95, bif g19 then .bool n10 else undef), (96, bif g19 then .bool n10 else undef), (97, bif g20 then .pointer (some ⟨w.heap.size, 11, none⟩) else undef), (98, bif g20 then .slice d1 d2 d3 else undef), (99, bif g20 then .int .i64 (d2 : Nat) else undef), (100, bif g20 then .bool n11 else undef), (101, bif g19 then .bool p101 else undef), (102, bif g18 then .bool p102 else undef), (103, .bool p103), (104, .bool p103), (105, bif g21 then .int .u8 (k : Nat) else undef), (106, bif g21 then .bool hp else undef), (107, bif g21 then .bool uhp else undef), (108, bif g21 then .bool uhp else undef), (109, bif g22 then .pointer (some ⟨w.heap.size, 12, none⟩) else undef), (110, bif g22 then .slice p1 p2 p3 else undef), (111, bif g22 then .int .i64 (p2 : Nat) else undef), (112, bif g22 then .bool n12 else undef), (113, bif g21 then .bool p113 else undef), (114, .bool p114), (115, .bool p114), (116, bif g23 then .int .u8 (k : Nat) else undef), (117, bif g23 then .bool k0 else undef), (118, bif g23 then .bool k0 else undef), (119, bif g24 then .int .u8 (k : Nat) else undef), (120, bif g24 then .bool hd else undef), (121, bif g24 then .bool uhd else undef), (122, bif g23 then .bool p122 else undef), (123, bif g23 then .bool p122 else undef), (124, bif g25 then .pointer (some ⟨w.heap.size, 13, none⟩) else undef), (125, bif g25 then .slice x1 x2 x3 else undef), (126, bif g25 then .int .i64 (x2 : Nat) else undef), (127, bif g25 then .bool n13 else undef), (128, bif g23 then .bool p128 else undef), (129, .bool p129), (2, .bool p129)] ?Z ?hZ (by kernel_rfl) (by kernel_rfl) (by kernel_rfl) (Below.refl _ _) ?hops ?he
  case hZ => simp only [List.foldl_cons, List.foldl_nil, List.setIfInBounds_toArray, List.set_cons_zero, List.set_cons_succ]; rfl
  case hops =>
    refine ⟨?_, ?_, ?_, ?_, ?_, ?_, ?_, ?_, ?_, ?_, ?_, ?_, ?_, ?_, ?_, ?_, ?_, ?_, ?_, ?_, ?_, ?_, ?_, ?_, ?_, ?_, ?_, ?_, ?_, ?_, ?_, ?_, ?_, ?_, ?_, ?_, ?_, ?_, ?_, ?_, ?_, ?_, ?_, ?_, ?_, ?_, ?_, ?_, ?_, ?_, ?_, ?_, ?_, ?_, ?_, ?_, ?_, ?_, ?_, ?_, ?_, ?_, ?_, ?_, ?_, ?_, ?_, ?_, ?_, ?_, ?_, ?_, ?_, ?_, ?_, ?_, ?_, ?_, ?_, ?_, ?_, ?_, ?_, ?_, ?_, ?_, ?_, ?_, ?_, ?_, ?_, ?_, ?_, ?_, ?_, ?_, ?_, ?_, ?_, ?_, ?_, ?_, ?_, ?_, ?_, ?_, ?_, ?_, ?_, ?_, ?_, ?_, ?_, ?_, ?_, ?_, ?_, ?_, ?_, ?_, ?_, ?_, ?_, ?_, ?_, trivial⟩
    · first | exact fix_off (by rfl) (fun d hd => by cases hd; rfl) | exact fix_val (by rfl) (fun W hW => by obtain ⟨c0, c2, c3, c4, c5, c6, c7, c8, c9, c10, c11, c12, c13⟩ := HC.out W hW; go_simp; (try with_reducible rfl))
    · first | exact fix_off (by rfl) (fun d hd => by cases hd; rfl) | exact fix_val (by rfl) (fun W hW => by have hb := HBk0.out; go_simp; (try simp [hb]))
    · first | exact fix_off (by rfl) (fun d hd => by cases hd; rfl) | exact fix_val (by rfl) (fun W hW => by obtain ⟨c0, c2, c3, c4, c5, c6, c7, c8, c9, c10, c11, c12, c13⟩ := HC.out W hW; go_simp; (try with_reducible rfl))
    · cases k0 <;> (first | exact fix_off (by rfl) (fun d hd => by cases hd; rfl) | exact fix_val (by rfl) (fun W hW => by obtain ⟨c0, c2, c3, c4, c5, c6, c7, c8, c9, c10, c11, c12, c13⟩ := HC.out W hW; go_simp; (try with_reducible rfl)))
    · cases k0 <;> (first | exact fix_off (by rfl) (fun d hd => by cases hd; rfl) | exact fix_val (by rfl) (fun W hW => by obtain ⟨c0, c2, c3, c4, c5, c6, c7, c8, c9, c10, c11, c12, c13⟩ := HC.out W hW; go_simp; (try with_reducible rfl)))
    · cases k0 <;> (first | exact fix_off (by rfl) (fun d hd => by cases hd; rfl) | exact fix_val (by rfl) (fun W hW => by have hb := HBn3.out; go_simp; (try simp [hb])))
    · cases k0 <;> (first | exact fix_off (by rfl) (fun d hd => by cases hd; rfl) | exact fix_val (by rfl) (fun W hW => by obtain ⟨c0, c2, c3, c4, c5, c6, c7, c8, c9, c10, c11, c12, c13⟩ := HC.out W hW; go_simp; (try with_reducible rfl)))
    · have eg1 := Hg1.out; clear Hg1; subst eg1; cases n3 <;> cases k0 <;> (first | exact fix_off (by rfl) (fun d hd => by cases hd; rfl) | exact fix_val (by rfl) (fun W hW => by obtain ⟨c0, c2, c3, c4, c5, c6, c7, c8, c9, c10, c11, c12, c13⟩ := HC.out W hW; go_simp; (try with_reducible rfl)))
    · have eg1 := Hg1.out; clear Hg1; subst eg1; cases n3 <;> cases k0 <;> (first | exact fix_off (by rfl) (fun d hd => by cases hd; rfl) | exact fix_val (by rfl) (fun W hW => by obtain ⟨c0, c2, c3, c4, c5, c6, c7, c8, c9, c10, c11, c12, c13⟩ := HC.out W hW; go_simp; (try with_reducible rfl)))
    · have eg1 := Hg1.out; clear Hg1; subst eg1; cases n3 <;> cases k0 <;> (first | exact fix_off (by rfl) (fun d hd => by cases hd; rfl) | exact fix_val (by rfl) (fun W hW => by have hb := HBn4.out; go_simp; (try simp [hb])))
    · have ep16 := Hp16.out; clear Hp16; subst ep16; have eg1 := Hg1.out; clear Hg1; subst eg1; cases k0 <;> cases n3 <;> cases n4 <;> (first | exact fix_off (by rfl) (fun d hd => by cases hd; rfl) | exact fix_val (by rfl) (fun W hW => by obtain ⟨c0, c2, c3, c4, c5, c6, c7, c8, c9, c10, c11, c12, c13⟩ := HC.out W hW; go_simp; (try with_reducible rfl)))
    · cases k0 <;> (first | exact fix_off (by rfl) (fun d hd => by cases hd; rfl) | exact fix_val (by rfl) (fun W hW => by obtain ⟨c0, c2, c3, c4, c5, c6, c7, c8, c9, c10, c11, c12, c13⟩ := HC.out W hW; go_simp; (try with_reducible rfl)))
    · have eg2 := Hg2.out; clear Hg2; subst eg2; cases p16 <;> cases k0 <;> (first | exact fix_off (by rfl) (fun d hd => by cases hd; rfl) | exact fix_val (by rfl) (fun W hW => by obtain ⟨c0, c2, c3, c4, c5, c6, c7, c8, c9, c10, c11, c12, c13⟩ := HC.out W hW; go_simp; (try with_reducible rfl)))
    · have eg2 := Hg2.out; clear Hg2; subst eg2; cases p16 <;> cases k0 <;> (first | exact fix_off (by rfl) (fun d hd => by cases hd; rfl) | exact fix_val (by rfl) (fun W hW => by obtain ⟨c0, c2, c3, c4, c5, c6, c7, c8, c9, c10, c11, c12, c13⟩ := HC.out W hW; go_simp; (try with_reducible rfl)))
    · have eg2 := Hg2.out; clear Hg2; subst eg2; cases p16 <;> cases k0 <;> (first | exact fix_off (by rfl) (fun d hd => by cases hd; rfl) | exact fix_val (by rfl) (fun W hW => by have hb := HBn5.out; go_simp; (try simp [hb])))
    · have ep21 := Hp21.out; clear Hp21; subst ep21; have eg2 := Hg2.out; clear Hg2; subst eg2; cases k0 <;> cases p16 <;> cases n5 <;> (first | exact fix_off (by rfl) (fun d hd => by cases hd; rfl) | exact fix_val (by rfl) (fun W hW => by obtain ⟨c0, c2, c3, c4, c5, c6, c7, c8, c9, c10, c11, c12, c13⟩ := HC.out W hW; go_simp; (try with_reducible rfl)))
    · have ep22 := Hp22.out; clear Hp22; subst ep22; cases k0 <;> cases p21 <;> (first | exact fix_off (by rfl) (fun d hd => by cases hd; rfl) | exact fix_val (by rfl) (fun W hW => by obtain ⟨c0, c2, c3, c4, c5, c6, c7, c8, c9, c10, c11, c12, c13⟩ := HC.out W hW; go_simp; (try with_reducible rfl)))
    · first | exact fix_off (by rfl) (fun d hd => by cases hd; rfl) | exact fix_val (by rfl) (fun W hW => by obtain ⟨c0, c2, c3, c4, c5, c6, c7, c8, c9, c10, c11, c12, c13⟩ := HC.out W hW; go_simp; (try with_reducible rfl))
    · have eg3 := Hg3.out; clear Hg3; subst eg3; cases p22 <;> (first | exact fix_off (by rfl) (fun d hd => by cases hd; rfl) | exact fix_val (by rfl) (fun W hW => by obtain ⟨c0, c2, c3, c4, c5, c6, c7, c8, c9, c10, c11, c12, c13⟩ := HC.out W hW; go_simp; (try with_reducible rfl)))
    · have eg3 := Hg3.out; clear Hg3; subst eg3; cases p22 <;> (first | exact fix_off (by rfl) (fun d hd => by cases hd; rfl) | exact fix_val (by rfl) (fun W hW => by have hb := HBk0.out; go_simp; (try simp [hb])))
    · have eg3 := Hg3.out; clear Hg3; subst eg3; cases p22 <;> (first | exact fix_off (by rfl) (fun d hd => by cases hd; rfl) | exact fix_val (by rfl) (fun W hW => by obtain ⟨c0, c2, c3, c4, c5, c6, c7, c8, c9, c10, c11, c12, c13⟩ := HC.out W hW; go_simp; (try with_reducible rfl)))
    · have eg4 := Hg4.out; clear Hg4; subst eg4; have eg3 := Hg3.out; clear Hg3; subst eg3; cases k0 <;> cases p22 <;> (first | exact fix_off (by rfl) (fun d hd => by cases hd; rfl) | exact fix_val (by rfl) (fun W hW => by obtain ⟨c0, c2, c3, c4, c5, c6, c7, c8, c9, c10, c11, c12, c13⟩ := HC.out W hW; go_simp; (try with_reducible rfl)))
    · have eg4 := Hg4.out; clear Hg4; subst eg4; have eg3 := Hg3.out; clear Hg3; subst eg3; cases k0 <;> cases p22 <;> (first | exact fix_off (by rfl) (fun d hd => by cases hd; rfl) | exact fix_val (by rfl) (fun W hW => by have hb := HBk1.out; go_simp; (try simp [hb])))
    · have ep29 := Hp29.out; clear Hp29; subst ep29; have eg4 := Hg4.out; clear Hg4; subst eg4; have eg3 := Hg3.out; clear Hg3; subst eg3; cases p22 <;> cases k0 <;> cases k1 <;> (first | exact fix_off (by rfl) (fun d hd => by cases hd; rfl) | exact fix_val (by rfl) (fun W hW => by obtain ⟨c0, c2, c3, c4, c5, c6, c7, c8, c9, c10, c11, c12, c13⟩ := HC.out W hW; go_simp; (try with_reducible rfl)))
    · have eg3 := Hg3.out; clear Hg3; subst eg3; cases p22 <;> (first | exact fix_off (by rfl) (fun d hd => by cases hd; rfl) | exact fix_val (by rfl) (fun W hW => by obtain ⟨c0, c2, c3, c4, c5, c6, c7, c8, c9, c10, c11, c12, c13⟩ := HC.out W hW; go_simp; (try with_reducible rfl)))
    · have eg5 := Hg5.out; clear Hg5; subst eg5; have eg3 := Hg3.out; clear Hg3; subst eg3; cases p29 <;> cases p22 <;> (first | exact fix_off (by rfl) (fun d hd => by cases hd; rfl) | exact fix_val (by rfl) (fun W hW => by obtain ⟨c0, c2, c3, c4, c5, c6, c7, c8, c9, c10, c11, c12, c13⟩ := HC.out W hW; go_simp; (try with_reducible rfl)))
    · have eg5 := Hg5.out; clear Hg5; subst eg5; have eg3 := Hg3.out; clear Hg3; subst eg3; cases p29 <;> cases p22 <;> (first | exact fix_off (by rfl) (fun d hd => by cases hd; rfl) | exact fix_val (by rfl) (fun W hW => by have hb := HBk2.out; go_simp; (try simp [hb])))
    · have ep33 := Hp33.out; clear Hp33; subst ep33; have eg5 := Hg5.out; clear Hg5; subst eg5; have eg3 := Hg3.out; clear Hg3; subst eg3; cases p22 <;> cases p29 <;> cases k2 <;> (first | exact fix_off (by rfl) (fun d hd => by cases hd; rfl) | exact fix_val (by rfl) (fun W hW => by obtain ⟨c0, c2, c3, c4, c5, c6, c7, c8, c9, c10, c11, c12, c13⟩ := HC.out W hW; go_simp; (try with_reducible rfl)))
    · have eg3 := Hg3.out; clear Hg3; subst eg3; cases p22 <;> (first | exact fix_off (by rfl) (fun d hd => by cases hd; rfl) | exact fix_val (by rfl) (fun W hW => by obtain ⟨c0, c2, c3, c4, c5, c6, c7, c8, c9, c10, c11, c12, c13⟩ := HC.out W hW; go_simp; (try with_reducible rfl)))
    · have eg6 := Hg6.out; clear Hg6; subst eg6; have eg3 := Hg3.out; clear Hg3; subst eg3; cases p33 <;> cases p22 <;> (first | exact fix_off (by rfl) (fun d hd => by cases hd; rfl) | exact fix_val (by rfl) (fun W hW => by obtain ⟨c0, c2, c3, c4, c5, c6, c7, c8, c9, c10, c11, c12, c13⟩ := HC.out W hW; go_simp; (try with_reducible rfl)))
    · have eg6 := Hg6.out; clear Hg6; subst eg6; have eg3 := Hg3.out; clear Hg3; subst eg3; cases p33 <;> cases p22 <;> (first | exact fix_off (by rfl) (fun d hd => by cases hd; rfl) | exact fix_val (by rfl) (fun W hW => by have hb := HBk3.out; go_simp; (try simp [hb])))
    · have ep37 := Hp37.out; clear Hp37; subst ep37; have eg6 := Hg6.out; clear Hg6; subst eg6; have eg3 := Hg3.out; clear Hg3; subst eg3; cases p22 <;> cases p33 <;> cases k3 <;> (first | exact fix_off (by rfl) (fun d hd => by cases hd; rfl) | exact fix_val (by rfl) (fun W hW => by obtain ⟨c0, c2, c3, c4, c5, c6, c7, c8, c9, c10, c11, c12, c13⟩ := HC.out W hW; go_simp; (try with_reducible rfl)))
    · have eg3 := Hg3.out; clear Hg3; subst eg3; cases p22 <;> (first | exact fix_off (by rfl) (fun d hd => by cases hd; rfl) | exact fix_val (by rfl) (fun W hW => by obtain ⟨c0, c2, c3, c4, c5, c6, c7, c8, c9, c10, c11, c12, c13⟩ := HC.out W hW; go_simp; (try with_reducible rfl)))
    · have eg7 := Hg7.out; clear Hg7; subst eg7; have eg3 := Hg3.out; clear Hg3; subst eg3; cases p37 <;> cases p22 <;> (first | exact fix_off (by rfl) (fun d hd => by cases hd; rfl) | exact fix_val (by rfl) (fun W hW => by obtain ⟨c0, c2, c3, c4, c5, c6, c7, c8, c9, c10, c11, c12, c13⟩ := HC.out W hW; go_simp; (try with_reducible rfl)))
    · have eg7 := Hg7.out; clear Hg7; subst eg7; have eg3 := Hg3.out; clear Hg3; subst eg3; cases p37 <;> cases p22 <;> (first | exact fix_off (by rfl) (fun d hd => by cases hd; rfl) | exact fix_val (by rfl) (fun W hW => by have hb := HBk7.out; go_simp; (try simp [hb])))
    · have ep41 := Hp41.out; clear Hp41; subst ep41; have eg7 := Hg7.out; clear Hg7; subst eg7; have eg3 := Hg3.out; clear Hg3; subst eg3; cases p22 <;> cases p37 <;> cases k7 <;> (first | exact fix_off (by rfl) (fun d hd => by cases hd; rfl) | exact fix_val (by rfl) (fun W hW => by obtain ⟨c0, c2, c3, c4, c5, c6, c7, c8, c9, c10, c11, c12, c13⟩ := HC.out W hW; go_simp; (try with_reducible rfl)))
    · have eg3 := Hg3.out; clear Hg3; subst eg3; cases p22 <;> (first | exact fix_off (by rfl) (fun d hd => by cases hd; rfl) | exact fix_val (by rfl) (fun W hW => by obtain ⟨c0, c2, c3, c4, c5, c6, c7, c8, c9, c10, c11, c12, c13⟩ := HC.out W hW; go_simp; (try with_reducible rfl)))
    · have eg8 := Hg8.out; clear Hg8; subst eg8; have eg3 := Hg3.out; clear Hg3; subst eg3; cases p41 <;> cases p22 <;> (first | exact fix_off (by rfl) (fun d hd => by cases hd; rfl) | exact fix_val (by rfl) (fun W hW => by obtain ⟨c0, c2, c3, c4, c5, c6, c7, c8, c9, c10, c11, c12, c13⟩ := HC.out W hW; go_simp; (try with_reducible rfl)))
    · have eg8 := Hg8.out; clear Hg8; subst eg8; have eg3 := Hg3.out; clear Hg3; subst eg3; cases p41 <;> cases p22 <;> (first | exact fix_off (by rfl) (fun d hd => by cases hd; rfl) | exact fix_val (by rfl) (fun W hW => by obtain ⟨c0, c2, c3, c4, c5, c6, c7, c8, c9, c10, c11, c12, c13⟩ := HC.out W hW; go_simp; (try with_reducible rfl)))
    · have eg8 := Hg8.out; clear Hg8; subst eg8; have eg3 := Hg3.out; clear Hg3; subst eg3; cases p41 <;> cases p22 <;> (first | exact fix_off (by rfl) (fun d hd => by cases hd; rfl) | exact fix_val (by rfl) (fun W hW => by have hb := HBn2.out; go_simp; (try simp [hb])))
    · have ep46 := Hp46.out; clear Hp46; subst ep46; have eg8 := Hg8.out; clear Hg8; subst eg8; have eg3 := Hg3.out; clear Hg3; subst eg3; cases p22 <;> cases p41 <;> cases n2 <;> (first | exact fix_off (by rfl) (fun d hd => by cases hd; rfl) | exact fix_val (by rfl) (fun W hW => by obtain ⟨c0, c2, c3, c4, c5, c6, c7, c8, c9, c10, c11, c12, c13⟩ := HC.out W hW; go_simp; (try with_reducible rfl)))
    · have ep47 := Hp47.out; clear Hp47; subst ep47; have eg3 := Hg3.out; clear Hg3; subst eg3; cases p22 <;> cases p46 <;> (first | exact fix_off (by rfl) (fun d hd => by cases hd; rfl) | exact fix_val (by rfl) (fun W hW => by obtain ⟨c0, c2, c3, c4, c5, c6, c7, c8, c9, c10, c11, c12, c13⟩ := HC.out W hW; go_simp; (try with_reducible rfl)))
    · first | exact fix_off (by rfl) (fun d hd => by cases hd; rfl) | exact fix_val (by rfl) (fun W hW => by obtain ⟨c0, c2, c3, c4, c5, c6, c7, c8, c9, c10, c11, c12, c13⟩ := HC.out W hW; go_simp; (try with_reducible rfl))
    · have eg9 := Hg9.out; clear Hg9; subst eg9; cases p47 <;> (first | exact fix_off (by rfl) (fun d hd => by cases hd; rfl) | exact fix_val (by rfl) (fun W hW => by obtain ⟨c0, c2, c3, c4, c5, c6, c7, c8, c9, c10, c11, c12, c13⟩ := HC.out W hW; go_simp; (try with_reducible rfl)))
    · have eg9 := Hg9.out; clear Hg9; subst eg9; cases p47 <;> (first | exact fix_off (by rfl) (fun d hd => by cases hd; rfl) | exact fix_val (by rfl) (fun W hW => by have hb := HBk1.out; go_simp; (try simp [hb])))
    · have eg9 := Hg9.out; clear Hg9; subst eg9; cases p47 <;> (first | exact fix_off (by rfl) (fun d hd => by cases hd; rfl) | exact fix_val (by rfl) (fun W hW => by obtain ⟨c0, c2, c3, c4, c5, c6, c7, c8, c9, c10, c11, c12, c13⟩ := HC.out W hW; go_simp; (try with_reducible rfl)))
    · have eg10 := Hg10.out; clear Hg10; subst eg10; have eg9 := Hg9.out; clear Hg9; subst eg9; cases k1 <;> cases p47 <;> (first | exact fix_off (by rfl) (fun d hd => by cases hd; rfl) | exact fix_val (by rfl) (fun W hW => by obtain ⟨c0, c2, c3, c4, c5, c6, c7, c8, c9, c10, c11, c12, c13⟩ := HC.out W hW; go_simp; (try with_reducible rfl)))
    · have eg10 := Hg10.out; clear Hg10; subst eg10; have eg9 := Hg9.out; clear Hg9; subst eg9; cases k1 <;> cases p47 <;> (first | exact fix_off (by rfl) (fun d hd => by cases hd; rfl) | exact fix_val (by rfl) (fun W hW => by have hb := HBk2.out; go_simp; (try simp [hb])))
    · have ep54 := Hp54.out; clear Hp54; subst ep54; have eg10 := Hg10.out; clear Hg10; subst eg10; have eg9 := Hg9.out; clear Hg9; subst eg9; cases p47 <;> cases k1 <;> cases k2 <;> (first | exact fix_off (by rfl) (fun d hd => by cases hd; rfl) | exact fix_val (by rfl) (fun W hW => by obtain ⟨c0, c2, c3, c4, c5, c6, c7, c8, c9, c10, c11, c12, c13⟩ := HC.out W hW; go_simp; (try with_reducible rfl)))
    · have eg9 := Hg9.out; clear Hg9; subst eg9; cases p47 <;> (first | exact fix_off (by rfl) (fun d hd => by cases hd; rfl) | exact fix_val (by rfl) (fun W hW => by obtain ⟨c0, c2, c3, c4, c5, c6, c7, c8, c9, c10, c11, c12, c13⟩ := HC.out W hW; go_simp; (try with_reducible rfl)))
    · have eg11 := Hg11.out; clear Hg11; subst eg11; have eg9 := Hg9.out; clear Hg9; subst eg9; cases p54 <;> cases p47 <;> (first | exact fix_off (by rfl) (fun d hd => by cases hd; rfl) | exact fix_val (by rfl) (fun W hW => by obtain ⟨c0, c2, c3, c4, c5, c6, c7, c8, c9, c10, c11, c12, c13⟩ := HC.out W hW; go_simp; (try with_reducible rfl)))
    · have eg11 := Hg11.out; clear Hg11; subst eg11; have eg9 := Hg9.out; clear Hg9; subst eg9; cases p54 <;> cases p47 <;> (first | exact fix_off (by rfl) (fun d hd => by cases hd; rfl) | exact fix_val (by rfl) (fun W hW => by obtain ⟨c0, c2, c3, c4, c5, c6, c7, c8, c9, c10, c11, c12, c13⟩ := HC.out W hW; go_simp; (try with_reducible rfl)))
    · have eg11 := Hg11.out; clear Hg11; subst eg11; have eg9 := Hg9.out; clear Hg9; subst eg9; cases p54 <;> cases p47 <;> (first | exact fix_off (by rfl) (fun d hd => by cases hd; rfl) | exact fix_val (by rfl) (fun W hW => by have hb := HBn6.out; go_simp; (try simp [hb])))
    · have eg11 := Hg11.out; clear Hg11; subst eg11; have eg9 := Hg9.out; clear Hg9; subst eg9; cases p54 <;> cases p47 <;> (first | exact fix_off (by rfl) (fun d hd => by cases hd; rfl) | exact fix_val (by rfl) (fun W hW => by obtain ⟨c0, c2, c3, c4, c5, c6, c7, c8, c9, c10, c11, c12, c13⟩ := HC.out W hW; go_simp; (try with_reducible rfl)))
    · have eg12 := Hg12.out; clear Hg12; subst eg12; have eg11 := Hg11.out; clear Hg11; subst eg11; have eg9 := Hg9.out; clear Hg9; subst eg9; cases n6 <;> cases p54 <;> cases p47 <;> (first | exact fix_off (by rfl) (fun d hd => by cases hd; rfl) | exact fix_val (by rfl) (fun W hW => by obtain ⟨c0, c2, c3, c4, c5, c6, c7, c8, c9, c10, c11, c12, c13⟩ := HC.out W hW; go_simp; (try with_reducible rfl)))
    · have eg12 := Hg12.out; clear Hg12; subst eg12; have eg11 := Hg11.out; clear Hg11; subst eg11; have eg9 := Hg9.out; clear Hg9; subst eg9; cases n6 <;> cases p54 <;> cases p47 <;> (first | exact fix_off (by rfl) (fun d hd => by cases hd; rfl) | exact fix_val (by rfl) (fun W hW => by obtain ⟨c0, c2, c3, c4, c5, c6, c7, c8, c9, c10, c11, c12, c13⟩ := HC.out W hW; go_simp; (try with_reducible rfl)))
    · have eg12 := Hg12.out; clear Hg12; subst eg12; have eg11 := Hg11.out; clear Hg11; subst eg11; have eg9 := Hg9.out; clear Hg9; subst eg9; cases n6 <;> cases p54 <;> cases p47 <;> (first | exact fix_off (by rfl) (fun d hd => by cases hd; rfl) | exact fix_val (by rfl) (fun W hW => by have hb := HBn8.out; go_simp; (try simp [hb])))
    · have ep63 := Hp63.out; clear Hp63; subst ep63; have eg12 := Hg12.out; clear Hg12; subst eg12; have eg11 := Hg11.out; clear Hg11; subst eg11; have eg9 := Hg9.out; clear Hg9; subst eg9; cases p54 <;> cases n6 <;> cases n8 <;> cases p47 <;> (first | exact fix_off (by rfl) (fun d hd => by cases hd; rfl) | exact fix_val (by rfl) (fun W hW => by obtain ⟨c0, c2, c3, c4, c5, c6, c7, c8, c9, c10, c11, c12, c13⟩ := HC.out W hW; go_simp; (try with_reducible rfl)))
    · have eg11 := Hg11.out; clear Hg11; subst eg11; have eg9 := Hg9.out; clear Hg9; subst eg9; cases p54 <;> cases p47 <;> (first | exact fix_off (by rfl) (fun d hd => by cases hd; rfl) | exact fix_val (by rfl) (fun W hW => by obtain ⟨c0, c2, c3, c4, c5, c6, c7, c8, c9, c10, c11, c12, c13⟩ := HC.out W hW; go_simp; (try with_reducible rfl)))
    · have eg13 := Hg13.out; clear Hg13; subst eg13; have eg11 := Hg11.out; clear Hg11; subst eg11; have eg9 := Hg9.out; clear Hg9; subst eg9; cases p63 <;> cases p54 <;> cases p47 <;> (first | exact fix_off (by rfl) (fun d hd => by cases hd; rfl) | exact fix_val (by rfl) (fun W hW => by obtain ⟨c0, c2, c3, c4, c5, c6, c7, c8, c9, c10, c11, c12, c13⟩ := HC.out W hW; go_simp; (try with_reducible rfl)))
    · have eg13 := Hg13.out; clear Hg13; subst eg13; have eg11 := Hg11.out; clear Hg11; subst eg11; have eg9 := Hg9.out; clear Hg9; subst eg9; cases p63 <;> cases p54 <;> cases p47 <;> (first | exact fix_off (by rfl) (fun d hd => by cases hd; rfl) | exact fix_val (by rfl) (fun W hW => by obtain ⟨c0, c2, c3, c4, c5, c6, c7, c8, c9, c10, c11, c12, c13⟩ := HC.out W hW; go_simp; (try with_reducible rfl)))
    · have eg13 := Hg13.out; clear Hg13; subst eg13; have eg11 := Hg11.out; clear Hg11; subst eg11; have eg9 := Hg9.out; clear Hg9; subst eg9; cases p63 <;> cases p54 <;> cases p47 <;> (first | exact fix_off (by rfl) (fun d hd => by cases hd; rfl) | exact fix_val (by rfl) (fun W hW => by have hb := HBn9.out; go_simp; (try simp [hb])))
    · have ep68 := Hp68.out; clear Hp68; subst ep68; have eg13 := Hg13.out; clear Hg13; subst eg13; have eg11 := Hg11.out; clear Hg11; subst eg11; have eg9 := Hg9.out; clear Hg9; subst eg9; cases p54 <;> cases p63 <;> cases n9 <;> cases p47 <;> (first | exact fix_off (by rfl) (fun d hd => by cases hd; rfl) | exact fix_val (by rfl) (fun W hW => by obtain ⟨c0, c2, c3, c4, c5, c6, c7, c8, c9, c10, c11, c12, c13⟩ := HC.out W hW; go_simp; (try with_reducible rfl)))
    · have ep69 := Hp69.out; clear Hp69; subst ep69; have eg11 := Hg11.out; clear Hg11; subst eg11; have eg9 := Hg9.out; clear Hg9; subst eg9; cases p47 <;> cases p54 <;> cases p68 <;> (first | exact fix_off (by rfl) (fun d hd => by cases hd; rfl) | exact fix_val (by rfl) (fun W hW => by obtain ⟨c0, c2, c3, c4, c5, c6, c7, c8, c9, c10, c11, c12, c13⟩ := HC.out W hW; go_simp; (try with_reducible rfl)))
    · have ep70 := Hp70.out; clear Hp70; subst ep70; have eg9 := Hg9.out; clear Hg9; subst eg9; cases p47 <;> cases p69 <;> (first | exact fix_off (by rfl) (fun d hd => by cases hd; rfl) | exact fix_val (by rfl) (fun W hW => by obtain ⟨c0, c2, c3, c4, c5, c6, c7, c8, c9, c10, c11, c12, c13⟩ := HC.out W hW; go_simp; (try with_reducible rfl)))
    · first | exact fix_off (by rfl) (fun d hd => by cases hd; rfl) | exact fix_val (by rfl) (fun W hW => by obtain ⟨c0, c2, c3, c4, c5, c6, c7, c8, c9, c10, c11, c12, c13⟩ := HC.out W hW; go_simp; (try with_reducible rfl))
    · have eg14 := Hg14.out; clear Hg14; subst eg14; cases p70 <;> (first | exact fix_off (by rfl) (fun d hd => by cases hd; rfl) | exact fix_val (by rfl) (fun W hW => by obtain ⟨c0, c2, c3, c4, c5, c6, c7, c8, c9, c10, c11, c12, c13⟩ := HC.out W hW; go_simp; (try with_reducible rfl)))
    · have eg14 := Hg14.out; clear Hg14; subst eg14; cases p70 <;> (first | exact fix_off (by rfl) (fun d hd => by cases hd; rfl) | exact fix_val (by rfl) (fun W hW => by have hb := HBk1.out; go_simp; (try simp [hb])))
    · have eg14 := Hg14.out; clear Hg14; subst eg14; cases p70 <;> (first | exact fix_off (by rfl) (fun d hd => by cases hd; rfl) | exact fix_val (by rfl) (fun W hW => by obtain ⟨c0, c2, c3, c4, c5, c6, c7, c8, c9, c10, c11, c12, c13⟩ := HC.out W hW; go_simp; (try with_reducible rfl)))
    · have eg15 := Hg15.out; clear Hg15; subst eg15; have eg14 := Hg14.out; clear Hg14; subst eg14; cases k1 <;> cases p70 <;> (first | exact fix_off (by rfl) (fun d hd => by cases hd; rfl) | exact fix_val (by rfl) (fun W hW => by obtain ⟨c0, c2, c3, c4, c5, c6, c7, c8, c9, c10, c11, c12, c13⟩ := HC.out W hW; go_simp; (try with_reducible rfl)))
    · have eg15 := Hg15.out; clear Hg15; subst eg15; have eg14 := Hg14.out; clear Hg14; subst eg14; cases k1 <;> cases p70 <;> (first | exact fix_off (by rfl) (fun d hd => by cases hd; rfl) | exact fix_val (by rfl) (fun W hW => by have hb := HBk2.out; go_simp; (try simp [hb])))
    · have ep77 := Hp77.out; clear Hp77; subst ep77; have eg15 := Hg15.out; clear Hg15; subst eg15; have eg14 := Hg14.out; clear Hg14; subst eg14; cases p70 <;> cases k1 <;> cases k2 <;> (first | exact fix_off (by rfl) (fun d hd => by cases hd; rfl) | exact fix_val (by rfl) (fun W hW => by obtain ⟨c0, c2, c3, c4, c5, c6, c7, c8, c9, c10, c11, c12, c13⟩ := HC.out W hW; go_simp; (try with_reducible rfl)))
    · have eg14 := Hg14.out; clear Hg14; subst eg14; cases p70 <;> (first | exact fix_off (by rfl) (fun d hd => by cases hd; rfl) | exact fix_val (by rfl) (fun W hW => by obtain ⟨c0, c2, c3, c4, c5, c6, c7, c8, c9, c10, c11, c12, c13⟩ := HC.out W hW; go_simp; (try with_reducible rfl)))
    · have eg16 := Hg16.out; clear Hg16; subst eg16; have eg14 := Hg14.out; clear Hg14; subst eg14; cases p77 <;> cases p70 <;> (first | exact fix_off (by rfl) (fun d hd => by cases hd; rfl) | exact fix_val (by rfl) (fun W hW => by obtain ⟨c0, c2, c3, c4, c5, c6, c7, c8, c9, c10, c11, c12, c13⟩ := HC.out W hW; go_simp; (try with_reducible rfl)))
    · have eg16 := Hg16.out; clear Hg16; subst eg16; have eg14 := Hg14.out; clear Hg14; subst eg14; cases p77 <;> cases p70 <;> (first | exact fix_off (by rfl) (fun d hd => by cases hd; rfl) | exact fix_val (by rfl) (fun W hW => by have hb := HBk3.out; go_simp; (try simp [hb])))
    · have ep81 := Hp81.out; clear Hp81; subst ep81; have eg16 := Hg16.out; clear Hg16; subst eg16; have eg14 := Hg14.out; clear Hg14; subst eg14; cases p70 <;> cases p77 <;> cases k3 <;> (first | exact fix_off (by rfl) (fun d hd => by cases hd; rfl) | exact fix_val (by rfl) (fun W hW => by obtain ⟨c0, c2, c3, c4, c5, c6, c7, c8, c9, c10, c11, c12, c13⟩ := HC.out W hW; go_simp; (try with_reducible rfl)))
    · have eg14 := Hg14.out; clear Hg14; subst eg14; cases p70 <;> (first | exact fix_off (by rfl) (fun d hd => by cases hd; rfl) | exact fix_val (by rfl) (fun W hW => by obtain ⟨c0, c2, c3, c4, c5, c6, c7, c8, c9, c10, c11, c12, c13⟩ := HC.out W hW; go_simp; (try with_reducible rfl)))
    · have eg17 := Hg17.out; clear Hg17; subst eg17; have eg14 := Hg14.out; clear Hg14; subst eg14; cases p81 <;> cases p70 <;> (first | exact fix_off (by rfl) (fun d hd => by cases hd; rfl) | exact fix_val (by rfl) (fun W hW => by obtain ⟨c0, c2, c3, c4, c5, c6, c7, c8, c9, c10, c11, c12, c13⟩ := HC.out W hW; go_simp; (try with_reducible rfl)))
    · have eg17 := Hg17.out; clear Hg17; subst eg17; have eg14 := Hg14.out; clear Hg14; subst eg14; cases p81 <;> cases p70 <;> (first | exact fix_off (by rfl) (fun d hd => by cases hd; rfl) | exact fix_val (by rfl) (fun W hW => by obtain ⟨c0, c2, c3, c4, c5, c6, c7, c8, c9, c10, c11, c12, c13⟩ := HC.out W hW; go_simp; (try with_reducible rfl)))
    · have eg17 := Hg17.out; clear Hg17; subst eg17; have eg14 := Hg14.out; clear Hg14; subst eg14; cases p81 <;> cases p70 <;> (first | exact fix_off (by rfl) (fun d hd => by cases hd; rfl) | exact fix_val (by rfl) (fun W hW => by have hb := HBn7.out; go_simp; (try simp [hb])))
    · have ep86 := Hp86.out; clear Hp86; subst ep86; have eg17 := Hg17.out; clear Hg17; subst eg17; have eg14 := Hg14.out; clear Hg14; subst eg14; cases p70 <;> cases p81 <;> cases n7 <;> (first | exact fix_off (by rfl) (fun d hd => by cases hd; rfl) | exact fix_val (by rfl) (fun W hW => by obtain ⟨c0, c2, c3, c4, c5, c6, c7, c8, c9, c10, c11, c12, c13⟩ := HC.out W hW; go_simp; (try with_reducible rfl)))
    · have ep87 := Hp87.out; clear Hp87; subst ep87; have eg14 := Hg14.out; clear Hg14; subst eg14; cases p70 <;> cases p86 <;> (first | exact fix_off (by rfl) (fun d hd => by cases hd; rfl) | exact fix_val (by rfl) (fun W hW => by obtain ⟨c0, c2, c3, c4, c5, c6, c7, c8, c9, c10, c11, c12, c13⟩ := HC.out W hW; go_simp; (try with_reducible rfl)))
    · first | exact fix_off (by rfl) (fun d hd => by cases hd; rfl) | exact fix_val (by rfl) (fun W hW => by obtain ⟨c0, c2, c3, c4, c5, c6, c7, c8, c9, c10, c11, c12, c13⟩ := HC.out W hW; go_simp; (try with_reducible rfl))
    · have eg18 := Hg18.out; clear Hg18; subst eg18; cases p87 <;> (first | exact fix_off (by rfl) (fun d hd => by cases hd; rfl) | exact fix_val (by rfl) (fun W hW => by obtain ⟨c0, c2, c3, c4, c5, c6, c7, c8, c9, c10, c11, c12, c13⟩ := HC.out W hW; go_simp; (try with_reducible rfl)))
    · have eg18 := Hg18.out; clear Hg18; subst eg18; cases p87 <;> (first | exact fix_off (by rfl) (fun d hd => by cases hd; rfl) | exact fix_val (by rfl) (fun W hW => by have hb := HBk3.out; go_simp; (try simp [hb])))
    · have eg18 := Hg18.out; clear Hg18; subst eg18; cases p87 <;> (first | exact fix_off (by rfl) (fun d hd => by cases hd; rfl) | exact fix_val (by rfl) (fun W hW => by obtain ⟨c0, c2, c3, c4, c5, c6, c7, c8, c9, c10, c11, c12, c13⟩ := HC.out W hW; go_simp; (try with_reducible rfl)))
    · have eg19 := Hg19.out; clear Hg19; subst eg19; have eg18 := Hg18.out; clear Hg18; subst eg18; cases k3 <;> cases p87 <;> (first | exact fix_off (by rfl) (fun d hd => by cases hd; rfl) | exact fix_val (by rfl) (fun W hW => by obtain ⟨c0, c2, c3, c4, c5, c6, c7, c8, c9, c10, c11, c12, c13⟩ := HC.out W hW; go_simp; (try with_reducible rfl)))
    · have eg19 := Hg19.out; clear Hg19; subst eg19; have eg18 := Hg18.out; clear Hg18; subst eg18; cases k3 <;> cases p87 <;> (first | exact fix_off (by rfl) (fun d hd => by cases hd; rfl) | exact fix_val (by rfl) (fun W hW => by obtain ⟨c0, c2, c3, c4, c5, c6, c7, c8, c9, c10, c11, c12, c13⟩ := HC.out W hW; go_simp; (try with_reducible rfl)))
    · have eg19 := Hg19.out; clear Hg19; subst eg19; have eg18 := Hg18.out; clear Hg18; subst eg18; cases k3 <;> cases p87 <;> (first | exact fix_off (by rfl) (fun d hd => by cases hd; rfl) | exact fix_val (by rfl) (fun W hW => by obtain ⟨c0, c2, c3, c4, c5, c6, c7, c8, c9, c10, c11, c12, c13⟩ := HC.out W hW; go_simp; (try with_reducible rfl)))
    · have eg19 := Hg19.out; clear Hg19; subst eg19; have eg18 := Hg18.out; clear Hg18; subst eg18; cases k3 <;> cases p87 <;> (first | exact fix_off (by rfl) (fun d hd => by cases hd; rfl) | exact fix_val (by rfl) (fun W hW => by have hb := HBn10.out; go_simp; (try simp [hb])))
    · have eg19 := Hg19.out; clear Hg19; subst eg19; have eg18 := Hg18.out; clear Hg18; subst eg18; cases k3 <;> cases p87 <;> (first | exact fix_off (by rfl) (fun d hd => by cases hd; rfl) | exact fix_val (by rfl) (fun W hW => by obtain ⟨c0, c2, c3, c4, c5, c6, c7, c8, c9, c10, c11, c12, c13⟩ := HC.out W hW; go_simp; (try with_reducible rfl)))
    · have eg20 := Hg20.out; clear Hg20; subst eg20; have eg19 := Hg19.out; clear Hg19; subst eg19; have eg18 := Hg18.out; clear Hg18; subst eg18; cases n10 <;> cases k3 <;> cases p87 <;> (first | exact fix_off (by rfl) (fun d hd => by cases hd; rfl) | exact fix_val (by rfl) (fun W hW => by obtain ⟨c0, c2, c3, c4, c5, c6, c7, c8, c9, c10, c11, c12, c13⟩ := HC.out W hW; go_simp; (try with_reducible rfl)))
    · have eg20 := Hg20.out; clear Hg20; subst eg20; have eg19 := Hg19.out; clear Hg19; subst eg19; have eg18 := Hg18.out; clear Hg18; subst eg18; cases n10 <;> cases k3 <;> cases p87 <;> (first | exact fix_off (by rfl) (fun d hd => by cases hd; rfl) | exact fix_val (by rfl) (fun W hW => by obtain ⟨c0, c2, c3, c4, c5, c6, c7, c8, c9, c10, c11, c12, c13⟩ := HC.out W hW; go_simp; (try with_reducible rfl)))
    · have eg20 := Hg20.out; clear Hg20; subst eg20; have eg19 := Hg19.out; clear Hg19; subst eg19; have eg18 := Hg18.out; clear Hg18; subst eg18; cases n10 <;> cases k3 <;> cases p87 <;> (first | exact fix_off (by rfl) (fun d hd => by cases hd; rfl) | exact fix_val (by rfl) (fun W hW => by obtain ⟨c0, c2, c3, c4, c5, c6, c7, c8, c9, c10, c11, c12, c13⟩ := HC.out W hW; go_simp; (try with_reducible rfl)))
    · have eg20 := Hg20.out; clear Hg20; subst eg20; have eg19 := Hg19.out; clear Hg19; subst eg19; have eg18 := Hg18.out; clear Hg18; subst eg18; cases n10 <;> cases k3 <;> cases p87 <;> (first | exact fix_off (by rfl) (fun d hd => by cases hd; rfl) | exact fix_val (by rfl) (fun W hW => by have hb := HBn11.out; go_simp; (try simp [hb])))
    · have ep101 := Hp101.out; clear Hp101; subst ep101; have eg20 := Hg20.out; clear Hg20; subst eg20; have eg19 := Hg19.out; clear Hg19; subst eg19; have eg18 := Hg18.out; clear Hg18; subst eg18; cases k3 <;> cases n10 <;> cases n11 <;> cases p87 <;> (first | exact fix_off (by rfl) (fun d hd => by cases hd; rfl) | exact fix_val (by rfl) (fun W hW => by obtain ⟨c0, c2, c3, c4, c5, c6, c7, c8, c9, c10, c11, c12, c13⟩ := HC.out W hW; go_simp; (try with_reducible rfl)))
    · have ep102 := Hp102.out; clear Hp102; subst ep102; have eg19 := Hg19.out; clear Hg19; subst eg19; have eg18 := Hg18.out; clear Hg18; subst eg18; cases p87 <;> cases k3 <;> cases p101 <;> (first | exact fix_off (by rfl) (fun d hd => by cases hd; rfl) | exact fix_val (by rfl) (fun W hW => by obtain ⟨c0, c2, c3, c4, c5, c6, c7, c8, c9, c10, c11, c12, c13⟩ := HC.out W hW; go_simp; (try with_reducible rfl)))
    · have ep103 := Hp103.out; clear Hp103; subst ep103; have eg18 := Hg18.out; clear Hg18; subst eg18; cases p87 <;> cases p102 <;> (first | exact fix_off (by rfl) (fun d hd => by cases hd; rfl) | exact fix_val (by rfl) (fun W hW => by obtain ⟨c0, c2, c3, c4, c5, c6, c7, c8, c9, c10, c11, c12, c13⟩ := HC.out W hW; go_simp; (try with_reducible rfl)))
    · first | exact fix_off (by rfl) (fun d hd => by cases hd; rfl) | exact fix_val (by rfl) (fun W hW => by obtain ⟨c0, c2, c3, c4, c5, c6, c7, c8, c9, c10, c11, c12, c13⟩ := HC.out W hW; go_simp; (try with_reducible rfl))
    · have eg21 := Hg21.out; clear Hg21; subst eg21; cases p103 <;> (first | exact fix_off (by rfl) (fun d hd => by cases hd; rfl) | exact fix_val (by rfl) (fun W hW => by obtain ⟨c0, c2, c3, c4, c5, c6, c7, c8, c9, c10, c11, c12, c13⟩ := HC.out W hW; go_simp; (try with_reducible rfl)))
    · have eg21 := Hg21.out; clear Hg21; subst eg21; cases p103 <;> (first | exact fix_off (by rfl) (fun d hd => by cases hd; rfl) | exact fix_call (vs := [.int .u8 (k : Nat)]) (by rfl) rfl (by rfl) Tryd.func52 (by rfl) (by rfl) (fun W hW => by exact (HHP.out W).mono (fun e V h => ⟨h.1, hW.trans (h.2.mono hW.size)⟩)))
    · have euhp := Huhp.out; clear Huhp; subst euhp; have eg21 := Hg21.out; clear Hg21; subst eg21; cases p103 <;> cases hp <;> (first | exact fix_off (by rfl) (fun d hd => by cases hd; rfl) | exact fix_val (by rfl) (fun W hW => by obtain ⟨c0, c2, c3, c4, c5, c6, c7, c8, c9, c10, c11, c12, c13⟩ := HC.out W hW; go_simp; (try with_reducible rfl)))
    · have eg21 := Hg21.out; clear Hg21; subst eg21; cases p103 <;> (first | exact fix_off (by rfl) (fun d hd => by cases hd; rfl) | exact fix_val (by rfl) (fun W hW => by obtain ⟨c0, c2, c3, c4, c5, c6, c7, c8, c9, c10, c11, c12, c13⟩ := HC.out W hW; go_simp; (try with_reducible rfl)))
    · have eg22 := Hg22.out; clear Hg22; subst eg22; have eg21 := Hg21.out; clear Hg21; subst eg21; cases uhp <;> cases p103 <;> (first | exact fix_off (by rfl) (fun d hd => by cases hd; rfl) | exact fix_val (by rfl) (fun W hW => by obtain ⟨c0, c2, c3, c4, c5, c6, c7, c8, c9, c10, c11, c12, c13⟩ := HC.out W hW; go_simp; (try with_reducible rfl)))
    · have eg22 := Hg22.out; clear Hg22; subst eg22; have eg21 := Hg21.out; clear Hg21; subst eg21; cases uhp <;> cases p103 <;> (first | exact fix_off (by rfl) (fun d hd => by cases hd; rfl) | exact fix_val (by rfl) (fun W hW => by obtain ⟨c0, c2, c3, c4, c5, c6, c7, c8, c9, c10, c11, c12, c13⟩ := HC.out W hW; go_simp; (try with_reducible rfl)))
    · have eg22 := Hg22.out; clear Hg22; subst eg22; have eg21 := Hg21.out; clear Hg21; subst eg21; cases uhp <;> cases p103 <;> (first | exact fix_off (by rfl) (fun d hd => by cases hd; rfl) | exact fix_val (by rfl) (fun W hW => by obtain ⟨c0, c2, c3, c4, c5, c6, c7, c8, c9, c10, c11, c12, c13⟩ := HC.out W hW; go_simp; (try with_reducible rfl)))
    · have eg22 := Hg22.out; clear Hg22; subst eg22; have eg21 := Hg21.out; clear Hg21; subst eg21; cases uhp <;> cases p103 <;> (first | exact fix_off (by rfl) (fun d hd => by cases hd; rfl) | exact fix_val (by rfl) (fun W hW => by have hb := HBn12.out; go_simp; (try simp [hb])))
    · have ep113 := Hp113.out; clear Hp113; subst ep113; have eg22 := Hg22.out; clear Hg22; subst eg22; have eg21 := Hg21.out; clear Hg21; subst eg21; cases p103 <;> cases uhp <;> cases n12 <;> (first | exact fix_off (by rfl) (fun d hd => by cases hd; rfl) | exact fix_val (by rfl) (fun W hW => by obtain ⟨c0, c2, c3, c4, c5, c6, c7, c8, c9, c10, c11, c12, c13⟩ := HC.out W hW; go_simp; (try with_reducible rfl)))
    · have ep114 := Hp114.out; clear Hp114; subst ep114; have eg21 := Hg21.out; clear Hg21; subst eg21; cases p103 <;> cases p113 <;> (first | exact fix_off (by rfl) (fun d hd => by cases hd; rfl) | exact fix_val (by rfl) (fun W hW => by obtain ⟨c0, c2, c3, c4, c5, c6, c7, c8, c9, c10, c11, c12, c13⟩ := HC.out W hW; go_simp; (try with_reducible rfl)))
    · first | exact fix_off (by rfl) (fun d hd => by cases hd; rfl) | exact fix_val (by rfl) (fun W hW => by obtain ⟨c0, c2, c3, c4, c5, c6, c7, c8, c9, c10, c11, c12, c13⟩ := HC.out W hW; go_simp; (try with_reducible rfl))
    · have eg23 := Hg23.out; clear Hg23; subst eg23; cases p114 <;> (first | exact fix_off (by rfl) (fun d hd => by cases hd; rfl) | exact fix_val (by rfl) (fun W hW => by obtain ⟨c0, c2, c3, c4, c5, c6, c7, c8, c9, c10, c11, c12, c13⟩ := HC.out W hW; go_simp; (try with_reducible rfl)))
    · have eg23 := Hg23.out; clear Hg23; subst eg23; cases p114 <;> (first | exact fix_off (by rfl) (fun d hd => by cases hd; rfl) | exact fix_val (by rfl) (fun W hW => by have hb := HBk0.out; go_simp; (try simp [hb])))
    · have eg23 := Hg23.out; clear Hg23; subst eg23; cases p114 <;> (first | exact fix_off (by rfl) (fun d hd => by cases hd; rfl) | exact fix_val (by rfl) (fun W hW => by obtain ⟨c0, c2, c3, c4, c5, c6, c7, c8, c9, c10, c11, c12, c13⟩ := HC.out W hW; go_simp; (try with_reducible rfl)))
    · have eg24 := Hg24.out; clear Hg24; subst eg24; have eg23 := Hg23.out; clear Hg23; subst eg23; cases k0 <;> cases p114 <;> (first | exact fix_off (by rfl) (fun d hd => by cases hd; rfl) | exact fix_val (by rfl) (fun W hW => by obtain ⟨c0, c2, c3, c4, c5, c6, c7, c8, c9, c10, c11, c12, c13⟩ := HC.out W hW; go_simp; (try with_reducible rfl)))
    · have eg24 := Hg24.out; clear Hg24; subst eg24; have eg23 := Hg23.out; clear Hg23; subst eg23; cases k0 <;> cases p114 <;> (first | exact fix_off (by rfl) (fun d hd => by cases hd; rfl) | exact fix_call (vs := [.int .u8 (k : Nat)]) (by rfl) rfl (by rfl) Tryd.func53 (by rfl) (by rfl) (fun W hW => by exact (HHD.out W).mono (fun e V h => ⟨h.1, hW.trans (h.2.mono hW.size)⟩)))
    · have euhd := Huhd.out; clear Huhd; subst euhd; have eg24 := Hg24.out; clear Hg24; subst eg24; have eg23 := Hg23.out; clear Hg23; subst eg23; cases k0 <;> cases hd <;> cases p114 <;> (first | exact fix_off (by rfl) (fun d hd => by cases hd; rfl) | exact fix_val (by rfl) (fun W hW => by obtain ⟨c0, c2, c3, c4, c5, c6, c7, c8, c9, c10, c11, c12, c13⟩ := HC.out W hW; go_simp; (try with_reducible rfl)))
    · have ep122 := Hp122.out; clear Hp122; subst ep122; have eg24 := Hg24.out; clear Hg24; subst eg24; have eg23 := Hg23.out; clear Hg23; subst eg23; cases p114 <;> cases k0 <;> cases uhd <;> (first | exact fix_off (by rfl) (fun d hd => by cases hd; rfl) | exact fix_val (by rfl) (fun W hW => by obtain ⟨c0, c2, c3, c4, c5, c6, c7, c8, c9, c10, c11, c12, c13⟩ := HC.out W hW; go_simp; (try with_reducible rfl)))
    · have eg23 := Hg23.out; clear Hg23; subst eg23; cases p114 <;> (first | exact fix_off (by rfl) (fun d hd => by cases hd; rfl) | exact fix_val (by rfl) (fun W hW => by obtain ⟨c0, c2, c3, c4, c5, c6, c7, c8, c9, c10, c11, c12, c13⟩ := HC.out W hW; go_simp; (try with_reducible rfl)))
    · have eg25 := Hg25.out; clear Hg25; subst eg25; have eg23 := Hg23.out; clear Hg23; subst eg23; cases p122 <;> cases p114 <;> (first | exact fix_off (by rfl) (fun d hd => by cases hd; rfl) | exact fix_val (by rfl) (fun W hW => by obtain ⟨c0, c2, c3, c4, c5, c6, c7, c8, c9, c10, c11, c12, c13⟩ := HC.out W hW; go_simp; (try with_reducible rfl)))
    · have eg25 := Hg25.out; clear Hg25; subst eg25; have eg23 := Hg23.out; clear Hg23; subst eg23; cases p122 <;> cases p114 <;> (first | exact fix_off (by rfl) (fun d hd => by cases hd; rfl) | exact fix_val (by rfl) (fun W hW => by obtain ⟨c0, c2, c3, c4, c5, c6, c7, c8, c9, c10, c11, c12, c13⟩ := HC.out W hW; go_simp; (try with_reducible rfl)))
    · have eg25 := Hg25.out; clear Hg25; subst eg25; have eg23 := Hg23.out; clear Hg23; subst eg23; cases p122 <;> cases p114 <;> (first | exact fix_off (by rfl) (fun d hd => by cases hd; rfl) | exact fix_val (by rfl) (fun W hW => by obtain ⟨c0, c2, c3, c4, c5, c6, c7, c8, c9, c10, c11, c12, c13⟩ := HC.out W hW; go_simp; (try with_reducible rfl)))
    · have eg25 := Hg25.out; clear Hg25; subst eg25; have eg23 := Hg23.out; clear Hg23; subst eg23; cases p122 <;> cases p114 <;> (first | exact fix_off (by rfl) (fun d hd => by cases hd; rfl) | exact fix_val (by rfl) (fun W hW => by have hb := HBn13.out; go_simp; (try simp [hb])))
    · have ep128 := Hp128.out; clear Hp128; subst ep128; have eg25 := Hg25.out; clear Hg25; subst eg25; have eg23 := Hg23.out; clear Hg23; subst eg23; cases p114 <;> cases p122 <;> cases n13 <;> (first | exact fix_off (by rfl) (fun d hd => by cases hd; rfl) | exact fix_val (by rfl) (fun W hW => by obtain ⟨c0, c2, c3, c4, c5, c6, c7, c8, c9, c10, c11, c12, c13⟩ := HC.out W hW; go_simp; (try with_reducible rfl)))
    · have ep129 := Hp129.out; clear Hp129; subst ep129; have eg23 := Hg23.out; clear Hg23; subst eg23; cases p114 <;> cases p128 <;> (first | exact fix_off (by rfl) (fun d hd => by cases hd; rfl) | exact fix_val (by rfl) (fun W hW => by obtain ⟨c0, c2, c3, c4, c5, c6, c7, c8, c9, c10, c11, c12, c13⟩ := HC.out W hW; go_simp; (try with_reducible rfl)))
    · first | exact fix_off (by rfl) (fun d hd => by cases hd; rfl) | exact fix_val (by rfl) (fun W hW => by obtain ⟨c0, c2, c3, c4, c5, c6, c7, c8, c9, c10, c11, c12, c13⟩ := HC.out W hW; go_simp; (try with_reducible rfl))
  case he =>
    intro V hV
    have HV := (show Hid _ from hV)
    clear hV
    go_wp2
    go_ret
    exact ⟨rfl, HB1.out.trans (HV.out.mono HB1.out.size)⟩
end Go.Proofs.YtlgfbcfogcmdbaaDoor
namespace Go.Proofs.YtlgfbcfogcmdbaaDoor
open Go.RowKit
/-- odd's answer, by its comparisons. -/
def oddL (k0 n3 n4 n5 k1 k2 k3 k7 n2 n6 n8 n9 n7 n10 n11 hp n12 hd n13 : Bool) : Bool := (((((((k0 && ((n3 || n4) || n5)) || (((((k0 && k1) && k2) && k3) && k7) && n2)) || ((k1 && k2) && ((n6 || n8) || n9))) || (((k1 && k2) && k3) && n7)) || (k3 && (n10 || n11))) || (!hp && n12)) || ((k0 && !hd) && n13))
def oddB (k t st ss pp tg rm os is b2 d2 p2 x2 : Nat) : Bool := oddL (((k : Int) != 0)) (((st : Int) != 0)) (((ss : Int) != 0)) (((pp : Int) != 0)) (((k : Int) != 1)) (((k : Int) != 2)) (((k : Int) != 3)) (((k : Int) != 7)) (((t : Int) != 0)) (((tg : Int) != 0)) (((os : Int) != 0)) (((is : Int) != 0)) (((rm : Int) != 0)) (decide (0 < b2)) (decide (0 < d2)) (hpB k) (decide (0 < p2)) (hdB12 k) (decide (0 < x2))
theorem odd_any (k f t st ss pp tg rm os is : Nat) (b1 : Option Addr) (b2 b3 : Nat) (d1 : Option Addr) (d2 d3 : Nat) (p1 : Option Addr) (p2 p3 : Nat) (x1 : Option Addr) (x2 x3 : Nat) (w : World) (hk : k < 256) : Calls Tryd.prog 34 #[.agg #[.int .u8 (k : Nat), .int .u8 (f : Nat), .int .u32 (t : Nat), .int .u16 (st : Nat), .int .u16 (ss : Nat), .int .u32 (pp : Nat), .int .u32 (tg : Nat), .int .u32 (rm : Nat), .int .u16 (os : Nat), .int .u16 (is : Nat), .slice b1 b2 b3, .slice d1 d2 d3, .slice p1 p2 p3, .slice x1 x2 x3]] w fun e w' => e = .returned (.bool (oddB k t st ss pp tg rm os is b2 d2 p2 x2)) ∧ Below w.heap.size w w' :=
  odd_letters k f t st ss pp tg rm os is b1 b2 b3 d1 d2 d3 p1 p2 p3 x1 x2 x3 w _ _ _ _ _ _ _ _ _ _ _ _ _ _ _ _ _ _ _ (show Hid _ from rfl) (show Hid _ from rfl) (show Hid _ from rfl) (show Hid _ from rfl) (show Hid _ from rfl) (show Hid _ from rfl) (show Hid _ from rfl) (show Hid _ from rfl) (show Hid _ from rfl) (show Hid _ from rfl) (show Hid _ from rfl) (show Hid _ from rfl) (show Hid _ from rfl) (show Hid _ from rfl) (show Hid _ from rfl) (show Hid _ from rfl) (show Hid _ from rfl) (fun W => hasParams_any k hk W) (fun W => hasData_any k hk W) _ _ _ _ _ _ _ _ _ _ _ _ _ _ _ _ _ _ _ _ _ _ _ _ _ _ _ _ _ _ _ _ _ _ _ _ _ _ _ _ _ _ _ _ _ _ _ _ _ _ _ _ _ (show Hid _ from rfl) (show Hid _ from rfl) (show Hid _ from rfl) (show Hid _ from rfl) (show Hid _ from rfl) (show Hid _ from rfl) (show Hid _ from rfl) (show Hid _ from rfl) (show Hid _ from rfl) (show Hid _ from rfl) (show Hid _ from rfl) (show Hid _ from rfl) (show Hid _ from rfl) (show Hid _ from rfl) (show Hid _ from rfl) (show Hid _ from rfl) (show Hid _ from rfl) (show Hid _ from rfl) (show Hid _ from rfl) (show Hid _ from rfl) (show Hid _ from rfl) (show Hid _ from rfl) (show Hid _ from rfl) (show Hid _ from rfl) (show Hid _ from rfl) (show Hid _ from rfl) (show Hid _ from rfl) (show Hid _ from rfl) (show Hid _ from rfl) (show Hid _ from rfl) (show Hid _ from rfl) (show Hid _ from rfl) (show Hid _ from rfl) (show Hid _ from rfl) (show Hid _ from rfl) (show Hid _ from rfl) (show Hid _ from rfl) (show Hid _ from rfl) (show Hid _ from rfl) (show Hid _ from rfl) (show Hid _ from rfl) (show Hid _ from rfl) (show Hid _ from rfl) (show Hid _ from rfl) (show Hid _ from rfl) (show Hid _ from rfl) (show Hid _ from rfl) (show Hid _ from rfl) (show Hid _ from rfl) (show Hid _ from rfl) (show Hid _ from rfl) (show Hid _ from rfl) (show Hid _ from rfl)
theorem nzI (x : Nat) : (((x : Nat) : Int) != 0) = !decide (x = 0) := by
  by_cases h : x = 0
  · subst h; rfl
  · rw [decide_eq_false h]
    simp
    omega
theorem nzL (x : Nat) : decide (0 < x) = !decide (x = 0) := by
  by_cases h : x = 0
  · subst h; rfl
  · rw [decide_eq_false h, decide_eq_true (by omega)]
    rfl
end Go.Proofs.YtlgfbcfogcmdbaaDoor
namespace Go.Proofs.YtlgfbcfogcmdbaaDoor
open Go.RowKit
/-- Are all fields that stand there told by the kind's value? -/
def qOf (c : Ck) : Bool :=
  if c.k = 0 then decide (c.tg = 0 ∧ c.rm = 0 ∧ c.os = 0 ∧ c.is_ = 0 ∧ c.b2 = 0 ∧ c.d2 = 0 ∧ c.p2 = 0)
  else if c.k = 1 ∨ c.k = 2 then decide (c.st = 0 ∧ c.ss = 0 ∧ c.pp = 0 ∧ c.b2 = 0 ∧ c.d2 = 0 ∧ c.x2 = 0)
  else if c.k = 3 then decide (c.st = 0 ∧ c.ss = 0 ∧ c.pp = 0 ∧ c.tg = 0 ∧ c.os = 0 ∧ c.is_ = 0 ∧ c.p2 = 0 ∧ c.x2 = 0)
  else if c.k = 4 ∨ c.k = 5 ∨ c.k = 6 ∨ c.k = 9 then decide (c.t = 0 ∧ c.st = 0 ∧ c.ss = 0 ∧ c.pp = 0 ∧ c.tg = 0 ∧ c.rm = 0 ∧ c.os = 0 ∧ c.is_ = 0 ∧ c.b2 = 0 ∧ c.d2 = 0 ∧ c.x2 = 0)
  else if c.k = 7 then decide (c.st = 0 ∧ c.ss = 0 ∧ c.pp = 0 ∧ c.tg = 0 ∧ c.rm = 0 ∧ c.os = 0 ∧ c.is_ = 0 ∧ c.b2 = 0 ∧ c.d2 = 0 ∧ c.p2 = 0 ∧ c.x2 = 0)
  else if c.k = 8 ∨ c.k = 11 ∨ c.k = 14 then decide (c.t = 0 ∧ c.st = 0 ∧ c.ss = 0 ∧ c.pp = 0 ∧ c.tg = 0 ∧ c.rm = 0 ∧ c.os = 0 ∧ c.is_ = 0 ∧ c.b2 = 0 ∧ c.d2 = 0 ∧ c.p2 = 0 ∧ c.x2 = 0)
  else decide (c.t = 0 ∧ c.st = 0 ∧ c.ss = 0 ∧ c.pp = 0 ∧ c.tg = 0 ∧ c.rm = 0 ∧ c.os = 0 ∧ c.is_ = 0 ∧ c.b2 = 0 ∧ c.d2 = 0 ∧ c.p2 = 0)
/-- Check's number in its parts. -/
theorem chk_parts {w : World} {x : ChQ} (h : x.Wf w) : ∃ m : Bool, chkOf x.ck = chkN (qOf x.ck) (decide (x.k = 0 ∧ x.xN = 0)) m (spcN x.cd) ∧ (m = true → 16 < x.pN ∨ 16 < x.bN ∨ 16 < x.dN) ∧
    (qOf x.ck = true → (16 < x.pN ∨ 16 < x.bN ∨ 16 < x.dN ∨ 1480 < x.xN → m = true ∨ 1468 < spcN x.cd) ∧ ((∃ p ∈ x.pD.map PqD.pm, 1480 < p.zs.length) → m = true ∨ 1468 < spcN x.cd)) := by
  unfold ChQ.Wf at h
  obtain ⟨g1, g2, g3, g4, g5, g6, g7, g8, g9, g10, g11, g12, g13, g14, _⟩ := h
  have gP := g13.pmR
  have lx := g14.len
  have lp := gP.len
  have lb := g11.len
  have ld := SlK.len g12
  have hps := fun p (hp : p ∈ x.pD.map PqD.pm) => pm_psz hp
  have hpl := pmsV_len (x.pD.map PqD.pm)
  have hnp : (∃ p ∈ x.pD.map PqD.pm, 1480 < p.zs.length) → 1480 < psz ((x.pD.map PqD.pm).map (fun p => p.zs.length)) := by
    rintro ⟨p, hp, hl⟩
    have := hps p hp
    omega
  have hn0 : x.pN = 0 → ¬ ∃ p ∈ x.pD.map PqD.pm, 1480 < p.zs.length := by
    rintro e ⟨p, hp, _⟩
    rw [List.eq_nil_of_length_eq_zero (lp.trans e)] at hp
    cases hp
  clear hps
  by_cases h0 : x.k = 0
  · have eL : (valB x.cd).length = 12 + x.xN := by unfold valB; rw [if_pos (show x.cd.kind = 0 from h0)]; simp [bytesB_len]; rw [show x.cd.xs.length = x.xN from lx]; omega
    have eS : spcN x.cd = 4 + (12 + x.xN) + padN (12 + x.xN) := by unfold spcN; rw [eL]
    have eq : qOf x.ck = decide (x.tg = 0 ∧ x.rm = 0 ∧ x.os = 0 ∧ x.is = 0 ∧ x.bN = 0 ∧ x.dN = 0 ∧ x.pN = 0) := by unfold qOf; rw [if_pos (show x.ck.k = 0 from h0)]; rfl
    have el : decide (x.k = 0 ∧ x.xN = 0) = decide (x.xN = 0) := by simp [h0]
    refine ⟨false, ?_, ?_, ?_⟩
    · rw [el, eS, eq]; unfold chkOf; rw [if_pos (show x.ck.k = 0 from h0)]; rfl
    · intro hm; cases hm
    · intro hq
      rw [eq] at hq
      have hq := of_decide_eq_true hq
      rw [eS]
      replace hq : x.tg = 0 ∧ x.rm = 0 ∧ x.os = 0 ∧ x.is = 0 ∧ x.bN = 0 ∧ x.dN = 0 ∧ x.pN = 0 := hq
      refine ⟨fun hb => ?_, fun hp => ?_⟩
      · omega
      · exact absurd hp (hn0 (by omega))
  by_cases h1 : x.k = 1 ∨ x.k = 2
  · have eL : (valB x.cd).length = 16 + psz ((x.pD.map PqD.pm).map (fun p => p.zs.length)) := by unfold valB; rw [if_neg (show ¬ (x.cd.kind = 0) from h0), if_pos (show x.cd.kind = 1 ∨ x.cd.kind = 2 from h1)]; simp only [List.length_append, bytesB_len]; rw [show (pmsV x.cd.ps).length = _ from hpl]; omega
    have eS : spcN x.cd = 4 + (16 + psz ((x.pD.map PqD.pm).map (fun p => p.zs.length))) + padN (16 + psz ((x.pD.map PqD.pm).map (fun p => p.zs.length))) := by unfold spcN; rw [eL]
    have eq : qOf x.ck = decide (x.st = 0 ∧ x.ss = 0 ∧ x.pp = 0 ∧ x.bN = 0 ∧ x.dN = 0 ∧ x.xN = 0) := by unfold qOf; rw [if_neg (show ¬ (x.ck.k = 0) from h0), if_pos (show x.ck.k = 1 ∨ x.ck.k = 2 from h1)]; rfl
    have el : decide (x.k = 0 ∧ x.xN = 0) = false := by exact decide_eq_false (by omega)
    refine ⟨decide (16 < x.pN), ?_, ?_, ?_⟩
    · rw [el, eS, eq]; unfold chkOf; rw [if_neg (show ¬ (x.ck.k = 0) from h0), if_pos (show x.ck.k = 1 ∨ x.ck.k = 2 from h1)]; rfl
    · intro hm; have := of_decide_eq_true hm; omega
    · intro hq
      rw [eq] at hq
      have hq := of_decide_eq_true hq
      rw [eS]
      replace hq : x.st = 0 ∧ x.ss = 0 ∧ x.pp = 0 ∧ x.bN = 0 ∧ x.dN = 0 ∧ x.xN = 0 := hq
      refine ⟨fun hb => ?_, fun hp => ?_⟩
      · rw [decide_eq_true_iff]; omega
      · have := hnp hp
        exact .inr (by omega)
  by_cases h3 : x.k = 3
  · have eL : (valB x.cd).length = 12 + 4 * x.bN + 4 * x.dN := by unfold valB; rw [if_neg (show ¬ (x.cd.kind = 0) from h0), if_neg (show ¬ (x.cd.kind = 1 ∨ x.cd.kind = 2) from h1), if_pos (show x.cd.kind = 3 from h3)]; unfold sackB; simp only [List.length_append, bytesB_len, bksB_len, dusB_len]; rw [show x.cd.bs.length = x.bN from lb, show x.cd.ds.length = x.dN from ld]; omega
    have eS : spcN x.cd = 4 + (12 + 4 * x.bN + 4 * x.dN) + padN (12 + 4 * x.bN + 4 * x.dN) := by unfold spcN; rw [eL]
    have eq : qOf x.ck = decide (x.st = 0 ∧ x.ss = 0 ∧ x.pp = 0 ∧ x.tg = 0 ∧ x.os = 0 ∧ x.is = 0 ∧ x.pN = 0 ∧ x.xN = 0) := by unfold qOf; rw [if_neg (show ¬ (x.ck.k = 0) from h0), if_neg (show ¬ (x.ck.k = 1 ∨ x.ck.k = 2) from h1), if_pos (show x.ck.k = 3 from h3)]; rfl
    have el : decide (x.k = 0 ∧ x.xN = 0) = false := by exact decide_eq_false (by omega)
    refine ⟨decide (16 < x.bN ∨ 16 < x.dN), ?_, ?_, ?_⟩
    · rw [el, eS, eq]; unfold chkOf; rw [if_neg (show ¬ (x.ck.k = 0) from h0), if_neg (show ¬ (x.ck.k = 1 ∨ x.ck.k = 2) from h1), if_pos (show x.ck.k = 3 from h3)]; rfl
    · intro hm; have := of_decide_eq_true hm; omega
    · intro hq
      rw [eq] at hq
      have hq := of_decide_eq_true hq
      rw [eS]
      replace hq : x.st = 0 ∧ x.ss = 0 ∧ x.pp = 0 ∧ x.tg = 0 ∧ x.os = 0 ∧ x.is = 0 ∧ x.pN = 0 ∧ x.xN = 0 := hq
      refine ⟨fun hb => ?_, fun hp => ?_⟩
      · rw [decide_eq_true_iff]; omega
      · exact absurd hp (hn0 (by omega))
  by_cases h4 : x.k = 4 ∨ x.k = 5 ∨ x.k = 6 ∨ x.k = 9
  · have eL : (valB x.cd).length = psz ((x.pD.map PqD.pm).map (fun p => p.zs.length)) := by unfold valB; rw [if_neg (show ¬ (x.cd.kind = 0) from h0), if_neg (show ¬ (x.cd.kind = 1 ∨ x.cd.kind = 2) from h1), if_neg (show ¬ (x.cd.kind = 3) from h3), if_pos (show x.cd.kind = 4 ∨ x.cd.kind = 5 ∨ x.cd.kind = 6 ∨ x.cd.kind = 9 from h4)]; exact hpl
    have eS : spcN x.cd = 4 + (psz ((x.pD.map PqD.pm).map (fun p => p.zs.length))) + padN (psz ((x.pD.map PqD.pm).map (fun p => p.zs.length))) := by unfold spcN; rw [eL]
    have eq : qOf x.ck = decide (x.t = 0 ∧ x.st = 0 ∧ x.ss = 0 ∧ x.pp = 0 ∧ x.tg = 0 ∧ x.rm = 0 ∧ x.os = 0 ∧ x.is = 0 ∧ x.bN = 0 ∧ x.dN = 0 ∧ x.xN = 0) := by unfold qOf; rw [if_neg (show ¬ (x.ck.k = 0) from h0), if_neg (show ¬ (x.ck.k = 1 ∨ x.ck.k = 2) from h1), if_neg (show ¬ (x.ck.k = 3) from h3), if_pos (show x.ck.k = 4 ∨ x.ck.k = 5 ∨ x.ck.k = 6 ∨ x.ck.k = 9 from h4)]; rfl
    have el : decide (x.k = 0 ∧ x.xN = 0) = false := by exact decide_eq_false (by omega)
    refine ⟨decide (16 < x.pN), ?_, ?_, ?_⟩
    · rw [el, eS, eq]; unfold chkOf; rw [if_neg (show ¬ (x.ck.k = 0) from h0), if_neg (show ¬ (x.ck.k = 1 ∨ x.ck.k = 2) from h1), if_neg (show ¬ (x.ck.k = 3) from h3), if_pos (show x.ck.k = 4 ∨ x.ck.k = 5 ∨ x.ck.k = 6 ∨ x.ck.k = 9 from h4)]; rfl
    · intro hm; have := of_decide_eq_true hm; omega
    · intro hq
      rw [eq] at hq
      have hq := of_decide_eq_true hq
      rw [eS]
      replace hq : x.t = 0 ∧ x.st = 0 ∧ x.ss = 0 ∧ x.pp = 0 ∧ x.tg = 0 ∧ x.rm = 0 ∧ x.os = 0 ∧ x.is = 0 ∧ x.bN = 0 ∧ x.dN = 0 ∧ x.xN = 0 := hq
      refine ⟨fun hb => ?_, fun hp => ?_⟩
      · rw [decide_eq_true_iff]; omega
      · have := hnp hp
        exact .inr (by omega)
  by_cases h7 : x.k = 7
  · have eL : (valB x.cd).length = 4 := by unfold valB; rw [if_neg (show ¬ (x.cd.kind = 0) from h0), if_neg (show ¬ (x.cd.kind = 1 ∨ x.cd.kind = 2) from h1), if_neg (show ¬ (x.cd.kind = 3) from h3), if_neg (show ¬ (x.cd.kind = 4 ∨ x.cd.kind = 5 ∨ x.cd.kind = 6 ∨ x.cd.kind = 9) from h4), if_pos (show x.cd.kind = 7 from h7)]; exact bytesB_len _ _
    have eS : spcN x.cd = 4 + (4) + padN (4) := by unfold spcN; rw [eL]
    have eq : qOf x.ck = decide (x.st = 0 ∧ x.ss = 0 ∧ x.pp = 0 ∧ x.tg = 0 ∧ x.rm = 0 ∧ x.os = 0 ∧ x.is = 0 ∧ x.bN = 0 ∧ x.dN = 0 ∧ x.pN = 0 ∧ x.xN = 0) := by unfold qOf; rw [if_neg (show ¬ (x.ck.k = 0) from h0), if_neg (show ¬ (x.ck.k = 1 ∨ x.ck.k = 2) from h1), if_neg (show ¬ (x.ck.k = 3) from h3), if_neg (show ¬ (x.ck.k = 4 ∨ x.ck.k = 5 ∨ x.ck.k = 6 ∨ x.ck.k = 9) from h4), if_pos (show x.ck.k = 7 from h7)]; rfl
    have el : decide (x.k = 0 ∧ x.xN = 0) = false := by exact decide_eq_false (by omega)
    refine ⟨false, ?_, ?_, ?_⟩
    · rw [el, eS, eq]; unfold chkOf; rw [if_neg (show ¬ (x.ck.k = 0) from h0), if_neg (show ¬ (x.ck.k = 1 ∨ x.ck.k = 2) from h1), if_neg (show ¬ (x.ck.k = 3) from h3), if_neg (show ¬ (x.ck.k = 4 ∨ x.ck.k = 5 ∨ x.ck.k = 6 ∨ x.ck.k = 9) from h4), if_pos (show x.ck.k = 7 from h7)]; rfl
    · intro hm; cases hm
    · intro hq
      rw [eq] at hq
      have hq := of_decide_eq_true hq
      rw [eS]
      replace hq : x.st = 0 ∧ x.ss = 0 ∧ x.pp = 0 ∧ x.tg = 0 ∧ x.rm = 0 ∧ x.os = 0 ∧ x.is = 0 ∧ x.bN = 0 ∧ x.dN = 0 ∧ x.pN = 0 ∧ x.xN = 0 := hq
      refine ⟨fun hb => ?_, fun hp => ?_⟩
      · omega
      · exact absurd hp (hn0 (by omega))
  by_cases h8 : x.k = 8 ∨ x.k = 11 ∨ x.k = 14
  · have eL : (valB x.cd).length = 0 := by unfold valB; rw [if_neg (show ¬ (x.cd.kind = 0) from h0), if_neg (show ¬ (x.cd.kind = 1 ∨ x.cd.kind = 2) from h1), if_neg (show ¬ (x.cd.kind = 3) from h3), if_neg (show ¬ (x.cd.kind = 4 ∨ x.cd.kind = 5 ∨ x.cd.kind = 6 ∨ x.cd.kind = 9) from h4), if_neg (show ¬ (x.cd.kind = 7) from h7), if_pos (show x.cd.kind = 8 ∨ x.cd.kind = 11 ∨ x.cd.kind = 14 from h8)]; rfl
    have eS : spcN x.cd = 4 + (0) + padN (0) := by unfold spcN; rw [eL]
    have eq : qOf x.ck = decide (x.t = 0 ∧ x.st = 0 ∧ x.ss = 0 ∧ x.pp = 0 ∧ x.tg = 0 ∧ x.rm = 0 ∧ x.os = 0 ∧ x.is = 0 ∧ x.bN = 0 ∧ x.dN = 0 ∧ x.pN = 0 ∧ x.xN = 0) := by unfold qOf; rw [if_neg (show ¬ (x.ck.k = 0) from h0), if_neg (show ¬ (x.ck.k = 1 ∨ x.ck.k = 2) from h1), if_neg (show ¬ (x.ck.k = 3) from h3), if_neg (show ¬ (x.ck.k = 4 ∨ x.ck.k = 5 ∨ x.ck.k = 6 ∨ x.ck.k = 9) from h4), if_neg (show ¬ (x.ck.k = 7) from h7), if_pos (show x.ck.k = 8 ∨ x.ck.k = 11 ∨ x.ck.k = 14 from h8)]; rfl
    have el : decide (x.k = 0 ∧ x.xN = 0) = false := by exact decide_eq_false (by omega)
    refine ⟨false, ?_, ?_, ?_⟩
    · rw [el, eS, eq]; unfold chkOf; rw [if_neg (show ¬ (x.ck.k = 0) from h0), if_neg (show ¬ (x.ck.k = 1 ∨ x.ck.k = 2) from h1), if_neg (show ¬ (x.ck.k = 3) from h3), if_neg (show ¬ (x.ck.k = 4 ∨ x.ck.k = 5 ∨ x.ck.k = 6 ∨ x.ck.k = 9) from h4), if_neg (show ¬ (x.ck.k = 7) from h7), if_pos (show x.ck.k = 8 ∨ x.ck.k = 11 ∨ x.ck.k = 14 from h8)]; rfl
    · intro hm; cases hm
    · intro hq
      rw [eq] at hq
      have hq := of_decide_eq_true hq
      rw [eS]
      replace hq : x.t = 0 ∧ x.st = 0 ∧ x.ss = 0 ∧ x.pp = 0 ∧ x.tg = 0 ∧ x.rm = 0 ∧ x.os = 0 ∧ x.is = 0 ∧ x.bN = 0 ∧ x.dN = 0 ∧ x.pN = 0 ∧ x.xN = 0 := hq
      refine ⟨fun hb => ?_, fun hp => ?_⟩
      · omega
      · exact absurd hp (hn0 (by omega))
  have eL : (valB x.cd).length = x.xN := by unfold valB; rw [if_neg (show ¬ (x.cd.kind = 0) from h0), if_neg (show ¬ (x.cd.kind = 1 ∨ x.cd.kind = 2) from h1), if_neg (show ¬ (x.cd.kind = 3) from h3), if_neg (show ¬ (x.cd.kind = 4 ∨ x.cd.kind = 5 ∨ x.cd.kind = 6 ∨ x.cd.kind = 9) from h4), if_neg (show ¬ (x.cd.kind = 7) from h7), if_neg (show ¬ (x.cd.kind = 8 ∨ x.cd.kind = 11 ∨ x.cd.kind = 14) from h8)]; exact lx
  have eS : spcN x.cd = 4 + (x.xN) + padN (x.xN) := by unfold spcN; rw [eL]
  have eq : qOf x.ck = decide (x.t = 0 ∧ x.st = 0 ∧ x.ss = 0 ∧ x.pp = 0 ∧ x.tg = 0 ∧ x.rm = 0 ∧ x.os = 0 ∧ x.is = 0 ∧ x.bN = 0 ∧ x.dN = 0 ∧ x.pN = 0) := by unfold qOf; rw [if_neg (show ¬ (x.ck.k = 0) from h0), if_neg (show ¬ (x.ck.k = 1 ∨ x.ck.k = 2) from h1), if_neg (show ¬ (x.ck.k = 3) from h3), if_neg (show ¬ (x.ck.k = 4 ∨ x.ck.k = 5 ∨ x.ck.k = 6 ∨ x.ck.k = 9) from h4), if_neg (show ¬ (x.ck.k = 7) from h7), if_neg (show ¬ (x.ck.k = 8 ∨ x.ck.k = 11 ∨ x.ck.k = 14) from h8)]; rfl
  have el : decide (x.k = 0 ∧ x.xN = 0) = false := by exact decide_eq_false (by omega)
  refine ⟨false, ?_, ?_, ?_⟩
  · rw [el, eS, eq]; unfold chkOf; rw [if_neg (show ¬ (x.ck.k = 0) from h0), if_neg (show ¬ (x.ck.k = 1 ∨ x.ck.k = 2) from h1), if_neg (show ¬ (x.ck.k = 3) from h3), if_neg (show ¬ (x.ck.k = 4 ∨ x.ck.k = 5 ∨ x.ck.k = 6 ∨ x.ck.k = 9) from h4), if_neg (show ¬ (x.ck.k = 7) from h7), if_neg (show ¬ (x.ck.k = 8 ∨ x.ck.k = 11 ∨ x.ck.k = 14) from h8)]; rfl
  · intro hm; cases hm
  · intro hq
    rw [eq] at hq
    have hq := of_decide_eq_true hq
    rw [eS]
    replace hq : x.t = 0 ∧ x.st = 0 ∧ x.ss = 0 ∧ x.pp = 0 ∧ x.tg = 0 ∧ x.rm = 0 ∧ x.os = 0 ∧ x.is = 0 ∧ x.bN = 0 ∧ x.dN = 0 ∧ x.pN = 0 := hq
    refine ⟨fun hb => ?_, fun hp => ?_⟩
    · omega
    · exact absurd hp (hn0 (by omega))
end Go.Proofs.YtlgfbcfogcmdbaaDoor
namespace Go.Proofs.YtlgfbcfogcmdbaaDoor
open Go.RowKit
theorem odd_qOf (c : Ck) : oddB c.k c.t c.st c.ss c.pp c.tg c.rm c.os c.is_ c.b2 c.d2 c.p2 c.x2 = !qOf c := by
  unfold qOf
  by_cases h0 : c.k = 0
  · rw [if_pos h0, Bool.eq_iff_iff]
    simp [oddB, oddL, hpB, hdB12, h0]
    omega
  rw [if_neg h0]
  by_cases h1 : c.k = 1 ∨ c.k = 2
  · rw [if_pos h1, Bool.eq_iff_iff]
    simp [oddB, oddL, hpB, hdB12]
    omega
  rw [if_neg h1]
  by_cases h3 : c.k = 3
  · rw [if_pos h3, Bool.eq_iff_iff]
    simp [oddB, oddL, hpB, hdB12]
    omega
  rw [if_neg h3]
  by_cases h4 : c.k = 4 ∨ c.k = 5 ∨ c.k = 6 ∨ c.k = 9
  · rw [if_pos h4, Bool.eq_iff_iff]
    simp [oddB, oddL, hpB, hdB12]
    omega
  rw [if_neg h4]
  by_cases h7 : c.k = 7
  · rw [if_pos h7, Bool.eq_iff_iff]
    simp [oddB, oddL, hpB, hdB12]
    omega
  rw [if_neg h7]
  by_cases h8 : c.k = 8 ∨ c.k = 11 ∨ c.k = 14
  · rw [if_pos h8, Bool.eq_iff_iff]
    simp [oddB, oddL, hpB, hdB12]
    omega
  rw [if_neg h8, Bool.eq_iff_iff]
  simp [oddB, oddL, hpB, hdB12]
  omega
end Go.Proofs.YtlgfbcfogcmdbaaDoor
namespace Go.Proofs.YtlgfbcfogcmdbaaDoor
open Go.RowKit
theorem ChQ.wf_below {w w' : World} {x : ChQ} (hh : x.Wf w) (hb : Below w.heap.size w w') : x.Wf w' := by
  unfold ChQ.Wf at hh ⊢
  obtain ⟨h0, h1, h2, h3, h4, h5, h6, h7, h8, h9, h10, h11, h12, h13⟩ := hh
  exact ⟨h0, h1, h2, h3, h4, h5, h6, h7, h8, h9, h10.below hb, h11.below hb, h12.below hb, ⟨h13.1.below hb, h13.2⟩⟩
/-- A chunk whose rows are not too long. -/
structure SmQ (x : ChQ) : Prop where
  hp : x.pN ≤ 16
  hb : x.bN ≤ 16
  hd : x.dN ≤ 16
  hx : x.xN ≤ 1480
  hps : ∀ p ∈ x.pD.map PqD.pm, p.zs.length ≤ 1480
set_option linter.unusedVariables false in
set_option maxRecDepth 100000 in
set_option maxHeartbeats 4000000 in
theorem value_any {w : World} {x : ChQ} (h : x.Wf w) (hs : SmQ x) : Calls Tryd.prog 35 #[.agg x.vals.toArray] w (RowV w (valB x.cd)) := by
  have hw := h
  unfold ChQ.Wf at hw
  obtain ⟨g1, g2, g3, g4, g5, g6, g7, g8, g9, g10, g11, g12, g13, g14, _⟩ := hw
  have gP := g13.pmR
  have s1 := hs.hp
  have s2 := hs.hb
  have s3 := hs.hd
  have s4 := hs.hx
  have s5 : ∀ p ∈ x.pD.map PqD.pm, p.zs.length ≤ 2000 := fun p hp => Nat.le_trans (hs.hps p hp) (by omega)
  have lb := g11.len
  have ld := SlK.len g12
  by_cases h0 : x.k = 0
  · unfold valB
    rw [if_pos (show x.cd.kind = 0 from h0)]
    rw [show x.vals = [.int .u8 0, .int .u8 (x.f : Nat), .int .u32 (x.t : Nat), .int .u16 (x.st : Nat), .int .u16 (x.ss : Nat), .int .u32 (x.pp : Nat), .int .u32 (x.tg : Nat), .int .u32 (x.rm : Nat), .int .u16 (x.os : Nat), .int .u16 (x.is : Nat), .slice x.bA x.bN x.bC, .slice x.dA x.dN x.dC, .slice x.pA x.pN x.pC, .slice x.xA x.xN x.xC] from by unfold ChQ.vals; rw [h0]; rfl]
    exact value_data x.f x.t x.st x.ss x.pp x.tg x.rm x.os x.is x.bA x.bN x.bC x.dA x.dN x.dC x.pA x.pN x.pC x.xA x.xN x.xC w g14 (by omega) g3 g4 g5 g6
  by_cases h1 : x.k = 1 ∨ x.k = 2
  · unfold valB
    rw [if_neg (show ¬ (x.cd.kind = 0) from h0), if_pos (show x.cd.kind = 1 ∨ x.cd.kind = 2 from h1)]
    rcases h1 with e | e
    · rw [show x.vals = [.int .u8 1, .int .u8 (x.f : Nat), .int .u32 (x.t : Nat), .int .u16 (x.st : Nat), .int .u16 (x.ss : Nat), .int .u32 (x.pp : Nat), .int .u32 (x.tg : Nat), .int .u32 (x.rm : Nat), .int .u16 (x.os : Nat), .int .u16 (x.is : Nat), .slice x.bA x.bN x.bC, .slice x.dA x.dN x.dC, .slice x.pA x.pN x.pC, .slice x.xA x.xN x.xC] from by unfold ChQ.vals; rw [e]; rfl]
      exact value_init1 x.f x.t x.st x.ss x.pp x.tg x.rm x.os x.is x.bA x.bN x.bC x.dA x.dN x.dC x.pA x.pN x.pC x.xA x.xN x.xC w g3 g7 g8 g9 g10 gP s1 s5
    · rw [show x.vals = [.int .u8 2, .int .u8 (x.f : Nat), .int .u32 (x.t : Nat), .int .u16 (x.st : Nat), .int .u16 (x.ss : Nat), .int .u32 (x.pp : Nat), .int .u32 (x.tg : Nat), .int .u32 (x.rm : Nat), .int .u16 (x.os : Nat), .int .u16 (x.is : Nat), .slice x.bA x.bN x.bC, .slice x.dA x.dN x.dC, .slice x.pA x.pN x.pC, .slice x.xA x.xN x.xC] from by unfold ChQ.vals; rw [e]; rfl]
      exact value_init2 x.f x.t x.st x.ss x.pp x.tg x.rm x.os x.is x.bA x.bN x.bC x.dA x.dN x.dC x.pA x.pN x.pC x.xA x.xN x.xC w g3 g7 g8 g9 g10 gP s1 s5
  by_cases h3 : x.k = 3
  · unfold valB
    rw [if_neg (show ¬ (x.cd.kind = 0) from h0), if_neg (show ¬ (x.cd.kind = 1 ∨ x.cd.kind = 2) from h1), if_pos (show x.cd.kind = 3 from h3)]
    rw [show x.vals = [.int .u8 3, .int .u8 (x.f : Nat), .int .u32 (x.t : Nat), .int .u16 (x.st : Nat), .int .u16 (x.ss : Nat), .int .u32 (x.pp : Nat), .int .u32 (x.tg : Nat), .int .u32 (x.rm : Nat), .int .u16 (x.os : Nat), .int .u16 (x.is : Nat), .slice x.bA x.bN x.bC, .slice x.dA x.dN x.dC, .slice x.pA x.pN x.pC, .slice x.xA x.xN x.xC] from by unfold ChQ.vals; rw [h3]; rfl]
    unfold sackB
    rw [show x.cd.bs.length = x.bN from lb, show x.cd.ds.length = x.dN from ld]
    exact value_sack x.f x.t x.st x.ss x.pp x.tg x.rm x.os x.is x.bA x.bN x.bC x.dA x.dN x.dC x.pA x.pN x.pC x.xA x.xN x.xC w g3 g8 g11 g12 s2 s3
  by_cases h4 : x.k = 4 ∨ x.k = 5 ∨ x.k = 6 ∨ x.k = 9
  · unfold valB
    rw [if_neg (show ¬ (x.cd.kind = 0) from h0), if_neg (show ¬ (x.cd.kind = 1 ∨ x.cd.kind = 2) from h1), if_neg (show ¬ (x.cd.kind = 3) from h3), if_pos (show x.cd.kind = 4 ∨ x.cd.kind = 5 ∨ x.cd.kind = 6 ∨ x.cd.kind = 9 from h4)]
    exact value_prms x.k x.f x.t x.st x.ss x.pp x.tg x.rm x.os x.is x.bA x.bN x.bC x.dA x.dN x.dC x.pA x.pN x.pC x.xA x.xN x.xC w h4 gP s1 s5
  by_cases h7 : x.k = 7
  · unfold valB
    rw [if_neg (show ¬ (x.cd.kind = 0) from h0), if_neg (show ¬ (x.cd.kind = 1 ∨ x.cd.kind = 2) from h1), if_neg (show ¬ (x.cd.kind = 3) from h3), if_neg (show ¬ (x.cd.kind = 4 ∨ x.cd.kind = 5 ∨ x.cd.kind = 6 ∨ x.cd.kind = 9) from h4), if_pos (show x.cd.kind = 7 from h7)]
    rw [show x.vals = [.int .u8 7, .int .u8 (x.f : Nat), .int .u32 (x.t : Nat), .int .u16 (x.st : Nat), .int .u16 (x.ss : Nat), .int .u32 (x.pp : Nat), .int .u32 (x.tg : Nat), .int .u32 (x.rm : Nat), .int .u16 (x.os : Nat), .int .u16 (x.is : Nat), .slice x.bA x.bN x.bC, .slice x.dA x.dN x.dC, .slice x.pA x.pN x.pC, .slice x.xA x.xN x.xC] from by unfold ChQ.vals; rw [h7]; rfl]
    exact value_tsnv x.f x.t x.st x.ss x.pp x.tg x.rm x.os x.is x.bA x.bN x.bC x.dA x.dN x.dC x.pA x.pN x.pC x.xA x.xN x.xC w g3
  by_cases h8 : x.k = 8 ∨ x.k = 11 ∨ x.k = 14
  · unfold valB
    rw [if_neg (show ¬ (x.cd.kind = 0) from h0), if_neg (show ¬ (x.cd.kind = 1 ∨ x.cd.kind = 2) from h1), if_neg (show ¬ (x.cd.kind = 3) from h3), if_neg (show ¬ (x.cd.kind = 4 ∨ x.cd.kind = 5 ∨ x.cd.kind = 6 ∨ x.cd.kind = 9) from h4), if_neg (show ¬ (x.cd.kind = 7) from h7), if_pos (show x.cd.kind = 8 ∨ x.cd.kind = 11 ∨ x.cd.kind = 14 from h8)]
    exact value_none x.k x.f x.t x.st x.ss x.pp x.tg x.rm x.os x.is x.bA x.bN x.bC x.dA x.dN x.dC x.pA x.pN x.pC x.xA x.xN x.xC w h8
  have hr : ¬ x.k = 0 ∧ ¬ x.k = 1 ∧ ¬ x.k = 2 ∧ ¬ x.k = 3 ∧ ¬ x.k = 4 ∧ ¬ x.k = 5 ∧ ¬ x.k = 6 ∧ ¬ x.k = 7 ∧ ¬ x.k = 8 ∧ ¬ x.k = 9 ∧ ¬ x.k = 11 ∧ ¬ x.k = 14 := by omega
  unfold valB
  rw [if_neg (show ¬ (x.cd.kind = 0) from h0), if_neg (show ¬ (x.cd.kind = 1 ∨ x.cd.kind = 2) from h1), if_neg (show ¬ (x.cd.kind = 3) from h3), if_neg (show ¬ (x.cd.kind = 4 ∨ x.cd.kind = 5 ∨ x.cd.kind = 6 ∨ x.cd.kind = 9) from h4), if_neg (show ¬ (x.cd.kind = 7) from h7), if_neg (show ¬ (x.cd.kind = 8 ∨ x.cd.kind = 11 ∨ x.cd.kind = 14) from h8)]
  exact value_raw x.k x.f x.t x.st x.ss x.pp x.tg x.rm x.os x.is x.bA x.bN x.bC x.dA x.dN x.dC x.pA x.pN x.pC x.xA x.xN x.xC w hr g1 g14 (by omega)
end Go.Proofs.YtlgfbcfogcmdbaaDoor
namespace Go.Proofs.YtlgfbcfogcmdbaaDoor
open Go.RowKit
theorem own_two (w : World) (k f : Nat) (hk : k < 256) (hf : f < 256) : OwnB (w.alloc (.cells #[.int .u8 (k : Nat), .int .u8 (f : Nat)] 5)) w.heap.size (some ⟨w.heap.size, 0, none⟩) 2 2 [k, f] := by
  refine ⟨rfl, ⟨by simp [vals], .inr ⟨w.heap.size, 2, #[.int .u8 (k : Nat), .int .u8 (f : Nat)], rfl, Nat.le_refl _, ?_, Nat.le_refl _, by unfold maxLen; omega, by simp, ?_⟩⟩, ?_⟩
  · show (w.heap.push _)[w.heap.size]? = _
    simp
  · simp [vals]
  · intro i
    match i with
    | 0 => exact hk
    | 1 => exact hf
    | i + 2 => simp
set_option linter.unusedVariables false in
set_option maxRecDepth 100000 in
set_option maxHeartbeats 4000000 in
theorem rbytes_L (k f : Nat) (c2 c3 c4 c5 c6 c7 c8 c9 c10 c11 c12 c13 : Value) (L : List Nat) (w : World) (hk : k < 256) (hf : f < 256) (hL : L.length ≤ 60000)
    (hv : ∀ W v, v = .agg #[.int .u8 (k : Nat), .int .u8 (f : Nat), c2, c3, c4, c5, c6, c7, c8, c9, c10, c11, c12, c13] → Below w.heap.size w W → Calls Tryd.prog 35 #[v] W (RowV W L)) :
    Calls Tryd.prog 20 #[.agg #[.int .u8 (k : Nat), .int .u8 (f : Nat), c2, c3, c4, c5, c6, c7, c8, c9, c10, c11, c12, c13]] w (RowV w (chB k f L)) := by
  obtain ⟨W0, hW0⟩ : ∃ W0, W0 = w.alloc (.cells #[.int .u8 (k : Nat), .int .u8 (f : Nat), c2, c3, c4, c5, c6, c7, c8, c9, c10, c11, c12, c13] 32) := ⟨_, rfl⟩
  have hb0 : Below w.heap.size w W0 := by rw [hW0]; exact (Below.refl _ _).alloc (Nat.le_refl _) _
  have hst := Stc.new w [.int .u8 (k : Nat), .int .u8 (f : Nat), c2, c3, c4, c5, c6, c7, c8, c9, c10, c11, c12, c13] 32 W0 hW0
  have HB := (show Hid _ from And.intro hb0 hst)
  have HV := (show Hid _ from hv W0 _ rfl hb0)
  clear hb0 hst hv
  go_enter Tryd.func20, Tryd.ntmps20
  go_wp2_with fail
  rw [← hW0]
  refine Calls.mono HV.out ?_
  clear HV
  rintro e w1 hR
  obtain ⟨a1, c1, rfl, ho1⟩ := hR.ex
  have b1 := hR.bel
  have hst1 := HB.out.2.below b1
  have hb1 : Below w.heap.size w w1 := HB.out.1.trans (b1.mono HB.out.1.size)
  have HO1 := (show Hid _ from And.intro ho1 (And.intro hb1 HB.out.1.size))
  have s0 := hst1.cell 0 _ rfl
  have s1 := hst1.cell 1 _ rfl
  obtain ⟨m, hm⟩ : ∃ m, m = L.length := ⟨_, rfl⟩
  have HM := (show Hid _ from hm)
  rw [← hm] at HO1 hL ⊢
  obtain ⟨W2, hW2⟩ : ∃ W2, W2 = w1.alloc (.cells #[.int .u8 (k : Nat), .int .u8 (f : Nat)] 5) := ⟨_, rfl⟩
  have b2 : Below w1.heap.size w1 W2 := by rw [hW2]; exact (Below.refl _ _).alloc (Nat.le_refl _) _
  have o2 := own_two w1 k f hk hf
  rw [← hW2] at o2
  have HN := (show Hid _ from rlay12_any w1.heap.size _ 2 2 [k, f] (4 + m) 2 W2 o2 b2.size (by omega) (by omega) (by omega) (by omega) (by omega))
  rw [show ((4 + m : Nat) : Int) = 4 + (m : Int) from by omega] at HN
  have hw4 : IntKind.u32.wrap (4 + (m : Int)) = 4 + (m : Int) := by rw [IntKind.wrap_u32]; omega
  have HO2 := (show Hid _ from And.intro o2 b2)
  clear hR ho1 b1 hb1 hst1 hm b2 o2 HB hW0
  go_wp2_with fail
  rw [← hW2]
  refine Calls.mono HN.out ?_
  clear HN hW2 s0 s1 hw4
  rintro e w3 hP
  obtain ⟨a3, c3', he, ho3, hg3⟩ := hP.row
  have hl3 : ([k, f] ++ bytesB (4 + m) 2).length = 4 := by simp [bytesB_len]
  rw [hl3] at he ho3
  subst he
  have hb3 : Below w1.heap.size w1 w3 := HO2.out.2.trans (hP.fr.below _ HO2.out.2.size (fun q hq => (HO2.out.1.own.lt q hq).1))
  have hsl := (HO1.out.1.sl (by omega)).below hb3
  have HO3 := (show Hid _ from And.intro ho3 hb3)
  have hz3 := hb3.size
  clear hP hg3 hl3 ho3 hb3
  go_wp2_with (at_builtin; go_must (refine app_list2 rfl _ _ rfl w1.heap.size _ _ _ _ rfl HO3.out.1 _ _ _ _ rfl hsl (by omega) hz3 ?_))
  intro a4 c4' w4 ho4 hg4 hp4
  obtain ⟨yy, hyy⟩ : ∃ yy, yy = [k, f] ++ bytesB (4 + m) 2 ++ L := ⟨_, rfl⟩
  have hb4 : Below w1.heap.size w1 w4 := HO3.out.2.trans (HO3.out.1.up hg4 HO3.out.2.size)
  have ho4' : OwnB w4 w1.heap.size a4 (4 + m) c4' yy := by rw [hyy]; first | exact ho4 | simpa only [List.append_assoc] using ho4
  have HYY := (show Hid _ from hyy)
  have HS0 : Hid (OwnB w4 w1.heap.size a4 (4 + m) c4' (yy ++ List.replicate 0 0) ∧ Below w1.heap.size w1 w4) := ⟨by show OwnB _ _ _ _ _ (yy ++ []); rw [List.append_nil]; exact ho4', hb4⟩
  have HN1 : Hid (yy.length = 4 + m) := ho4'.len
  clear ho4 hg4 hp4 ho4' hb4 hyy HO3 hsl hz3 HO2
  go_wp2_with fail
  go_loopw [4] (fun u3 wr => ∃ (j : Nat) (a : Option Addr) (n' c : Nat), j ≤ padN yy.length ∧ u3 = .slice a n' c ∧ OwnB wr w1.heap.size a n' c (yy ++ List.replicate j 0) ∧ Below w1.heap.size w1 wr) (fun u3 _ => match u3 with | .slice _ n' _ => m + 8 - n' | _ => 0)
  case atStart => exact ⟨0, _, _, _, Nat.zero_le _, rfl, HS0.out⟩
  case round =>
    obtain ⟨j, a2, n2, c2', hj, rfl, hS, hB⟩ := hrel
    have hn2 : n2 = 4 + m + j := by
      have := hS.len
      rw [List.length_append, List.length_replicate, HN1.out] at this
      omega
    have hj3 := padN_lt yy.length
    have hpd : padN yy.length = (4 - (4 + m) % 4) % 4 := by rw [HN1.out]; rfl
    have HS := (show Hid _ from And.intro hS hB)
    clear hS hB HS0
    by_cases hm : n2 % 4 = 0
    · have hm1 : (((n2 : Nat) : Int) % 4 != 0) = false := by simp; omega
      have ej : j = padN yy.length := by omega
      have e9 : yy ++ List.replicate j 0 = chB k f L := by
        rw [ej, HN1.out, HYY.out]
        unfold chB
        rw [← HM.out, show padN (4 + m) = padN m from by unfold padN; omega]
        rfl
      have hS := HS.out.1
      have hl := hS.len
      rw [e9] at hS hl
      have HF : Hid (RowV w (chB k f L) (.returned (.slice a2 n2 c2')) wr) := ⟨⟨a2, c2', by rw [hl], by rw [hl]; exact hS.base (HO1.out.2.1.size)⟩, HO1.out.2.1.trans (HS.out.2.mono HO1.out.2.1.size)⟩
      clear hS hl e9 ej hpd hj3 hn2 hm hj HS HO1 HYY HM
      go_wp2
      go_ret
      exact HF.out
    · have hm1 : (((n2 : Nat) : Int) % 4 != 0) = true := by simp; omega
      have hz1 : w1.heap.size ≤ wr.heap.size := HS.out.2.size
      have HJ : Hid (j < padN yy.length ∧ n2 ≤ 4 + m + 3) := ⟨by omega, by omega⟩
      have hb2 : n2 ≤ 60010 := by omega
      clear hpd hj3 hn2 hm hj
      go_wp2_with (at_builtin; go_must (refine app_list2 rfl _ _ rfl w1.heap.size _ _ _ _ rfl (HS.out.1.alloc _) _ 1 1 [0] rfl (sl_one wr 5 _ 0 rfl (by decide)) (by omega) (by simp; omega) ?_))
      intro a8 c8' w8 ho8 hg8 hp8
      have bA : Below w1.heap.size w1 (wr.alloc (.cells #[.int .u8 0] 5)) := HS.out.2.alloc HS.out.2.size _
      have h8 : Below w1.heap.size w1 w8 := bA.trans ((HS.out.1.alloc _).up hg8 bA.size)
      have e8 : yy ++ (List.replicate j 0 ++ [0]) = yy ++ List.replicate (j + 1) 0 := by rw [List.replicate_succ']
      try simp only [List.append_assoc] at ho8
      rw [e8] at ho8
      have HF := (show Hid _ from And.intro ho8 h8)
      clear h8 e8 ho8 hg8 hp8 HS hz1 hb2 hm1 bA
      go_wp2
      go_roundw
      case rel => exact ⟨j + 1, _, _, _, HJ.out.1, rfl, HF.out⟩
      case measure =>
        have := HJ.out.2
        show m + 8 - (n2 + 1) < m + 8 - n2
        omega
end Go.Proofs.YtlgfbcfogcmdbaaDoor
namespace Go.Proofs.YtlgfbcfogcmdbaaDoor
open Go.RowKit
/-- The reference's Check, in its parts. -/
def rchkN (od : Bool) (k pN bN dN xN : Nat) (ls : List Nat) (bl : Nat) : Int :=
  if od = true ∨ k = 0 ∧ xN = 0 then 2
  else if 16 < pN ∨ 16 < bN ∨ 16 < dN ∨ 1480 < xN then 6
  else if ∃ l ∈ ls, 1480 < l then 6
  else if 1468 < bl then 6 else 0
set_option linter.unusedVariables false in
set_option maxRecDepth 100000 in
set_option maxHeartbeats 4000000 in
theorem rcheck_odd (k : Nat) (c1 c2 c3 c4 c5 c6 c7 c8 c9 : Value) (b1 : Option Addr) (b2 b3 : Nat) (d1 : Option Addr) (d2 d3 : Nat) (p1 : Option Addr) (p2 p3 : Nat) (x1 : Option Addr) (x2 x3 : Nat) (w : World)  (ho : ∀ W v, v = .agg #[.int .u8 (k : Nat), c1, c2, c3, c4, c5, c6, c7, c8, c9, .slice b1 b2 b3, .slice d1 d2 d3, .slice p1 p2 p3, .slice x1 x2 x3] → Calls Tryd.prog 34 #[v] W fun e w' => e = .returned (.bool true) ∧ Below W.heap.size W w') :
    Calls Tryd.prog 19 #[.agg #[.int .u8 (k : Nat), c1, c2, c3, c4, c5, c6, c7, c8, c9, .slice b1 b2 b3, .slice d1 d2 d3, .slice p1 p2 p3, .slice x1 x2 x3]] w fun e w' => e = .returned (.int .i64 2) ∧ Below w.heap.size w w' := by
  obtain ⟨W0, hW0⟩ : ∃ W0, W0 = w.alloc (.cells #[.int .u8 (k : Nat), c1, c2, c3, c4, c5, c6, c7, c8, c9, .slice b1 b2 b3, .slice d1 d2 d3, .slice p1 p2 p3, .slice x1 x2 x3] 32) := ⟨_, rfl⟩
  have hb0 : Below w.heap.size w W0 := by rw [hW0]; exact (Below.refl _ _).alloc (Nat.le_refl _) _
  have hst := Stc.new w [.int .u8 (k : Nat), c1, c2, c3, c4, c5, c6, c7, c8, c9, .slice b1 b2 b3, .slice d1 d2 d3, .slice p1 p2 p3, .slice x1 x2 x3] 32 W0 hW0
  have HB := (show Hid _ from And.intro hb0 hst)
  have HV := (show Hid _ from ho W0 _ rfl)
  clear ho
  go_enter Tryd.func19, Tryd.ntmps19
  go_wp2_with fail
  rw [← hW0]
  refine Calls.mono HV.out ?_
  clear HV
  rintro e w1 ⟨rfl, hb1⟩
  have hst1 := hst.below hb1
  have HB1 : Hid (Below w.heap.size w w1) := hb0.trans (hb1.mono hb0.size)
  have HS1 := (show Hid _ from hst1)
  clear hb0 hst HB hW0 hb1
  clear hst1 HS1
  go_wp2
  go_ret
  exact ⟨rfl, HB1.out⟩
set_option linter.unusedVariables false in
set_option maxRecDepth 100000 in
set_option maxHeartbeats 4000000 in
theorem rcheck_bare (k : Nat) (c1 c2 c3 c4 c5 c6 c7 c8 c9 : Value) (b1 : Option Addr) (b2 b3 : Nat) (d1 : Option Addr) (d2 d3 : Nat) (p1 : Option Addr) (p2 p3 : Nat) (x1 : Option Addr) (x2 x3 : Nat) (w : World) (hk : k = 0) (hx : x2 = 0) (ho : ∀ W v, v = .agg #[.int .u8 (k : Nat), c1, c2, c3, c4, c5, c6, c7, c8, c9, .slice b1 b2 b3, .slice d1 d2 d3, .slice p1 p2 p3, .slice x1 x2 x3] → Calls Tryd.prog 34 #[v] W fun e w' => e = .returned (.bool false) ∧ Below W.heap.size W w') :
    Calls Tryd.prog 19 #[.agg #[.int .u8 (k : Nat), c1, c2, c3, c4, c5, c6, c7, c8, c9, .slice b1 b2 b3, .slice d1 d2 d3, .slice p1 p2 p3, .slice x1 x2 x3]] w fun e w' => e = .returned (.int .i64 2) ∧ Below w.heap.size w w' := by
  obtain ⟨W0, hW0⟩ : ∃ W0, W0 = w.alloc (.cells #[.int .u8 (k : Nat), c1, c2, c3, c4, c5, c6, c7, c8, c9, .slice b1 b2 b3, .slice d1 d2 d3, .slice p1 p2 p3, .slice x1 x2 x3] 32) := ⟨_, rfl⟩
  have hb0 : Below w.heap.size w W0 := by rw [hW0]; exact (Below.refl _ _).alloc (Nat.le_refl _) _
  have hst := Stc.new w [.int .u8 (k : Nat), c1, c2, c3, c4, c5, c6, c7, c8, c9, .slice b1 b2 b3, .slice d1 d2 d3, .slice p1 p2 p3, .slice x1 x2 x3] 32 W0 hW0
  have HB := (show Hid _ from And.intro hb0 hst)
  have HV := (show Hid _ from ho W0 _ rfl)
  clear ho
  have HKX := (show Hid _ from And.intro hk hx)
  clear hk hx
  go_enter Tryd.func19, Tryd.ntmps19
  go_wp2_with fail
  rw [← hW0]
  refine Calls.mono HV.out ?_
  clear HV
  rintro e w1 ⟨rfl, hb1⟩
  have hst1 := hst.below hb1
  have HB1 : Hid (Below w.heap.size w w1) := hb0.trans (hb1.mono hb0.size)
  have HS1 := (show Hid _ from hst1)
  clear hb0 hst HB hW0 hb1
  have s0 := hst1.cell 0 _ rfl
  have s13 := hst1.cell 13 _ rfl
  have hk9 : ((k : Int) == 0) = true := by have := HKX.out; simp; omega
  have hx9 : ((x2 : Int) == 0) = true := by have := HKX.out; simp; omega
  clear hst1 HS1
  go_wp2
  go_ret
  exact ⟨rfl, HB1.out⟩
set_option linter.unusedVariables false in
set_option maxRecDepth 100000 in
set_option maxHeartbeats 4000000 in
theorem rcheck_many_p (k : Nat) (c1 c2 c3 c4 c5 c6 c7 c8 c9 : Value) (b1 : Option Addr) (b2 b3 : Nat) (d1 : Option Addr) (d2 d3 : Nat) (p1 : Option Addr) (p2 p3 : Nat) (x1 : Option Addr) (x2 x3 : Nat) (w : World) (hg : k = 0 → ¬ x2 = 0) (hp : 16 < p2) (ho : ∀ W v, v = .agg #[.int .u8 (k : Nat), c1, c2, c3, c4, c5, c6, c7, c8, c9, .slice b1 b2 b3, .slice d1 d2 d3, .slice p1 p2 p3, .slice x1 x2 x3] → Calls Tryd.prog 34 #[v] W fun e w' => e = .returned (.bool false) ∧ Below W.heap.size W w') :
    Calls Tryd.prog 19 #[.agg #[.int .u8 (k : Nat), c1, c2, c3, c4, c5, c6, c7, c8, c9, .slice b1 b2 b3, .slice d1 d2 d3, .slice p1 p2 p3, .slice x1 x2 x3]] w fun e w' => e = .returned (.int .i64 6) ∧ Below w.heap.size w w' := by
  obtain ⟨W0, hW0⟩ : ∃ W0, W0 = w.alloc (.cells #[.int .u8 (k : Nat), c1, c2, c3, c4, c5, c6, c7, c8, c9, .slice b1 b2 b3, .slice d1 d2 d3, .slice p1 p2 p3, .slice x1 x2 x3] 32) := ⟨_, rfl⟩
  have hb0 : Below w.heap.size w W0 := by rw [hW0]; exact (Below.refl _ _).alloc (Nat.le_refl _) _
  have hst := Stc.new w [.int .u8 (k : Nat), c1, c2, c3, c4, c5, c6, c7, c8, c9, .slice b1 b2 b3, .slice d1 d2 d3, .slice p1 p2 p3, .slice x1 x2 x3] 32 W0 hW0
  have HB := (show Hid _ from And.intro hb0 hst)
  have HV := (show Hid _ from ho W0 _ rfl)
  clear ho
  go_enter Tryd.func19, Tryd.ntmps19
  go_wp2_with fail
  rw [← hW0]
  refine Calls.mono HV.out ?_
  clear HV
  rintro e w1 ⟨rfl, hb1⟩
  have hst1 := hst.below hb1
  have HB1 : Hid (Below w.heap.size w w1) := hb0.trans (hb1.mono hb0.size)
  have HS1 := (show Hid _ from hst1)
  clear hb0 hst HB hW0 hb1
  have s0 := hst1.cell 0 _ rfl
  have s10 := hst1.cell 10 _ rfl
  have s11 := hst1.cell 11 _ rfl
  have s12 := hst1.cell 12 _ rfl
  have s13 := hst1.cell 13 _ rfl
  clear hst1 HS1
  have fp : (16 : Int) < (p2 : Int) := by omega
  by_cases hk : k = 0
  · have hx : ((x2 : Int) == 0) = false := by have := hg hk; simp; omega
    subst hk
    clear hg
    go_wp2
    go_ret
    exact ⟨rfl, HB1.out⟩
  · have hx : ((k : Int) == 0) = false := by simp; omega
    clear hg hk
    go_wp2
    go_ret
    exact ⟨rfl, HB1.out⟩
set_option linter.unusedVariables false in
set_option maxRecDepth 100000 in
set_option maxHeartbeats 4000000 in
theorem rcheck_many_b (k : Nat) (c1 c2 c3 c4 c5 c6 c7 c8 c9 : Value) (b1 : Option Addr) (b2 b3 : Nat) (d1 : Option Addr) (d2 d3 : Nat) (p1 : Option Addr) (p2 p3 : Nat) (x1 : Option Addr) (x2 x3 : Nat) (w : World) (hg : k = 0 → ¬ x2 = 0) (hp : ¬ 16 < p2) (hb : 16 < b2) (ho : ∀ W v, v = .agg #[.int .u8 (k : Nat), c1, c2, c3, c4, c5, c6, c7, c8, c9, .slice b1 b2 b3, .slice d1 d2 d3, .slice p1 p2 p3, .slice x1 x2 x3] → Calls Tryd.prog 34 #[v] W fun e w' => e = .returned (.bool false) ∧ Below W.heap.size W w') :
    Calls Tryd.prog 19 #[.agg #[.int .u8 (k : Nat), c1, c2, c3, c4, c5, c6, c7, c8, c9, .slice b1 b2 b3, .slice d1 d2 d3, .slice p1 p2 p3, .slice x1 x2 x3]] w fun e w' => e = .returned (.int .i64 6) ∧ Below w.heap.size w w' := by
  obtain ⟨W0, hW0⟩ : ∃ W0, W0 = w.alloc (.cells #[.int .u8 (k : Nat), c1, c2, c3, c4, c5, c6, c7, c8, c9, .slice b1 b2 b3, .slice d1 d2 d3, .slice p1 p2 p3, .slice x1 x2 x3] 32) := ⟨_, rfl⟩
  have hb0 : Below w.heap.size w W0 := by rw [hW0]; exact (Below.refl _ _).alloc (Nat.le_refl _) _
  have hst := Stc.new w [.int .u8 (k : Nat), c1, c2, c3, c4, c5, c6, c7, c8, c9, .slice b1 b2 b3, .slice d1 d2 d3, .slice p1 p2 p3, .slice x1 x2 x3] 32 W0 hW0
  have HB := (show Hid _ from And.intro hb0 hst)
  have HV := (show Hid _ from ho W0 _ rfl)
  clear ho
  go_enter Tryd.func19, Tryd.ntmps19
  go_wp2_with fail
  rw [← hW0]
  refine Calls.mono HV.out ?_
  clear HV
  rintro e w1 ⟨rfl, hb1⟩
  have hst1 := hst.below hb1
  have HB1 : Hid (Below w.heap.size w w1) := hb0.trans (hb1.mono hb0.size)
  have HS1 := (show Hid _ from hst1)
  clear hb0 hst HB hW0 hb1
  have s0 := hst1.cell 0 _ rfl
  have s10 := hst1.cell 10 _ rfl
  have s11 := hst1.cell 11 _ rfl
  have s12 := hst1.cell 12 _ rfl
  have s13 := hst1.cell 13 _ rfl
  clear hst1 HS1
  have fp : ¬ (16 : Int) < (p2 : Int) := by omega
  have fb : (16 : Int) < (b2 : Int) := by omega
  by_cases hk : k = 0
  · have hx : ((x2 : Int) == 0) = false := by have := hg hk; simp; omega
    subst hk
    clear hg
    go_wp2
    go_ret
    exact ⟨rfl, HB1.out⟩
  · have hx : ((k : Int) == 0) = false := by simp; omega
    clear hg hk
    go_wp2
    go_ret
    exact ⟨rfl, HB1.out⟩
set_option linter.unusedVariables false in
set_option maxRecDepth 100000 in
set_option maxHeartbeats 4000000 in
theorem rcheck_many_d (k : Nat) (c1 c2 c3 c4 c5 c6 c7 c8 c9 : Value) (b1 : Option Addr) (b2 b3 : Nat) (d1 : Option Addr) (d2 d3 : Nat) (p1 : Option Addr) (p2 p3 : Nat) (x1 : Option Addr) (x2 x3 : Nat) (w : World) (hg : k = 0 → ¬ x2 = 0) (hp : ¬ 16 < p2) (hb : ¬ 16 < b2) (hd : 16 < d2) (ho : ∀ W v, v = .agg #[.int .u8 (k : Nat), c1, c2, c3, c4, c5, c6, c7, c8, c9, .slice b1 b2 b3, .slice d1 d2 d3, .slice p1 p2 p3, .slice x1 x2 x3] → Calls Tryd.prog 34 #[v] W fun e w' => e = .returned (.bool false) ∧ Below W.heap.size W w') :
    Calls Tryd.prog 19 #[.agg #[.int .u8 (k : Nat), c1, c2, c3, c4, c5, c6, c7, c8, c9, .slice b1 b2 b3, .slice d1 d2 d3, .slice p1 p2 p3, .slice x1 x2 x3]] w fun e w' => e = .returned (.int .i64 6) ∧ Below w.heap.size w w' := by
  obtain ⟨W0, hW0⟩ : ∃ W0, W0 = w.alloc (.cells #[.int .u8 (k : Nat), c1, c2, c3, c4, c5, c6, c7, c8, c9, .slice b1 b2 b3, .slice d1 d2 d3, .slice p1 p2 p3, .slice x1 x2 x3] 32) := ⟨_, rfl⟩
  have hb0 : Below w.heap.size w W0 := by rw [hW0]; exact (Below.refl _ _).alloc (Nat.le_refl _) _
  have hst := Stc.new w [.int .u8 (k : Nat), c1, c2, c3, c4, c5, c6, c7, c8, c9, .slice b1 b2 b3, .slice d1 d2 d3, .slice p1 p2 p3, .slice x1 x2 x3] 32 W0 hW0
  have HB := (show Hid _ from And.intro hb0 hst)
  have HV := (show Hid _ from ho W0 _ rfl)
  clear ho
  go_enter Tryd.func19, Tryd.ntmps19
  go_wp2_with fail
  rw [← hW0]
  refine Calls.mono HV.out ?_
  clear HV
  rintro e w1 ⟨rfl, hb1⟩
  have hst1 := hst.below hb1
  have HB1 : Hid (Below w.heap.size w w1) := hb0.trans (hb1.mono hb0.size)
  have HS1 := (show Hid _ from hst1)
  clear hb0 hst HB hW0 hb1
  have s0 := hst1.cell 0 _ rfl
  have s10 := hst1.cell 10 _ rfl
  have s11 := hst1.cell 11 _ rfl
  have s12 := hst1.cell 12 _ rfl
  have s13 := hst1.cell 13 _ rfl
  clear hst1 HS1
  have fp : ¬ (16 : Int) < (p2 : Int) := by omega
  have fb : ¬ (16 : Int) < (b2 : Int) := by omega
  have fd : (16 : Int) < (d2 : Int) := by omega
  by_cases hk : k = 0
  · have hx : ((x2 : Int) == 0) = false := by have := hg hk; simp; omega
    subst hk
    clear hg
    go_wp2
    go_ret
    exact ⟨rfl, HB1.out⟩
  · have hx : ((k : Int) == 0) = false := by simp; omega
    clear hg hk
    go_wp2
    go_ret
    exact ⟨rfl, HB1.out⟩
set_option linter.unusedVariables false in
set_option maxRecDepth 100000 in
set_option maxHeartbeats 4000000 in
theorem rcheck_many_x (k : Nat) (c1 c2 c3 c4 c5 c6 c7 c8 c9 : Value) (b1 : Option Addr) (b2 b3 : Nat) (d1 : Option Addr) (d2 d3 : Nat) (p1 : Option Addr) (p2 p3 : Nat) (x1 : Option Addr) (x2 x3 : Nat) (w : World) (hg : k = 0 → ¬ x2 = 0) (hp : ¬ 16 < p2) (hb : ¬ 16 < b2) (hd : ¬ 16 < d2) (hx : 1480 < x2) (ho : ∀ W v, v = .agg #[.int .u8 (k : Nat), c1, c2, c3, c4, c5, c6, c7, c8, c9, .slice b1 b2 b3, .slice d1 d2 d3, .slice p1 p2 p3, .slice x1 x2 x3] → Calls Tryd.prog 34 #[v] W fun e w' => e = .returned (.bool false) ∧ Below W.heap.size W w') :
    Calls Tryd.prog 19 #[.agg #[.int .u8 (k : Nat), c1, c2, c3, c4, c5, c6, c7, c8, c9, .slice b1 b2 b3, .slice d1 d2 d3, .slice p1 p2 p3, .slice x1 x2 x3]] w fun e w' => e = .returned (.int .i64 6) ∧ Below w.heap.size w w' := by
  obtain ⟨W0, hW0⟩ : ∃ W0, W0 = w.alloc (.cells #[.int .u8 (k : Nat), c1, c2, c3, c4, c5, c6, c7, c8, c9, .slice b1 b2 b3, .slice d1 d2 d3, .slice p1 p2 p3, .slice x1 x2 x3] 32) := ⟨_, rfl⟩
  have hb0 : Below w.heap.size w W0 := by rw [hW0]; exact (Below.refl _ _).alloc (Nat.le_refl _) _
  have hst := Stc.new w [.int .u8 (k : Nat), c1, c2, c3, c4, c5, c6, c7, c8, c9, .slice b1 b2 b3, .slice d1 d2 d3, .slice p1 p2 p3, .slice x1 x2 x3] 32 W0 hW0
  have HB := (show Hid _ from And.intro hb0 hst)
  have HV := (show Hid _ from ho W0 _ rfl)
  clear ho
  go_enter Tryd.func19, Tryd.ntmps19
  go_wp2_with fail
  rw [← hW0]
  refine Calls.mono HV.out ?_
  clear HV
  rintro e w1 ⟨rfl, hb1⟩
  have hst1 := hst.below hb1
  have HB1 : Hid (Below w.heap.size w w1) := hb0.trans (hb1.mono hb0.size)
  have HS1 := (show Hid _ from hst1)
  clear hb0 hst HB hW0 hb1
  have s0 := hst1.cell 0 _ rfl
  have s10 := hst1.cell 10 _ rfl
  have s11 := hst1.cell 11 _ rfl
  have s12 := hst1.cell 12 _ rfl
  have s13 := hst1.cell 13 _ rfl
  clear hst1 HS1
  have fp : ¬ (16 : Int) < (p2 : Int) := by omega
  have fb : ¬ (16 : Int) < (b2 : Int) := by omega
  have fd : ¬ (16 : Int) < (d2 : Int) := by omega
  have fx : (1480 : Int) < (x2 : Int) := by omega
  by_cases hk : k = 0
  · have hx : ((x2 : Int) == 0) = false := by have := hg hk; simp; omega
    subst hk
    clear hg
    go_wp2
    go_ret
    exact ⟨rfl, HB1.out⟩
  · have hx : ((k : Int) == 0) = false := by simp; omega
    clear hg hk
    go_wp2
    go_ret
    exact ⟨rfl, HB1.out⟩
set_option linter.unusedVariables false in
set_option maxRecDepth 100000 in
set_option maxHeartbeats 4000000 in
theorem rcheck_rest (k : Nat) (c1 c2 c3 c4 c5 c6 c7 c8 c9 : Value) (b1 : Option Addr) (b2 b3 : Nat) (d1 : Option Addr) (d2 d3 : Nat) (p1 : Option Addr) (p2 p3 : Nat) (x1 : Option Addr) (x2 x3 : Nat) (w : World) (hg : k = 0 → ¬ x2 = 0) (hp : ¬ 16 < p2) (hb : ¬ 16 < b2) (hd : ¬ 16 < d2) (hx : ¬ 1480 < x2) (ls : List Nat) (BL : List Nat) (hP : Prs w p1 p2 p3 ls) (ho : ∀ W v, v = .agg #[.int .u8 (k : Nat), c1, c2, c3, c4, c5, c6, c7, c8, c9, .slice b1 b2 b3, .slice d1 d2 d3, .slice p1 p2 p3, .slice x1 x2 x3] → Calls Tryd.prog 34 #[v] W fun e w' => e = .returned (.bool false) ∧ Below W.heap.size W w')
    (hBy : (∀ l ∈ ls, l ≤ 1480) → ∀ W v, v = .agg #[.int .u8 (k : Nat), c1, c2, c3, c4, c5, c6, c7, c8, c9, .slice b1 b2 b3, .slice d1 d2 d3, .slice p1 p2 p3, .slice x1 x2 x3] → Below w.heap.size w W → Calls Tryd.prog 20 #[v] W (RowV W BL)) :
    Calls Tryd.prog 19 #[.agg #[.int .u8 (k : Nat), c1, c2, c3, c4, c5, c6, c7, c8, c9, .slice b1 b2 b3, .slice d1 d2 d3, .slice p1 p2 p3, .slice x1 x2 x3]] w fun e w' => e = .returned (.int .i64 (if ∃ l ∈ ls, 1480 < l then 6 else if 1468 < BL.length then 6 else 0)) ∧ Below w.heap.size w w' := by
  have hlen := hP.len
  have HPB := (show Hid _ from And.intro hP hBy)
  clear hP hBy
  obtain ⟨W0, hW0⟩ : ∃ W0, W0 = w.alloc (.cells #[.int .u8 (k : Nat), c1, c2, c3, c4, c5, c6, c7, c8, c9, .slice b1 b2 b3, .slice d1 d2 d3, .slice p1 p2 p3, .slice x1 x2 x3] 32) := ⟨_, rfl⟩
  have hb0 : Below w.heap.size w W0 := by rw [hW0]; exact (Below.refl _ _).alloc (Nat.le_refl _) _
  have hst := Stc.new w [.int .u8 (k : Nat), c1, c2, c3, c4, c5, c6, c7, c8, c9, .slice b1 b2 b3, .slice d1 d2 d3, .slice p1 p2 p3, .slice x1 x2 x3] 32 W0 hW0
  have HB := (show Hid _ from And.intro hb0 hst)
  have HV := (show Hid _ from ho W0 _ rfl)
  clear ho
  obtain ⟨RR, hRR⟩ : ∃ RR : Int, RR = (if ∃ l ∈ ls, 1480 < l then (6 : Int) else if 1468 < BL.length then 6 else 0) := ⟨_, rfl⟩
  have HRR := (show Hid _ from hRR)
  rw [← hRR]
  clear hRR
  go_enter Tryd.func19, Tryd.ntmps19
  go_wp2_with fail
  rw [← hW0]
  refine Calls.mono HV.out ?_
  clear HV
  rintro e w1 ⟨rfl, hb1⟩
  have hst1 := hst.below hb1
  have HB1 : Hid (Below w.heap.size w w1) := hb0.trans (hb1.mono hb0.size)
  have HS1 := (show Hid _ from hst1)
  clear hb0 hst HB hW0 hb1
  have s0 := hst1.cell 0 _ rfl
  have s10 := hst1.cell 10 _ rfl
  have s11 := hst1.cell 11 _ rfl
  have s12 := hst1.cell 12 _ rfl
  have s13 := hst1.cell 13 _ rfl
  clear hst1
  have fp : ¬ (16 : Int) < (p2 : Int) := by omega
  have fb : ¬ (16 : Int) < (b2 : Int) := by omega
  have fd : ¬ (16 : Int) < (d2 : Int) := by omega
  have fx : ¬ (1480 : Int) < (x2 : Int) := by omega
  by_cases hk : k = 0
  · have hx9 : ((x2 : Int) == 0) = false := by have := hg hk; simp; omega
    have hk9 : ((k : Int) == 0) = true := by simp; omega
    clear hg hk
    go_wp2_with fail
    go_loopw [3] (fun u3 wr => ∃ i : Nat, i ≤ p2 ∧ u3 = .int .i64 (i : Nat) ∧ wr = w1 ∧ ∀ l ∈ ls.take i, l ≤ 1480) (fun u3 _ => p2 - (intOf u3).toNat)
    case atStart => exact ⟨0, by omega, rfl, (by first | rfl | trivial), fun l hl => by simp at hl⟩
    case round =>
      obtain ⟨i, hin, rfl, rfl, hall⟩ := hrel
      have HAL := (show Hid _ from hall)
      clear hall
      by_cases hlt : i < p2
      · have hlt1 : (i : Int) < (p2 : Int) := by omega
        obtain ⟨l, hli⟩ : ∃ l, ls[i]? = some l := ⟨_, List.getElem?_eq_getElem (by omega)⟩
        obtain ⟨b, off, hab, hbl, hrow⟩ : ∃ b off, p1 = some ⟨b, off, none⟩ ∧ b < w.heap.size ∧ ∀ i l, ls[i]? = some l → ∃ k va vc, w.cell? ⟨b, off + i * 2, none⟩ = some (.int .u16 (k : Nat)) ∧ w.cell? ⟨b, off + i * 2 + 1, none⟩ = some (.slice va l vc) := by
          rcases HPB.out.1.at_ with e | e
          · omega
          · exact e
        subst hab
        obtain ⟨kk, va, vc, _, c1x⟩ := hrow i l hli
        have c1y := (HB1.out.cell (p := ⟨b, off + i * 2 + 1, none⟩) hbl).trans c1x
        clear hrow c1x
        have HLI := (show Hid _ from hli)
        clear hli
        by_cases hl : 1480 < l
        · have hl1 : (1480 : Int) < (l : Int) := by omega
          have HE : Hid ((if ∃ l ∈ ls, 1480 < l then (6 : Int) else if 1468 < BL.length then 6 else 0) = 6) := if_pos ⟨l, List.mem_of_getElem? HLI.out, hl⟩
          rw [← HRR.out] at HE
          have hE := HE.out
          subst hE
          clear HE HRR
          go_wp2
          go_ret
          exact ⟨rfl, HB1.out⟩
        · have hl1 : ¬ (1480 : Int) < (l : Int) := by omega
          have HF : Hid (∀ l ∈ ls.take (i + 1), l ≤ 1480) := by
            show ∀ l ∈ _, _
            rw [List.take_add_one, HLI.out]
            intro q hq
            rcases List.mem_append.1 hq with hq | hq
            · exact HAL.out q hq
            · simp at hq; omega
          go_wp2
          go_roundw
          case rel => exact ⟨i + 1, by omega, by go_num, (by first | rfl | trivial), HF.out⟩
          case measure => simp [intOf]; omega
      · have hlt1 : ¬ (i : Int) < (p2 : Int) := by omega
        have hA := HAL.out
        rw [show ls.take i = ls from List.take_of_length_le (by omega)] at hA
        have HN := (show Hid _ from HPB.out.2 hA wr _ rfl HB1.out)
        have HE : Hid ((if ∃ l ∈ ls, 1480 < l then (6 : Int) else if 1468 < BL.length then 6 else 0) = if 1468 < BL.length then 6 else 0) := if_neg (by rintro ⟨l, hl, hl2⟩; have := hA l hl; omega)
        rw [← HRR.out] at HE
        clear hA HAL HPB HRR
        obtain ⟨t0, t1, t2, t3, t4, t5, t6, t7, t8, t9, t10, t11, t12, t13⟩ : (wr.cell? ⟨w.heap.size, 0, none⟩ = some (.int .u8 (k : Nat))) ∧ (wr.cell? ⟨w.heap.size, 1, none⟩ = some c1) ∧ (wr.cell? ⟨w.heap.size, 2, none⟩ = some c2) ∧ (wr.cell? ⟨w.heap.size, 3, none⟩ = some c3) ∧ (wr.cell? ⟨w.heap.size, 4, none⟩ = some c4) ∧ (wr.cell? ⟨w.heap.size, 5, none⟩ = some c5) ∧ (wr.cell? ⟨w.heap.size, 6, none⟩ = some c6) ∧ (wr.cell? ⟨w.heap.size, 7, none⟩ = some c7) ∧ (wr.cell? ⟨w.heap.size, 8, none⟩ = some c8) ∧ (wr.cell? ⟨w.heap.size, 9, none⟩ = some c9) ∧ (wr.cell? ⟨w.heap.size, 10, none⟩ = some (.slice b1 b2 b3)) ∧ (wr.cell? ⟨w.heap.size, 11, none⟩ = some (.slice d1 d2 d3)) ∧ (wr.cell? ⟨w.heap.size, 12, none⟩ = some (.slice p1 p2 p3)) ∧ (wr.cell? ⟨w.heap.size, 13, none⟩ = some (.slice x1 x2 x3)) := by
          have h := HS1.out
          exact ⟨h.cell 0 _ rfl, h.cell 1 _ rfl, h.cell 2 _ rfl, h.cell 3 _ rfl, h.cell 4 _ rfl, h.cell 5 _ rfl, h.cell 6 _ rfl, h.cell 7 _ rfl, h.cell 8 _ rfl, h.cell 9 _ rfl, h.cell 10 _ rfl, h.cell 11 _ rfl, h.cell 12 _ rfl, h.cell 13 _ rfl⟩
        go_wp2_with fail
        refine Calls.mono HN.out ?_
        clear HN t0 t1 t2 t3 t4 t5 t6 t7 t8 t9 t10 t11 t12 t13
        rintro e w2 hR
        obtain ⟨a2, c2x, rfl, _⟩ := hR.ex
        have HF : Hid (Below w.heap.size w w2) := HB1.out.trans (hR.bel.mono HB1.out.size)
        clear hR
        obtain ⟨m, hm⟩ : ∃ m, m = BL.length := ⟨_, rfl⟩
        rw [← hm] at HE ⊢
        clear hm
        by_cases hb : 1468 < m
        · have hb1 : (1468 : Int) < (m : Int) := by omega
          rw [if_pos hb] at HE
          have hE := HE.out
          subst hE
          clear HE
          go_wp2
          go_ret
          exact ⟨rfl, HF.out⟩
        · have hb1 : ¬ (1468 : Int) < (m : Int) := by omega
          rw [if_neg hb] at HE
          have hE := HE.out
          subst hE
          clear HE
          go_wp2
          go_ret
          exact ⟨rfl, HF.out⟩
  · have hx9 : ((k : Int) == 0) = false := by simp; omega
    clear hg hk
    go_wp2_with fail
    go_loopw [3] (fun u3 wr => ∃ i : Nat, i ≤ p2 ∧ u3 = .int .i64 (i : Nat) ∧ wr = w1 ∧ ∀ l ∈ ls.take i, l ≤ 1480) (fun u3 _ => p2 - (intOf u3).toNat)
    case atStart => exact ⟨0, by omega, rfl, (by first | rfl | trivial), fun l hl => by simp at hl⟩
    case round =>
      obtain ⟨i, hin, rfl, rfl, hall⟩ := hrel
      have HAL := (show Hid _ from hall)
      clear hall
      by_cases hlt : i < p2
      · have hlt1 : (i : Int) < (p2 : Int) := by omega
        obtain ⟨l, hli⟩ : ∃ l, ls[i]? = some l := ⟨_, List.getElem?_eq_getElem (by omega)⟩
        obtain ⟨b, off, hab, hbl, hrow⟩ : ∃ b off, p1 = some ⟨b, off, none⟩ ∧ b < w.heap.size ∧ ∀ i l, ls[i]? = some l → ∃ k va vc, w.cell? ⟨b, off + i * 2, none⟩ = some (.int .u16 (k : Nat)) ∧ w.cell? ⟨b, off + i * 2 + 1, none⟩ = some (.slice va l vc) := by
          rcases HPB.out.1.at_ with e | e
          · omega
          · exact e
        subst hab
        obtain ⟨kk, va, vc, _, c1x⟩ := hrow i l hli
        have c1y := (HB1.out.cell (p := ⟨b, off + i * 2 + 1, none⟩) hbl).trans c1x
        clear hrow c1x
        have HLI := (show Hid _ from hli)
        clear hli
        by_cases hl : 1480 < l
        · have hl1 : (1480 : Int) < (l : Int) := by omega
          have HE : Hid ((if ∃ l ∈ ls, 1480 < l then (6 : Int) else if 1468 < BL.length then 6 else 0) = 6) := if_pos ⟨l, List.mem_of_getElem? HLI.out, hl⟩
          rw [← HRR.out] at HE
          have hE := HE.out
          subst hE
          clear HE HRR
          go_wp2
          go_ret
          exact ⟨rfl, HB1.out⟩
        · have hl1 : ¬ (1480 : Int) < (l : Int) := by omega
          have HF : Hid (∀ l ∈ ls.take (i + 1), l ≤ 1480) := by
            show ∀ l ∈ _, _
            rw [List.take_add_one, HLI.out]
            intro q hq
            rcases List.mem_append.1 hq with hq | hq
            · exact HAL.out q hq
            · simp at hq; omega
          go_wp2
          go_roundw
          case rel => exact ⟨i + 1, by omega, by go_num, (by first | rfl | trivial), HF.out⟩
          case measure => simp [intOf]; omega
      · have hlt1 : ¬ (i : Int) < (p2 : Int) := by omega
        have hA := HAL.out
        rw [show ls.take i = ls from List.take_of_length_le (by omega)] at hA
        have HN := (show Hid _ from HPB.out.2 hA wr _ rfl HB1.out)
        have HE : Hid ((if ∃ l ∈ ls, 1480 < l then (6 : Int) else if 1468 < BL.length then 6 else 0) = if 1468 < BL.length then 6 else 0) := if_neg (by rintro ⟨l, hl, hl2⟩; have := hA l hl; omega)
        rw [← HRR.out] at HE
        clear hA HAL HPB HRR
        obtain ⟨t0, t1, t2, t3, t4, t5, t6, t7, t8, t9, t10, t11, t12, t13⟩ : (wr.cell? ⟨w.heap.size, 0, none⟩ = some (.int .u8 (k : Nat))) ∧ (wr.cell? ⟨w.heap.size, 1, none⟩ = some c1) ∧ (wr.cell? ⟨w.heap.size, 2, none⟩ = some c2) ∧ (wr.cell? ⟨w.heap.size, 3, none⟩ = some c3) ∧ (wr.cell? ⟨w.heap.size, 4, none⟩ = some c4) ∧ (wr.cell? ⟨w.heap.size, 5, none⟩ = some c5) ∧ (wr.cell? ⟨w.heap.size, 6, none⟩ = some c6) ∧ (wr.cell? ⟨w.heap.size, 7, none⟩ = some c7) ∧ (wr.cell? ⟨w.heap.size, 8, none⟩ = some c8) ∧ (wr.cell? ⟨w.heap.size, 9, none⟩ = some c9) ∧ (wr.cell? ⟨w.heap.size, 10, none⟩ = some (.slice b1 b2 b3)) ∧ (wr.cell? ⟨w.heap.size, 11, none⟩ = some (.slice d1 d2 d3)) ∧ (wr.cell? ⟨w.heap.size, 12, none⟩ = some (.slice p1 p2 p3)) ∧ (wr.cell? ⟨w.heap.size, 13, none⟩ = some (.slice x1 x2 x3)) := by
          have h := HS1.out
          exact ⟨h.cell 0 _ rfl, h.cell 1 _ rfl, h.cell 2 _ rfl, h.cell 3 _ rfl, h.cell 4 _ rfl, h.cell 5 _ rfl, h.cell 6 _ rfl, h.cell 7 _ rfl, h.cell 8 _ rfl, h.cell 9 _ rfl, h.cell 10 _ rfl, h.cell 11 _ rfl, h.cell 12 _ rfl, h.cell 13 _ rfl⟩
        go_wp2_with fail
        refine Calls.mono HN.out ?_
        clear HN t0 t1 t2 t3 t4 t5 t6 t7 t8 t9 t10 t11 t12 t13
        rintro e w2 hR
        obtain ⟨a2, c2x, rfl, _⟩ := hR.ex
        have HF : Hid (Below w.heap.size w w2) := HB1.out.trans (hR.bel.mono HB1.out.size)
        clear hR
        obtain ⟨m, hm⟩ : ∃ m, m = BL.length := ⟨_, rfl⟩
        rw [← hm] at HE ⊢
        clear hm
        by_cases hb : 1468 < m
        · have hb1 : (1468 : Int) < (m : Int) := by omega
          rw [if_pos hb] at HE
          have hE := HE.out
          subst hE
          clear HE
          go_wp2
          go_ret
          exact ⟨rfl, HF.out⟩
        · have hb1 : ¬ (1468 : Int) < (m : Int) := by omega
          rw [if_neg hb] at HE
          have hE := HE.out
          subst hE
          clear HE
          go_wp2
          go_ret
          exact ⟨rfl, HF.out⟩
end Go.Proofs.YtlgfbcfogcmdbaaDoor
namespace Go.Proofs.YtlgfbcfogcmdbaaDoor
open Go.RowKit
theorem rbytes_any {w : World} {x : ChQ} (h : x.Wf w) (hs : SmQ x) (v : Value) (hv : v = .agg x.vals.toArray) : Calls Tryd.prog 20 #[v] w (RowV w (chB x.k x.f (valB x.cd))) := by
  have hL : (valB x.cd).length ≤ 60000 := by
    have hw := h
    unfold ChQ.Wf at hw
    obtain ⟨g1, g2, g3, g4, g5, g6, g7, g8, g9, g10, g11, g12, g13, g14, _⟩ := hw
    have lx := g14.len
    have lp := g13.pmR.len
    have lb := g11.len
    have ld := SlK.len g12
    have s1 := hs.hp
    have s2 := hs.hb
    have s3 := hs.hd
    have s4 := hs.hx
    have hp := pmsV_le (x.pD.map PqD.pm) (M := 1480) hs.hps
    rw [lp] at hp
    have hp2 : (pmsV (x.pD.map PqD.pm)).length ≤ 16 * 1487 := Nat.le_trans hp (Nat.mul_le_mul_right _ s1)
    have e1 : x.cd.xs.length = x.xN := lx
    have e2 : (pmsV x.cd.ps).length ≤ 16 * 1487 := hp2
    have e3 : x.cd.bs.length = x.bN := lb
    have e4 : x.cd.ds.length = x.dN := ld
    unfold valB sackB
    repeat' split
    all_goals try simp only [List.length_append, bytesB_len, bksB_len, dusB_len, List.length_nil]
    all_goals omega
  subst hv
  have hb := h
  unfold ChQ.Wf at hb
  exact rbytes_L x.k x.f _ _ _ _ _ _ _ _ _ _ _ _ (valB x.cd) w hb.1 hb.2.1 hL (fun W v hv hW => by subst hv; exact value_any (ChQ.wf_below h hW) hs)
set_option maxRecDepth 100000 in
theorem rcheck_any {w : World} {x : ChQ} (h : x.Wf w) (v : Value) (hv : v = .agg x.vals.toArray) : Calls Tryd.prog 19 #[v] w fun e w' => e = .returned (.int .i64 (chkOf x.ck)) ∧ Below w.heap.size w w' := by
  subst hv
  obtain ⟨m, e0, hm, hq⟩ := chk_parts h
  have hodd : ∀ W v, v = .agg x.vals.toArray → Calls Tryd.prog 34 #[v] W fun e w' => e = .returned (.bool (!qOf x.ck)) ∧ Below W.heap.size W w' := by
    intro W v hv
    subst hv
    rw [← odd_qOf x.ck]
    have hb := h
    unfold ChQ.Wf at hb
    exact odd_any x.k x.f x.t x.st x.ss x.pp x.tg x.rm x.os x.is x.bA x.bN x.bC x.dA x.dN x.dC x.pA x.pN x.pC x.xA x.xN x.xC W hb.1
  have hpr : Prs w x.pA x.pN x.pC ((x.pD.map PqD.pm).map fun p => p.zs.length) := by
    unfold ChQ.Wf at h
    exact h.2.2.2.2.2.2.2.2.2.2.2.2.1.pmR.prsB
  rw [e0]
  cases hQ : qOf x.ck with
  | false =>
    rw [hQ] at hodd
    exact rcheck_odd _ _ _ _ _ _ _ _ _ _ _ _ _ _ _ _ _ _ _ _ _ _ _ hodd
  | true =>
    rw [hQ] at hodd
    have hq2 := hq hQ
    by_cases hb : x.k = 0 ∧ x.xN = 0
    · rw [decide_eq_true hb]
      exact rcheck_bare _ _ _ _ _ _ _ _ _ _ _ _ _ _ _ _ _ _ _ _ _ _ _ hb.1 hb.2 hodd
    rw [decide_eq_false hb]
    have hg : x.k = 0 → ¬ x.xN = 0 := fun h1 h2 => hb ⟨h1, h2⟩
    have six : m = true ∨ 1468 < spcN x.cd → chkN true false m (spcN x.cd) = 6 := by
      intro h6
      unfold chkN
      rcases h6 with rfl | h6
      · rfl
      · rw [decide_eq_true h6]
        simp
    by_cases hp : 16 < x.pN
    · rw [six (hq2.1 (by omega))]
      exact rcheck_many_p _ _ _ _ _ _ _ _ _ _ _ _ _ _ _ _ _ _ _ _ _ _ _ hg hp hodd
    by_cases hbb : 16 < x.bN
    · rw [six (hq2.1 (by omega))]
      exact rcheck_many_b _ _ _ _ _ _ _ _ _ _ _ _ _ _ _ _ _ _ _ _ _ _ _ hg hp hbb hodd
    by_cases hdd : 16 < x.dN
    · rw [six (hq2.1 (by omega))]
      exact rcheck_many_d _ _ _ _ _ _ _ _ _ _ _ _ _ _ _ _ _ _ _ _ _ _ _ hg hp hbb hdd hodd
    by_cases hxx : 1480 < x.xN
    · rw [six (hq2.1 (by omega))]
      exact rcheck_many_x _ _ _ _ _ _ _ _ _ _ _ _ _ _ _ _ _ _ _ _ _ _ _ hg hp hbb hdd hxx hodd
    have key := rcheck_rest x.k (.int .u8 (x.f : Nat)) (.int .u32 (x.t : Nat)) (.int .u16 (x.st : Nat)) (.int .u16 (x.ss : Nat)) (.int .u32 (x.pp : Nat)) (.int .u32 (x.tg : Nat)) (.int .u32 (x.rm : Nat)) (.int .u16 (x.os : Nat)) (.int .u16 (x.is : Nat)) x.bA x.bN x.bC x.dA x.dN x.dC x.pA x.pN x.pC x.xA x.xN x.xC w hg hp hbb hdd hxx _ (chB x.k x.f (valB x.cd)) hpr hodd (fun hl W v hv hW => rbytes_any (ChQ.wf_below h hW) ⟨by omega, by omega, by omega, by omega, fun p hp => hl _ (List.mem_map.2 ⟨p, hp, rfl⟩)⟩ v hv)
    have hm0 : m = false := by
      cases m with
      | false => rfl
      | true => have := hm rfl; omega
    have eN : (if ∃ l ∈ (x.pD.map PqD.pm).map (fun p => p.zs.length), 1480 < l then (6 : Int) else if 1468 < (chB x.k x.f (valB x.cd)).length then 6 else 0) = chkN true false m (spcN x.cd) := by
      have e1 : (chB x.k x.f (valB x.cd)).length = spcN x.cd := chB_len _ _ _
      rw [e1]
      by_cases hl : ∃ l ∈ (x.pD.map PqD.pm).map (fun p => p.zs.length), 1480 < l
      · rw [if_pos hl]
        obtain ⟨l, hl1, hl2⟩ := hl
        obtain ⟨p, hp1, rfl⟩ := List.mem_map.1 hl1
        exact (six (hq2.2 ⟨p, hp1, hl2⟩)).symm
      · rw [if_neg hl, hm0]
        unfold chkN
        by_cases h8 : 1468 < spcN x.cd
        · rw [if_pos h8, decide_eq_true h8]; rfl
        · rw [if_neg h8, decide_eq_false h8]; rfl
    rw [eN] at key
    exact key
theorem smQ_of {w : World} {x : ChQ} (h : x.Wf w) (hc : chkOf x.ck = 0) : SmQ x := by
  obtain ⟨m, e0, hm, hq⟩ := chk_parts h
  rw [e0] at hc
  obtain ⟨c1, _, c3, c4⟩ := chkN_ok hc
  have hq2 := hq c1
  have n1 : ¬ (16 < x.pN ∨ 16 < x.bN ∨ 16 < x.dN ∨ 1480 < x.xN) := fun hh => by
    rcases hq2.1 hh with h1 | h1
    · rw [c3] at h1; cases h1
    · omega
  refine ⟨by omega, by omega, by omega, by omega, fun p hp => ?_⟩
  by_cases hl : 1480 < p.zs.length
  · rcases hq2.2 ⟨p, hp, hl⟩ with h1 | h1
    · rw [c3] at h1; cases h1
    · omega
  · omega
end Go.Proofs.YtlgfbcfogcmdbaaDoor
