/- Whatever numbers and two places: the walk of trunklinelaw02.SumsAnyOrder ends with true, and writes nothing that was there. -/
import Derived.Test.YtaakkibohkckaaaLive
import Derived.Test.YtaakkibohkckaaaOwn
import Derived.Test.YtaakkibohkckaaaBytes
import Derived.Deep.RegionLaw
import Derived.Deep.RegionHeld3
namespace Go.Proofs.Ytaakkibohkckaaa
open Go.RowKit
theorem sumN_take (ls : List Nat) (k : Nat) (h : k < ls.length) : sumN (ls.take (k + 1)) = sumN (ls.take k) + ls.getD k 0 := by
  rw [take_snocN ls k h, sumN_snoc]
theorem set_getD (ls : List Nat) (k i v : Nat) (hk : k < ls.length) : (ls.set k v).getD i 0 = if i = k then v else ls.getD i 0 := by
  simp only [List.getD_eq_getElem?_getD, List.getElem?_set]
  by_cases h : i = k
  · subst h; simp [hk]
  · rw [if_neg (fun e => h e.symm), if_neg h]
theorem sumN_set (ls : List Nat) (k v : Nat) (hk : k < ls.length) : ∀ j, j ≤ ls.length → sumN ((ls.set k v).take j) + (if k < j then ls.getD k 0 else 0) = sumN (ls.take j) + (if k < j then v else 0) := by
  intro j
  induction j with
  | zero => intro _; simp
  | succ j ih =>
    intro hj
    have ih' := ih (by omega)
    rw [sumN_take _ j (by simp; omega), sumN_take _ j (by omega), set_getD ls k j v hk]
    by_cases h1 : k < j
    · have h2 : k < j + 1 := by omega
      have h3 : ¬ j = k := by omega
      simp only [h1, h2, h3, if_true, if_false] at ih' ⊢
      omega
    · by_cases h2 : j = k
      · subst h2
        have h3 : j < j + 1 := by omega
        simp only [h1, h3, if_true, if_false] at ih' ⊢
        omega
      · have h3 : ¬ k < j + 1 := by omega
        simp only [h1, h2, h3, if_false] at ih' ⊢
        omega
theorem sum_set (ls : List Nat) (k v : Nat) (hk : k < ls.length) : sumN (ls.set k v) + ls.getD k 0 = sumN ls + v := by
  have := sumN_set ls k v hk ls.length (Nat.le_refl _)
  rw [if_pos hk, if_pos hk, List.take_length, List.take_of_length_le (by simp)] at this
  exact this
theorem sum_exch (ls : List Nat) (p q : Nat) (hp : p < ls.length) (hq : q < ls.length) : sumN ((ls.set p (ls.getD q 0)).set q (ls.getD p 0)) = sumN ls := by
  have h1 := sum_set ls p (ls.getD q 0) hp
  have h2 := sum_set (ls.set p (ls.getD q 0)) q (ls.getD p 0) (by simp; exact hq)
  rw [set_getD _ _ _ _ hp] at h2
  split at h2 <;> omega
theorem nb_getD (ls : List Nat) : ∀ k, (nb ls).getD (2 * k) 0 = ls.getD k 0 / 256 ∧ (nb ls).getD (2 * k + 1) 0 = ls.getD k 0 % 256 := by
  induction ls with
  | nil => intro k; simp [nb]
  | cons x t ih =>
    intro k
    have e : nb (x :: t) = x / 256 :: x % 256 :: nb t := by simp [nb]
    rw [e]
    cases k with
    | zero => simp
    | succ k =>
      have := ih k
      rw [show 2 * (k + 1) = 2 * k + 1 + 1 from by omega]
      simpa using this
theorem nb_set (ls : List Nat) (v : Nat) : ∀ k, ((nb ls).set (2 * k) (v / 256)).set (2 * k + 1) (v % 256) = nb (ls.set k v) := by
  induction ls with
  | nil => intro k; simp [nb]
  | cons x t ih =>
    intro k
    have e : ∀ x t, nb (x :: t) = x / 256 :: x % 256 :: nb t := by intro x t; simp [nb]
    cases k with
    | zero => simp [e]
    | succ k =>
      have := ih k
      rw [show 2 * (k + 1) = 2 * k + 1 + 1 from by omega, List.set_cons_succ, e, e]
      simpa using this
/-- What the four stores make of the bytes. -/
def exch (bs : List Nat) (x y : Nat) (a0 a1 a2 a3 : Nat) : List Nat := (((bs.set x a0).set (x + 1) a1).set y a2).set (y + 1) a3
theorem exch_nb (ls : List Nat) (p q : Nat) : exch (nb ls) (2 * p) (2 * q) ((nb ls).getD (2 * q) 0) ((nb ls).getD (2 * q + 1) 0) ((nb ls).getD (2 * p) 0) ((nb ls).getD (2 * p + 1) 0) = nb ((ls.set p (ls.getD q 0)).set q (ls.getD p 0)) := by
  unfold exch
  rw [(nb_getD ls q).1, (nb_getD ls q).2, (nb_getD ls p).1, (nb_getD ls p).2, nb_set, nb_set]
theorem net_exch (ls : List Nat) (p q : Nat) (hp : p < ls.length) (hq : q < ls.length) : net (exch (nb ls) (2 * p) (2 * q) ((nb ls).getD (2 * q) 0) ((nb ls).getD (2 * q + 1) 0) ((nb ls).getD (2 * p) 0) ((nb ls).getD (2 * p + 1) 0)) = net (nb ls) := by
  rw [exch_nb, net_nb, net_nb, sum_exch ls p q hp hq]
set_option maxHeartbeats 4000000 in
theorem walk_SumsAnyOrder (a : Option Addr) (n c : Nat) (ls : List Nat) (p q : Nat) (w : World) (hl0 : SlK .u16 65536 w a n c ls ∧ c * 2 ≤ 140737488351232) (hp : p < 65536) (hq : q < 65536) :
    Calls Try.prog 5 #[.slice a n c, .int .u16 p, .int .u16 q] w fun e w' => e = .returned (.bool true) ∧ Below w.heap.size w w' := by
  obtain ⟨hs, hcb⟩ := hl0
  have hn : n * 2 ≤ 140737488351232 := by have := hs.cap; omega
  go_enter Try.func5, Try.ntmps5
  go_wp2
  go_loopw [7, 9] (fun va i wr => ∃ (j : Nat) (a1 : Option Addr) (c1 : Nat), j ≤ n ∧ i = .int .i64 j ∧ va = .slice a1 (2 * j) c1 ∧ OwnB wr w.heap.size a1 (2 * j) c1 (nb (ls.take j)) ∧ Below w.heap.size w wr) (fun _ i _ => n - (intOf i).toNat)
  case atStart => exact ⟨0, none, 0, by omega, rfl, rfl, OwnB.nil _ _, Below.refl _ _⟩
  case round =>
    obtain ⟨j, a1, c1, hj, rfl, rfl, hown, hbel⟩ := hrel
    by_cases hjn : j < n
    · have hl := hs.len
      rcases hs.at_ with h0 | ⟨b, off, rfl, hlt, hcell⟩
      · omega
      have hc := hcell j hjn
      rw [← hbel.cell (p := ⟨b, off + j, none⟩) hlt] at hc
      have hx := hs.bnd j
      have HA : Hid (nb (ls.take (j + 1)) = nb (ls.take j) ++ [ls.getD j 0 / 256, ls.getD j 0 % 256]) := by
        show _ = _
        rw [take_snocN ls j (by omega), nb_snoc]
      generalize nb (ls.take j) = A at *
      generalize ls.getD j 0 = x at *
      have hsz := hbel.size
      have hown1 : OwnB wr.drew w.heap.size a1 (2 * j) c1 A := hown.below (Below.refl _ _).drew
      have hi1 : (j : Int) < (n : Int) := by omega
      clear hcell hs
      go_wp2_with fail
      go_region_law (refine app_step rfl _ _ rfl w.heap.size _ (2 * j) c1 A (by simp [Act.eval]) (hown1.alloc _) _ 2 2 [x / 256, x % 256] (by simp [Act.eval]) (sl_two wr.drew 5 _ _ _ _ (by rw [IntKind.wrap_u8]; omega) (by rw [IntKind.wrap_u8]; omega) (by omega) (by omega)) (by omega) (by simp; omega) ?_; intro a2 c2 w2 ho2 hg2)
      all_goals
        have hb2 : Below w.heap.size w w2 := ((hbel.alloc hsz _).drew).trans (((hown1.alloc _)).up hg2 (by simp; omega))
        clear hg2
        go_wp2
        go_roundw
        case rel => exact ⟨j + 1, a2, c2, by omega, by go_num, rfl, by rw [HA.out]; exact ho2, hb2⟩
        case measure => simp [intOf]; omega
    · obtain rfl : j = n := by omega
      have hl := hs.len
      have HT : Hid (ls.take j = ls) := by show _ = _; rw [← hl]; exact List.take_length
      rw [HT.out] at hown
      have hs1 := hown.sl (by omega)
      go_wp2_with (at_builtin; go_must (refine app_list2 rfl _ _ rfl wr.heap.size _ 0 0 [] rfl (OwnB.nil _ _) _ (2 * j) c1 (nb ls) rfl hs1 (by omega) (by omega) ?_))
      intro a2 c2 w2 ho2 hg2 hn2
      have hb2 : Below w.heap.size w w2 := hbel.trans ((OwnB.nil wr w.heap.size).up hg2 hbel.size)
      have hown2 : OwnB w2 w.heap.size a1 (2 * j) c1 (nb ls) := hown.kept hg2 (by cases h : (Value.slice a1 (2 * j) c1).ownBlock with | none => exact .inl rfl | some g => exact .inr (by simp [Value.ownBlock]))
      have hlt1 : ∀ g, (Value.slice a1 (2 * j) c1).ownBlock = some g → g < wr.heap.size := fun g hg => (hown.own.lt g hg).2
      have hlt2 : ∀ g, (Value.slice a2 (2 * j) c2).ownBlock = some g → wr.heap.size ≤ g := fun g hg => (ho2.own.lt g hg).1
      have hz := hb2.size
      clear hg2 hn2 hown hs1
      by_cases h0 : j = 0
      · subst h0
        go_wp2_with fail
        refine (live_any _).mono ?_
        rintro e w5 ⟨rfl, hb5⟩
        go_wp2_with fail
        refine (net_any _ _ _ (nb ls) _ ((hown2.sl (by omega)).below hb5)).mono ?_
        rintro e w6 ⟨rfl, hb6⟩
        go_wp2_with fail
        refine (net_any _ _ _ (nb ls) _ (((ho2.sl (by omega)).below hb5).below hb6)).mono ?_
        rintro e w7 ⟨rfl, hb7⟩
        go_wp2
        go_ret
        exact ⟨rfl, hb2.trans ((hb5.mono hz).trans ((hb6.mono (Nat.le_trans hz hb5.size)).trans (hb7.mono (Nat.le_trans hz (Nat.le_trans hb5.size hb6.size)))))⟩
      · obtain ⟨g1, hg1⟩ : ∃ g, a1 = some ⟨g, 0, none⟩ := by
          rcases hown2.own.2 with ⟨_, h1⟩ | ⟨g, cap, cur, hv, _⟩
          · omega
          · injection hv with e1
            exact ⟨g, e1⟩
        subst hg1
        obtain ⟨g2, hg2⟩ : ∃ g, a2 = some ⟨g, 0, none⟩ := by
          rcases ho2.own.2 with ⟨_, h1⟩ | ⟨g, cap, cur, hv, _⟩
          · omega
          · injection hv with e1
            exact ⟨g, e1⟩
        subst hg2
        have hk1 := hlt1 g1 rfl
        have hk2 := hlt2 g2 rfl
        have hP : p % j < j := Nat.mod_lt _ (by omega)
        have hQ : q % j < j := Nat.mod_lt _ (by omega)
        have h0' : ((j : Int) == 0) = false := by simp; omega
        have hmp : Int.tmod (p : Int) (j : Int) = ((p % j : Nat) : Int) := by rw [Int.tmod_eq_emod_of_nonneg (by omega)]; norm_cast
        have hmq : Int.tmod (q : Int) (j : Int) = ((q % j : Nat) : Int) := by rw [Int.tmod_eq_emod_of_nonneg (by omega)]; norm_cast
        have HN := (show Hid _ from net_exch ls (p % j) (q % j) (by omega) (by omega))
        generalize p % j = P at *
        generalize q % j = Q at *
        have hj0 : (0 : Int) < (j : Int) := by omega
        obtain ⟨X, hX⟩ : ∃ X, X = 2 * P := ⟨_, rfl⟩
        obtain ⟨Y, hY⟩ : ∃ Y, Y = 2 * Q := ⟨_, rfl⟩
        have hwx : IntKind.i64.wrap (2 * (P : Int)) = (X : Int) := by rw [IntKind.wrap_i64]; omega
        have hwy : IntKind.i64.wrap (2 * (Q : Int)) = (Y : Int) := by rw [IntKind.wrap_i64]; omega
        have hsplit : X = Y ∨ (¬ X = Y ∧ ¬ Y = X ∧ ¬ X + 1 = Y ∧ ¬ Y = X + 1 ∧ ¬ Y + 1 = X ∧ ¬ X = Y + 1) := by omega
        have hX1 : (X : Int) + 1 < ((2 * j : Nat) : Int) := by omega
        have hY1 : (Y : Int) + 1 < ((2 * j : Nat) : Int) := by omega
        rw [← hX, ← hY] at HN
        generalize 2 * j = N at *
        have hX0 : (X : Int) < (N : Int) := by omega
        have hY0 : (Y : Int) < (N : Int) := by omega
        have hgg : ¬ g1 = g2 := by omega
        have hgg' : ¬ g2 = g1 := by omega
        have hNb : N ≤ 140737488351232 := by have := hown2.len; rw [nb_len] at this; omega
        have hwp : IntKind.i64.wrap (p : Int) = (p : Int) := by rw [IntKind.wrap_i64]; omega
        have hwq : IntKind.i64.wrap (q : Int) = (q : Int) := by rw [IntKind.wrap_i64]; omega
        have hw1 : IntKind.i64.wrap ((X : Int) + 1) = (X : Int) + 1 := by rw [IntKind.wrap_i64]; omega
        have hw2 : IntKind.i64.wrap ((Y : Int) + 1) = (Y : Int) + 1 := by rw [IntKind.wrap_i64]; omega
        have hX2 : (0 : Int) ≤ (X : Int) + 1 := by omega
        have hY2 : (0 : Int) ≤ (Y : Int) + 1 := by omega
        have HNE : Hid ((Value.slice (some ⟨g1, 0, none⟩) N c1).ownBlock = none ∨ (Value.slice (some ⟨g1, 0, none⟩) N c1).ownBlock ≠ some g2) := .inr (fun e => by have := hlt1 g2 e; omega)
        clear hlt1 hlt2 hX hY hP hQ
        have hA := hown2
        have hB := ho2
        have ax0 := hA.cell X (by omega)
        have ax1 := hA.cell (X + 1) (by omega)
        have ay0 := hA.cell Y (by omega)
        have ay1 := hA.cell (Y + 1) (by omega)
        have bx0 := hB.cell X (by omega)
        have bx1 := hB.cell (X + 1) (by omega)
        have by0 := hB.cell Y (by omega)
        have by1 := hB.cell (Y + 1) (by omega)
        have fx0 := hB.free X
        have fx1 := hB.free (X + 1)
        have fy0 := hB.free Y
        have fy1 := hB.free (Y + 1)
        have n0 := hA.bnd X
        have n1 := hA.bnd (X + 1)
        have n2 := hA.bnd Y
        have n3 := hA.bnd (Y + 1)
        generalize (nb ls).getD X 0 = x0 at *
        generalize (nb ls).getD (X + 1) 0 = x1 at *
        generalize (nb ls).getD Y 0 = y0 at *
        generalize (nb ls).getD (Y + 1) 0 = y1 at *
        have HW : Hid (OwnB ((((w2.drew.drew.setCell ⟨g2, X, none⟩ (.int .u8 (y0 : Nat))).setCell ⟨g2, X + 1, none⟩ (.int .u8 (y1 : Nat))).setCell ⟨g2, Y, none⟩ (.int .u8 (x0 : Nat))).setCell ⟨g2, Y + 1, none⟩ (.int .u8 (x1 : Nat))) w.heap.size (some ⟨g1, 0, none⟩) N c1 (nb ls) ∧
            OwnB ((((w2.drew.drew.setCell ⟨g2, X, none⟩ (.int .u8 (y0 : Nat))).setCell ⟨g2, X + 1, none⟩ (.int .u8 (y1 : Nat))).setCell ⟨g2, Y, none⟩ (.int .u8 (x0 : Nat))).setCell ⟨g2, Y + 1, none⟩ (.int .u8 (x1 : Nat))) wr.heap.size (some ⟨g2, 0, none⟩) N c2 (exch (nb ls) X Y y0 y1 x0 x1) ∧
            Below w.heap.size w ((((w2.drew.drew.setCell ⟨g2, X, none⟩ (.int .u8 (y0 : Nat))).setCell ⟨g2, X + 1, none⟩ (.int .u8 (y1 : Nat))).setCell ⟨g2, Y, none⟩ (.int .u8 (x0 : Nat))).setCell ⟨g2, Y + 1, none⟩ (.int .u8 (x1 : Nat)))) := by
          have hA0 := (hA.below (Below.refl _ _).drew).below (Below.refl _ _).drew
          have hB0 := (hB.below (Below.refl _ _).drew).below (Below.refl _ _).drew
          have hB1 := hB0.store X y0 n2
          have hB2 := hB1.store (X + 1) y1 n3
          have hB3 := hB2.store Y x0 n0
          have hB4 := hB3.store (Y + 1) x1 n1
          have hw : w.heap.size ≤ g2 := Nat.le_trans hbel.size hk2
          exact ⟨(((hA0.kept (hB0.own.stored X (.int .u8 (y0 : Nat))).2 HNE.out).kept (hB1.own.stored (X + 1) (.int .u8 (y1 : Nat))).2 HNE.out).kept (hB2.own.stored Y (.int .u8 (x0 : Nat))).2 HNE.out).kept (hB3.own.stored (Y + 1) (.int .u8 (x1 : Nat))).2 HNE.out, hB4, ((((hb2.drew.drew).setCell (p := ⟨g2, X, none⟩) hw _).setCell (p := ⟨g2, X + 1, none⟩) hw _).setCell (p := ⟨g2, Y, none⟩) hw _).setCell (p := ⟨g2, Y + 1, none⟩) hw _⟩
        clear hA hB hown2 ho2 HNE hbel hb2 hs
        go_wp2_with fail
        go_region_held3 (fun w' => w'.cell? ⟨g1, X, none⟩ = some (.int .u8 (x0 : Nat))) (go_keep) (fail)
        all_goals go_wp2_with fail
        rcases hsplit with rfl | ⟨e1, e2, e3, e4, e5, e6⟩
        · obtain rfl : x0 = y0 := by have := ax0.symm.trans ay0; simp at this; omega
          obtain rfl : x1 = y1 := by have := ax1.symm.trans ay1; simp at this; omega
          clear ay0 ay1 by0 by1 fy0 fy1 hY1 hY0 hw2 hY2 n2 n3
          go_region_held3 (fun w' => w'.cell? ⟨g1, X, none⟩ = some (.int .u8 (x0 : Nat)) ∧ w'.cell? ⟨g1, X + 1, none⟩ = some (.int .u8 (x1 : Nat))) (go_keep) (fail)
          clear ax0 ax1 bx0 bx1 fx0 fx1
          go_wp2_with fail
          refine (live_any _).mono ?_
          rintro e w5 ⟨rfl, hb5⟩
          obtain ⟨k1, k2, k3⟩ := HW.out
          have hz5 := k3.size
          go_wp2_with fail
          refine (net_any _ _ _ (nb ls) _ ((k1.sl (by omega)).below hb5)).mono ?_
          rintro e w6 ⟨rfl, hb6⟩
          go_wp2_with fail
          refine (net_any _ _ _ _ _ (((k2.sl (by omega)).below hb5).below hb6)).mono ?_
          rintro e w7 ⟨rfl, hb7⟩
          rw [HN.out]
          go_wp2
          go_ret
          exact ⟨rfl, k3.trans ((hb5.mono hz5).trans ((hb6.mono (Nat.le_trans hz5 hb5.size)).trans (hb7.mono (Nat.le_trans hz5 (Nat.le_trans hb5.size hb6.size)))))⟩
        · go_region_held3 (fun w' => w'.cell? ⟨g1, X, none⟩ = some (.int .u8 (x0 : Nat)) ∧ w'.cell? ⟨g1, X + 1, none⟩ = some (.int .u8 (x1 : Nat)) ∧ w'.cell? ⟨g1, Y, none⟩ = some (.int .u8 (y0 : Nat)) ∧ w'.cell? ⟨g1, Y + 1, none⟩ = some (.int .u8 (y1 : Nat))) (go_keep) (fail)
          clear ax0 ax1 bx0 bx1 fx0 fx1 ay0 ay1 by0 by1 fy0 fy1
          go_wp2_with fail
          refine (live_any _).mono ?_
          rintro e w5 ⟨rfl, hb5⟩
          obtain ⟨k1, k2, k3⟩ := HW.out
          have hz5 := k3.size
          go_wp2_with fail
          refine (net_any _ _ _ (nb ls) _ ((k1.sl (by omega)).below hb5)).mono ?_
          rintro e w6 ⟨rfl, hb6⟩
          go_wp2_with fail
          refine (net_any _ _ _ _ _ (((k2.sl (by omega)).below hb5).below hb6)).mono ?_
          rintro e w7 ⟨rfl, hb7⟩
          rw [HN.out]
          go_wp2
          go_ret
          exact ⟨rfl, k3.trans ((hb5.mono hz5).trans ((hb6.mono (Nat.le_trans hz5 hb5.size)).trans (hb7.mono (Nat.le_trans hz5 (Nat.le_trans hb5.size hb6.size)))))⟩
end Go.Proofs.Ytaakkibohkckaaa
