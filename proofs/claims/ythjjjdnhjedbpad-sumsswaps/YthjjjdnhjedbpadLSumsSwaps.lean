/- Whatever numbers, place and number: the walk of trunklinelaw02.SumsSwaps ends with true, and writes nothing that was there. -/
import Derived.Test.YthjjjdnhjedbpadLive
import Derived.Test.YthjjjdnhjedbpadOwn
import Derived.Test.YthjjjdnhjedbpadSwap
import Derived.Deep.RegionWith
namespace Go.Proofs.Ythjjjdnhjedbpad
open Go.RowKit
theorem sumN_take (ls : List Nat) (k : Nat) (h : k < ls.length) : sumN (ls.take (k + 1)) = sumN (ls.take k) + ls.getD k 0 := by
  rw [take_snocN ls k h, sumN_snoc]
theorem set_getD (ls : List Nat) (k i v : Nat) (hk : k < ls.length) : (ls.set k v).getD i 0 = if i = k then v else ls.getD i 0 := by
  simp only [List.getD_eq_getElem?_getD, List.getElem?_set]
  by_cases h : i = k
  · subst h; simp [hk]
  · rw [if_neg (fun e => h e.symm), if_neg h]
theorem sumN_set (ls : List Nat) (k v : Nat) (hk : k < ls.length) : ∀ j, j ≤ ls.length → sumN ((ls.set k v).take j) + (if k < j then ls.getD k 0 else 0) = sumN (ls.take j) + (if k < j then v else 0) := by
  intro j
  induction j with
  | zero => intro _; simp
  | succ j ih =>
    intro hj
    have ih' := ih (by omega)
    rw [sumN_take _ j (by simp; omega), sumN_take _ j (by omega), set_getD ls k j v hk]
    by_cases h1 : k < j
    · have h2 : k < j + 1 := by omega
      have h3 : ¬ j = k := by omega
      simp only [h1, h2, h3, if_true, if_false] at ih' ⊢
      omega
    · by_cases h2 : j = k
      · subst h2
        have h3 : j < j + 1 := by omega
        simp only [h1, h3, if_true, if_false] at ih' ⊢
        omega
      · have h3 : ¬ k < j + 1 := by omega
        simp only [h1, h2, h3, if_false] at ih' ⊢
        omega
theorem sum_set (ls : List Nat) (k v : Nat) (hk : k < ls.length) : sumN (ls.set k v) + ls.getD k 0 = sumN ls + v := by
  have := sumN_set ls k v hk ls.length (Nat.le_refl _)
  rw [if_pos hk, if_pos hk, List.take_length, List.take_of_length_le (by simp)] at this
  exact this
theorem sumN_ge (ls : List Nat) : ∀ k, k < ls.length → ls.getD k 0 ≤ sumN ls := by
  refine snoc_ind (P := fun ls => ∀ k, k < ls.length → ls.getD k 0 ≤ sumN ls) (by intro k h; simp at h) (fun ls x ih k h => ?_) ls
  rw [sumN_snoc, getD_app]
  split
  · have := ih k (by assumption); omega
  · have e : k - ls.length = 0 := by simp at h; omega
    rw [e]; simp
theorem swap_set (ls : List Nat) (k v : Nat) (hk : k < ls.length) (hb : ls.getD k 0 ≤ 65535) :
    swap (net (nb ls)) (ls.getD k 0) v = 65535 - ar (sumN (ls.set k v) + 65535) := by
  have h1 := sum_set ls k v hk
  have h2 := sumN_ge ls k hk
  rw [net_nb]
  unfold swap
  have h3 := ar_le (sumN ls)
  rw [show 65535 - (65535 - ar (sumN ls)) + (65535 - ls.getD k 0) + v = ar (sumN ls) + (65535 - ls.getD k 0 + v) from by omega, ar_add,
    show sumN ls + (65535 - ls.getD k 0 + v) = sumN (ls.set k v) + 65535 from by omega]
theorem swap_zero (ls : List Nat) (k v : Nat) (hk : k < ls.length) (hb : ls.getD k 0 ≤ 65535) (hz : sumN (ls.set k v) = 0) :
    swap (net (nb ls)) (ls.getD k 0) v = 0 := by
  rw [swap_set ls k v hk hb, hz]; rfl
theorem swap_some (ls : List Nat) (k v : Nat) (hk : k < ls.length) (hb : ls.getD k 0 ≤ 65535) (hz : ¬ sumN (ls.set k v) = 0) :
    swap (net (nb ls)) (ls.getD k 0) v = net (nb (ls.set k v)) := by
  rw [swap_set ls k v hk hb, ar_round _ (by omega), net_nb]
def zb (ls : List Nat) (k : Nat) : Bool := decide (sumN (ls.take k) = 0)
set_option maxHeartbeats 1000000 in
theorem walk_SumsSwaps (a : Option Addr) (n c : Nat) (ls : List Nat) (p v : Nat) (w : World) (hl0 : SlK .u16 65536 w a n c ls ∧ c * 2 ≤ 140737488351232) (hp : p < 65536) (hv : v < 65536) :
    Calls Try.prog 3 #[.slice a n c, .int .u16 p, .int .u16 v] w fun e w' => e = .returned (.bool true) ∧ Below w.heap.size w w' := by
  obtain ⟨hs, hcb⟩ := hl0
  have hn : n * 2 ≤ 140737488351232 := by have := hs.cap; omega
  by_cases h0 : n = 0
  · subst h0
    go_enter Try.func3, Try.ntmps3
    go_wp2_with fail
    refine (live_any _).mono ?_
    rintro e w1 ⟨rfl, hb1⟩
    go_wp2
    go_ret
    exact ⟨rfl, hb1⟩
  · have hs' := hs
    obtain ⟨hl, hcap, hroom, hsm, hnz, hb, hat⟩ := hs
    rcases hat with h1 | ⟨b, off, rfl, hlt, hcell⟩
    · exact absurd h1 h0
    have hk : p % n < n := Nat.mod_lt _ (by omega)
    have h0' : ((n : Int) == 0) = false := by simp; omega
    have hmod : Int.tmod (p : Int) (n : Int) = ((p % n : Nat) : Int) := by rw [Int.tmod_eq_emod_of_nonneg (by omega)]; norm_cast
    generalize hkk : p % n = k at *
    have HKK := (show Hid _ from hkk)
    clear hkk
    go_enter Try.func3, Try.ntmps3
    go_wp2
    go_loopw [7, 8, 10, 11] (fun va vb zz i wr => ∃ (j : Nat) (a1 : Option Addr) (c1 : Nat) (a2 : Option Addr) (c2 : Nat), j ≤ n ∧ i = .int .i64 j ∧ va = .slice a1 (2 * j) c1 ∧ vb = .slice a2 (2 * j) c2 ∧ zz = .bool (zb (ls.set k v) j) ∧ OwnB wr w.heap.size a1 (2 * j) c1 (nb (ls.take j)) ∧ OwnB wr w.heap.size a2 (2 * j) c2 (nb ((ls.set k v).take j)) ∧ Apart a1 (2 * j) c1 a2 (2 * j) c2 ∧ Below w.heap.size w wr) (fun _ _ _ i _ => n - (intOf i).toNat)
    case atStart => exact ⟨0, none, 0, none, 0, by omega, rfl, rfl, rfl, rfl, OwnB.nil _ _, OwnB.nil _ _, (fun g h => by simp [Value.ownBlock] at h), Below.refl _ _⟩
    case round =>
      obtain ⟨j, a1, c1, a2, c2, hj, rfl, rfl, rfl, rfl, ho1, ho2, hap, hbel⟩ := hrel
      by_cases hlt3 : j < n
      · have hc := hcell j hlt3
        have hx := hb j
        rw [← hbel.cell (p := ⟨b, off + j, none⟩) hlt] at hc
        have HA : Hid (nb (ls.take (j + 1)) = nb (ls.take j) ++ [ls.getD j 0 / 256, ls.getD j 0 % 256]) := by
          show _ = _
          rw [take_snocN ls j (by omega), nb_snoc]
        have HB : Hid (nb ((ls.set k v).take (j + 1)) = nb ((ls.set k v).take j) ++ [(ls.set k v).getD j 0 / 256, (ls.set k v).getD j 0 % 256]) := by
          show _ = _
          rw [take_snocN (ls.set k v) j (by simp; omega), nb_snoc]
        have HZ : Hid (zb (ls.set k v) (j + 1) = (zb (ls.set k v) j && ((ls.set k v).getD j 0 == 0))) := by
          show _ = _
          unfold zb
          rw [sumN_take (ls.set k v) j (by simp; omega), Bool.eq_iff_iff]
          simp
        have HY := (show Hid _ from set_getD ls k j v (by omega))
        generalize nb (ls.take j) = A at *
        generalize nb ((ls.set k v).take j) = B at *
        have hsz := hbel.size
        generalize (ls.set k v).getD j 0 = y at *
        generalize ls.getD j 0 = x at *
        generalize zb (ls.set k v) j = z at *
        have HYX : (((j : Int) == (k : Int)) = true ∧ Hid (y = v)) ∨ (((j : Int) == (k : Int)) = false ∧ Hid (y = x)) := by
          by_cases hjk : j = k
          · exact .inl ⟨by simp; omega, by show _ = _; rw [HY.out, if_pos hjk]⟩
          · exact .inr ⟨by simp; omega, by show _ = _; rw [HY.out, if_neg hjk]⟩
        have HY0 : (((y : Int) == 0) = true ∧ Hid ((y == 0) = true)) ∨ (((y : Int) == 0) = false ∧ Hid ((y == 0) = false)) := by
          by_cases hy0 : y = 0
          · exact .inl ⟨by simp; omega, by show _ = _; simp; omega⟩
          · exact .inr ⟨by simp; omega, by show _ = _; simp; omega⟩
        have hyb : y < 65536 := by
          rcases HYX with ⟨_, h⟩ | ⟨_, h⟩ <;> have := h.out <;> omega
        clear HY HKK hmod
        rcases HYX with ⟨hjb, hy⟩ | ⟨hjb, hy⟩ <;> rcases HY0 with ⟨hy0, Hy0⟩ | ⟨hy0, Hy0⟩ <;> cases z
        all_goals
          have hy0' := hy.out ▸ hy0
          go_wp2_with (at_builtin; go_must (refine app_list2 rfl _ _ rfl w.heap.size _ _ c1 A rfl (ho1.alloc _) _ 2 2 [x / 256, x % 256] rfl (sl_two wr 5 _ _ _ _ (by omega) (by omega) (by omega) (by omega)) (by omega) (by simp; omega) ?_))
          intro a3 c3 w3 ho3 hg3 hn3
          have ho4 := (ho2.alloc _).kept hg3 hap.keep
          have hap2 : Apart a3 (2 * j + 2) c3 a2 (2 * j) c2 := hap.next ho2 (Nat.le_succ _) hn3
          have hb3 : Below w.heap.size w w3 := (hbel.alloc hsz _).trans ((ho1.alloc _).up hg3 (by simp; omega))
          have hsz3 := hb3.size
          clear ho1 ho2 hg3 hn3 hap hbel hc
          go_wp2_with (at_builtin; go_must (refine app_list2 rfl _ _ rfl w.heap.size _ _ c2 B rfl (ho4.alloc _) _ 2 2 [y / 256, y % 256] rfl (sl_two w3 5 _ _ _ _ (by have := hy.out; omega) (by have := hy.out; omega) (by omega) (by omega)) (by omega) (by simp; omega) ?_))
          intro a5 c5 w5 ho5 hg5 hn5
          have ho6 := (ho3.alloc _).kept hg5 hap2.symm.keep
          have hap3 := hap2.symm.next ho3 (Nat.le_succ _) hn5
          have hb5 : Below w.heap.size w w5 := (hb3.alloc hsz3 _).trans ((ho4.alloc _).up hg5 (by simp; omega))
          clear ho3 ho4 hg5 hn5 hap2 hb3
          go_wp2
          go_roundw
          case rel => exact ⟨j + 1, a3, c3, a5, c5, by omega, by go_num, rfl, rfl, by rw [HZ.out, Hy0.out]; rfl, by rw [HA.out]; exact ho6, by rw [HB.out]; exact ho5, hap3.symm, hb5⟩
          case measure => simp [intOf]; omega
      · obtain rfl : j = n := by omega
        have hc := hcell k hk
        have hx := hb k
        rw [← hbel.cell (p := ⟨b, off + k, none⟩) hlt] at hc
        have HT : Hid (ls.take j = ls) := by show _ = _; rw [← hl]; exact List.take_length
        have HT2 : Hid ((ls.set k v).take j = ls.set k v) := by show _ = _; rw [List.take_of_length_le (by simp; omega)]
        have HZ : Hid (zb (ls.set k v) j = decide (sumN (ls.set k v) = 0)) := by show _ = _; unfold zb; rw [HT2.out]
        have HS0 := (show Hid _ from swap_zero ls k v (by omega) (by omega))
        have HS1 := (show Hid _ from swap_some ls k v (by omega) (by omega))
        rw [HT.out] at ho1
        rw [HT2.out] at ho2
        have hs1 := ho1.sl (by omega)
        have hle := net_le (nb ls)
        have hki : (k : Int) < (j : Int) := by omega
        generalize ls.getD k 0 = x at *
        clear hcell hb hs' HKK hmod HT HT2 ho1 hap
        have HNB : Hid (net (nb ls) = net (nb ls)) := rfl
        generalize hq : net (nb ls) = q at *
        have HQ := (show Hid _ from hq)
        clear hq HNB
        have hsd : Sl wr.drew a1 (2 * j) c1 (nb ls) := hs1.below (Below.refl _ _).drew
        have hltr : b < wr.drew.heap.size := by have := hbel.size; show b < wr.heap.size; omega
        have hcd : wr.drew.cell? ⟨b, off + k, none⟩ = some (.int .u16 (x : Nat)) := hc
        go_wp2_with fail
        go_region_with (first | (go_at_call 7; refine (net_any _ _ _ (nb ls) _ hsd).mono ?_; rintro e w' ⟨rfl, hb2⟩; rw [HQ.out]; have hc2 := (hb2.cell (p := ⟨b, off + k, none⟩) hltr).trans hcd) | (go_at_call 6; refine (swap_any _ _ _ _ (by omega) (by omega) (by omega)).mono ?_; rintro e w' ⟨rfl, rfl⟩))
        all_goals
          have hb3 : Below w.heap.size w w' := hbel.drew.trans (hb2.mono hbel.size)
          have ho3 := (ho2.below (Below.refl _ _).drew).below hb2
          clear ho2 hb2 hc2 hcd hsd hc hs1 hltr HQ
          by_cases hz : sumN (ls.set k v) = 0
          · have hz1 : zb (ls.set k v) j = true := by rw [HZ.out]; simp [hz]
            rw [HS0.out hz]
            clear HZ HS0 HS1 hz
            go_wp2_with fail
            refine (live_any _).mono ?_
            rintro e w5 ⟨rfl, hb5⟩
            go_wp2
            go_ret
            exact ⟨rfl, hb3.trans (hb5.mono hb3.size)⟩
          · have hz1 : zb (ls.set k v) j = false := by rw [HZ.out]; simp [hz]
            rw [HS1.out hz]
            clear HZ HS0 HS1 hz
            go_wp2_with fail
            refine (live_any _).mono ?_
            rintro e w5 ⟨rfl, hb5⟩
            go_wp2_with fail
            refine (net_any _ _ _ (nb (ls.set k v)) _ ((ho3.sl (by omega)).below hb5)).mono ?_
            rintro e w6 ⟨rfl, hb6⟩
            go_wp2
            go_ret
            exact ⟨rfl, hb3.trans ((hb5.mono hb3.size).trans (hb6.mono (Nat.le_trans hb3.size hb5.size)))⟩
end Go.Proofs.Ythjjjdnhjedbpad
