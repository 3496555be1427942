/- Whatever numbers and bytes: the walk of trunklinelaw01.OctetBack ends with true, and writes nothing that was there. -/
import Derived.Test.YthjjjdnhjedbpaaLiveO
namespace Go.Proofs.Ythjjjdnhjedbpaa
open Go.RowKit
set_option maxHeartbeats 1000000 in
theorem walk_OctetBack (v : Nat) (k : Int) (a : Option Addr) (n c : Nat) (zs : List Nat) (w : World) (hv : v < 18446744073709551616) (_hk : (Lit.int .i64 k).wf = true) (hl0 : Sl w a n c zs ∧ c * 1 ≤ 140737488351232) :
    Calls Try.prog 6 #[.int .u64 (v : Nat), .int .i64 k, .slice a n c] w fun e w' => e = .returned (.bool true) ∧ Below w.heap.size w w' := by
  obtain ⟨hl, hcb⟩ := hl0
  have hn : n ≤ 140737488351232 := by have := hl.cap; omega
  have hlen := bytesV_len v k
  by_cases he : bytesE v k = 0
  · obtain ⟨h1, h2, h3⟩ := bytesE_ok he
    have HN := (show Hid _ from num_bytes he)
    have HE := (show Hid _ from he)
    have HL : Hid ((bytesV v k).length = k.toNat) := by show _ = _; unfold bytesV; rw [if_pos he, bytesB_len]
    have HV : Hid (numV (zs ++ bytesV v k) n k = v) := by
      show _ = _
      unfold numV
      have e1 : nspanE (zs ++ bytesV v k).length n k = 0 := by
        unfold nspanE spanE
        rw [List.length_append, hl.len, HL.out, if_neg (by omega), if_neg (by omega), if_neg (by omega)]
      rw [if_pos e1, Int.toNat_natCast, ← hl.len, List.drop_left, List.take_of_length_le (by rw [HL.out]; exact Nat.le_refl _), HN.out]
    have HS : Hid (nspanE (n + (bytesV v k).length) n k = 0) := by
      show _ = _
      unfold nspanE spanE
      rw [HL.out, if_neg (by omega), if_neg (by omega), if_neg (by omega)]
    clear he
    go_enter Try.func6, Try.ntmps6
    go_wp2_with fail
    refine (bytes_any v k _ hv).mono ?_
    rintro e w1 ⟨a1, c1, rfl, ho1, hb1⟩
    rw [HE.out]
    have hz1 := hb1.size
    have ho : OwnB (w1.alloc (.cells #[] 5)) w1.heap.size (some ⟨w1.heap.size, 0, none⟩) 0 0 [] := own_empty w1
    have hl1 := (hl.below hb1).alloc (.cells #[] 5)
    have HYY : Hid (bytesV v k = bytesV v k) := rfl
    generalize hyy : bytesV v k = ys at *
    have HY := (show Hid _ from hyy)
    clear hyy HYY
    go_wp2_with (at_builtin; go_must (refine app_list rfl _ _ rfl w1.heap.size _ 0 0 [] rfl ho _ n c zs rfl hl1 (by omega) (by simp) ?_))
    intro a2 c2 w2 ho2 hg2
    have hb2 : Below w1.heap.size w1 w2 := ((Below.refl _ _).alloc (Nat.le_refl _) _).trans (ho.up hg2 (by simp))
    have hz2 := hb2.size
    have hs1 := (ho1.below hb2).sl (by omega)
    clear ho hg2 hl1
    go_wp2_with (at_builtin; go_must (refine app_list rfl _ _ rfl w1.heap.size _ n c2 zs rfl ho2 _ ys.length c1 ys rfl hs1 (by omega) (by omega) ?_))
    intro a3 c3 w3 ho3 hg3
    have hb3 : Below w1.heap.size w1 w3 := hb2.trans (ho2.up hg3 (by omega))
    have ho4 := ho1.below hb3
    have hb4 := hb1.trans (hb3.mono hz1)
    clear ho1 hb2 hs1 ho2 hg3
    go_wp2_with fail
    refine (num_any _ _ _ (zs ++ ys) n k _ (ho3.sl (by omega))).mono ?_
    rintro e w4 ⟨rfl, hw4⟩
    subst hw4
    rw [HV.out, HS.out]
    go_wp2_with fail
    refine (bytes_any v k _ hv).mono ?_
    rintro e w5 ⟨a5, c5, rfl, ho5, hb5⟩
    rw [HE.out]
    rw [HY.out] at *
    have ho6 := ho4.below hb5
    have hb6 := hb4.trans (hb5.mono hb4.size)
    clear ho3 hb3 ho4 hb4 hb5
    go_wp2_with fail
    refine (live_any _).mono ?_
    rintro e w7 ⟨rfl, hb7⟩
    have hc1 := conv_str ((ho5.below hb7).sl (by omega))
    have hc2 := conv_str ((ho6.below hb7).sl (by omega))
    go_wp2
    go_ret
    exact ⟨rfl, hb6.trans (hb7.mono hb6.size)⟩
  · have HV : Hid (bytesV v k = []) := by show _ = _; unfold bytesV; rw [if_neg he]
    have hne : ((bytesE v k : Int) != 0) = true := by simp; omega
    go_enter Try.func6, Try.ntmps6
    go_wp2_with fail
    refine (bytes_any v k _ hv).mono ?_
    rintro e w1 ⟨a1, c1, rfl, ho1, hb1⟩
    rw [HV.out]
    go_wp2_with fail
    refine (live_any _).mono ?_
    rintro e w7 ⟨rfl, hb7⟩
    go_wp2
    go_ret
    exact ⟨rfl, hb1.trans (hb7.mono hb1.size)⟩
end Go.Proofs.Ythjjjdnhjedbpaa
