/- What live of layer 3's statements answers: true. And fit. -/
import Derived.Test.YtpnfghchllipnabSort3
import Derived.Test.YtpnfghchllipnabSpan3
import Derived.Test.YtpnfghchllipnabSame3
import Derived.Test.YtpnfghchllipnabRef3
import Derived.Test.YtpnfghchllipnabEqP
namespace Go.Proofs.Ytpnfghchllipnab
open Go.RowKit
theorem v_less : lessR 16 65535 0 = true := by decide +kernel
theorem v_lessE : chkE 16 [65535, 0] = 0 := by decide +kernel
theorem v_ahead : aheadR 32 0 2147483648 = -2147483648 := by decide +kernel
theorem v_aheadE : chkE 32 [0, 2147483648] = 0 := by decide +kernel
theorem v_sort : sortR 16 5 [3, 9, 3, 7] = [7, 9, 3] := by decide +kernel
theorem v_sortE : sortE 16 5 [3, 9, 3, 7] = 0 := by decide +kernel
theorem v_span : spanR 32 [4, 5, 7] = [(4, 5), (7, 7)] := by decide +kernel
theorem v_spanE : spanE 32 [4, 5, 7] = 0 := by decide +kernel
theorem u32_list (w : World) (t : TypeId) (zs : List Nat) (hb : ∀ i, zs.getD i 0 < 4294967296) (hn : zs.length ≤ 1000) (B : Nat) (hB : w.heap.size = B) :
    SlK .u32 4294967296 (w.alloc (.cells (zs.map fun z => Value.int .u32 (z : Nat)).toArray t)) (some ⟨B, 0, none⟩) zs.length zs.length zs := by
  subst hB; exact slk_new .u32 4294967296 w t zs hb hn
theorem getD_all (M : Nat) (hM : 0 < M) (zs : List Nat) (h : zs.all (fun z => decide (z < M)) = true) : ∀ i, zs.getD i 0 < M := by
  intro i
  by_cases hi : i < zs.length
  · have := List.all_eq_true.mp h (zs[i]) (List.getElem_mem hi)
    simp at this
    simpa [List.getD_eq_getElem?_getD, hi] using this
  · simpa [List.getD_eq_getElem?_getD, hi] using hM
set_option maxHeartbeats 2000000 in
theorem live_any (w : World) :
    Calls Try.prog 12 #[] w fun e w' => e = .returned (.bool true) ∧ Below w.heap.size w w' := by
  have hL := fun w => less_any 16 65535 0 (by omega) (by omega) w
  rw [v_less, v_lessE] at hL
  have hA := fun w => ahead_any 32 0 2147483648 (by omega) (by omega) w
  rw [v_ahead, v_aheadE] at hA
  have hSo := fun W a (h : SlU W a 4 4 [3, 9, 3, 7]) => sort_any 16 5 (by omega) a 4 4 [3, 9, 3, 7] W h (by omega)
  rw [v_sort, v_sortE] at hSo
  have hSp := fun W a (h : SlU W a 3 3 [4, 5, 7]) => span_any 32 a 3 3 [4, 5, 7] W h
  rw [v_span, v_spanE] at hSp
  go_enter Try.func12, Try.ntmps12
  go_wp2_with fail
  refine (hL _).mono ?_
  rintro e w1 ⟨rfl, hb1⟩
  go_wp2_with fail
  refine (hA _).mono ?_
  rintro e w2 ⟨rfl, hb2⟩
  go_wp2_with fail
  have h3 : SlU (w2.alloc (.cells #[.int .u32 3, .int .u32 9, .int .u32 3, .int .u32 7] 22)) (some ⟨w2.heap.size, 0, none⟩) 4 4 [3, 9, 3, 7] := u32_list w2 22 [3, 9, 3, 7] (getD_all _ (by omega) _ (by decide)) (by simp) _ rfl
  refine (hSo _ _ h3).mono ?_
  rintro e w3 ⟨a3, c3, rfl, hs3, hb3⟩
  have hb3' : Below w2.heap.size w2 w3 := ((Below.refl _ _).alloc (Nat.le_refl _) _).trans (hb3.mono (by simp))
  clear h3 hb3
  go_wp2_with fail
  have h4 : SlU (w3.alloc (.cells #[.int .u32 4, .int .u32 5, .int .u32 7] 22)) (some ⟨w3.heap.size, 0, none⟩) 3 3 [4, 5, 7] := u32_list w3 22 [4, 5, 7] (getD_all _ (by omega) _ (by decide)) (by simp) _ rfl
  refine (hSp _ _ h4).mono ?_
  rintro e w4 ⟨a4, c4, rfl, ho4, hb4⟩
  have hb4' : Below w3.heap.size w3 w4 := ((Below.refl _ _).alloc (Nat.le_refl _) _).trans (hb4.mono (by simp))
  clear h4 hb4
  have hs4 := hs3.below hb4'
  have hbel : Below w.heap.size w w4 := hb1.trans ((hb2.mono hb1.size).trans ((hb3'.mono (Nat.le_trans hb1.size hb2.size)).trans (hb4'.mono (Nat.le_trans hb1.size (Nat.le_trans hb2.size hb3'.size)))))
  clear hs3 hb3' hb4' hb1 hb2 hL hA hSo hSp
  have hl4 : ([(4, 5), (7, 7)] : List (Nat × Nat)).length = 2 := rfl
  rw [hl4] at ho4
  go_wp2_with fail
  have h5 : SlU (w4.alloc (.cells #[.int .u32 7, .int .u32 9, .int .u32 3] 22)) (some ⟨w4.heap.size, 0, none⟩) 3 3 [7, 9, 3] := u32_list w4 22 [7, 9, 3] (getD_all _ (by omega) _ (by decide)) (by simp) _ rfl
  refine (same_any _ _ _ _ _ _ _ _ _ (hs4.alloc _) h5).mono ?_
  rintro e w5 ⟨rfl, q, rfl⟩
  rw [sameB_refl]
  have ho5 := (ho4.alloc (.cells #[.int .u32 7, .int .u32 9, .int .u32 3] 22)).below (drewN_below _ q)
  have hb5 : Below w.heap.size w ((w4.alloc (.cells #[.int .u32 7, .int .u32 9, .int .u32 3] 22)).drewN q) := (hbel.alloc hbel.size _).trans ((drewN_below _ q).mono (by have := hbel.size; simp; omega))
  clear h5 hs4 ho4 hbel
  generalize ((w4.alloc (.cells #[.int .u32 7, .int .u32 9, .int .u32 3] 22)).drewN q) = w5 at *
  obtain ⟨g, rfl, _, hg, hnc, hcm, hcells, _⟩ := ho5.at_ (by omega)
  have hc0 := (hcells 0 (by omega)).1
  have hc1 := (hcells 0 (by omega)).2
  simp at hc0 hc1
  clear hcells
  have hq := eq_pair
  go_wp2
  go_ret
  exact ⟨rfl, hb5⟩
def fitB (wide : Bool) : Int := if wide then 32 else 16
def fitV (wide : Bool) (x : Nat) : Nat := if wide then x else x % 65536
theorem fitV_lt (wide : Bool) (x : Nat) (hx : x < 4294967296) : fitV wide x < rnd (fitB wide) := by
  cases wide
  · show x % 65536 < 65536; omega
  · exact hx
theorem fitV_lt32 (wide : Bool) (x : Nat) (hx : x < 4294967296) : fitV wide x < 4294967296 := Nat.lt_of_lt_of_le (fitV_lt wide x hx) (rnd_le _)
theorem fitB_ok (wide : Bool) : fitB wide = 16 ∨ fitB wide = 32 := by cases wide <;> simp [fitB]
theorem chk_fit (wide : Bool) (zs : List Nat) (h : ∀ z ∈ zs, z < rnd (fitB wide)) : chkE (fitB wide) zs = 0 := chkE_mk (fitB_ok wide) h
set_option maxHeartbeats 400000 in
theorem fit_any (wide : Bool) (x : Nat) (hx : x < 4294967296) (w : World) : Calls Try.prog 9 #[.bool wide, .int .u32 x] w fun e w' => e = .returned (.tuple #[.int .i64 (fitB wide), .int .u32 (fitV wide x : Nat)]) ∧ w' = w := by
  cases wide
  · have HX := (show Hid _ from and16 x hx)
    go_enter Try.func9, Try.ntmps9
    go_wp2
    go_ret2
    exact ⟨ret_two rfl (by rw [HX.out]; rfl), rfl⟩
  · go_enter Try.func9, Try.ntmps9
    go_wp2
    go_ret2
    exact ⟨rfl, rfl⟩
end Go.Proofs.Ytpnfghchllipnab
