/- What greatest, check, up, Add and Ahead of package serial answer. -/
import Derived.Test.YtjaheelgcjafcaaProg
import Derived.Test.YtjaheelgcjafcaaSerM
namespace Go.Proofs.Ytjaheelgcjafcaa
open Go.RowKit
set_option maxHeartbeats 400000 in
theorem great_16 (w : World) : Calls Try.prog 76 #[.int .i64 16] w fun e w' => e = .returned (.tuple #[.int .u32 65535, .int .i64 0]) ∧ w' = w := by
  go_enter Try.func76, Try.ntmps76
  go_wp2
  go_ret2
  exact ⟨rfl, rfl⟩
set_option maxHeartbeats 400000 in
theorem great_32 (w : World) : Calls Try.prog 76 #[.int .i64 32] w fun e w' => e = .returned (.tuple #[.int .u32 4294967295, .int .i64 0]) ∧ w' = w := by
  go_enter Try.func76, Try.ntmps76
  go_wp2
  go_ret2
  exact ⟨rfl, rfl⟩
set_option maxHeartbeats 400000 in
theorem great_bad (b : Int) (h : ¬ (b = 16 ∨ b = 32)) (w : World) : Calls Try.prog 76 #[.int .i64 b] w fun e w' => e = .returned (.tuple #[.int .u32 0, .int .i64 2]) ∧ w' = w := by
  have h1 : (b == 16) = false := by simp; omega
  have h2 : (b == 32) = false := by simp; omega
  clear h
  go_enter Try.func76, Try.ntmps76
  go_wp2
  go_ret2
  exact ⟨rfl, rfl⟩
theorem great_ok (b : Int) (h : b = 16 ∨ b = 32) (w : World) : Calls Try.prog 76 #[.int .i64 b] w fun e w' => e = .returned (.tuple #[.int .u32 (rnd b - 1 : Nat), .int .i64 0]) ∧ w' = w := by
  rcases h with rfl | rfl
  · exact great_16 w
  · exact great_32 w
theorem mostR_ok {b : Int} {zs : List Nat} (h : chkE b zs = 0) : mostR b zs = rnd b - 1 := by unfold mostR; rw [if_pos h]
theorem mostR_no {b : Int} {zs : List Nat} (h : ¬ chkE b zs = 0) : mostR b zs = 0 := by unfold mostR; rw [if_neg h]
theorem take_all (zs : List Nat) (M k : Nat) (h : ∀ i, i < k → zs.getD i 0 < M) (hk : k = zs.length) : ∀ z ∈ zs, z < M := by
  intro z hz
  obtain ⟨i, hi, rfl⟩ := List.getElem_of_mem hz
  have := h i (by omega)
  simpa [List.getD_eq_getElem?_getD, hi] using this
set_option maxHeartbeats 1000000 in
theorem check_any (b : Int) (a : Option Addr) (n c : Nat) (zs : List Nat) (w : World) (hs : SlK .u32 4294967296 w a n c zs) :
    Calls Try.prog 69 #[.int .i64 b, .slice a n c] w fun e w' => e = .returned (.tuple #[.int .u32 (mostR b zs : Nat), .int .i64 (chkE b zs : Nat)]) ∧ w' = w := by
  by_cases hb : b = 16 ∨ b = 32
  · have hl := hs.len
    have hsm := hs.small
    obtain ⟨m, hm⟩ : ∃ m, m = rnd b - 1 := ⟨_, rfl⟩
    have hm2 : m < 4294967296 := by have := rnd_le b; omega
    have hmr : rnd b = m + 1 := by have := rnd_pos b; omega
    have hg := great_ok b hb w
    rw [← hm] at hg
    clear hm
    have HB : Hid (b = 16 ∨ b = 32) := hb
    have HR : Hid (rnd b = m + 1) := hmr
    clear hb hmr
    go_enter Try.func69, Try.ntmps69
    go_wp2_with (go_at_call 76; refine hg.mono ?_; rintro e w' ⟨rfl, rfl⟩)
    clear hg
    go_loop [20] (fun i => ∃ k : Nat, k ≤ n ∧ i = .int .i64 k ∧ ∀ j, j < k → zs.getD j 0 < m + 1) (fun i => n - (intOf i).toNat)
    case atStart => exact ⟨0, by omega, rfl, fun j hj => by omega⟩
    case round =>
      obtain ⟨k, hk, rfl, hall⟩ := hrel
      by_cases hkn : k < n
      · rcases hs.at_ with h0 | ⟨g, off, rfl, hlt, hcell⟩
        · omega
        have hc := hcell k hkn
        have hx := hs.bnd k
        have hkz : k < zs.length := by omega
        have HM : Hid (zs.getD k 0 ∈ zs) := by
          show _ ∈ _
          rw [List.getD_eq_getElem?_getD, List.getElem?_eq_getElem hkz]
          exact List.getElem_mem hkz
        have HA : Hid (∀ j, j < k → zs.getD j 0 < m + 1) := hall
        have HX : Hid (∀ x, zs.getD k 0 = x → ∀ j, j < k + 1 → (x < m + 1 → zs.getD j 0 < m + 1)) := by
          show ∀ _, _
          intro x hx j hj hxm
          by_cases hjk : j = k
          · subst hjk; omega
          · exact hall j (by omega)
        clear hcell hall
        have HX2 : Hid (zs.getD k 0 < m + 1 → ∀ j, j < k + 1 → zs.getD j 0 < m + 1) := fun hq j hj => HX.out _ rfl j hj hq
        clear HX
        by_cases hle : zs.getD k 0 ≤ m
        · have H3 : Hid (∀ j, j < k + 1 → zs.getD j 0 < m + 1) := HX2.out (by omega)
          clear HX2 HM HA
          generalize zs.getD k 0 = x at *
          go_wp2
          go_round
          case rel => exact ⟨k + 1, by omega, by go_num, H3.out⟩
          case measure => simp [intOf]; omega
        · have HE : Hid (chkE b zs = 6) := chkE_lim HB.out _ HM.out (by rw [HR.out]; omega)
          clear HX2 HM HA
          generalize zs.getD k 0 = x at *
          go_wp2
          go_ret2
          exact ⟨by rw [mostR_no (by rw [HE.out]; omega), HE.out]; rfl, rfl⟩
      · obtain rfl : k = n := by omega
        have HE : Hid (chkE b zs = 0) := chkE_mk HB.out (by rw [HR.out]; exact take_all zs (m + 1) k hall (by omega))
        clear hall
        go_wp2
        go_ret2
        exact ⟨by rw [mostR_ok HE.out, HE.out, HR.out]; rfl, rfl⟩
  · have HE : Hid (chkE b zs = 2) := chkE_bad b zs hb
    have hg := great_bad b hb w
    clear hb
    go_enter Try.func69, Try.ntmps69
    go_wp2_with (go_at_call 76; refine hg.mono ?_; rintro e w' ⟨rfl, rfl⟩)
    go_ret2
    exact ⟨by rw [mostR_no (by rw [HE.out]; omega), HE.out]; rfl, rfl⟩
set_option maxHeartbeats 400000 in
theorem up_any (b : Int) (x y : Nat) (hx : x < rnd b) (w : World) :
    Calls Try.prog 77 #[.int .u32 (rnd b - 1 : Nat), .int .u32 x, .int .u32 y] w fun e w' => e = .returned (.int .u32 (upV (rnd b) x y : Nat)) ∧ w' = w := by
  have HU := (show Hid _ from up_code b x y hx)
  clear hx
  generalize ((rnd b - 1 : Nat) : Int) = m at *
  go_enter Try.func77, Try.ntmps77
  go_wp2
  go_ret
  exact ⟨ret_int HU.out, rfl⟩
theorem ret_two {k l : IntKind} {a b c d : Int} (h : a = b) (h2 : c = d) : Ending.returned (.tuple #[.int k a, .int l c]) = .returned (.tuple #[.int k b, .int l d]) := by rw [h, h2]
/-- A slice of integers that the call has just made. -/
theorem slk_new (k : IntKind) (M : Nat) (w : World) (t : TypeId) (zs : List Nat) (hb : ∀ i, zs.getD i 0 < M) (hn : zs.length ≤ 1000) :
    SlK k M (w.alloc (.cells (zs.map fun z => Value.int k (z : Nat)).toArray t)) (some ⟨w.heap.size, 0, none⟩) zs.length zs.length zs := by
  refine ⟨rfl, Nat.le_refl _, by unfold maxLen; omega, by omega, (fun h => by cases h), hb, .inr ⟨_, _, rfl, by simp, fun i hi => ?_⟩⟩
  rw [World.cell?_alloc_mark]
  simp [List.getD_eq_getElem?_getD, hi]
theorem u32_one (w : World) (t : TypeId) (a : Nat) (ha : a < 4294967296) : SlK .u32 4294967296 (w.alloc (.cells #[.int .u32 a] t)) (some ⟨w.heap.size, 0, none⟩) 1 1 [a] :=
  slk_new .u32 4294967296 w t [a] (fun i => by cases i <;> simp [ha]) (by simp)
theorem u32_oneB (w : World) (t : TypeId) (a : Nat) (ha : a < 4294967296) (B : Nat) (hB : w.heap.size = B) : SlK .u32 4294967296 (w.alloc (.cells #[.int .u32 a] t)) (some ⟨B, 0, none⟩) 1 1 [a] := by
  subst hB; exact u32_one w t a ha
theorem u32_two (w : World) (t : TypeId) (a b : Nat) (ha : a < 4294967296) (hb : b < 4294967296) : SlK .u32 4294967296 (w.alloc (.cells #[.int .u32 a, .int .u32 b] t)) (some ⟨w.heap.size, 0, none⟩) 2 2 [a, b] :=
  slk_new .u32 4294967296 w t [a, b] (fun i => by rcases i with _ | _ | i <;> simp [ha, hb]) (by simp)
set_option maxHeartbeats 1000000 in
theorem add_any (b : Int) (a : Nat) (n : Int) (ha : a < 4294967296) (w : World) :
    Calls Try.prog 59 #[.int .i64 b, .int .u32 a, .int .i64 n] w fun e w' => e = .returned (.tuple #[.int .u32 (addR b a n : Nat), .int .i64 (chkE b [a] : Nat)]) ∧ Below w.heap.size w w' := by
  by_cases he : chkE b [a] = 0
  · have HR : Hid (addR b a n = addV (rnd b) a n) := by show _ = _; unfold addR; rw [if_pos he]
    have HC := (show Hid _ from add_code b a n)
    have hck := fun w => (fun W hs => check_any b _ 1 1 [a] W hs) (w.alloc (.cells #[.int .u32 a] 30)) (u32_one w 30 a ha)
    rw [mostR_ok he, he] at hck
    have HE := (show Hid _ from he)
    clear he
    generalize ((rnd b - 1 : Nat) : Int) = m at *
    generalize addR b a n = r at *
    generalize addV (rnd b) a n = r2 at *
    go_enter Try.func59, Try.ntmps59
    go_wp2_with (go_at_call 69; refine (hck _).mono ?_; rintro e w' ⟨rfl, rfl⟩)
    go_ret2
    refine ⟨?_, (Below.refl _ _).alloc (Nat.le_refl _) _⟩
    rw [HE.out, HR.out]
    exact ret_two HC.out rfl
  · have HR : Hid (addR b a n = 0) := by show _ = _; unfold addR; rw [if_neg he]
    have hck := fun w => (fun W hs => check_any b _ 1 1 [a] W hs) (w.alloc (.cells #[.int .u32 a] 30)) (u32_one w 30 a ha)
    rw [mostR_no he] at hck
    have hne : ((chkE b [a] : Int) == 0) = false := by simp; omega
    generalize chkE b [a] = q at *
    go_enter Try.func59, Try.ntmps59
    go_wp2_with (go_at_call 69; refine (hck _).mono ?_; rintro e w' ⟨rfl, rfl⟩)
    go_ret2
    exact ⟨by rw [HR.out]; rfl, (Below.refl _ _).alloc (Nat.le_refl _) _⟩
set_option maxHeartbeats 1000000 in
theorem ahead_any (b : Int) (x y : Nat) (hx : x < 4294967296) (hy : y < 4294967296) (w : World) :
    Calls Try.prog 70 #[.int .i64 b, .int .u32 x, .int .u32 y] w fun e w' => e = .returned (.tuple #[.int .i64 (aheadR b x y), .int .i64 (chkE b [x, y] : Nat)]) ∧ Below w.heap.size w w' := by
  by_cases he : chkE b [x, y] = 0
  · have HR : Hid (aheadR b x y = aheadV (rnd b) x y) := by show _ = _; unfold aheadR; rw [if_pos he]
    obtain ⟨hb, hz⟩ := chkE_ok he
    have hck := fun w => (fun W hs => check_any b _ 2 2 [x, y] W hs) (w.alloc (.cells #[.int .u32 x, .int .u32 y] 30)) (u32_two w 30 x y hx hy)
    rw [mostR_ok he, he] at hck
    have hup := fun w => up_any b x y (hz x (by simp)) w
    have hlt := upV_lt (rnd b) x y (rnd_pos b)
    have hr := rnd_le b
    have hr2 : 2 ∣ rnd b := by rcases rnd_two b with h | h <;> rw [h] <;> decide
    have HE := (show Hid _ from he)
    have HV : Hid (aheadV (rnd b) x y = if rnd b ≤ 2 * upV (rnd b) x y then (upV (rnd b) x y : Int) - rnd b else upV (rnd b) x y) := rfl
    clear he hz hb
    generalize aheadR b x y = r at *
    generalize aheadV (rnd b) x y = r2 at *
    generalize upV (rnd b) x y = u at *
    obtain ⟨m, hm⟩ : ∃ m, rnd b = m + 1 := ⟨rnd b - 1, by omega⟩
    rw [hm] at hck hup hlt hr hr2 HV
    rw [Nat.add_sub_cancel] at hck hup
    clear hm
    by_cases hc : m / 2 < u
    · have hc2 : (m : Int) / 2 < (u : Int) := by omega
      have h5 : ((m : Int) - (u : Int)) % 4294967296 = (m : Int) - u := by omega
      have HV2 : Hid (r2 = (u : Int) - (m + 1)) := by show _ = _; rw [HV.out, if_pos (by omega)]; simp
      clear HV
      go_enter Try.func70, Try.ntmps70
      go_wp2_with (first | (go_at_call 69; refine (hck _).mono ?_; rintro e w' ⟨rfl, rfl⟩) | (go_at_call 77; refine (hup _).mono ?_; rintro e w' ⟨rfl, rfl⟩))
      go_ret2
      refine ⟨?_, (Below.refl _ _).alloc (Nat.le_refl _) _⟩
      rw [HE.out, HR.out, HV2.out]
      exact ret_two (by omega) rfl
    · have hc2 : ¬ (m : Int) / 2 < (u : Int) := by omega
      have HV2 : Hid (r2 = (u : Int)) := by show _ = _; rw [HV.out, if_neg (by omega)]
      clear HV
      go_enter Try.func70, Try.ntmps70
      go_wp2_with (first | (go_at_call 69; refine (hck _).mono ?_; rintro e w' ⟨rfl, rfl⟩) | (go_at_call 77; refine (hup _).mono ?_; rintro e w' ⟨rfl, rfl⟩))
      go_ret2
      refine ⟨?_, (Below.refl _ _).alloc (Nat.le_refl _) _⟩
      rw [HE.out, HR.out, HV2.out]
      exact ret_two (by omega) rfl
  · have HR : Hid (aheadR b x y = 0) := by show _ = _; unfold aheadR; rw [if_neg he]
    have hck := fun w => (fun W hs => check_any b _ 2 2 [x, y] W hs) (w.alloc (.cells #[.int .u32 x, .int .u32 y] 30)) (u32_two w 30 x y hx hy)
    rw [mostR_no he] at hck
    have hne : ((chkE b [x, y] : Int) == 0) = false := by simp; omega
    generalize chkE b [x, y] = q at *
    go_enter Try.func70, Try.ntmps70
    go_wp2_with (go_at_call 69; refine (hck _).mono ?_; rintro e w' ⟨rfl, rfl⟩)
    go_ret2
    exact ⟨by rw [HR.out]; rfl, (Below.refl _ _).alloc (Nat.le_refl _) _⟩
end Go.Proofs.Ytjaheelgcjafcaa
