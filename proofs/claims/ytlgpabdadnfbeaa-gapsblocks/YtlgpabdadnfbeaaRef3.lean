/- What the reference's Round, Check and rest answer. -/
import Derived.Test.YtlgpabdadnfbeaaSer1
import Derived.Deep.QuietTactic
import Derived.BigQuiet
import Derived.Deep.DeepMust
import Derived.Outline
namespace Go.Proofs.Ytlgpabdadnfbeaa
open Go.RowKit
set_option maxHeartbeats 400000 in
theorem round_any (b : Int) (w : World) : Calls Try.prog 36 #[.int .i64 b] w fun e w' => e = .returned (.int .i64 (rnd b : Nat)) ∧ w' = w := by
  by_cases h : b = 16
  · have HR : Hid (rnd b = 65536) := by show _ = _; unfold rnd; rw [if_pos h]
    have h1 : (b == 16) = true := by simpa using h
    clear h
    go_enter Try.func36, Try.ntmps36
    go_wp2
    go_ret
    exact ⟨ret_int (by rw [HR.out]; rfl), rfl⟩
  · have HR : Hid (rnd b = 4294967296) := by show _ = _; unfold rnd; rw [if_neg h]
    have h1 : (b == 16) = false := by simpa using h
    clear h
    go_enter Try.func36, Try.ntmps36
    go_wp2
    go_ret
    exact ⟨ret_int (by rw [HR.out]; rfl), rfl⟩
theorem tmod_rest (M : Nat) (n : Int) (hM : 0 < M) : (Int.tmod n M < 0 → Int.tmod n M + M = (restV M n : Int)) ∧ (¬ Int.tmod n M < 0 → Int.tmod n M = (restV M n : Int)) ∧ -(M : Int) < Int.tmod n M ∧ Int.tmod n M < M := by
  unfold restV
  have h1 := Int.emod_nonneg n (show (M : Int) ≠ 0 by omega)
  have h2 := Int.emod_lt_of_pos n (show (0 : Int) < M by omega)
  rw [Int.toNat_of_nonneg h1]
  have h3 := Int.tmod_eq_emod (a := n) (b := (M : Int))
  have h5 : ¬ (M : Int) ∣ n → n % (M : Int) ≠ 0 := fun h e => h (Int.dvd_of_emod_eq_zero e)
  rw [h3]
  have hab : ((M : Int).natAbs : Int) = M := by simp
  split
  · omega
  · rename_i hc
    have := h5 (fun h => hc (.inr h))
    omega
set_option maxHeartbeats 1000000 in
theorem rest_any (b n : Int) (w : World) : Calls Try.prog 35 #[.int .i64 b, .int .i64 n] w fun e w' => e = .returned (.int .i64 (restV (rnd b) n : Nat)) ∧ w' = w := by
  have hr := fun w => round_any b w
  have hM := rnd_pos b
  have hM2 := rnd_le b
  obtain ⟨t1, t2, t3, t4⟩ := tmod_rest (rnd b) n hM
  generalize rnd b = M at *
  have h0 : ((M : Int) == 0) = false := by simp; omega
  have hMi : (0 : Int) < (M : Int) := by omega
  have HN : Hid (Int.tmod n M = Int.tmod n M) := rfl
  by_cases hneg : Int.tmod n (M : Int) < 0
  · have H1 := (show Hid _ from t1 hneg)
    clear t1 t2
    generalize ht : Int.tmod n (M : Int) = t at *
    go_enter Try.func35, Try.ntmps35
    go_wp2_with (go_at_call 36; refine (hr _).mono ?_; rintro e w' ⟨rfl, hw'⟩; subst w')
    go_ret
    exact ⟨ret_int H1.out, rfl⟩
  · have H1 := (show Hid _ from t2 hneg)
    clear t1 t2
    generalize ht : Int.tmod n (M : Int) = t at *
    go_enter Try.func35, Try.ntmps35
    go_wp2_with (go_at_call 36; refine (hr _).mono ?_; rintro e w' ⟨rfl, hw'⟩; subst w')
    go_ret
    exact ⟨ret_int H1.out, rfl⟩
set_option maxHeartbeats 1000000 in
theorem rcheck_any (b : Int) (a : Option Addr) (n c : Nat) (zs : List Nat) (w : World) (hs : SlK .u32 4294967296 w a n c zs) :
    Calls Try.prog 34 #[.int .i64 b, .slice a n c] w fun e w' => e = .returned (.int .i64 (chkE b zs : Nat)) ∧ ∃ q, w' = w.drewN q := by
  by_cases hb : b = 16 ∨ b = 32
  · have hl := hs.len
    have hsm := hs.small
    have hM2 := rnd_le b
    have HLIM : Hid (∀ z ∈ zs, rnd b ≤ z → chkE b zs = 6) := fun z hz h => chkE_lim hb z hz h
    have HOK : Hid ((∀ z ∈ zs, z < rnd b) → chkE b zs = 0) := fun h => chkE_mk hb h
    have hr := fun w => round_any b w
    obtain ⟨M, hM⟩ : ∃ M, M = rnd b := ⟨_, rfl⟩
    rw [← hM] at hr hM2 HLIM HOK
    clear hM
    rcases hb with rfl | rfl
    all_goals
      go_enter Try.func34, Try.ntmps34
      go_wp2
      go_loopw [5] (fun i wr => ∃ (k q : Nat), k ≤ n ∧ i = .int .i64 k ∧ wr = w.drewN q ∧ ∀ j, j < k → zs.getD j 0 < M) (fun i _ => n - (intOf i).toNat)
      case atStart => exact ⟨0, 0, by omega, rfl, rfl, fun j hj => by omega⟩
      case round =>
        obtain ⟨k, q, hk, rfl, hwr, hall⟩ := hrel
        by_cases hkn : k < n
        · rcases hs.at_ with h0 | ⟨g, off, rfl, hlt, hcell⟩
          · omega
          have hc : wr.cell? ⟨g, off + k, none⟩ = some (.int .u32 (zs.getD k 0 : Nat)) := by rw [hwr]; exact hcell k hkn
          have HW := (show Hid _ from hwr)
          clear hwr
          have hx := hs.bnd k
          have hkz : k < zs.length := by omega
          have HZ : Hid (zs.getD k 0 ∈ zs) := by
            show _ ∈ _
            rw [List.getD_eq_getElem?_getD, List.getElem?_eq_getElem hkz]
            exact List.getElem_mem hkz
          have HX2 : Hid (zs.getD k 0 < M → ∀ j, j < k + 1 → zs.getD j 0 < M) := fun h j hj => by
            by_cases hjk : j = k
            · subst hjk; exact h
            · exact hall j (by omega)
          clear hcell hall
          have hk1 : (k : Int) < (n : Int) := by omega
          by_cases hle : zs.getD k 0 < M
          · have H3 := (show Hid _ from HX2.out hle)
            clear HX2 HZ
            generalize zs.getD k 0 = x at *
            have hge : ¬ (M : Int) ≤ (x : Int) := by omega
            go_wp2_with fail
            go_quiet ((go_at_call 36; go_must (exact Calls.quiet_of_same (hr _))))
            all_goals
              go_wp2
              go_roundw
              case rel => exact ⟨k + 1, _, by omega, by go_num, by rw [HW.out]; exact World.drewN_drewN _ _ _, H3.out⟩
              case measure => simp [intOf]; omega
          · have H3 := (show Hid _ from HLIM.out _ HZ.out (by omega))
            clear HX2 HZ
            generalize zs.getD k 0 = x at *
            have hge : (M : Int) ≤ (x : Int) := by omega
            go_wp2_with fail
            go_quiet ((go_at_call 36; go_must (exact Calls.quiet_of_same (hr _))))
            all_goals
              go_wp2
              go_ret
              exact ⟨ret_int (by rw [H3.out]; rfl), _, by rw [HW.out]; exact World.drewN_drewN _ _ _⟩
        · obtain rfl : k = n := by omega
          have H3 := (show Hid _ from HOK.out (take_all zs M k hall (by omega)))
          clear hall
          go_wp2
          go_ret
          exact ⟨ret_int (by rw [H3.out]; rfl), q, by first | exact hwr | rfl⟩
  · have HE : Hid (chkE b zs = 2) := chkE_bad b zs hb
    have h1 : ¬ b = 16 := fun h => hb (.inl h)
    have h2 : ¬ b = 32 := fun h => hb (.inr h)
    clear hb
    go_enter Try.func34, Try.ntmps34
    go_wp2
    all_goals first
      | (exfalso; omega)
      | (exfalso; simp_all; done)
      | (go_ret; exact ⟨ret_int (by rw [HE.out]; rfl), 0, rfl⟩)
theorem drewN_below (w : World) (q : Nat) : Below w.heap.size w (w.drewN q) := by
  induction q with
  | zero => exact Below.refl _ _
  | succ q ih => exact ih.drew
end Go.Proofs.Ytlgpabdadnfbeaa
