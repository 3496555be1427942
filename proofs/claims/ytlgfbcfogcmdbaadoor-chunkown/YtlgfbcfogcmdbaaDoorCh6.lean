/- What the size of parameters is. -/
import Derived.Test.YtlgfbcfogcmdbaaDoorCh5
namespace Go.Proofs.YtlgfbcfogcmdbaaDoor
open Go.RowKit
/-- A row of parameters, as it lies in a world: how long each one's value is. -/
structure Prs (w : World) (a : Option Addr) (n c : Nat) (ls : List Nat) : Prop where
  len : ls.length = n
  small : n ≤ 281474976710656
  each : ∀ l ∈ ls, l ≤ 281474976710656
  at_ : n = 0 ∨ ∃ b off, a = some ⟨b, off, none⟩ ∧ b < w.heap.size ∧ ∀ i l, ls[i]? = some l → ∃ k va vc, w.cell? ⟨b, off + i * 2, none⟩ = some (.int .u16 (k : Nat)) ∧ w.cell? ⟨b, off + i * 2 + 1, none⟩ = some (.slice va l vc)
theorem Prs.below {w w' : World} {a : Option Addr} {n c : Nat} {ls : List Nat} (h : Prs w a n c ls) (hb : Below w.heap.size w w') : Prs w' a n c ls := by
  refine ⟨h.len, h.small, h.each, ?_⟩
  rcases h.at_ with h0 | ⟨b, off, rfl, hlt, hc⟩
  · exact .inl h0
  · refine .inr ⟨b, off, rfl, Nat.lt_of_lt_of_le hlt hb.size, fun i l hl => ?_⟩
    obtain ⟨k, va, vc, h1, h2⟩ := hc i l hl
    exact ⟨k, va, vc, (hb.cell (p := ⟨b, off + i * 2, none⟩) hlt).trans h1, (hb.cell (p := ⟨b, off + i * 2 + 1, none⟩) hlt).trans h2⟩
/-- Size, and what pads the last one. -/
def pszP (ls : List Nat) : Nat × Nat := ls.foldl (fun s l => (s.1 + s.2 + 4 + l, padN l)) (0, 0)
def psz (ls : List Nat) : Nat := (pszP ls).1
theorem pszP_snoc (ls : List Nat) (l : Nat) : pszP (ls ++ [l]) = ((pszP ls).1 + (pszP ls).2 + 4 + l, padN l) := by
  unfold pszP
  rw [List.foldl_append]
  rfl
theorem pszF_bnd (M : Nat) : ∀ (ls : List Nat) (s : Nat × Nat), s.2 < 4 → (∀ l ∈ ls, l ≤ M) → (ls.foldl (fun s l => (s.1 + s.2 + 4 + l, padN l)) s).1 ≤ s.1 + ls.length * (M + 8) ∧ (ls.foldl (fun s l => (s.1 + s.2 + 4 + l, padN l)) s).2 < 4
  | [], s, hs, _ => ⟨by simp, hs⟩
  | l :: ls, s, hs, h => by
    have h1 := pszF_bnd M ls (s.1 + s.2 + 4 + l, padN l) (Nat.mod_lt _ (by omega)) (fun x hx => h x (List.mem_cons_of_mem _ hx))
    have h2 := h l (List.mem_cons_self ..)
    rw [List.foldl_cons, List.length_cons, Nat.add_mul]
    refine ⟨?_, h1.2⟩
    have := h1.1
    dsimp only at this
    omega
theorem psz_step (ls : List Nat) (i l : Nat) (h : ls[i]? = some l) : pszP (ls.take (i + 1)) = ((pszP (ls.take i)).1 + (pszP (ls.take i)).2 + 4 + l, padN l) := by
  have hi := (List.getElem?_eq_some_iff.1 h).1
  rw [List.take_add_one, h]
  exact pszP_snoc _ _
set_option linter.unusedVariables false in
set_option maxRecDepth 100000 in
set_option maxHeartbeats 4000000 in
theorem size_prms (a : Option Addr) (n c : Nat) (ls : List Nat) (w : World) (h : Prs w a n c ls) (hn : n ≤ 16) : Calls Tryd.prog 87 #[.slice a n c] w fun e w' => e = .returned (.int .i64 (psz ls : Nat)) ∧ Below w.heap.size w w' := by
  have hl := h.len
  have hs := h.small
  go_enter Tryd.func87, Tryd.ntmps87
  have HBD : Hid (∀ i, i ≤ 16 → (pszP (ls.take i)).1 ≤ 16 * 281474976710664 ∧ (pszP (ls.take i)).2 < 4) := by
    show ∀ _, _
    intro i hi
    have h1 := pszF_bnd 281474976710656 (ls.take i) (0, 0) (by decide) (fun l hl => h.each l (List.mem_of_mem_take hl))
    have h2 : (ls.take i).length ≤ 16 := by rw [List.length_take]; omega
    have h3 : (ls.take i).length * (281474976710656 + 8) ≤ 16 * 281474976710664 := Nat.mul_le_mul h2 (Nat.le_refl _)
    unfold pszP
    refine ⟨?_, h1.2⟩
    have := h1.1
    dsimp only at this
    omega
  go_wp2
  go_loopw [3, 4, 9] (fun sv bv iv wr => ∃ i : Nat, iv = .int .i64 (i : Nat) ∧ i ≤ n ∧ sv = .int .i64 ((pszP (ls.take i)).1 : Nat) ∧ bv = .int .i64 ((pszP (ls.take i)).2 : Nat) ∧ Below w.heap.size w wr) (fun _ _ iv _ => n - (intOf iv).toNat)
  case atStart => exact ⟨0, rfl, by omega, rfl, rfl, Below.refl _ _⟩
  case round =>
    obtain ⟨i, rfl, hi, rfl, rfl, hbel⟩ := hrel
    obtain ⟨hb1, hb2⟩ := HBD.out i (by omega)
    by_cases hin : i < n
    · have hi1 : (i : Int) < (n : Int) := by omega
      obtain ⟨l, hl2⟩ : ∃ l, ls[i]? = some l := ⟨_, List.getElem?_eq_getElem (by omega)⟩
      have hll := h.each l (List.mem_of_getElem? hl2)
      have HST := (show Hid _ from psz_step ls i l hl2)
      have HB2 := (show Hid _ from HBD.out (i + 1) (by omega))
      rcases h.at_ with h0 | ⟨b, off, rfl, hlt, hc⟩
      · omega
      obtain ⟨k, va, vc, k0, k1⟩ := hc i l hl2
      have r0 := (hbel.cell (p := ⟨b, off + i * 2, none⟩) hlt).trans k0
      have r1 := (hbel.cell (p := ⟨b, off + i * 2 + 1, none⟩) hlt).trans k1
      have hpd := fun W => padding_any l W (by omega) _ rfl
      have HBL : Hid (∀ o, Below w.heap.size w (wr.alloc o)) := fun o => hbel.alloc hbel.size o
      obtain ⟨S0, hS0⟩ : ∃ S0, S0 = (pszP (ls.take i)).1 := ⟨_, rfl⟩
      obtain ⟨B0, hB0⟩ : ∃ B0, B0 = (pszP (ls.take i)).2 := ⟨_, rfl⟩
      rw [← hS0, ← hB0] at HST
      rw [← hS0] at hb1 ⊢
      rw [← hB0] at hb2 ⊢
      clear hS0 hB0 hc k0 k1 hbel h
      go_wp2_with fail
      refine (hpd _).mono ?_
      rintro e w2 ⟨rfl, hw2⟩
      subst w2
      generalize hpn : padN l = pl at *
      go_wp2
      go_roundw
      case rel => exact ⟨i + 1, by go_num, by omega, by rw [HST.out]; congr 1; simp; omega, by rw [HST.out], HBL.out _⟩
      case measure => simp [intOf]; omega
    · have hi1 : ¬ (i : Int) < (n : Int) := by omega
      have he : i = n := by omega
      have HE : Hid (psz ls = (pszP (ls.take i)).1) := by show _ = _; unfold psz; rw [List.take_of_length_le (by omega)]
      clear he
      generalize (pszP (ls.take i)).1 = S0 at *
      generalize (pszP (ls.take i)).2 = B0 at *
      go_wp2
      go_ret
      exact ⟨by rw [HE.out]; rfl, hbel⟩
end Go.Proofs.YtlgfbcfogcmdbaaDoor
