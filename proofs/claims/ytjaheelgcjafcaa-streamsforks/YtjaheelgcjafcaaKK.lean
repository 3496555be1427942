/- What chunk.Check answers, in letters. -/
import Derived.Test.YtjaheelgcjafcaaKJ
namespace Go.Proofs.Ytjaheelgcjafcaa
open Go.RowKit
/-- A row of parameters, as it lies in a world: how long each one's value is. -/
structure Prs (w : World) (a : Option Addr) (n c : Nat) (ls : List Nat) : Prop where
  len : ls.length = n
  small : n ≤ 281474976710656
  each : ∀ l ∈ ls, l ≤ 281474976710656
  at_ : n = 0 ∨ ∃ b off, a = some ⟨b, off, none⟩ ∧ b < w.heap.size ∧ ∀ i l, ls[i]? = some l → ∃ k va vc, w.cell? ⟨b, off + i * 2, none⟩ = some (.int .u16 (k : Nat)) ∧ w.cell? ⟨b, off + i * 2 + 1, none⟩ = some (.slice va l vc)
theorem Prs.below {w w' : World} {a : Option Addr} {n c : Nat} {ls : List Nat} (h : Prs w a n c ls) (hb : Below w.heap.size w w') : Prs w' a n c ls := by
  refine ⟨h.len, h.small, h.each, ?_⟩
  rcases h.at_ with h0 | ⟨b, off, rfl, hlt, hc⟩
  · exact .inl h0
  · refine .inr ⟨b, off, rfl, Nat.lt_of_lt_of_le hlt hb.size, fun i l hl => ?_⟩
    obtain ⟨k, va, vc, h1, h2⟩ := hc i l hl
    exact ⟨k, va, vc, (hb.cell (p := ⟨b, off + i * 2, none⟩) hlt).trans h1, (hb.cell (p := ⟨b, off + i * 2 + 1, none⟩) hlt).trans h2⟩
/-- Size, and what pads the last one. -/
def pszP (ls : List Nat) : Nat × Nat := ls.foldl (fun s l => (s.1 + s.2 + 4 + l, padN l)) (0, 0)
def psz (ls : List Nat) : Nat := (pszP ls).1
theorem pszP_snoc (ls : List Nat) (l : Nat) : pszP (ls ++ [l]) = ((pszP ls).1 + (pszP ls).2 + 4 + l, padN l) := by
  unfold pszP
  rw [List.foldl_append]
  rfl
theorem pszF_bnd (M : Nat) : ∀ (ls : List Nat) (s : Nat × Nat), s.2 < 4 → (∀ l ∈ ls, l ≤ M) → (ls.foldl (fun s l => (s.1 + s.2 + 4 + l, padN l)) s).1 ≤ s.1 + ls.length * (M + 8) ∧ (ls.foldl (fun s l => (s.1 + s.2 + 4 + l, padN l)) s).2 < 4
  | [], s, hs, _ => ⟨by simp, hs⟩
  | l :: ls, s, hs, h => by
    have h1 := pszF_bnd M ls (s.1 + s.2 + 4 + l, padN l) (Nat.mod_lt _ (by omega)) (fun x hx => h x (List.mem_cons_of_mem _ hx))
    have h2 := h l (List.mem_cons_self ..)
    rw [List.foldl_cons, List.length_cons, Nat.add_mul]
    refine ⟨?_, h1.2⟩
    have := h1.1
    dsimp only at this
    omega
theorem psz_step (ls : List Nat) (i l : Nat) (h : ls[i]? = some l) : pszP (ls.take (i + 1)) = ((pszP (ls.take i)).1 + (pszP (ls.take i)).2 + 4 + l, padN l) := by
  have hi := (List.getElem?_eq_some_iff.1 h).1
  rw [List.take_add_one, h]
  exact pszP_snoc _ _
set_option linter.unusedVariables false in
set_option maxRecDepth 100000 in
set_option maxHeartbeats 4000000 in
theorem size_prms (a : Option Addr) (n c : Nat) (ls : List Nat) (w : World) (h : Prs w a n c ls) (hn : n ≤ 16) : Calls Try.prog 101 #[.slice a n c] w fun e w' => e = .returned (.int .i64 (psz ls : Nat)) ∧ Below w.heap.size w w' := by
  have hl := h.len
  have hs := h.small
  go_enter Try.func101, Try.ntmps101
  have HBD : Hid (∀ i, i ≤ 16 → (pszP (ls.take i)).1 ≤ 16 * 281474976710664 ∧ (pszP (ls.take i)).2 < 4) := by
    show ∀ _, _
    intro i hi
    have h1 := pszF_bnd 281474976710656 (ls.take i) (0, 0) (by decide) (fun l hl => h.each l (List.mem_of_mem_take hl))
    have h2 : (ls.take i).length ≤ 16 := by rw [List.length_take]; omega
    have h3 : (ls.take i).length * (281474976710656 + 8) ≤ 16 * 281474976710664 := Nat.mul_le_mul h2 (Nat.le_refl _)
    unfold pszP
    refine ⟨?_, h1.2⟩
    have := h1.1
    dsimp only at this
    omega
  go_wp2
  go_loopw [3, 4, 9] (fun sv bv iv wr => ∃ i : Nat, iv = .int .i64 (i : Nat) ∧ i ≤ n ∧ sv = .int .i64 ((pszP (ls.take i)).1 : Nat) ∧ bv = .int .i64 ((pszP (ls.take i)).2 : Nat) ∧ Below w.heap.size w wr) (fun _ _ iv _ => n - (intOf iv).toNat)
  case atStart => exact ⟨0, rfl, by omega, rfl, rfl, Below.refl _ _⟩
  case round =>
    obtain ⟨i, rfl, hi, rfl, rfl, hbel⟩ := hrel
    obtain ⟨hb1, hb2⟩ := HBD.out i (by omega)
    by_cases hin : i < n
    · have hi1 : (i : Int) < (n : Int) := by omega
      obtain ⟨l, hl2⟩ : ∃ l, ls[i]? = some l := ⟨_, List.getElem?_eq_getElem (by omega)⟩
      have hll := h.each l (List.mem_of_getElem? hl2)
      have HST := (show Hid _ from psz_step ls i l hl2)
      have HB2 := (show Hid _ from HBD.out (i + 1) (by omega))
      rcases h.at_ with h0 | ⟨b, off, rfl, hlt, hc⟩
      · omega
      obtain ⟨k, va, vc, k0, k1⟩ := hc i l hl2
      have r0 := (hbel.cell (p := ⟨b, off + i * 2, none⟩) hlt).trans k0
      have r1 := (hbel.cell (p := ⟨b, off + i * 2 + 1, none⟩) hlt).trans k1
      have hpd := fun W => padding_any l W (by omega) _ rfl
      have HBL : Hid (∀ o, Below w.heap.size w (wr.alloc o)) := fun o => hbel.alloc hbel.size o
      obtain ⟨S0, hS0⟩ : ∃ S0, S0 = (pszP (ls.take i)).1 := ⟨_, rfl⟩
      obtain ⟨B0, hB0⟩ : ∃ B0, B0 = (pszP (ls.take i)).2 := ⟨_, rfl⟩
      rw [← hS0, ← hB0] at HST
      rw [← hS0] at hb1 ⊢
      rw [← hB0] at hb2 ⊢
      clear hS0 hB0 hc k0 k1 hbel h
      go_wp2_with fail
      refine (hpd _).mono ?_
      rintro e w2 ⟨rfl, hw2⟩
      subst w2
      generalize hpn : padN l = pl at *
      go_wp2
      go_roundw
      case rel => exact ⟨i + 1, by go_num, by omega, by rw [HST.out]; congr 1; simp; omega, by rw [HST.out], HBL.out _⟩
      case measure => simp [intOf]; omega
    · have hi1 : ¬ (i : Int) < (n : Int) := by omega
      have he : i = n := by omega
      have HE : Hid (psz ls = (pszP (ls.take i)).1) := by show _ = _; unfold psz; rw [List.take_of_length_le (by omega)]
      clear he
      generalize (pszP (ls.take i)).1 = S0 at *
      generalize (pszP (ls.take i)).2 = B0 at *
      go_wp2
      go_ret
      exact ⟨by rw [HE.out]; rfl, hbel⟩
end Go.Proofs.Ytjaheelgcjafcaa
namespace Go.Proofs.Ytjaheelgcjafcaa
open Go.RowKit
theorem psz_bnd {w : World} {a : Option Addr} {n c : Nat} {ls : List Nat} (h : Prs w a n c ls) (hn : n ≤ 16) : psz ls ≤ 16 * 281474976710664 := by
  have h1 := pszF_bnd 281474976710656 ls (0, 0) (by decide) h.each
  have h2 : ls.length ≤ 16 := by rw [h.len]; exact hn
  have h3 : ls.length * (281474976710656 + 8) ≤ 16 * 281474976710664 := Nat.mul_le_mul h2 (Nat.le_refl _)
  unfold psz pszP
  have := h1.1
  dsimp only at this
  omega
set_option linter.unusedVariables false in
set_option maxRecDepth 100000 in
set_option maxHeartbeats 1000000 in
theorem size_init (t r o i s : Value) (a : Option Addr) (n c : Nat) (ls : List Nat) (w : World) (h : Prs w a n c ls) (hn : n ≤ 16) : Calls Try.prog 103 #[.agg #[t, r, o, i, s, .slice a n c]] w fun e w' => e = .returned (.int .i64 (16 + psz ls : Nat)) ∧ Below w.heap.size w w' := by
  have hb := psz_bnd h hn
  have hsz := fun (W : World) (hb : Below w.heap.size w W) => size_prms a n c ls W (h.below hb) hn
  have HE : Hid (((16 + psz ls : Nat) : Int) = 16 + (psz ls : Nat)) := by show _ = _; omega
  generalize psz ls = P at *
  go_enter Try.func103, Try.ntmps103
  go_wp2_with fail
  refine (hsz _ (by first | exact Below.refl _ _ | exact (Below.refl _ _).alloc (Nat.le_refl _) _)).mono ?_
  rintro e w1 ⟨rfl, b1⟩
  have HB : Hid (Below w.heap.size w w1) := by
    show Below _ _ _
    first
      | exact b1
      | exact ((Below.refl _ _).alloc (Nat.le_refl _) _).trans (b1.mono (by simp))
  clear hsz b1
  go_wp2
  go_ret
  exact ⟨by rw [HE.out]; rfl, HB.out⟩
set_option linter.unusedVariables false in
set_option maxRecDepth 100000 in
set_option maxHeartbeats 1000000 in
theorem space_init (t r o i s : Value) (a : Option Addr) (n c : Nat) (ls : List Nat) (w : World) (h : Prs w a n c ls) (hn : n ≤ 16) (v : Value) (hv : v = .iface 137 (.agg #[t, r, o, i, s, .slice a n c])) : Calls Try.prog 57 #[v] w fun e w' => e = .returned (.int .i64 (4 + (16 + psz ls) + padN (16 + psz ls) : Nat)) ∧ Below w.heap.size w w' := by
  subst hv
  have hm : ∀ (v : Value) (w : World), (method 280 137 v "trunkline/chunk.size").run Try.prog w = .ok (103, v) w := fun _ _ => by kernel_rfl
  have hbd := psz_bnd h hn
  have hpl : padN (16 + psz ls) < 4 := Nat.mod_lt _ (by omega)
  have hpd := fun W => padding_any (16 + psz ls) W (by omega) _ rfl
  have hsz := fun (W : World) (hb : Below w.heap.size w W) => size_init t r o i s a n c ls W (h.below hb) hn
  have HE : Hid (((4 + (16 + psz ls) + padN (16 + psz ls) : Nat) : Int) = 4 + (((16 + psz ls) : Nat) : Int) + (padN (16 + psz ls) : Nat)) := by show _ = _; omega
  have hrb : (16 + psz ls) ≤ 1152921504606846900 := by omega
  generalize padN (16 + psz ls) = pd at *
  generalize (16 + psz ls) = N at *
  go_enter Try.func57, Try.ntmps57
  go_wp2_with fail
  refine (hsz w (Below.refl _ _)).mono ?_
  rintro e w1 ⟨rfl, b1⟩
  go_wp2_with fail
  refine (hsz w1 b1).mono ?_
  rintro e w2 ⟨rfl, b2⟩
  go_wp2_with fail
  refine (hpd w2).mono ?_
  rintro e w3 ⟨rfl, hw3⟩
  subst w3
  have HB := (show Hid _ from b1.trans (b2.mono b1.size))
  clear hsz hpd b1 b2
  go_wp2
  go_ret
  exact ⟨by rw [HE.out]; rfl, HB.out⟩
set_option linter.unusedVariables false in
set_option maxRecDepth 100000 in
set_option maxHeartbeats 1000000 in
theorem space_prms (a : Option Addr) (n c : Nat) (ls : List Nat) (w : World) (h : Prs w a n c ls) (hn : n ≤ 16) (v : Value) (hv : v = .iface 135 (.slice a n c)) : Calls Try.prog 57 #[v] w fun e w' => e = .returned (.int .i64 (4 + (psz ls) + padN (psz ls) : Nat)) ∧ Below w.heap.size w w' := by
  subst hv
  have hm : ∀ (v : Value) (w : World), (method 280 135 v "trunkline/chunk.size").run Try.prog w = .ok (101, v) w := fun _ _ => by kernel_rfl
  have hbd := psz_bnd h hn
  have hpl : padN (psz ls) < 4 := Nat.mod_lt _ (by omega)
  have hpd := fun W => padding_any (psz ls) W (by omega) _ rfl
  have hsz := fun (W : World) (hb : Below w.heap.size w W) => size_prms a n c ls W (h.below hb) hn
  have HE : Hid (((4 + (psz ls) + padN (psz ls) : Nat) : Int) = 4 + (((psz ls) : Nat) : Int) + (padN (psz ls) : Nat)) := by show _ = _; omega
  have hrb : (psz ls) ≤ 1152921504606846900 := by omega
  generalize padN (psz ls) = pd at *
  generalize (psz ls) = N at *
  go_enter Try.func57, Try.ntmps57
  go_wp2_with fail
  refine (hsz w (Below.refl _ _)).mono ?_
  rintro e w1 ⟨rfl, b1⟩
  go_wp2_with fail
  refine (hsz w1 b1).mono ?_
  rintro e w2 ⟨rfl, b2⟩
  go_wp2_with fail
  refine (hpd w2).mono ?_
  rintro e w3 ⟨rfl, hw3⟩
  subst w3
  have HB := (show Hid _ from b1.trans (b2.mono b1.size))
  clear hsz hpd b1 b2
  go_wp2
  go_ret
  exact ⟨by rw [HE.out]; rfl, HB.out⟩
set_option linter.unusedVariables false in
set_option maxRecDepth 100000 in
set_option maxHeartbeats 1000000 in
theorem space_tsnv (t : Nat) (w : World) (v : Value) (hv : v = .iface 140 (.int .u32 (t : Nat))) : Calls Try.prog 57 #[v] w fun e w' => e = .returned (.int .i64 (8 : Nat)) ∧ Below w.heap.size w w' := by
  subst hv
  have hm : ∀ (v : Value) (w : World), (method 280 140 v "trunkline/chunk.size").run Try.prog w = .ok (107, v) w := fun _ _ => by kernel_rfl
  have hpd := fun W => padding_any 4 W (by omega) _ rfl
  have hsz := fun (W : World) => size_tsnv t W
  go_enter Try.func57, Try.ntmps57
  go_wp2_with fail
  refine (hsz w).mono ?_
  rintro e w1 ⟨rfl, b1⟩
  go_wp2_with fail
  refine (hsz w1).mono ?_
  rintro e w2 ⟨rfl, b2⟩
  go_wp2_with fail
  refine (hpd w2).mono ?_
  rintro e w3 ⟨rfl, hw3⟩
  subst w3
  have HB := (show Hid _ from b1.trans (b2.mono b1.size))
  clear hsz hpd b1 b2
  have hp0 : padN 4 = 0 := rfl
  rw [hp0]
  go_wp2
  go_ret
  exact ⟨rfl, HB.out⟩
set_option linter.unusedVariables false in
set_option maxRecDepth 100000 in
set_option maxHeartbeats 1000000 in
theorem space_none  (w : World) (v : Value) (hv : v = .iface 142 (.agg #[])) : Calls Try.prog 57 #[v] w fun e w' => e = .returned (.int .i64 (4 : Nat)) ∧ Below w.heap.size w w' := by
  subst hv
  have hm : ∀ (v : Value) (w : World), (method 280 142 v "trunkline/chunk.size").run Try.prog w = .ok (109, v) w := fun _ _ => by kernel_rfl
  have hpd := fun W => padding_any 0 W (by omega) _ rfl
  have hsz := fun (W : World) => size_none W
  go_enter Try.func57, Try.ntmps57
  go_wp2_with fail
  refine (hsz w).mono ?_
  rintro e w1 ⟨rfl, b1⟩
  go_wp2_with fail
  refine (hsz w1).mono ?_
  rintro e w2 ⟨rfl, b2⟩
  go_wp2_with fail
  refine (hpd w2).mono ?_
  rintro e w3 ⟨rfl, hw3⟩
  subst w3
  have HB := (show Hid _ from b1.trans (b2.mono b1.size))
  clear hsz hpd b1 b2
  have hp0 : padN 0 = 0 := rfl
  rw [hp0]
  go_wp2
  go_ret
  exact ⟨rfl, HB.out⟩
end Go.Proofs.Ytjaheelgcjafcaa
namespace Go.Proofs.Ytjaheelgcjafcaa
open Go.RowKit
theorem blw_next {w0 W V : World} (h : Below w0.heap.size w0 W) (h2 : Below W.heap.size W V) : Below w0.heap.size w0 V := h.trans (h2.mono h.size)
set_option linter.unusedVariables false in
set_option maxRecDepth 100000 in
set_option maxHeartbeats 2000000 in
theorem check_lacks (k f : Nat) (c2 c3 c4 c5 c6 c7 c8 c9 c10 c11 c12 c13 e2 e3 e4 e5 e6 e7 e8 e9 e10 e11 e12 e13 V A B : Value) (w : World)
    (hv : ∀ W v, v = .agg #[.int .u8 (k : Nat), .int .u8 (f : Nat), c2, c3, c4, c5, c6, c7, c8, c9, c10, c11, c12, c13] → Calls Try.prog 52 #[v] W fun e w' => e = .returned V ∧ Below W.heap.size W w')
    (hs : ∀ W v, v = .agg #[.int .u8 (k : Nat), .int .u8 (f : Nat), c2, c3, c4, c5, c6, c7, c8, c9, c10, c11, c12, c13] → Calls Try.prog 53 #[v] W fun e w' => e = .returned A ∧ Below W.heap.size W w')
    (hc : ∀ W v1 v2 v3, v1 = .int .u8 (k : Nat) → v2 = .int .u8 (f : Nat) → v3 = V → Calls Try.prog 54 #[v1, v2, v3] W fun e w' => e = .returned (.agg #[.int .u8 (k : Nat), .int .u8 (f : Nat), e2, e3, e4, e5, e6, e7, e8, e9, e10, e11, e12, e13]) ∧ Below W.heap.size W w')
    (ht : ∀ W v, v = .agg #[.int .u8 (k : Nat), .int .u8 (f : Nat), e2, e3, e4, e5, e6, e7, e8, e9, e10, e11, e12, e13] → Calls Try.prog 53 #[v] W fun e w' => e = .returned B ∧ Below W.heap.size W w')
    (hg : ∀ W, (eqGuard .neq 116 (.tmp 7) (.tmp 14) A B).run Try.prog W = .ok () W) (hq : ∀ W, (binOp .neq 116 A B).run Try.prog W = .ok (.bool false) W)
    (hl : ∀ W v, v = V → Calls Try.prog 55 #[v] W fun e w' => e = .returned (.bool true) ∧ Below W.heap.size W w') :
    Calls Try.prog 37 #[.agg #[.int .u8 (k : Nat), .int .u8 (f : Nat), c2, c3, c4, c5, c6, c7, c8, c9, c10, c11, c12, c13]] w fun e w' => e = .returned (.int .i64 2) ∧ Below w.heap.size w w' := by
  have HS : Hid (∀ W, Below (w.alloc (.cells #[.int .u8 (k : Nat), .int .u8 (f : Nat), c2, c3, c4, c5, c6, c7, c8, c9, c10, c11, c12, c13] 47)).heap.size (w.alloc (.cells #[.int .u8 (k : Nat), .int .u8 (f : Nat), c2, c3, c4, c5, c6, c7, c8, c9, c10, c11, c12, c13] 47)) W → W.cell? ⟨w.heap.size, 0, none⟩ = some (.int .u8 (k : Nat)) ∧ W.cell? ⟨w.heap.size, 1, none⟩ = some (.int .u8 (f : Nat)) ∧ W.cell? ⟨w.heap.size, 2, none⟩ = some (c2) ∧ W.cell? ⟨w.heap.size, 3, none⟩ = some (c3) ∧ W.cell? ⟨w.heap.size, 4, none⟩ = some (c4) ∧ W.cell? ⟨w.heap.size, 5, none⟩ = some (c5) ∧ W.cell? ⟨w.heap.size, 6, none⟩ = some (c6) ∧ W.cell? ⟨w.heap.size, 7, none⟩ = some (c7) ∧ W.cell? ⟨w.heap.size, 8, none⟩ = some (c8) ∧ W.cell? ⟨w.heap.size, 9, none⟩ = some (c9) ∧ W.cell? ⟨w.heap.size, 10, none⟩ = some (c10) ∧ W.cell? ⟨w.heap.size, 11, none⟩ = some (c11) ∧ W.cell? ⟨w.heap.size, 12, none⟩ = some (c12) ∧ W.cell? ⟨w.heap.size, 13, none⟩ = some (c13)) := by
    show ∀ _, _
    intro W hW
    have hst := (Stc.new w [.int .u8 (k : Nat), .int .u8 (f : Nat), c2, c3, c4, c5, c6, c7, c8, c9, c10, c11, c12, c13] 47 _ rfl).below hW
    exact ⟨hst.cell 0 _ rfl, hst.cell 1 _ rfl, hst.cell 2 _ rfl, hst.cell 3 _ rfl, hst.cell 4 _ rfl, hst.cell 5 _ rfl, hst.cell 6 _ rfl, hst.cell 7 _ rfl, hst.cell 8 _ rfl, hst.cell 9 _ rfl, hst.cell 10 _ rfl, hst.cell 11 _ rfl, hst.cell 12 _ rfl, hst.cell 13 _ rfl⟩
  go_enter Try.func37, Try.ntmps37
  go_wp2_with fail
  refine (hv _ _ rfl).mono ?_
  rintro e w1 ⟨rfl, hb1⟩
  have HB0 : Hid (∀ W, Below (w.alloc (.cells #[.int .u8 (k : Nat), .int .u8 (f : Nat), c2, c3, c4, c5, c6, c7, c8, c9, c10, c11, c12, c13] 47)).heap.size (w.alloc (.cells #[.int .u8 (k : Nat), .int .u8 (f : Nat), c2, c3, c4, c5, c6, c7, c8, c9, c10, c11, c12, c13] 47)) W → Below w.heap.size w W) := fun W hW => ((Below.refl _ _).alloc (Nat.le_refl _) _).trans (hW.mono (by simp))
  generalize hw0 : w.alloc (.cells #[.int .u8 (k : Nat), .int .u8 (f : Nat), c2, c3, c4, c5, c6, c7, c8, c9, c10, c11, c12, c13] 47) = w0 at *
  clear hv hw0
  obtain ⟨s0, s1, s2, s3, s4, s5, s6, s7, s8, s9, s10, s11, s12, s13⟩ := HS.out w1 hb1
  go_wp2_with fail
  have hB := blw_next hb1 (Below.refl _ _).drew
  clear hb1 s0 s1 s2 s3 s4 s5 s6 s7 s8 s9 s10 s11 s12 s13
  obtain ⟨d0, d1, d2, d3, d4, d5, d6, d7, d8, d9, d10, d11, d12, d13⟩ := HS.out _ hB
  go_region_held3 (fun w' => w'.cell? ⟨w.heap.size, 0, none⟩ = some (.int .u8 (k : Nat)) ∧ w'.cell? ⟨w.heap.size, 1, none⟩ = some (.int .u8 (f : Nat)) ∧ w'.cell? ⟨w.heap.size, 2, none⟩ = some (c2) ∧ w'.cell? ⟨w.heap.size, 3, none⟩ = some (c3) ∧ w'.cell? ⟨w.heap.size, 4, none⟩ = some (c4) ∧ w'.cell? ⟨w.heap.size, 5, none⟩ = some (c5) ∧ w'.cell? ⟨w.heap.size, 6, none⟩ = some (c6) ∧ w'.cell? ⟨w.heap.size, 7, none⟩ = some (c7) ∧ w'.cell? ⟨w.heap.size, 8, none⟩ = some (c8) ∧ w'.cell? ⟨w.heap.size, 9, none⟩ = some (c9) ∧ w'.cell? ⟨w.heap.size, 10, none⟩ = some (c10) ∧ w'.cell? ⟨w.heap.size, 11, none⟩ = some (c11) ∧ w'.cell? ⟨w.heap.size, 12, none⟩ = some (c12) ∧ w'.cell? ⟨w.heap.size, 13, none⟩ = some (c13)) (first | exact HS.out _ (by assumption) | exact HS.out _ (blw_next (by assumption) (Below.refl _ _).drew) | fail) (first
    | (go_at_call 53; first
      | (refine (hs _ _ (by rfl)).mono ?_; rintro e wa ⟨rfl, hx⟩; have hB := blw_next (blw_next hB (by first | exact Below.refl _ _ | exact (Below.refl _ _).drew)) hx; obtain ⟨wa0, wa1, wa2, wa3, wa4, wa5, wa6, wa7, wa8, wa9, wa10, wa11, wa12, wa13⟩ := HS.out _ hB; clear hx)
      | (refine (ht _ _ (by rfl)).mono ?_; rintro e wb ⟨rfl, hx⟩; have hB := blw_next (blw_next hB (by first | exact Below.refl _ _ | exact (Below.refl _ _).drew)) hx; obtain ⟨wb0, wb1, wb2, wb3, wb4, wb5, wb6, wb7, wb8, wb9, wb10, wb11, wb12, wb13⟩ := HS.out _ hB; clear hx)
      | fail)
    | (go_at_call 54; refine (hc _ _ _ _ (by rfl) (by rfl) (by rfl)).mono ?_; rintro e wc ⟨rfl, hx⟩; have hB := blw_next (blw_next hB (by first | exact Below.refl _ _ | exact (Below.refl _ _).drew)) hx; obtain ⟨wc0, wc1, wc2, wc3, wc4, wc5, wc6, wc7, wc8, wc9, wc10, wc11, wc12, wc13⟩ := HS.out _ hB; clear hx)
    | (go_at_call 55; refine (hl _ _ (by rfl)).mono ?_; rintro e wd ⟨rfl, hx⟩; have hB := blw_next (blw_next hB (by first | exact Below.refl _ _ | exact (Below.refl _ _).drew)) hx; obtain ⟨wd0, wd1, wd2, wd3, wd4, wd5, wd6, wd7, wd8, wd9, wd10, wd11, wd12, wd13⟩ := HS.out _ hB; clear hx)
    | fail)
  have HBL := (show Hid _ from HB0.out _ hB)
  clear hB HS HB0 hs ht hc hg hq hl
  go_wp2
  go_ret
  exact ⟨rfl, HBL.out⟩
set_option linter.unusedVariables false in
set_option maxRecDepth 100000 in
set_option maxHeartbeats 2000000 in
theorem check_many (k f : Nat) (c2 c3 c4 c5 c6 c7 c8 c9 c10 c11 c12 c13 e2 e3 e4 e5 e6 e7 e8 e9 e10 e11 e12 e13 V A B : Value) (w : World)
    (hv : ∀ W v, v = .agg #[.int .u8 (k : Nat), .int .u8 (f : Nat), c2, c3, c4, c5, c6, c7, c8, c9, c10, c11, c12, c13] → Calls Try.prog 52 #[v] W fun e w' => e = .returned V ∧ Below W.heap.size W w')
    (hs : ∀ W v, v = .agg #[.int .u8 (k : Nat), .int .u8 (f : Nat), c2, c3, c4, c5, c6, c7, c8, c9, c10, c11, c12, c13] → Calls Try.prog 53 #[v] W fun e w' => e = .returned A ∧ Below W.heap.size W w')
    (hc : ∀ W v1 v2 v3, v1 = .int .u8 (k : Nat) → v2 = .int .u8 (f : Nat) → v3 = V → Calls Try.prog 54 #[v1, v2, v3] W fun e w' => e = .returned (.agg #[.int .u8 (k : Nat), .int .u8 (f : Nat), e2, e3, e4, e5, e6, e7, e8, e9, e10, e11, e12, e13]) ∧ Below W.heap.size W w')
    (ht : ∀ W v, v = .agg #[.int .u8 (k : Nat), .int .u8 (f : Nat), e2, e3, e4, e5, e6, e7, e8, e9, e10, e11, e12, e13] → Calls Try.prog 53 #[v] W fun e w' => e = .returned B ∧ Below W.heap.size W w')
    (hg : ∀ W, (eqGuard .neq 116 (.tmp 7) (.tmp 14) A B).run Try.prog W = .ok () W) (hq : ∀ W, (binOp .neq 116 A B).run Try.prog W = .ok (.bool false) W)
    (hl : ∀ W v, v = V → Calls Try.prog 55 #[v] W fun e w' => e = .returned (.bool false) ∧ Below W.heap.size W w')
    (hm : ∀ W v, v = V → Calls Try.prog 56 #[v] W fun e w' => e = .returned (.bool true) ∧ Below W.heap.size W w') :
    Calls Try.prog 37 #[.agg #[.int .u8 (k : Nat), .int .u8 (f : Nat), c2, c3, c4, c5, c6, c7, c8, c9, c10, c11, c12, c13]] w fun e w' => e = .returned (.int .i64 6) ∧ Below w.heap.size w w' := by
  have HS : Hid (∀ W, Below (w.alloc (.cells #[.int .u8 (k : Nat), .int .u8 (f : Nat), c2, c3, c4, c5, c6, c7, c8, c9, c10, c11, c12, c13] 47)).heap.size (w.alloc (.cells #[.int .u8 (k : Nat), .int .u8 (f : Nat), c2, c3, c4, c5, c6, c7, c8, c9, c10, c11, c12, c13] 47)) W → W.cell? ⟨w.heap.size, 0, none⟩ = some (.int .u8 (k : Nat)) ∧ W.cell? ⟨w.heap.size, 1, none⟩ = some (.int .u8 (f : Nat)) ∧ W.cell? ⟨w.heap.size, 2, none⟩ = some (c2) ∧ W.cell? ⟨w.heap.size, 3, none⟩ = some (c3) ∧ W.cell? ⟨w.heap.size, 4, none⟩ = some (c4) ∧ W.cell? ⟨w.heap.size, 5, none⟩ = some (c5) ∧ W.cell? ⟨w.heap.size, 6, none⟩ = some (c6) ∧ W.cell? ⟨w.heap.size, 7, none⟩ = some (c7) ∧ W.cell? ⟨w.heap.size, 8, none⟩ = some (c8) ∧ W.cell? ⟨w.heap.size, 9, none⟩ = some (c9) ∧ W.cell? ⟨w.heap.size, 10, none⟩ = some (c10) ∧ W.cell? ⟨w.heap.size, 11, none⟩ = some (c11) ∧ W.cell? ⟨w.heap.size, 12, none⟩ = some (c12) ∧ W.cell? ⟨w.heap.size, 13, none⟩ = some (c13)) := by
    show ∀ _, _
    intro W hW
    have hst := (Stc.new w [.int .u8 (k : Nat), .int .u8 (f : Nat), c2, c3, c4, c5, c6, c7, c8, c9, c10, c11, c12, c13] 47 _ rfl).below hW
    exact ⟨hst.cell 0 _ rfl, hst.cell 1 _ rfl, hst.cell 2 _ rfl, hst.cell 3 _ rfl, hst.cell 4 _ rfl, hst.cell 5 _ rfl, hst.cell 6 _ rfl, hst.cell 7 _ rfl, hst.cell 8 _ rfl, hst.cell 9 _ rfl, hst.cell 10 _ rfl, hst.cell 11 _ rfl, hst.cell 12 _ rfl, hst.cell 13 _ rfl⟩
  go_enter Try.func37, Try.ntmps37
  go_wp2_with fail
  refine (hv _ _ rfl).mono ?_
  rintro e w1 ⟨rfl, hb1⟩
  have HB0 : Hid (∀ W, Below (w.alloc (.cells #[.int .u8 (k : Nat), .int .u8 (f : Nat), c2, c3, c4, c5, c6, c7, c8, c9, c10, c11, c12, c13] 47)).heap.size (w.alloc (.cells #[.int .u8 (k : Nat), .int .u8 (f : Nat), c2, c3, c4, c5, c6, c7, c8, c9, c10, c11, c12, c13] 47)) W → Below w.heap.size w W) := fun W hW => ((Below.refl _ _).alloc (Nat.le_refl _) _).trans (hW.mono (by simp))
  generalize hw0 : w.alloc (.cells #[.int .u8 (k : Nat), .int .u8 (f : Nat), c2, c3, c4, c5, c6, c7, c8, c9, c10, c11, c12, c13] 47) = w0 at *
  clear hv hw0
  obtain ⟨s0, s1, s2, s3, s4, s5, s6, s7, s8, s9, s10, s11, s12, s13⟩ := HS.out w1 hb1
  go_wp2_with fail
  have hB := blw_next hb1 (Below.refl _ _).drew
  clear hb1 s0 s1 s2 s3 s4 s5 s6 s7 s8 s9 s10 s11 s12 s13
  obtain ⟨d0, d1, d2, d3, d4, d5, d6, d7, d8, d9, d10, d11, d12, d13⟩ := HS.out _ hB
  go_region_held3 (fun w' => w'.cell? ⟨w.heap.size, 0, none⟩ = some (.int .u8 (k : Nat)) ∧ w'.cell? ⟨w.heap.size, 1, none⟩ = some (.int .u8 (f : Nat)) ∧ w'.cell? ⟨w.heap.size, 2, none⟩ = some (c2) ∧ w'.cell? ⟨w.heap.size, 3, none⟩ = some (c3) ∧ w'.cell? ⟨w.heap.size, 4, none⟩ = some (c4) ∧ w'.cell? ⟨w.heap.size, 5, none⟩ = some (c5) ∧ w'.cell? ⟨w.heap.size, 6, none⟩ = some (c6) ∧ w'.cell? ⟨w.heap.size, 7, none⟩ = some (c7) ∧ w'.cell? ⟨w.heap.size, 8, none⟩ = some (c8) ∧ w'.cell? ⟨w.heap.size, 9, none⟩ = some (c9) ∧ w'.cell? ⟨w.heap.size, 10, none⟩ = some (c10) ∧ w'.cell? ⟨w.heap.size, 11, none⟩ = some (c11) ∧ w'.cell? ⟨w.heap.size, 12, none⟩ = some (c12) ∧ w'.cell? ⟨w.heap.size, 13, none⟩ = some (c13)) (first | exact HS.out _ (by assumption) | exact HS.out _ (blw_next (by assumption) (Below.refl _ _).drew) | fail) (first
    | (go_at_call 53; first
      | (refine (hs _ _ (by rfl)).mono ?_; rintro e wa ⟨rfl, hx⟩; have hB := blw_next (blw_next hB (by first | exact Below.refl _ _ | exact (Below.refl _ _).drew)) hx; obtain ⟨wa0, wa1, wa2, wa3, wa4, wa5, wa6, wa7, wa8, wa9, wa10, wa11, wa12, wa13⟩ := HS.out _ hB; clear hx)
      | (refine (ht _ _ (by rfl)).mono ?_; rintro e wb ⟨rfl, hx⟩; have hB := blw_next (blw_next hB (by first | exact Below.refl _ _ | exact (Below.refl _ _).drew)) hx; obtain ⟨wb0, wb1, wb2, wb3, wb4, wb5, wb6, wb7, wb8, wb9, wb10, wb11, wb12, wb13⟩ := HS.out _ hB; clear hx)
      | fail)
    | (go_at_call 54; refine (hc _ _ _ _ (by rfl) (by rfl) (by rfl)).mono ?_; rintro e wc ⟨rfl, hx⟩; have hB := blw_next (blw_next hB (by first | exact Below.refl _ _ | exact (Below.refl _ _).drew)) hx; obtain ⟨wc0, wc1, wc2, wc3, wc4, wc5, wc6, wc7, wc8, wc9, wc10, wc11, wc12, wc13⟩ := HS.out _ hB; clear hx)
    | (go_at_call 55; refine (hl _ _ (by rfl)).mono ?_; rintro e wd ⟨rfl, hx⟩; have hB := blw_next (blw_next hB (by first | exact Below.refl _ _ | exact (Below.refl _ _).drew)) hx; obtain ⟨wd0, wd1, wd2, wd3, wd4, wd5, wd6, wd7, wd8, wd9, wd10, wd11, wd12, wd13⟩ := HS.out _ hB; clear hx)
    | fail)
  have hBL := HB0.out _ hB
  clear hB HS HB0 hs ht hc hg hq hl
  go_wp2_with fail
  refine (hm _ _ rfl).mono ?_
  rintro e w5 ⟨rfl, h5⟩
  have HBL := (show Hid _ from blw_next hBL h5)
  clear hm hBL h5
  go_wp2
  go_ret
  exact ⟨rfl, HBL.out⟩
set_option linter.unusedVariables false in
set_option maxRecDepth 100000 in
set_option maxHeartbeats 2000000 in
theorem check_wide (k f : Nat) (c2 c3 c4 c5 c6 c7 c8 c9 c10 c11 c12 c13 e2 e3 e4 e5 e6 e7 e8 e9 e10 e11 e12 e13 V A B : Value) (w : World)
    (hv : ∀ W v, v = .agg #[.int .u8 (k : Nat), .int .u8 (f : Nat), c2, c3, c4, c5, c6, c7, c8, c9, c10, c11, c12, c13] → Calls Try.prog 52 #[v] W fun e w' => e = .returned V ∧ Below W.heap.size W w')
    (hs : ∀ W v, v = .agg #[.int .u8 (k : Nat), .int .u8 (f : Nat), c2, c3, c4, c5, c6, c7, c8, c9, c10, c11, c12, c13] → Calls Try.prog 53 #[v] W fun e w' => e = .returned A ∧ Below W.heap.size W w')
    (hc : ∀ W v1 v2 v3, v1 = .int .u8 (k : Nat) → v2 = .int .u8 (f : Nat) → v3 = V → Calls Try.prog 54 #[v1, v2, v3] W fun e w' => e = .returned (.agg #[.int .u8 (k : Nat), .int .u8 (f : Nat), e2, e3, e4, e5, e6, e7, e8, e9, e10, e11, e12, e13]) ∧ Below W.heap.size W w')
    (ht : ∀ W v, v = .agg #[.int .u8 (k : Nat), .int .u8 (f : Nat), e2, e3, e4, e5, e6, e7, e8, e9, e10, e11, e12, e13] → Calls Try.prog 53 #[v] W fun e w' => e = .returned B ∧ Below W.heap.size W w')
    (hg : ∀ W, (eqGuard .neq 116 (.tmp 7) (.tmp 14) A B).run Try.prog W = .ok () W) (hq : ∀ W, (binOp .neq 116 A B).run Try.prog W = .ok (.bool false) W)
    (hl : ∀ W v, v = V → Calls Try.prog 55 #[v] W fun e w' => e = .returned (.bool false) ∧ Below W.heap.size W w')
    (hm : ∀ W v, v = V → Calls Try.prog 56 #[v] W fun e w' => e = .returned (.bool false) ∧ Below W.heap.size W w')
    (n : Nat) (hn : 1468 < n) (hp : ∀ W v, v = V → Below w.heap.size w W → Calls Try.prog 57 #[v] W fun e w' => e = .returned (.int .i64 (n : Nat)) ∧ Below W.heap.size W w') :
    Calls Try.prog 37 #[.agg #[.int .u8 (k : Nat), .int .u8 (f : Nat), c2, c3, c4, c5, c6, c7, c8, c9, c10, c11, c12, c13]] w fun e w' => e = .returned (.int .i64 6) ∧ Below w.heap.size w w' := by
  have HS : Hid (∀ W, Below (w.alloc (.cells #[.int .u8 (k : Nat), .int .u8 (f : Nat), c2, c3, c4, c5, c6, c7, c8, c9, c10, c11, c12, c13] 47)).heap.size (w.alloc (.cells #[.int .u8 (k : Nat), .int .u8 (f : Nat), c2, c3, c4, c5, c6, c7, c8, c9, c10, c11, c12, c13] 47)) W → W.cell? ⟨w.heap.size, 0, none⟩ = some (.int .u8 (k : Nat)) ∧ W.cell? ⟨w.heap.size, 1, none⟩ = some (.int .u8 (f : Nat)) ∧ W.cell? ⟨w.heap.size, 2, none⟩ = some (c2) ∧ W.cell? ⟨w.heap.size, 3, none⟩ = some (c3) ∧ W.cell? ⟨w.heap.size, 4, none⟩ = some (c4) ∧ W.cell? ⟨w.heap.size, 5, none⟩ = some (c5) ∧ W.cell? ⟨w.heap.size, 6, none⟩ = some (c6) ∧ W.cell? ⟨w.heap.size, 7, none⟩ = some (c7) ∧ W.cell? ⟨w.heap.size, 8, none⟩ = some (c8) ∧ W.cell? ⟨w.heap.size, 9, none⟩ = some (c9) ∧ W.cell? ⟨w.heap.size, 10, none⟩ = some (c10) ∧ W.cell? ⟨w.heap.size, 11, none⟩ = some (c11) ∧ W.cell? ⟨w.heap.size, 12, none⟩ = some (c12) ∧ W.cell? ⟨w.heap.size, 13, none⟩ = some (c13)) := by
    show ∀ _, _
    intro W hW
    have hst := (Stc.new w [.int .u8 (k : Nat), .int .u8 (f : Nat), c2, c3, c4, c5, c6, c7, c8, c9, c10, c11, c12, c13] 47 _ rfl).below hW
    exact ⟨hst.cell 0 _ rfl, hst.cell 1 _ rfl, hst.cell 2 _ rfl, hst.cell 3 _ rfl, hst.cell 4 _ rfl, hst.cell 5 _ rfl, hst.cell 6 _ rfl, hst.cell 7 _ rfl, hst.cell 8 _ rfl, hst.cell 9 _ rfl, hst.cell 10 _ rfl, hst.cell 11 _ rfl, hst.cell 12 _ rfl, hst.cell 13 _ rfl⟩
  go_enter Try.func37, Try.ntmps37
  go_wp2_with fail
  refine (hv _ _ rfl).mono ?_
  rintro e w1 ⟨rfl, hb1⟩
  have HB0 : Hid (∀ W, Below (w.alloc (.cells #[.int .u8 (k : Nat), .int .u8 (f : Nat), c2, c3, c4, c5, c6, c7, c8, c9, c10, c11, c12, c13] 47)).heap.size (w.alloc (.cells #[.int .u8 (k : Nat), .int .u8 (f : Nat), c2, c3, c4, c5, c6, c7, c8, c9, c10, c11, c12, c13] 47)) W → Below w.heap.size w W) := fun W hW => ((Below.refl _ _).alloc (Nat.le_refl _) _).trans (hW.mono (by simp))
  generalize hw0 : w.alloc (.cells #[.int .u8 (k : Nat), .int .u8 (f : Nat), c2, c3, c4, c5, c6, c7, c8, c9, c10, c11, c12, c13] 47) = w0 at *
  clear hv hw0
  obtain ⟨s0, s1, s2, s3, s4, s5, s6, s7, s8, s9, s10, s11, s12, s13⟩ := HS.out w1 hb1
  go_wp2_with fail
  have hB := blw_next hb1 (Below.refl _ _).drew
  clear hb1 s0 s1 s2 s3 s4 s5 s6 s7 s8 s9 s10 s11 s12 s13
  obtain ⟨d0, d1, d2, d3, d4, d5, d6, d7, d8, d9, d10, d11, d12, d13⟩ := HS.out _ hB
  go_region_held3 (fun w' => w'.cell? ⟨w.heap.size, 0, none⟩ = some (.int .u8 (k : Nat)) ∧ w'.cell? ⟨w.heap.size, 1, none⟩ = some (.int .u8 (f : Nat)) ∧ w'.cell? ⟨w.heap.size, 2, none⟩ = some (c2) ∧ w'.cell? ⟨w.heap.size, 3, none⟩ = some (c3) ∧ w'.cell? ⟨w.heap.size, 4, none⟩ = some (c4) ∧ w'.cell? ⟨w.heap.size, 5, none⟩ = some (c5) ∧ w'.cell? ⟨w.heap.size, 6, none⟩ = some (c6) ∧ w'.cell? ⟨w.heap.size, 7, none⟩ = some (c7) ∧ w'.cell? ⟨w.heap.size, 8, none⟩ = some (c8) ∧ w'.cell? ⟨w.heap.size, 9, none⟩ = some (c9) ∧ w'.cell? ⟨w.heap.size, 10, none⟩ = some (c10) ∧ w'.cell? ⟨w.heap.size, 11, none⟩ = some (c11) ∧ w'.cell? ⟨w.heap.size, 12, none⟩ = some (c12) ∧ w'.cell? ⟨w.heap.size, 13, none⟩ = some (c13)) (first | exact HS.out _ (by assumption) | exact HS.out _ (blw_next (by assumption) (Below.refl _ _).drew) | fail) (first
    | (go_at_call 53; first
      | (refine (hs _ _ (by rfl)).mono ?_; rintro e wa ⟨rfl, hx⟩; have hB := blw_next (blw_next hB (by first | exact Below.refl _ _ | exact (Below.refl _ _).drew)) hx; obtain ⟨wa0, wa1, wa2, wa3, wa4, wa5, wa6, wa7, wa8, wa9, wa10, wa11, wa12, wa13⟩ := HS.out _ hB; clear hx)
      | (refine (ht _ _ (by rfl)).mono ?_; rintro e wb ⟨rfl, hx⟩; have hB := blw_next (blw_next hB (by first | exact Below.refl _ _ | exact (Below.refl _ _).drew)) hx; obtain ⟨wb0, wb1, wb2, wb3, wb4, wb5, wb6, wb7, wb8, wb9, wb10, wb11, wb12, wb13⟩ := HS.out _ hB; clear hx)
      | fail)
    | (go_at_call 54; refine (hc _ _ _ _ (by rfl) (by rfl) (by rfl)).mono ?_; rintro e wc ⟨rfl, hx⟩; have hB := blw_next (blw_next hB (by first | exact Below.refl _ _ | exact (Below.refl _ _).drew)) hx; obtain ⟨wc0, wc1, wc2, wc3, wc4, wc5, wc6, wc7, wc8, wc9, wc10, wc11, wc12, wc13⟩ := HS.out _ hB; clear hx)
    | (go_at_call 55; refine (hl _ _ (by rfl)).mono ?_; rintro e wd ⟨rfl, hx⟩; have hB := blw_next (blw_next hB (by first | exact Below.refl _ _ | exact (Below.refl _ _).drew)) hx; obtain ⟨wd0, wd1, wd2, wd3, wd4, wd5, wd6, wd7, wd8, wd9, wd10, wd11, wd12, wd13⟩ := HS.out _ hB; clear hx)
    | fail)
  have hBL := HB0.out _ hB
  clear hB HS HB0 hs ht hc hg hq hl
  have hn1 : (1468 : Int) < (n : Int) := by omega
  go_wp2_with fail
  refine (hm _ _ rfl).mono ?_
  rintro e w5 ⟨rfl, h5⟩
  have hBL := blw_next hBL h5
  clear hm h5
  go_wp2_with fail
  refine (hp _ _ rfl (by first | assumption | exact blw_next (by assumption) (Below.refl _ _).drew)).mono ?_
  rintro e w6 ⟨rfl, h6⟩
  have HBL := (show Hid _ from blw_next hBL h6)
  clear hp hBL h6
  go_wp2
  go_ret
  exact ⟨rfl, HBL.out⟩
set_option linter.unusedVariables false in
set_option maxRecDepth 100000 in
set_option maxHeartbeats 2000000 in
theorem check_fits (k f : Nat) (c2 c3 c4 c5 c6 c7 c8 c9 c10 c11 c12 c13 e2 e3 e4 e5 e6 e7 e8 e9 e10 e11 e12 e13 V A B : Value) (w : World)
    (hv : ∀ W v, v = .agg #[.int .u8 (k : Nat), .int .u8 (f : Nat), c2, c3, c4, c5, c6, c7, c8, c9, c10, c11, c12, c13] → Calls Try.prog 52 #[v] W fun e w' => e = .returned V ∧ Below W.heap.size W w')
    (hs : ∀ W v, v = .agg #[.int .u8 (k : Nat), .int .u8 (f : Nat), c2, c3, c4, c5, c6, c7, c8, c9, c10, c11, c12, c13] → Calls Try.prog 53 #[v] W fun e w' => e = .returned A ∧ Below W.heap.size W w')
    (hc : ∀ W v1 v2 v3, v1 = .int .u8 (k : Nat) → v2 = .int .u8 (f : Nat) → v3 = V → Calls Try.prog 54 #[v1, v2, v3] W fun e w' => e = .returned (.agg #[.int .u8 (k : Nat), .int .u8 (f : Nat), e2, e3, e4, e5, e6, e7, e8, e9, e10, e11, e12, e13]) ∧ Below W.heap.size W w')
    (ht : ∀ W v, v = .agg #[.int .u8 (k : Nat), .int .u8 (f : Nat), e2, e3, e4, e5, e6, e7, e8, e9, e10, e11, e12, e13] → Calls Try.prog 53 #[v] W fun e w' => e = .returned B ∧ Below W.heap.size W w')
    (hg : ∀ W, (eqGuard .neq 116 (.tmp 7) (.tmp 14) A B).run Try.prog W = .ok () W) (hq : ∀ W, (binOp .neq 116 A B).run Try.prog W = .ok (.bool false) W)
    (hl : ∀ W v, v = V → Calls Try.prog 55 #[v] W fun e w' => e = .returned (.bool false) ∧ Below W.heap.size W w')
    (hm : ∀ W v, v = V → Calls Try.prog 56 #[v] W fun e w' => e = .returned (.bool false) ∧ Below W.heap.size W w')
    (n : Nat) (hn : n ≤ 1468) (hp : ∀ W v, v = V → Below w.heap.size w W → Calls Try.prog 57 #[v] W fun e w' => e = .returned (.int .i64 (n : Nat)) ∧ Below W.heap.size W w') :
    Calls Try.prog 37 #[.agg #[.int .u8 (k : Nat), .int .u8 (f : Nat), c2, c3, c4, c5, c6, c7, c8, c9, c10, c11, c12, c13]] w fun e w' => e = .returned (.int .i64 0) ∧ Below w.heap.size w w' := by
  have HS : Hid (∀ W, Below (w.alloc (.cells #[.int .u8 (k : Nat), .int .u8 (f : Nat), c2, c3, c4, c5, c6, c7, c8, c9, c10, c11, c12, c13] 47)).heap.size (w.alloc (.cells #[.int .u8 (k : Nat), .int .u8 (f : Nat), c2, c3, c4, c5, c6, c7, c8, c9, c10, c11, c12, c13] 47)) W → W.cell? ⟨w.heap.size, 0, none⟩ = some (.int .u8 (k : Nat)) ∧ W.cell? ⟨w.heap.size, 1, none⟩ = some (.int .u8 (f : Nat)) ∧ W.cell? ⟨w.heap.size, 2, none⟩ = some (c2) ∧ W.cell? ⟨w.heap.size, 3, none⟩ = some (c3) ∧ W.cell? ⟨w.heap.size, 4, none⟩ = some (c4) ∧ W.cell? ⟨w.heap.size, 5, none⟩ = some (c5) ∧ W.cell? ⟨w.heap.size, 6, none⟩ = some (c6) ∧ W.cell? ⟨w.heap.size, 7, none⟩ = some (c7) ∧ W.cell? ⟨w.heap.size, 8, none⟩ = some (c8) ∧ W.cell? ⟨w.heap.size, 9, none⟩ = some (c9) ∧ W.cell? ⟨w.heap.size, 10, none⟩ = some (c10) ∧ W.cell? ⟨w.heap.size, 11, none⟩ = some (c11) ∧ W.cell? ⟨w.heap.size, 12, none⟩ = some (c12) ∧ W.cell? ⟨w.heap.size, 13, none⟩ = some (c13)) := by
    show ∀ _, _
    intro W hW
    have hst := (Stc.new w [.int .u8 (k : Nat), .int .u8 (f : Nat), c2, c3, c4, c5, c6, c7, c8, c9, c10, c11, c12, c13] 47 _ rfl).below hW
    exact ⟨hst.cell 0 _ rfl, hst.cell 1 _ rfl, hst.cell 2 _ rfl, hst.cell 3 _ rfl, hst.cell 4 _ rfl, hst.cell 5 _ rfl, hst.cell 6 _ rfl, hst.cell 7 _ rfl, hst.cell 8 _ rfl, hst.cell 9 _ rfl, hst.cell 10 _ rfl, hst.cell 11 _ rfl, hst.cell 12 _ rfl, hst.cell 13 _ rfl⟩
  go_enter Try.func37, Try.ntmps37
  go_wp2_with fail
  refine (hv _ _ rfl).mono ?_
  rintro e w1 ⟨rfl, hb1⟩
  have HB0 : Hid (∀ W, Below (w.alloc (.cells #[.int .u8 (k : Nat), .int .u8 (f : Nat), c2, c3, c4, c5, c6, c7, c8, c9, c10, c11, c12, c13] 47)).heap.size (w.alloc (.cells #[.int .u8 (k : Nat), .int .u8 (f : Nat), c2, c3, c4, c5, c6, c7, c8, c9, c10, c11, c12, c13] 47)) W → Below w.heap.size w W) := fun W hW => ((Below.refl _ _).alloc (Nat.le_refl _) _).trans (hW.mono (by simp))
  generalize hw0 : w.alloc (.cells #[.int .u8 (k : Nat), .int .u8 (f : Nat), c2, c3, c4, c5, c6, c7, c8, c9, c10, c11, c12, c13] 47) = w0 at *
  clear hv hw0
  obtain ⟨s0, s1, s2, s3, s4, s5, s6, s7, s8, s9, s10, s11, s12, s13⟩ := HS.out w1 hb1
  go_wp2_with fail
  have hB := blw_next hb1 (Below.refl _ _).drew
  clear hb1 s0 s1 s2 s3 s4 s5 s6 s7 s8 s9 s10 s11 s12 s13
  obtain ⟨d0, d1, d2, d3, d4, d5, d6, d7, d8, d9, d10, d11, d12, d13⟩ := HS.out _ hB
  go_region_held3 (fun w' => w'.cell? ⟨w.heap.size, 0, none⟩ = some (.int .u8 (k : Nat)) ∧ w'.cell? ⟨w.heap.size, 1, none⟩ = some (.int .u8 (f : Nat)) ∧ w'.cell? ⟨w.heap.size, 2, none⟩ = some (c2) ∧ w'.cell? ⟨w.heap.size, 3, none⟩ = some (c3) ∧ w'.cell? ⟨w.heap.size, 4, none⟩ = some (c4) ∧ w'.cell? ⟨w.heap.size, 5, none⟩ = some (c5) ∧ w'.cell? ⟨w.heap.size, 6, none⟩ = some (c6) ∧ w'.cell? ⟨w.heap.size, 7, none⟩ = some (c7) ∧ w'.cell? ⟨w.heap.size, 8, none⟩ = some (c8) ∧ w'.cell? ⟨w.heap.size, 9, none⟩ = some (c9) ∧ w'.cell? ⟨w.heap.size, 10, none⟩ = some (c10) ∧ w'.cell? ⟨w.heap.size, 11, none⟩ = some (c11) ∧ w'.cell? ⟨w.heap.size, 12, none⟩ = some (c12) ∧ w'.cell? ⟨w.heap.size, 13, none⟩ = some (c13)) (first | exact HS.out _ (by assumption) | exact HS.out _ (blw_next (by assumption) (Below.refl _ _).drew) | fail) (first
    | (go_at_call 53; first
      | (refine (hs _ _ (by rfl)).mono ?_; rintro e wa ⟨rfl, hx⟩; have hB := blw_next (blw_next hB (by first | exact Below.refl _ _ | exact (Below.refl _ _).drew)) hx; obtain ⟨wa0, wa1, wa2, wa3, wa4, wa5, wa6, wa7, wa8, wa9, wa10, wa11, wa12, wa13⟩ := HS.out _ hB; clear hx)
      | (refine (ht _ _ (by rfl)).mono ?_; rintro e wb ⟨rfl, hx⟩; have hB := blw_next (blw_next hB (by first | exact Below.refl _ _ | exact (Below.refl _ _).drew)) hx; obtain ⟨wb0, wb1, wb2, wb3, wb4, wb5, wb6, wb7, wb8, wb9, wb10, wb11, wb12, wb13⟩ := HS.out _ hB; clear hx)
      | fail)
    | (go_at_call 54; refine (hc _ _ _ _ (by rfl) (by rfl) (by rfl)).mono ?_; rintro e wc ⟨rfl, hx⟩; have hB := blw_next (blw_next hB (by first | exact Below.refl _ _ | exact (Below.refl _ _).drew)) hx; obtain ⟨wc0, wc1, wc2, wc3, wc4, wc5, wc6, wc7, wc8, wc9, wc10, wc11, wc12, wc13⟩ := HS.out _ hB; clear hx)
    | (go_at_call 55; refine (hl _ _ (by rfl)).mono ?_; rintro e wd ⟨rfl, hx⟩; have hB := blw_next (blw_next hB (by first | exact Below.refl _ _ | exact (Below.refl _ _).drew)) hx; obtain ⟨wd0, wd1, wd2, wd3, wd4, wd5, wd6, wd7, wd8, wd9, wd10, wd11, wd12, wd13⟩ := HS.out _ hB; clear hx)
    | fail)
  have hBL := HB0.out _ hB
  clear hB HS HB0 hs ht hc hg hq hl
  have hn1 : ¬ (1468 : Int) < (n : Int) := by omega
  go_wp2_with fail
  refine (hm _ _ rfl).mono ?_
  rintro e w5 ⟨rfl, h5⟩
  have hBL := blw_next hBL h5
  clear hm h5
  go_wp2_with fail
  refine (hp _ _ rfl (by first | assumption | exact blw_next (by assumption) (Below.refl _ _).drew)).mono ?_
  rintro e w6 ⟨rfl, h6⟩
  have HBL := (show Hid _ from blw_next hBL h6)
  clear hp hBL h6
  go_wp2
  go_ret
  exact ⟨rfl, HBL.out⟩
end Go.Proofs.Ytjaheelgcjafcaa
