/- Whatever ring and script: the walk of law07.RingWhole ends with true. -/
import Derived.Test.YtmmbnikjlklflaaRgO
import Derived.DeepKeys
namespace Go.Proofs.Ytmmbnikjlklflaa
open Go.RowKit
theorem mapM_some3 {α β : Type} (f : α → Option β) (g : α → β) : ∀ l : List α, (∀ x ∈ l, f x = some (g x)) → l.mapM f = some (l.map g)
  | [], _ => rfl
  | x :: l, h => by
    rw [List.mapM_cons, h x (by simp), mapM_some3 f g l (fun y hy => h y (by simp [hy]))]; rfl
theorem key1 (x : Nat) (hx : x ≤ 64) : Try.prog.keyLits 2 3 [.int .i64 (x : Nat)] = some [Lit.int .i64 (x : Nat)] := by
  unfold Program.keyLits
  rw [Try.underlying3]
  simp [Lit.wf, IntKind.min, IntKind.max, IntKind.signed, IntKind.bits]
  omega
theorem eq3 (x y z : Nat) (hx : x ≤ 64) (hy : y ≤ 64) (hz : z ≤ 64) (W : World) : (Op.equalIn 10000 43 (.agg #[.int .i64 (x : Nat), .int .i64 (y : Nat), .int .i64 (z : Nat)]) (.agg #[.int .i64 (x : Nat), .int .i64 (y : Nat), .int .i64 (z : Nat)])).run Try.prog W = .ok true W := by
  have hc : Try.prog.cellsOf 43 = 3 := by kernel_rfl
  have h8 : Try.prog.cellsOf 3 = 1 := by kernel_rfl
  have he : ∀ i ∈ List.range 3, Try.prog.keyLits 2 3 (([.int .i64 (x : Nat), .int .i64 (y : Nat), .int .i64 (z : Nat)].drop (i * 1)).take 1) = some [Lit.int .i64 (([x, y, z].getD i 0 : Nat))] := by
    intro i hi
    have hi' := List.mem_range.1 hi
    rcases (show i = 0 ∨ i = 1 ∨ i = 2 by omega) with rfl | rfl | rfl
    · exact key1 x hx
    · exact key1 y hy
    · exact key1 z hz
  obtain ⟨la, hla⟩ : ∃ la, Try.prog.keyLits 3 43 (Value.agg #[.int .i64 (x : Nat), .int .i64 (y : Nat), .int .i64 (z : Nat)]).cells.toList = some la := by
    refine ⟨((List.range 3).map fun i => [Lit.int .i64 (([x, y, z].getD i 0 : Nat))]).flatten, ?_⟩
    show Try.prog.keyLits 3 43 [.int .i64 (x : Nat), .int .i64 (y : Nat), .int .i64 (z : Nat)] = _
    unfold Program.keyLits
    rw [Try.underlying43]
    simp only [hc, h8, List.length_cons, List.length_nil, if_true]
    rw [mapM_some3 _ _ _ he]
    rfl
  have hf : (Value.agg #[.int .i64 (x : Nat), .int .i64 (y : Nat), .int .i64 (z : Nat)]).formed Try.prog 43 = true := by
    unfold Value.formed
    rw [Try.underlying43]
    simp [hc]
  obtain ⟨r, h1, h2⟩ := run_equalIn_deep (P := Try.prog) 9997 3 43 (by kernel_rfl) W 3 3 _ _ la la hf hf hla hla
  rw [h2.2 rfl] at h1
  exact h1
/-- The three counters. -/
structure Seen (w : World) (sb s0 s1 s2 : Nat) : Prop where
  lt : sb < w.heap.size
  c0 : w.cell? ⟨sb, 0, none⟩ = some (.int .i64 (s0 : Nat))
  c1 : w.cell? ⟨sb, 1, none⟩ = some (.int .i64 (s1 : Nat))
  c2 : w.cell? ⟨sb, 2, none⟩ = some (.int .i64 (s2 : Nat))
  free : ∀ i, w.frozen? ⟨sb, i, none⟩ = false
theorem Seen.below {w w' : World} {sb s0 s1 s2 : Nat} (h : Seen w sb s0 s1 s2) (hb : Below w.heap.size w w') : Seen w' sb s0 s1 s2 :=
  ⟨Nat.lt_of_lt_of_le h.lt hb.size, (hb.cell (p := ⟨sb, 0, none⟩) h.lt).trans h.c0, (hb.cell (p := ⟨sb, 1, none⟩) h.lt).trans h.c1, (hb.cell (p := ⟨sb, 2, none⟩) h.lt).trans h.c2, fun i => (hb.frozen (p := ⟨sb, i, none⟩) h.lt).trans (h.free i)⟩
theorem Seen.up0 {w : World} {sb s0 s1 s2 : Nat} (h : Seen w sb s0 s1 s2) : Seen (w.setCell ⟨sb, 0, none⟩ (.int .i64 ((s0 : Int) + 1))) sb (s0 + 1) s1 s2 :=
  ⟨by simp [World.setCell]; exact h.lt, by rw [World.cell?_setCell_same' _ _ _ (by rw [h.c0]; rfl)]; simp, by rw [World.cell?_setCell_other _ _ _ _ (by intro e; injection e with _ e; omega)]; exact h.c1, by rw [World.cell?_setCell_other _ _ _ _ (by intro e; injection e with _ e; omega)]; exact h.c2, fun i => by rw [World.frozen?_setCell]; exact h.free i⟩
theorem Seen.up1 {w : World} {sb s0 s1 s2 : Nat} (h : Seen w sb s0 s1 s2) : Seen (w.setCell ⟨sb, 1, none⟩ (.int .i64 ((s1 : Int) + 1))) sb s0 (s1 + 1) s2 :=
  ⟨by simp [World.setCell]; exact h.lt, by rw [World.cell?_setCell_other _ _ _ _ (by intro e; injection e with _ e; omega)]; exact h.c0, by rw [World.cell?_setCell_same' _ _ _ (by rw [h.c1]; rfl)]; simp, by rw [World.cell?_setCell_other _ _ _ _ (by intro e; injection e with _ e; omega)]; exact h.c2, fun i => by rw [World.frozen?_setCell]; exact h.free i⟩
theorem Seen.up2 {w : World} {sb s0 s1 s2 : Nat} (h : Seen w sb s0 s1 s2) : Seen (w.setCell ⟨sb, 2, none⟩ (.int .i64 ((s2 : Int) + 1))) sb s0 s1 (s2 + 1) :=
  ⟨by simp [World.setCell]; exact h.lt, by rw [World.cell?_setCell_other _ _ _ _ (by intro e; injection e with _ e; omega)]; exact h.c0, by rw [World.cell?_setCell_other _ _ _ _ (by intro e; injection e with _ e; omega)]; exact h.c1, by rw [World.cell?_setCell_same' _ _ _ (by rw [h.c2]; rfl)]; simp, fun i => by rw [World.frozen?_setCell]; exact h.free i⟩
set_option maxRecDepth 100000 in
set_option maxHeartbeats 8000000 in
theorem walk_RingWhole (nn : Nat) (a : Option Addr) (n c : Nat) (dd : List Dd) (w : World) (hnn : nn < 256) (hl : SlG w a n c dd) :
    Calls Try.prog 5 #[.int .u8 (nn : Nat), .slice a n c] w fun e w' => e = .returned (.bool true) ∧ Below w.heap.size w w' := by
  obtain ⟨N, hN⟩ : ∃ N, N = 1 + nn % 64 := ⟨_, rfl⟩
  have hN1 : 1 ≤ N := by omega
  have hN2 : N ≤ 64 := by omega
  have hNN : (1 : Int) + (nn : Int) % 64 = (N : Int) := by omega
  have hplay := fun v hv => play_any N a n c dd w hN1 hN2 hl v hv
  clear hN
  go_enter Try.func5, Try.ntmps5
  go_wp2_with fail
  refine (hplay _ (by rfl)).mono ?_
  rintro e w1 ⟨⟨p, g, q, gv, gn, tk, d, rs, rfl, hB, hd, hg⟩, hb1⟩
  clear hplay hl
  have hsum := hB.x.sum
  have hgv := hB.x.gvl
  have hcnt := count_any _ _ p g N gv tk d rs w1 hB.x
  obtain ⟨f, hf⟩ : ∃ f, f = rs.length := ⟨_, rfl⟩
  have hown : ∀ i, i < N → ∀ W, Below w1.heap.size w1 W → ∀ v, v = .int .i64 (i : Nat) → Calls Try.prog 16 #[.pointer (some ⟨p, 0, none⟩), v] W fun e w' => e = .returned (.tuple #[.int .i64 (ownV N gv tk f i : Nat), .int .i64 0]) ∧ (Below w1.heap.size w1 w' ∧ Below W.heap.size W w') := by
    intro i hi W hW v hv
    subst hv
    rw [hf]
    exact (owner_any _ _ p g N gv tk d rs i W (hB.x.below hW) hi).mono fun e w' ⟨h1, h2⟩ => ⟨h1, hW.trans (h2.mono hW.size), h2⟩
  rw [← hf] at hsum hcnt
  obtain ⟨A, hA⟩ : ∃ A, A = N - tk - f := ⟨_, rfl⟩
  rw [← hA] at hcnt
  have hA64 : A ≤ 64 := by omega
  have hf64 : f ≤ 64 := by omega
  have htk64 : tk ≤ 64 := by omega
  have hsI : (A : Int) + (f : Int) + (tk : Int) = (N : Int) := by omega
  have HTN : Hid (∀ i, i < N → ownV N gv tk f i ≠ ownV N gv tk f (prevI N i) → marks N gv tk f i + 1 ≤ marks N gv tk f (i + 1) ∧ ¬ (ownV N gv tk f i = 2 ∧ ownV N gv tk f (prevI N i) = 1 ∧ 0 < A) ∧ ¬ (ownV N gv tk f i = 1 ∧ ownV N gv tk f (prevI N i) = 0 ∧ 0 < tk) ∧ ¬ (ownV N gv tk f i = 0 ∧ ownV N gv tk f (prevI N i) = 2 ∧ 0 < f)) := fun i hi hne => by
    rw [hA]; exact own_turn N gv tk f i hgv hi hsum hne
  clear hf hB hA
  go_wp2_with fail
  refine hcnt.mono ?_
  rintro e w2 ⟨rfl, hb2⟩
  clear hcnt
  obtain ⟨wS, hwS⟩ : ∃ wS, wS = w2.alloc (.cells #[.int .i64 0, .int .i64 0, .int .i64 0] 43) := ⟨_, rfl⟩
  have hbS : Below w2.heap.size w2 wS := by rw [hwS]; exact (Below.refl _ _).alloc (Nat.le_refl _) _
  have hSn : Seen wS w2.heap.size 0 0 0 := by
    have hc : ∀ i, wS.cell? ⟨w2.heap.size, i, none⟩ = (#[.int .i64 0, .int .i64 0, .int .i64 0] : Array Value)[i]? := fun i => by rw [hwS, World.cell?_alloc_mark]
    exact ⟨by rw [hwS]; simp, hc 0, hc 1, hc 2, fun i => by rw [hwS]; exact free_new _ _ _ _⟩
  have hb1S : Below w1.heap.size w1 wS := hb2.trans (hbS.mono hb2.size)
  have hs12 := hb2.size
  go_wp2_with fail
  rw [← hwS]
  clear hwS hbS
  refine (hown (N - 1) (by omega) wS hb1S _ (by congr 1; omega)).mono ?_
  rintro e w3 ⟨rfl, hb3, hbS3⟩
  have hSn3 := hSn.below hbS3
  have hP0 : ownV N gv tk f (N - 1) = ownV N gv tk f (prevI N 0) := by unfold prevI; rfl
  rw [hP0]
  clear hSn hbS3 hb2 hP0 hb1S
  obtain ⟨sb, hsb⟩ : ∃ sb, sb = w2.heap.size := ⟨_, rfl⟩
  have hsb1 : w1.heap.size ≤ sb := by omega
  rw [← hsb] at hSn3 ⊢
  clear hsb hs12
  go_wp2
  go_loopw [13, 15, 17] (fun tv lv iv wr => ∃ (i t s0 s1 s2 : Nat), tv = .int .i64 (t : Nat) ∧ lv = .int .i64 (ownV N gv tk f (prevI N i) : Nat) ∧ iv = .int .i64 (i : Nat) ∧ i ≤ N ∧ t ≤ marks N gv tk f i ∧ s2 = cntV N gv i tk ∧ s2 + s1 = cntV N gv i (tk + f) ∧ s0 + s1 + s2 = i ∧ Seen wr sb s0 s1 s2 ∧ Below w1.heap.size w1 wr) (fun _ _ iv _ => N - (intOf iv).toNat)
  case atStart => exact ⟨0, 0, 0, 0, 0, rfl, rfl, rfl, by omega, by omega, (cnt_zero _ _ _).symm, (cnt_zero _ _ _).symm, rfl, hSn3, hb3⟩
  case round =>
    obtain ⟨i, t, s0, s1, s2, rfl, rfl, rfl, hi, htm, h2, h21, h012, hSn, hbel⟩ := hrel
    clear hSn3 hb3
    by_cases hiN : i < N
    · have hi1 : (i : Int) < (N : Int) := by omega
      have hO := hown i hiN wr hbel (.int .i64 (i : Nat)) rfl
      have hT := HTN.out i hiN
      have hle := own_same N gv tk f i
      have hm3 := marks_le N gv tk f i
      have hV := own_le N gv tk f i
      have hL := own_le N gv tk f (prevI N i)
      have hc2 := cnt_step N gv i tk hgv hiN (by omega)
      have hc21 := cnt_step N gv i (tk + f) hgv hiN hsum
      have hVe := ownV_eq N gv tk f i hgv hiN
      have hPr : prevI N (i + 1) = i := by unfold prevI; rw [if_neg (by omega)]; omega
      have HNX : Hid (∀ (tv : Value) (t' z0 z1 z2 : Nat) W, tv = .int .i64 (t' : Nat) → t' ≤ marks N gv tk f (i + 1) → z2 = cntV N gv (i + 1) tk → z2 + z1 = cntV N gv (i + 1) (tk + f) → z0 + z1 + z2 = i + 1 → Seen W sb z0 z1 z2 → Below w1.heap.size w1 W → ∃ (j t s0 s1 s2 : Nat), tv = .int .i64 (t : Nat) ∧ Value.int .i64 (ownV N gv tk f i : Nat) = .int .i64 (ownV N gv tk f (prevI N j) : Nat) ∧ Value.int .i64 ((i : Int) + 1) = .int .i64 (j : Nat) ∧ j ≤ N ∧ t ≤ marks N gv tk f j ∧ s2 = cntV N gv j tk ∧ s2 + s1 = cntV N gv j (tk + f) ∧ s0 + s1 + s2 = j ∧ Seen W sb s0 s1 s2 ∧ Below w1.heap.size w1 W) := by
        show ∀ _, _
        intro tv t' z0 z1 z2 W q0 q1 q2 q3 q4 q5 q6
        exact ⟨i + 1, t', z0, z1, z2, q0, by rw [hPr], by go_num, by omega, q1, q2, q3, q4, q5, q6⟩
      generalize ownV N gv tk f i = V at *
      generalize ownV N gv tk f (prevI N i) = L at *
      generalize marks N gv tk f i = m at *
      generalize marks N gv tk f (i + 1) = m' at *
      generalize cntV N gv i tk = n2 at *
      generalize cntV N gv i (tk + f) = n21 at *
      generalize cntV N gv (i + 1) tk = n2' at *
      generalize cntV N gv (i + 1) (tk + f) = n21' at *
      generalize bhV N gv i = bh at *
      go_wp2_with fail
      refine hO.mono ?_
      rintro e w4 ⟨rfl, hb4, hb4r⟩
      have hS4 := hSn.below hb4r
      have k0 := hS4.c0
      have k1 := hS4.c1
      have k2 := hS4.c2
      have f0 := hS4.free 0
      have f1 := hS4.free 1
      have f2 := hS4.free 2
      have HU : Hid (Seen (w4.setCell ⟨sb, 0, none⟩ (.int .i64 ((s0 : Int) + 1))) sb (s0 + 1) s1 s2 ∧ Seen (w4.setCell ⟨sb, 1, none⟩ (.int .i64 ((s1 : Int) + 1))) sb s0 (s1 + 1) s2 ∧ Seen (w4.setCell ⟨sb, 2, none⟩ (.int .i64 ((s2 : Int) + 1))) sb s0 s1 (s2 + 1)) := ⟨hS4.up0, hS4.up1, hS4.up2⟩
      have HBS : Hid (∀ k v, Below w1.heap.size w1 (w4.setCell ⟨sb, k, none⟩ v)) := fun k v => hb4.setCell (p := ⟨sb, k, none⟩) hsb1 v
      have hs64 : s0 ≤ 64 ∧ s1 ≤ 64 ∧ s2 ≤ 64 := by omega
      obtain ⟨s064, s164, s264⟩ := hs64
      have ht3 : t ≤ 3 := by omega
      clear hO hb4 hb4r hS4 hSn hbel hown HTN
      have z1 : V = 2 → L = 1 → A = 0 := fun e1 e2 => by have := (hT (by omega)).2.1; omega
      have z2 : V = 1 → L = 0 → tk = 0 := fun e1 e2 => by have := (hT (by omega)).2.2.1; omega
      have z3 : V = 0 → L = 2 → f = 0 := fun e1 e2 => by have := (hT (by omega)).2.2.2; omega
      have zt : V ≠ L → t + 1 ≤ m' := fun e1 => by have := (hT e1).1; omega
      have zs : t ≤ m' := by omega
      have ZT := (show Hid _ from zt)
      have ZS := (show Hid _ from zs)
      have Z1 : Hid (V = 2 → L = 1 → decide ((0 : Int) < (A : Int)) = false ∧ decide (0 < A) = false) := fun e1 e2 => by have := z1 e1 e2; simp [this]
      have Z2 : Hid (V = 1 → L = 0 → decide ((0 : Int) < (tk : Int)) = false ∧ decide (0 < tk) = false) := fun e1 e2 => by have := z2 e1 e2; simp [this]
      have Z3 : Hid (V = 0 → L = 2 → decide ((0 : Int) < (f : Int)) = false ∧ decide (0 < f) = false) := fun e1 e2 => by have := z3 e1 e2; simp [this]
      have HC : Hid ((V = 0 → s2 = n2' ∧ s2 + s1 = n21' ∧ s0 + 1 + s1 + s2 = i + 1) ∧ (V = 1 → s2 = n2' ∧ s2 + (s1 + 1) = n21' ∧ s0 + (s1 + 1) + s2 = i + 1) ∧ (V = 2 → s2 + 1 = n2' ∧ s2 + 1 + s1 = n21' ∧ s0 + s1 + (s2 + 1) = i + 1)) := by
        refine ⟨fun e => ?_, fun e => ?_, fun e => ?_⟩
        all_goals
          rw [e] at hVe
          split at hVe <;> (try split at hVe) <;> (try split at hc2) <;> (try split at hc21) <;> omega
      clear hT z1 z2 z3 zt zs hVe hc2 hc21 hle hm3 htm h2 h21 h012 hPr
      rcases (show V = 0 ∨ V = 1 ∨ V = 2 by omega) with rfl | rfl | rfl <;> rcases (show L = 0 ∨ L = 1 ∨ L = 2 by omega) with rfl | rfl | rfl
      all_goals
        try obtain ⟨y1, y2⟩ := Z1.out rfl rfl
        try obtain ⟨y1, y2⟩ := Z2.out rfl rfl
        try obtain ⟨y1, y2⟩ := Z3.out rfl rfl
        go_wp2
        go_roundw
        case rel =>
          first
          | (refine HNX.out _ (t) s0 (s1 + 1) s2 _ rfl ZS.out (HC.out.2.1 (by first | rfl | trivial)).1 (HC.out.2.1 (by first | rfl | trivial)).2.1 (HC.out.2.1 (by first | rfl | trivial)).2.2 HU.out.2.1 (HBS.out _ _))
          | (refine HNX.out _ (t + 1) s0 (s1 + 1) s2 _ (by go_num) (ZT.out (by first | decide | trivial | simp)) (HC.out.2.1 (by first | rfl | trivial)).1 (HC.out.2.1 (by first | rfl | trivial)).2.1 (HC.out.2.1 (by first | rfl | trivial)).2.2 HU.out.2.1 (HBS.out _ _))
          | (refine HNX.out _ (t) s0 s1 (s2 + 1) _ rfl ZS.out (HC.out.2.2 (by first | rfl | trivial)).1 (HC.out.2.2 (by first | rfl | trivial)).2.1 (HC.out.2.2 (by first | rfl | trivial)).2.2 HU.out.2.2 (HBS.out _ _))
          | (refine HNX.out _ (t + 1) s0 s1 (s2 + 1) _ (by go_num) (ZT.out (by first | decide | trivial | simp)) (HC.out.2.2 (by first | rfl | trivial)).1 (HC.out.2.2 (by first | rfl | trivial)).2.1 (HC.out.2.2 (by first | rfl | trivial)).2.2 HU.out.2.2 (HBS.out _ _))
          | (refine HNX.out _ (t + 1) (s0 + 1) s1 s2 _ (by go_num) (ZT.out (by first | decide | trivial | simp)) (HC.out.1 (by first | rfl | trivial)).1 (HC.out.1 (by first | rfl | trivial)).2.1 (HC.out.1 (by first | rfl | trivial)).2.2 HU.out.1 (HBS.out _ _))
          | (refine HNX.out _ (t) (s0 + 1) s1 s2 _ rfl ZS.out (HC.out.1 (by first | rfl | trivial)).1 (HC.out.1 (by first | rfl | trivial)).2.1 (HC.out.1 (by first | rfl | trivial)).2.2 HU.out.1 (HBS.out _ _))
        case measure => simp [intOf]; omega
    · have hi1 : ¬ (i : Int) < (N : Int) := by omega
      obtain rfl : i = N := by omega
      rw [cnt_all i gv tk hgv (by omega)] at h2
      rw [cnt_all i gv (tk + f) hgv hsum] at h21
      have ht3 : t ≤ 3 := Nat.le_trans htm (marks_le _ _ _ _ _)
      have ht3i : (t : Int) ≤ 3 := by omega
      obtain rfl : s2 = tk := h2
      obtain rfl : s1 = f := by omega
      obtain rfl : s0 = A := by omega
      clear hown HTN htm
      go_wp2_with fail
      refine (live7_any wr).mono ?_
      rintro e w9 ⟨rfl, hb9⟩
      have hS9 := hSn.below hb9
      have k0 := hS9.c0
      have k1 := hS9.c1
      have k2 := hS9.c2
      have he := eq3 s0 s1 s2 hA64 hf64 htk64 w9
      have he2 := fun q => eq3 s0 s1 s2 hA64 hf64 htk64 (w9.drewN q)
      have HB := (show Hid _ from hb1.trans ((hbel.trans (hb9.mono hbel.size)).mono hb1.size))
      clear hS9 hb9 hbel hSn
      first
        | (go_wp2
           go_ret
           exact ⟨rfl, HB.out⟩)
        | (go_wp2
           go_quiet (fail)
           all_goals
             go_wp2
             go_ret
             exact ⟨rfl, HB.out.trans (Below.mono ⟨rfl, rfl, rfl, Nat.le_refl _, fun _ _ => rfl⟩ HB.out.size)⟩)
end Go.Proofs.Ytmmbnikjlklflaa
