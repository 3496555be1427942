/- Whatever frame, and card: the walk of law08.EtherPuts ends with true. -/
import Derived.Deep.RegionHeld3
import Derived.Test.YtnmjoidafgafjaaEtRPut
import Derived.Test.YtnmjoidafgafjaaEtLive
namespace Go.Proofs.Ytnmjoidafgafjaa
open Go.RowKit
/-- What stands while the two are held against one another. -/
structure PtC (w0 : World) (q : Nat) (xs : List Value) (a1 : Option Addr) (c1 : Nat) (a2 : Option Addr) (c2 l : Nat) (L : List Nat) (W : World) : Prop where
  sx : Stc W q xs
  r1 : Sl W a1 l c1 L
  r2 : Sl W a2 l c2 L
  bel : Below w0.heap.size w0 W
theorem PtC.next {w0 : World} {q : Nat} {xs : List Value} {a1 : Option Addr} {c1 : Nat} {a2 : Option Addr} {c2 l : Nat} {L : List Nat} {W W' : World} (h : PtC w0 q xs a1 c1 a2 c2 l L W) (hb : Below W.heap.size W W') : PtC w0 q xs a1 c1 a2 c2 l L W' :=
  ⟨h.sx.below hb, h.r1.below hb, h.r2.below hb, h.bel.trans (hb.mono h.bel.size)⟩
theorem PtC.all {w0 : World} {q : Nat} {v0 v1 v2 v3 : Value} {a1 : Option Addr} {c1 : Nat} {a2 : Option Addr} {c2 l : Nat} {L : List Nat} {W : World} (h : PtC w0 q [v0, v1, v2, v3] a1 c1 a2 c2 l L W) (S : ByteArray) (hS : S = strOf L) :
    (convert 24 9 (.slice a1 l c1)).run Try.prog W = .ok (.string S) W ∧ (convert 24 9 (.slice a2 l c2)).run Try.prog W = .ok (.string S) W ∧ W.cell? ⟨q, 0, none⟩ = some v0 ∧ W.cell? ⟨q, 1, none⟩ = some v1 ∧ W.cell? ⟨q, 2, none⟩ = some v2 ∧ W.cell? ⟨q, 3, none⟩ = some v3 ∧ PtC w0 q [v0, v1, v2, v3] a1 c1 a2 c2 l L W := by
  subst hS
  exact ⟨conv_str h.r1, conv_str h.r2, h.sx.cell 0 _ rfl, h.sx.cell 1 _ rfl, h.sx.cell 2 _ rfl, h.sx.cell 3 _ rfl, h⟩
theorem for_at (t f k : Nat) (a : Option Addr) (n c : Nat) (m : Nat) (b : Bool) (hb : decide (t = m ∨ t = 281474976710655) = b) (w : World) :
    Calls Try.prog 11 #[.agg #[.int .u64 (t : Nat), .int .u64 (f : Nat), .int .u16 (k : Nat), .slice a n c], .int .u64 (m : Nat)] w fun e w' => e = .returned (.bool b) ∧ Below w.heap.size w w' := by
  subst hb; exact for_any t f k a n c m w
theorem epV_le (t f k : Nat) (zs : List Nat) : (epV t f k zs).length ≤ 2000 := by
  unfold epV
  split
  · rename_i h
    have h2 : zs.length ≤ 1500 := by
      unfold epE at h
      split at h
      · omega
      · split at h
        · omega
        · omega
    simp [bytesB_len]
    omega
  · simp
set_option maxRecDepth 100000 in
set_option maxHeartbeats 2000000 in
theorem walk_EtherPuts_ne (t f k : Nat) (a : Option Addr) (n c : Nat) (zs : List Nat) (m : Nat) (w : World) (ht : t < 18446744073709551616) (hf : f < 18446744073709551616) (hk : k < 65536) (h0 : Sl w a n c zs) (htm : ¬ t = m) :
    Calls Try.prog 3 #[.agg #[.int .u64 (t : Nat), .int .u64 (f : Nat), .int .u16 (k : Nat), .slice a n c], .int .u64 (m : Nat)] w fun e w' => e = .returned (.bool true) ∧ Below w.heap.size w w' := by
  obtain ⟨W, hW⟩ : ∃ W, W = w.alloc (.cells #[.int .u64 (t : Nat), .int .u64 (f : Nat), .int .u16 (k : Nat), .slice a n c] 26) := ⟨_, rfl⟩
  have hX := Stc.new w [.int .u64 (t : Nat), .int .u64 (f : Nat), .int .u16 (k : Nat), .slice a n c] 26 W hW
  have hbW : Below w.heap.size w W := by rw [hW]; exact (Below.refl _ _).alloc (Nat.le_refl _) _
  have hsW := h0.below hbW
  have x0 := hX.cell 0 _ rfl
  have x1 := hX.cell 1 _ rfl
  have x2 := hX.cell 2 _ rfl
  have x3 := hX.cell 3 _ rfl
  obtain ⟨E, hE⟩ : ∃ E, E = epE t f k n := ⟨_, rfl⟩
  obtain ⟨L, hL⟩ : ∃ L, L = epV t f k zs := ⟨_, rfl⟩
  have HE := (show Hid _ from hE)
  have HL := (show Hid _ from hL)
  clear hE hL
  go_enter Try.func3, Try.ntmps3
  go_wp2_with fail
  rw [← hW]
  clear hW
  refine (put_any t f k a n c zs W ht hf hk hsW).mono ?_
  rintro e w1 ⟨⟨a1, c1, rfl, o1⟩, b1⟩
  rw [← HE.out, ← HL.out]
  rw [← HL.out] at o1
  have hX1 := hX.below b1
  have hs1 := hsW.below b1
  have y0 := hX1.cell 0 _ rfl
  have y1 := hX1.cell 1 _ rfl
  have y2 := hX1.cell 2 _ rfl
  have y3 := hX1.cell 3 _ rfl
  clear x0 x1 x2 x3
  go_wp2_with fail
  refine (rput_any t f k a n c zs w1 ht hf hk hs1).mono ?_
  rintro e w2 ⟨⟨a2, c2, rfl, o2⟩, b2⟩
  rw [← HE.out, ← HL.out]
  rw [← HL.out] at o2
  have hX2 := hX1.below b2
  have o12 := o1.below b2
  have b02 : Below w.heap.size w w2 := hbW.trans ((b1.trans (b2.mono b1.size)).mono hbW.size)
  clear y0 y1 y2 y3 o1 b1 b2
  obtain ⟨l, hl⟩ : ∃ l, l = L.length := ⟨_, rfl⟩
  obtain ⟨S, hS⟩ : ∃ S, S = strOf L := ⟨_, rfl⟩
  have hle : L.length ≤ 2000 := by rw [HL.out]; exact epV_le t f k zs
  have r1 := o12.sl (by omega)
  have r2 := o2.sl (by omega)
  rw [← hl] at r1 r2 ⊢
  have hC0 : PtC w w.heap.size [.int .u64 (t : Nat), .int .u64 (f : Nat), .int .u16 (k : Nat), .slice a n c] a1 c1 a2 c2 l L w2.drew := PtC.next ⟨hX2, r1, r2, b02⟩ (Below.refl _ _).drew
  have HALL : Hid (∀ w', PtC w w.heap.size [.int .u64 (t : Nat), .int .u64 (f : Nat), .int .u16 (k : Nat), .slice a n c] a1 c1 a2 c2 l L w' → _) := fun w' h => PtC.all h S hS
  have HLL := (show Hid _ from hl)
  obtain ⟨cv1, cv2, z0, z1, z2, z3, hC⟩ := HALL.out _ hC0
  clear hl hle hS r1 r2 hC0 hX hX1 hX2 o12 o2 b02 hsW hs1 hbW
  have h2 : ¬ (t : Int) = (m : Int) := by omega
  have h3 : ((t : Int) == (m : Int)) = false := by simpa using h2
  have HBB : Hid (decide (t = m ∨ t = 281474976710655) = ((t : Int) == 281474976710655)) := by
    show _ = _
    rw [Bool.eq_iff_iff]
    simp only [decide_eq_true_eq, beq_iff_eq]
    omega
  go_wp2_with fail
  first | (go_region_held3 (fun w' => (convert 24 9 (.slice a1 l c1)).run Try.prog w' = .ok (.string S) w' ∧ (convert 24 9 (.slice a2 l c2)).run Try.prog w' = .ok (.string S) w' ∧ w'.cell? ⟨w.heap.size, 0, none⟩ = some (.int .u64 (t : Nat)) ∧ w'.cell? ⟨w.heap.size, 1, none⟩ = some (.int .u64 (f : Nat)) ∧ w'.cell? ⟨w.heap.size, 2, none⟩ = some (.int .u16 (k : Nat)) ∧ w'.cell? ⟨w.heap.size, 3, none⟩ = some (.slice a n c) ∧ PtC w w.heap.size [.int .u64 (t : Nat), .int .u64 (f : Nat), .int .u16 (k : Nat), .slice a n c] a1 c1 a2 c2 l L w') (first | assumption | exact HALL.out _ (by assumption) | exact HALL.out _ (PtC.next (by assumption) (by assumption))) (first
    | (go_at_call 10; refine (live8_any _).mono ?_; rintro e w3 ⟨rfl, b3⟩; have hC := PtC.next (by assumption) b3)
    | (go_at_call 11; refine (for_at t f k a n c m ((t : Int) == 281474976710655) (HBB.out) _).mono ?_; rintro e w4 ⟨rfl, b4⟩; have hC := PtC.next (by assumption) b4)
    | fail)) | fail
  all_goals
    go_wp2
    go_ret
    exact ⟨rfl, PtC.bel (by assumption)⟩
set_option maxRecDepth 100000 in
set_option maxHeartbeats 2000000 in
theorem walk_EtherPuts_eq (t f k : Nat) (a : Option Addr) (n c : Nat) (zs : List Nat) (m : Nat) (w : World) (ht : t < 18446744073709551616) (hf : f < 18446744073709551616) (hk : k < 65536) (h0 : Sl w a n c zs) (htm : t = m) :
    Calls Try.prog 3 #[.agg #[.int .u64 (t : Nat), .int .u64 (f : Nat), .int .u16 (k : Nat), .slice a n c], .int .u64 (m : Nat)] w fun e w' => e = .returned (.bool true) ∧ Below w.heap.size w w' := by
  subst htm
  obtain ⟨W, hW⟩ : ∃ W, W = w.alloc (.cells #[.int .u64 (t : Nat), .int .u64 (f : Nat), .int .u16 (k : Nat), .slice a n c] 26) := ⟨_, rfl⟩
  have hX := Stc.new w [.int .u64 (t : Nat), .int .u64 (f : Nat), .int .u16 (k : Nat), .slice a n c] 26 W hW
  have hbW : Below w.heap.size w W := by rw [hW]; exact (Below.refl _ _).alloc (Nat.le_refl _) _
  have hsW := h0.below hbW
  have x0 := hX.cell 0 _ rfl
  have x1 := hX.cell 1 _ rfl
  have x2 := hX.cell 2 _ rfl
  have x3 := hX.cell 3 _ rfl
  obtain ⟨E, hE⟩ : ∃ E, E = epE t f k n := ⟨_, rfl⟩
  obtain ⟨L, hL⟩ : ∃ L, L = epV t f k zs := ⟨_, rfl⟩
  have HE := (show Hid _ from hE)
  have HL := (show Hid _ from hL)
  clear hE hL
  go_enter Try.func3, Try.ntmps3
  go_wp2_with fail
  rw [← hW]
  clear hW
  refine (put_any t f k a n c zs W ht hf hk hsW).mono ?_
  rintro e w1 ⟨⟨a1, c1, rfl, o1⟩, b1⟩
  rw [← HE.out, ← HL.out]
  rw [← HL.out] at o1
  have hX1 := hX.below b1
  have hs1 := hsW.below b1
  have y0 := hX1.cell 0 _ rfl
  have y1 := hX1.cell 1 _ rfl
  have y2 := hX1.cell 2 _ rfl
  have y3 := hX1.cell 3 _ rfl
  clear x0 x1 x2 x3
  go_wp2_with fail
  refine (rput_any t f k a n c zs w1 ht hf hk hs1).mono ?_
  rintro e w2 ⟨⟨a2, c2, rfl, o2⟩, b2⟩
  rw [← HE.out, ← HL.out]
  rw [← HL.out] at o2
  have hX2 := hX1.below b2
  have o12 := o1.below b2
  have b02 : Below w.heap.size w w2 := hbW.trans ((b1.trans (b2.mono b1.size)).mono hbW.size)
  clear y0 y1 y2 y3 o1 b1 b2
  obtain ⟨l, hl⟩ : ∃ l, l = L.length := ⟨_, rfl⟩
  obtain ⟨S, hS⟩ : ∃ S, S = strOf L := ⟨_, rfl⟩
  have hle : L.length ≤ 2000 := by rw [HL.out]; exact epV_le t f k zs
  have r1 := o12.sl (by omega)
  have r2 := o2.sl (by omega)
  rw [← hl] at r1 r2 ⊢
  have hC0 : PtC w w.heap.size [.int .u64 (t : Nat), .int .u64 (f : Nat), .int .u16 (k : Nat), .slice a n c] a1 c1 a2 c2 l L w2.drew := PtC.next ⟨hX2, r1, r2, b02⟩ (Below.refl _ _).drew
  have HALL : Hid (∀ w', PtC w w.heap.size [.int .u64 (t : Nat), .int .u64 (f : Nat), .int .u16 (k : Nat), .slice a n c] a1 c1 a2 c2 l L w' → _) := fun w' h => PtC.all h S hS
  have HLL := (show Hid _ from hl)
  obtain ⟨cv1, cv2, z0, z1, z2, z3, hC⟩ := HALL.out _ hC0
  clear hl hle hS r1 r2 hC0 hX hX1 hX2 o12 o2 b02 hsW hs1 hbW
  go_wp2_with fail
  refine wp_region_held_drew (S := (fun w' => (convert 24 9 (.slice a1 l c1)).run Try.prog w' = .ok (.string S) w' ∧ (convert 24 9 (.slice a2 l c2)).run Try.prog w' = .ok (.string S) w' ∧ w'.cell? ⟨w.heap.size, 0, none⟩ = some (.int .u64 (t : Nat)) ∧ w'.cell? ⟨w.heap.size, 1, none⟩ = some (.int .u64 (f : Nat)) ∧ w'.cell? ⟨w.heap.size, 2, none⟩ = some (.int .u16 (k : Nat)) ∧ w'.cell? ⟨w.heap.size, 3, none⟩ = some (.slice a n c) ∧ PtC w w.heap.size [.int .u64 (t : Nat), .int .u64 (f : Nat), .int .u16 (k : Nat), .slice a n c] a1 c1 a2 c2 l L w')) (by kernel_rfl) ?hS (fun hHeld => ?_)
  case hS => (first | exact HALL.out _ (by assumption) | exact HALL.out _ (PtC.next (by assumption) (by assumption)))
  refine wpAnyH_ready (rs := [0]) (by kernel_rfl) (by simp) ?_
  refine AllReadyH.cons rfl (fun K hK => ?_) AllReadyH.nil
  go_simp
  (go_at_call 10; refine (live8_any _).mono ?_; rintro e w3 ⟨rfl, b3⟩; have hC := PtC.next (by assumption) b3)
  try go_wp2_with fail
  refine hK.out _ _ ?hS0 (fun hHeld2 => ?_)
  case hS0 => (first | exact HALL.out _ (by assumption) | exact HALL.out _ (PtC.next (by assumption) (by assumption)))
  clear hK K
  clear hHeld
  have hHeld := hHeld2
  clear hHeld2
  refine wpAnyH_take (i := 1) (v := ?v1) (by simp only [List.getElem?_toArray, List.getElem?_cons_succ, List.getElem?_cons_zero]; rfl) (by kernel_rfl) (by kernel_rfl) (by kernel_rfl) (by exact fun _ _ _ h => h) (Or.inl ⟨by rfl, ?hy1⟩) (by assumption) ?rest1
  case hy1 => (intro w hSw; (try dsimp only at hSw); go_simp; try with_reducible rfl)
  try simp only [Act.put, List.setIfInBounds_toArray, List.set_cons_zero, List.set_cons_succ]
  refine wpAnyH_take (i := 2) (v := ?v2) (by simp only [List.getElem?_toArray, List.getElem?_cons_succ, List.getElem?_cons_zero]; rfl) (by kernel_rfl) (by kernel_rfl) (by kernel_rfl) (by exact fun _ _ _ h => h) (Or.inl ⟨by rfl, ?hy2⟩) (by assumption) ?rest2
  case hy2 => (intro w hSw; (try dsimp only at hSw); go_simp; try with_reducible rfl)
  try simp only [Act.put, List.setIfInBounds_toArray, List.set_cons_zero, List.set_cons_succ]
  refine wpAnyH_take (i := 3) (v := ?v3) (by simp only [List.getElem?_toArray, List.getElem?_cons_succ, List.getElem?_cons_zero]; rfl) (by kernel_rfl) (by kernel_rfl) (by kernel_rfl) (by exact fun _ _ _ h => h) (Or.inl ⟨by rfl, ?hy3⟩) (by assumption) ?rest3
  case hy3 => (intro w hSw; (try dsimp only at hSw); go_simp; try with_reducible rfl)
  try simp only [Act.put, List.setIfInBounds_toArray, List.set_cons_zero, List.set_cons_succ]
  refine wpAnyH_take (i := 4) (v := ?v4) (by simp only [List.getElem?_toArray, List.getElem?_cons_succ, List.getElem?_cons_zero]; rfl) (by kernel_rfl) (by kernel_rfl) (by kernel_rfl) (by exact fun _ _ _ h => h) (Or.inl ⟨by rfl, ?hy4⟩) (by assumption) ?rest4
  case hy4 => (intro w hSw; (try dsimp only at hSw); go_simp; try with_reducible rfl)
  try simp only [Act.put, List.setIfInBounds_toArray, List.set_cons_zero, List.set_cons_succ]
  refine wpAnyH_take (i := 5) (v := ?v5) (by simp only [List.getElem?_toArray, List.getElem?_cons_succ, List.getElem?_cons_zero]; rfl) (by kernel_rfl) (by kernel_rfl) (by kernel_rfl) (by exact fun _ _ _ h => h) (Or.inl ⟨by rfl, ?hy5⟩) (by assumption) ?rest5
  case hy5 => (intro w hSw; (try dsimp only at hSw); go_simp; try with_reducible rfl)
  try simp only [Act.put, List.setIfInBounds_toArray, List.set_cons_zero, List.set_cons_succ]
  refine wpAnyH_take (i := 6) (v := ?v6) (by simp only [List.getElem?_toArray, List.getElem?_cons_succ, List.getElem?_cons_zero]; rfl) (by kernel_rfl) (by kernel_rfl) (by kernel_rfl) (by exact fun _ _ _ h => h) (Or.inl ⟨by rfl, ?hy6⟩) (by assumption) ?rest6
  case hy6 => (intro w hSw; (try dsimp only at hSw); go_simp; try with_reducible rfl)
  try simp only [Act.put, List.setIfInBounds_toArray, List.set_cons_zero, List.set_cons_succ]
  refine wpAnyH_take (i := 7) (v := ?v7) (by simp only [List.getElem?_toArray, List.getElem?_cons_succ, List.getElem?_cons_zero]; rfl) (by kernel_rfl) (by kernel_rfl) (by kernel_rfl) (by exact fun _ _ _ h => h) (Or.inl ⟨by rfl, ?hy7⟩) (by assumption) ?rest7
  case hy7 => (intro w hSw; (try dsimp only at hSw); go_simp; try with_reducible rfl)
  try simp only [Act.put, List.setIfInBounds_toArray, List.set_cons_zero, List.set_cons_succ]
  refine wpAnyH_take (i := 8) (v := ?v8) (by simp only [List.getElem?_toArray, List.getElem?_cons_succ, List.getElem?_cons_zero]; rfl) (by kernel_rfl) (by kernel_rfl) (by kernel_rfl) (by exact fun _ _ _ h => h) (Or.inl ⟨by rfl, ?hy8⟩) (by assumption) ?rest8
  case hy8 => (intro w hSw; (try dsimp only at hSw); go_simp; try with_reducible rfl)
  try simp only [Act.put, List.setIfInBounds_toArray, List.set_cons_zero, List.set_cons_succ]
  refine wpAnyH_take (i := 9) (v := ?v9) (by simp only [List.getElem?_toArray, List.getElem?_cons_succ, List.getElem?_cons_zero]; rfl) (by kernel_rfl) (by kernel_rfl) (by kernel_rfl) (by exact fun _ _ _ h => h) (Or.inl ⟨by rfl, ?hy9⟩) (by assumption) ?rest9
  case hy9 => (intro w hSw; (try dsimp only at hSw); go_simp; try with_reducible rfl)
  try simp only [Act.put, List.setIfInBounds_toArray, List.set_cons_zero, List.set_cons_succ]
  refine wpAnyH_take (i := 10) (v := ?v10) (by simp only [List.getElem?_toArray, List.getElem?_cons_succ, List.getElem?_cons_zero]; rfl) (by kernel_rfl) (by kernel_rfl) (by kernel_rfl) (by exact fun _ _ _ h => h) (Or.inl ⟨by rfl, ?hy10⟩) (by assumption) ?rest10
  case hy10 => (intro w hSw; (try dsimp only at hSw); go_simp; try with_reducible rfl)
  try simp only [Act.put, List.setIfInBounds_toArray, List.set_cons_zero, List.set_cons_succ]
  refine wpAnyH_take (i := 11) (v := ?v11) (by simp only [List.getElem?_toArray, List.getElem?_cons_succ, List.getElem?_cons_zero]; rfl) (by kernel_rfl) (by kernel_rfl) (by kernel_rfl) (by exact fun _ _ _ h => h) (Or.inl ⟨by rfl, ?hy11⟩) (by assumption) ?rest11
  case hy11 => (intro w hSw; (try dsimp only at hSw); go_simp; try with_reducible rfl)
  try simp only [Act.put, List.setIfInBounds_toArray, List.set_cons_zero, List.set_cons_succ]
  refine wpAnyH_take (i := 12) (v := ?v12) (by simp only [List.getElem?_toArray, List.getElem?_cons_succ, List.getElem?_cons_zero]; rfl) (by kernel_rfl) (by kernel_rfl) (by kernel_rfl) (by exact fun _ _ _ h => h) (Or.inl ⟨by rfl, ?hy12⟩) (by assumption) ?rest12
  case hy12 => (intro w hSw; (try dsimp only at hSw); go_simp; try with_reducible rfl)
  try simp only [Act.put, List.setIfInBounds_toArray, List.set_cons_zero, List.set_cons_succ]
  refine wpAnyH_take (i := 13) (v := ?v13) (by simp only [List.getElem?_toArray, List.getElem?_cons_succ, List.getElem?_cons_zero]; rfl) (by kernel_rfl) (by kernel_rfl) (by kernel_rfl) (by exact fun _ _ _ h => h) (Or.inl ⟨by rfl, ?hy13⟩) (by assumption) ?rest13
  case hy13 => (intro w hSw; (try dsimp only at hSw); go_simp; try with_reducible rfl)
  try simp only [Act.put, List.setIfInBounds_toArray, List.set_cons_zero, List.set_cons_succ]
  refine wpAnyH_take (i := 14) (v := ?v14) (by simp only [List.getElem?_toArray, List.getElem?_cons_succ, List.getElem?_cons_zero]; rfl) (by kernel_rfl) (by kernel_rfl) (by kernel_rfl) (by exact fun _ _ _ h => h) (Or.inl ⟨by rfl, ?hy14⟩) (by assumption) ?rest14
  case hy14 => (intro w hSw; (try dsimp only at hSw); go_simp; try with_reducible rfl)
  try simp only [Act.put, List.setIfInBounds_toArray, List.set_cons_zero, List.set_cons_succ]
  refine wpAnyH_take (i := 15) (v := ?v15) (by simp only [List.getElem?_toArray, List.getElem?_cons_succ, List.getElem?_cons_zero]; rfl) (by kernel_rfl) (by kernel_rfl) (by kernel_rfl) (by exact fun _ _ _ h => h) (Or.inl ⟨by rfl, ?hy15⟩) (by assumption) ?rest15
  case hy15 => (intro w hSw; (try dsimp only at hSw); go_simp; try with_reducible rfl)
  try simp only [Act.put, List.setIfInBounds_toArray, List.set_cons_zero, List.set_cons_succ]
  refine wpAnyH_take (i := 17) (v := ?v17) (by simp only [List.getElem?_toArray, List.getElem?_cons_succ, List.getElem?_cons_zero]; rfl) (by kernel_rfl) (by kernel_rfl) (by kernel_rfl) (by exact fun _ _ _ h => h) (Or.inl ⟨by rfl, ?hy17⟩) (by assumption) ?rest17
  case hy17 => (intro w hSw; (try dsimp only at hSw); go_simp; try with_reducible rfl)
  try simp only [Act.put, List.setIfInBounds_toArray, List.set_cons_zero, List.set_cons_succ]
  refine wpAnyH_take (i := 18) (v := ?v18) (by simp only [List.getElem?_toArray, List.getElem?_cons_succ, List.getElem?_cons_zero]; rfl) (by kernel_rfl) (by kernel_rfl) (by kernel_rfl) (by exact fun _ _ _ h => h) (Or.inl ⟨by rfl, ?hy18⟩) (by assumption) ?rest18
  case hy18 => (intro w hSw; (try dsimp only at hSw); go_simp; try with_reducible rfl)
  try simp only [Act.put, List.setIfInBounds_toArray, List.set_cons_zero, List.set_cons_succ]
  refine wpAnyH_take (i := 19) (v := ?v19) (by simp only [List.getElem?_toArray, List.getElem?_cons_succ, List.getElem?_cons_zero]; rfl) (by kernel_rfl) (by kernel_rfl) (by kernel_rfl) (by exact fun _ _ _ h => h) (Or.inl ⟨by rfl, ?hy19⟩) (by assumption) ?rest19
  case hy19 => (intro w hSw; (try dsimp only at hSw); go_simp; try with_reducible rfl)
  try simp only [Act.put, List.setIfInBounds_toArray, List.set_cons_zero, List.set_cons_succ]
  refine wpAnyH_take (i := 20) (v := ?v20) (by simp only [List.getElem?_toArray, List.getElem?_cons_succ, List.getElem?_cons_zero]; rfl) (by kernel_rfl) (by kernel_rfl) (by kernel_rfl) (by exact fun _ _ _ h => h) (Or.inl ⟨by rfl, ?hy20⟩) (by assumption) ?rest20
  case hy20 => (intro w hSw; (try dsimp only at hSw); go_simp; try with_reducible rfl)
  try simp only [Act.put, List.setIfInBounds_toArray, List.set_cons_zero, List.set_cons_succ]
  refine wpAnyH_ready (rs := [16]) (by kernel_rfl) (by simp) ?_
  refine AllReadyH.cons rfl (fun K hK => ?_) AllReadyH.nil
  go_simp
  (go_at_call 11; refine (for_at t f k a n c t true (by simp) _).mono ?_; rintro e w4 ⟨rfl, b4⟩; have hC := PtC.next (by assumption) b4)
  try go_wp2_with fail
  refine hK.out _ _ ?hS16 (fun hHeld2 => ?_)
  case hS16 => (first | exact HALL.out _ (by assumption) | exact HALL.out _ (PtC.next (by assumption) (by assumption)))
  clear hK K
  clear hHeld
  have hHeld := hHeld2
  clear hHeld2
  refine wpAnyH_take (i := 21) (v := ?v21) (by simp only [List.getElem?_toArray, List.getElem?_cons_succ, List.getElem?_cons_zero]; rfl) (by kernel_rfl) (by kernel_rfl) (by kernel_rfl) (by exact fun _ _ _ h => h) (Or.inl ⟨by rfl, ?hy21⟩) (by assumption) ?rest21
  case hy21 => (intro w hSw; (try dsimp only at hSw); go_simp; try with_reducible rfl)
  try simp only [Act.put, List.setIfInBounds_toArray, List.set_cons_zero, List.set_cons_succ]
  refine wpAnyH_take (i := 22) (v := undef) (by simp only [List.getElem?_toArray, List.getElem?_cons_succ, List.getElem?_cons_zero]; rfl) (by kernel_rfl) (by kernel_rfl) (by kernel_rfl) (by exact fun _ _ _ h => h) (Or.inr ⟨by rfl, rfl⟩) (by assumption) ?_
  try simp only [Act.put, List.setIfInBounds_toArray, List.set_cons_zero, List.set_cons_succ]
  refine wpAnyH_take (i := 23) (v := undef) (by simp only [List.getElem?_toArray, List.getElem?_cons_succ, List.getElem?_cons_zero]; rfl) (by kernel_rfl) (by kernel_rfl) (by kernel_rfl) (by exact fun _ _ _ h => h) (Or.inr ⟨by rfl, rfl⟩) (by assumption) ?_
  try simp only [Act.put, List.setIfInBounds_toArray, List.set_cons_zero, List.set_cons_succ]
  refine wpAnyH_take (i := 24) (v := undef) (by simp only [List.getElem?_toArray, List.getElem?_cons_succ, List.getElem?_cons_zero]; rfl) (by kernel_rfl) (by kernel_rfl) (by kernel_rfl) (by exact fun _ _ _ h => h) (Or.inr ⟨by rfl, rfl⟩) (by assumption) ?_
  try simp only [Act.put, List.setIfInBounds_toArray, List.set_cons_zero, List.set_cons_succ]
  refine wpAnyH_take (i := 25) (v := ?v25) (by simp only [List.getElem?_toArray, List.getElem?_cons_succ, List.getElem?_cons_zero]; rfl) (by kernel_rfl) (by kernel_rfl) (by kernel_rfl) (by exact fun _ _ _ h => h) (Or.inl ⟨by rfl, ?hy25⟩) (by assumption) ?rest25
  case hy25 => (intro w hSw; (try dsimp only at hSw); go_simp; try with_reducible rfl)
  try simp only [Act.put, List.setIfInBounds_toArray, List.set_cons_zero, List.set_cons_succ]
  refine wpAnyH_take (i := 26) (v := ?v26) (by simp only [List.getElem?_toArray, List.getElem?_cons_succ, List.getElem?_cons_zero]; rfl) (by kernel_rfl) (by kernel_rfl) (by kernel_rfl) (by exact fun _ _ _ h => h) (Or.inl ⟨by rfl, ?hy26⟩) (by assumption) ?rest26
  case hy26 => (intro w hSw; (try dsimp only at hSw); go_simp; try with_reducible rfl)
  try simp only [Act.put, List.setIfInBounds_toArray, List.set_cons_zero, List.set_cons_succ]
  refine wpAnyH_take (i := 27) (v := ?v27) (by simp only [List.getElem?_toArray, List.getElem?_cons_succ, List.getElem?_cons_zero]; rfl) (by kernel_rfl) (by kernel_rfl) (by kernel_rfl) (by exact fun _ _ _ h => h) (Or.inl ⟨by rfl, ?hy27⟩) (by assumption) ?rest27
  case hy27 => (intro w hSw; (try dsimp only at hSw); go_simp; try with_reducible rfl)
  try simp only [Act.put, List.setIfInBounds_toArray, List.set_cons_zero, List.set_cons_succ]
  refine wpAnyH_take (i := 28) (v := ?v28) (by simp only [List.getElem?_toArray, List.getElem?_cons_succ, List.getElem?_cons_zero]; rfl) (by kernel_rfl) (by kernel_rfl) (by kernel_rfl) (by exact fun _ _ _ h => h) (Or.inl ⟨by rfl, ?hy28⟩) (by assumption) ?rest28
  case hy28 => (intro w hSw; (try dsimp only at hSw); go_simp; try with_reducible rfl)
  try simp only [Act.put, List.setIfInBounds_toArray, List.set_cons_zero, List.set_cons_succ]
  refine wpAnyH_done (by kernel_rfl) ?_ _
  go_wp2
  go_ret
  exact ⟨rfl, PtC.bel (by assumption)⟩
theorem walk_EtherPuts (t f k : Nat) (a : Option Addr) (n c : Nat) (zs : List Nat) (m : Nat) (w : World) (ht : t < 18446744073709551616) (hf : f < 18446744073709551616) (hk : k < 65536) (h0 : Sl w a n c zs ∧ c ≤ 140737488351232) (_hm : m < 18446744073709551616) :
    Calls Try.prog 3 #[.agg #[.int .u64 (t : Nat), .int .u64 (f : Nat), .int .u16 (k : Nat), .slice a n c], .int .u64 (m : Nat)] w fun e w' => e = .returned (.bool true) ∧ Below w.heap.size w w' := by
  by_cases h : t = m
  · exact walk_EtherPuts_eq t f k a n c zs m w ht hf hk h0.1 h
  · exact walk_EtherPuts_ne t f k a n c zs m w ht hf hk h0.1 h
end Go.Proofs.Ytnmjoidafgafjaa
