/- ref19.One. -/
import Derived.Test.YtpdnkbhgobdniaaJdL
namespace Go.Proofs.Ytpdnkbhgobdniaa
open Go.RowKit Go.MapKept Go.Maps
def gotR (m : Mg) : List Mg → Int
  | [] => 16
  | y :: L => if y.free = m.free ∧ y.st = m.st then (if alkJ y m = true then 0 else if m.free = true then gotR m L else 4) else gotR m L
/-- What the reference says of a mark, by those ahead. -/
def oneJ (ds : List Mk) (x : Mk) : Int :=
  if x.host ≠ 0 ∧ x.host ≠ 1 then 2
  else if x.is = 1 then (if shuJ ds x.sd = true ∨ endJ ds x.sd = true then 9 else 0)
  else if x.is = 2 then gotR x.msg (leftJ ds (oth x.sd))
  else if x.is = 3 then (if x.note < 1 ∨ 5 < x.note then 2 else if endJ ds x.sd = true ∨ (camJ ds x.sd = true ∧ x.note = 1) then 17 else if x.note = 2 ∧ camJ ds x.sd = false then 9 else 0)
  else if x.is = 4 then (if shuJ ds x.sd = true then 17 else if endJ ds x.sd = true then 9 else 0)
  else 11
/-- What stands in One behind stands. -/
structure O2 (w : World) (x : Mk) (w2 : World) : Prop where
  r : w2.rangeAt w.heap.size 0 x.vals
  z : w.heap.size < w2.heap.size
  b : Below w.heap.size w w2
theorem O2.mk' {w w2 : World} {x : Mk} (hb : Below (w.alloc (.cells #[.int .i64 x.is, .int .i64 x.host, .int .u32 (x.own : Nat), .int .u32 (x.peer : Nat), .int .u16 (x.mst : Nat), .int .u16 (x.mssn : Nat), .int .u32 (x.mpp : Nat), .bool x.mfree, .slice x.mdA x.mdN x.mdC, .int .i64 x.note] 44)).heap.size (w.alloc (.cells #[.int .i64 x.is, .int .i64 x.host, .int .u32 (x.own : Nat), .int .u32 (x.peer : Nat), .int .u16 (x.mst : Nat), .int .u16 (x.mssn : Nat), .int .u32 (x.mpp : Nat), .bool x.mfree, .slice x.mdA x.mdN x.mdC, .int .i64 x.note] 44)) w2) : O2 w x w2 := by
  have hs : (w.alloc (.cells #[.int .i64 x.is, .int .i64 x.host, .int .u32 (x.own : Nat), .int .u32 (x.peer : Nat), .int .u16 (x.mst : Nat), .int .u16 (x.mssn : Nat), .int .u32 (x.mpp : Nat), .bool x.mfree, .slice x.mdA x.mdN x.mdC, .int .i64 x.note] 44)).heap.size = w.heap.size + 1 := by simp
  have hz := hb.size
  exact ⟨range_below (range_new w x.vals 44 _ rfl) hb (by simp), by rw [hs] at hz; omega, ((Below.refl _ _).alloc (Nat.le_refl _) _).trans (hb.mono (by rw [hs]; omega))⟩
theorem O2.below {w w2 w3 : World} {x : Mk} (h : O2 w x w2) (hb : Below w2.heap.size w2 w3) : O2 w x w3 := ⟨range_below h.r hb h.z, Nat.lt_of_lt_of_le h.z hb.size, h.b.trans (hb.mono h.b.size)⟩
theorem O2.c {w w2 : World} {x : Mk} (h : O2 w x w2) : w2.cell? ⟨w.heap.size, 0, none⟩ = some (.int .i64 x.is) ∧ w2.cell? ⟨w.heap.size, 1, none⟩ = some (.int .i64 x.host) ∧ w2.cell? ⟨w.heap.size, 2, none⟩ = some (.int .u32 (x.own : Nat)) ∧ w2.cell? ⟨w.heap.size, 3, none⟩ = some (.int .u32 (x.peer : Nat)) ∧ w2.cell? ⟨w.heap.size, 9, none⟩ = some (.int .i64 x.note) :=
  ⟨h.r 0 _ rfl, h.r 1 _ rfl, h.r 2 _ rfl, h.r 3 _ rfl, h.r 9 _ rfl⟩
set_option maxRecDepth 100000 in
set_option maxHeartbeats 8000000 in
theorem one_sent (a : Option Addr) (m c : Nat) (ds : List Mk) (x : Mk) (w : World) (hS : SlM w a m c ds) (hm : m ≤ 1000) (h01 : x.host = 0 ∨ x.host = 1) (h1 : (x.is == 1) = true) :
    Calls Try.prog 19 #[.slice a m c, .agg #[.int .i64 x.is, .int .i64 x.host, .int .u32 (x.own : Nat), .int .u32 (x.peer : Nat), .int .u16 (x.mst : Nat), .int .u16 (x.mssn : Nat), .int .u32 (x.mpp : Nat), .bool x.mfree, .slice x.mdA x.mdN x.mdC, .int .i64 x.note]] w fun e w' => e = .returned (.int .i64 (if shuJ ds x.sd = true ∨ endJ ds x.sd = true then 9 else 0)) ∧ Below w.heap.size w w' := by
  have qh : ((x.host != 0) && (x.host != 1)) = false := by rcases h01 with h | h <;> simp [h]
  obtain ⟨be, HBE⟩ : ∃ be, Hid (be = endJ ds x.sd) := ⟨_, rfl⟩
  obtain ⟨bc, HBC⟩ : ∃ bc, Hid (bc = camJ ds x.sd) := ⟨_, rfl⟩
  obtain ⟨bs, HBS⟩ : ∃ bs, Hid (bs = shuJ ds x.sd) := ⟨_, rfl⟩
  have HST : Hid (∀ W u, Below w.heap.size w W → u = .agg x.vals.toArray → Calls Try.prog 22 #[.slice a m c, u] W fun e w' => e = .returned (.tuple #[.bool be, .bool bc, .bool bs]) ∧ Below W.heap.size W w') := fun W u hW hu => (stands19_any a m c ds x W (hS.below hW) hm _ u rfl hu).mono fun e w' h => ⟨by rw [HBE.out, HBC.out, HBS.out]; exact h.1, h.2⟩
  rw [← HBE.out, ← HBS.out]
  clear hS
  cases bs <;> cases be
  · rw [show (if _ ∨ _ then (9 : Int) else 0) = 0 by simp]
    rcases h01 with hx | hx
    · have g0 : (x.host != 0) = false := by simp [hx]
      have g1 : (x.host != 1) = true := by simp [hx]
      clear hx qh
      go_enter Try.func19, Try.ntmps19
      go_wp2_with (first | (go_at_call 22; refine (HST.out _ _ ((Below.refl _ _).alloc (Nat.le_refl _) _) rfl).mono ?_; rintro e w2 ⟨rfl, hb2⟩; have h2 : O2 w x w2 := O2.mk' hb2; obtain ⟨c0, c1, c2, c3, c9⟩ := h2.c; have hz := h2.z; have H2 := (show Hid _ from h2); clear hb2 h2) | fail)
      go_ret
      exact ⟨rfl, H2.out.b⟩
    · have g0 : (x.host != 0) = true := by simp [hx]
      have g1 : (x.host != 1) = false := by simp [hx]
      clear hx qh
      go_enter Try.func19, Try.ntmps19
      go_wp2_with (first | (go_at_call 22; refine (HST.out _ _ ((Below.refl _ _).alloc (Nat.le_refl _) _) rfl).mono ?_; rintro e w2 ⟨rfl, hb2⟩; have h2 : O2 w x w2 := O2.mk' hb2; obtain ⟨c0, c1, c2, c3, c9⟩ := h2.c; have hz := h2.z; have H2 := (show Hid _ from h2); clear hb2 h2) | fail)
      go_ret
      exact ⟨rfl, H2.out.b⟩
  · rw [show (if _ ∨ _ then (9 : Int) else 0) = 9 by simp]
    rcases h01 with hx | hx
    · have g0 : (x.host != 0) = false := by simp [hx]
      have g1 : (x.host != 1) = true := by simp [hx]
      clear hx qh
      go_enter Try.func19, Try.ntmps19
      go_wp2_with (first | (go_at_call 22; refine (HST.out _ _ ((Below.refl _ _).alloc (Nat.le_refl _) _) rfl).mono ?_; rintro e w2 ⟨rfl, hb2⟩; have h2 : O2 w x w2 := O2.mk' hb2; obtain ⟨c0, c1, c2, c3, c9⟩ := h2.c; have hz := h2.z; have H2 := (show Hid _ from h2); clear hb2 h2) | fail)
      go_ret
      exact ⟨rfl, H2.out.b⟩
    · have g0 : (x.host != 0) = true := by simp [hx]
      have g1 : (x.host != 1) = false := by simp [hx]
      clear hx qh
      go_enter Try.func19, Try.ntmps19
      go_wp2_with (first | (go_at_call 22; refine (HST.out _ _ ((Below.refl _ _).alloc (Nat.le_refl _) _) rfl).mono ?_; rintro e w2 ⟨rfl, hb2⟩; have h2 : O2 w x w2 := O2.mk' hb2; obtain ⟨c0, c1, c2, c3, c9⟩ := h2.c; have hz := h2.z; have H2 := (show Hid _ from h2); clear hb2 h2) | fail)
      go_ret
      exact ⟨rfl, H2.out.b⟩
  · rw [show (if _ ∨ _ then (9 : Int) else 0) = 9 by simp]
    rcases h01 with hx | hx
    · have g0 : (x.host != 0) = false := by simp [hx]
      have g1 : (x.host != 1) = true := by simp [hx]
      clear hx qh
      go_enter Try.func19, Try.ntmps19
      go_wp2_with (first | (go_at_call 22; refine (HST.out _ _ ((Below.refl _ _).alloc (Nat.le_refl _) _) rfl).mono ?_; rintro e w2 ⟨rfl, hb2⟩; have h2 : O2 w x w2 := O2.mk' hb2; obtain ⟨c0, c1, c2, c3, c9⟩ := h2.c; have hz := h2.z; have H2 := (show Hid _ from h2); clear hb2 h2) | fail)
      go_ret
      exact ⟨rfl, H2.out.b⟩
    · have g0 : (x.host != 0) = true := by simp [hx]
      have g1 : (x.host != 1) = false := by simp [hx]
      clear hx qh
      go_enter Try.func19, Try.ntmps19
      go_wp2_with (first | (go_at_call 22; refine (HST.out _ _ ((Below.refl _ _).alloc (Nat.le_refl _) _) rfl).mono ?_; rintro e w2 ⟨rfl, hb2⟩; have h2 : O2 w x w2 := O2.mk' hb2; obtain ⟨c0, c1, c2, c3, c9⟩ := h2.c; have hz := h2.z; have H2 := (show Hid _ from h2); clear hb2 h2) | fail)
      go_ret
      exact ⟨rfl, H2.out.b⟩
  · rw [show (if _ ∨ _ then (9 : Int) else 0) = 9 by simp]
    rcases h01 with hx | hx
    · have g0 : (x.host != 0) = false := by simp [hx]
      have g1 : (x.host != 1) = true := by simp [hx]
      clear hx qh
      go_enter Try.func19, Try.ntmps19
      go_wp2_with (first | (go_at_call 22; refine (HST.out _ _ ((Below.refl _ _).alloc (Nat.le_refl _) _) rfl).mono ?_; rintro e w2 ⟨rfl, hb2⟩; have h2 : O2 w x w2 := O2.mk' hb2; obtain ⟨c0, c1, c2, c3, c9⟩ := h2.c; have hz := h2.z; have H2 := (show Hid _ from h2); clear hb2 h2) | fail)
      go_ret
      exact ⟨rfl, H2.out.b⟩
    · have g0 : (x.host != 0) = true := by simp [hx]
      have g1 : (x.host != 1) = false := by simp [hx]
      clear hx qh
      go_enter Try.func19, Try.ntmps19
      go_wp2_with (first | (go_at_call 22; refine (HST.out _ _ ((Below.refl _ _).alloc (Nat.le_refl _) _) rfl).mono ?_; rintro e w2 ⟨rfl, hb2⟩; have h2 : O2 w x w2 := O2.mk' hb2; obtain ⟨c0, c1, c2, c3, c9⟩ := h2.c; have hz := h2.z; have H2 := (show Hid _ from h2); clear hb2 h2) | fail)
      go_ret
      exact ⟨rfl, H2.out.b⟩
set_option maxRecDepth 100000 in
set_option maxHeartbeats 8000000 in
theorem one_shut (a : Option Addr) (m c : Nat) (ds : List Mk) (x : Mk) (w : World) (hS : SlM w a m c ds) (hm : m ≤ 1000) (h01 : x.host = 0 ∨ x.host = 1) (h1 : (x.is == 1) = false) (h2 : (x.is == 2) = false) (h3 : (x.is == 3) = false) (h4 : (x.is == 4) = true) :
    Calls Try.prog 19 #[.slice a m c, .agg #[.int .i64 x.is, .int .i64 x.host, .int .u32 (x.own : Nat), .int .u32 (x.peer : Nat), .int .u16 (x.mst : Nat), .int .u16 (x.mssn : Nat), .int .u32 (x.mpp : Nat), .bool x.mfree, .slice x.mdA x.mdN x.mdC, .int .i64 x.note]] w fun e w' => e = .returned (.int .i64 (if shuJ ds x.sd = true then 17 else if endJ ds x.sd = true then 9 else 0)) ∧ Below w.heap.size w w' := by
  have qh : ((x.host != 0) && (x.host != 1)) = false := by rcases h01 with h | h <;> simp [h]
  obtain ⟨be, HBE⟩ : ∃ be, Hid (be = endJ ds x.sd) := ⟨_, rfl⟩
  obtain ⟨bc, HBC⟩ : ∃ bc, Hid (bc = camJ ds x.sd) := ⟨_, rfl⟩
  obtain ⟨bs, HBS⟩ : ∃ bs, Hid (bs = shuJ ds x.sd) := ⟨_, rfl⟩
  have HST : Hid (∀ W u, Below w.heap.size w W → u = .agg x.vals.toArray → Calls Try.prog 22 #[.slice a m c, u] W fun e w' => e = .returned (.tuple #[.bool be, .bool bc, .bool bs]) ∧ Below W.heap.size W w') := fun W u hW hu => (stands19_any a m c ds x W (hS.below hW) hm _ u rfl hu).mono fun e w' h => ⟨by rw [HBE.out, HBC.out, HBS.out]; exact h.1, h.2⟩
  rw [← HBE.out, ← HBS.out]
  clear hS
  cases bs <;> cases be
  · rw [if_neg (by simp), if_neg (by simp)]
    rcases h01 with hx | hx
    · have g0 : (x.host != 0) = false := by simp [hx]
      have g1 : (x.host != 1) = true := by simp [hx]
      clear hx qh
      go_enter Try.func19, Try.ntmps19
      go_wp2_with (first | (go_at_call 22; refine (HST.out _ _ ((Below.refl _ _).alloc (Nat.le_refl _) _) rfl).mono ?_; rintro e w2 ⟨rfl, hb2⟩; have h2 : O2 w x w2 := O2.mk' hb2; obtain ⟨c0, c1, c2, c3, c9⟩ := h2.c; have hz := h2.z; have H2 := (show Hid _ from h2); clear hb2 h2) | fail)
      go_ret
      exact ⟨rfl, H2.out.b⟩
    · have g0 : (x.host != 0) = true := by simp [hx]
      have g1 : (x.host != 1) = false := by simp [hx]
      clear hx qh
      go_enter Try.func19, Try.ntmps19
      go_wp2_with (first | (go_at_call 22; refine (HST.out _ _ ((Below.refl _ _).alloc (Nat.le_refl _) _) rfl).mono ?_; rintro e w2 ⟨rfl, hb2⟩; have h2 : O2 w x w2 := O2.mk' hb2; obtain ⟨c0, c1, c2, c3, c9⟩ := h2.c; have hz := h2.z; have H2 := (show Hid _ from h2); clear hb2 h2) | fail)
      go_ret
      exact ⟨rfl, H2.out.b⟩
  · rw [if_neg (by simp), if_pos rfl]
    rcases h01 with hx | hx
    · have g0 : (x.host != 0) = false := by simp [hx]
      have g1 : (x.host != 1) = true := by simp [hx]
      clear hx qh
      go_enter Try.func19, Try.ntmps19
      go_wp2_with (first | (go_at_call 22; refine (HST.out _ _ ((Below.refl _ _).alloc (Nat.le_refl _) _) rfl).mono ?_; rintro e w2 ⟨rfl, hb2⟩; have h2 : O2 w x w2 := O2.mk' hb2; obtain ⟨c0, c1, c2, c3, c9⟩ := h2.c; have hz := h2.z; have H2 := (show Hid _ from h2); clear hb2 h2) | fail)
      go_ret
      exact ⟨rfl, H2.out.b⟩
    · have g0 : (x.host != 0) = true := by simp [hx]
      have g1 : (x.host != 1) = false := by simp [hx]
      clear hx qh
      go_enter Try.func19, Try.ntmps19
      go_wp2_with (first | (go_at_call 22; refine (HST.out _ _ ((Below.refl _ _).alloc (Nat.le_refl _) _) rfl).mono ?_; rintro e w2 ⟨rfl, hb2⟩; have h2 : O2 w x w2 := O2.mk' hb2; obtain ⟨c0, c1, c2, c3, c9⟩ := h2.c; have hz := h2.z; have H2 := (show Hid _ from h2); clear hb2 h2) | fail)
      go_ret
      exact ⟨rfl, H2.out.b⟩
  · rw [if_pos rfl]
    rcases h01 with hx | hx
    · have g0 : (x.host != 0) = false := by simp [hx]
      have g1 : (x.host != 1) = true := by simp [hx]
      clear hx qh
      go_enter Try.func19, Try.ntmps19
      go_wp2_with (first | (go_at_call 22; refine (HST.out _ _ ((Below.refl _ _).alloc (Nat.le_refl _) _) rfl).mono ?_; rintro e w2 ⟨rfl, hb2⟩; have h2 : O2 w x w2 := O2.mk' hb2; obtain ⟨c0, c1, c2, c3, c9⟩ := h2.c; have hz := h2.z; have H2 := (show Hid _ from h2); clear hb2 h2) | fail)
      go_ret
      exact ⟨rfl, H2.out.b⟩
    · have g0 : (x.host != 0) = true := by simp [hx]
      have g1 : (x.host != 1) = false := by simp [hx]
      clear hx qh
      go_enter Try.func19, Try.ntmps19
      go_wp2_with (first | (go_at_call 22; refine (HST.out _ _ ((Below.refl _ _).alloc (Nat.le_refl _) _) rfl).mono ?_; rintro e w2 ⟨rfl, hb2⟩; have h2 : O2 w x w2 := O2.mk' hb2; obtain ⟨c0, c1, c2, c3, c9⟩ := h2.c; have hz := h2.z; have H2 := (show Hid _ from h2); clear hb2 h2) | fail)
      go_ret
      exact ⟨rfl, H2.out.b⟩
  · rw [if_pos rfl]
    rcases h01 with hx | hx
    · have g0 : (x.host != 0) = false := by simp [hx]
      have g1 : (x.host != 1) = true := by simp [hx]
      clear hx qh
      go_enter Try.func19, Try.ntmps19
      go_wp2_with (first | (go_at_call 22; refine (HST.out _ _ ((Below.refl _ _).alloc (Nat.le_refl _) _) rfl).mono ?_; rintro e w2 ⟨rfl, hb2⟩; have h2 : O2 w x w2 := O2.mk' hb2; obtain ⟨c0, c1, c2, c3, c9⟩ := h2.c; have hz := h2.z; have H2 := (show Hid _ from h2); clear hb2 h2) | fail)
      go_ret
      exact ⟨rfl, H2.out.b⟩
    · have g0 : (x.host != 0) = true := by simp [hx]
      have g1 : (x.host != 1) = false := by simp [hx]
      clear hx qh
      go_enter Try.func19, Try.ntmps19
      go_wp2_with (first | (go_at_call 22; refine (HST.out _ _ ((Below.refl _ _).alloc (Nat.le_refl _) _) rfl).mono ?_; rintro e w2 ⟨rfl, hb2⟩; have h2 : O2 w x w2 := O2.mk' hb2; obtain ⟨c0, c1, c2, c3, c9⟩ := h2.c; have hz := h2.z; have H2 := (show Hid _ from h2); clear hb2 h2) | fail)
      go_ret
      exact ⟨rfl, H2.out.b⟩
set_option maxRecDepth 100000 in
set_option maxHeartbeats 8000000 in
theorem one_else (a : Option Addr) (m c : Nat) (ds : List Mk) (x : Mk) (w : World) (hS : SlM w a m c ds) (hm : m ≤ 1000) (h01 : x.host = 0 ∨ x.host = 1) (h1 : (x.is == 1) = false) (h2 : (x.is == 2) = false) (h3 : (x.is == 3) = false) (h4 : (x.is == 4) = false) :
    Calls Try.prog 19 #[.slice a m c, .agg #[.int .i64 x.is, .int .i64 x.host, .int .u32 (x.own : Nat), .int .u32 (x.peer : Nat), .int .u16 (x.mst : Nat), .int .u16 (x.mssn : Nat), .int .u32 (x.mpp : Nat), .bool x.mfree, .slice x.mdA x.mdN x.mdC, .int .i64 x.note]] w fun e w' => e = .returned (.int .i64 (11)) ∧ Below w.heap.size w w' := by
  have qh : ((x.host != 0) && (x.host != 1)) = false := by rcases h01 with h | h <;> simp [h]
  obtain ⟨be, HBE⟩ : ∃ be, Hid (be = endJ ds x.sd) := ⟨_, rfl⟩
  obtain ⟨bc, HBC⟩ : ∃ bc, Hid (bc = camJ ds x.sd) := ⟨_, rfl⟩
  obtain ⟨bs, HBS⟩ : ∃ bs, Hid (bs = shuJ ds x.sd) := ⟨_, rfl⟩
  have HST : Hid (∀ W u, Below w.heap.size w W → u = .agg x.vals.toArray → Calls Try.prog 22 #[.slice a m c, u] W fun e w' => e = .returned (.tuple #[.bool be, .bool bc, .bool bs]) ∧ Below W.heap.size W w') := fun W u hW hu => (stands19_any a m c ds x W (hS.below hW) hm _ u rfl hu).mono fun e w' h => ⟨by rw [HBE.out, HBC.out, HBS.out]; exact h.1, h.2⟩
  clear hS
  rcases h01 with hx | hx
  · have g0 : (x.host != 0) = false := by simp [hx]
    have g1 : (x.host != 1) = true := by simp [hx]
    clear hx qh
    go_enter Try.func19, Try.ntmps19
    go_wp2_with (first | (go_at_call 22; refine (HST.out _ _ ((Below.refl _ _).alloc (Nat.le_refl _) _) rfl).mono ?_; rintro e w2 ⟨rfl, hb2⟩; have h2 : O2 w x w2 := O2.mk' hb2; obtain ⟨c0, c1, c2, c3, c9⟩ := h2.c; have hz := h2.z; have H2 := (show Hid _ from h2); clear hb2 h2) | fail)
    go_ret
    exact ⟨rfl, H2.out.b⟩
  · have g0 : (x.host != 0) = true := by simp [hx]
    have g1 : (x.host != 1) = false := by simp [hx]
    clear hx qh
    go_enter Try.func19, Try.ntmps19
    go_wp2_with (first | (go_at_call 22; refine (HST.out _ _ ((Below.refl _ _).alloc (Nat.le_refl _) _) rfl).mono ?_; rintro e w2 ⟨rfl, hb2⟩; have h2 : O2 w x w2 := O2.mk' hb2; obtain ⟨c0, c1, c2, c3, c9⟩ := h2.c; have hz := h2.z; have H2 := (show Hid _ from h2); clear hb2 h2) | fail)
    go_ret
    exact ⟨rfl, H2.out.b⟩
set_option maxRecDepth 100000 in
set_option maxHeartbeats 8000000 in
theorem one_told (a : Option Addr) (m c : Nat) (ds : List Mk) (x : Mk) (w : World) (hS : SlM w a m c ds) (hm : m ≤ 1000) (h01 : x.host = 0 ∨ x.host = 1) (h1 : (x.is == 1) = false) (h2 : (x.is == 2) = false) (h3 : (x.is == 3) = true) :
    Calls Try.prog 19 #[.slice a m c, .agg #[.int .i64 x.is, .int .i64 x.host, .int .u32 (x.own : Nat), .int .u32 (x.peer : Nat), .int .u16 (x.mst : Nat), .int .u16 (x.mssn : Nat), .int .u32 (x.mpp : Nat), .bool x.mfree, .slice x.mdA x.mdN x.mdC, .int .i64 x.note]] w fun e w' => e = .returned (.int .i64 (if x.note < 1 ∨ 5 < x.note then 2 else if endJ ds x.sd = true ∨ (camJ ds x.sd = true ∧ x.note = 1) then 17 else if x.note = 2 ∧ camJ ds x.sd = false then 9 else 0)) ∧ Below w.heap.size w w' := by
  have qh : ((x.host != 0) && (x.host != 1)) = false := by rcases h01 with h | h <;> simp [h]
  obtain ⟨be, HBE⟩ : ∃ be, Hid (be = endJ ds x.sd) := ⟨_, rfl⟩
  obtain ⟨bc, HBC⟩ : ∃ bc, Hid (bc = camJ ds x.sd) := ⟨_, rfl⟩
  obtain ⟨bs, HBS⟩ : ∃ bs, Hid (bs = shuJ ds x.sd) := ⟨_, rfl⟩
  have HST : Hid (∀ W u, Below w.heap.size w W → u = .agg x.vals.toArray → Calls Try.prog 22 #[.slice a m c, u] W fun e w' => e = .returned (.tuple #[.bool be, .bool bc, .bool bs]) ∧ Below W.heap.size W w') := fun W u hW hu => (stands19_any a m c ds x W (hS.below hW) hm _ u rfl hu).mono fun e w' h => ⟨by rw [HBE.out, HBC.out, HBS.out]; exact h.1, h.2⟩
  rw [← HBE.out, ← HBC.out]
  clear hS
  by_cases n1 : x.note < 1
  · rw [if_pos (.inl n1)]
    rcases h01 with hx | hx
    · have g0 : (x.host != 0) = false := by simp [hx]
      have g1 : (x.host != 1) = true := by simp [hx]
      clear hx qh
      go_enter Try.func19, Try.ntmps19
      go_wp2_with (first | (go_at_call 22; refine (HST.out _ _ ((Below.refl _ _).alloc (Nat.le_refl _) _) rfl).mono ?_; rintro e w2 ⟨rfl, hb2⟩; have h2 : O2 w x w2 := O2.mk' hb2; obtain ⟨c0, c1, c2, c3, c9⟩ := h2.c; have hz := h2.z; have H2 := (show Hid _ from h2); clear hb2 h2) | fail)
      go_ret
      exact ⟨rfl, H2.out.b⟩
    · have g0 : (x.host != 0) = true := by simp [hx]
      have g1 : (x.host != 1) = false := by simp [hx]
      clear hx qh
      go_enter Try.func19, Try.ntmps19
      go_wp2_with (first | (go_at_call 22; refine (HST.out _ _ ((Below.refl _ _).alloc (Nat.le_refl _) _) rfl).mono ?_; rintro e w2 ⟨rfl, hb2⟩; have h2 : O2 w x w2 := O2.mk' hb2; obtain ⟨c0, c1, c2, c3, c9⟩ := h2.c; have hz := h2.z; have H2 := (show Hid _ from h2); clear hb2 h2) | fail)
      go_ret
      exact ⟨rfl, H2.out.b⟩
  by_cases n5 : 5 < x.note
  · rw [if_pos (.inr n5)]
    rcases h01 with hx | hx
    · have g0 : (x.host != 0) = false := by simp [hx]
      have g1 : (x.host != 1) = true := by simp [hx]
      clear hx qh
      go_enter Try.func19, Try.ntmps19
      go_wp2_with (first | (go_at_call 22; refine (HST.out _ _ ((Below.refl _ _).alloc (Nat.le_refl _) _) rfl).mono ?_; rintro e w2 ⟨rfl, hb2⟩; have h2 : O2 w x w2 := O2.mk' hb2; obtain ⟨c0, c1, c2, c3, c9⟩ := h2.c; have hz := h2.z; have H2 := (show Hid _ from h2); clear hb2 h2) | fail)
      go_ret
      exact ⟨rfl, H2.out.b⟩
    · have g0 : (x.host != 0) = true := by simp [hx]
      have g1 : (x.host != 1) = false := by simp [hx]
      clear hx qh
      go_enter Try.func19, Try.ntmps19
      go_wp2_with (first | (go_at_call 22; refine (HST.out _ _ ((Below.refl _ _).alloc (Nat.le_refl _) _) rfl).mono ?_; rintro e w2 ⟨rfl, hb2⟩; have h2 : O2 w x w2 := O2.mk' hb2; obtain ⟨c0, c1, c2, c3, c9⟩ := h2.c; have hz := h2.z; have H2 := (show Hid _ from h2); clear hb2 h2) | fail)
      go_ret
      exact ⟨rfl, H2.out.b⟩
  rw [if_neg (by omega)]
  cases be
  rotate_left
  · rw [if_pos (.inl rfl)]
    rcases h01 with hx | hx
    · have g0 : (x.host != 0) = false := by simp [hx]
      have g1 : (x.host != 1) = true := by simp [hx]
      clear hx qh
      go_enter Try.func19, Try.ntmps19
      go_wp2_with (first | (go_at_call 22; refine (HST.out _ _ ((Below.refl _ _).alloc (Nat.le_refl _) _) rfl).mono ?_; rintro e w2 ⟨rfl, hb2⟩; have h2 : O2 w x w2 := O2.mk' hb2; obtain ⟨c0, c1, c2, c3, c9⟩ := h2.c; have hz := h2.z; have H2 := (show Hid _ from h2); clear hb2 h2) | fail)
      go_ret
      exact ⟨rfl, H2.out.b⟩
    · have g0 : (x.host != 0) = true := by simp [hx]
      have g1 : (x.host != 1) = false := by simp [hx]
      clear hx qh
      go_enter Try.func19, Try.ntmps19
      go_wp2_with (first | (go_at_call 22; refine (HST.out _ _ ((Below.refl _ _).alloc (Nat.le_refl _) _) rfl).mono ?_; rintro e w2 ⟨rfl, hb2⟩; have h2 : O2 w x w2 := O2.mk' hb2; obtain ⟨c0, c1, c2, c3, c9⟩ := h2.c; have hz := h2.z; have H2 := (show Hid _ from h2); clear hb2 h2) | fail)
      go_ret
      exact ⟨rfl, H2.out.b⟩
  cases bc
  · rw [if_neg (by simp)]
    by_cases n2 : x.note = 2
    · rw [if_pos ⟨n2, rfl⟩]
      have k2 : (x.note == 2) = true := by simpa using n2
      clear n2
      rcases h01 with hx | hx
      · have g0 : (x.host != 0) = false := by simp [hx]
        have g1 : (x.host != 1) = true := by simp [hx]
        clear hx qh
        go_enter Try.func19, Try.ntmps19
        go_wp2_with (first | (go_at_call 22; refine (HST.out _ _ ((Below.refl _ _).alloc (Nat.le_refl _) _) rfl).mono ?_; rintro e w2 ⟨rfl, hb2⟩; have h2 : O2 w x w2 := O2.mk' hb2; obtain ⟨c0, c1, c2, c3, c9⟩ := h2.c; have hz := h2.z; have H2 := (show Hid _ from h2); clear hb2 h2) | fail)
        go_ret
        exact ⟨rfl, H2.out.b⟩
      · have g0 : (x.host != 0) = true := by simp [hx]
        have g1 : (x.host != 1) = false := by simp [hx]
        clear hx qh
        go_enter Try.func19, Try.ntmps19
        go_wp2_with (first | (go_at_call 22; refine (HST.out _ _ ((Below.refl _ _).alloc (Nat.le_refl _) _) rfl).mono ?_; rintro e w2 ⟨rfl, hb2⟩; have h2 : O2 w x w2 := O2.mk' hb2; obtain ⟨c0, c1, c2, c3, c9⟩ := h2.c; have hz := h2.z; have H2 := (show Hid _ from h2); clear hb2 h2) | fail)
        go_ret
        exact ⟨rfl, H2.out.b⟩
    · rw [if_neg (by simp [n2])]
      have k2 : (x.note == 2) = false := by simpa using n2
      clear n2
      rcases h01 with hx | hx
      · have g0 : (x.host != 0) = false := by simp [hx]
        have g1 : (x.host != 1) = true := by simp [hx]
        clear hx qh
        go_enter Try.func19, Try.ntmps19
        go_wp2_with (first | (go_at_call 22; refine (HST.out _ _ ((Below.refl _ _).alloc (Nat.le_refl _) _) rfl).mono ?_; rintro e w2 ⟨rfl, hb2⟩; have h2 : O2 w x w2 := O2.mk' hb2; obtain ⟨c0, c1, c2, c3, c9⟩ := h2.c; have hz := h2.z; have H2 := (show Hid _ from h2); clear hb2 h2) | fail)
        go_ret
        exact ⟨rfl, H2.out.b⟩
      · have g0 : (x.host != 0) = true := by simp [hx]
        have g1 : (x.host != 1) = false := by simp [hx]
        clear hx qh
        go_enter Try.func19, Try.ntmps19
        go_wp2_with (first | (go_at_call 22; refine (HST.out _ _ ((Below.refl _ _).alloc (Nat.le_refl _) _) rfl).mono ?_; rintro e w2 ⟨rfl, hb2⟩; have h2 : O2 w x w2 := O2.mk' hb2; obtain ⟨c0, c1, c2, c3, c9⟩ := h2.c; have hz := h2.z; have H2 := (show Hid _ from h2); clear hb2 h2) | fail)
        go_ret
        exact ⟨rfl, H2.out.b⟩
  · by_cases e1 : x.note = 1
    · rw [if_pos (.inr ⟨rfl, e1⟩)]
      have k1 : (x.note == 1) = true := by simpa using e1
      clear e1
      rcases h01 with hx | hx
      · have g0 : (x.host != 0) = false := by simp [hx]
        have g1 : (x.host != 1) = true := by simp [hx]
        clear hx qh
        go_enter Try.func19, Try.ntmps19
        go_wp2_with (first | (go_at_call 22; refine (HST.out _ _ ((Below.refl _ _).alloc (Nat.le_refl _) _) rfl).mono ?_; rintro e w2 ⟨rfl, hb2⟩; have h2 : O2 w x w2 := O2.mk' hb2; obtain ⟨c0, c1, c2, c3, c9⟩ := h2.c; have hz := h2.z; have H2 := (show Hid _ from h2); clear hb2 h2) | fail)
        go_ret
        exact ⟨rfl, H2.out.b⟩
      · have g0 : (x.host != 0) = true := by simp [hx]
        have g1 : (x.host != 1) = false := by simp [hx]
        clear hx qh
        go_enter Try.func19, Try.ntmps19
        go_wp2_with (first | (go_at_call 22; refine (HST.out _ _ ((Below.refl _ _).alloc (Nat.le_refl _) _) rfl).mono ?_; rintro e w2 ⟨rfl, hb2⟩; have h2 : O2 w x w2 := O2.mk' hb2; obtain ⟨c0, c1, c2, c3, c9⟩ := h2.c; have hz := h2.z; have H2 := (show Hid _ from h2); clear hb2 h2) | fail)
        go_ret
        exact ⟨rfl, H2.out.b⟩
    · rw [if_neg (by simp [e1]), if_neg (by simp)]
      have k1 : (x.note == 1) = false := by simpa using e1
      clear e1
      by_cases n2 : x.note = 2
      · have k2 : (x.note == 2) = true := by simpa using n2
        clear n2
        rcases h01 with hx | hx
        · have g0 : (x.host != 0) = false := by simp [hx]
          have g1 : (x.host != 1) = true := by simp [hx]
          clear hx qh
          go_enter Try.func19, Try.ntmps19
          go_wp2_with (first | (go_at_call 22; refine (HST.out _ _ ((Below.refl _ _).alloc (Nat.le_refl _) _) rfl).mono ?_; rintro e w2 ⟨rfl, hb2⟩; have h2 : O2 w x w2 := O2.mk' hb2; obtain ⟨c0, c1, c2, c3, c9⟩ := h2.c; have hz := h2.z; have H2 := (show Hid _ from h2); clear hb2 h2) | fail)
          go_ret
          exact ⟨rfl, H2.out.b⟩
        · have g0 : (x.host != 0) = true := by simp [hx]
          have g1 : (x.host != 1) = false := by simp [hx]
          clear hx qh
          go_enter Try.func19, Try.ntmps19
          go_wp2_with (first | (go_at_call 22; refine (HST.out _ _ ((Below.refl _ _).alloc (Nat.le_refl _) _) rfl).mono ?_; rintro e w2 ⟨rfl, hb2⟩; have h2 : O2 w x w2 := O2.mk' hb2; obtain ⟨c0, c1, c2, c3, c9⟩ := h2.c; have hz := h2.z; have H2 := (show Hid _ from h2); clear hb2 h2) | fail)
          go_ret
          exact ⟨rfl, H2.out.b⟩
      · have k2 : (x.note == 2) = false := by simpa using n2
        clear n2
        rcases h01 with hx | hx
        · have g0 : (x.host != 0) = false := by simp [hx]
          have g1 : (x.host != 1) = true := by simp [hx]
          clear hx qh
          go_enter Try.func19, Try.ntmps19
          go_wp2_with (first | (go_at_call 22; refine (HST.out _ _ ((Below.refl _ _).alloc (Nat.le_refl _) _) rfl).mono ?_; rintro e w2 ⟨rfl, hb2⟩; have h2 : O2 w x w2 := O2.mk' hb2; obtain ⟨c0, c1, c2, c3, c9⟩ := h2.c; have hz := h2.z; have H2 := (show Hid _ from h2); clear hb2 h2) | fail)
          go_ret
          exact ⟨rfl, H2.out.b⟩
        · have g0 : (x.host != 0) = true := by simp [hx]
          have g1 : (x.host != 1) = false := by simp [hx]
          clear hx qh
          go_enter Try.func19, Try.ntmps19
          go_wp2_with (first | (go_at_call 22; refine (HST.out _ _ ((Below.refl _ _).alloc (Nat.le_refl _) _) rfl).mono ?_; rintro e w2 ⟨rfl, hb2⟩; have h2 : O2 w x w2 := O2.mk' hb2; obtain ⟨c0, c1, c2, c3, c9⟩ := h2.c; have hz := h2.z; have H2 := (show Hid _ from h2); clear hb2 h2) | fail)
          go_ret
          exact ⟨rfl, H2.out.b⟩
set_option maxRecDepth 100000 in
set_option maxHeartbeats 8000000 in
theorem one_got (a : Option Addr) (m c : Nat) (ds : List Mk) (x : Mk) (w : World) (hS : SlM w a m c ds) (hm : m ≤ 1000) (h01 : x.host = 0 ∨ x.host = 1) (h1 : (x.is == 1) = false) (h2 : (x.is == 2) = true) (hxw : x.Wf w) :
    Calls Try.prog 19 #[.slice a m c, .agg #[.int .i64 x.is, .int .i64 x.host, .int .u32 (x.own : Nat), .int .u32 (x.peer : Nat), .int .u16 (x.mst : Nat), .int .u16 (x.mssn : Nat), .int .u32 (x.mpp : Nat), .bool x.mfree, .slice x.mdA x.mdN x.mdC, .int .i64 x.note]] w fun e w' => e = .returned (.int .i64 (gotR x.msg (leftJ ds (oth x.sd)))) ∧ Below w.heap.size w w' := by
  have qh : ((x.host != 0) && (x.host != 1)) = false := by rcases h01 with h | h <;> simp [h]
  obtain ⟨be, HBE⟩ : ∃ be, Hid (be = endJ ds x.sd) := ⟨_, rfl⟩
  obtain ⟨bc, HBC⟩ : ∃ bc, Hid (bc = camJ ds x.sd) := ⟨_, rfl⟩
  obtain ⟨bs, HBS⟩ : ∃ bs, Hid (bs = shuJ ds x.sd) := ⟨_, rfl⟩
  have HST : Hid (∀ W u, Below w.heap.size w W → u = .agg x.vals.toArray → Calls Try.prog 22 #[.slice a m c, u] W fun e w' => e = .returned (.tuple #[.bool be, .bool bc, .bool bs]) ∧ Below W.heap.size W w') := fun W u hW hu => (stands19_any a m c ds x W (hS.below hW) hm _ u rfl hu).mono fun e w' h => ⟨by rw [HBE.out, HBC.out, HBS.out]; exact h.1, h.2⟩
  have HLF : Hid (∀ W, Below w.heap.size w W → Calls Try.prog 14 #[.slice a m c, .int .i64 (1 - x.host), .int .u32 (x.peer : Nat), .int .u32 (x.own : Nat)] W (RowM W (leftJ ds (oth x.sd)))) := fun W hW => rleft_any a m c ds (oth x.sd) W (hS.below hW) hm _ rfl
  have HSS := (show Hid _ from hS)
  clear hS
  rcases h01 with hx | hx
  · have g0 : (x.host != 0) = false := by simp [hx]
    have g1 : (x.host != 1) = true := by simp [hx]
    have hw0 : (0 : Int) ≤ x.host := by omega
    have hw1 : x.host ≤ 1 := by omega
    clear hx qh
    go_enter Try.func19, Try.ntmps19
    go_wp2_with (first | (go_at_call 22; refine (HST.out _ _ ((Below.refl _ _).alloc (Nat.le_refl _) _) rfl).mono ?_; rintro e w2 ⟨rfl, hb2⟩; have h2 : O2 w x w2 := O2.mk' hb2; obtain ⟨c0, c1, c2, c3, c9⟩ := h2.c; have hz := h2.z; have H2 := (show Hid _ from h2); clear hb2 h2) | (go_at_call 14; refine (HLF.out _ H2.out.b).mono ?_; rintro e w3 ⟨⟨la, ln, lc, rfl, hO⟩, hb3⟩; have HO := (show Hid _ from hO); have H3 := (show Hid _ from H2.out.below hb3); clear hO hb3 c0 c1 c2 c3 c9 hz) | fail)
    have hz3 := H3.out.z
    obtain ⟨L, hL⟩ : ∃ L, L = leftJ ds (oth x.sd) := ⟨_, rfl⟩
    rw [← hL] at HO
    have HLL := (show Hid _ from hL)
    clear hL
    have HLN : Hid (ln = L.length) := HO.out.len.symm
    have hcap := HO.out.cap
    unfold maxLen at hcap
    go_loopw [9] (fun kv wr => ∃ k : Nat, kv = .int .i64 (k : Nat) ∧ k ≤ ln ∧ gotR x.msg L = gotR x.msg (L.drop k) ∧ Below w3.heap.size w3 wr) (fun kv _ => ln - (intOf kv).toNat)
    case atStart => exact ⟨0, rfl, by omega, rfl, Below.refl _ _⟩
    case round =>
      obtain ⟨k, rfl, hkl, hgr, hbk⟩ := hrel
      have HGR := (show Hid _ from hgr)
      clear hgr
      by_cases hkn : k < ln
      · have hk1 : (k : Int) < (ln : Int) := by omega
        have hk0 : (0 : Int) ≤ (k : Int) := by omega
        obtain ⟨y, hy⟩ : ∃ y, L[k]? = some y := ⟨_, List.getElem?_eq_getElem (by have := HLN.out; omega)⟩
        have HDR : Hid (L.drop k = y :: L.drop (k + 1)) := by
          show _ = _
          have hj := (List.getElem?_eq_some_iff.1 hy).1
          rw [List.drop_eq_getElem_cons hj, (List.getElem?_eq_some_iff.1 hy).2]
        obtain ⟨g0, rfl, hgB, hgl, hlc, hcm, hcell, _⟩ := HO.out.at_ mgLays.len (by omega)
        have HCY : Hid (w3.rangeAt g0 (k * 5) y.cells) := fun j u hu => hcell k y hy j u hu
        have HYO : Hid (∀ V, Below w3.heap.size w3 V → y.Ok V ∧ x.msg.Ok V) := fun V hV => by
          obtain ⟨x2, hx2, e⟩ := sentL_mem ((leftTo_sub ds (oth x.sd) ds.length (Nat.le_refl _)).subset (HLL.out ▸ List.mem_of_getElem? hy))
          rw [e]
          exact ⟨((HSS.out.wf x2 hx2).msg.below H3.out.b).below hV, ((Mk.Wf.msg hxw).below H3.out.b).below hV⟩
        have HALL : Hid (∀ V, Below w3.heap.size w3 V → V.cell? ⟨g0, k * 5, none⟩ = some (.int .u16 (y.st : Nat)) ∧ V.cell? ⟨g0, k * 5 + 1, none⟩ = some (.int .u16 (y.ssn : Nat)) ∧ V.cell? ⟨g0, k * 5 + 2, none⟩ = some (.int .u32 (y.pp : Nat)) ∧ V.cell? ⟨g0, k * 5 + 3, none⟩ = some (.bool y.free) ∧ V.cell? ⟨g0, k * 5 + 4, none⟩ = some (.slice y.a y.n y.c) ∧ V.cell? ⟨w.heap.size, 4, none⟩ = some (.int .u16 (x.mst : Nat)) ∧ V.cell? ⟨w.heap.size, 5, none⟩ = some (.int .u16 (x.mssn : Nat)) ∧ V.cell? ⟨w.heap.size, 6, none⟩ = some (.int .u32 (x.mpp : Nat)) ∧ V.cell? ⟨w.heap.size, 7, none⟩ = some (.bool x.mfree) ∧ V.cell? ⟨w.heap.size, 8, none⟩ = some (.slice x.mdA x.mdN x.mdC) ∧ Below w3.heap.size w3 V) := fun V hV => ⟨range_below HCY.out hV hgl 0 _ rfl, range_below HCY.out hV hgl 1 _ rfl, range_below HCY.out hV hgl 2 _ rfl, range_below HCY.out hV hgl 3 _ rfl, range_below HCY.out hV hgl 4 _ rfl, range_below H3.out.r hV H3.out.z 4 _ rfl, range_below H3.out.r hV H3.out.z 5 _ rfl, range_below H3.out.r hV H3.out.z 6 _ rfl, range_below H3.out.r hV H3.out.z 7 _ rfl, range_below H3.out.r hV H3.out.z 8 _ rfl, hV⟩
        clear hcell hy hgB hcm
        obtain ⟨y0, y1, y2, y3, y4, x4, x5, x6, x7, x8, _⟩ := HALL.out _ hbk
        obtain ⟨fy, HFY⟩ : ∃ fy, Hid (fy = y.free) := ⟨_, rfl⟩
        obtain ⟨fx, HFX⟩ : ∃ fx, Hid (fx = x.mfree) := ⟨_, rfl⟩
        rw [← HFY.out] at y3
        rw [← HFX.out] at x7
        cases fy <;> cases fx
        · by_cases cs : y.st = x.mst
          · skip
            have qs : ((y.st : Int) != (x.mst : Int)) = false := by simp [cs]
            have HCC := (show Hid (y.free = x.mfree ∧ y.st = x.mst) from And.intro (HFY.out.symm.trans HFX.out) cs)
            clear cs
            go_wp2_with fail
            go_quiet (fail)
            obtain ⟨W, hW⟩ : ∃ W, W = wr.drewN nq := ⟨_, rfl⟩
            rw [← hW]
            have hbW : Below w3.heap.size w3 W := by rw [hW]; exact hbk.trans ((below_drewN (Below.refl _ _) nq).mono hbk.size)
            clear hW y0 y1 y2 y3 y4 x4 x5 x6 x7 x8 hbk
            obtain ⟨A, HAl⟩ : ∃ A, Hid (A = alkJ y x.msg) := ⟨_, rfl⟩
            have hbD : Below w3.heap.size w3 W.drew := hbW.drew
            simp only [Exit.then]
            go_wp2_with fail
            go_region_held3 (fun V => V.cell? ⟨g0, k * 5, none⟩ = some (.int .u16 (y.st : Nat)) ∧ V.cell? ⟨g0, k * 5 + 1, none⟩ = some (.int .u16 (y.ssn : Nat)) ∧ V.cell? ⟨g0, k * 5 + 2, none⟩ = some (.int .u32 (y.pp : Nat)) ∧ V.cell? ⟨g0, k * 5 + 3, none⟩ = some (.bool y.free) ∧ V.cell? ⟨g0, k * 5 + 4, none⟩ = some (.slice y.a y.n y.c) ∧ V.cell? ⟨w.heap.size, 4, none⟩ = some (.int .u16 (x.mst : Nat)) ∧ V.cell? ⟨w.heap.size, 5, none⟩ = some (.int .u16 (x.mssn : Nat)) ∧ V.cell? ⟨w.heap.size, 6, none⟩ = some (.int .u32 (x.mpp : Nat)) ∧ V.cell? ⟨w.heap.size, 7, none⟩ = some (.bool x.mfree) ∧ V.cell? ⟨w.heap.size, 8, none⟩ = some (.slice x.mdA x.mdN x.mdC) ∧ Below w3.heap.size w3 V) (first | exact HALL.out _ (by assumption)) (first
              | (go_at_call 17; refine (alike_any y x.msg _ (HYO.out _ hbD).1 (HYO.out _ hbD).2 _ _ (by rfl) (by rfl)).mono ?_; rintro e w6 ⟨he, hb6⟩; obtain rfl : e = .returned (.bool A) := (by rw [HAl.out]; exact he); clear he; have hb36 := hbD.trans (hb6.mono hbD.size))
              | fail)
            all_goals
              obtain ⟨_, _, _, _, _, _, _, _, x7, _, _⟩ := HALL.out _ hb36
              clear HALL hbD hb6 hbW
              have hcl : H3.out.b = H3.out.b := rfl
              clear hcl
              simp only [Exit.then]
              cases A
              · obtain ⟨FR, HFR⟩ : ∃ FR, Hid (FR = x.mfree) := ⟨_, rfl⟩
                cases FR
                · have qn : (!x.mfree) = true := by rw [← HFR.out]; rfl
                  go_wp2
                  go_ret
                  refine ⟨?_, (H3.out.below hb36).b⟩
                  rw [← HLL.out, HGR.out, HDR.out, gotR, if_pos ⟨HCC.out.1, HCC.out.2⟩, if_neg (by rw [← HAl.out]; simp), if_neg (by show ¬ x.mfree = true; rw [← HFR.out]; simp)]
                  rfl
                · have qn : (!x.mfree) = false := by rw [← HFR.out]; rfl
                  go_wp2
                  go_roundw
                  case rel => exact ⟨k + 1, by go_num, by omega, by rw [HGR.out, HDR.out, gotR, if_pos ⟨HCC.out.1, HCC.out.2⟩, if_neg (by rw [← HAl.out]; simp), if_pos (by show x.mfree = true; rw [← HFR.out])], hb36⟩
                  case measure => simp [intOf]; omega
              · go_wp2
                go_ret
                refine ⟨?_, (H3.out.below hb36).b⟩
                rw [← HLL.out, HGR.out, HDR.out, gotR, if_pos ⟨HCC.out.1, HCC.out.2⟩, if_pos (by rw [← HAl.out])]
                rfl
          · skip
            have qs : ((y.st : Int) != (x.mst : Int)) = true := by simp; omega
            have HCC := (show Hid _ from cs)
            clear cs
            go_wp2_with fail
            go_quiet (fail)
            have hbW : Below w3.heap.size w3 (wr.drewN nq) := hbk.trans ((below_drewN (Below.refl _ _) nq).mono hbk.size)
            simp only [Exit.then]
            go_wp2
            go_roundw
            case rel => exact ⟨k + 1, by go_num, by omega, by rw [HGR.out, HDR.out, gotR, if_neg (fun h => HCC.out h.2)], hbW⟩
            case measure => simp [intOf]; omega
        · have HCC : Hid (¬ y.free = x.mfree) := fun h => by have h9 := HFY.out.trans (h.trans HFX.out.symm); cases h9
          go_wp2_with fail
          go_quiet (fail)
          have hbW : Below w3.heap.size w3 (wr.drewN nq) := hbk.trans ((below_drewN (Below.refl _ _) nq).mono hbk.size)
          simp only [Exit.then]
          go_wp2
          go_roundw
          case rel => exact ⟨k + 1, by go_num, by omega, by rw [HGR.out, HDR.out, gotR, if_neg (fun h => HCC.out h.1)], hbW⟩
          case measure => simp [intOf]; omega
        · have HCC : Hid (¬ y.free = x.mfree) := fun h => by have h9 := HFY.out.trans (h.trans HFX.out.symm); cases h9
          go_wp2_with fail
          go_quiet (fail)
          have hbW : Below w3.heap.size w3 (wr.drewN nq) := hbk.trans ((below_drewN (Below.refl _ _) nq).mono hbk.size)
          simp only [Exit.then]
          go_wp2
          go_roundw
          case rel => exact ⟨k + 1, by go_num, by omega, by rw [HGR.out, HDR.out, gotR, if_neg (fun h => HCC.out h.1)], hbW⟩
          case measure => simp [intOf]; omega
        · by_cases cs : y.st = x.mst
          · skip
            have qs : ((y.st : Int) != (x.mst : Int)) = false := by simp [cs]
            have HCC := (show Hid (y.free = x.mfree ∧ y.st = x.mst) from And.intro (HFY.out.symm.trans HFX.out) cs)
            clear cs
            go_wp2_with fail
            go_quiet (fail)
            obtain ⟨W, hW⟩ : ∃ W, W = wr.drewN nq := ⟨_, rfl⟩
            rw [← hW]
            have hbW : Below w3.heap.size w3 W := by rw [hW]; exact hbk.trans ((below_drewN (Below.refl _ _) nq).mono hbk.size)
            clear hW y0 y1 y2 y3 y4 x4 x5 x6 x7 x8 hbk
            obtain ⟨A, HAl⟩ : ∃ A, Hid (A = alkJ y x.msg) := ⟨_, rfl⟩
            have hbD : Below w3.heap.size w3 W.drew := hbW.drew
            simp only [Exit.then]
            go_wp2_with fail
            go_region_held3 (fun V => V.cell? ⟨g0, k * 5, none⟩ = some (.int .u16 (y.st : Nat)) ∧ V.cell? ⟨g0, k * 5 + 1, none⟩ = some (.int .u16 (y.ssn : Nat)) ∧ V.cell? ⟨g0, k * 5 + 2, none⟩ = some (.int .u32 (y.pp : Nat)) ∧ V.cell? ⟨g0, k * 5 + 3, none⟩ = some (.bool y.free) ∧ V.cell? ⟨g0, k * 5 + 4, none⟩ = some (.slice y.a y.n y.c) ∧ V.cell? ⟨w.heap.size, 4, none⟩ = some (.int .u16 (x.mst : Nat)) ∧ V.cell? ⟨w.heap.size, 5, none⟩ = some (.int .u16 (x.mssn : Nat)) ∧ V.cell? ⟨w.heap.size, 6, none⟩ = some (.int .u32 (x.mpp : Nat)) ∧ V.cell? ⟨w.heap.size, 7, none⟩ = some (.bool x.mfree) ∧ V.cell? ⟨w.heap.size, 8, none⟩ = some (.slice x.mdA x.mdN x.mdC) ∧ Below w3.heap.size w3 V) (first | exact HALL.out _ (by assumption)) (first
              | (go_at_call 17; refine (alike_any y x.msg _ (HYO.out _ hbD).1 (HYO.out _ hbD).2 _ _ (by rfl) (by rfl)).mono ?_; rintro e w6 ⟨he, hb6⟩; obtain rfl : e = .returned (.bool A) := (by rw [HAl.out]; exact he); clear he; have hb36 := hbD.trans (hb6.mono hbD.size))
              | fail)
            all_goals
              obtain ⟨_, _, _, _, _, _, _, _, x7, _, _⟩ := HALL.out _ hb36
              clear HALL hbD hb6 hbW
              have hcl : H3.out.b = H3.out.b := rfl
              clear hcl
              simp only [Exit.then]
              cases A
              · obtain ⟨FR, HFR⟩ : ∃ FR, Hid (FR = x.mfree) := ⟨_, rfl⟩
                cases FR
                · have qn : (!x.mfree) = true := by rw [← HFR.out]; rfl
                  go_wp2
                  go_ret
                  refine ⟨?_, (H3.out.below hb36).b⟩
                  rw [← HLL.out, HGR.out, HDR.out, gotR, if_pos ⟨HCC.out.1, HCC.out.2⟩, if_neg (by rw [← HAl.out]; simp), if_neg (by show ¬ x.mfree = true; rw [← HFR.out]; simp)]
                  rfl
                · have qn : (!x.mfree) = false := by rw [← HFR.out]; rfl
                  go_wp2
                  go_roundw
                  case rel => exact ⟨k + 1, by go_num, by omega, by rw [HGR.out, HDR.out, gotR, if_pos ⟨HCC.out.1, HCC.out.2⟩, if_neg (by rw [← HAl.out]; simp), if_pos (by show x.mfree = true; rw [← HFR.out])], hb36⟩
                  case measure => simp [intOf]; omega
              · go_wp2
                go_ret
                refine ⟨?_, (H3.out.below hb36).b⟩
                rw [← HLL.out, HGR.out, HDR.out, gotR, if_pos ⟨HCC.out.1, HCC.out.2⟩, if_pos (by rw [← HAl.out])]
                rfl
          · skip
            have qs : ((y.st : Int) != (x.mst : Int)) = true := by simp; omega
            have HCC := (show Hid _ from cs)
            clear cs
            go_wp2_with fail
            go_quiet (fail)
            have hbW : Below w3.heap.size w3 (wr.drewN nq) := hbk.trans ((below_drewN (Below.refl _ _) nq).mono hbk.size)
            simp only [Exit.then]
            go_wp2
            go_roundw
            case rel => exact ⟨k + 1, by go_num, by omega, by rw [HGR.out, HDR.out, gotR, if_neg (fun h => HCC.out h.2)], hbW⟩
            case measure => simp [intOf]; omega
      · obtain rfl : k = ln := by omega
        have hk1 : ¬ (k : Int) < (k : Int) := by omega
        go_wp2
        go_ret
        refine ⟨?_, (H3.out.below hbk).b⟩
        rw [← HLL.out, HGR.out, List.drop_eq_nil_of_le (by have := HLN.out; omega)]
        rfl
  · have g0 : (x.host != 0) = true := by simp [hx]
    have g1 : (x.host != 1) = false := by simp [hx]
    have hw0 : (0 : Int) ≤ x.host := by omega
    have hw1 : x.host ≤ 1 := by omega
    clear hx qh
    go_enter Try.func19, Try.ntmps19
    go_wp2_with (first | (go_at_call 22; refine (HST.out _ _ ((Below.refl _ _).alloc (Nat.le_refl _) _) rfl).mono ?_; rintro e w2 ⟨rfl, hb2⟩; have h2 : O2 w x w2 := O2.mk' hb2; obtain ⟨c0, c1, c2, c3, c9⟩ := h2.c; have hz := h2.z; have H2 := (show Hid _ from h2); clear hb2 h2) | (go_at_call 14; refine (HLF.out _ H2.out.b).mono ?_; rintro e w3 ⟨⟨la, ln, lc, rfl, hO⟩, hb3⟩; have HO := (show Hid _ from hO); have H3 := (show Hid _ from H2.out.below hb3); clear hO hb3 c0 c1 c2 c3 c9 hz) | fail)
    have hz3 := H3.out.z
    obtain ⟨L, hL⟩ : ∃ L, L = leftJ ds (oth x.sd) := ⟨_, rfl⟩
    rw [← hL] at HO
    have HLL := (show Hid _ from hL)
    clear hL
    have HLN : Hid (ln = L.length) := HO.out.len.symm
    have hcap := HO.out.cap
    unfold maxLen at hcap
    go_loopw [9] (fun kv wr => ∃ k : Nat, kv = .int .i64 (k : Nat) ∧ k ≤ ln ∧ gotR x.msg L = gotR x.msg (L.drop k) ∧ Below w3.heap.size w3 wr) (fun kv _ => ln - (intOf kv).toNat)
    case atStart => exact ⟨0, rfl, by omega, rfl, Below.refl _ _⟩
    case round =>
      obtain ⟨k, rfl, hkl, hgr, hbk⟩ := hrel
      have HGR := (show Hid _ from hgr)
      clear hgr
      by_cases hkn : k < ln
      · have hk1 : (k : Int) < (ln : Int) := by omega
        have hk0 : (0 : Int) ≤ (k : Int) := by omega
        obtain ⟨y, hy⟩ : ∃ y, L[k]? = some y := ⟨_, List.getElem?_eq_getElem (by have := HLN.out; omega)⟩
        have HDR : Hid (L.drop k = y :: L.drop (k + 1)) := by
          show _ = _
          have hj := (List.getElem?_eq_some_iff.1 hy).1
          rw [List.drop_eq_getElem_cons hj, (List.getElem?_eq_some_iff.1 hy).2]
        obtain ⟨g0, rfl, hgB, hgl, hlc, hcm, hcell, _⟩ := HO.out.at_ mgLays.len (by omega)
        have HCY : Hid (w3.rangeAt g0 (k * 5) y.cells) := fun j u hu => hcell k y hy j u hu
        have HYO : Hid (∀ V, Below w3.heap.size w3 V → y.Ok V ∧ x.msg.Ok V) := fun V hV => by
          obtain ⟨x2, hx2, e⟩ := sentL_mem ((leftTo_sub ds (oth x.sd) ds.length (Nat.le_refl _)).subset (HLL.out ▸ List.mem_of_getElem? hy))
          rw [e]
          exact ⟨((HSS.out.wf x2 hx2).msg.below H3.out.b).below hV, ((Mk.Wf.msg hxw).below H3.out.b).below hV⟩
        have HALL : Hid (∀ V, Below w3.heap.size w3 V → V.cell? ⟨g0, k * 5, none⟩ = some (.int .u16 (y.st : Nat)) ∧ V.cell? ⟨g0, k * 5 + 1, none⟩ = some (.int .u16 (y.ssn : Nat)) ∧ V.cell? ⟨g0, k * 5 + 2, none⟩ = some (.int .u32 (y.pp : Nat)) ∧ V.cell? ⟨g0, k * 5 + 3, none⟩ = some (.bool y.free) ∧ V.cell? ⟨g0, k * 5 + 4, none⟩ = some (.slice y.a y.n y.c) ∧ V.cell? ⟨w.heap.size, 4, none⟩ = some (.int .u16 (x.mst : Nat)) ∧ V.cell? ⟨w.heap.size, 5, none⟩ = some (.int .u16 (x.mssn : Nat)) ∧ V.cell? ⟨w.heap.size, 6, none⟩ = some (.int .u32 (x.mpp : Nat)) ∧ V.cell? ⟨w.heap.size, 7, none⟩ = some (.bool x.mfree) ∧ V.cell? ⟨w.heap.size, 8, none⟩ = some (.slice x.mdA x.mdN x.mdC) ∧ Below w3.heap.size w3 V) := fun V hV => ⟨range_below HCY.out hV hgl 0 _ rfl, range_below HCY.out hV hgl 1 _ rfl, range_below HCY.out hV hgl 2 _ rfl, range_below HCY.out hV hgl 3 _ rfl, range_below HCY.out hV hgl 4 _ rfl, range_below H3.out.r hV H3.out.z 4 _ rfl, range_below H3.out.r hV H3.out.z 5 _ rfl, range_below H3.out.r hV H3.out.z 6 _ rfl, range_below H3.out.r hV H3.out.z 7 _ rfl, range_below H3.out.r hV H3.out.z 8 _ rfl, hV⟩
        clear hcell hy hgB hcm
        obtain ⟨y0, y1, y2, y3, y4, x4, x5, x6, x7, x8, _⟩ := HALL.out _ hbk
        obtain ⟨fy, HFY⟩ : ∃ fy, Hid (fy = y.free) := ⟨_, rfl⟩
        obtain ⟨fx, HFX⟩ : ∃ fx, Hid (fx = x.mfree) := ⟨_, rfl⟩
        rw [← HFY.out] at y3
        rw [← HFX.out] at x7
        cases fy <;> cases fx
        · by_cases cs : y.st = x.mst
          · skip
            have qs : ((y.st : Int) != (x.mst : Int)) = false := by simp [cs]
            have HCC := (show Hid (y.free = x.mfree ∧ y.st = x.mst) from And.intro (HFY.out.symm.trans HFX.out) cs)
            clear cs
            go_wp2_with fail
            go_quiet (fail)
            obtain ⟨W, hW⟩ : ∃ W, W = wr.drewN nq := ⟨_, rfl⟩
            rw [← hW]
            have hbW : Below w3.heap.size w3 W := by rw [hW]; exact hbk.trans ((below_drewN (Below.refl _ _) nq).mono hbk.size)
            clear hW y0 y1 y2 y3 y4 x4 x5 x6 x7 x8 hbk
            obtain ⟨A, HAl⟩ : ∃ A, Hid (A = alkJ y x.msg) := ⟨_, rfl⟩
            have hbD : Below w3.heap.size w3 W.drew := hbW.drew
            simp only [Exit.then]
            go_wp2_with fail
            go_region_held3 (fun V => V.cell? ⟨g0, k * 5, none⟩ = some (.int .u16 (y.st : Nat)) ∧ V.cell? ⟨g0, k * 5 + 1, none⟩ = some (.int .u16 (y.ssn : Nat)) ∧ V.cell? ⟨g0, k * 5 + 2, none⟩ = some (.int .u32 (y.pp : Nat)) ∧ V.cell? ⟨g0, k * 5 + 3, none⟩ = some (.bool y.free) ∧ V.cell? ⟨g0, k * 5 + 4, none⟩ = some (.slice y.a y.n y.c) ∧ V.cell? ⟨w.heap.size, 4, none⟩ = some (.int .u16 (x.mst : Nat)) ∧ V.cell? ⟨w.heap.size, 5, none⟩ = some (.int .u16 (x.mssn : Nat)) ∧ V.cell? ⟨w.heap.size, 6, none⟩ = some (.int .u32 (x.mpp : Nat)) ∧ V.cell? ⟨w.heap.size, 7, none⟩ = some (.bool x.mfree) ∧ V.cell? ⟨w.heap.size, 8, none⟩ = some (.slice x.mdA x.mdN x.mdC) ∧ Below w3.heap.size w3 V) (first | exact HALL.out _ (by assumption)) (first
              | (go_at_call 17; refine (alike_any y x.msg _ (HYO.out _ hbD).1 (HYO.out _ hbD).2 _ _ (by rfl) (by rfl)).mono ?_; rintro e w6 ⟨he, hb6⟩; obtain rfl : e = .returned (.bool A) := (by rw [HAl.out]; exact he); clear he; have hb36 := hbD.trans (hb6.mono hbD.size))
              | fail)
            all_goals
              obtain ⟨_, _, _, _, _, _, _, _, x7, _, _⟩ := HALL.out _ hb36
              clear HALL hbD hb6 hbW
              have hcl : H3.out.b = H3.out.b := rfl
              clear hcl
              simp only [Exit.then]
              cases A
              · obtain ⟨FR, HFR⟩ : ∃ FR, Hid (FR = x.mfree) := ⟨_, rfl⟩
                cases FR
                · have qn : (!x.mfree) = true := by rw [← HFR.out]; rfl
                  go_wp2
                  go_ret
                  refine ⟨?_, (H3.out.below hb36).b⟩
                  rw [← HLL.out, HGR.out, HDR.out, gotR, if_pos ⟨HCC.out.1, HCC.out.2⟩, if_neg (by rw [← HAl.out]; simp), if_neg (by show ¬ x.mfree = true; rw [← HFR.out]; simp)]
                  rfl
                · have qn : (!x.mfree) = false := by rw [← HFR.out]; rfl
                  go_wp2
                  go_roundw
                  case rel => exact ⟨k + 1, by go_num, by omega, by rw [HGR.out, HDR.out, gotR, if_pos ⟨HCC.out.1, HCC.out.2⟩, if_neg (by rw [← HAl.out]; simp), if_pos (by show x.mfree = true; rw [← HFR.out])], hb36⟩
                  case measure => simp [intOf]; omega
              · go_wp2
                go_ret
                refine ⟨?_, (H3.out.below hb36).b⟩
                rw [← HLL.out, HGR.out, HDR.out, gotR, if_pos ⟨HCC.out.1, HCC.out.2⟩, if_pos (by rw [← HAl.out])]
                rfl
          · skip
            have qs : ((y.st : Int) != (x.mst : Int)) = true := by simp; omega
            have HCC := (show Hid _ from cs)
            clear cs
            go_wp2_with fail
            go_quiet (fail)
            have hbW : Below w3.heap.size w3 (wr.drewN nq) := hbk.trans ((below_drewN (Below.refl _ _) nq).mono hbk.size)
            simp only [Exit.then]
            go_wp2
            go_roundw
            case rel => exact ⟨k + 1, by go_num, by omega, by rw [HGR.out, HDR.out, gotR, if_neg (fun h => HCC.out h.2)], hbW⟩
            case measure => simp [intOf]; omega
        · have HCC : Hid (¬ y.free = x.mfree) := fun h => by have h9 := HFY.out.trans (h.trans HFX.out.symm); cases h9
          go_wp2_with fail
          go_quiet (fail)
          have hbW : Below w3.heap.size w3 (wr.drewN nq) := hbk.trans ((below_drewN (Below.refl _ _) nq).mono hbk.size)
          simp only [Exit.then]
          go_wp2
          go_roundw
          case rel => exact ⟨k + 1, by go_num, by omega, by rw [HGR.out, HDR.out, gotR, if_neg (fun h => HCC.out h.1)], hbW⟩
          case measure => simp [intOf]; omega
        · have HCC : Hid (¬ y.free = x.mfree) := fun h => by have h9 := HFY.out.trans (h.trans HFX.out.symm); cases h9
          go_wp2_with fail
          go_quiet (fail)
          have hbW : Below w3.heap.size w3 (wr.drewN nq) := hbk.trans ((below_drewN (Below.refl _ _) nq).mono hbk.size)
          simp only [Exit.then]
          go_wp2
          go_roundw
          case rel => exact ⟨k + 1, by go_num, by omega, by rw [HGR.out, HDR.out, gotR, if_neg (fun h => HCC.out h.1)], hbW⟩
          case measure => simp [intOf]; omega
        · by_cases cs : y.st = x.mst
          · skip
            have qs : ((y.st : Int) != (x.mst : Int)) = false := by simp [cs]
            have HCC := (show Hid (y.free = x.mfree ∧ y.st = x.mst) from And.intro (HFY.out.symm.trans HFX.out) cs)
            clear cs
            go_wp2_with fail
            go_quiet (fail)
            obtain ⟨W, hW⟩ : ∃ W, W = wr.drewN nq := ⟨_, rfl⟩
            rw [← hW]
            have hbW : Below w3.heap.size w3 W := by rw [hW]; exact hbk.trans ((below_drewN (Below.refl _ _) nq).mono hbk.size)
            clear hW y0 y1 y2 y3 y4 x4 x5 x6 x7 x8 hbk
            obtain ⟨A, HAl⟩ : ∃ A, Hid (A = alkJ y x.msg) := ⟨_, rfl⟩
            have hbD : Below w3.heap.size w3 W.drew := hbW.drew
            simp only [Exit.then]
            go_wp2_with fail
            go_region_held3 (fun V => V.cell? ⟨g0, k * 5, none⟩ = some (.int .u16 (y.st : Nat)) ∧ V.cell? ⟨g0, k * 5 + 1, none⟩ = some (.int .u16 (y.ssn : Nat)) ∧ V.cell? ⟨g0, k * 5 + 2, none⟩ = some (.int .u32 (y.pp : Nat)) ∧ V.cell? ⟨g0, k * 5 + 3, none⟩ = some (.bool y.free) ∧ V.cell? ⟨g0, k * 5 + 4, none⟩ = some (.slice y.a y.n y.c) ∧ V.cell? ⟨w.heap.size, 4, none⟩ = some (.int .u16 (x.mst : Nat)) ∧ V.cell? ⟨w.heap.size, 5, none⟩ = some (.int .u16 (x.mssn : Nat)) ∧ V.cell? ⟨w.heap.size, 6, none⟩ = some (.int .u32 (x.mpp : Nat)) ∧ V.cell? ⟨w.heap.size, 7, none⟩ = some (.bool x.mfree) ∧ V.cell? ⟨w.heap.size, 8, none⟩ = some (.slice x.mdA x.mdN x.mdC) ∧ Below w3.heap.size w3 V) (first | exact HALL.out _ (by assumption)) (first
              | (go_at_call 17; refine (alike_any y x.msg _ (HYO.out _ hbD).1 (HYO.out _ hbD).2 _ _ (by rfl) (by rfl)).mono ?_; rintro e w6 ⟨he, hb6⟩; obtain rfl : e = .returned (.bool A) := (by rw [HAl.out]; exact he); clear he; have hb36 := hbD.trans (hb6.mono hbD.size))
              | fail)
            all_goals
              obtain ⟨_, _, _, _, _, _, _, _, x7, _, _⟩ := HALL.out _ hb36
              clear HALL hbD hb6 hbW
              have hcl : H3.out.b = H3.out.b := rfl
              clear hcl
              simp only [Exit.then]
              cases A
              · obtain ⟨FR, HFR⟩ : ∃ FR, Hid (FR = x.mfree) := ⟨_, rfl⟩
                cases FR
                · have qn : (!x.mfree) = true := by rw [← HFR.out]; rfl
                  go_wp2
                  go_ret
                  refine ⟨?_, (H3.out.below hb36).b⟩
                  rw [← HLL.out, HGR.out, HDR.out, gotR, if_pos ⟨HCC.out.1, HCC.out.2⟩, if_neg (by rw [← HAl.out]; simp), if_neg (by show ¬ x.mfree = true; rw [← HFR.out]; simp)]
                  rfl
                · have qn : (!x.mfree) = false := by rw [← HFR.out]; rfl
                  go_wp2
                  go_roundw
                  case rel => exact ⟨k + 1, by go_num, by omega, by rw [HGR.out, HDR.out, gotR, if_pos ⟨HCC.out.1, HCC.out.2⟩, if_neg (by rw [← HAl.out]; simp), if_pos (by show x.mfree = true; rw [← HFR.out])], hb36⟩
                  case measure => simp [intOf]; omega
              · go_wp2
                go_ret
                refine ⟨?_, (H3.out.below hb36).b⟩
                rw [← HLL.out, HGR.out, HDR.out, gotR, if_pos ⟨HCC.out.1, HCC.out.2⟩, if_pos (by rw [← HAl.out])]
                rfl
          · skip
            have qs : ((y.st : Int) != (x.mst : Int)) = true := by simp; omega
            have HCC := (show Hid _ from cs)
            clear cs
            go_wp2_with fail
            go_quiet (fail)
            have hbW : Below w3.heap.size w3 (wr.drewN nq) := hbk.trans ((below_drewN (Below.refl _ _) nq).mono hbk.size)
            simp only [Exit.then]
            go_wp2
            go_roundw
            case rel => exact ⟨k + 1, by go_num, by omega, by rw [HGR.out, HDR.out, gotR, if_neg (fun h => HCC.out h.2)], hbW⟩
            case measure => simp [intOf]; omega
      · obtain rfl : k = ln := by omega
        have hk1 : ¬ (k : Int) < (k : Int) := by omega
        go_wp2
        go_ret
        refine ⟨?_, (H3.out.below hbk).b⟩
        rw [← HLL.out, HGR.out, List.drop_eq_nil_of_le (by have := HLN.out; omega)]
        rfl
end Go.Proofs.Ytpdnkbhgobdniaa
