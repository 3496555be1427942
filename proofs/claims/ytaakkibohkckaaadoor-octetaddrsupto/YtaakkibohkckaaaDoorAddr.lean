/- What octet.Addr answers, letter by letter. -/
import Derived.Test.YtaakkibohkckaaaDoorProg
import Derived.Test.YtaakkibohkckaaaDoorBase
import Derived.Outline
import Derived.WalkLawsBesides
import Derived.WalkSpells
import Derived.Deep.QuietTactic
import Derived.BigQuiet
import Derived.Lib.OthersKept
namespace Go.Proofs.YtaakkibohkckaaaDoor
open Go.RowKit
/-- What has been read of an address. -/
structure Ad where
  ahead : Nat
  points : Nat
  number : Nat
  begun : Bool
structure Ad.ok (s : Ad) : Prop where
  p : s.points ≤ 3
  n : s.number ≤ 255
  a : s.ahead < 256 ^ s.points
theorem Ad.ok.small {s : Ad} (h : s.ok) : s.ahead < 16777216 := by
  have h1 := h.a
  have h2 := h.p
  have : 256 ^ s.points ≤ 256 ^ 3 := Nat.pow_le_pow_right (by omega) h2
  omega
def Ad.point (s : Ad) : Option Ad := if s.begun = true ∧ s.points ≠ 3 then some ⟨s.ahead * 256 + s.number, s.points + 1, 0, false⟩ else none
def Ad.digit (s : Ad) (d : Nat) : Option Ad := if (s.begun = true ∧ s.number = 0) ∨ 255 < s.number * 10 + d then none else some ⟨s.ahead, s.points, s.number * 10 + d, true⟩
def Ad.take (s : Ad) (r : Nat) : Option Ad := if r = 46 then s.point else if r < 48 ∨ 57 < r then none else s.digit (r - 48)
structure AtR (w : World) (R : Nat) (s : Ad) : Prop where
  c0 : w.cell? ⟨R, 0, none⟩ = some (.int .u32 (s.ahead : Nat))
  c1 : w.cell? ⟨R, 1, none⟩ = some (.int .i64 (s.points : Nat))
  c2 : w.cell? ⟨R, 2, none⟩ = some (.int .u32 (s.number : Nat))
  c3 : w.cell? ⟨R, 3, none⟩ = some (.bool s.begun)
  f0 : w.frozen? ⟨R, 0, none⟩ = false
  f1 : w.frozen? ⟨R, 1, none⟩ = false
  f2 : w.frozen? ⟨R, 2, none⟩ = false
  f3 : w.frozen? ⟨R, 3, none⟩ = false
theorem AtR.keep {w w' : World} {R : Nat} {s : Ad} (h : AtR w R s) (hh : w'.heap[R]? = w.heap[R]?) : AtR w' R s := by
  obtain ⟨h0, h1, h2, h3, f0, f1, f2, f3⟩ := h
  refine ⟨?_, ?_, ?_, ?_, ?_, ?_, ?_, ?_⟩
  · rw [World.cell?_of_block (a := ⟨R, 0, none⟩) hh]; exact h0
  · rw [World.cell?_of_block (a := ⟨R, 1, none⟩) hh]; exact h1
  · rw [World.cell?_of_block (a := ⟨R, 2, none⟩) hh]; exact h2
  · rw [World.cell?_of_block (a := ⟨R, 3, none⟩) hh]; exact h3
  · rw [World.frozen?_of_block (a := ⟨R, 0, none⟩) hh]; exact f0
  · rw [World.frozen?_of_block (a := ⟨R, 1, none⟩) hh]; exact f1
  · rw [World.frozen?_of_block (a := ⟨R, 2, none⟩) hh]; exact f2
  · rw [World.frozen?_of_block (a := ⟨R, 3, none⟩) hh]; exact f3
theorem grown_set (w : World) (R o : Nat) (v : Value) : w.grownBy (w.setCell ⟨R, o, none⟩ v) (some R) :=
  ⟨rfl, rfl, rfl, by simp, fun k _ hne => Below.heap_setCell w ⟨R, o, none⟩ v k (fun e => hne (by rw [e]))⟩
theorem cell_off (w : World) (R i j : Nat) (v : Value) (h : i ≠ j) : (w.setCell ⟨R, i, none⟩ v).cell? ⟨R, j, none⟩ = w.cell? ⟨R, j, none⟩ :=
  World.cell?_setCell_other _ _ _ _ (by intro e; injection e with _ e2; exact h e2)
theorem AtR.s0 {w : World} {R : Nat} {s : Ad} (h : AtR w R s) (x : Nat) : AtR (w.setCell ⟨R, 0, none⟩ (.int .u32 (x : Nat))) R ⟨x, s.points, s.number, s.begun⟩ := by
  obtain ⟨h0, h1, h2, h3, f0, f1, f2, f3⟩ := h
  exact ⟨World.cell?_setCell_same _ _ _ h0, by rw [cell_off _ _ _ _ _ (by omega)]; exact h1, by rw [cell_off _ _ _ _ _ (by omega)]; exact h2, by rw [cell_off _ _ _ _ _ (by omega)]; exact h3, by rw [World.frozen?_setCell]; exact f0, by rw [World.frozen?_setCell]; exact f1, by rw [World.frozen?_setCell]; exact f2, by rw [World.frozen?_setCell]; exact f3⟩
theorem AtR.s1 {w : World} {R : Nat} {s : Ad} (h : AtR w R s) (x : Nat) : AtR (w.setCell ⟨R, 1, none⟩ (.int .i64 (x : Nat))) R ⟨s.ahead, x, s.number, s.begun⟩ := by
  obtain ⟨h0, h1, h2, h3, f0, f1, f2, f3⟩ := h
  exact ⟨by rw [cell_off _ _ _ _ _ (by omega)]; exact h0, World.cell?_setCell_same _ _ _ h1, by rw [cell_off _ _ _ _ _ (by omega)]; exact h2, by rw [cell_off _ _ _ _ _ (by omega)]; exact h3, by rw [World.frozen?_setCell]; exact f0, by rw [World.frozen?_setCell]; exact f1, by rw [World.frozen?_setCell]; exact f2, by rw [World.frozen?_setCell]; exact f3⟩
theorem AtR.s2 {w : World} {R : Nat} {s : Ad} (h : AtR w R s) (x : Nat) : AtR (w.setCell ⟨R, 2, none⟩ (.int .u32 (x : Nat))) R ⟨s.ahead, s.points, x, s.begun⟩ := by
  obtain ⟨h0, h1, h2, h3, f0, f1, f2, f3⟩ := h
  exact ⟨by rw [cell_off _ _ _ _ _ (by omega)]; exact h0, by rw [cell_off _ _ _ _ _ (by omega)]; exact h1, World.cell?_setCell_same _ _ _ h2, by rw [cell_off _ _ _ _ _ (by omega)]; exact h3, by rw [World.frozen?_setCell]; exact f0, by rw [World.frozen?_setCell]; exact f1, by rw [World.frozen?_setCell]; exact f2, by rw [World.frozen?_setCell]; exact f3⟩
theorem AtR.s3 {w : World} {R : Nat} {s : Ad} (h : AtR w R s) (x : Bool) : AtR (w.setCell ⟨R, 3, none⟩ (.bool x)) R ⟨s.ahead, s.points, s.number, x⟩ := by
  obtain ⟨h0, h1, h2, h3, f0, f1, f2, f3⟩ := h
  exact ⟨by rw [cell_off _ _ _ _ _ (by omega)]; exact h0, by rw [cell_off _ _ _ _ _ (by omega)]; exact h1, by rw [cell_off _ _ _ _ _ (by omega)]; exact h2, World.cell?_setCell_same _ _ _ h3, by rw [World.frozen?_setCell]; exact f0, by rw [World.frozen?_setCell]; exact f1, by rw [World.frozen?_setCell]; exact f2, by rw [World.frozen?_setCell]; exact f3⟩
theorem grown_drewN (w : World) (n : Nat) (row : Option Nat) : w.grownBy (w.drewN n) row := ⟨rfl, rfl, rfl, Nat.le_refl _, fun _ _ _ => rfl⟩
theorem grown_trans {a b c : World} {row : Option Nat} (h : a.grownBy b row) (k : b.grownBy c row) : a.grownBy c row :=
  ⟨k.os.trans h.os, k.tape.trans h.tape, k.output.trans h.output, Nat.le_trans h.size k.size, fun j hj hne => (k.block j (Nat.lt_of_lt_of_le hj h.size) hne).trans (h.block j hj hne)⟩
theorem or_add (a b : Nat) (ha : a < 16777216) (hb : b ≤ 255) : bits .or .u32 ((a : Int) * 256) (b : Int) = ((a * 256 + b : Nat) : Int) := by
  have h1 := u32_or_nat (a * 256) b (by omega) (by omega)
  rw [nat_join 8 (a * 256) b (by omega) (by omega)] at h1
  rw [show ((a * 256 : Nat) : Int) = (a : Int) * 256 from by omega] at h1
  exact h1
set_option maxHeartbeats 400000 in
theorem whole_any (R : Nat) (s : Ad) (w : World) (h : AtR w R s) (hk : s.ok) :
    Calls Tryd.prog 22 #[.pointer (some ⟨R, 0, none⟩)] w fun e w' => e = .returned (.int .u32 (s.ahead * 256 + s.number : Nat)) ∧ ∃ n, w' = w.drewN n := by
  obtain ⟨h0, h1, h2, h3, f0, f1, f2, f3⟩ := h
  have ha := hk.small
  have hn := hk.n
  have HO := (show Hid _ from or_add s.ahead s.number ha hn)
  generalize s.ahead = a at *
  generalize s.number = n at *
  clear h1 h3 f0 f1 f2 f3 hk
  go_enter Tryd.func22, Tryd.ntmps22
  go_wp2_with fail
  go_quiet (fail)
  go_wp2
  go_ret
  exact ⟨ret_int HO.out, nq, rfl⟩
set_option maxHeartbeats 400000 in
theorem ends_any (R : Nat) (s : Ad) (w : World) (h : AtR w R s) :
    Calls Tryd.prog 21 #[.pointer (some ⟨R, 0, none⟩)] w fun e w' => e = .returned (.bool (s.begun && s.points == 3)) ∧ w' = w := by
  obtain ⟨h0, h1, h2, h3, f0, f1, f2, f3⟩ := h
  obtain ⟨a, p, n, b⟩ := s
  simp only at *
  clear h0 h2 f0 f1 f2 f3
  cases b
  · go_enter Tryd.func21, Tryd.ntmps21
    go_wp2
    go_ret
    exact ⟨rfl, rfl⟩
  · by_cases hp : p = 3
    · have hp' : ((p : Int) == 3) = true := by simp; omega
      go_enter Tryd.func21, Tryd.ntmps21
      go_wp2
      go_ret
      exact ⟨by simp [hp], rfl⟩
    · have hp' : ((p : Int) == 3) = false := by simp; omega
      go_enter Tryd.func21, Tryd.ntmps21
      go_wp2
      go_ret
      exact ⟨by simp [hp], rfl⟩
set_option maxHeartbeats 400000 in
theorem point_no (R : Nat) (s : Ad) (w : World) (h : AtR w R s) (hn : s.point = none) :
    Calls Tryd.prog 31 #[.pointer (some ⟨R, 0, none⟩)] w fun e w' => e = .returned (.bool false) ∧ w' = w := by
  obtain ⟨h0, h1, h2, h3, f0, f1, f2, f3⟩ := h
  obtain ⟨a, p, n, b⟩ := s
  unfold Ad.point at hn
  simp only at *
  clear h0 h2 f0 f1 f2 f3
  cases b
  · clear hn
    go_enter Tryd.func31, Tryd.ntmps31
    go_wp2
    go_ret
    exact ⟨rfl, rfl⟩
  · have hp : p = 3 := by
      by_cases hp : p = 3
      · exact hp
      · simp [hp] at hn
    have hp' : ((p : Int) == 3) = true := by simp; omega
    clear hn hp
    go_enter Tryd.func31, Tryd.ntmps31
    go_wp2
    go_ret
    exact ⟨rfl, rfl⟩
set_option maxHeartbeats 1000000 in
theorem point_yes (R : Nat) (s s' : Ad) (w : World) (h : AtR w R s) (hk : s.ok) (hn : s.point = some s') :
    Calls Tryd.prog 31 #[.pointer (some ⟨R, 0, none⟩)] w fun e w' => e = .returned (.bool true) ∧ AtR w' R s' ∧ w.grownBy w' (some R) := by
  have hw := h
  have hs := hk.small
  have hn2 := hk.n
  have hp2 := hk.p
  obtain ⟨h0, h1, h2, h3, f0, f1, f2, f3⟩ := h
  obtain ⟨a, p, n, b⟩ := s
  unfold Ad.point at hn
  simp only at *
  by_cases hc : b = true ∧ p ≠ 3
  · rw [if_pos hc] at hn
    injection hn with hn
    subst hn
    obtain ⟨rfl, hp⟩ := hc
    have hp' : ((p : Int) == 3) = false := by simp; omega
    clear hp
    go_enter Tryd.func31, Tryd.ntmps31
    go_wp2_with (go_at_call 22; refine (whole_any R ⟨a, p, n, true⟩ _ hw hk).mono ?_; rintro e w' ⟨rfl, nq, rfl⟩)
    go_ret
    refine ⟨rfl, ?_, ?_⟩
    · rw [show ((a : Int) * 256 + (n : Int)) = ((a * 256 + n : Nat) : Int) from by omega, show ((p : Int) + 1) = ((p + 1 : Nat) : Int) from by omega]
      exact (((((hw.keep (w' := w.drewN nq) rfl).s0 _).s1 _).s2 0).s3 false)
    · exact grown_trans (grown_trans (grown_trans (grown_trans (grown_drewN w nq _) (grown_set _ _ _ _)) (grown_set _ _ _ _)) (grown_set _ _ _ _)) (grown_set _ _ _ _)
  · rw [if_neg hc] at hn
    cases hn
set_option maxHeartbeats 400000 in
theorem digit_no (R : Nat) (s : Ad) (d : Nat) (w : World) (h : AtR w R s) (hk : s.ok) (hd : d ≤ 9) (hn : s.digit d = none) :
    Calls Tryd.prog 32 #[.pointer (some ⟨R, 0, none⟩), .int .u32 (d : Nat)] w fun e w' => e = .returned (.bool false) ∧ w' = w := by
  have hn2 := hk.n
  obtain ⟨h0, h1, h2, h3, f0, f1, f2, f3⟩ := h
  obtain ⟨a, p, n, b⟩ := s
  unfold Ad.digit at hn
  simp only at *
  clear h0 h1 f0 f1 f2 f3
  by_cases hc : (b = true ∧ n = 0) ∨ 255 < n * 10 + d
  · clear hn
    by_cases hz : b = true ∧ n = 0
    · obtain ⟨rfl, rfl⟩ := hz
      clear hc
      go_enter Tryd.func32, Tryd.ntmps32
      go_wp2
      go_ret
      exact ⟨rfl, rfl⟩
    · have hg0 := hc.resolve_left hz
      have hg : (255 : Int) < (n : Int) * 10 + (d : Int) := by omega
      clear hg0
      cases b
      · clear hc hz
        go_enter Tryd.func32, Tryd.ntmps32
        go_wp2
        go_ret
        exact ⟨rfl, rfl⟩
      · have hz2 : n ≠ 0 := fun e => hz ⟨rfl, e⟩
        have hz' : ((n : Int) == 0) = false := by simp; omega
        clear hc hz hz2
        go_enter Tryd.func32, Tryd.ntmps32
        go_wp2
        go_ret
        exact ⟨rfl, rfl⟩
  · rw [if_neg hc] at hn
    cases hn
set_option maxHeartbeats 1000000 in
theorem digit_yes (R : Nat) (s s' : Ad) (d : Nat) (w : World) (h : AtR w R s) (hk : s.ok) (hd : d ≤ 9) (hn : s.digit d = some s') :
    Calls Tryd.prog 32 #[.pointer (some ⟨R, 0, none⟩), .int .u32 (d : Nat)] w fun e w' => e = .returned (.bool true) ∧ AtR w' R s' ∧ w.grownBy w' (some R) := by
  have hw := h
  have hn2 := hk.n
  obtain ⟨h0, h1, h2, h3, f0, f1, f2, f3⟩ := h
  obtain ⟨a, p, n, b⟩ := s
  unfold Ad.digit at hn
  simp only at *
  by_cases hc : (b = true ∧ n = 0) ∨ 255 < n * 10 + d
  · rw [if_pos hc] at hn
    cases hn
  · rw [if_neg hc] at hn
    injection hn with hn
    subst hn
    have hg : ¬ (255 : Int) < (n : Int) * 10 + (d : Int) := by omega
    cases b
    · clear hc
      go_enter Tryd.func32, Tryd.ntmps32
      go_wp2
      go_ret
      refine ⟨rfl, ?_, grown_trans (grown_set _ _ _ _) (grown_set _ _ _ _)⟩
      rw [show ((n : Int) * 10 + (d : Int)) = ((n * 10 + d : Nat) : Int) from by omega]
      exact (hw.s2 _).s3 true
    · have hz2 : n ≠ 0 := fun e => hc (.inl ⟨rfl, e⟩)
      have hz' : ((n : Int) == 0) = false := by simp; omega
      clear hc hz2
      go_enter Tryd.func32, Tryd.ntmps32
      go_wp2
      go_ret
      refine ⟨rfl, ?_, grown_trans (grown_set _ _ _ _) (grown_set _ _ _ _)⟩
      rw [show ((n : Int) * 10 + (d : Int)) = ((n * 10 + d : Nat) : Int) from by omega]
      exact (hw.s2 _).s3 true
set_option maxHeartbeats 1000000 in
theorem take_no (R : Nat) (s : Ad) (r : Nat) (w : World) (h : AtR w R s) (hk : s.ok) (hr : r < 2147483648) (hn : s.take r = none) :
    Calls Tryd.prog 20 #[.pointer (some ⟨R, 0, none⟩), .int .i32 (r : Nat)] w fun e w' => e = .returned (.bool false) ∧ w' = w := by
  unfold Ad.take at hn
  by_cases h46 : r = 46
  · subst h46
    rw [if_pos rfl] at hn
    go_enter Tryd.func20, Tryd.ntmps20
    go_wp2_with (go_at_call 31; refine (point_no R s _ h hn).mono ?_; rintro e w' ⟨rfl, rfl⟩)
    go_ret
    exact ⟨rfl, rfl⟩
  · rw [if_neg h46] at hn
    have h46' : ((r : Int) == 46) = false := by simp; omega
    by_cases hlo : r < 48
    · go_enter Tryd.func20, Tryd.ntmps20
      go_wp2
      go_ret
      exact ⟨rfl, rfl⟩
    · by_cases hhi : 57 < r
      · go_enter Tryd.func20, Tryd.ntmps20
        go_wp2
        go_ret
        exact ⟨rfl, rfl⟩
      · rw [if_neg (by omega)] at hn
        have HN := (show Hid _ from hn)
        clear hn
        go_enter Tryd.func20, Tryd.ntmps20
        go_wp2_with fail
        rw [show ((r : Int) - 48) = ((r - 48 : Nat) : Int) from by omega]
        refine (digit_no R s (r - 48) _ h hk (by omega) HN.out).mono ?_
        rintro e w' ⟨rfl, rfl⟩
        go_wp2
        go_ret
        exact ⟨rfl, rfl⟩
set_option maxHeartbeats 1000000 in
theorem take_yes (R : Nat) (s s' : Ad) (r : Nat) (w : World) (h : AtR w R s) (hk : s.ok) (hr : r < 2147483648) (hn : s.take r = some s') :
    Calls Tryd.prog 20 #[.pointer (some ⟨R, 0, none⟩), .int .i32 (r : Nat)] w fun e w' => e = .returned (.bool true) ∧ AtR w' R s' ∧ w.grownBy w' (some R) := by
  unfold Ad.take at hn
  by_cases h46 : r = 46
  · subst h46
    rw [if_pos rfl] at hn
    have HN := (show Hid _ from hn)
    clear hn
    go_enter Tryd.func20, Tryd.ntmps20
    go_wp2_with (go_at_call 31; refine (point_yes R s s' _ h hk HN.out).mono ?_; rintro e w' ⟨rfl, h1, h2⟩)
    go_ret
    exact ⟨rfl, h1, h2⟩
  · rw [if_neg h46] at hn
    have h46' : ((r : Int) == 46) = false := by simp; omega
    by_cases hlo : r < 48 ∨ 57 < r
    · rw [if_pos hlo] at hn; cases hn
    · rw [if_neg hlo] at hn
      have HN := (show Hid _ from hn)
      clear hn
      go_enter Tryd.func20, Tryd.ntmps20
      go_wp2_with fail
      rw [show ((r : Int) - 48) = ((r - 48 : Nat) : Int) from by omega]
      refine (digit_yes R s s' (r - 48) _ h hk (by omega) HN.out).mono ?_
      rintro e w' ⟨rfl, h1, h2⟩
      go_wp2
      go_ret
      exact ⟨rfl, h1, h2⟩
theorem Ad.take_ok {s s' : Ad} {r : Nat} (hk : s.ok) (h : s.take r = some s') : s'.ok := by
  obtain ⟨hp, hn, ha⟩ := hk
  unfold Ad.take at h
  split at h
  · unfold Ad.point at h
    split at h
    · rename_i hc
      injection h with h; subst h
      refine ⟨by simp only; omega, by simp only; omega, ?_⟩
      simp only [Nat.pow_succ]
      omega
    · cases h
  · split at h
    · cases h
    · unfold Ad.digit at h
      split at h
      · cases h
      · injection h with h; subst h
        exact ⟨hp, by simp only; omega, ha⟩
/-- A text read from a place on: the address, the place of the letter, the error. -/
def adRun (s : ByteArray) : Nat → Nat → Nat → Ad → Nat × Nat × Nat
  | 0, _, _, _ => (0, 0, 0)
  | f + 1, pos, place, st =>
    if pos < s.size then
      match st.take (Utf8.decode s pos).1 with
      | none => (0, place, 4)
      | some st' => adRun s f (pos + (Utf8.decode s pos).2) (place + 1) st'
    else if st.begun = true ∧ st.points = 3 then (st.ahead * 256 + st.number, 0, 0) else (0, place, 3)
def adOf (s : ByteArray) : Nat × Nat × Nat := adRun s (s.size + 1) 0 0 ⟨0, 0, 0, false⟩
theorem width_pos (s : ByteArray) (pos : Nat) (h : pos < s.size) : 1 ≤ (Utf8.decode s pos).2 := by
  by_cases ha : (s[pos]'h).toNat < 128
  · rw [decode_ascii s pos h ha]
    exact Nat.le_refl _
  · exact (decode_high s pos h (by omega)).2
set_option maxHeartbeats 2000000 in
theorem addr_any (s : ByteArray) (w : World) (hs : s.size ≤ 281474976710656) :
    Calls Tryd.prog 11 #[.string s] w fun e w' => e = .returned (.tuple #[.int .u32 ((adOf s).1 : Nat), .int .i64 ((adOf s).2.1 : Nat), .int .i64 ((adOf s).2.2 : Nat)]) ∧ Below w.heap.size w w' := by
  go_enter Tryd.func11, Tryd.ntmps11
  go_wp2
  go_loopw [6] (fun i wr => ∃ (pos place f : Nat) (st : Ad), i = .int .i64 place ∧ wr.heap[w.heap.size + 1]? = some (.stringIter s pos) ∧ AtR wr w.heap.size st ∧ st.ok ∧ Hid (adRun s f pos place st = adOf s) ∧ place + f = s.size + 1 ∧ 1 ≤ f ∧ s.size + 1 ≤ pos + f ∧ Below w.heap.size w wr) (fun i _ => s.size + 1 - (intOf i).toNat)
  case atStart =>
    refine ⟨0, 0, s.size + 1, ⟨0, 0, 0, false⟩, rfl, ?_, ?_, ⟨by decide, by decide, by decide⟩, rfl, by omega, by omega, by omega, ?_⟩
    · have := World.iter_heap (w.alloc (Obj.cells #[Value.int IntKind.u32 0, Value.int IntKind.i64 0, Value.int IntKind.u32 0, Value.bool false] 47)) s 0
      simpa using this
    · refine ⟨?_, ?_, ?_, ?_, ?_, ?_, ?_, ?_⟩ <;> simp [World.iter, World.cell?_alloc_lt, World.cell?_alloc_mark, go_sem]
    · exact ((Below.refl _ _).alloc (Nat.le_refl _) _).alloc (by simp) _
  case round =>
    obtain ⟨pos, place, f, st, rfl, hit, hat, hok, HR, hpf, hf1, hf2, hbel⟩ := hrel
    have hsz : w.heap.size + 1 < wr.heap.size := (Array.getElem?_eq_some_iff.1 hit).1
    obtain ⟨f, rfl⟩ : ∃ g, f = g + 1 := ⟨f - 1, by omega⟩
    by_cases hp : pos < s.size
    · have hnx : ∀ ty, (Instr.next (.pointer (some ⟨w.heap.size + 1, 0, none⟩)) true ty).run Tryd.prog wr = _ := fun ty => Lib.run_next_any_at wr (w.heap.size + 1) s pos ty hit hp
      have hr := decode_le s pos
      have hwd := width_pos s pos hp
      have hit2 := Lib.iterAt_heap wr (w.heap.size + 1) s pos (pos + (Utf8.decode s pos).2) hit
      have hat2 : AtR (wr.iterAt (w.heap.size + 1) s (pos + (Utf8.decode s pos).2)) w.heap.size st := hat.keep (Lib.iterAt_other _ _ _ _ _ (by omega))
      have hb2 := Lib.below_iterAt hbel (k := w.heap.size + 1) (by omega) s (pos + (Utf8.decode s pos).2)
      have hz2 := Lib.iterAt_size wr (w.heap.size + 1) s (pos + (Utf8.decode s pos).2)
      cases htk : st.take (Utf8.decode s pos).1 with
      | none =>
        have HE : Hid (adOf s = (0, place, 4)) := by show _ = _; rw [← HR.out]; simp [adRun, hp, htk]
        have HT := (show Hid _ from htk)
        clear htk hit hat HR
        generalize (Utf8.decode s pos).1 = r at *
        generalize (Utf8.decode s pos).2 = l at *
        go_wp2_with fail
        refine (take_no _ st r _ hat2 hok (by omega) HT.out).mono ?_
        rintro e w2 ⟨rfl, hw2⟩
        subst hw2
        go_wp2
        go_ret3
        exact ⟨by rw [HE.out]; rfl, hb2⟩
      | some st' =>
        have HE : Hid (adRun s f (pos + (Utf8.decode s pos).2) (place + 1) st' = adOf s) := by
          show _ = _
          rw [← HR.out]
          simp [adRun, hp, htk]
        have HT := (show Hid _ from htk)
        have hok2 := Ad.take_ok hok htk
        clear htk hit hat HR
        generalize (Utf8.decode s pos).1 = r at *
        generalize (Utf8.decode s pos).2 = l at *
        go_wp2_with fail
        refine (take_yes _ st st' r _ hat2 hok (by omega) HT.out).mono ?_
        rintro e w2 ⟨rfl, ha3, hg3⟩
        have hit3 := (hg3.block (w.heap.size + 1) (by rw [hz2]; omega) (by intro e; injection e; omega)).trans hit2
        have hb3 : Below w.heap.size w w2 := hb2.grown hg3 (by rw [hz2]; omega) (fun k hk => by injection hk; omega)
        clear hat2 hit2 hb2 hg3 hz2 hnx hbel hsz hok HT
        go_wp2
        go_roundw
        case rel => exact ⟨pos + l, place + 1, f, st', by go_num, hit3, ha3, hok2, HE, by omega, by omega, by omega, hb3⟩
        case measure => simp [intOf]; omega
    · have hnx : ∀ ty, (Instr.next (.pointer (some ⟨w.heap.size + 1, 0, none⟩)) true ty).run Tryd.prog wr = _ := fun ty => Lib.run_next_end_at wr (w.heap.size + 1) s pos ty hit hp
      have HE : Hid (adOf s = if st.begun = true ∧ st.points = 3 then (st.ahead * 256 + st.number, 0, 0) else (0, place, 3)) := by
        show _ = _
        rw [← HR.out]
        simp [adRun, hp]
      clear HR
      go_wp2_with fail
      refine (ends_any _ st _ hat).mono ?_
      rintro e w2 ⟨rfl, hw2⟩
      subst hw2
      by_cases hend : st.begun = true ∧ st.points = 3
      · have hend' : (st.begun && st.points == 3) = true := by simp [hend.1, hend.2]
        rw [if_pos hend] at HE
        rw [hend']
        clear hend hend'
        go_wp2_with fail
        refine (whole_any _ st _ hat hok).mono ?_
        rintro e w3 ⟨rfl, nq, rfl⟩
        go_wp2
        go_ret3
        exact ⟨by rw [HE.out]; rfl, ⟨hbel.os, hbel.tape, hbel.output, hbel.size, hbel.block⟩⟩
      · have hend' : (st.begun && st.points == 3) = false := by
          cases hb : st.begun
          · rfl
          · simp; exact fun e => hend ⟨hb, e⟩
        rw [if_neg hend] at HE
        rw [hend']
        clear hend hend'
        go_wp2
        go_ret3
        exact ⟨by rw [HE.out]; rfl, hbel⟩
end Go.Proofs.YtaakkibohkckaaaDoor
