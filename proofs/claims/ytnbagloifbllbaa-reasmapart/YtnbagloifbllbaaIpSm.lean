/- What ip's small functions answer. -/
import Derived.Test.YtnbagloifbllbaaIpM
import Derived.Test.YtnbagloifbllbaaIpLy
import Derived.Test.YtnbagloifbllbaaSt
import Derived.Test.YtnbagloifbllbaaNet
import Derived.Test.YtnbagloifbllbaaSet
namespace Go.Proofs.Ytnbagloifbllbaa
open Go.RowKit

set_option maxRecDepth 100000 in
set_option maxHeartbeats 1000000 in
theorem isCut_any (sr ds pr tt id : Nat) (dn mo : Bool) (of : Int) (a : Option Addr) (n c : Nat) (w : World) (hn : n ≤ 281474976710656) :
    Calls Try.prog 41 #[.agg #[.int .u32 (sr : Nat), .int .u32 (ds : Nat), .int .u8 (pr : Nat), .int .u8 (tt : Nat), .int .u16 (id : Nat), .bool dn, .bool mo, .int .i64 of, .slice a n c]] w fun e w' => e = .returned (.bool (!mo || decide (n % 8 = 0))) ∧ Below w.heap.size w w' := by
  have hbW : Below w.heap.size w (w.alloc (.cells #[.int .u32 (sr : Nat), .int .u32 (ds : Nat), .int .u8 (pr : Nat), .int .u8 (tt : Nat), .int .u16 (id : Nat), .bool dn, .bool mo, .int .i64 of, .slice a n c] 26)) := (Below.refl _ _).alloc (Nat.le_refl _) _
  cases mo with
  | false =>
    go_enter Try.func41, Try.ntmps41
    go_wp2
    go_ret
    exact ⟨rfl, hbW⟩
  | true =>
    have HD : Hid (decide (n % 8 = 0) = ((n : Int) % 8 == 0)) := by
      show _ = _
      rw [Bool.eq_iff_iff]
      simp only [decide_eq_true_eq, beq_iff_eq]
      omega
    go_enter Try.func41, Try.ntmps41
    go_wp2
    go_ret
    exact ⟨by rw [HD.out]; rfl, hbW⟩
set_option maxRecDepth 100000 in
set_option maxHeartbeats 1000000 in
theorem fits_any (sr ds pr tt id : Nat) (dn mo : Bool) (of : Int) (a : Option Addr) (n c : Nat) (w : World) (h0 : 0 ≤ of) (h1 : of ≤ 65528) :
    Calls Try.prog 42 #[.agg #[.int .u32 (sr : Nat), .int .u32 (ds : Nat), .int .u8 (pr : Nat), .int .u8 (tt : Nat), .int .u16 (id : Nat), .bool dn, .bool mo, .int .i64 of, .slice a n c]] w fun e w' => e = .returned (.bool (decide (of + n ≤ 65515))) ∧ Below w.heap.size w w' := by
  have hbW : Below w.heap.size w (w.alloc (.cells #[.int .u32 (sr : Nat), .int .u32 (ds : Nat), .int .u8 (pr : Nat), .int .u8 (tt : Nat), .int .u16 (id : Nat), .bool dn, .bool mo, .int .i64 of, .slice a n c] 26)) := (Below.refl _ _).alloc (Nat.le_refl _) _
  have hw : IntKind.i64.wrap (65515 - of) = 65515 - of := by rw [IntKind.wrap_i64]; omega
  have HD : Hid (decide (of + n ≤ 65515) = decide ((n : Int) ≤ 65515 - of)) := by
    show _ = _
    rw [decide_eq_decide]
    omega
  go_enter Try.func42, Try.ntmps42
  go_wp2
  go_ret
  exact ⟨by rw [HD.out]; rfl, hbW⟩
set_option maxRecDepth 100000 in
set_option maxHeartbeats 1000000 in
theorem mayBe_any (sr ds pr tt id : Nat) (dn mo : Bool) (of : Int) (a : Option Addr) (n c : Nat) (w : World) (hn : n ≤ 281474976710656) :
    Calls Try.prog 26 #[.agg #[.int .u32 (sr : Nat), .int .u32 (ds : Nat), .int .u8 (pr : Nat), .int .u8 (tt : Nat), .int .u16 (id : Nat), .bool dn, .bool mo, .int .i64 of, .slice a n c]] w fun e w' => e = .returned (.int .i64 (mbE mo of n : Nat)) ∧ Below w.heap.size w w' := by
  obtain ⟨W, hW⟩ : ∃ W, W = w.alloc (.cells #[.int .u32 (sr : Nat), .int .u32 (ds : Nat), .int .u8 (pr : Nat), .int .u8 (tt : Nat), .int .u16 (id : Nat), .bool dn, .bool mo, .int .i64 of, .slice a n c] 26) := ⟨_, rfl⟩
  have hX := Stc.new w [.int .u32 (sr : Nat), .int .u32 (ds : Nat), .int .u8 (pr : Nat), .int .u8 (tt : Nat), .int .u16 (id : Nat), .bool dn, .bool mo, .int .i64 of, .slice a n c] 26 W hW
  have hbW : Below w.heap.size w W := by rw [hW]; exact (Below.refl _ _).alloc (Nat.le_refl _) _
  by_cases h1 : of < 0
  · have HE : Hid (mbE mo of n = 2) := by show _ = _; unfold mbE; rw [if_pos (.inl h1)]
    rw [hW] at hbW
    clear hX
    go_enter Try.func26, Try.ntmps26
    go_wp2
    go_ret
    exact ⟨by rw [HE.out]; rfl, hbW⟩
  by_cases h2 : 65528 < of
  · have HE : Hid (mbE mo of n = 2) := by show _ = _; unfold mbE; rw [if_pos (.inr (.inl h2))]
    rw [hW] at hbW
    clear hX
    go_enter Try.func26, Try.ntmps26
    go_wp2
    go_ret
    exact ⟨by rw [HE.out]; rfl, hbW⟩
  by_cases h3 : of % 8 = 0
  case neg =>
    have HE : Hid (mbE mo of n = 2) := by show _ = _; unfold mbE; rw [if_pos (.inr (.inr (.inl h3)))]
    have h3b : (of % 8 == 0) = false := by simpa using h3
    have h3c : (of % 8 != 0) = true := by simpa using h3
    rw [hW] at hbW
    clear hX
    go_enter Try.func26, Try.ntmps26
    go_wp2
    go_ret
    exact ⟨by rw [HE.out]; rfl, hbW⟩
  case pos =>
  have x0 := hX.cell 0 _ rfl
  have x1 := hX.cell 1 _ rfl
  have x2 := hX.cell 2 _ rfl
  have x3 := hX.cell 3 _ rfl
  have x4 := hX.cell 4 _ rfl
  have x5 := hX.cell 5 _ rfl
  have x6 := hX.cell 6 _ rfl
  have x7 := hX.cell 7 _ rfl
  have x8 := hX.cell 8 _ rfl
  have hic := fun W => isCut_any sr ds pr tt id dn mo of a n c W hn
  have hfi := fun W => fits_any sr ds pr tt id dn mo of a n c W (by omega) (by omega)
  by_cases h4 : mo = true ∧ n % 8 ≠ 0
  · have HE : Hid (mbE mo of n = 2) := by show _ = _; unfold mbE; rw [if_pos (.inr (.inr (.inr h4)))]
    have e4 : (!mo || decide (n % 8 = 0)) = false := by rw [h4.1]; simp [h4.2]
    rw [e4] at hic
    clear h4
    go_enter Try.func26, Try.ntmps26
    go_wp2_with fail
    rw [← hW]
    clear hW
    refine (hic W).mono ?_
    rintro e w1 ⟨rfl, b1⟩
    go_wp2
    go_ret
    exact ⟨by rw [HE.out]; rfl, hbW.trans (b1.mono hbW.size)⟩
  · have e4 : (!mo || decide (n % 8 = 0)) = true := by
      cases mo
      · rfl
      · simp at h4; simp [h4]
    rw [e4] at hic
    have HN : Hid (¬ (of < 0 ∨ 65528 < of ∨ of % 8 ≠ 0 ∨ (mo = true ∧ n % 8 ≠ 0))) := by
      intro h
      rcases h with h | h | h | h
      · exact h1 h
      · exact h2 h
      · exact h h3
      · exact h4 h
    clear h4
    go_enter Try.func26, Try.ntmps26
    go_wp2_with fail
    rw [← hW]
    clear hW
    refine (hic W).mono ?_
    rintro e w1 ⟨rfl, b1⟩
    have hX1 := hX.below b1
    have bb1 : Below w.heap.size w w1 := hbW.trans (b1.mono hbW.size)
    clear x0 x1 x2 x3 x4 x5 x6 x7 x8 hX b1 hbW
    have x0 := hX1.cell 0 _ rfl
    have x1 := hX1.cell 1 _ rfl
    have x2 := hX1.cell 2 _ rfl
    have x3 := hX1.cell 3 _ rfl
    have x4 := hX1.cell 4 _ rfl
    have x5 := hX1.cell 5 _ rfl
    have x6 := hX1.cell 6 _ rfl
    have x7 := hX1.cell 7 _ rfl
    have x8 := hX1.cell 8 _ rfl
    go_wp2_with fail
    refine (hfi w1).mono ?_
    rintro e w2 ⟨rfl, b2⟩
    have bb2 : Below w.heap.size w w2 := bb1.trans (b2.mono bb1.size)
    by_cases h5 : of + n ≤ 65515
    · have HE : Hid (mbE mo of n = 0) := by show _ = _; unfold mbE; rw [if_neg HN.out, if_neg (by omega)]
      rw [decide_eq_true h5]
      go_wp2
      go_ret
      exact ⟨by rw [HE.out]; rfl, bb2⟩
    · have HE : Hid (mbE mo of n = 6) := by show _ = _; unfold mbE; rw [if_neg HN.out, if_pos (by omega)]
      rw [decide_eq_false h5]
      go_wp2
      go_ret
      exact ⟨by rw [HE.out]; rfl, bb2⟩
theorem or_hi (x : Nat) (h : x < 8192) : bits .or .u64 (x : Int) 16384 = ((x + 16384 : Nat) : Int) := by
  have e := u64_or_nat x 16384 (by omega) (by omega)
  rw [Nat.or_comm, nat_join 13 16384 x (by omega) (by omega), Nat.add_comm] at e
  exact e
theorem or_lo (x : Nat) (h : x < 8192) : bits .or .u64 (x : Int) 8192 = ((x + 8192 : Nat) : Int) := by
  have e := u64_or_nat x 8192 (by omega) (by omega)
  rw [Nat.or_comm, nat_join 13 8192 x (by omega) (by omega), Nat.add_comm] at e
  exact e
theorem or_both (x : Nat) (h : x < 8192) : bits .or .u64 ((x + 16384 : Nat) : Int) 8192 = ((x + 16384 + 8192 : Nat) : Int) := by
  have e := u64_or_nat (x + 16384) 8192 (by omega) (by omega)
  have e2 : (x + 16384) ||| 8192 = x + 16384 + 8192 := by
    have j1 := nat_join 13 16384 x (by omega) (by omega)
    have j2 := nat_join 13 24576 x (by omega) (by omega)
    rw [Nat.add_comm x, ← j1, Nat.or_assoc, Nat.or_comm x, ← Nat.or_assoc, show 16384 ||| 8192 = 24576 from rfl, j2, j1]
    omega
  rw [e2] at e
  exact e
set_option maxRecDepth 100000 in
set_option maxHeartbeats 1000000 in
theorem flags_any (sr ds pr tt id : Nat) (dn mo : Bool) (of : Int) (a : Option Addr) (n c : Nat) (w : World) (o : Nat) (ho : of = (o : Int)) (hb : o ≤ 65528) :
    Calls Try.prog 44 #[.agg #[.int .u32 (sr : Nat), .int .u32 (ds : Nat), .int .u8 (pr : Nat), .int .u8 (tt : Nat), .int .u16 (id : Nat), .bool dn, .bool mo, .int .i64 of, .slice a n c]] w fun e w' => e = .returned (.int .u64 (flV dn mo o : Nat)) ∧ Below w.heap.size w w' := by
  subst ho
  have hbW : Below w.heap.size w (w.alloc (.cells #[.int .u32 (sr : Nat), .int .u32 (ds : Nat), .int .u8 (pr : Nat), .int .u8 (tt : Nat), .int .u16 (id : Nat), .bool dn, .bool mo, .int .i64 ((o : Nat) : Int), .slice a n c] 26)) := (Below.refl _ _).alloc (Nat.le_refl _) _
  obtain ⟨q, hq⟩ : ∃ q, q = o / 8 := ⟨_, rfl⟩
  have hqb : q < 8192 := by omega
  have hd : (o : Int) / 8 = (q : Int) := by omega
  have hd2 : Int.tdiv (o : Int) 8 = (q : Int) := by rw [Int.tdiv_eq_ediv_of_nonneg (by omega)]; exact hd
  have HQ := (show Hid _ from hq)
  have o1 := or_hi q hqb
  have o2 := or_lo q hqb
  have o3 : bits .or .u64 ((q : Int) + 16384) 8192 = ((q + 16384 + 8192 : Nat) : Int) := by have := or_both q hqb; simpa using this
  clear hq
  cases dn <;> cases mo
  all_goals
    go_enter Try.func44, Try.ntmps44
    go_wp2
    go_ret
    exact ⟨by unfold flV; rw [← HQ.out]; simp [*], hbW⟩
set_option maxRecDepth 100000 in
set_option maxHeartbeats 1000000 in
theorem stamped_any (a : Option Addr) (n c : Nat) (zs : List Nat) (p : Nat) (w : World) (hs : Sl w a n c zs) (hn : n ≤ 140737488351232) :
    Calls Try.prog 45 #[.slice a n c, .int .i64 (p : Nat)] w fun e w' => ∃ a' c', e = .returned (.slice a' (setV zs (p : Int) (net zs) 2).length c') ∧ OwnB w' w.heap.size a' (setV zs (p : Int) (net zs) 2).length c' (setV zs (p : Int) (net zs) 2) ∧ Below w.heap.size w w' := by
  have hN := net_le zs
  have h1 := fun W (h : Sl W a n c zs) => net_any a n c zs W h
  have h2 := fun W (h : Sl W a n c zs) => set_any a n c zs (p : Int) (net zs) 2 W h hn (by omega)
  generalize net zs = N at *
  generalize setV zs (p : Int) N 2 = V at *
  obtain ⟨l, hl⟩ : ∃ l, l = V.length := ⟨_, rfl⟩
  rw [← hl] at h2 ⊢
  clear hl
  go_enter Try.func45, Try.ntmps45
  go_wp2_with fail
  refine (h1 w hs).mono ?_
  rintro e w1 ⟨rfl, b1⟩
  go_wp2_with fail
  refine (h2 w1 (hs.below b1)).mono ?_
  rintro e w2 ⟨a2, c2, rfl, o2, b2⟩
  go_wp2
  go_ret
  exact ⟨a2, c2, rfl, o2.base b1.size, b1.trans (b2.mono b1.size)⟩
theorem setV_mid (A R : List Nat) (s : Nat) (hs : s ≤ 65535) (p : Nat) (hp : p = A.length) : setV (A ++ ([0, 0] ++ R)) (p : Int) s 2 = A ++ (bytesB s 2 ++ R) := by
  subst hp
  have e1 : bytesE s 2 = 0 := by
    unfold bytesE
    rw [if_neg (by omega), if_pos (Nat.div_eq_of_lt (by show s < 65536; omega))]
  have e2 : bytesV s 2 = bytesB s 2 := by unfold bytesV; rw [if_pos e1]; rfl
  have e3 : setE (A ++ ([0, 0] ++ R)).length (A.length : Int) s 2 = 0 := by
    unfold setE
    have : nspanE (A ++ ([0, 0] ++ R)).length (A.length : Int) 2 = 0 := by
      unfold nspanE spanE
      simp only [List.length_append, List.length_cons, List.length_nil]
      rw [if_neg (by omega), if_neg (by omega), if_neg (by omega)]
    rw [if_pos this, e1]
  unfold setV
  rw [if_pos e3, e2, Int.toNat_natCast]
  unfold lay
  rw [List.take_left, bytesB_len, List.drop_append, List.drop_eq_nil_of_le (by omega), Nat.add_sub_cancel_left]
  rfl
end Go.Proofs.Ytnbagloifbllbaa
