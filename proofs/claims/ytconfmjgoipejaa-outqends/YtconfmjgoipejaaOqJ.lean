/- outq: isIn. -/
import Derived.Test.YtconfmjgoipejaaOqA
namespace Go.Proofs.Ytconfmjgoipejaa
open Go.RowKit Go.Shelf
/-- A row of blocks as it lies. -/
structure BlR (w : World) (a : Option Addr) (n c : Nat) (bs : List (Nat × Nat)) : Prop where
  len : bs.length = n
  cap : n ≤ c
  small : n ≤ 35184372088832
  at_ : n = 0 ∨ ∃ b off, a = some ⟨b, off, none⟩ ∧ b < w.heap.size ∧ ∀ i p, bs[i]? = some p → p.1 < 65536 ∧ p.2 < 65536 ∧ w.cell? ⟨b, off + i * 2, none⟩ = some (.int .u16 (p.1 : Nat)) ∧ w.cell? ⟨b, off + i * 2 + 1, none⟩ = some (.int .u16 (p.2 : Nat))
theorem BlR.fr {w w' : World} {a : Option Addr} {n c : Nat} {bs : List (Nat × Nat)} {Q : Nat → Prop} (h : BlR w a n c bs) (hf : Fr Q w w') (hq : ∀ b o s, a = some ⟨b, o, s⟩ → ¬ Q b) : BlR w' a n c bs := by
  refine ⟨h.len, h.cap, h.small, ?_⟩
  rcases h.at_ with h0 | ⟨b, off, rfl, hlt, hc⟩
  · exact .inl h0
  · refine .inr ⟨b, off, rfl, Nat.lt_of_lt_of_le hlt hf.size, fun i p hp => ?_⟩
    obtain ⟨h1, h2, h3, h4⟩ := hc i p hp
    exact ⟨h1, h2, (hf.cell ⟨b, off + i * 2, none⟩ hlt (hq b off none rfl)).trans h3, (hf.cell ⟨b, off + i * 2 + 1, none⟩ hlt (hq b off none rfl)).trans h4⟩
theorem BlR.below {w w' : World} {a : Option Addr} {n c : Nat} {bs : List (Nat × Nat)} (h : BlR w a n c bs) (hb : Below w.heap.size w w') : BlR w' a n c bs := h.fr (Q := fun _ => False) (Fr.of_below hb) (fun _ _ _ _ e => e)
/-- Is a number in one of the blocks? -/
def inB (bs : List (Nat × Nat)) (n : Int) : Bool := bs.any fun p => decide ((p.1 : Int) ≤ n) && decide (n ≤ (p.2 : Int))
theorem isIn1_any (a b : Nat) (n : Int) (x : Nat) (w : World) (ha : a < 65536) (hb : b < 65536) (hx : x < w.heap.size) (hc : w.cell? ⟨x, 0, none⟩ = some (.int .i64 n)) :
    Calls Try.prog 59 #[.agg #[.int .u16 (a : Nat), .int .u16 (b : Nat)], .pointer (some ⟨x, 0, none⟩)] w fun e w' => e = .returned (.bool (decide ((a : Int) ≤ n) && decide (n ≤ (b : Int)))) ∧ Below w.heap.size w w' := by
  by_cases h1 : (a : Int) ≤ n
  · by_cases h2 : n ≤ (b : Int)
    · go_enter Try.func59, Try.ntmps59
      go_wp2
      go_ret
      exact ⟨by simp [h1, h2], (Below.refl _ _).alloc (Nat.le_refl _) _⟩
    · go_enter Try.func59, Try.ntmps59
      go_wp2
      go_ret
      exact ⟨by simp; omega, (Below.refl _ _).alloc (Nat.le_refl _) _⟩
  · go_enter Try.func59, Try.ntmps59
    go_wp2
    go_ret
    exact ⟨by simp; omega, (Below.refl _ _).alloc (Nat.le_refl _) _⟩
theorem inB_take {bs : List (Nat × Nat)} {n : Int} {i : Nat} {p : Nat × Nat} (h : bs[i]? = some p) : inB (bs.take (i + 1)) n = (inB (bs.take i) n || (decide ((p.1 : Int) ≤ n) && decide (n ≤ (p.2 : Int)))) := by
  unfold inB
  rw [List.take_add_one, h]
  simp
theorem inB_more {bs : List (Nat × Nat)} {n : Int} {i : Nat} (h : inB (bs.take i) n = true) : inB bs n = true := by
  unfold inB at *
  rw [List.any_eq_true] at *
  obtain ⟨x, hx, h⟩ := h
  exact ⟨x, List.mem_of_mem_take hx, h⟩
set_option maxRecDepth 100000 in
set_option maxHeartbeats 2000000 in
theorem indexFunc_any {w : World} {a : Option Addr} {m c : Nat} {bs : List (Nat × Nat)} (h : BlR w a m c bs) (n : Int) (x : Nat) (hx : x < w.heap.size) (hc : w.cell? ⟨x, 0, none⟩ = some (.int .i64 n)) :
    Calls Try.prog 62 #[.slice a m c, .func (.func 59) #[] #[.pointer (some ⟨x, 0, none⟩)]] w fun e w' => (∃ r : Int, e = .returned (.int .i64 r) ∧ decide (0 ≤ r) = inB bs n) ∧ Below w.heap.size w w' := by
  have hcap := h.cap
  have hsm := h.small
  have hlen := h.len
  have HR := (show Hid _ from And.intro h hc)
  clear h hc
  go_enter Try.func62, Try.ntmps62
  go_wp2
  go_loopw [8] (fun u wr => ∃ i : Nat, i ≤ m ∧ u = .int .i64 (i : Nat) ∧ Below w.heap.size w wr ∧ inB (bs.take i) n = false) (fun u _ => m - (intOf u).toNat)
  case atStart => exact ⟨0, by omega, rfl, Below.refl _ _, by simp [inB]⟩
  case round =>
    obtain ⟨i, hi, rfl, hb, hno⟩ := hrel
    have HB := (show Hid _ from And.intro hb hno)
    clear hb hno
    by_cases hlt : i < m
    · have hlt1 : (i : Int) < (m : Int) := by omega
      obtain ⟨p, hp⟩ : ∃ p, bs[i]? = some p := ⟨_, List.getElem?_eq_getElem (by omega)⟩
      obtain ⟨b, off, rfl, hbl, hcl⟩ := HR.out.1.at_.resolve_left (by omega)
      obtain ⟨p1, p2, c0, c1⟩ := hcl i p hp
      have d0 := (HB.out.1.cell (p := ⟨b, off + i * 2, none⟩) hbl).trans c0
      have d1 := (HB.out.1.cell (p := ⟨b, off + i * 2 + 1, none⟩) hbl).trans c1
      have HT := (show Hid _ from inB_take (n := n) hp)
      have HC := (show Hid _ from isIn1_any p.1 p.2 n x wr p1 p2 (Nat.lt_of_lt_of_le hx HB.out.1.size) ((HB.out.1.cell (p := ⟨x, 0, none⟩) hx).trans HR.out.2))
      obtain ⟨t, ht⟩ : ∃ t, t = (decide ((p.1 : Int) ≤ n) && decide (n ≤ (p.2 : Int))) := ⟨_, rfl⟩
      rw [← ht] at HC HT
      clear hcl hp c0 c1 ht
      go_wp2_with fail
      refine Calls.mono HC.out ?_
      clear HC d0 d1
      rintro e w2 ⟨rfl, b2⟩
      have HB2 : Hid (Below w.heap.size w w2) := HB.out.1.trans (b2.mono HB.out.1.size)
      clear b2
      cases t with
      | true =>
        go_wp2
        go_ret
        exact ⟨⟨(i : Nat), rfl, by rw [inB_more (i := i + 1) (by rw [HT.out]; simp)]; simp⟩, HB2.out⟩
      | false =>
        go_wp2
        go_roundw
        case rel => exact ⟨i + 1, by omega, by go_num, HB2.out, by rw [HT.out, HB.out.2]; rfl⟩
        case measure => simp [intOf]; omega
    · have hlt1 : ¬ (i : Int) < (m : Int) := by omega
      go_wp2
      go_ret
      refine ⟨⟨-1, rfl, ?_⟩, HB.out.1⟩
      have := HB.out.2
      rw [List.take_of_length_le (by omega)] at this
      rw [this]
      rfl
theorem isIn_any {w : World} {a : Option Addr} {m c : Nat} {bs : List (Nat × Nat)} (h : BlR w a m c bs) (n : Int) :
    Calls Try.prog 50 #[.slice a m c, .int .i64 n] w fun e w' => e = .returned (.bool (inB bs n)) ∧ Below w.heap.size w w' := by
  obtain ⟨V, hV⟩ : ∃ V, V = w.alloc (.cells #[.int .i64 n] 3) := ⟨_, rfl⟩
  have bV : Below w.heap.size w V := by rw [hV]; exact (Below.refl _ _).alloc (Nat.le_refl _) _
  have cV : V.cell? ⟨w.heap.size, 0, none⟩ = some (.int .i64 n) := by rw [hV]; exact box_new w _ _
  have HI := (show Hid _ from fun (_ : Unit) => indexFunc_any (h.below bV) n w.heap.size (by rw [hV]; simp) cV)
  have HC : Hid (Calls Try.prog 58 #[.slice a m c, .func (.func 59) #[] #[.pointer (some ⟨w.heap.size, 0, none⟩)]] V fun e w' => e = .returned (.bool (inB bs n)) ∧ Below V.heap.size V w') := by
    show Calls _ _ _ _ _
    clear hV bV cV
    go_enter Try.func58, Try.ntmps58
    go_wp2_with fail
    refine Calls.mono (HI.out ()) ?_
    rintro e w2 ⟨⟨r, rfl, hr⟩, b2⟩
    have HB := (show Hid _ from And.intro hr b2)
    clear hr b2 HI
    by_cases h0 : r ≥ 0
    · go_wp2
      go_ret
      exact ⟨by rw [← HB.out.1]; simp; exact h0, HB.out.2⟩
    · go_wp2
      go_ret
      exact ⟨by rw [← HB.out.1]; simp, HB.out.2⟩
  have HV := (show Hid _ from And.intro hV bV)
  clear hV bV cV HI
  go_enter Try.func50, Try.ntmps50
  go_wp2_with fail
  rw [← HV.out.1]
  refine Calls.mono HC.out ?_
  rintro e w2 ⟨rfl, b2⟩
  have HB : Hid (Below w.heap.size w w2) := HV.out.2.trans (b2.mono HV.out.2.size)
  clear b2 HC
  go_wp2
  go_ret
  exact ⟨rfl, HB.out⟩
end Go.Proofs.Ytconfmjgoipejaa
