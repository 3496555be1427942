/- law15.do: deeds on both ways. -/
import Derived.Test.YteobibinfckmdaaPt4
import Derived.Test.YteobibinfckmdaaPt5
import Derived.Test.YteobibinfckmdaaPtR3
import Derived.Test.YteobibinfckmdaaPtR4
import Derived.Test.YteobibinfckmdaaPtAl
namespace Go.Proofs.Yteobibinfckmdaa
open Go.RowKit
theorem keepD {w w1 : World} {p : Nat} {cs ds : List Value} {D : Nat} (h : Stc w D ds) (hx : PtW w p cs w1) (hne : D ≠ p) : Stc w1 D ds := h.fr hx.fr (fun e => hne e)
theorem PdP.pre {B p q k : Nat} {m : Int} {w w1 : World} {e : Ending} {w' : World} (hb : Below w.heap.size w w1) (h : PdP B p q k m w1 e w') : PdP B p q k m w e w' := ⟨h.ret, h.out, Fr.trans (Fr.of_below hb) h.fr⟩
/-- What stands while a deed is done on both. -/
structure Sd (w0 : World) (p q D : Nat) (sc tc ds : List Value) (W : World) : Prop where
  x : Stc W p sc
  y : Stc W q tc
  d : Stc W D ds
  fr : Fr (fun b => b = p ∨ b = q) w0 W
theorem Sd.next {w0 : World} {p q D : Nat} {sc tc ds : List Value} {W W' : World} (h : Sd w0 p q D sc tc ds W) (hb : Below W.heap.size W W') : Sd w0 p q D sc tc ds W' := ⟨h.x.below hb, h.y.below hb, h.d.below hb, Fr.trans h.fr (Fr.of_below hb)⟩
theorem Sd.onX {w0 : World} {p q D : Nat} {sc tc ds sc2 : List Value} {W W' : World} (h : Sd w0 p q D sc tc ds W) (hx : PtW W p sc2 W') (h1 : p ≠ q) (h2 : D ≠ p) : Sd w0 p q D sc2 tc ds W' := ⟨hx.st, h.y.fr hx.fr (fun e => h1 e.symm), h.d.fr hx.fr (fun e => h2 e), Fr.trans h.fr (hx.fr.mono (fun _ _ e => .inl e))⟩
theorem Sd.onY {w0 : World} {p q D : Nat} {sc tc ds tc2 : List Value} {W W' : World} (h : Sd w0 p q D sc tc ds W) (hy : PtW W q tc2 W') (h1 : p ≠ q) (h2 : D ≠ q) : Sd w0 p q D sc tc2 ds W' := ⟨h.x.fr hy.fr (fun e => h1 e), hy.st, h.d.fr hy.fr (fun e => h2 e), Fr.trans h.fr (hy.fr.mono (fun _ _ e => .inr e))⟩
set_option maxRecDepth 100000 in
set_option maxHeartbeats 4000000 in
theorem do_grow (B p q k : Nat) (s t : Ps) (A C : Int) (mv : Bool) (n : Nat) (w : World) (h : Bt w B p q k s t) (_hk2 : k ≤ 100000) :
    Calls Try.prog 13 #[.pointer (some ⟨p, 0, none⟩), .pointer (some ⟨q, 0, none⟩), .agg #[.int .i64 1, .int .i64 A, .int .i64 C, .bool mv, .int .u64 (n : Nat)]] w (PdP B p q k s.mtu w) := by
  obtain ⟨W, hW⟩ : ∃ W, W = w.alloc (.cells #[.int .i64 1, .int .i64 A, .int .i64 C, .bool mv, .int .u64 (n : Nat)] 38) := ⟨_, rfl⟩
  have hbA : Below w.heap.size w W := by rw [hW]; exact (Below.refl _ _).alloc (Nat.le_refl _) _
  have hA := h.below hbA
  have hD : Stc W w.heap.size [.int .i64 1, .int .i64 A, .int .i64 C, .bool mv, .int .u64 (n : Nat)] := Stc.new w _ _ _ hW
  have np : w.heap.size ≠ p := by have := h.x.lt; omega
  have nq : w.heap.size ≠ q := by have := h.y.lt; omega
  have npq := h.ne
  have hC : Sd w p q w.heap.size s.cs t.cs [.int .i64 1, .int .i64 A, .int .i64 C, .bool mv, .int .u64 (n : Nat)] W := ⟨hA.x, hA.y, hD, Fr.of_below hbA⟩
  have HALL : Hid (∀ (sc tc : List Value) (w' : World), Sd w p q w.heap.size sc tc [.int .i64 1, .int .i64 A, .int .i64 C, .bool mv, .int .u64 (n : Nat)] w' → w'.cell? ⟨w.heap.size, 1, none⟩ = some (.int .i64 A) ∧ w'.cell? ⟨w.heap.size, 2, none⟩ = some (.int .i64 C) ∧ w'.cell? ⟨w.heap.size, 3, none⟩ = some (.bool mv)) := fun sc tc w' h => ⟨h.d.cell 1 _ rfl, h.d.cell 2 _ rfl, h.d.cell 3 _ rfl⟩
  have hxx : ∀ V V', Sd w p q w.heap.size s.cs t.cs [.int .i64 1, .int .i64 A, .int .i64 C, .bool mv, .int .u64 (n : Nat)] V → Below V.heap.size V V' → ∀ v0 v1 v2 v3, v0 = .pointer (some ⟨p, 0, none⟩) → v1 = .int .i64 A → v2 = .bool mv → v3 = .int .i64 C → Calls Try.prog 21 #[v0, v1, v2, v3] V' fun e w' => e = .returned (.int .i64 (grE A C : Nat)) ∧ Sd w p q w.heap.size (s.grow A mv C).cs t.cs [.int .i64 1, .int .i64 A, .int .i64 C, .bool mv, .int .u64 (n : Nat)] w' := by
    intro V V' hV hb v0 v1 v2 v3 e0 e1 e2 e3
    subst e0
    refine (grow_any k p s A mv C V' (hV.next hb).x hA.kx _hk2 v1 v2 v3 e1 e2 e3).mono ?_
    rintro e w' ⟨h1, h2⟩
    exact ⟨h1, (hV.next hb).onX h2 npq np⟩
  have hyy : ∀ V V', Sd w p q w.heap.size (s.grow A mv C).cs t.cs [.int .i64 1, .int .i64 A, .int .i64 C, .bool mv, .int .u64 (n : Nat)] V → Below V.heap.size V V' → ∀ v0 v1 v2 v3, v0 = .pointer (some ⟨q, 0, none⟩) → v1 = .int .i64 A → v2 = .bool mv → v3 = .int .i64 C → Calls Try.prog 24 #[v0, v1, v2, v3] V' fun e w' => e = .returned (.int .i64 (grE A C : Nat)) ∧ Sd w p q w.heap.size (s.grow A mv C).cs (t.grow A mv C).cs [.int .i64 1, .int .i64 A, .int .i64 C, .bool mv, .int .u64 (n : Nat)] w' := by
    intro V V' hV hb v0 v1 v2 v3 e0 e1 e2 e3
    subst e0
    refine (rgrow_any k q t A mv C V' (hV.next hb).y hA.ky _hk2 v1 v2 v3 e1 e2 e3).mono ?_
    rintro e w' ⟨h1, h2⟩
    exact ⟨h1, (hV.next hb).onY h2 npq nq⟩
  have HFIN : Hid (∀ V, Sd w p q w.heap.size (s.grow A mv C).cs (t.grow A mv C).cs [.int .i64 1, .int .i64 A, .int .i64 C, .bool mv, .int .u64 (n : Nat)] V → PdP B p q k s.mtu w (.returned (.bool true)) V) := fun V hV => ⟨rfl, ⟨_, _, ⟨hV.x, hV.y, h.ne, h.bp, h.bq, pok_grow hA.kx A mv C, pok_grow hA.ky A mv C, hA.al.grow A mv C⟩, mtu_grow s A mv C⟩, hV.fr⟩
  clear hA hD hbA h
  generalize grE A C = r at *
  go_enter Try.func13, Try.ntmps13
  go_wp2_with fail
  rw [← hW]
  clear hW
  have hC1 := hC.next (Below.refl _ _).drew
  obtain ⟨a1, a2, a3⟩ := HALL.out _ _ _ hC1
  have hC' := hC1
  clear hC hC1
  go_region_held3 (fun w' => w'.cell? ⟨w.heap.size, 1, none⟩ = some (.int .i64 A) ∧ w'.cell? ⟨w.heap.size, 2, none⟩ = some (.int .i64 C) ∧ w'.cell? ⟨w.heap.size, 3, none⟩ = some (.bool mv)) (first | exact ⟨by assumption, by assumption, by assumption⟩ | fail) (first
    | (go_at_call 21; refine (hxx _ _ hC' (by first | exact Below.refl _ _ | exact (Below.refl _ _).drew) _ _ _ _ (by rfl) (by rfl) (by rfl) (by rfl)).mono ?_; rintro e wX ⟨rfl, hC'⟩; obtain ⟨b1, b2, b3⟩ := HALL.out _ _ _ hC')
    | (go_at_call 24; refine (hyy _ _ hC' (by first | exact Below.refl _ _ | exact (Below.refl _ _).drew) _ _ _ _ (by rfl) (by rfl) (by rfl) (by rfl)).mono ?_; rintro e wY ⟨rfl, hC'⟩; obtain ⟨g1, g2, g3⟩ := HALL.out _ _ _ hC')
    | fail)
  all_goals
    have HP := (show Hid _ from HFIN.out _ hC')
    go_wp2
    go_ret
    first
      | exact HP.out
      | (trace_state; fail)
set_option maxRecDepth 100000 in
set_option maxHeartbeats 4000000 in
theorem do_fast (B p q k : Nat) (s t : Ps) (A C : Int) (mv : Bool) (n : Nat) (w : World) (h : Bt w B p q k s t) (_hk2 : k ≤ 100000) :
    Calls Try.prog 13 #[.pointer (some ⟨p, 0, none⟩), .pointer (some ⟨q, 0, none⟩), .agg #[.int .i64 2, .int .i64 A, .int .i64 C, .bool mv, .int .u64 (n : Nat)]] w (PdP B p q k s.mtu w) := by
  obtain ⟨W, hW⟩ : ∃ W, W = w.alloc (.cells #[.int .i64 2, .int .i64 A, .int .i64 C, .bool mv, .int .u64 (n : Nat)] 38) := ⟨_, rfl⟩
  have hbA : Below w.heap.size w W := by rw [hW]; exact (Below.refl _ _).alloc (Nat.le_refl _) _
  have hA := h.below hbA
  have hD : Stc W w.heap.size [.int .i64 2, .int .i64 A, .int .i64 C, .bool mv, .int .u64 (n : Nat)] := Stc.new w _ _ _ hW
  have np : w.heap.size ≠ p := by have := h.x.lt; omega
  have nq : w.heap.size ≠ q := by have := h.y.lt; omega
  go_enter Try.func13, Try.ntmps13
  go_wp2_with fail
  rw [← hW]
  clear hW
  refine (fast_any k p s W hA.x hA.kx).mono ?_
  rintro e w1 ⟨rfl, h1⟩
  have hD1 := keepD hD h1 np
  have hy := rfast_any k q t w1 (hA.y.fr h1.fr (fun e => hA.ne e.symm)) hA.ky
  have HF : Hid (∀ w2, PtW w1 q (t.narrow).cs w2 → PdP B p q k s.mtu w (.returned (.bool true)) w2) := fun w2 h2 => PdP.pre hbA (hA.both h1 h2 ((pok_narrow hA.kx).up_ (Nat.le_succ _)) ((pok_narrow hA.ky).up_ (Nat.le_succ _)) hA.al.narrow rfl)
  clear hD1 hD h1 hA h hbA
  go_wp2_with fail
  refine hy.mono ?_
  rintro e w2 ⟨rfl, h2⟩
  have HP := (show Hid _ from HF.out w2 h2)
  clear hy h2 HF
  go_wp2
  go_ret
  exact HP.out
set_option maxRecDepth 100000 in
set_option maxHeartbeats 4000000 in
theorem do_late (B p q k : Nat) (s t : Ps) (A C : Int) (mv : Bool) (n : Nat) (w : World) (h : Bt w B p q k s t) (_hk2 : k ≤ 100000) :
    Calls Try.prog 13 #[.pointer (some ⟨p, 0, none⟩), .pointer (some ⟨q, 0, none⟩), .agg #[.int .i64 3, .int .i64 A, .int .i64 C, .bool mv, .int .u64 (n : Nat)]] w (PdP B p q k s.mtu w) := by
  obtain ⟨W, hW⟩ : ∃ W, W = w.alloc (.cells #[.int .i64 3, .int .i64 A, .int .i64 C, .bool mv, .int .u64 (n : Nat)] 38) := ⟨_, rfl⟩
  have hbA : Below w.heap.size w W := by rw [hW]; exact (Below.refl _ _).alloc (Nat.le_refl _) _
  have hA := h.below hbA
  have hD : Stc W w.heap.size [.int .i64 3, .int .i64 A, .int .i64 C, .bool mv, .int .u64 (n : Nat)] := Stc.new w _ _ _ hW
  have np : w.heap.size ≠ p := by have := h.x.lt; omega
  have nq : w.heap.size ≠ q := by have := h.y.lt; omega
  go_enter Try.func13, Try.ntmps13
  go_wp2_with fail
  rw [← hW]
  clear hW
  refine (late_any k p s W hA.x hA.kx _hk2).mono ?_
  rintro e w1 ⟨rfl, h1⟩
  have hD1 := keepD hD h1 np
  have hy := rlate_any k q t w1 (hA.y.fr h1.fr (fun e => hA.ne e.symm)) hA.ky _hk2
  rw [hA.al.down] at hy
  have HF : Hid (∀ w2, PtW w1 q (t.late).cs w2 → PdP B p q k s.mtu w (.returned (.bool true)) w2) := fun w2 h2 => PdP.pre hbA (hA.both h1 h2 (pok_late hA.kx) (pok_late hA.ky) hA.al.late rfl)
  clear hD1 hD h1 hA h hbA
  go_wp2_with fail
  refine hy.mono ?_
  rintro e w2 ⟨rfl, h2⟩
  have HP := (show Hid _ from HF.out w2 h2)
  clear hy h2 HF
  generalize s.down = r at *
  go_wp2
  go_ret
  exact HP.out
set_option maxRecDepth 100000 in
set_option maxHeartbeats 4000000 in
theorem do_fault (B p q k : Nat) (s t : Ps) (A C : Int) (mv : Bool) (n : Nat) (w : World) (h : Bt w B p q k s t) (_hk2 : k ≤ 100000) :
    Calls Try.prog 13 #[.pointer (some ⟨p, 0, none⟩), .pointer (some ⟨q, 0, none⟩), .agg #[.int .i64 4, .int .i64 A, .int .i64 C, .bool mv, .int .u64 (n : Nat)]] w (PdP B p q k s.mtu w) := by
  obtain ⟨W, hW⟩ : ∃ W, W = w.alloc (.cells #[.int .i64 4, .int .i64 A, .int .i64 C, .bool mv, .int .u64 (n : Nat)] 38) := ⟨_, rfl⟩
  have hbA : Below w.heap.size w W := by rw [hW]; exact (Below.refl _ _).alloc (Nat.le_refl _) _
  have hA := h.below hbA
  have hD : Stc W w.heap.size [.int .i64 4, .int .i64 A, .int .i64 C, .bool mv, .int .u64 (n : Nat)] := Stc.new w _ _ _ hW
  have np : w.heap.size ≠ p := by have := h.x.lt; omega
  have nq : w.heap.size ≠ q := by have := h.y.lt; omega
  go_enter Try.func13, Try.ntmps13
  go_wp2_with fail
  rw [← hW]
  clear hW
  refine (fault_any k p s W hA.x hA.kx _hk2).mono ?_
  rintro e w1 ⟨rfl, h1⟩
  have hD1 := keepD hD h1 np
  have hy := rfault_any k q t w1 (hA.y.fr h1.fr (fun e => hA.ne e.symm)) hA.ky _hk2
  rw [hA.al.down] at hy
  have HF : Hid (∀ w2, PtW w1 q (t.fault).cs w2 → PdP B p q k s.mtu w (.returned (.bool true)) w2) := fun w2 h2 => PdP.pre hbA (hA.both h1 h2 (pok_fault hA.kx) (pok_fault hA.ky) hA.al.fault rfl)
  clear hD1 hD h1 hA h hbA
  go_wp2_with fail
  refine hy.mono ?_
  rintro e w2 ⟨rfl, h2⟩
  have HP := (show Hid _ from HF.out w2 h2)
  clear hy h2 HF
  generalize s.down = r at *
  go_wp2
  go_ret
  exact HP.out
set_option maxRecDepth 100000 in
set_option maxHeartbeats 4000000 in
theorem do_good (B p q k : Nat) (s t : Ps) (A C : Int) (mv : Bool) (n : Nat) (w : World) (h : Bt w B p q k s t) (_hk2 : k ≤ 100000) :
    Calls Try.prog 13 #[.pointer (some ⟨p, 0, none⟩), .pointer (some ⟨q, 0, none⟩), .agg #[.int .i64 5, .int .i64 A, .int .i64 C, .bool mv, .int .u64 (n : Nat)]] w (PdP B p q k s.mtu w) := by
  obtain ⟨W, hW⟩ : ∃ W, W = w.alloc (.cells #[.int .i64 5, .int .i64 A, .int .i64 C, .bool mv, .int .u64 (n : Nat)] 38) := ⟨_, rfl⟩
  have hbA : Below w.heap.size w W := by rw [hW]; exact (Below.refl _ _).alloc (Nat.le_refl _) _
  have hA := h.below hbA
  have hD : Stc W w.heap.size [.int .i64 5, .int .i64 A, .int .i64 C, .bool mv, .int .u64 (n : Nat)] := Stc.new w _ _ _ hW
  have np : w.heap.size ≠ p := by have := h.x.lt; omega
  have nq : w.heap.size ≠ q := by have := h.y.lt; omega
  go_enter Try.func13, Try.ntmps13
  go_wp2_with fail
  rw [← hW]
  clear hW
  refine (good_any p s W hA.x).mono ?_
  rintro e w1 ⟨rfl, h1⟩
  have hD1 := keepD hD h1 np
  have hy := rgood_any q t w1 (hA.y.fr h1.fr (fun e => hA.ne e.symm))
  have HF : Hid (∀ w2, PtW w1 q (t.good).cs w2 → PdP B p q k s.mtu w (.returned (.bool true)) w2) := fun w2 h2 => PdP.pre hbA (hA.both h1 h2 ((pok_good hA.kx).up_ (Nat.le_succ _)) ((pok_good hA.ky).up_ (Nat.le_succ _)) hA.al.good rfl)
  clear hD1 hD h1 hA h hbA
  go_wp2_with fail
  refine hy.mono ?_
  rintro e w2 ⟨rfl, h2⟩
  have HP := (show Hid _ from HF.out w2 h2)
  clear hy h2 HF
  go_wp2
  go_ret
  exact HP.out
set_option maxRecDepth 100000 in
set_option maxHeartbeats 4000000 in
theorem do_beat (B p q k : Nat) (s t : Ps) (A C : Int) (mv : Bool) (n : Nat) (w : World) (h : Bt w B p q k s t) (_hk2 : k ≤ 100000) (hn : n < 18446744073709551616) :
    Calls Try.prog 13 #[.pointer (some ⟨p, 0, none⟩), .pointer (some ⟨q, 0, none⟩), .agg #[.int .i64 6, .int .i64 A, .int .i64 C, .bool mv, .int .u64 (n : Nat)]] w (PdP B p q k s.mtu w) := by
  obtain ⟨W, hW⟩ : ∃ W, W = w.alloc (.cells #[.int .i64 6, .int .i64 A, .int .i64 C, .bool mv, .int .u64 (n : Nat)] 38) := ⟨_, rfl⟩
  have hbA : Below w.heap.size w W := by rw [hW]; exact (Below.refl _ _).alloc (Nat.le_refl _) _
  have hA := h.below hbA
  have hD : Stc W w.heap.size [.int .i64 6, .int .i64 A, .int .i64 C, .bool mv, .int .u64 (n : Nat)] := Stc.new w _ _ _ hW
  have np : w.heap.size ≠ p := by have := h.x.lt; omega
  have nq : w.heap.size ≠ q := by have := h.y.lt; omega
  have npq := h.ne
  have hC : Sd w p q w.heap.size s.cs t.cs [.int .i64 6, .int .i64 A, .int .i64 C, .bool mv, .int .u64 (n : Nat)] W := ⟨hA.x, hA.y, hD, Fr.of_below hbA⟩
  have HALL : Hid (∀ (sc tc : List Value) (w' : World), Sd w p q w.heap.size sc tc [.int .i64 6, .int .i64 A, .int .i64 C, .bool mv, .int .u64 (n : Nat)] w' → w'.cell? ⟨w.heap.size, 1, none⟩ = some (.int .i64 A) ∧ w'.cell? ⟨w.heap.size, 4, none⟩ = some (.int .u64 (n : Nat))) := fun sc tc w' h => ⟨h.d.cell 1 _ rfl, h.d.cell 4 _ rfl⟩
  have hxx : ∀ V V', Sd w p q w.heap.size s.cs t.cs [.int .i64 6, .int .i64 A, .int .i64 C, .bool mv, .int .u64 (n : Nat)] V → Below V.heap.size V V' → ∀ v0 v1 v2, v0 = .pointer (some ⟨p, 0, none⟩) → v1 = .int .u64 (n : Nat) → v2 = .int .i64 A → Calls Try.prog 19 #[v0, v1, v2] V' fun e w' => e = .returned (.int .i64 (smE A : Nat)) ∧ Sd w p q w.heap.size (s.beat n A).cs t.cs [.int .i64 6, .int .i64 A, .int .i64 C, .bool mv, .int .u64 (n : Nat)] w' := by
    intro V V' hV hb v0 v1 v2 e0 e1 e2
    subst e0
    refine (beat_any p s n A V' (hV.next hb).x v1 v2 e1 e2).mono ?_
    rintro e w' ⟨h1, h2⟩
    exact ⟨h1, (hV.next hb).onX h2 npq np⟩
  have hyy : ∀ V V', Sd w p q w.heap.size (s.beat n A).cs t.cs [.int .i64 6, .int .i64 A, .int .i64 C, .bool mv, .int .u64 (n : Nat)] V → Below V.heap.size V V' → ∀ v0 v1 v2, v0 = .pointer (some ⟨q, 0, none⟩) → v1 = .int .u64 (n : Nat) → v2 = .int .i64 A → Calls Try.prog 29 #[v0, v1, v2] V' fun e w' => e = .returned (.int .i64 (smE A : Nat)) ∧ Sd w p q w.heap.size (s.beat n A).cs (t.beat n A).cs [.int .i64 6, .int .i64 A, .int .i64 C, .bool mv, .int .u64 (n : Nat)] w' := by
    intro V V' hV hb v0 v1 v2 e0 e1 e2
    subst e0
    refine (rbeat_any q t n A V' (hV.next hb).y v1 v2 e1 e2).mono ?_
    rintro e w' ⟨h1, h2⟩
    exact ⟨h1, (hV.next hb).onY h2 npq nq⟩
  have HFIN : Hid (∀ V, Sd w p q w.heap.size (s.beat n A).cs (t.beat n A).cs [.int .i64 6, .int .i64 A, .int .i64 C, .bool mv, .int .u64 (n : Nat)] V → PdP B p q k s.mtu w (.returned (.bool true)) V) := fun V hV => ⟨rfl, ⟨_, _, ⟨hV.x, hV.y, h.ne, h.bp, h.bq, (pok_beat hA.kx n A hn).up_ (Nat.le_succ _), (pok_beat hA.ky n A hn).up_ (Nat.le_succ _), hA.al.beat n A⟩, mtu_beat s n A⟩, hV.fr⟩
  clear hA hD hbA h
  generalize smE A = r at *
  go_enter Try.func13, Try.ntmps13
  go_wp2_with fail
  rw [← hW]
  clear hW
  have hC1 := hC.next (Below.refl _ _).drew
  obtain ⟨a1, a4⟩ := HALL.out _ _ _ hC1
  have hC' := hC1
  clear hC hC1
  go_region_held3 (fun w' => w'.cell? ⟨w.heap.size, 1, none⟩ = some (.int .i64 A) ∧ w'.cell? ⟨w.heap.size, 4, none⟩ = some (.int .u64 (n : Nat))) (first | exact ⟨by assumption, by assumption⟩ | fail) (first
    | (go_at_call 19; refine (hxx _ _ hC' (by first | exact Below.refl _ _ | exact (Below.refl _ _).drew) _ _ _ (by rfl) (by rfl) (by rfl)).mono ?_; rintro e wX ⟨rfl, hC'⟩; obtain ⟨b1, b4⟩ := HALL.out _ _ _ hC')
    | (go_at_call 29; refine (hyy _ _ hC' (by first | exact Below.refl _ _ | exact (Below.refl _ _).drew) _ _ _ (by rfl) (by rfl) (by rfl)).mono ?_; rintro e wY ⟨rfl, hC'⟩; obtain ⟨g1, g4⟩ := HALL.out _ _ _ hC')
    | fail)
  all_goals
    have HP := (show Hid _ from HFIN.out _ hC')
    go_wp2
    go_ret
    first
      | exact HP.out
      | (trace_state; fail)
end Go.Proofs.Yteobibinfckmdaa
