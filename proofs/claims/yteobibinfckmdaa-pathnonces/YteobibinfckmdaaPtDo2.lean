/- law15.do: deeds on both ways. -/
import Derived.Test.YteobibinfckmdaaPtDo1
import Derived.Test.YteobibinfckmdaaPtR5
namespace Go.Proofs.Yteobibinfckmdaa
open Go.RowKit
set_option maxRecDepth 100000 in
set_option maxHeartbeats 4000000 in
theorem do_sample (B p q k : Nat) (s t : Ps) (A C : Int) (mv : Bool) (n : Nat) (w : World) (h : Bt w B p q k s t) (_hk2 : k ≤ 100000) :
    Calls Try.prog 13 #[.pointer (some ⟨p, 0, none⟩), .pointer (some ⟨q, 0, none⟩), .agg #[.int .i64 0, .int .i64 A, .int .i64 C, .bool mv, .int .u64 (n : Nat)]] w (PdP B p q k s.mtu w) := by
  obtain ⟨W, hW⟩ : ∃ W, W = w.alloc (.cells #[.int .i64 0, .int .i64 A, .int .i64 C, .bool mv, .int .u64 (n : Nat)] 38) := ⟨_, rfl⟩
  have hbA : Below w.heap.size w W := by rw [hW]; exact (Below.refl _ _).alloc (Nat.le_refl _) _
  have hA := h.below hbA
  have hD : Stc W w.heap.size [.int .i64 0, .int .i64 A, .int .i64 C, .bool mv, .int .u64 (n : Nat)] := Stc.new w _ _ _ hW
  have np : w.heap.size ≠ p := by have := h.x.lt; omega
  have nq : w.heap.size ≠ q := by have := h.y.lt; omega
  have npq := h.ne
  have hC : Sd w p q w.heap.size s.cs t.cs [.int .i64 0, .int .i64 A, .int .i64 C, .bool mv, .int .u64 (n : Nat)] W := ⟨hA.x, hA.y, hD, Fr.of_below hbA⟩
  have HALL : Hid (∀ (sc tc : List Value) (w' : World), Sd w p q w.heap.size sc tc [.int .i64 0, .int .i64 A, .int .i64 C, .bool mv, .int .u64 (n : Nat)] w' → w'.cell? ⟨w.heap.size, 1, none⟩ = some (.int .i64 A) ∧ True) := fun sc tc w' h => ⟨h.d.cell 1 _ rfl, trivial⟩
  have hxx : ∀ V V', Sd w p q w.heap.size s.cs t.cs [.int .i64 0, .int .i64 A, .int .i64 C, .bool mv, .int .u64 (n : Nat)] V → Below V.heap.size V V' → ∀ v0 v1, v0 = .pointer (some ⟨p, 0, none⟩) → v1 = .int .i64 A → Calls Try.prog 15 #[v0, v1] V' fun e w' => e = .returned (.int .i64 (smE A : Nat)) ∧ Sd w p q w.heap.size (s.sample A).cs t.cs [.int .i64 0, .int .i64 A, .int .i64 C, .bool mv, .int .u64 (n : Nat)] w' := by
    intro V V' hV hb v0 v1 e0 e1
    subst e0
    refine (sample_any k p s A V' (hV.next hb).x hA.kx v1 e1).mono ?_
    rintro e w' ⟨h1, h2⟩
    exact ⟨h1, (hV.next hb).onX h2 npq np⟩
  have hyy : ∀ V V', Sd w p q w.heap.size (s.sample A).cs t.cs [.int .i64 0, .int .i64 A, .int .i64 C, .bool mv, .int .u64 (n : Nat)] V → Below V.heap.size V V' → ∀ v0 v1, v0 = .pointer (some ⟨q, 0, none⟩) → v1 = .int .i64 A → Calls Try.prog 23 #[v0, v1] V' fun e w' => e = .returned (.int .i64 (smE A : Nat)) ∧ Sd w p q w.heap.size (s.sample A).cs (t.sample A).cs [.int .i64 0, .int .i64 A, .int .i64 C, .bool mv, .int .u64 (n : Nat)] w' := by
    intro V V' hV hb v0 v1 e0 e1
    subst e0
    refine (rsample_any k q t A V' (hV.next hb).y hA.ky v1 e1).mono ?_
    rintro e w' ⟨h1, h2⟩
    exact ⟨h1, (hV.next hb).onY h2 npq nq⟩
  have HFIN : Hid (∀ V, Sd w p q w.heap.size (s.sample A).cs (t.sample A).cs [.int .i64 0, .int .i64 A, .int .i64 C, .bool mv, .int .u64 (n : Nat)] V → PdP B p q k s.mtu w (.returned (.bool true)) V) := fun V hV => ⟨rfl, ⟨_, _, ⟨hV.x, hV.y, h.ne, h.bp, h.bq, (pok_sample hA.kx A).up_ (Nat.le_succ _), (pok_sample hA.ky A).up_ (Nat.le_succ _), hA.al.sample A⟩, mtu_sample s A⟩, hV.fr⟩
  clear hA hD hbA h
  generalize smE A = r at *
  go_enter Try.func13, Try.ntmps13
  go_wp2_with fail
  rw [← hW]
  clear hW
  have hC1 := hC.next (Below.refl _ _).drew
  obtain ⟨a1, _⟩ := HALL.out _ _ _ hC1
  have hC' := hC1
  clear hC hC1
  go_region_held3 (fun w' => w'.cell? ⟨w.heap.size, 1, none⟩ = some (.int .i64 A) ∧ True) (first | exact ⟨by assumption, trivial⟩ | fail) (first
    | (go_at_call 15; refine (hxx _ _ hC' (by first | exact Below.refl _ _ | exact (Below.refl _ _).drew) _ _ (by rfl) (by rfl)).mono ?_; rintro e wX ⟨rfl, hC'⟩; obtain ⟨b1, _⟩ := HALL.out _ _ _ hC')
    | (go_at_call 23; refine (hyy _ _ hC' (by first | exact Below.refl _ _ | exact (Below.refl _ _).drew) _ _ (by rfl) (by rfl)).mono ?_; rintro e wY ⟨rfl, hC'⟩; obtain ⟨g1, _⟩ := HALL.out _ _ _ hC')
    | fail)
  all_goals
    have HP := (show Hid _ from HFIN.out _ hC')
    go_wp2
    go_ret
    first
      | exact HP.out
      | (trace_state; fail)
set_option maxRecDepth 100000 in
set_option maxHeartbeats 4000000 in
theorem do_answer (B p q k : Nat) (s t : Ps) (op : Int) (A C : Int) (mv : Bool) (n : Nat) (w : World) (h : Bt w B p q k s t) (_hk2 : k ≤ 100000) (o0 : ¬ op = 0) (o1 : ¬ op = 1) (o2 : ¬ op = 2) (o3 : ¬ op = 3) (o4 : ¬ op = 4) (o5 : ¬ op = 5) (o6 : ¬ op = 6) :
    Calls Try.prog 13 #[.pointer (some ⟨p, 0, none⟩), .pointer (some ⟨q, 0, none⟩), .agg #[.int .i64 op, .int .i64 A, .int .i64 C, .bool mv, .int .u64 (n : Nat)]] w (PdP B p q k s.mtu w) := by
  obtain ⟨W, hW⟩ : ∃ W, W = w.alloc (.cells #[.int .i64 op, .int .i64 A, .int .i64 C, .bool mv, .int .u64 (n : Nat)] 38) := ⟨_, rfl⟩
  have hbA : Below w.heap.size w W := by rw [hW]; exact (Below.refl _ _).alloc (Nat.le_refl _) _
  have hA := h.below hbA
  have hD : Stc W w.heap.size [.int .i64 op, .int .i64 A, .int .i64 C, .bool mv, .int .u64 (n : Nat)] := Stc.new w _ _ _ hW
  have np : w.heap.size ≠ p := by have := h.x.lt; omega
  have nq : w.heap.size ≠ q := by have := h.y.lt; omega
  go_enter Try.func13, Try.ntmps13
  go_wp2_with fail
  rw [← hW]
  clear hW
  refine (answer_any k p s n A W hA.x hA.kx _ _ rfl rfl).mono ?_
  rintro e w1 ⟨rfl, h1⟩
  have hD1 := keepD hD h1 np
  have c1 : w1.cell? ⟨w.heap.size, 1, none⟩ = some (.int .i64 A) := hD1.cell 1 _ rfl
  have c4 : w1.cell? ⟨w.heap.size, 4, none⟩ = some (.int .u64 (n : Nat)) := hD1.cell 4 _ rfl
  have hy := ranswer_any k q t n A w1 (hA.y.fr h1.fr (fun e => hA.ne e.symm)) hA.ky _ _ rfl rfl
  rw [hA.al.hit n A] at hy
  have HF : Hid (∀ w2, PtW w1 q (t.answer n A t.nonce t.since).cs w2 → PdP B p q k s.mtu w (.returned (.bool true)) w2) := fun w2 h2 => PdP.pre hbA (hA.both h1 h2 ((pok_answer hA.kx n A 0 0 (by omega) (by omega) (by omega)).up_ (Nat.le_succ _)) ((pok_answer hA.ky n A t.nonce t.since hA.ky.n1 hA.ky.t0 hA.ky.t1).up_ (Nat.le_succ _)) (hA.al.answer n A) (mtu_answer s n A 0 0))
  clear hD1 hD h1 hA h hbA
  go_wp2_with fail
  refine hy.mono ?_
  rintro e w2 ⟨rfl, h2⟩
  have HP := (show Hid _ from HF.out w2 h2)
  clear hy h2 HF c1 c4
  generalize s.hit n A = r at *
  generalize smE A = r2 at *
  go_wp2
  go_ret
  exact HP.out
theorem do_any (B p q k : Nat) (s t : Ps) (op A C : Int) (mv : Bool) (n : Nat) (w : World) (h : Bt w B p q k s t) (hk2 : k ≤ 100000) (hn : n < 18446744073709551616) :
    Calls Try.prog 13 #[.pointer (some ⟨p, 0, none⟩), .pointer (some ⟨q, 0, none⟩), .agg #[.int .i64 op, .int .i64 A, .int .i64 C, .bool mv, .int .u64 (n : Nat)]] w (PdP B p q k s.mtu w) := by
  by_cases o0 : op = 0
  · rw [o0]; exact do_sample B p q k s t A C mv n w h hk2
  by_cases o1 : op = 1
  · rw [o1]; exact do_grow B p q k s t A C mv n w h hk2
  by_cases o2 : op = 2
  · rw [o2]; exact do_fast B p q k s t A C mv n w h hk2
  by_cases o3 : op = 3
  · rw [o3]; exact do_late B p q k s t A C mv n w h hk2
  by_cases o4 : op = 4
  · rw [o4]; exact do_fault B p q k s t A C mv n w h hk2
  by_cases o5 : op = 5
  · rw [o5]; exact do_good B p q k s t A C mv n w h hk2
  by_cases o6 : op = 6
  · rw [o6]; exact do_beat B p q k s t A C mv n w h hk2 hn
  · exact do_answer B p q k s t op A C mv n w h hk2 o0 o1 o2 o3 o4 o5 o6
end Go.Proofs.Yteobibinfckmdaa
