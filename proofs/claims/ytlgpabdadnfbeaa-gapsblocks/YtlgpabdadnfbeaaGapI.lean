/- The iterator over what was taken ahead: every number that is ahead, rising, in whatever loop body that keeps the tracker. -/
import Derived.Test.YtlgpabdadnfbeaaGapB
import Derived.RangeFuncNested
import Derived.RangeFuncBound
import Derived.RangeFuncCalls
import Derived.RangeFuncLeaves
import Derived.RangeFuncFrom
import Derived.Shelf.Abstract
import Derived.Shelf.RegionOpen
import Derived.WalkKit
import Derived.OwnWalkIn
import Derived.TacticsInMore
import Derived.LoopNIn
import Derived.LoopIn
import Derived.TacticsIn
import Derived.RegionIn
namespace Go.Proofs.Ytlgpabdadnfbeaa
open Go.RowKit Go.Shelf
attribute [local go_sem] Oper.semAt_some
abbrev Stp := { x : Nat // 1 ≤ x ∧ x ≤ 256 }
def encS (x : Stp) : Array Value := #[.int .i64 (x.1 : Nat)]
def farTo (S : Nat → Bool) : Nat → List Stp
  | 0 => []
  | k + 1 => if h : k + 1 ≤ 256 ∧ S (k + 1) = true then farTo S k ++ [⟨k + 1, Nat.succ_le_succ (Nat.zero_le _), h.1⟩] else farTo S k
theorem farTo_on (S : Nat → Bool) (k : Nat) (hk : k + 1 ≤ 256) (h : S (k + 1) = true) : farTo S (k + 1) = farTo S k ++ [⟨k + 1, Nat.succ_le_succ (Nat.zero_le _), hk⟩] := by
  show (if h : _ then _ else _) = _; rw [dif_pos ⟨hk, h⟩]
theorem farTo_off (S : Nat → Bool) (k : Nat) (h : S (k + 1) = false) : farTo S (k + 1) = farTo S k := by
  show (if h : _ then _ else _) = _; rw [dif_neg (fun e => by rw [h] at e; exact absurd e.2 Bool.false_ne_true)]
theorem farTo_len (S : Nat → Bool) : ∀ k, (farTo S k).length ≤ k := by
  intro k
  induction k with
  | zero => simp [farTo]
  | succ k ih =>
    show (if h : _ then _ else _ : List Stp).length ≤ _
    split
    · simp; omega
    · omega
theorem farTo_pre (S : Nat → Bool) (k : Nat) : ∀ j, farTo S k <+: farTo S (k + j) := by
  intro j
  induction j with
  | zero => exact List.prefix_refl _
  | succ j ih =>
    refine ih.trans ?_
    show _ <+: (if h : _ then _ else _ : List Stp)
    split
    · exact List.prefix_append _ _
    · exact List.prefix_refl _
/-- What a round that goes on keeps. -/
def KpT (n₀ Bt : Nat) (W W' : World) : Prop := Below n₀ W W' ∧ ∀ v, W.cell? ⟨Bt, 0, none⟩ = some v → W'.cell? ⟨Bt, 0, none⟩ = some v
set_option maxRecDepth 100000 in
set_option maxHeartbeats 2000000 in
theorem steps1_in (n : Nat) (hn : 1 ≤ n) (l Bt n₀ p cum : Nat) (ws : List Nat) (S : Nat → Bool) (hcl : cum < 4294967296) (hp : p < n₀) (J Jx : List Stp → World → Prop)
    (hS : ∀ n, 1 ≤ n → n ≤ 256 → S n = bitW ws ((cum + n) % 256))
    (hJA : ∀ xs A A', J xs A → Below A.heap.size A A' → J xs A')
    (hY : ∀ pre x W, J pre W → pre.length < 256 → YieldAt Fence.wide (n - 1) Try.prog l (encS x) W fun e W' =>
      (e = .returned (.bool true) ∧ J (pre ++ [x]) W' ∧ KpT n₀ Bt W W') ∨ (e = .returned (.bool false) ∧ Jx (pre ++ [x]) W'))
    (W : World) (hB : W.cell? ⟨Bt, 0, none⟩ = some (.pointer (some ⟨p, 0, none⟩))) (hBt : Bt < W.heap.size) (hn0 : n₀ ≤ W.heap.size) (hc : W.cell? ⟨p, 0, none⟩ = some (.int .u32 cum)) (hw : Win W p 1 ws) (h0 : J [] W) :
    CallsIn Fence.wide n Try.prog 43 #[.func (.yield l) #[] #[], .pointer (some ⟨Bt, 0, none⟩)] W fun e W' => (∃ v, e = .returned v) ∧
      ((∃ ys, ys = farTo S 256 ∧ J ys W') ∨ (∃ pre, pre <+: farTo S 256 ∧ Jx pre W')) := by
  refine callsIn_of_wp Try.func43 rfl trivial ?_ rfl
  simp only [Try.ntmps43, List.size_toArray, List.length_cons, List.length_nil, Nat.reduceAdd, Nat.reduceSub, Array.replicate_succ, Array.replicate_zero, List.push_toArray, List.append_toArray, List.nil_append, List.cons_append]
  gi_wp2
  gi_loopw [3] (fun v wr => ∃ k : Nat, k ≤ 256 ∧ v = .int .i64 ((k : Int) + 1) ∧ J (farTo S k) wr ∧ wr.cell? ⟨Bt, 0, none⟩ = some (.pointer (some ⟨p, 0, none⟩)) ∧ Bt < wr.heap.size ∧ n₀ ≤ wr.heap.size ∧ wr.cell? ⟨p, 0, none⟩ = some (.int .u32 cum) ∧ Win wr p 1 ws)
    (fun v _ => 257 - (intOf v).toNat)
  case atStart =>
    exact ⟨0, by omega, rfl, h0, hB, hBt, hn0, hc, hw⟩
  case round =>
    obtain ⟨k, hk, rfl, hJ, hB1, hBt1, hn1, hc1, hw1⟩ := hrel
    clear h0 hB hBt hn0 hc hw
    by_cases hk2 : k = 256
    · subst hk2
      gi_wp2
      go_end0
      exact ⟨⟨_, rfl⟩, .inl ⟨_, rfl, hJ⟩⟩
    · have hle : (k : Int) + 1 ≤ 256 := by omega
      have hon := fun W => onward_any cum ((k : Int) + 1) hcl W
      have eadd : addV 4294967296 cum ((k : Int) + 1) = (cum + (k + 1)) % 4294967296 := by unfold addV; omega
      rw [eadd] at hon
      have hbit := hS (k + 1) (by omega) (by omega)
      have hhas := fun W h => has_any p 1 ((cum + (k + 1)) % 4294967296) ws W h
      rw [mod256, ← hbit] at hhas
      generalize (cum + (k + 1)) % 4294967296 = nx at *
      cases hSk : S (k + 1) with
      | false =>
        rw [hSk] at hhas
        have hplt : p < wr.heap.size := by omega
        have hmx : Try.prog.follows .mixedOrders = true := by kernel_rfl
        gi_wp2
        first | (go_must (gi_region_with_o (first
          | (refine ⟨trivial, ?_⟩; gi_at_call 30; go_must (refine (callsIn_wide.2 (hon _)).mono ?_; rintro e w1 ⟨rfl, hb0⟩; have hb1 : Below wr.heap.size wr w1 := ⟨hb0.os, hb0.tape, hb0.output, hb0.size, hb0.block⟩; clear hb0; have hB2 := (hb1.cell (p := ⟨Bt, 0, none⟩) hBt1).trans hB1; have hw2 : Win w1 p 1 ws := hw1.below hb1 hplt))
          | (refine ⟨trivial, ?_⟩; gi_at_call 29; refine (callsIn_wide.2 (hhas _ hw2)).mono ?_; rintro e w2 ⟨rfl, hw'⟩; subst w2)
          | (refine ⟨fun _ h => (by cases h), ?_⟩)))) | fail
        all_goals
          gi_wp2
          go_roundw
          case rel => exact ⟨k + 1, by omega, by go_num, by rw [farTo_off S k hSk]; exact hJA _ _ _ hJ hb1, hB2, Nat.lt_of_lt_of_le hBt1 hb1.size, Nat.le_trans hn1 hb1.size, (hb1.cell (p := ⟨p, 0, none⟩) hplt).trans hc1, hw2⟩
          case measure => simp [intOf]; omega
      | true =>
        rw [hSk] at hhas
        have hplt : p < wr.heap.size := by omega
        have hmx : Try.prog.follows .mixedOrders = true := by kernel_rfl
        have hlen : (farTo S k).length < 256 := by have := farTo_len S k; omega
        have hYk : ∀ W, J (farTo S k) W → YieldAt Fence.wide (n - 1) Try.prog l #[.int .i64 ((k : Int) + 1)] W fun e W' => ∃ r : Bool, e = .returned (.bool r) ∧ (r = true → J (farTo S (k + 1)) W' ∧ KpT n₀ Bt W W') ∧ (r = false → Jx (farTo S (k + 1)) W') := by
          intro W hJW
          obtain ⟨fn, tmps, assign, body, hy, hR⟩ := hY (farTo S k) ⟨k + 1, by omega, by omega⟩ W hJW hlen
          rw [← farTo_on S k (by omega) hSk] at hR
          refine ⟨fn, tmps, assign, body, hy, hR.mono ?_⟩
          rintro e W' (⟨rfl, h1, h2⟩ | ⟨rfl, h1⟩)
          · exact ⟨true, rfl, fun _ => ⟨h1, h2⟩, fun h => (by cases h)⟩
          · exact ⟨false, rfl, fun h => (by cases h), fun _ => h1⟩
        clear hY
        gi_wp2
        first | (go_must (gi_region_with_o (first
          | (refine ⟨trivial, ?_⟩; gi_at_call 30; go_must (refine (callsIn_wide.2 (hon _)).mono ?_; rintro e w1 ⟨rfl, hb0⟩; have hb1 : Below wr.heap.size wr w1 := ⟨hb0.os, hb0.tape, hb0.output, hb0.size, hb0.block⟩; clear hb0; have hB2 := (hb1.cell (p := ⟨Bt, 0, none⟩) hBt1).trans hB1; have hw2 : Win w1 p 1 ws := hw1.below hb1 hplt; obtain ⟨fy, ty, ay, by1, hy, hR⟩ := hYk w1 (hJA _ _ _ hJ hb1)))
          | (refine ⟨trivial, ?_⟩; gi_at_call 29; refine (callsIn_wide.2 (hhas _ hw2)).mono ?_; rintro e w2 ⟨rfl, hw'⟩; subst w2)
          | (refine ⟨fun _ h => (by cases h), ?_⟩; refine hR.mono ?_; rintro e W3 ⟨r, rfl, h3, h4⟩)
          | (refine hR.mono ?_; rintro e W3 ⟨r, rfl, h3, h4⟩)))) | fail
        all_goals
          cases r with
          | true =>
            obtain ⟨hJ3, hk3, hk4⟩ := h3 rfl
            clear h3 h4 hR hy hYk
            gi_wp2
            go_roundw
            case rel => exact ⟨k + 1, by omega, by go_num, hJ3, hk4 _ hB2, Nat.lt_of_lt_of_le (Nat.lt_of_lt_of_le hBt1 hb1.size) hk3.size, Nat.le_trans (Nat.le_trans hn1 hb1.size) hk3.size, (hk3.cell (p := ⟨p, 0, none⟩) hp).trans ((hb1.cell (p := ⟨p, 0, none⟩) hplt).trans hc1), hw2.below hk3 hp⟩
            case measure => simp [intOf]; omega
          | false =>
            have hx := h4 rfl
            clear h3 h4 hR hy hYk
            gi_wp2
            refine bodyPost_ret (results_none rfl _ _ _) rfl ?_
            exact ⟨⟨_, rfl⟩, .inr ⟨farTo S (k + 1), by have := farTo_pre S (k + 1) (256 - (k + 1)); rwa [show k + 1 + (256 - (k + 1)) = 256 from by omega] at this, hx⟩⟩
end Go.Proofs.Ytlgpabdadnfbeaa
