/- Whatever bytes: the walk of trunklinelaw02.SumsOwn ends with true, and writes nothing that was there. -/
import Derived.Test.YthjjjdnhjedbpadStamp
import Derived.Test.YthjjjdnhjedbpadLive
namespace Go.Proofs.Ythjjjdnhjedbpad
open Go.RowKit
theorem xor5a (x : Nat) (h : x < 256) : bits .xor .u8 (x : Int) 90 = ((x ^^^ 90 : Nat) : Int) := u8_xor_nat x 90 h (by omega)
theorem xor_lt8 (x y : Nat) (hx : x < 256) (hy : y < 256) : x ^^^ y < 256 := Nat.xor_lt_two_pow (n := 8) hx hy
set_option maxHeartbeats 1000000 in
theorem walk_SumsOwn (a : Option Addr) (n c : Nat) (zs : List Nat) (w : World) (hl0 : Sl w a n c zs ∧ c * 1 ≤ 140737488351232) :
    Calls Try.prog 4 #[.slice a n c] w fun e w' => e = .returned (.bool true) ∧ Below w.heap.size w w' := by
  obtain ⟨hl, hcb⟩ := hl0
  have hn : n ≤ 140737488351232 := by have := hl.cap; omega
  have hlen : (stampV zs).length ≤ n := by
    by_cases h : zs.length < 12
    · unfold stampV; rw [if_pos h]; simp
    · rw [stampV_len zs (by omega), hl.len]; exact Nat.le_refl _
  have hc0 := conv_str hl
  go_enter Try.func4, Try.ntmps4
  go_wp2_with fail
  refine (stamp_any _ _ _ zs _ hl hn).mono ?_
  rintro e w1 ⟨a1, c1, rfl, ho1, hb1⟩
  clear hc0
  generalize stampV zs = ys at *
  generalize hm : ys.length = m at *
  have HM := (show Hid _ from hm)
  clear hm
  go_wp2
  go_loopw [6] (fun i wr => ∃ (j : Nat) (xs : List Nat), j ≤ m ∧ i = .int .i64 j ∧ OwnB wr w.heap.size a1 m c1 xs ∧ Below w.heap.size w wr) (fun i _ => m - (intOf i).toNat)
  case atStart => exact ⟨0, ys, by omega, rfl, ho1, hb1⟩
  case round =>
    obtain ⟨j, xs, hj, rfl, hown, hbel⟩ := hrel
    by_cases hjm : j < m
    · obtain ⟨g, hg⟩ : ∃ g, a1 = some ⟨g, 0, none⟩ := by
        rcases hown.own.2 with ⟨_, h0⟩ | ⟨g, cap, cur, hv, _⟩
        · omega
        · injection hv with e1
          exact ⟨g, e1⟩
      subst hg
      have hgl := (hown.own.lt g rfl).1
      have hc := hown.cell j hjm
      have hf := hown.free j
      have hx := hown.bnd j
      have HX := (show Hid _ from xor5a _ hx)
      have hx2 := xor_lt8 _ 90 hx (by omega)
      generalize xs.getD j 0 = x at *
      go_wp2
      go_roundw
      case rel =>
        refine ⟨j + 1, xs.set j (x ^^^ 90), by omega, by go_num, ?_, hbel.setCell hgl _⟩
        rw [HX.out]
        exact hown.store j (x ^^^ 90) hx2
      case measure => simp [intOf]; omega
    · go_wp2_with fail
      refine (live_any _).mono ?_
      rintro e w4 ⟨rfl, hb4⟩
      have hb5 := hbel.trans (hb4.mono hbel.size)
      have hc2 := conv_str (hl.below hb5)
      go_wp2
      go_ret
      exact ⟨rfl, hb5⟩
end Go.Proofs.Ythjjjdnhjedbpad
