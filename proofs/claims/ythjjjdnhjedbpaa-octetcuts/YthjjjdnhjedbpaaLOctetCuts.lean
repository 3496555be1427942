/- Whatever bytes, place and two numbers: the walk of trunklinelaw01.OctetCuts ends with true, and writes nothing that was there. -/
import Derived.Test.YthjjjdnhjedbpaaLiveO
import Derived.Test.YthjjjdnhjedbpaaRefCut
namespace Go.Proofs.Ythjjjdnhjedbpaa
open Go.RowKit
theorem cutV_len (zs : List Nat) (p k : Int) : (cutV zs p k).length ≤ zs.length := by
  unfold cutV
  split
  · simp; omega
  · simp
theorem padV_le (zs : List Nat) (t : Int) : (padV zs t).length ≤ zs.length + 64 := by
  unfold padV
  split
  · simp
  · have := padN_lt zs.length t.toNat (by omega)
    simp only [List.length_append, List.length_replicate]
    omega
set_option maxHeartbeats 2000000 in
theorem walk_OctetCuts (a : Option Addr) (n c : Nat) (zs : List Nat) (p k t : Int) (w : World) (hl0 : Sl w a n c zs ∧ c * 1 ≤ 140737488351232) (_hp : (Lit.int .i64 p).wf = true) :
    Calls Try.prog 8 #[.slice a n c, .int .i64 p, .agg #[.int .i64 k, .int .i64 t]] w fun e w' => e = .returned (.bool true) ∧ Below w.heap.size w w' := by
  obtain ⟨hl, hcb⟩ := hl0
  have hn : n ≤ 140737488351232 := by have := hl.cap; omega
  have hlen := hl.len
  have q2 := cutV_len zs p k
  have q3 := padV_le zs t
  rw [hlen] at q2 q3
  clear hcb
  go_enter Try.func8, Try.ntmps8
  have hb0 : Below w.heap.size w (w.alloc (.cells #[.int .i64 k, .int .i64 t] 38)) := (Below.refl _ _).alloc (Nat.le_refl _) _
  have hz0 : (w.alloc (.cells #[.int .i64 k, .int .i64 t] 38)).heap.size = w.heap.size + 1 := by simp
  have hl0 := hl.below hb0
  go_wp2_with fail
  refine (cut_any _ _ _ zs p k _ hl0 hn).mono ?_
  rintro e w1 ⟨a1, c1, rfl, ho1, hb1⟩
  have hP0 : w1.cell? ⟨w.heap.size, 0, none⟩ = some (.int .i64 k) := by rw [hb1.cell (p := ⟨w.heap.size, 0, none⟩) (by rw [hz0]; show w.heap.size < _; omega)]; simp
  have hP1 : w1.cell? ⟨w.heap.size, 1, none⟩ = some (.int .i64 t) := by rw [hb1.cell (p := ⟨w.heap.size, 1, none⟩) (by rw [hz0]; show w.heap.size < _; omega)]; simp
  have hz1 := hb1.size
  rw [hz0] at hz1
  have hb01 := hb0.trans (hb1.mono (by rw [hz0]; omega))
  have hl1 := hl.below hb01
  clear hb0 hb1 hl0
  go_wp2_with fail
  refine (refcut_any _ _ _ zs p k _ hl1 hn).mono ?_
  rintro e w2 ⟨a2, c2, rfl, ho2, hb2⟩
  have hP1b : w2.cell? ⟨w.heap.size, 1, none⟩ = some (.int .i64 t) := by rw [hb2.cell (p := ⟨w.heap.size, 1, none⟩) (by show w.heap.size < _; omega)]; exact hP1
  have hz2 := hb2.size
  have hb02 := hb01.trans (hb2.mono hb01.size)
  have ho1b := ho1.below hb2
  have hl2 := hl.below hb02
  clear ho1 hb2 hP0 hP1 hb01 hl1
  generalize cutV zs p k = ys at *
  go_wp2_with fail
  refine (pad_any _ _ _ zs t _ hl2 hn).mono ?_
  rintro e w3 ⟨a3, c3, rfl, ho3, hb3⟩
  have hP1c : w3.cell? ⟨w.heap.size, 1, none⟩ = some (.int .i64 t) := by rw [hb3.cell (p := ⟨w.heap.size, 1, none⟩) (by show w.heap.size < _; omega)]; exact hP1b
  have hb03 := hb02.trans (hb3.mono hb02.size)
  have ho1c := ho1b.below hb3
  have ho2c := ho2.below hb3
  have hl3 := hl.below hb03
  clear ho1b ho2 hb3 hP1b hb02 hl2
  go_wp2_with fail
  refine (refpad_any _ _ _ zs t _ hl3 hn).mono ?_
  rintro e w4 ⟨a4, c4, rfl, ho4, hb4⟩
  have hb04 := hb03.trans (hb4.mono hb03.size)
  have ho1d := ho1c.below hb4
  have ho2d := ho2c.below hb4
  have ho3d := ho3.below hb4
  clear ho1c ho2c ho3 hb4 hP1c hb03 hl3
  generalize padV zs t = xs at *
  go_wp2_with fail
  refine (live_any _).mono ?_
  rintro e w5 ⟨rfl, hb5⟩
  have k1 := conv_str ((ho1d.below hb5).sl (by omega))
  have k2 := conv_str ((ho2d.below hb5).sl (by omega))
  have k3 := conv_str ((ho3d.below hb5).sl (by omega))
  have k4 := conv_str ((ho4.below hb5).sl (by omega))
  clear ho1d ho2d ho3d ho4
  go_wp2
  go_ret
  exact ⟨rfl, hb04.trans (hb5.mono hb04.size)⟩
end Go.Proofs.Ythjjjdnhjedbpaa
