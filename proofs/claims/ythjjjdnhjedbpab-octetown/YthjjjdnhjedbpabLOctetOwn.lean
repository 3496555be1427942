/- Whatever bytes, place and number: the walk of trunklinelaw01.OctetOwn ends with true, and writes nothing that was there. -/
import Derived.Test.YthjjjdnhjedbpabLiveO
import Derived.Test.YthjjjdnhjedbpabSet
import Derived.Test.YthjjjdnhjedbpabCut
import Derived.Test.YthjjjdnhjedbpabPad
namespace Go.Proofs.Ythjjjdnhjedbpab
open Go.RowKit
theorem xorK (x y : Nat) (h : x < 256) (hy : y < 256) : bits .xor .u8 (x : Int) (y : Int) = ((x ^^^ y : Nat) : Int) := u8_xor_nat x y h hy
theorem xor_lt8 (x y : Nat) (hx : x < 256) (hy : y < 256) : x ^^^ y < 256 := Nat.xor_lt_two_pow (n := 8) hx hy
theorem cutV_len (zs : List Nat) (p k : Int) : (cutV zs p k).length ≤ zs.length := by
  unfold cutV
  split
  · simp; omega
  · simp
theorem setV_le (zs : List Nat) (p : Int) (v : Nat) (k : Int) : (setV zs p v k).length ≤ zs.length := by
  by_cases h : setE zs.length p v k = 0
  · rw [setV_len h]; exact Nat.le_refl _
  · unfold setV; rw [if_neg h]; simp
theorem padV_le (zs : List Nat) : (padV zs 8).length ≤ zs.length + 8 := by
  have := padN_lt zs.length 8 (by omega)
  unfold padV
  rw [if_neg (by omega)]
  simp only [List.length_append, List.length_replicate]
  show _ + padN zs.length 8 ≤ _
  omega
set_option maxHeartbeats 4000000 in
theorem walk_OctetOwn (a : Option Addr) (n c : Nat) (zs : List Nat) (p : Int) (v : Nat) (k : Int) (w : World) (hl0 : Sl w a n c zs ∧ c * 1 ≤ 140737488351232) (_hp : (Lit.int .i64 p).wf = true) (hv : v < 18446744073709551616) :
    Calls Try.prog 4 #[.slice a n c, .int .i64 p, .agg #[.int .u64 (v : Nat), .int .i64 k]] w fun e w' => e = .returned (.bool true) ∧ Below w.heap.size w w' := by
  obtain ⟨hl, hcb⟩ := hl0
  have hn : n ≤ 140737488351232 := by have := hl.cap; omega
  have hlen := hl.len
  have q1 := setV_le zs p v k
  have q2 := cutV_len zs p k
  have q3 := padV_le zs
  rw [hlen] at q1 q2 q3
  clear hcb
  go_enter Try.func4, Try.ntmps4
  have hb0 : Below w.heap.size w (w.alloc (.cells #[.int .u64 (v : Nat), .int .i64 k] 31)) := (Below.refl _ _).alloc (Nat.le_refl _) _
  have ho0 : OwnB ((w.alloc (.cells #[.int .u64 (v : Nat), .int .i64 k] 31)).alloc (.cells #[] 5)) (w.heap.size + 1) (some ⟨w.heap.size + 1, 0, none⟩) 0 0 [] := by
    have := own_empty (w.alloc (.cells #[.int .u64 (v : Nat), .int .i64 k] 31))
    simpa using this
  have hl1 := (hl.below hb0).alloc (.cells #[] 5)
  go_wp2_with (at_builtin; go_must (refine app_list rfl _ _ rfl (w.heap.size + 1) _ 0 0 [] rfl ho0 _ n c zs rfl hl1 (by omega) (by simp) ?_))
  intro a1 c1 w1 ho1 hg1
  have hbA : Below (w.heap.size + 1) (w.alloc (.cells #[.int .u64 (v : Nat), .int .i64 k] 31)) w1 := ((Below.refl _ _).alloc (by simp) _).trans (ho0.up hg1 (by simp))
  have hb1 : Below w.heap.size w w1 := hb0.trans (hbA.mono (by omega))
  have hP0 : w1.cell? ⟨w.heap.size, 0, none⟩ = some (.int .u64 (v : Nat)) := by rw [hbA.cell (p := ⟨w.heap.size, 0, none⟩) (by simp)]; simp
  have hP1 : w1.cell? ⟨w.heap.size, 1, none⟩ = some (.int .i64 k) := by rw [hbA.cell (p := ⟨w.heap.size, 1, none⟩) (by simp)]; simp
  have hz1 : w.heap.size + 1 ≤ w1.heap.size := by have := hbA.size; simpa using this
  clear ho0 hl1 hg1 hbA hb0
  go_wp2_with fail
  refine (set_any _ _ _ zs p v k _ (hl.below hb1) hn hv).mono ?_
  rintro e w2 ⟨a2, c2, rfl, ho2, hb2⟩
  have hP1b : w2.cell? ⟨w.heap.size, 1, none⟩ = some (.int .i64 k) := by rw [hb2.cell (p := ⟨w.heap.size, 1, none⟩) (by show w.heap.size < w1.heap.size; omega)]; exact hP1
  have hb12 := hb1.trans (hb2.mono hb1.size)
  have hz2 := hb2.size
  generalize setV zs p v k = s2 at *
  generalize hm2 : s2.length = m2 at *
  clear hm2 hP0 hP1
  go_wp2_with fail
  refine (cut_any _ _ _ zs p k _ (hl.below hb12) hn).mono ?_
  rintro e w3 ⟨a3, c3, rfl, ho3, hb3⟩
  have hb13 := hb12.trans (hb3.mono hb12.size)
  have hz3 := hb3.size
  generalize cutV zs p k = s3 at *
  generalize hm3 : s3.length = m3 at *
  clear hm3 hP1b
  go_wp2_with fail
  refine (pad_any _ _ _ zs 8 _ (hl.below hb13) hn).mono ?_
  rintro e w4 ⟨a4, c4, rfl, ho4, hb4⟩
  have hbK : Below w1.heap.size w1 w4 := hb2.trans ((hb3.mono hz2).trans (hb4.mono (by omega)))
  have hoC : OwnB w4 w1.heap.size a2 m2 c2 s2 := (ho2.below hb3).below hb4
  have hoD : OwnB w4 w2.heap.size a3 m3 c3 s3 := ho3.below hb4
  have hoC2 : ∀ g, (Value.slice a2 m2 c2).ownBlock = some g → g < w2.heap.size := fun g hg => (ho2.own.lt g hg).2
  have hoD2 : ∀ g, (Value.slice a3 m3 c3).ownBlock = some g → g < w3.heap.size := fun g hg => (ho3.own.lt g hg).2
  generalize padV zs 8 = s4 at *
  generalize hm4 : s4.length = m4 at *
  clear hm4 ho2 ho3 hb2 hb3 hb4 hb12 hb13
  go_wp2
  have hlta2 := hoC2
  have hlta3 := hoD2
  have hlta4 : True := trivial
  go_loopw [14] (fun i wr => ∃ (j : Nat) (xs : List Nat), j ≤ m2 ∧ i = .int .i64 j ∧ OwnB wr w1.heap.size a2 m2 c2 xs ∧ OwnB wr w2.heap.size a3 m3 c3 s3 ∧ OwnB wr w3.heap.size a4 m4 c4 s4 ∧ Below w1.heap.size w1 wr) (fun i _ => m2 - (intOf i).toNat)
  case atStart => exact ⟨0, s2, by omega, rfl, hoC, hoD, ho4, hbK⟩
  case round =>
    obtain ⟨j, xs, hj, rfl, hown, hD, hE, hbel⟩ := hrel
    by_cases hjm : j < m2
    · obtain ⟨g, hg⟩ : ∃ g, a2 = some ⟨g, 0, none⟩ := by
        rcases hown.own.2 with ⟨_, h0⟩ | ⟨g, cap, cur, hv, _⟩
        · omega
        · injection hv with e1
          exact ⟨g, e1⟩
      subst hg
      have hgl := (hown.own.lt g rfl).1
      have hc := hown.cell j hjm
      have hf := hown.free j
      have hx := hown.bnd j
      have HX : Hid (bits .xor .u8 ((xs.getD j 0 : Nat) : Int) 1 = ((xs.getD j 0 ^^^ 1 : Nat) : Int)) := xorK _ 1 hx (by omega)
      have hx2 := xor_lt8 _ 1 hx (by omega)
      generalize xs.getD j 0 = x at *
      have khD := hD.kept (hown.own.stored j (.int .u8 ((x ^^^ 1 : Nat) : Int))).2 (.inr (fun e => by have := (hD.own.lt g e).1; have := hlta2 g rfl; omega))
      have khE := hE.kept (hown.own.stored j (.int .u8 ((x ^^^ 1 : Nat) : Int))).2 (.inr (fun e => by have := (hE.own.lt g e).1; have := hlta2 g rfl; omega))
      go_wp2
      go_roundw
      case rel =>
        refine ⟨j + 1, xs.set j (x ^^^ 1), by omega, by go_num, ?_, ?_⟩
        · rw [HX.out]
          exact hown.store j (x ^^^ 1) hx2
        · rw [HX.out]
          exact ⟨khD, khE, hbel.setCell (by show _ ≤ g; omega) _⟩
      case measure => simp [intOf]; omega
    · clear hown
      clear hoC hoD ho4 hbK
      go_wp2
      go_loopw [15] (fun i wr => ∃ (j : Nat) (xs : List Nat), j ≤ m3 ∧ i = .int .i64 j ∧ OwnB wr w2.heap.size a3 m3 c3 xs ∧ OwnB wr w3.heap.size a4 m4 c4 s4 ∧ Below w1.heap.size w1 wr) (fun i _ => m3 - (intOf i).toNat)
      case atStart => exact ⟨0, s3, by omega, rfl, hD, hE, hbel⟩
      case round =>
        obtain ⟨j, xs, hj, rfl, hown, hE2, hbel⟩ := hrel
        by_cases hjm : j < m3
        · obtain ⟨g, hg⟩ : ∃ g, a3 = some ⟨g, 0, none⟩ := by
            rcases hown.own.2 with ⟨_, h0⟩ | ⟨g, cap, cur, hv, _⟩
            · omega
            · injection hv with e1
              exact ⟨g, e1⟩
          subst hg
          have hgl := (hown.own.lt g rfl).1
          have hc := hown.cell j hjm
          have hf := hown.free j
          have hx := hown.bnd j
          have HX : Hid (bits .xor .u8 ((xs.getD j 0 : Nat) : Int) 2 = ((xs.getD j 0 ^^^ 2 : Nat) : Int)) := xorK _ 2 hx (by omega)
          have hx2 := xor_lt8 _ 2 hx (by omega)
          generalize xs.getD j 0 = x at *
          have khE2 := hE2.kept (hown.own.stored j (.int .u8 ((x ^^^ 2 : Nat) : Int))).2 (.inr (fun e => by have := (hE2.own.lt g e).1; have := hlta3 g rfl; omega))
          go_wp2
          go_roundw
          case rel =>
            refine ⟨j + 1, xs.set j (x ^^^ 2), by omega, by go_num, ?_, ?_⟩
            · rw [HX.out]
              exact hown.store j (x ^^^ 2) hx2
            · rw [HX.out]
              exact ⟨khE2, hbel.setCell (by show _ ≤ g; omega) _⟩
          case measure => simp [intOf]; omega
        · clear hown
          go_wp2
          go_loopw [16] (fun i wr => ∃ (j : Nat) (xs : List Nat), j ≤ m4 ∧ i = .int .i64 j ∧ OwnB wr w3.heap.size a4 m4 c4 xs ∧ Below w1.heap.size w1 wr) (fun i _ => m4 - (intOf i).toNat)
          case atStart => exact ⟨0, s4, by omega, rfl, hE2, hbel⟩
          case round =>
            obtain ⟨j, xs, hj, rfl, hown, hbel⟩ := hrel
            by_cases hjm : j < m4
            · obtain ⟨g, hg⟩ : ∃ g, a4 = some ⟨g, 0, none⟩ := by
                rcases hown.own.2 with ⟨_, h0⟩ | ⟨g, cap, cur, hv, _⟩
                · omega
                · injection hv with e1
                  exact ⟨g, e1⟩
              subst hg
              have hgl := (hown.own.lt g rfl).1
              have hc := hown.cell j hjm
              have hf := hown.free j
              have hx := hown.bnd j
              have HX : Hid (bits .xor .u8 ((xs.getD j 0 : Nat) : Int) 4 = ((xs.getD j 0 ^^^ 4 : Nat) : Int)) := xorK _ 4 hx (by omega)
              have hx2 := xor_lt8 _ 4 hx (by omega)
              generalize xs.getD j 0 = x at *
              go_wp2
              go_roundw
              case rel =>
                refine ⟨j + 1, xs.set j (x ^^^ 4), by omega, by go_num, ?_, ?_⟩
                · rw [HX.out]
                  exact hown.store j (x ^^^ 4) hx2
                · rw [HX.out]
                  exact hbel.setCell (p := ⟨g, j, none⟩) (by show w1.heap.size ≤ g; omega) _
              case measure => simp [intOf]; omega
            · clear hown
              go_wp2_with fail
              refine (live_any _).mono ?_
              rintro e w9 ⟨rfl, hb9⟩
              have hbf : Below w1.heap.size w1 _ := hbel
              have hbw := (hb1.trans (hbf.mono hb1.size)).trans (hb9.mono (Nat.le_trans hb1.size hbf.size))
              have hc1 := conv_str (hl.below hbw)
              have hc2 := conv_str (((ho1.sl (by omega)).below hbf).below hb9)
              go_wp2
              go_ret
              exact ⟨rfl, hbw⟩
end Go.Proofs.Ythjjjdnhjedbpab
