/- What ip.cut answers. -/
import Derived.Test.YtplicfknjhjjgaaOwnK
import Derived.Test.YtplicfknjhjjgaaIpTk0
import Derived.Test.YtplicfknjhjjgaaCopy
namespace Go.Proofs.Ytplicfknjhjjgaa
open Go.RowKit
/-- A piece: number j, of so many bytes each; the bytes lie in one row at g. -/
def cutP (sr ds pr tt id : Nat) (dn mo : Bool) (o g n s j : Nat) : Pk := ⟨sr, ds, pr, tt, id, dn, mo || decide ((j + 1) * s < n), ((o + j * s : Nat) : Int), some ⟨g, j * s, none⟩, min ((j + 1) * s) n - j * s, min ((j + 1) * s) n - j * s⟩
def cutL (sr ds pr tt id : Nat) (dn mo : Bool) (o g n s k : Nat) : List Pk := (List.range k).map (cutP sr ds pr tt id dn mo o g n s)
theorem cutL_succ (sr ds pr tt id : Nat) (dn mo : Bool) (o g n s k : Nat) : cutL sr ds pr tt id dn mo o g n s (k + 1) = cutL sr ds pr tt id dn mo o g n s k ++ [cutP sr ds pr tt id dn mo o g n s k] := by
  simp [cutL, List.range_succ]
theorem slice_lhm (b off n c l h : Nat) (hl : l < h) (hh : h ≤ c) : ∀ w, (Instr.slice 24 (.slice (some ⟨b, off, none⟩) n c) (some (.int .i64 (l : Int))) (some (.int .i64 (h : Int))) (some (.int .i64 (h : Int)))).run Try.prog w = .ok (.slice (some ⟨b, off + l, none⟩) (h - l) (h - l)) w := by
  intro w
  rw [run_slice_lhm w 24 _ n c und8 .i64 .i64 .i64 l h h (by omega) (by omega) (by omega) (by omega), size8]
  simp only [Result.andThen, sliced, Int.toNat_natCast]
  rw [if_neg (by omega)]
  simp [Addr.add]
/-- How many pieces there are. -/
def cutN (n s : Nat) : Nat := (n + s - 1) / s
set_option maxRecDepth 100000 in
set_option maxHeartbeats 1000000 in
theorem cut_any (sr ds pr tt id : Nat) (dn mo : Bool) (o : Nat) (a : Option Addr) (n c : Nat) (s : Nat) (zs : List Nat) (w : World) (hs : Sl w a n c zs) (hs1 : 1 ≤ s) (hs2 : s ≤ 1000000) (hn0 : 0 < n) (hn : n ≤ 100000) (ho : o ≤ 100000) :
    Calls Try.prog 45 #[.agg #[.int .u32 (sr : Nat), .int .u32 (ds : Nat), .int .u8 (pr : Nat), .int .u8 (tt : Nat), .int .u16 (id : Nat), .bool dn, .bool mo, .int .i64 ((o : Nat) : Int), .slice a n c], .int .i64 (s : Nat)] w fun e w' => ∃ a' c' g cg, e = .returned (.slice a' (cutN n s) c') ∧ OwnK w' w.heap.size a' (cutN n s) c' (cutL sr ds pr tt id dn mo o g n s (cutN n s)) ∧ OwnB w' w.heap.size (some ⟨g, 0, none⟩) n cg zs ∧ (Value.slice a' (cutN n s) c').ownBlock ≠ some g ∧ Below w.heap.size w w' := by
  obtain ⟨W, hW⟩ : ∃ W, W = w.alloc (.cells #[.int .u32 (sr : Nat), .int .u32 (ds : Nat), .int .u8 (pr : Nat), .int .u8 (tt : Nat), .int .u16 (id : Nat), .bool dn, .bool mo, .int .i64 ((o : Nat) : Int), .slice a n c] 26) := ⟨_, rfl⟩
  have hX := Stc.new w [.int .u32 (sr : Nat), .int .u32 (ds : Nat), .int .u8 (pr : Nat), .int .u8 (tt : Nat), .int .u16 (id : Nat), .bool dn, .bool mo, .int .i64 ((o : Nat) : Int), .slice a n c] 26 W hW
  have hbW : Below w.heap.size w W := by rw [hW]; exact (Below.refl _ _).alloc (Nat.le_refl _) _
  have hsW := hs.below hbW
  have x8 := hX.cell 8 _ rfl
  go_enter Try.func45, Try.ntmps45
  go_wp2_with fail
  rw [← hW]
  clear hW
  refine (clone_any a n c zs W hsW (by omega)).mono ?_
  rintro e w1 ⟨a1, c1, rfl, o1, _, b1⟩
  have hX1 := hX.below b1
  have bb1 : Below w.heap.size w w1 := hbW.trans (b1.mono hbW.size)
  have o1' := o1.base hbW.size
  obtain ⟨g, rfl⟩ : ∃ g, a1 = some ⟨g, 0, none⟩ := by
    rcases o1.own.2 with ⟨_, h0⟩ | ⟨g, cap, cur, hv, _⟩
    · omega
    · injection hv with e1
      exact ⟨g, e1⟩
  have hgl := (o1.own.lt g rfl).2
  have hncap : n ≤ c1 := (o1.sl (by omega)).cap
  clear x8 hX hbW hsW b1 o1
  go_wp2_with fail
  go_loopw [5, 7] (fun out fr wr => ∃ (j : Nat) (ao : Option Addr) (co : Nat), (j = 0 ∨ (j - 1) * s < n) ∧ fr = .int .i64 ((j * s : Nat) : Int) ∧ out = .slice ao j co ∧ OwnK wr w1.heap.size ao j co (cutL sr ds pr tt id dn mo o g n s j) ∧ Below w1.heap.size w1 wr) (fun _ fr _ => n + s - (intOf fr).toNat)
  case atStart => exact ⟨0, none, 0, .inl rfl, by simp, rfl, OwnK.nil _ _, Below.refl _ _⟩
  case round =>
    obtain ⟨j, ao, co, hj, rfl, rfl, hown, hbel⟩ := hrel
    obtain ⟨f, hf⟩ : ∃ f, f = j * s := ⟨_, rfl⟩
    rw [← hf]
    have HF := (show Hid _ from hf)
    have hfj : j ≤ f := by rw [hf]; exact Nat.le_mul_of_pos_right _ hs1
    have hjs : (j + 1) * s = f + s := by rw [Nat.add_mul, hf]; omega
    have hfb : f ≤ n + s := by
      rcases hj with h | h
      · subst h; simp at hf; omega
      · have : (j - 1) * s + s = f ∨ j = 0 := by
          cases j with
          | zero => exact .inr rfl
          | succ j => left; rw [hf, Nat.add_mul]; simp
        rcases this with h2 | h2
        · omega
        · subst h2; simp at hf; omega
    have HJS := (show Hid _ from hjs)
    have HJ := (show Hid _ from hj)
    clear hf hjs hj
    by_cases hfn : f < n
    · have hfn' : (f : Int) < (n : Int) := by omega
      have hXr := hX1.below hbel
      have hXa : ∀ cs, Stc (wr.alloc (.cells cs 26)) w.heap.size [.int .u32 (sr : Nat), .int .u32 (ds : Nat), .int .u8 (pr : Nat), .int .u8 (tt : Nat), .int .u16 (id : Nat), .bool dn, .bool mo, .int .i64 ((o : Nat) : Int), .slice a n c] := fun cs => hXr.below ((Below.refl _ _).alloc (Nat.le_refl _) _)
      have y6 := fun cs => (hXa cs).cell 6 _ rfl
      have y7 := fun cs => (hXa cs).cell 7 _ rfl
      have x0 := hXr.cell 0 _ rfl
      have x1 := hXr.cell 1 _ rfl
      have x2 := hXr.cell 2 _ rfl
      have x3 := hXr.cell 3 _ rfl
      have x4 := hXr.cell 4 _ rfl
      have x5 := hXr.cell 5 _ rfl
      have x6 := hXr.cell 6 _ rfl
      have x7 := hXr.cell 7 _ rfl
      have x8 := hXr.cell 8 _ rfl
      by_cases hts : f + s < n
      · have hm1 : (f : Int) + (s : Int) < (n : Int) := by omega
        have hm2 : ¬ (n : Int) < (f : Int) + (s : Int) := by omega
        cases mo with
        | true =>
          have hsl := slice_lhm g 0 n c1 f (f + s) (by omega) (by omega)
          have hsl3 : ∀ w, (Instr.slice 24 (.slice (some ⟨g, 0, none⟩) n c1) (some (.int .i64 (f : Int))) (some (.int .i64 ((f : Int) + (s : Int)))) (some (.int .i64 ((f : Int) + (s : Int))))).run Try.prog w = .ok (.slice (some ⟨g, f, none⟩) s s) w := by intro w; have := hsl w; simpa using this
          clear hsl
          have HY : Hid (cutP sr ds pr tt id dn true o g n s j = ⟨sr, ds, pr, tt, id, dn, true, (o : Int) + (f : Int), some ⟨g, f, none⟩, s, s⟩) := by
            show _ = _
            unfold cutP
            rw [HJS.out, ← HF.out, show min (f + s) n - f = s by omega, decide_eq_true hts]
            simp
          have hA1 : OwnK ((wr.alloc (.cells #[.int .u32 (sr : Nat), .int .u32 (ds : Nat), .int .u8 (pr : Nat), .int .u8 (tt : Nat), .int .u16 (id : Nat), .bool dn, .bool true, .int .i64 ((o : Int) + (f : Int)), .slice (some ⟨g, f, none⟩) s s] 26)).alloc (.cells #[.int .u32 (sr : Nat), .int .u32 (ds : Nat), .int .u8 (pr : Nat), .int .u8 (tt : Nat), .int .u16 (id : Nat), .bool dn, .bool true, .int .i64 ((o : Int) + (f : Int)), .slice (some ⟨g, f, none⟩) s s] 26)) w1.heap.size ao j co (cutL sr ds pr tt id dn true o g n s j) := (hown.below ((Below.refl _ _).alloc (Nat.le_refl _) _)).below ((Below.refl _ _).alloc (Nat.le_refl _) _)
          have hA2 := Stc.new (wr.alloc (.cells #[.int .u32 (sr : Nat), .int .u32 (ds : Nat), .int .u8 (pr : Nat), .int .u8 (tt : Nat), .int .u16 (id : Nat), .bool dn, .bool true, .int .i64 ((o : Int) + (f : Int)), .slice (some ⟨g, f, none⟩) s s] 26)) (Pk.cells ⟨sr, ds, pr, tt, id, dn, true, (o : Int) + (f : Int), some ⟨g, f, none⟩, s, s⟩) 26 ((wr.alloc (.cells #[.int .u32 (sr : Nat), .int .u32 (ds : Nat), .int .u8 (pr : Nat), .int .u8 (tt : Nat), .int .u16 (id : Nat), .bool dn, .bool true, .int .i64 ((o : Int) + (f : Int)), .slice (some ⟨g, f, none⟩) s s] 26)).alloc (.cells #[.int .u32 (sr : Nat), .int .u32 (ds : Nat), .int .u8 (pr : Nat), .int .u8 (tt : Nat), .int .u16 (id : Nat), .bool dn, .bool true, .int .i64 ((o : Int) + (f : Int)), .slice (some ⟨g, f, none⟩) s s] 26)) rfl
          have hA3 : (wr.alloc (.cells #[.int .u32 (sr : Nat), .int .u32 (ds : Nat), .int .u8 (pr : Nat), .int .u8 (tt : Nat), .int .u16 (id : Nat), .bool dn, .bool true, .int .i64 ((o : Int) + (f : Int)), .slice (some ⟨g, f, none⟩) s s] 26)).heap.size = wr.heap.size + 1 := by simp
          rw [hA3] at hA2
          clear hA3
          have hzr := hbel.size
          have bAA : Below w1.heap.size w1 ((wr.alloc (.cells #[.int .u32 (sr : Nat), .int .u32 (ds : Nat), .int .u8 (pr : Nat), .int .u8 (tt : Nat), .int .u16 (id : Nat), .bool dn, .bool true, .int .i64 ((o : Int) + (f : Int)), .slice (some ⟨g, f, none⟩) s s] 26)).alloc (.cells #[.int .u32 (sr : Nat), .int .u32 (ds : Nat), .int .u8 (pr : Nat), .int .u8 (tt : Nat), .int .u16 (id : Nat), .bool dn, .bool true, .int .i64 ((o : Int) + (f : Int)), .slice (some ⟨g, f, none⟩) s s] 26)) := (hbel.alloc hzr _).alloc (by simp; omega) _
          go_wp2_with (at_builtin; go_must (refine app_listK rfl _ _ rfl w1.heap.size ao j co (cutL sr ds pr tt id dn true o g n s j) rfl hA1 (wr.heap.size + 1) ⟨sr, ds, pr, tt, id, dn, true, (o : Int) + (f : Int), some ⟨g, f, none⟩, s, s⟩ rfl hA2 (by omega) (by simp; omega) ?_))
          intro a2 c2 w2 ho2 hg2
          rw [← HY.out, ← cutL_succ] at ho2
          have b2 : Below w1.heap.size w1 w2 := bAA.trans (hA1.up hg2 (by simp; omega))
          clear hA1 hA2 hg2 bAA hsl3 hown
          go_wp2
          go_roundw
          case rel => exact ⟨j + 1, a2, c2, .inr (by rw [Nat.add_sub_cancel, ← HF.out]; exact hfn), by rw [HJS.out]; simp, rfl, ho2, b2⟩
          case measure => simp [intOf]; omega
        | false =>
          have hsl := slice_lhm g 0 n c1 f (f + s) (by omega) (by omega)
          have hsl3 : ∀ w, (Instr.slice 24 (.slice (some ⟨g, 0, none⟩) n c1) (some (.int .i64 (f : Int))) (some (.int .i64 ((f : Int) + (s : Int)))) (some (.int .i64 ((f : Int) + (s : Int))))).run Try.prog w = .ok (.slice (some ⟨g, f, none⟩) s s) w := by intro w; have := hsl w; simpa using this
          clear hsl
          have HY : Hid (cutP sr ds pr tt id dn false o g n s j = ⟨sr, ds, pr, tt, id, dn, true, (o : Int) + (f : Int), some ⟨g, f, none⟩, s, s⟩) := by
            show _ = _
            unfold cutP
            rw [HJS.out, ← HF.out, show min (f + s) n - f = s by omega, decide_eq_true hts]
            simp
          have hA1 : OwnK ((wr.alloc (.cells #[.int .u32 (sr : Nat), .int .u32 (ds : Nat), .int .u8 (pr : Nat), .int .u8 (tt : Nat), .int .u16 (id : Nat), .bool dn, .bool true, .int .i64 ((o : Int) + (f : Int)), .slice (some ⟨g, f, none⟩) s s] 26)).alloc (.cells #[.int .u32 (sr : Nat), .int .u32 (ds : Nat), .int .u8 (pr : Nat), .int .u8 (tt : Nat), .int .u16 (id : Nat), .bool dn, .bool true, .int .i64 ((o : Int) + (f : Int)), .slice (some ⟨g, f, none⟩) s s] 26)) w1.heap.size ao j co (cutL sr ds pr tt id dn false o g n s j) := (hown.below ((Below.refl _ _).alloc (Nat.le_refl _) _)).below ((Below.refl _ _).alloc (Nat.le_refl _) _)
          have hA2 := Stc.new (wr.alloc (.cells #[.int .u32 (sr : Nat), .int .u32 (ds : Nat), .int .u8 (pr : Nat), .int .u8 (tt : Nat), .int .u16 (id : Nat), .bool dn, .bool true, .int .i64 ((o : Int) + (f : Int)), .slice (some ⟨g, f, none⟩) s s] 26)) (Pk.cells ⟨sr, ds, pr, tt, id, dn, true, (o : Int) + (f : Int), some ⟨g, f, none⟩, s, s⟩) 26 ((wr.alloc (.cells #[.int .u32 (sr : Nat), .int .u32 (ds : Nat), .int .u8 (pr : Nat), .int .u8 (tt : Nat), .int .u16 (id : Nat), .bool dn, .bool true, .int .i64 ((o : Int) + (f : Int)), .slice (some ⟨g, f, none⟩) s s] 26)).alloc (.cells #[.int .u32 (sr : Nat), .int .u32 (ds : Nat), .int .u8 (pr : Nat), .int .u8 (tt : Nat), .int .u16 (id : Nat), .bool dn, .bool true, .int .i64 ((o : Int) + (f : Int)), .slice (some ⟨g, f, none⟩) s s] 26)) rfl
          have hA3 : (wr.alloc (.cells #[.int .u32 (sr : Nat), .int .u32 (ds : Nat), .int .u8 (pr : Nat), .int .u8 (tt : Nat), .int .u16 (id : Nat), .bool dn, .bool true, .int .i64 ((o : Int) + (f : Int)), .slice (some ⟨g, f, none⟩) s s] 26)).heap.size = wr.heap.size + 1 := by simp
          rw [hA3] at hA2
          clear hA3
          have hzr := hbel.size
          have bAA : Below w1.heap.size w1 ((wr.alloc (.cells #[.int .u32 (sr : Nat), .int .u32 (ds : Nat), .int .u8 (pr : Nat), .int .u8 (tt : Nat), .int .u16 (id : Nat), .bool dn, .bool true, .int .i64 ((o : Int) + (f : Int)), .slice (some ⟨g, f, none⟩) s s] 26)).alloc (.cells #[.int .u32 (sr : Nat), .int .u32 (ds : Nat), .int .u8 (pr : Nat), .int .u8 (tt : Nat), .int .u16 (id : Nat), .bool dn, .bool true, .int .i64 ((o : Int) + (f : Int)), .slice (some ⟨g, f, none⟩) s s] 26)) := (hbel.alloc hzr _).alloc (by simp; omega) _
          go_wp2_with (at_builtin; go_must (refine app_listK rfl _ _ rfl w1.heap.size ao j co (cutL sr ds pr tt id dn false o g n s j) rfl hA1 (wr.heap.size + 1) ⟨sr, ds, pr, tt, id, dn, true, (o : Int) + (f : Int), some ⟨g, f, none⟩, s, s⟩ rfl hA2 (by omega) (by simp; omega) ?_))
          intro a2 c2 w2 ho2 hg2
          rw [← HY.out, ← cutL_succ] at ho2
          have b2 : Below w1.heap.size w1 w2 := bAA.trans (hA1.up hg2 (by simp; omega))
          clear hA1 hA2 hg2 bAA hsl3 hown
          go_wp2
          go_roundw
          case rel => exact ⟨j + 1, a2, c2, .inr (by rw [Nat.add_sub_cancel, ← HF.out]; exact hfn), by rw [HJS.out]; simp, rfl, ho2, b2⟩
          case measure => simp [intOf]; omega
      · have hm1 : ¬ (f : Int) + (s : Int) < (n : Int) := by omega
        by_cases hte : n < f + s
        · have hm2 : (n : Int) < (f : Int) + (s : Int) := by omega
          cases mo with
          | true =>
            have hsl := slice_lhm g 0 n c1 f (n) (by omega) (by omega)
            have hsl3 : ∀ w, (Instr.slice 24 (.slice (some ⟨g, 0, none⟩) n c1) (some (.int .i64 (f : Int))) (some (.int .i64 ((n : Int)))) (some (.int .i64 ((n : Int))))).run Try.prog w = .ok (.slice (some ⟨g, f, none⟩) (n - f) (n - f)) w := by intro w; have := hsl w; simpa using this
            clear hsl
            have HY : Hid (cutP sr ds pr tt id dn true o g n s j = ⟨sr, ds, pr, tt, id, dn, true, (o : Int) + (f : Int), some ⟨g, f, none⟩, (n - f), (n - f)⟩) := by
              show _ = _
              unfold cutP
              rw [HJS.out, ← HF.out, show min (f + s) n - f = (n - f) by omega, decide_eq_false (show ¬ f + s < n by omega)]
              simp
            have hA1 : OwnK ((wr.alloc (.cells #[.int .u32 (sr : Nat), .int .u32 (ds : Nat), .int .u8 (pr : Nat), .int .u8 (tt : Nat), .int .u16 (id : Nat), .bool dn, .bool true, .int .i64 ((o : Int) + (f : Int)), .slice (some ⟨g, f, none⟩) (n - f) (n - f)] 26)).alloc (.cells #[.int .u32 (sr : Nat), .int .u32 (ds : Nat), .int .u8 (pr : Nat), .int .u8 (tt : Nat), .int .u16 (id : Nat), .bool dn, .bool true, .int .i64 ((o : Int) + (f : Int)), .slice (some ⟨g, f, none⟩) (n - f) (n - f)] 26)) w1.heap.size ao j co (cutL sr ds pr tt id dn true o g n s j) := (hown.below ((Below.refl _ _).alloc (Nat.le_refl _) _)).below ((Below.refl _ _).alloc (Nat.le_refl _) _)
            have hA2 := Stc.new (wr.alloc (.cells #[.int .u32 (sr : Nat), .int .u32 (ds : Nat), .int .u8 (pr : Nat), .int .u8 (tt : Nat), .int .u16 (id : Nat), .bool dn, .bool true, .int .i64 ((o : Int) + (f : Int)), .slice (some ⟨g, f, none⟩) (n - f) (n - f)] 26)) (Pk.cells ⟨sr, ds, pr, tt, id, dn, true, (o : Int) + (f : Int), some ⟨g, f, none⟩, (n - f), (n - f)⟩) 26 ((wr.alloc (.cells #[.int .u32 (sr : Nat), .int .u32 (ds : Nat), .int .u8 (pr : Nat), .int .u8 (tt : Nat), .int .u16 (id : Nat), .bool dn, .bool true, .int .i64 ((o : Int) + (f : Int)), .slice (some ⟨g, f, none⟩) (n - f) (n - f)] 26)).alloc (.cells #[.int .u32 (sr : Nat), .int .u32 (ds : Nat), .int .u8 (pr : Nat), .int .u8 (tt : Nat), .int .u16 (id : Nat), .bool dn, .bool true, .int .i64 ((o : Int) + (f : Int)), .slice (some ⟨g, f, none⟩) (n - f) (n - f)] 26)) rfl
            have hA3 : (wr.alloc (.cells #[.int .u32 (sr : Nat), .int .u32 (ds : Nat), .int .u8 (pr : Nat), .int .u8 (tt : Nat), .int .u16 (id : Nat), .bool dn, .bool true, .int .i64 ((o : Int) + (f : Int)), .slice (some ⟨g, f, none⟩) (n - f) (n - f)] 26)).heap.size = wr.heap.size + 1 := by simp
            rw [hA3] at hA2
            clear hA3
            have hzr := hbel.size
            have bAA : Below w1.heap.size w1 ((wr.alloc (.cells #[.int .u32 (sr : Nat), .int .u32 (ds : Nat), .int .u8 (pr : Nat), .int .u8 (tt : Nat), .int .u16 (id : Nat), .bool dn, .bool true, .int .i64 ((o : Int) + (f : Int)), .slice (some ⟨g, f, none⟩) (n - f) (n - f)] 26)).alloc (.cells #[.int .u32 (sr : Nat), .int .u32 (ds : Nat), .int .u8 (pr : Nat), .int .u8 (tt : Nat), .int .u16 (id : Nat), .bool dn, .bool true, .int .i64 ((o : Int) + (f : Int)), .slice (some ⟨g, f, none⟩) (n - f) (n - f)] 26)) := (hbel.alloc hzr _).alloc (by simp; omega) _
            go_wp2_with (at_builtin; go_must (refine app_listK rfl _ _ rfl w1.heap.size ao j co (cutL sr ds pr tt id dn true o g n s j) rfl hA1 (wr.heap.size + 1) ⟨sr, ds, pr, tt, id, dn, true, (o : Int) + (f : Int), some ⟨g, f, none⟩, (n - f), (n - f)⟩ rfl hA2 (by omega) (by simp; omega) ?_))
            intro a2 c2 w2 ho2 hg2
            rw [← HY.out, ← cutL_succ] at ho2
            have b2 : Below w1.heap.size w1 w2 := bAA.trans (hA1.up hg2 (by simp; omega))
            clear hA1 hA2 hg2 bAA hsl3 hown
            go_wp2
            go_roundw
            case rel => exact ⟨j + 1, a2, c2, .inr (by rw [Nat.add_sub_cancel, ← HF.out]; exact hfn), by rw [HJS.out]; simp, rfl, ho2, b2⟩
            case measure => simp [intOf]; omega
          | false =>
            have hsl := slice_lhm g 0 n c1 f (n) (by omega) (by omega)
            have hsl3 : ∀ w, (Instr.slice 24 (.slice (some ⟨g, 0, none⟩) n c1) (some (.int .i64 (f : Int))) (some (.int .i64 ((n : Int)))) (some (.int .i64 ((n : Int))))).run Try.prog w = .ok (.slice (some ⟨g, f, none⟩) (n - f) (n - f)) w := by intro w; have := hsl w; simpa using this
            clear hsl
            have HY : Hid (cutP sr ds pr tt id dn false o g n s j = ⟨sr, ds, pr, tt, id, dn, false, (o : Int) + (f : Int), some ⟨g, f, none⟩, (n - f), (n - f)⟩) := by
              show _ = _
              unfold cutP
              rw [HJS.out, ← HF.out, show min (f + s) n - f = (n - f) by omega, decide_eq_false (show ¬ f + s < n by omega)]
              simp
            have hA1 : OwnK ((wr.alloc (.cells #[.int .u32 (sr : Nat), .int .u32 (ds : Nat), .int .u8 (pr : Nat), .int .u8 (tt : Nat), .int .u16 (id : Nat), .bool dn, .bool false, .int .i64 ((o : Int) + (f : Int)), .slice (some ⟨g, f, none⟩) (n - f) (n - f)] 26)).alloc (.cells #[.int .u32 (sr : Nat), .int .u32 (ds : Nat), .int .u8 (pr : Nat), .int .u8 (tt : Nat), .int .u16 (id : Nat), .bool dn, .bool false, .int .i64 ((o : Int) + (f : Int)), .slice (some ⟨g, f, none⟩) (n - f) (n - f)] 26)) w1.heap.size ao j co (cutL sr ds pr tt id dn false o g n s j) := (hown.below ((Below.refl _ _).alloc (Nat.le_refl _) _)).below ((Below.refl _ _).alloc (Nat.le_refl _) _)
            have hA2 := Stc.new (wr.alloc (.cells #[.int .u32 (sr : Nat), .int .u32 (ds : Nat), .int .u8 (pr : Nat), .int .u8 (tt : Nat), .int .u16 (id : Nat), .bool dn, .bool false, .int .i64 ((o : Int) + (f : Int)), .slice (some ⟨g, f, none⟩) (n - f) (n - f)] 26)) (Pk.cells ⟨sr, ds, pr, tt, id, dn, false, (o : Int) + (f : Int), some ⟨g, f, none⟩, (n - f), (n - f)⟩) 26 ((wr.alloc (.cells #[.int .u32 (sr : Nat), .int .u32 (ds : Nat), .int .u8 (pr : Nat), .int .u8 (tt : Nat), .int .u16 (id : Nat), .bool dn, .bool false, .int .i64 ((o : Int) + (f : Int)), .slice (some ⟨g, f, none⟩) (n - f) (n - f)] 26)).alloc (.cells #[.int .u32 (sr : Nat), .int .u32 (ds : Nat), .int .u8 (pr : Nat), .int .u8 (tt : Nat), .int .u16 (id : Nat), .bool dn, .bool false, .int .i64 ((o : Int) + (f : Int)), .slice (some ⟨g, f, none⟩) (n - f) (n - f)] 26)) rfl
            have hA3 : (wr.alloc (.cells #[.int .u32 (sr : Nat), .int .u32 (ds : Nat), .int .u8 (pr : Nat), .int .u8 (tt : Nat), .int .u16 (id : Nat), .bool dn, .bool false, .int .i64 ((o : Int) + (f : Int)), .slice (some ⟨g, f, none⟩) (n - f) (n - f)] 26)).heap.size = wr.heap.size + 1 := by simp
            rw [hA3] at hA2
            clear hA3
            have hzr := hbel.size
            have bAA : Below w1.heap.size w1 ((wr.alloc (.cells #[.int .u32 (sr : Nat), .int .u32 (ds : Nat), .int .u8 (pr : Nat), .int .u8 (tt : Nat), .int .u16 (id : Nat), .bool dn, .bool false, .int .i64 ((o : Int) + (f : Int)), .slice (some ⟨g, f, none⟩) (n - f) (n - f)] 26)).alloc (.cells #[.int .u32 (sr : Nat), .int .u32 (ds : Nat), .int .u8 (pr : Nat), .int .u8 (tt : Nat), .int .u16 (id : Nat), .bool dn, .bool false, .int .i64 ((o : Int) + (f : Int)), .slice (some ⟨g, f, none⟩) (n - f) (n - f)] 26)) := (hbel.alloc hzr _).alloc (by simp; omega) _
            go_wp2_with (at_builtin; go_must (refine app_listK rfl _ _ rfl w1.heap.size ao j co (cutL sr ds pr tt id dn false o g n s j) rfl hA1 (wr.heap.size + 1) ⟨sr, ds, pr, tt, id, dn, false, (o : Int) + (f : Int), some ⟨g, f, none⟩, (n - f), (n - f)⟩ rfl hA2 (by omega) (by simp; omega) ?_))
            intro a2 c2 w2 ho2 hg2
            rw [← HY.out, ← cutL_succ] at ho2
            have b2 : Below w1.heap.size w1 w2 := bAA.trans (hA1.up hg2 (by simp; omega))
            clear hA1 hA2 hg2 bAA hsl3 hown
            go_wp2
            go_roundw
            case rel => exact ⟨j + 1, a2, c2, .inr (by rw [Nat.add_sub_cancel, ← HF.out]; exact hfn), by rw [HJS.out]; simp, rfl, ho2, b2⟩
            case measure => simp [intOf]; omega
        · have hm2 : ¬ (n : Int) < (f : Int) + (s : Int) := by omega
          cases mo with
          | true =>
            have hsl := slice_lhm g 0 n c1 f (f + s) (by omega) (by omega)
            have hsl3 : ∀ w, (Instr.slice 24 (.slice (some ⟨g, 0, none⟩) n c1) (some (.int .i64 (f : Int))) (some (.int .i64 ((f : Int) + (s : Int)))) (some (.int .i64 ((f : Int) + (s : Int))))).run Try.prog w = .ok (.slice (some ⟨g, f, none⟩) s s) w := by intro w; have := hsl w; simpa using this
            clear hsl
            have HY : Hid (cutP sr ds pr tt id dn true o g n s j = ⟨sr, ds, pr, tt, id, dn, true, (o : Int) + (f : Int), some ⟨g, f, none⟩, s, s⟩) := by
              show _ = _
              unfold cutP
              rw [HJS.out, ← HF.out, show min (f + s) n - f = s by omega, decide_eq_false (show ¬ f + s < n by omega)]
              simp
            have hA1 : OwnK ((wr.alloc (.cells #[.int .u32 (sr : Nat), .int .u32 (ds : Nat), .int .u8 (pr : Nat), .int .u8 (tt : Nat), .int .u16 (id : Nat), .bool dn, .bool true, .int .i64 ((o : Int) + (f : Int)), .slice (some ⟨g, f, none⟩) s s] 26)).alloc (.cells #[.int .u32 (sr : Nat), .int .u32 (ds : Nat), .int .u8 (pr : Nat), .int .u8 (tt : Nat), .int .u16 (id : Nat), .bool dn, .bool true, .int .i64 ((o : Int) + (f : Int)), .slice (some ⟨g, f, none⟩) s s] 26)) w1.heap.size ao j co (cutL sr ds pr tt id dn true o g n s j) := (hown.below ((Below.refl _ _).alloc (Nat.le_refl _) _)).below ((Below.refl _ _).alloc (Nat.le_refl _) _)
            have hA2 := Stc.new (wr.alloc (.cells #[.int .u32 (sr : Nat), .int .u32 (ds : Nat), .int .u8 (pr : Nat), .int .u8 (tt : Nat), .int .u16 (id : Nat), .bool dn, .bool true, .int .i64 ((o : Int) + (f : Int)), .slice (some ⟨g, f, none⟩) s s] 26)) (Pk.cells ⟨sr, ds, pr, tt, id, dn, true, (o : Int) + (f : Int), some ⟨g, f, none⟩, s, s⟩) 26 ((wr.alloc (.cells #[.int .u32 (sr : Nat), .int .u32 (ds : Nat), .int .u8 (pr : Nat), .int .u8 (tt : Nat), .int .u16 (id : Nat), .bool dn, .bool true, .int .i64 ((o : Int) + (f : Int)), .slice (some ⟨g, f, none⟩) s s] 26)).alloc (.cells #[.int .u32 (sr : Nat), .int .u32 (ds : Nat), .int .u8 (pr : Nat), .int .u8 (tt : Nat), .int .u16 (id : Nat), .bool dn, .bool true, .int .i64 ((o : Int) + (f : Int)), .slice (some ⟨g, f, none⟩) s s] 26)) rfl
            have hA3 : (wr.alloc (.cells #[.int .u32 (sr : Nat), .int .u32 (ds : Nat), .int .u8 (pr : Nat), .int .u8 (tt : Nat), .int .u16 (id : Nat), .bool dn, .bool true, .int .i64 ((o : Int) + (f : Int)), .slice (some ⟨g, f, none⟩) s s] 26)).heap.size = wr.heap.size + 1 := by simp
            rw [hA3] at hA2
            clear hA3
            have hzr := hbel.size
            have bAA : Below w1.heap.size w1 ((wr.alloc (.cells #[.int .u32 (sr : Nat), .int .u32 (ds : Nat), .int .u8 (pr : Nat), .int .u8 (tt : Nat), .int .u16 (id : Nat), .bool dn, .bool true, .int .i64 ((o : Int) + (f : Int)), .slice (some ⟨g, f, none⟩) s s] 26)).alloc (.cells #[.int .u32 (sr : Nat), .int .u32 (ds : Nat), .int .u8 (pr : Nat), .int .u8 (tt : Nat), .int .u16 (id : Nat), .bool dn, .bool true, .int .i64 ((o : Int) + (f : Int)), .slice (some ⟨g, f, none⟩) s s] 26)) := (hbel.alloc hzr _).alloc (by simp; omega) _
            go_wp2_with (at_builtin; go_must (refine app_listK rfl _ _ rfl w1.heap.size ao j co (cutL sr ds pr tt id dn true o g n s j) rfl hA1 (wr.heap.size + 1) ⟨sr, ds, pr, tt, id, dn, true, (o : Int) + (f : Int), some ⟨g, f, none⟩, s, s⟩ rfl hA2 (by omega) (by simp; omega) ?_))
            intro a2 c2 w2 ho2 hg2
            rw [← HY.out, ← cutL_succ] at ho2
            have b2 : Below w1.heap.size w1 w2 := bAA.trans (hA1.up hg2 (by simp; omega))
            clear hA1 hA2 hg2 bAA hsl3 hown
            go_wp2
            go_roundw
            case rel => exact ⟨j + 1, a2, c2, .inr (by rw [Nat.add_sub_cancel, ← HF.out]; exact hfn), by rw [HJS.out]; simp, rfl, ho2, b2⟩
            case measure => simp [intOf]; omega
          | false =>
            have hsl := slice_lhm g 0 n c1 f (f + s) (by omega) (by omega)
            have hsl3 : ∀ w, (Instr.slice 24 (.slice (some ⟨g, 0, none⟩) n c1) (some (.int .i64 (f : Int))) (some (.int .i64 ((f : Int) + (s : Int)))) (some (.int .i64 ((f : Int) + (s : Int))))).run Try.prog w = .ok (.slice (some ⟨g, f, none⟩) s s) w := by intro w; have := hsl w; simpa using this
            clear hsl
            have HY : Hid (cutP sr ds pr tt id dn false o g n s j = ⟨sr, ds, pr, tt, id, dn, false, (o : Int) + (f : Int), some ⟨g, f, none⟩, s, s⟩) := by
              show _ = _
              unfold cutP
              rw [HJS.out, ← HF.out, show min (f + s) n - f = s by omega, decide_eq_false (show ¬ f + s < n by omega)]
              simp
            have hA1 : OwnK ((wr.alloc (.cells #[.int .u32 (sr : Nat), .int .u32 (ds : Nat), .int .u8 (pr : Nat), .int .u8 (tt : Nat), .int .u16 (id : Nat), .bool dn, .bool false, .int .i64 ((o : Int) + (f : Int)), .slice (some ⟨g, f, none⟩) s s] 26)).alloc (.cells #[.int .u32 (sr : Nat), .int .u32 (ds : Nat), .int .u8 (pr : Nat), .int .u8 (tt : Nat), .int .u16 (id : Nat), .bool dn, .bool false, .int .i64 ((o : Int) + (f : Int)), .slice (some ⟨g, f, none⟩) s s] 26)) w1.heap.size ao j co (cutL sr ds pr tt id dn false o g n s j) := (hown.below ((Below.refl _ _).alloc (Nat.le_refl _) _)).below ((Below.refl _ _).alloc (Nat.le_refl _) _)
            have hA2 := Stc.new (wr.alloc (.cells #[.int .u32 (sr : Nat), .int .u32 (ds : Nat), .int .u8 (pr : Nat), .int .u8 (tt : Nat), .int .u16 (id : Nat), .bool dn, .bool false, .int .i64 ((o : Int) + (f : Int)), .slice (some ⟨g, f, none⟩) s s] 26)) (Pk.cells ⟨sr, ds, pr, tt, id, dn, false, (o : Int) + (f : Int), some ⟨g, f, none⟩, s, s⟩) 26 ((wr.alloc (.cells #[.int .u32 (sr : Nat), .int .u32 (ds : Nat), .int .u8 (pr : Nat), .int .u8 (tt : Nat), .int .u16 (id : Nat), .bool dn, .bool false, .int .i64 ((o : Int) + (f : Int)), .slice (some ⟨g, f, none⟩) s s] 26)).alloc (.cells #[.int .u32 (sr : Nat), .int .u32 (ds : Nat), .int .u8 (pr : Nat), .int .u8 (tt : Nat), .int .u16 (id : Nat), .bool dn, .bool false, .int .i64 ((o : Int) + (f : Int)), .slice (some ⟨g, f, none⟩) s s] 26)) rfl
            have hA3 : (wr.alloc (.cells #[.int .u32 (sr : Nat), .int .u32 (ds : Nat), .int .u8 (pr : Nat), .int .u8 (tt : Nat), .int .u16 (id : Nat), .bool dn, .bool false, .int .i64 ((o : Int) + (f : Int)), .slice (some ⟨g, f, none⟩) s s] 26)).heap.size = wr.heap.size + 1 := by simp
            rw [hA3] at hA2
            clear hA3
            have hzr := hbel.size
            have bAA : Below w1.heap.size w1 ((wr.alloc (.cells #[.int .u32 (sr : Nat), .int .u32 (ds : Nat), .int .u8 (pr : Nat), .int .u8 (tt : Nat), .int .u16 (id : Nat), .bool dn, .bool false, .int .i64 ((o : Int) + (f : Int)), .slice (some ⟨g, f, none⟩) s s] 26)).alloc (.cells #[.int .u32 (sr : Nat), .int .u32 (ds : Nat), .int .u8 (pr : Nat), .int .u8 (tt : Nat), .int .u16 (id : Nat), .bool dn, .bool false, .int .i64 ((o : Int) + (f : Int)), .slice (some ⟨g, f, none⟩) s s] 26)) := (hbel.alloc hzr _).alloc (by simp; omega) _
            go_wp2_with (at_builtin; go_must (refine app_listK rfl _ _ rfl w1.heap.size ao j co (cutL sr ds pr tt id dn false o g n s j) rfl hA1 (wr.heap.size + 1) ⟨sr, ds, pr, tt, id, dn, false, (o : Int) + (f : Int), some ⟨g, f, none⟩, s, s⟩ rfl hA2 (by omega) (by simp; omega) ?_))
            intro a2 c2 w2 ho2 hg2
            rw [← HY.out, ← cutL_succ] at ho2
            have b2 : Below w1.heap.size w1 w2 := bAA.trans (hA1.up hg2 (by simp; omega))
            clear hA1 hA2 hg2 bAA hsl3 hown
            go_wp2
            go_roundw
            case rel => exact ⟨j + 1, a2, c2, .inr (by rw [Nat.add_sub_cancel, ← HF.out]; exact hfn), by rw [HJS.out]; simp, rfl, ho2, b2⟩
            case measure => simp [intOf]; omega
    · have hjn : j = cutN n s := by
        have hF := HF.out
        have hJ := HJ.out
        unfold cutN
        symm
        apply Nat.div_eq_of_lt_le
        · rcases hJ with h | h
          · subst h; simp
          · cases j with
            | zero => simp
            | succ j =>
              rw [Nat.add_sub_cancel] at h
              rw [Nat.add_mul]
              omega
        · rw [HJS.out]; omega
      subst hjn
      have hK := hown.base bb1.size
      have hB := o1'.below hbel
      have bb2 : Below w.heap.size w wr := bb1.trans (hbel.mono bb1.size)
      have hne : (Value.slice ao (cutN n s) co).ownBlock ≠ some g := fun e => by have := (hown.own.lt g e).1; omega
      clear hown hbel hX1
      go_wp2
      go_ret
      exact ⟨ao, co, g, c1, rfl, hK, hB, hne, bb2⟩
end Go.Proofs.Ytplicfknjhjjgaa
