/- Both rings side by side; law07.same. -/
import Derived.Test.YtmmbnikjlklflaaRfF
import Derived.Test.YtmmbnikjlklflaaRg3
namespace Go.Proofs.Ytmmbnikjlklflaa
open Go.RowKit
def XB (p g q : Nat) (k : Nat) : Prop := k = p ∨ k = g ∨ k = q
structure Bo (w : World) (B p g q N gv gn tk d : Nat) (rs : List (Nat × List Nat)) : Prop where
  x : Rng w B (XB p g q) p g N gv tk d rs
  y : Rf w B (XB p g q) q N gn tk d (rs.map (·.2))
  gm : gv = gn % N
  np : p ≠ q
  ng : g ≠ q
theorem Bo.below {w w' : World} {B p g q N gv gn tk d : Nat} {rs : List (Nat × List Nat)} (h : Bo w B p g q N gv gn tk d rs) (hb : Below w.heap.size w w') : Bo w' B p g q N gv gn tk d rs := ⟨h.x.below hb, h.y.below hb, h.gm, h.np, h.ng⟩
theorem Bo.fr {w0 w w' : World} {B p g q N gv gn tk d : Nat} {rs : List (Nat × List Nat)} (h : Bo w B p g q N gv gn tk d rs) (hf : Fr (XB p g q) w w') (hb : Below w0.heap.size w0 w) (hB : w0.heap.size ≤ B) : Below w0.heap.size w0 w' :=
  hb.trans (hf.below w0.heap.size hb.size (fun k hk => by
    have h1 := h.x.bp
    have h2 := h.x.bg
    have h3 := h.y.bq
    rcases hk with rfl | rfl | rfl <;> omega))
theorem Bo.keepY {w w' : World} {B p g q N gv gn tk d : Nat} {rs : List (Nat × List Nat)} (h : Bo w B p g q N gv gn tk d rs) (hf : Fr (fun k => k = p ∨ k = g) w w') : Rf w' B (XB p g q) q N gn tk d (rs.map (·.2)) :=
  h.y.fr hf (fun e => e.elim (fun e => h.np e.symm) (fun e => h.ng e.symm)) (fun _ _ e => e.elim (fun e => .inl e) (fun e => .inr (.inl e)))
theorem keepX {w w' : World} {B p g q N gv tk d : Nat} {rs : List (Nat × List Nat)} (h : Rng w B (XB p g q) p g N gv tk d rs) (np : p ≠ q) (ng : g ≠ q) (hf : Fr (· = q) w w') : Rng w' B (XB p g q) p g N gv tk d rs :=
  h.fr hf np ng (fun x hx e => (h.rlt x hx).2.1 (.inr (.inr e)))
theorem frX {w w' : World} {p g q : Nat} (hf : Fr (fun k => k = p ∨ k = g) w w') : Fr (XB p g q) w w' := hf.mono (fun _ _ h => h.elim (fun e => .inl e) (fun e => .inr (.inl e)))
theorem frY {w w' : World} {p g q : Nat} (hf : Fr (· = q) w w') : Fr (XB p g q) w w' := hf.mono (fun _ _ h => .inr (.inr h))
set_option maxRecDepth 100000 in
set_option maxHeartbeats 2000000 in
theorem same_any (B p g q N gv gn tk d : Nat) (rs : List (Nat × List Nat)) (w : World) (h : Bo w B p g q N gv gn tk d rs) (hg : gn ≤ 1000000) :
    Calls Try.prog 20 #[.pointer (some ⟨p, 0, none⟩), .pointer (some ⟨q, 0, none⟩)] w fun e w' => e = .returned (.bool true) ∧ Below w.heap.size w w' := by
  have hn1 := h.x.n1
  have hn64 := h.x.n64
  have hsum := h.x.sum
  go_enter Try.func20, Try.ntmps20
  go_wp2
  go_loopw [5] (fun iv wr => ∃ i : Nat, iv = .int .i64 (i : Nat) ∧ i ≤ N ∧ Below w.heap.size w wr) (fun iv _ => N - (intOf iv).toNat)
  case atStart => exact ⟨0, rfl, by omega, Below.refl _ _⟩
  case round =>
    obtain ⟨i, rfl, hi, hbel⟩ := hrel
    have hB := h.below hbel
    have k0 := hB.y.c0
    by_cases hiN : i < N
    · have hi1 : (i : Int) < (N : Int) := by omega
      have hx := owner_any _ _ p g N gv tk d rs i wr hB.x hiN
      have hy := fun W (hW : Below wr.heap.size wr W) => owner_ref _ _ _ q N gn tk d (rs.map (·.2)) (i : Int) W (hB.y.below hW) hg rfl ⟨by omega, by omega⟩
      rw [← h.gm, List.length_map, Int.toNat_natCast] at hy
      generalize ownV N gv tk rs.length i = V at *
      go_wp2_with fail
      refine hx.mono ?_
      rintro e w1 ⟨rfl, hb1⟩
      go_wp2_with fail
      refine (hy w1 hb1).mono ?_
      rintro e w2 ⟨rfl, hb2⟩
      have HB := (show Hid _ from hbel.trans ((hb1.trans (hb2.mono hb1.size)).mono hbel.size))
      clear hx hy hB hb1 hb2 hbel k0
      go_wp2
      go_roundw
      case rel => exact ⟨i + 1, by go_num, by omega, HB.out⟩
      case measure => simp [intOf]; omega
    · have hi1 : ¬ (i : Int) < (N : Int) := by omega
      have hc := count_any _ _ p g N gv tk d rs wr hB.x
      obtain ⟨a, c, k1, hF⟩ := hB.y.full
      rw [List.length_map] at k1
      go_wp2_with fail
      refine hc.mono ?_
      rintro e w1 ⟨rfl, hb1⟩
      have hlt := hB.y.lt
      have j0 := (hb1.cell (p := ⟨q, 0, none⟩) hlt).trans hB.y.c0
      have j1 := (hb1.cell (p := ⟨q, 1, none⟩) hlt).trans k1
      have j2 := (hb1.cell (p := ⟨q, 2, none⟩) hlt).trans hB.y.c2
      have j4 := (hb1.cell (p := ⟨q, 4, none⟩) hlt).trans hB.y.c4
      have HB := (show Hid _ from hbel.trans (hb1.mono hbel.size))
      have HC : ((N - tk - rs.length : Nat) : Int) = (N : Int) - tk - rs.length := by omega
      rw [HC]
      clear hc hB hb1 hbel hF k0 k1 HC
      go_wp2
      go_quiet (fail)
      all_goals
        go_wp2
        go_ret
        exact ⟨by simp, HB.out.trans (Below.mono ⟨rfl, rfl, rfl, Nat.le_refl _, fun _ _ => rfl⟩ HB.out.size)⟩
end Go.Proofs.Ytmmbnikjlklflaa
