/- judge: sent. -/
import Derived.Test.YtpdnkbhgobdniaaJd3
import Derived.Deep.RegionHeld3
namespace Go.Proofs.Ytpdnkbhgobdniaa
open Go.RowKit Go.MapKept Go.Maps
/-- What stands while a call works on a book: the books, the side, the message and the book in their boxes. -/
structure Hd (w0 : World) (cb : Nat) (own : Ow) (n : Nat) (cp : Cp) (q qs : Sd) (sb mb bb : Nat) (m : Mg) (bc : List Value) (W : World) : Prop where
  ct : Ct w0 W cb own n cp (fun q' => q' = q)
  s : W.rangeAt sb 0 [.int .i64 qs.1, .int .u32 (qs.2.1 : Nat), .int .u32 (qs.2.2 : Nat)]
  mg : W.rangeAt mb 0 m.cells
  b : W.rangeAt bb 0 bc
  bt : W.there bb 0 7
  ls : sb < W.heap.size
  lm : mb < W.heap.size
  lb : bb < W.heap.size
  no : ∀ g o, own g = some o → g ≠ sb ∧ g ≠ mb ∧ g ≠ bb
  bB : w0.heap.size ≤ bb
  bc : cb ≠ bb
theorem Hd.fr {w0 : World} {cb : Nat} {own : Ow} {n : Nat} {cp : Cp} {q qs : Sd} {sb mb bb : Nat} {m : Mg} {bc : List Value} {W W' : World} {Q : Nat → Prop} (h : Hd w0 cb own n cp q qs sb mb bb m bc W) (hf : Fr Q W W') (hq : ∀ g, Q g → ∃ i, own g = some (q, i)) : Hd w0 cb own n cp q qs sb mb bb m bc W' := by
  have hn : ∀ g, Q g → g ≠ sb ∧ g ≠ mb ∧ g ≠ bb ∧ g ≠ cb ∧ w0.heap.size ≤ g := fun g hg => by
    obtain ⟨i, hi⟩ := hq g hg
    have a := h.no g _ hi
    have b := h.ct.ownB g _ hi
    exact ⟨a.1, a.2.1, a.2.2, b.2.2, b.1⟩
  refine ⟨h.ct.fr hf (fun g hg => (hn g hg).2.2.2.2) (fun hg => (hn cb hg).2.2.2.1 rfl) (fun g q' i hg hQ => ?_), ?_, ?_, ?_, ?_, Nat.lt_of_lt_of_le h.ls hf.size, Nat.lt_of_lt_of_le h.lm hf.size, Nat.lt_of_lt_of_le h.lb hf.size, h.no, h.bB, h.bc⟩
  · obtain ⟨j, hj⟩ := hq g hQ
    rw [hg] at hj
    simp at hj
    exact hj.1
  · exact fun i v hv => (hf.cell ⟨sb, 0 + i, none⟩ h.ls (fun hg => (hn _ hg).1 rfl)).trans (h.s i v hv)
  · exact fun i v hv => (hf.cell ⟨mb, 0 + i, none⟩ h.lm (fun hg => (hn _ hg).2.1 rfl)).trans (h.mg i v hv)
  · exact fun i v hv => (hf.cell ⟨bb, 0 + i, none⟩ h.lb (fun hg => (hn _ hg).2.2.1 rfl)).trans (h.b i v hv)
  · exact fun j hj => ⟨by rw [hf.cell ⟨bb, 0 + j, none⟩ h.lb (fun hg => (hn _ hg).2.2.1 rfl)]; exact (h.bt j hj).1, by rw [hf.frozen ⟨bb, 0 + j, none⟩ h.lb (fun hg => (hn _ hg).2.2.1 rfl)]; exact (h.bt j hj).2⟩
theorem Hd.below {w0 : World} {cb : Nat} {own : Ow} {n : Nat} {cp : Cp} {q qs : Sd} {sb mb bb : Nat} {m : Mg} {bc : List Value} {W W' : World} (h : Hd w0 cb own n cp q qs sb mb bb m bc W) (hb : Below W.heap.size W W') : Hd w0 cb own n cp q qs sb mb bb m bc W' :=
  h.fr (Fr.of_below (P := fun _ => False) hb) (fun _ h => h.elim)
theorem Hd.ext {w0 : World} {cb : Nat} {own own' : Ow} {n : Nat} {cp : Cp} {q qs : Sd} {sb mb bb : Nat} {m : Mg} {bc : List Value} {W : World} (h : Hd w0 cb own n cp q qs sb mb bb m bc W) (N : Nat) (hN : sb < N ∧ mb < N ∧ bb < N ∧ cb < N ∧ w0.heap.size ≤ N) (h1 : ∀ g o, own g = some o → own' g = some o) (h2 : ∀ g o, own' g = some o → own g = some o ∨ (N ≤ g ∧ g < W.heap.size)) : Hd w0 cb own' n cp q qs sb mb bb m bc W := by
  refine ⟨h.ct.ext h1 (fun g o ho => ?_), h.s, h.mg, h.b, h.bt, h.ls, h.lm, h.lb, fun g o ho => ?_, h.bB, h.bc⟩
  · rcases h2 g o ho with h3 | h3
    · exact h.ct.ownB g o h3
    · omega
  · rcases h2 g o ho with h3 | h3
    · exact h.no g o h3
    · omega
theorem Hd.up {w0 : World} {cb : Nat} {own : Ow} {n : Nat} {cp : Cp} {q qs : Sd} {sb mb bb : Nat} {m : Mg} {bc : List Value} {W : World} (h : Hd w0 cb own n cp q qs sb mb bb m bc W) : Hd w0 cb own (n + 1) cp q qs sb mb bb m bc W :=
  ⟨h.ct.mono (Nat.le_add_right _ _), h.s, h.mg, h.b, h.bt, h.ls, h.lm, h.lb, h.no, h.bB, h.bc⟩
/-- The two boxes ahead of the call of c.of, the book's box behind it. -/
theorem hd_new {w0 w w2 : World} {cb : Nat} {own own' : Ow} {n : Nat} {cp : Cp} {q qs : Sd} {m : Mg} (bc : List Value) (hbc : bc.length = 7) (T1 T2 T3 : TypeId) (h : Ct w0 w cb own n cp (fun _ => False))
    (hb : Below ((w.alloc (.cells #[.int .i64 qs.1, .int .u32 (qs.2.1 : Nat), .int .u32 (qs.2.2 : Nat)] T1)).alloc (.cells m.cells.toArray T2)).heap.size ((w.alloc (.cells #[.int .i64 qs.1, .int .u32 (qs.2.1 : Nat), .int .u32 (qs.2.2 : Nat)] T1)).alloc (.cells m.cells.toArray T2)) w2)
    (hct : Ct w0 w2 cb own' n cp (fun _ => False)) (hex : ∀ g o, own' g = some o → own g = some o ∨ w.heap.size + 1 + 1 ≤ g) (W : World) (hW : W = w2.alloc (.cells bc.toArray T3)) :
    Hd w0 cb own' n cp q qs w.heap.size (w.heap.size + 1) w2.heap.size m bc W := by
  obtain ⟨w1, e1⟩ : ∃ w1, w1 = w.alloc (.cells #[.int .i64 qs.1, .int .u32 (qs.2.1 : Nat), .int .u32 (qs.2.2 : Nat)] T1) := ⟨_, rfl⟩
  rw [← e1] at hb
  obtain ⟨w1b, e2⟩ : ∃ w1b, w1b = w1.alloc (.cells m.cells.toArray T2) := ⟨_, rfl⟩
  rw [← e2] at hb
  have s1 : w1.heap.size = w.heap.size + 1 := by rw [e1]; simp
  have s2 : w1b.heap.size = w.heap.size + 1 + 1 := by rw [e2]; simp [s1]
  have b1 : Below w1.heap.size w1 w1b := by rw [e2]; exact (Below.refl _ _).alloc (Nat.le_refl _) _
  have b3 : Below w2.heap.size w2 W := by rw [hW]; exact (Below.refl _ _).alloc (Nat.le_refl _) _
  have r1 : w1.rangeAt w.heap.size 0 [.int .i64 qs.1, .int .u32 (qs.2.1 : Nat), .int .u32 (qs.2.2 : Nat)] := range_new w _ T1 w1 e1
  have r2 : w1b.rangeAt w1.heap.size 0 m.cells := range_new w1 _ T2 w1b e2
  have r3 : W.rangeAt w2.heap.size 0 bc := range_new w2 bc T3 W hW
  have t3 := there_new w2 bc T3 W hW
  rw [hbc] at t3
  have z2 := hb.size
  have z3 : w2.heap.size < W.heap.size := by rw [hW]; simp
  have hB := h.bel.size
  have hcb := h.lt
  rw [s1] at r2
  refine ⟨(hct.below b3).weak (fun _ h => h.elim), range_below (range_below (range_below r1 b1 (by omega)) hb (by omega)) b3 (by omega), range_below (range_below r2 hb (by omega)) b3 (by omega), r3, t3, by omega, by omega, by omega, fun g o ho => ?_, by omega, by omega⟩
  have h1 := (hct.ownB g o ho).2.1
  rcases hex g o ho with h2 | h2
  · have := (h.ownB g o h2).2.1
    omega
  · omega
end Go.Proofs.Ytpdnkbhgobdniaa
