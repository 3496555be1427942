/- What law15's live answers: true. -/
import Derived.Test.YteobibinfckmdaaPt3
namespace Go.Proofs.Yteobibinfckmdaa
open Go.RowKit
theorem PtW.bel {w0 w w' : World} {p : Nat} {cs : List Value} (h : PtW w p cs w') (hb : Below w0.heap.size w0 w) (hp : w0.heap.size ≤ p) : Below w0.heap.size w0 w' :=
  hb.trans (h.fr.below w0.heap.size hb.size (fun k hk => by omega))
theorem wayf0 (a0 a1 a2 a3 a4 a5 a6 a7 a8 : Value) (w : World) : (Instr.field 40 (.agg #[a0, a1, a2, a3, a4, a5, a6, a7, a8]) 0).run Try.prog w = .ok a0 w := by
  simp only [Instr.field, asAgg, Sem.run_bind, Result.andThen_ok, run_underlying Try.underlying40]
  simp only [List.getElem?_toArray, List.getElem?_cons_zero, Sem.run_bind, Sem.run_pure, Result.andThen_ok, part, isAgg, run_underlying Try.underlying3]
  rfl
theorem wayf4 (a0 a1 a2 a3 a4 a5 a6 a7 a8 : Value) (w : World) : (Instr.field 40 (.agg #[a0, a1, a2, a3, a4, a5, a6, a7, a8]) 4).run Try.prog w = .ok a4 w := by
  simp only [Instr.field, asAgg, Sem.run_bind, Result.andThen_ok, run_underlying Try.underlying40]
  simp only [List.getElem?_toArray, List.getElem?_cons_zero, List.getElem?_cons_succ, Sem.run_bind, Sem.run_pure, Result.andThen_ok, part, isAgg, run_underlying Try.underlying3]
  rfl
set_option maxRecDepth 100000 in
set_option maxHeartbeats 4000000 in
theorem live15_any (w : World) : Calls Try.prog 10 #[] w fun e w' => e = .returned (.bool true) ∧ Below w.heap.size w w' := by
  have q1 : (psNew 1500).win = 4404 := by decide
  have r1 : ((psNew 1500).sample 8).mean = 64 := by decide
  have r2 : ((psNew 1500).sample 8).spread = 16 := by decide
  have r3 : ((psNew 1500).sample 8).rto = 24 := by decide
  have r4 : ((psNew 1500).sample 8).up = true := by decide
  have r5 : ((psNew 1500).sample 8).sure = false := by decide
  have hE : smE 8 = 0 := by decide
  have hwf := wayf0
  go_enter Try.func10, Try.ntmps10
  go_wp2_with fail
  refine (pnew_any 1500 w (by omega) (by omega) _ rfl).mono ?_
  rintro e w1 ⟨⟨p, rfl, hp, h1⟩, hb1⟩
  go_wp2_with fail
  refine (stands_any p _ w1 h1).mono ?_
  rintro e w2 ⟨rfl, hb2⟩
  have h2 := h1.below hb2
  have hbw2 := hb1.trans (hb2.mono hb1.size)
  clear h1 hb1 hb2
  go_wp2_with fail
  refine (sample_any 0 p _ 8 w2 h2 (pok_new 1500 (by omega) (by omega)) _ rfl).mono ?_
  rintro e w3 ⟨rfl, h3⟩
  have hbw3 := h3.bel hbw2 hp
  rw [hE]
  go_wp2_with fail
  refine (stands_any p _ w3 h3.st).mono ?_
  rintro e w4 ⟨rfl, hb4⟩
  have HB := (show Hid _ from hbw3.trans (hb4.mono hbw3.size))
  have hlt := h3.st.lt
  clear h3 h2 hbw2 hbw3 hb4
  go_wp2
  go_ret
  exact ⟨rfl, HB.out.alloc HB.out.size _⟩
end Go.Proofs.Yteobibinfckmdaa
