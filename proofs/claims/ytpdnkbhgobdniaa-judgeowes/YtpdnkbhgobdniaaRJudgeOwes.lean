/-
  Whatever the input, trunklinelaw19.JudgeOwes answers true and leaves what it was handed as it was.
  (The statement is Rows.JudgeOwesSaid; no condition of our own.)
-/
import Derived.Test.YtpdnkbhgobdniaaRows
import Derived.Test.YtpdnkbhgobdniaaLJudgeOwes
import Derived.ProofKit
import Derived.OpenShut
import Derived.ShutString
import Derived.ChangeOld
import Derived.SizedLaws
import Derived.Lib.SmallJoins
namespace Go.Proofs.Ytpdnkbhgobdniaa.judgeOwes
open Go.ChangeShapes Go.WideShapes Go.ChangeAt Go.RowKit
open Go.ChangeMaps (open_string shut_string)
set_option linter.unusedVariables false
theorem own : ownKnob Try.prog.godebug = none := by kernel_rfl
theorem laidOut : laidOutB Try.prog = true := by kernel_rfl

theorem cells_arr2 : Try.prog.cellsOf 30 = 2 := by kernel_rfl
theorem cells_el2 : Try.prog.cellsOf 29 = 1 := by kernel_rfl
set_option maxRecDepth 100000 in
theorem lifted (os : Os) (started : os.Started) (H : Type) (enc : TypeId × Value → H) :
    ReturnsInHanded {} Try.checked os 4 .any (Rows.judgeOwesSpec.pre6 enc Try.prog Try.f4 Rows.judgeOwesRow.domain false) (Rows.judgeOwesSpec.post enc Try.prog Try.f4 false true false false) := by
  refine returnsInHanded_of_change_sized (C := Try.checked) own started (by kernel_rfl) Try.func4
    (ChangeSpec.witness6 (enc := enc) (C := Try.checked) false ⟨#[], #[.slice none 0 0, .int .i64 0, .agg #[.int .u32 0, .int .u32 0]], []⟩ 8 (by kernel_rfl) (by kernel_rfl) (by kernel_rfl) (by kernel_rfl)) ?_
  intro W base args ds gs before hval0 hW hcnd hsz0 _
  have hval : ∀ (j : Nat) t v, Try.f4.params[j]? = some t → args[j]? = some v → Value.okWide Try.prog W .any base t v := hval0
  have hsz : (DataW.weightsEach Try.prog (Try.f4.params.toList ++ Rows.judgeOwesSpec.plain.varTypes Try.prog) (ds ++ gs)).all (· ≤ reachBytes) = true := hsz0
  clear hsz0
  have hW' := hW
  obtain ⟨p, q, hA0, hV, rfl, hfz, hnd⟩ := hW
  have hA : DataW.TrodAll enc Try.prog W 0 (fun _ => true) true Try.f4.params.toList args.toList ds p := hA0
  rw [Try.params4] at hA hval hsz
  obtain ⟨v0, vs0, d0, ds0, p0, q0, hargs, rfl, rfl, h0, r0⟩ := trodAll_cons hA
  obtain ⟨v1, vs1, d1, ds1, p1, q1, rfl, rfl, rfl, h1, r1⟩ := trodAll_cons r0
  obtain ⟨v2, vs2, d2, ds2, p2, q2, rfl, rfl, rfl, h2, r2⟩ := trodAll_cons r1
  obtain ⟨rfl, rfl, rfl⟩ := trodAll_nil r2
  obtain rfl : args = #[v0, v1, v2] := by cases args; simp_all
  obtain ⟨rfl, rfl⟩ := trodVars_none hV
  obtain ⟨a0, len0, cap0, rfl⟩ := okWide_slice Try.underlying22 (hval 0 22 v0 rfl rfl)
  have k0 := h0
  have lt0 : ∀ x ∈ p0, x.block < W.heap.size := by obtain ⟨m, hm⟩ := k0; exact DataW.trod_lt m _ _ _ hm
  obtain ⟨z0, w0⟩ : ∃ dd, SlM W a0 len0 cap0 dd := by
    clear k0 lt0
    obtain ⟨fuel, hf⟩ := h0
    exact SlM.open hf (fun q hq => by
      have := List.all_eq_true.1 hsz q (DataW.weights_mem_each (j := 0) (t := 22) (d := d0) rfl rfl q hq)
      simpa using this)
  obtain ⟨x1, rfl, rfl, rfl, w1⟩ := open_int Try.underlying3 (hval 1 3 v1 rfl rfl) h1
  have k2 := h2
  have lt2 : ∀ x ∈ p2, x.block < W.heap.size := by obtain ⟨m, hm⟩ := k2; exact DataW.trod_lt m _ _ _ hm
  obtain ⟨x2_0, x2_1, rfl, w2_0, w2_1⟩ : ∃ x2_0 x2_1 : Int, v2 = .agg #[.int .u32 x2_0, .int .u32 x2_1] ∧ (Lit.int .u32 x2_0).wf = true ∧ (Lit.int .u32 x2_1).wf = true := by
    clear k2 lt2
    obtain ⟨cs, rfl, hcs, _⟩ : ∃ cs, v2 = .agg cs ∧ cs.size = Try.prog.cellsOf 30 ∧ Row.okWide Try.prog W .any base 30 cs := by
      have := hval 2 30 v2 rfl rfl
      simpa [Value.okWide, Try.underlying30] using this
    rw [cells_arr2] at hcs
    obtain ⟨e0, e1, rfl⟩ := Joins.array2 hcs
    obtain ⟨fuel, hf⟩ := h2
    obtain ⟨xs, m, _, _, _, hxl, hel⟩ := DataW.trod_array Try.underlying30 hf
    have g0 := hel 0 (by omega)
    rw [cells_el2, List.getElem?_eq_getElem (show 0 < xs.length by omega)] at g0
    obtain ⟨i0, q0, _, wi0⟩ := DataW.trod_int Try.underlying29 g0
    simp [Value.cells] at q0
    subst q0
    have g1 := hel 1 (by omega)
    rw [cells_el2, List.getElem?_eq_getElem (show 1 < xs.length by omega)] at g1
    obtain ⟨i1, q1, _, wi1⟩ := DataW.trod_int Try.underlying29 g1
    simp [Value.cells] at q1
    subst q1
    exact ⟨i0, i1, rfl, wi0, wi1⟩
  obtain ⟨m2_0, rfl⟩ : ∃ m : Nat, x2_0 = (m : Int) := ⟨x2_0.toNat, by have := bounds_u32 w2_0; omega⟩
  have b2_0 : m2_0 < 4294967296 := by have := bounds_u32 w2_0; omega
  obtain ⟨m2_1, rfl⟩ : ∃ m : Nat, x2_1 = (m : Int) := ⟨x2_1.toNat, by have := bounds_u32 w2_1; omega⟩
  have b2_1 : m2_1 < 4294967296 := by have := bounds_u32 w2_1; omega
  clear hA0 hval0 hsz
  refine (walk_JudgeOwes a0 len0 cap0 z0 x1 m2_0 m2_1 W w0 w1 b2_0 b2_1).mono fun e W' ⟨he, bel⟩ => ?_
  subst he
  exact ⟨_, rfl, _, _, _, [], _, [], hW', trodAll_mk1 (shut_bool Try.underlying4 _), (trodAll_cons_mk (Below.trod laidOut (by kernel_rfl) (of_decide_eq_true (by kernel_rfl)) k0 bel lt0) (trodAll_cons_mk (shut_int Try.underlying3 w1) (trodAll_cons_mk (Below.trod laidOut (by kernel_rfl) (of_decide_eq_true (by kernel_rfl)) k2 bel lt2) trodAll_mk0))), rfl, bel.frame _, fun h => by cases h⟩
theorem over : Rows.judgeOwesRow.holds Try.pinned (OpenSpec.ofChange Rows.judgeOwesSpec) :=
  OpenClaim.holds_of_wide 4 Try.f4 rfl rfl rfl rfl rfl rfl rfl ⟨rfl, rfl, rfl, rfl, rfl⟩ rfl rfl rfl rfl rfl (by kernel_rfl) Try.func4 (by kernel_rfl)
    (of_decide_eq_true (by kernel_rfl)) (by unfold Func.isWrapper; first | (rw [if_pos (by decide +kernel)]; kernel_rfl) | (rw [if_neg (by decide +kernel)]; exact ⟨rfl, rfl⟩))
    (fun os started H enc _ => lifted os started H enc)
end Go.Proofs.Ytpdnkbhgobdniaa.judgeOwes
namespace Go.Proofs.Ytpdnkbhgobdniaa
theorem JudgeOwes_holds : Rows.JudgeOwesSaid := judgeOwes.over
#print axioms JudgeOwes_holds
end Go.Proofs.Ytpdnkbhgobdniaa
