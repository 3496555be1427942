/-
  Whatever the input, trunklinelaw03.SerialSteps answers true and leaves what it was handed as it was.
  (The statement is Rows.SerialStepsSaid; no condition of our own.)
-/
import Derived.Test.YtpnfghchllipnaaRows
import Derived.Test.YtpnfghchllipnaaLSerialSteps
import Derived.ProofKit
import Derived.OpenShut
import Derived.ShutString
import Derived.ChangeOld
import Derived.SizedLaws
import Derived.Lib.SmallJoins
namespace Go.Proofs.Ytpnfghchllipnaa.serialSteps
open Go.ChangeShapes Go.WideShapes Go.ChangeAt Go.RowKit
open Go.ChangeMaps (open_string shut_string)
set_option linter.unusedVariables false
theorem own : ownKnob Try.prog.godebug = none := by kernel_rfl
theorem laidOut : laidOutB Try.prog = true := by kernel_rfl

theorem cells_arr : Try.prog.cellsOf 33 = 2 := by kernel_rfl
theorem cells_el : Try.prog.cellsOf 21 = 1 := by kernel_rfl
set_option maxRecDepth 100000 in
theorem lifted (os : Os) (started : os.Started) (H : Type) (enc : TypeId × Value → H) :
    ReturnsInHanded {} Try.checked os 5 .any (Rows.serialStepsSpec.pre6 enc Try.prog Try.f5 Rows.serialStepsRow.domain false) (Rows.serialStepsSpec.post enc Try.prog Try.f5 false true false false) := by
  refine returnsInHanded_of_change_sized (C := Try.checked) own started (by kernel_rfl) Try.func5
    (ChangeSpec.witness6 (enc := enc) (C := Try.checked) false ⟨#[], #[.int .u32 0, .agg #[.int .i32 0, .int .i32 0], .bool false], []⟩ 8 (by kernel_rfl) (by kernel_rfl) (by kernel_rfl) (by kernel_rfl)) ?_
  intro W base args ds gs before hval0 hW hcnd hsz0 _
  have hval : ∀ (j : Nat) t v, Try.f5.params[j]? = some t → args[j]? = some v → Value.okWide Try.prog W .any base t v := hval0
  have hsz : (DataW.weightsEach Try.prog (Try.f5.params.toList ++ Rows.serialStepsSpec.plain.varTypes Try.prog) (ds ++ gs)).all (· ≤ reachBytes) = true := hsz0
  clear hsz0
  have hW' := hW
  obtain ⟨p, q, hA0, hV, rfl, hfz, hnd⟩ := hW
  have hA : DataW.TrodAll enc Try.prog W 0 (fun _ => true) true Try.f5.params.toList args.toList ds p := hA0
  rw [Try.params5] at hA hval hsz
  obtain ⟨v0, vs0, d0, ds0, p0, q0, hargs, rfl, rfl, h0, r0⟩ := trodAll_cons hA
  obtain ⟨v1, vs1, d1, ds1, p1, q1, rfl, rfl, rfl, h1, r1⟩ := trodAll_cons r0
  obtain ⟨v2, vs2, d2, ds2, p2, q2, rfl, rfl, rfl, h2, r2⟩ := trodAll_cons r1
  obtain ⟨rfl, rfl, rfl⟩ := trodAll_nil r2
  obtain rfl : args = #[v0, v1, v2] := by cases args; simp_all
  obtain ⟨rfl, rfl⟩ := trodVars_none hV
  obtain ⟨x0, rfl, rfl, rfl, w0⟩ := open_int Try.underlying22 (hval 0 22 v0 rfl rfl) h0
  obtain ⟨m0, rfl⟩ : ∃ m : Nat, x0 = (m : Int) := ⟨x0.toNat, by have := bounds_u32 w0; omega⟩
  have b0 : m0 < 4294967296 := by have := bounds_u32 w0; omega
  have k1 := h1
  have lt1 : ∀ x ∈ p1, x.block < W.heap.size := by obtain ⟨m, hm⟩ := k1; exact DataW.trod_lt m _ _ _ hm
  obtain ⟨x1_0, x1_1, rfl, w1_0, w1_1⟩ : ∃ x1_0 x1_1 : Int, v1 = .agg #[.int .i32 x1_0, .int .i32 x1_1] ∧ (Lit.int .i32 x1_0).wf = true ∧ (Lit.int .i32 x1_1).wf = true := by
    clear k1 lt1
    obtain ⟨cs, rfl, hcs, _⟩ : ∃ cs, v1 = .agg cs ∧ cs.size = Try.prog.cellsOf 33 ∧ Row.okWide Try.prog W .any base 33 cs := by
      have := hval 1 33 v1 rfl rfl
      simpa [Value.okWide, Try.underlying33] using this
    rw [cells_arr] at hcs
    obtain ⟨e0, e1, rfl⟩ := Joins.array2 hcs
    obtain ⟨fuel, hf⟩ := h1
    obtain ⟨xs, m, _, _, _, hxl, hel⟩ := DataW.trod_array Try.underlying33 hf
    have g0 := hel 0 (by omega)
    rw [cells_el, List.getElem?_eq_getElem (show 0 < xs.length by omega)] at g0
    obtain ⟨i0, q0, _, wi0⟩ := DataW.trod_int Try.underlying21 g0
    simp [Value.cells] at q0
    subst q0
    have g1 := hel 1 (by omega)
    rw [cells_el, List.getElem?_eq_getElem (show 1 < xs.length by omega)] at g1
    obtain ⟨i1, q1, _, wi1⟩ := DataW.trod_int Try.underlying21 g1
    simp [Value.cells] at q1
    subst q1
    exact ⟨i0, i1, rfl, wi0, wi1⟩
  obtain ⟨x2, rfl, rfl, rfl⟩ := open_bool Try.underlying4 (hval 2 4 v2 rfl rfl) h2
  clear hA0 hval0 hsz
  refine (walk_SerialSteps m0 x1_0 x1_1 x2 W b0 w1_0 w1_1 ).mono fun e W' ⟨he, bel⟩ => ?_
  subst he
  exact ⟨_, rfl, _, _, _, [], _, [], hW', trodAll_mk1 (shut_bool Try.underlying4 _), (trodAll_cons_mk (shut_int Try.underlying22 w0) (trodAll_cons_mk (Below.trod laidOut (by kernel_rfl) (of_decide_eq_true (by kernel_rfl)) k1 bel lt1) (trodAll_cons_mk (shut_bool Try.underlying4 _) trodAll_mk0))), rfl, bel.frame _, fun h => by cases h⟩
theorem over : Rows.serialStepsRow.holds Try.pinned (OpenSpec.ofChange Rows.serialStepsSpec) :=
  OpenClaim.holds_of_wide 5 Try.f5 rfl rfl rfl rfl rfl rfl rfl ⟨rfl, rfl, rfl, rfl, rfl⟩ rfl rfl rfl rfl rfl (by kernel_rfl) Try.func5 (by kernel_rfl)
    (of_decide_eq_true (by kernel_rfl)) (by unfold Func.isWrapper; first | (rw [if_pos (by decide +kernel)]; kernel_rfl) | (rw [if_neg (by decide +kernel)]; exact ⟨rfl, rfl⟩))
    (fun os started H enc _ => lifted os started H enc)
end Go.Proofs.Ytpnfghchllipnaa.serialSteps
namespace Go.Proofs.Ytpnfghchllipnaa
theorem SerialSteps_holds : Rows.SerialStepsSaid := serialSteps.over
#print axioms SerialSteps_holds
end Go.Proofs.Ytpnfghchllipnaa
