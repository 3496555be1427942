/-
  Whatever the input, trunklinelaw03.SerialShifts answers true and leaves what it was handed as it was.
  (The statement is Rows.SerialShiftsSaid; no condition of our own.)
-/
import Derived.Test.YtpnfghchllipnaaRows
import Derived.Test.YtpnfghchllipnaaLSerialShifts
import Derived.ProofKit
import Derived.OpenShut
import Derived.ShutString
import Derived.ChangeOld
import Derived.SizedLaws
import Derived.Lib.SmallJoins
namespace Go.Proofs.Ytpnfghchllipnaa.serialShifts
open Go.ChangeShapes Go.WideShapes Go.ChangeAt Go.RowKit
open Go.ChangeMaps (open_string shut_string)
set_option linter.unusedVariables false
theorem own : ownKnob Try.prog.godebug = none := by kernel_rfl
theorem laidOut : laidOutB Try.prog = true := by kernel_rfl

theorem cells_st2 : Try.prog.cellsOf 40 = 2 := by kernel_rfl
set_option maxRecDepth 100000 in
theorem lifted (os : Os) (started : os.Started) (H : Type) (enc : TypeId × Value → H) :
    ReturnsInHanded {} Try.checked os 7 .any (Rows.serialShiftsSpec.pre6 enc Try.prog Try.f7 Rows.serialShiftsRow.domain false) (Rows.serialShiftsSpec.post enc Try.prog Try.f7 false true false false) := by
  refine returnsInHanded_of_change_sized (C := Try.checked) own started (by kernel_rfl) Try.func7
    (ChangeSpec.witness6 (enc := enc) (C := Try.checked) false ⟨#[], #[.agg #[.int .u32 0, .int .u32 0], .int .i64 0, .bool false], []⟩ 8 (by kernel_rfl) (by kernel_rfl) (by kernel_rfl) (by kernel_rfl)) ?_
  intro W base args ds gs before hval0 hW hcnd hsz0 _
  have hval : ∀ (j : Nat) t v, Try.f7.params[j]? = some t → args[j]? = some v → Value.okWide Try.prog W .any base t v := hval0
  have hsz : (DataW.weightsEach Try.prog (Try.f7.params.toList ++ Rows.serialShiftsSpec.plain.varTypes Try.prog) (ds ++ gs)).all (· ≤ reachBytes) = true := hsz0
  clear hsz0
  have hW' := hW
  obtain ⟨p, q, hA0, hV, rfl, hfz, hnd⟩ := hW
  have hA : DataW.TrodAll enc Try.prog W 0 (fun _ => true) true Try.f7.params.toList args.toList ds p := hA0
  rw [Try.params7] at hA hval hsz
  obtain ⟨v0, vs0, d0, ds0, p0, q0, hargs, rfl, rfl, h0, r0⟩ := trodAll_cons hA
  obtain ⟨v1, vs1, d1, ds1, p1, q1, rfl, rfl, rfl, h1, r1⟩ := trodAll_cons r0
  obtain ⟨v2, vs2, d2, ds2, p2, q2, rfl, rfl, rfl, h2, r2⟩ := trodAll_cons r1
  obtain ⟨rfl, rfl, rfl⟩ := trodAll_nil r2
  obtain rfl : args = #[v0, v1, v2] := by cases args; simp_all
  obtain ⟨rfl, rfl⟩ := trodVars_none hV
  obtain ⟨c0_0, c1_0, y0_0, y1_0, fm0, rfl, rfl, rfl, hy0_0, hy1_0⟩ := Joins.open_agg2 Try.underlying40 (by kernel_rfl) cells_st2 (hval 0 40 v0 rfl rfl) h0
  obtain ⟨u0, e0_0, rfl, wu0⟩ := DataW.trod_int Try.underlying22 hy0_0
  obtain ⟨i0, e1_0, rfl, wi0⟩ := DataW.trod_int Try.underlying22 hy1_0
  simp at e0_0 e1_0
  subst e0_0 e1_0
  obtain ⟨mu0, rfl⟩ : ∃ m : Nat, u0 = (m : Int) := ⟨u0.toNat, by have := bounds_u32 wu0; omega⟩
  have bu0 : mu0 < 4294967296 := by have := bounds_u32 wu0; omega
  obtain ⟨mi0, rfl⟩ : ∃ m : Nat, i0 = (m : Int) := ⟨i0.toNat, by have := bounds_u32 wi0; omega⟩
  have bi0 : mi0 < 4294967296 := by have := bounds_u32 wi0; omega
  have sp0 : ∀ (W2 : World) (sp : Nat → Bool), DataW.Trod enc Try.prog W2 0 sp true 40 (.agg #[.int .u32 (mu0 : Int), .int .u32 (mi0 : Int)]) (.agg [.lit (.int .u32 (mu0 : Int)), .lit (.int .u32 (mi0 : Int))]) [] := fun W2 sp =>
    Joins.shut_agg2 (y0 := (.lit (.int .u32 (mu0 : Int)), [])) (y1 := (.lit (.int .u32 (mi0 : Int)), [])) Try.underlying40 (by kernel_rfl) cells_st2 ⟨1, by simp [DataW.trod, Try.underlying22, wu0]⟩ ⟨1, by simp [DataW.trod, Try.underlying22, wi0]⟩
  obtain ⟨x1, rfl, rfl, rfl, w1⟩ := open_int Try.underlying3 (hval 1 3 v1 rfl rfl) h1
  obtain ⟨x2, rfl, rfl, rfl⟩ := open_bool Try.underlying4 (hval 2 4 v2 rfl rfl) h2
  clear hA0 hval0 hsz
  refine (walk_SerialShifts mu0 mi0 x1 x2 W bu0 bi0 w1 ).mono fun e W' ⟨he, bel⟩ => ?_
  subst he
  exact ⟨_, rfl, _, _, _, [], _, [], hW', trodAll_mk1 (shut_bool Try.underlying4 _), (trodAll_cons_mk (sp0 _ _) (trodAll_cons_mk (shut_int Try.underlying3 w1) (trodAll_cons_mk (shut_bool Try.underlying4 _) trodAll_mk0))), rfl, bel.frame _, fun h => by cases h⟩
theorem over : Rows.serialShiftsRow.holds Try.pinned (OpenSpec.ofChange Rows.serialShiftsSpec) :=
  OpenClaim.holds_of_wide 7 Try.f7 rfl rfl rfl rfl rfl rfl rfl ⟨rfl, rfl, rfl, rfl, rfl⟩ rfl rfl rfl rfl rfl (by kernel_rfl) Try.func7 (by kernel_rfl)
    (of_decide_eq_true (by kernel_rfl)) (by unfold Func.isWrapper; first | (rw [if_pos (by decide +kernel)]; kernel_rfl) | (rw [if_neg (by decide +kernel)]; exact ⟨rfl, rfl⟩))
    (fun os started H enc _ => lifted os started H enc)
end Go.Proofs.Ytpnfghchllipnaa.serialShifts
namespace Go.Proofs.Ytpnfghchllipnaa
theorem SerialShifts_holds : Rows.SerialShiftsSaid := serialShifts.over
#print axioms SerialShifts_holds
end Go.Proofs.Ytpnfghchllipnaa
