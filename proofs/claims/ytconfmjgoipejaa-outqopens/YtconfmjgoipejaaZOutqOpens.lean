/-
  Whatever the input, trunklinelaw14.OutqOpens answers true and leaves what it was handed as it was.
  (The statement is Rows.OutqOpensSaid; no condition of our own.)
-/
import Derived.Test.YtconfmjgoipejaaKH
import Derived.Test.YtconfmjgoipejaaKI
import Derived.Test.YtconfmjgoipejaaRows
import Derived.ProofKit
import Derived.OpenShut
import Derived.ShutString
import Derived.ChangeOld
import Derived.SizedLaws
namespace Go.Proofs.Ytconfmjgoipejaa
open Go.RowKit
set_option maxRecDepth 100000 in
set_option maxHeartbeats 4000000 in
theorem walk_OutqOpens (first : Nat) (outs size : Int) (w : World) (hf : first < 4294967296) (_h1 : (Lit.int .i64 outs).wf = true) (_h2 : (Lit.int .i64 size).wf = true) :
    Calls Try.prog 3 #[.int .u32 (first : Nat), .int .i64 outs, .int .i64 size] w fun e w' => e = .returned (.bool true) ∧ Below w.heap.size w w' := by
  by_cases hbad : outs < 1 ∨ 8 < outs ∨ size < 1 ∨ 1452 < size
  · have HN := (show Hid _ from onew_bad first outs size w hbad)
    have HR := (show Hid _ from fun W => r14new_bad first outs size W hbad)
    clear hbad
    go_enter Try.func3, Try.ntmps3
    go_wp2_with fail
    refine Calls.mono HN.out ?_
    rintro e w1 ⟨rfl, hb1⟩
    go_wp2_with fail
    refine Calls.mono (HR.out _) ?_
    rintro e w2 ⟨rfl, hb2⟩
    go_wp2_with fail
    refine Calls.mono (live14_any w2) ?_
    rintro e w3 ⟨rfl, hb3⟩
    have HB : Hid (Below w.heap.size w w3) := (hb1.trans (hb2.mono hb1.size)).trans (hb3.mono (Nat.le_trans hb1.size hb2.size))
    clear hb1 hb2 hb3 HN HR
    go_wp2
    go_ret
    exact ⟨rfl, HB.out⟩
  · obtain ⟨o, rfl⟩ : ∃ o : Nat, outs = (o : Nat) := ⟨outs.toNat, by omega⟩
    obtain ⟨z, rfl⟩ : ∃ z : Nat, size = (z : Nat) := ⟨size.toNat, by omega⟩
    have HN := (show Hid _ from onew_ok first o z w hf (by omega) (by omega) (by omega) (by omega))
    have HR := (show Hid _ from fun W => r14new_ok first o z W (by omega) (by omega) (by omega) (by omega))
    have hcum : addV 4294967296 first (-1) = (first + 4294967295) % 4294967296 := by unfold addV; omega
    clear hbad
    go_enter Try.func3, Try.ntmps3
    go_wp2_with fail
    refine Calls.mono HN.out ?_
    rintro e w1 ⟨⟨q, nb, rfl, hq, _, _⟩, hb1⟩
    go_wp2_with fail
    refine Calls.mono (HR.out _) ?_
    rintro e w2 ⟨⟨p, rfl⟩, hb2⟩
    go_wp2_with fail
    refine Calls.mono (live14_any w2) ?_
    rintro e w3 ⟨rfl, hb3⟩
    have b13 : Below w1.heap.size w1 w3 := hb2.trans (hb3.mono hb2.size)
    obtain ⟨c, hc⟩ : ∃ c, c = addV 4294967296 first (-1) := ⟨_, rfl⟩
    rw [← hc] at hq hcum
    have HC := (show Hid _ from qcum_any (hq.below b13))
    have HB : Hid (Below w.heap.size w w3) := hb1.trans (b13.mono hb1.size)
    have hwr : IntKind.u32.wrap ((first : Int) - 1) = (c : Int) := by
      rw [hcum, IntKind.wrap_u32]
      omega
    clear hb1 hb2 hb3 HN HR hq b13 hcum hc
    go_wp2_with fail
    refine Calls.mono HC.out ?_
    rintro e w4 ⟨rfl, hb4⟩
    have HB4 : Hid (Below w.heap.size w w4) := HB.out.trans (hb4.mono HB.out.size)
    clear hb4 HB HC
    go_wp2
    go_ret
    exact ⟨rfl, HB4.out⟩
end Go.Proofs.Ytconfmjgoipejaa
namespace Go.Proofs.Ytconfmjgoipejaa.outqOpens
open Go.ChangeShapes Go.WideShapes Go.ChangeAt Go.RowKit
open Go.ChangeMaps (open_string shut_string)
set_option linter.unusedVariables false
theorem own : ownKnob Try.prog.godebug = none := by kernel_rfl
theorem laidOut : laidOutB Try.prog = true := by kernel_rfl


set_option maxRecDepth 100000 in
theorem lifted (os : Os) (started : os.Started) (H : Type) (enc : TypeId × Value → H) :
    ReturnsInHanded {} Try.checked os 3 .any (Rows.outqOpensSpec.pre6 enc Try.prog Try.f3 Rows.outqOpensRow.domain false) (Rows.outqOpensSpec.post enc Try.prog Try.f3 false true false false) := by
  refine returnsInHanded_of_change_sized (C := Try.checked) own started (by kernel_rfl) Try.func3
    (ChangeSpec.witness6 (enc := enc) (C := Try.checked) false ⟨#[], #[.int .u32 0, .int .i64 0, .int .i64 0], []⟩ 8 (by kernel_rfl) (by kernel_rfl) (by kernel_rfl) (by kernel_rfl)) ?_
  intro W base args ds gs before hval0 hW hcnd hsz0 _
  have hval : ∀ (j : Nat) t v, Try.f3.params[j]? = some t → args[j]? = some v → Value.okWide Try.prog W .any base t v := hval0
  have hsz : (DataW.weightsEach Try.prog (Try.f3.params.toList ++ Rows.outqOpensSpec.plain.varTypes Try.prog) (ds ++ gs)).all (· ≤ reachBytes) = true := hsz0
  clear hsz0
  have hW' := hW
  obtain ⟨p, q, hA0, hV, rfl, hfz, hnd⟩ := hW
  have hA : DataW.TrodAll enc Try.prog W 0 (fun _ => true) true Try.f3.params.toList args.toList ds p := hA0
  rw [Try.params3] at hA hval hsz
  obtain ⟨v0, vs0, d0, ds0, p0, q0, hargs, rfl, rfl, h0, r0⟩ := trodAll_cons hA
  obtain ⟨v1, vs1, d1, ds1, p1, q1, rfl, rfl, rfl, h1, r1⟩ := trodAll_cons r0
  obtain ⟨v2, vs2, d2, ds2, p2, q2, rfl, rfl, rfl, h2, r2⟩ := trodAll_cons r1
  obtain ⟨rfl, rfl, rfl⟩ := trodAll_nil r2
  obtain rfl : args = #[v0, v1, v2] := by cases args; simp_all
  obtain ⟨rfl, rfl⟩ := trodVars_none hV
  obtain ⟨x0, rfl, rfl, rfl, w0⟩ := open_int Try.underlying22 (hval 0 22 v0 rfl rfl) h0
  obtain ⟨m0, rfl⟩ : ∃ m : Nat, x0 = (m : Int) := ⟨x0.toNat, by have := bounds_u32 w0; omega⟩
  have b0 : m0 < 4294967296 := by have := bounds_u32 w0; omega
  obtain ⟨x1, rfl, rfl, rfl, w1⟩ := open_int Try.underlying3 (hval 1 3 v1 rfl rfl) h1
  obtain ⟨x2, rfl, rfl, rfl, w2⟩ := open_int Try.underlying3 (hval 2 3 v2 rfl rfl) h2
  clear hA0 hval0 hsz
  refine (walk_OutqOpens m0 x1 x2 W b0 w1 w2).mono fun e W' ⟨he, bel⟩ => ?_
  subst he
  exact ⟨_, rfl, _, _, _, [], _, [], hW', trodAll_mk1 (shut_bool Try.underlying4 _), (trodAll_cons_mk (shut_int Try.underlying22 w0) (trodAll_cons_mk (shut_int Try.underlying3 w1) (trodAll_cons_mk (shut_int Try.underlying3 w2) trodAll_mk0))), rfl, bel.frame _, fun h => by cases h⟩
theorem over : Rows.outqOpensRow.holds Try.pinned (OpenSpec.ofChange Rows.outqOpensSpec) :=
  OpenClaim.holds_of_wide 3 Try.f3 rfl rfl rfl rfl rfl rfl rfl ⟨rfl, rfl, rfl, rfl, rfl⟩ rfl rfl rfl rfl rfl (by kernel_rfl) Try.func3 (by kernel_rfl)
    (of_decide_eq_true (by kernel_rfl)) (by unfold Func.isWrapper; first | (rw [if_pos (by decide +kernel)]; kernel_rfl) | (rw [if_neg (by decide +kernel)]; exact ⟨rfl, rfl⟩))
    (fun os started H enc _ => lifted os started H enc)
end Go.Proofs.Ytconfmjgoipejaa.outqOpens
namespace Go.Proofs.Ytconfmjgoipejaa
theorem OutqOpens_holds : Rows.OutqOpensSaid := outqOpens.over
#print axioms OutqOpens_holds
end Go.Proofs.Ytconfmjgoipejaa
