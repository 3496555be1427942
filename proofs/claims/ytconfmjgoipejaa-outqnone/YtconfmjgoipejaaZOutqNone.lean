/-
  Whatever the input, trunklinelaw14.OutqNone answers true and leaves what it was handed as it was.
  (The statement is Rows.OutqNoneSaid; no condition of our own.)
-/
import Derived.Test.YtconfmjgoipejaaKH
import Derived.Test.YtconfmjgoipejaaKI
import Derived.Test.YtconfmjgoipejaaRows
import Derived.ProofKit
import Derived.OpenShut
import Derived.ShutString
import Derived.ChangeOld
import Derived.SizedLaws
namespace Go.Proofs.Ytconfmjgoipejaa
open Go.RowKit
set_option linter.unusedVariables false in
set_option maxRecDepth 100000 in
set_option maxHeartbeats 4000000 in
theorem walk_OutqNone (m : MgD) (x : ChD) (n : Int) (w : World) (hm : m.Wf w) (hx : x.Wf w) (hn : (Lit.int .i64 n).wf = true) :
    Calls Try.prog 7 #[.agg m.vals.toArray, .agg x.vals.toArray, .int .i64 n] w fun e w' => e = .returned (.bool true) ∧ Below w.heap.size w w' := by
  obtain ⟨mst, mss, mpp, mfr, mA, mN, mC, mZ⟩ := m
  obtain ⟨k, f, t, st, ss, pp, tg, rm, os, is, bA, bN, bC, dA, dN, dC, pA, pN, pC, pD, xA, xN, xC, xZ⟩ := x
  unfold ChD.vals MgD.vals
  dsimp only
  clear hx hn hm
  have HS := (show Hid _ from fun W => qsack_nil (.int .u8 (k : Nat)) (.int .u8 (f : Nat)) (.int .u32 (t : Nat)) (.int .u16 (st : Nat)) (.int .u16 (ss : Nat)) (.int .u32 (pp : Nat)) (.int .u32 (tg : Nat)) (.int .u32 (rm : Nat)) (.int .u16 (os : Nat)) (.int .u16 (is : Nat)) (.slice bA bN bC) (.slice dA dN dC) (.slice pA pN pC) (.slice xA xN xC) W)
  have HP := (show Hid _ from fun W => qpush_nil (.int .u16 (mst : Nat)) (.int .u16 (mss : Nat)) (.int .u32 (mpp : Nat)) (.bool mfr) (.slice mA mN mC) W)
  obtain ⟨V1, hV1⟩ : ∃ V, V = w.alloc (.cells #[.int .u16 (mst : Nat), .int .u16 (mss : Nat), .int .u32 (mpp : Nat), .bool mfr, .slice mA mN mC] 38) := ⟨_, rfl⟩
  obtain ⟨V, hV⟩ : ∃ V, V = V1.alloc (.cells #[.int .u8 (k : Nat), .int .u8 (f : Nat), .int .u32 (t : Nat), .int .u16 (st : Nat), .int .u16 (ss : Nat), .int .u32 (pp : Nat), .int .u32 (tg : Nat), .int .u32 (rm : Nat), .int .u16 (os : Nat), .int .u16 (is : Nat), .slice bA bN bC, .slice dA dN dC, .slice pA pN pC, .slice xA xN xC] 47) := ⟨_, rfl⟩
  have z1 : V1.heap.size = w.heap.size + 1 := by rw [hV1]; simp
  have zV : V.heap.size = w.heap.size + 1 + 1 := by rw [hV]; simp [z1]
  have bV1 : Below w.heap.size w V1 := by rw [hV1]; exact (Below.refl _ _).alloc (Nat.le_refl _) _
  have bV2 : Below V1.heap.size V1 V := by rw [hV]; exact (Below.refl _ _).alloc (Nat.le_refl _) _
  have sm := (Stc.new w [.int .u16 (mst : Nat), .int .u16 (mss : Nat), .int .u32 (mpp : Nat), .bool mfr, .slice mA mN mC] 38 V1 hV1).below bV2
  have sc := Stc.new V1 [.int .u8 (k : Nat), .int .u8 (f : Nat), .int .u32 (t : Nat), .int .u16 (st : Nat), .int .u16 (ss : Nat), .int .u32 (pp : Nat), .int .u32 (tg : Nat), .int .u32 (rm : Nat), .int .u16 (os : Nat), .int .u16 (is : Nat), .slice bA bN bC, .slice dA dN dC, .slice pA pN pC, .slice xA xN xC] 47 V hV
  rw [z1] at sc
  have HV := (show Hid _ from And.intro hV1 hV)
  have HB0 : Hid (Below w.heap.size w V) := bV1.trans (bV2.mono (by omega))
  have HSM := (show Hid _ from And.intro sm sc)
  clear hV1 hV z1 zV bV1 bV2 sm sc
  go_enter Try.func7, Try.ntmps7
  go_wp2_with fail
  rw [← HV.out.1, ← HV.out.2]
  refine Calls.mono (qsend_nil n n n V) ?_
  rintro e w1 ⟨rfl, b1⟩
  have sc := HSM.out.2.below b1
  have c0 := sc.cell 0 _ rfl
  have c1 := sc.cell 1 _ rfl
  have c2 := sc.cell 2 _ rfl
  have c3 := sc.cell 3 _ rfl
  have c4 := sc.cell 4 _ rfl
  have c5 := sc.cell 5 _ rfl
  have c6 := sc.cell 6 _ rfl
  have c7 := sc.cell 7 _ rfl
  have c8 := sc.cell 8 _ rfl
  have c9 := sc.cell 9 _ rfl
  have c10 := sc.cell 10 _ rfl
  have c11 := sc.cell 11 _ rfl
  have c12 := sc.cell 12 _ rfl
  have c13 := sc.cell 13 _ rfl
  have HB1 := (show Hid _ from b1)
  clear sc b1
  go_wp2_with fail
  refine Calls.mono (HS.out w1) ?_
  rintro e w2 ⟨rfl, b2⟩
  clear c0 c1 c2 c3 c4 c5 c6 c7 c8 c9 c10 c11 c12 c13
  obtain ⟨w3, hw3⟩ : ∃ w3, w3 = w2.alloc (.cells #[.int .i64 0, .int .i64 0, .bool false, .bool false] 58) := ⟨_, rfl⟩
  have b3 : Below w2.heap.size w2 w3 := by rw [hw3]; exact (Below.refl _ _).alloc (Nat.le_refl _) _
  have s3 := Stc.new w2 [.int .i64 0, .int .i64 0, .bool false, .bool false] 58 w3 hw3
  have HW3 := (show Hid _ from hw3)
  have HB3 : Hid (Below V.heap.size V w3) := HB1.out.trans ((b2.trans (b3.mono b2.size)).mono HB1.out.size)
  have HS3 := (show Hid _ from s3)
  clear b2 b3 s3 hw3
  go_wp2_with fail
  rw [← HW3.out]
  refine Calls.mono (qexpire_nil n w3) ?_
  rintro e w4 ⟨rfl, b4⟩
  go_wp2_with fail
  refine Calls.mono (qleft_nil w4) ?_
  rintro e w5 ⟨rfl, b5⟩
  go_wp2_with fail
  refine Calls.mono (live14_any w5) ?_
  rintro e w6 ⟨rfl, b6⟩
  have b36 : Below w3.heap.size w3 w6 := b4.trans ((b5.trans (b6.mono b5.size)).mono b4.size)
  have sm := HSM.out.1.below (HB3.out.trans (b36.mono HB3.out.size))
  have m0 := sm.cell 0 _ rfl
  have m1 := sm.cell 1 _ rfl
  have m2 := sm.cell 2 _ rfl
  have m3 := sm.cell 3 _ rfl
  have m4 := sm.cell 4 _ rfl
  have HB6 := (show Hid _ from b36)
  clear b4 b5 b6 b36 sm
  go_wp2_with fail
  refine Calls.mono (HP.out w6) ?_
  rintro e w7 ⟨rfl, b7⟩
  have s7 := HS3.out.below (HB6.out.trans (b7.mono HB6.out.size))
  have a0 := s7.cell 0 _ rfl
  have a1 := s7.cell 1 _ rfl
  have a2 := s7.cell 2 _ rfl
  have a3 := s7.cell 3 _ rfl
  have HB7 : Hid (Below w.heap.size w w7) := HB0.out.trans ((HB3.out.trans ((HB6.out.trans (b7.mono HB6.out.size)).mono HB3.out.size)).mono HB0.out.size)
  have hza := zeroAck
  have heq : ∀ w, (Op.equalIn 9999 56 (.agg #[.int .i64 0, .int .i64 0]) (.agg #[.int .i64 0, .int .i64 0])).run Try.prog w = .ok true w := fun w => by kernel_rfl
  clear m0 m1 m2 m3 m4 s7 b7 HS HP
  go_wp2_with fail
  refine Calls.mono (qflight_nil n w7) ?_
  rintro e w8 ⟨rfl, b8⟩
  clear a0 a1 a2 a3 hza heq
  go_wp2_with fail
  refine Calls.mono (qcum_nil w8) ?_
  rintro e w9 ⟨rfl, b9⟩
  go_wp2_with fail
  refine Calls.mono (qfork_nil w9) ?_
  rintro e w10 ⟨rfl, b10⟩
  have HF : Hid (Below w.heap.size w w10) := HB7.out.trans ((b8.trans ((b9.trans (b10.mono b9.size)).mono b8.size)).mono HB7.out.size)
  clear b8 b9 b10
  go_wp2
  go_ret
  exact ⟨rfl, HF.out⟩
end Go.Proofs.Ytconfmjgoipejaa
namespace Go.Proofs.Ytconfmjgoipejaa.outqNone
open Go.ChangeShapes Go.WideShapes Go.ChangeAt Go.RowKit
open Go.ChangeMaps (open_string shut_string)
set_option linter.unusedVariables false
theorem own : ownKnob Try.prog.godebug = none := by kernel_rfl
theorem laidOut : laidOutB Try.prog = true := by kernel_rfl


set_option maxRecDepth 100000 in
theorem lifted (os : Os) (started : os.Started) (H : Type) (enc : TypeId × Value → H) :
    ReturnsInHanded {} Try.checked os 7 .any (Rows.outqNoneSpec.pre6 enc Try.prog Try.f7 Rows.outqNoneRow.domain false) (Rows.outqNoneSpec.post enc Try.prog Try.f7 false true false false) := by
  refine returnsInHanded_of_change_sized (C := Try.checked) own started (by kernel_rfl) Try.func7
    (ChangeSpec.witness6 (enc := enc) (C := Try.checked) false ⟨#[], #[.agg #[.int .u16 0, .int .u16 0, .int .u32 0, .bool false, .slice none 0 0], .agg #[.int .u8 0, .int .u8 0, .int .u32 0, .int .u16 0, .int .u16 0, .int .u32 0, .int .u32 0, .int .u32 0, .int .u16 0, .int .u16 0, .slice none 0 0, .slice none 0 0, .slice none 0 0, .slice none 0 0], .int .i64 0], []⟩ 8 (by kernel_rfl) (by kernel_rfl) (by kernel_rfl) (by kernel_rfl)) ?_
  intro W base args ds gs before hval0 hW hcnd hsz0 _
  have hval : ∀ (j : Nat) t v, Try.f7.params[j]? = some t → args[j]? = some v → Value.okWide Try.prog W .any base t v := hval0
  have hsz : (DataW.weightsEach Try.prog (Try.f7.params.toList ++ Rows.outqNoneSpec.plain.varTypes Try.prog) (ds ++ gs)).all (· ≤ reachBytes) = true := hsz0
  clear hsz0
  have hW' := hW
  obtain ⟨p, q, hA0, hV, rfl, hfz, hnd⟩ := hW
  have hA : DataW.TrodAll enc Try.prog W 0 (fun _ => true) true Try.f7.params.toList args.toList ds p := hA0
  rw [Try.params7] at hA hval hsz
  obtain ⟨v0, vs0, d0, ds0, p0, q0, hargs, rfl, rfl, h0, r0⟩ := trodAll_cons hA
  obtain ⟨v1, vs1, d1, ds1, p1, q1, rfl, rfl, rfl, h1, r1⟩ := trodAll_cons r0
  obtain ⟨v2, vs2, d2, ds2, p2, q2, rfl, rfl, rfl, h2, r2⟩ := trodAll_cons r1
  obtain ⟨rfl, rfl, rfl⟩ := trodAll_nil r2
  obtain rfl : args = #[v0, v1, v2] := by cases args; simp_all
  obtain ⟨rfl, rfl⟩ := trodVars_none hV
  have k0 := h0
  have lt0 : ∀ x ∈ p0, x.block < W.heap.size := by obtain ⟨m, hm⟩ := k0; exact DataW.trod_lt m _ _ _ hm
  obtain ⟨z0, rfl, w0⟩ := SlMg.openV (hval 0 38 v0 rfl rfl) h0 (fun q hq => by
    have := List.all_eq_true.1 hsz q (DataW.weights_mem_each (j := 0) (t := 38) (d := d0) rfl rfl q hq)
    simpa using this)
  have k1 := h1
  have lt1 : ∀ x ∈ p1, x.block < W.heap.size := by obtain ⟨m, hm⟩ := k1; exact DataW.trod_lt m _ _ _ hm
  obtain ⟨z1, rfl, w1⟩ := SlCh.openV (hval 1 47 v1 rfl rfl) h1 (fun q hq => by
    have := List.all_eq_true.1 hsz q (DataW.weights_mem_each (j := 1) (t := 47) (d := d1) rfl rfl q hq)
    simpa using this)
  obtain ⟨x2, rfl, rfl, rfl, w2⟩ := open_int Try.underlying3 (hval 2 3 v2 rfl rfl) h2
  clear hA0 hval0 hsz
  refine (walk_OutqNone z0 z1 x2 W w0 w1 w2).mono fun e W' ⟨he, bel⟩ => ?_
  subst he
  exact ⟨_, rfl, _, _, _, [], _, [], hW', trodAll_mk1 (shut_bool Try.underlying4 _), (trodAll_cons_mk (Below.trod laidOut (by kernel_rfl) (of_decide_eq_true (by kernel_rfl)) k0 bel lt0) (trodAll_cons_mk (Below.trod laidOut (by kernel_rfl) (of_decide_eq_true (by kernel_rfl)) k1 bel lt1) (trodAll_cons_mk (shut_int Try.underlying3 w2) trodAll_mk0))), rfl, bel.frame _, fun h => by cases h⟩
theorem over : Rows.outqNoneRow.holds Try.pinned (OpenSpec.ofChange Rows.outqNoneSpec) :=
  OpenClaim.holds_of_wide 7 Try.f7 rfl rfl rfl rfl rfl rfl rfl ⟨rfl, rfl, rfl, rfl, rfl⟩ rfl rfl rfl rfl rfl (by kernel_rfl) Try.func7 (by kernel_rfl)
    (of_decide_eq_true (by kernel_rfl)) (by unfold Func.isWrapper; first | (rw [if_pos (by decide +kernel)]; kernel_rfl) | (rw [if_neg (by decide +kernel)]; exact ⟨rfl, rfl⟩))
    (fun os started H enc _ => lifted os started H enc)
end Go.Proofs.Ytconfmjgoipejaa.outqNone
namespace Go.Proofs.Ytconfmjgoipejaa
theorem OutqNone_holds : Rows.OutqNoneSaid := outqNone.over
#print axioms OutqNone_holds
end Go.Proofs.Ytconfmjgoipejaa
