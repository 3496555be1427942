/-
  Whatever the input, trunklinelaw06.CookieLays answers true and leaves what it was handed as it was.
  (The statement is Rows.CookieLaysCardSaid; no condition of our own; the listed tables are tied to the program's text.)
-/
import Derived.Test.YtlkclaehamidbaaDoorRows
import Derived.Test.YtlkclaehamidbaaDoorCards
import Derived.Test.YtlkclaehamidbaaDoorTie
import Derived.Test.YtlkclaehamidbaaDoorLCookieLays
import Derived.ProofKit
import Derived.LaidMore
import Derived.Lay
import Derived.OpenShut
import Derived.ShutString
import Derived.ChangeOld
import Derived.SizedLaws
import Derived.Stop.Joined
import Derived.SevenTiedAt
import Derived.Test.YtlkclaehamidbaaDoorProg
import Derived.Test.YtlkclaehamidbaaDoorBase
import Derived.RowKit
import Derived.ChangeSlices
import Derived.ChangeArms
import Derived.WideShapes
import Derived.Test.YtlkclaehamidbaaDoorHLaid
import Derived.MakeChecks
namespace Go.Proofs.YtlkclaehamidbaaDoor.StCookie
open Go.RowKit Go.ChangeShapes Go.WideShapes Go.ChangeAt
theorem fields : ∃ f0 f1 f2 f3 f4 f5 f6 f7 f8 f9 f10 f11 f12 : Field, Tryd.prog.underlying 33 = some (.struct #[f0, f1, f2, f3, f4, f5, f6, f7, f8, f9, f10, f11, f12]) ∧ f0.offset = 0 ∧ f1.offset = 1 ∧ f2.offset = 2 ∧ f3.offset = 3 ∧ f4.offset = 4 ∧ f5.offset = 5 ∧ f6.offset = 6 ∧ f7.offset = 7 ∧ f8.offset = 8 ∧ f9.offset = 9 ∧ f10.offset = 10 ∧ f11.offset = 11 ∧ f12.offset = 12 ∧ f0.type = 3 ∧ f1.type = 3 ∧ f2.type = 30 ∧ f3.type = 30 ∧ f4.type = 31 ∧ f5.type = 31 ∧ f6.type = 31 ∧ f7.type = 31 ∧ f8.type = 31 ∧ f9.type = 30 ∧ f10.type = 30 ∧ f11.type = 31 ∧ f12.type = 31 := ⟨_, _, _, _, _, _, _, _, _, _, _, _, _, Tryd.underlying33, rfl, rfl, rfl, rfl, rfl, rfl, rfl, rfl, rfl, rfl, rfl, rfl, rfl, rfl, rfl, rfl, rfl, rfl, rfl, rfl, rfl, rfl, rfl, rfl, rfl, rfl⟩
theorem cells_all : Tryd.prog.cellsOf 33 = 13 := by kernel_rfl
theorem cells_int : Tryd.prog.cellsOf 3 = 1 := by kernel_rfl
theorem cells_uint16 : Tryd.prog.cellsOf 30 = 1 := by kernel_rfl
theorem cells_uint32 : Tryd.prog.cellsOf 31 = 1 := by kernel_rfl
set_option linter.unusedVariables false in
set_option maxRecDepth 100000 in
theorem open_ {H : Type} {enc : TypeId × Value → H} {w : World} {b0 base : Nat} {held : Bool} {v : Value} {d : DataW H} {p : List MemPlace}
    (hv : Value.okWide Tryd.prog w .any b0 33 v) (h : DataW.Trod enc Tryd.prog w base (fun _ => true) held 33 v d p) (hw : ∀ n ∈ d.weights Tryd.prog 33, n ≤ reachBytes) :
    ∃ (x0 : Int) (x1 : Int) (x2 : Nat) (x3 : Nat) (x4 : Nat) (x5 : Nat) (x6 : Nat) (x7 : Nat) (x8 : Nat) (x9 : Nat) (x10 : Nat) (x11 : Nat) (x12 : Nat), v = .agg #[.int .i64 x0, .int .i64 x1, .int .u16 (x2 : Nat), .int .u16 (x3 : Nat), .int .u32 (x4 : Nat), .int .u32 (x5 : Nat), .int .u32 (x6 : Nat), .int .u32 (x7 : Nat), .int .u32 (x8 : Nat), .int .u16 (x9 : Nat), .int .u16 (x10 : Nat), .int .u32 (x11 : Nat), .int .u32 (x12 : Nat)] ∧ (Lit.int .i64 x0).wf = true ∧ (Lit.int .i64 x1).wf = true ∧ x2 < 65536 ∧ x3 < 65536 ∧ x4 < 4294967296 ∧ x5 < 4294967296 ∧ x6 < 4294967296 ∧ x7 < 4294967296 ∧ x8 < 4294967296 ∧ x9 < 65536 ∧ x10 < 65536 ∧ x11 < 4294967296 ∧ x12 < 4294967296 := by
  obtain ⟨f0, f1, f2, f3, f4, f5, f6, f7, f8, f9, f10, f11, f12, he, o0, o1, o2, o3, o4, o5, o6, o7, o8, o9, o10, o11, o12, t0, t1, t2, t3, t4, t5, t6, t7, t8, t9, t10, t11, t12⟩ := fields
  obtain ⟨cs, rfl, hsz⟩ := okWide_struct he hv
  rw [cells_all] at hsz
  obtain ⟨cl⟩ := cs
  obtain ⟨fuel, hf⟩ := h
  obtain ⟨xs, m, _, hx, _, hlen, hfs⟩ := DataW.trod_struct he hf
  have hsz2 : cl.length = 13 := hsz
  have hlen2 : xs.length = 13 := hlen
  match cl, hsz2, xs, hlen2 with
  | [v0, v1, v2, v3, v4, v5, v6, v7, v8, v9, v10, v11, v12], _, [y0, y1, y2, y3, y4, y5, y6, y7, y8, y9, y10, y11, y12], _ =>
    have hd := (Prod.mk.inj hx).1
    simp only [List.map_cons, List.map_nil] at hd
    have g0 := hfs 0 f0 rfl
    simp [Value.cells, o0, t0, cells_int] at g0
    have g1 := hfs 1 f1 rfl
    simp [Value.cells, o1, t1, cells_int] at g1
    have g2 := hfs 2 f2 rfl
    simp [Value.cells, o2, t2, cells_uint16] at g2
    have g3 := hfs 3 f3 rfl
    simp [Value.cells, o3, t3, cells_uint16] at g3
    have g4 := hfs 4 f4 rfl
    simp [Value.cells, o4, t4, cells_uint32] at g4
    have g5 := hfs 5 f5 rfl
    simp [Value.cells, o5, t5, cells_uint32] at g5
    have g6 := hfs 6 f6 rfl
    simp [Value.cells, o6, t6, cells_uint32] at g6
    have g7 := hfs 7 f7 rfl
    simp [Value.cells, o7, t7, cells_uint32] at g7
    have g8 := hfs 8 f8 rfl
    simp [Value.cells, o8, t8, cells_uint32] at g8
    have g9 := hfs 9 f9 rfl
    simp [Value.cells, o9, t9, cells_uint16] at g9
    have g10 := hfs 10 f10 rfl
    simp [Value.cells, o10, t10, cells_uint16] at g10
    have g11 := hfs 11 f11 rfl
    simp [Value.cells, o11, t11, cells_uint32] at g11
    have g12 := hfs 12 f12 rfl
    simp [Value.cells, o12, t12, cells_uint32] at g12
    obtain ⟨z0, e0, _, w0⟩ := DataW.trod_int Tryd.underlying3 g0
    simp at e0
    subst e0
    obtain ⟨z1, e1, _, w1⟩ := DataW.trod_int Tryd.underlying3 g1
    simp at e1
    subst e1
    obtain ⟨z2, e2, _, w2⟩ := DataW.trod_int Tryd.underlying30 g2
    simp at e2
    subst e2
    obtain ⟨m2, rfl⟩ : ∃ m : Nat, z2 = (m : Int) := ⟨z2.toNat, by have := bounds_u16 w2; omega⟩
    have b2 : m2 < 65536 := by have := bounds_u16 w2; omega
    obtain ⟨z3, e3, _, w3⟩ := DataW.trod_int Tryd.underlying30 g3
    simp at e3
    subst e3
    obtain ⟨m3, rfl⟩ : ∃ m : Nat, z3 = (m : Int) := ⟨z3.toNat, by have := bounds_u16 w3; omega⟩
    have b3 : m3 < 65536 := by have := bounds_u16 w3; omega
    obtain ⟨z4, e4, _, w4⟩ := DataW.trod_int Tryd.underlying31 g4
    simp at e4
    subst e4
    obtain ⟨m4, rfl⟩ : ∃ m : Nat, z4 = (m : Int) := ⟨z4.toNat, by have := bounds_u32 w4; omega⟩
    have b4 : m4 < 4294967296 := by have := bounds_u32 w4; omega
    obtain ⟨z5, e5, _, w5⟩ := DataW.trod_int Tryd.underlying31 g5
    simp at e5
    subst e5
    obtain ⟨m5, rfl⟩ : ∃ m : Nat, z5 = (m : Int) := ⟨z5.toNat, by have := bounds_u32 w5; omega⟩
    have b5 : m5 < 4294967296 := by have := bounds_u32 w5; omega
    obtain ⟨z6, e6, _, w6⟩ := DataW.trod_int Tryd.underlying31 g6
    simp at e6
    subst e6
    obtain ⟨m6, rfl⟩ : ∃ m : Nat, z6 = (m : Int) := ⟨z6.toNat, by have := bounds_u32 w6; omega⟩
    have b6 : m6 < 4294967296 := by have := bounds_u32 w6; omega
    obtain ⟨z7, e7, _, w7⟩ := DataW.trod_int Tryd.underlying31 g7
    simp at e7
    subst e7
    obtain ⟨m7, rfl⟩ : ∃ m : Nat, z7 = (m : Int) := ⟨z7.toNat, by have := bounds_u32 w7; omega⟩
    have b7 : m7 < 4294967296 := by have := bounds_u32 w7; omega
    obtain ⟨z8, e8, _, w8⟩ := DataW.trod_int Tryd.underlying31 g8
    simp at e8
    subst e8
    obtain ⟨m8, rfl⟩ : ∃ m : Nat, z8 = (m : Int) := ⟨z8.toNat, by have := bounds_u32 w8; omega⟩
    have b8 : m8 < 4294967296 := by have := bounds_u32 w8; omega
    obtain ⟨z9, e9, _, w9⟩ := DataW.trod_int Tryd.underlying30 g9
    simp at e9
    subst e9
    obtain ⟨m9, rfl⟩ : ∃ m : Nat, z9 = (m : Int) := ⟨z9.toNat, by have := bounds_u16 w9; omega⟩
    have b9 : m9 < 65536 := by have := bounds_u16 w9; omega
    obtain ⟨z10, e10, _, w10⟩ := DataW.trod_int Tryd.underlying30 g10
    simp at e10
    subst e10
    obtain ⟨m10, rfl⟩ : ∃ m : Nat, z10 = (m : Int) := ⟨z10.toNat, by have := bounds_u16 w10; omega⟩
    have b10 : m10 < 65536 := by have := bounds_u16 w10; omega
    obtain ⟨z11, e11, _, w11⟩ := DataW.trod_int Tryd.underlying31 g11
    simp at e11
    subst e11
    obtain ⟨m11, rfl⟩ : ∃ m : Nat, z11 = (m : Int) := ⟨z11.toNat, by have := bounds_u32 w11; omega⟩
    have b11 : m11 < 4294967296 := by have := bounds_u32 w11; omega
    obtain ⟨z12, e12, _, w12⟩ := DataW.trod_int Tryd.underlying31 g12
    simp at e12
    subst e12
    obtain ⟨m12, rfl⟩ : ∃ m : Nat, z12 = (m : Int) := ⟨z12.toNat, by have := bounds_u32 w12; omega⟩
    have b12 : m12 < 4294967296 := by have := bounds_u32 w12; omega
    exact ⟨z0, z1, m2, m3, m4, m5, m6, m7, m8, m9, m10, m11, m12, rfl, w0, w1, b2, b3, b4, b5, b6, b7, b8, b9, b10, b11, b12⟩
end Go.Proofs.YtlkclaehamidbaaDoor.StCookie
namespace Go.Proofs.YtlkclaehamidbaaDoor.cookieLays
theorem of_laid {W : World} (h : laidMetH Tryd.prog Rows.cookieLaysRow.laid W) : KW W := by
  rw [MakeChecks.laidMetH_plain _ _ _ (by kernel_rfl)] at h
  exact kw_of_laid h
end Go.Proofs.YtlkclaehamidbaaDoor.cookieLays
namespace Go.Proofs.YtlkclaehamidbaaDoor.cookieLays
open Go.ChangeShapes Go.WideShapes Go.ChangeAt Go.RowKit
open Go.ChangeMaps (open_string shut_string)
set_option linter.unusedVariables false
theorem own : ownKnob Tryd.prog.godebug = none := by kernel_rfl
theorem laidOut : laidOutB Tryd.prog = true := by kernel_rfl
theorem bytes_uint8 : Tryd.prog.bytesOf 5 = 1 := by kernel_rfl
set_option maxRecDepth 100000 in
theorem lifted (os : Os) (started : os.Started) (H : Type) (enc : TypeId × Value → H) :
    ReturnsInHanded {} Tryd.checked os 6 .any (fun w args => (Rows.cookieLaysSpec.pre enc Tryd.prog Tryd.f6 [] false w args ∧ laidMetH Tryd.prog Rows.cookieLaysRow.laid w) ∧ sizedMet enc Tryd.prog Tryd.f6 (OpenSpec.ofChange Rows.cookieLaysSpec) false w args)
      (Rows.cookieLaysSpec.post enc Tryd.prog Tryd.f6 false true false false) := by
  refine returnsInHanded_of_change_and (C := Tryd.checked) (X := fun w _ => laidMetH Tryd.prog Rows.cookieLaysRow.laid w) (fun _ _ _ hh h => h.of_heap hh) own started (by kernel_rfl) Tryd.func6
    (ChangeSpec.witness_shaped (enc := enc) (C := Tryd.checked) (os := os) (X := fun w _ => laidMetH Tryd.prog Rows.cookieLaysRow.laid w) false (World.laidAll Tryd.prog os Rows.cookieLaysRow.laid) #[.slice none 0 0, .agg #[.int .i64 0, .int .i64 0, .int .u16 0, .int .u16 0, .int .u32 0, .int .u32 0, .int .u32 0, .int .u32 0, .int .u32 0, .int .u16 0, .int .u16 0, .int .u32 0, .int .u32 0], .agg #[.int .i64 0, .int .i64 0, .int .u16 0, .int .u16 0, .int .u32 0, .int .u32 0, .int .u32 0, .int .u32 0, .int .u32 0, .int .u16 0, .int .u16 0, .int .u32 0, .int .u32 0]] 8 (World.laidAll_os _ _ _)
      (World.shaped_of_ZipB (by kernel_rfl) (by kernel_rfl)) (by kernel_rfl) (by kernel_rfl) (by kernel_rfl)
      (by rw [MakeChecks.laidMetH_plain _ _ _ (by kernel_rfl)]; exact laidMet_laidAll _ (by kernel_rfl) (by kernel_rfl))) ?_
  intro W base args ds gs before hval0 hW _ hsz0 hL _
  have hsz : (DataW.weightsEach Tryd.prog (Tryd.f6.params.toList ++ Rows.cookieLaysSpec.plain.varTypes Tryd.prog) (ds ++ gs)).all (· ≤ reachBytes) = true := hsz0
  clear hsz0
  have hval : ∀ (j : Nat) t v, Tryd.f6.params[j]? = some t → args[j]? = some v → Value.okWide Tryd.prog W .any base t v := hval0
  have hW' := hW
  obtain ⟨p, q, hA0, hV, rfl, hfz, hnd⟩ := hW
  have hA : DataW.TrodAll enc Tryd.prog W 0 (fun _ => true) true Tryd.f6.params.toList args.toList ds p := hA0
  rw [Tryd.params6] at hA hval hsz
  obtain ⟨v0, vs0, d0, ds0, p0, q0, hargs, rfl, rfl, h0, r0⟩ := trodAll_cons hA
  obtain ⟨v1, vs1, d1, ds1, p1, q1, rfl, rfl, rfl, h1, r1⟩ := trodAll_cons r0
  obtain ⟨v2, vs2, d2, ds2, p2, q2, rfl, rfl, rfl, h2, r2⟩ := trodAll_cons r1
  obtain ⟨rfl, rfl, rfl⟩ := trodAll_nil r2
  obtain rfl : args = #[v0, v1, v2] := by cases args; simp_all
  obtain ⟨rfl, rfl⟩ := trodVars_none hV
  obtain ⟨a0, len0, cap0, rfl⟩ := okWide_slice Tryd.underlying22 (hval 0 22 v0 rfl rfl)
  have k0 := h0
  have lt0 : ∀ x ∈ p0, x.block < W.heap.size := by obtain ⟨m, hm⟩ := k0; exact DataW.trod_lt m _ _ _ hm
  obtain ⟨z0, w0⟩ : ∃ zs, SlK .u8 256 W a0 len0 cap0 zs ∧ cap0 * 1 ≤ 140737488351232 := by
    clear k0 lt0
    obtain ⟨fuel, hf⟩ := h0
    rcases open_ints Tryd.underlying22 Tryd.underlying5 (by kernel_rfl) hf with ⟨hcs, _⟩ | ⟨x, l, c, zs, hcs, _, hl, hm, hz, hx, hcell, hwz⟩
    · simp [Value.cells] at hcs
      obtain ⟨rfl, rfl, rfl⟩ := hcs
      exact ⟨[], SlK.nil _ _ _ (by omega), by omega⟩
    · simp [Value.cells] at hcs
      obtain ⟨rfl, rfl, rfl⟩ := hcs
      obtain ⟨rfl, rfl⟩ := Prod.mk.inj hx
      have hw := sized_slice hsz (j := 0) (t := 22) (e := 5) rfl rfl Tryd.underlying22
      have hz' : zs.length = cap0 := by simpa using hz
      rw [bytes_uint8] at hw
      simp only [lits, List.length_map, List.length_take, List.length_drop, reachBytes] at hw
      exact ⟨_, SlK.of_ints (by omega) (fun z hz => by have := bounds_u8 hz; omega) hl hm hz' (by omega) hcell hwz, by omega⟩
  have k1 := h1
  have lt1 : ∀ x ∈ p1, x.block < W.heap.size := by obtain ⟨m, hm⟩ := k1; exact DataW.trod_lt m _ _ _ hm
  obtain ⟨x1_0, x1_1, x1_2, x1_3, x1_4, x1_5, x1_6, x1_7, x1_8, x1_9, x1_10, x1_11, x1_12, rfl, b1_0, b1_1, b1_2, b1_3, b1_4, b1_5, b1_6, b1_7, b1_8, b1_9, b1_10, b1_11, b1_12⟩ := StCookie.open_ (hval 1 33 v1 rfl rfl) h1 (fun q hq => by
    have := List.all_eq_true.1 hsz q (DataW.weights_mem_each (j := 1) (t := 33) (d := d1) rfl rfl q hq)
    simpa using this)
  have k2 := h2
  have lt2 : ∀ x ∈ p2, x.block < W.heap.size := by obtain ⟨m, hm⟩ := k2; exact DataW.trod_lt m _ _ _ hm
  obtain ⟨x2_0, x2_1, x2_2, x2_3, x2_4, x2_5, x2_6, x2_7, x2_8, x2_9, x2_10, x2_11, x2_12, rfl, b2_0, b2_1, b2_2, b2_3, b2_4, b2_5, b2_6, b2_7, b2_8, b2_9, b2_10, b2_11, b2_12⟩ := StCookie.open_ (hval 2 33 v2 rfl rfl) h2 (fun q hq => by
    have := List.all_eq_true.1 hsz q (DataW.weights_mem_each (j := 2) (t := 33) (d := d2) rfl rfl q hq)
    simpa using this)
  clear hA0 hval0 hsz
  refine (walk_CookieLays a0 len0 cap0 z0 x1_0 x1_1 x1_2 x1_3 x1_4 x1_5 x1_6 x1_7 x1_8 x1_9 x1_10 x1_11 x1_12 x2_0 x2_1 x2_2 x2_3 x2_4 x2_5 x2_6 x2_7 x2_8 x2_9 x2_10 x2_11 x2_12 W w0 b1_0 b1_1 b1_2 b1_3 b1_4 b1_5 b1_6 b1_7 b1_8 b1_9 b1_10 b1_11 b1_12 b2_0 b2_1 b2_2 b2_3 b2_4 b2_5 b2_6 b2_7 b2_8 b2_9 b2_10 b2_11 b2_12 (of_laid hL)).mono fun e W' ⟨he, bel⟩ => ?_
  subst he
  exact ⟨_, rfl, _, _, _, [], _, [], hW', trodAll_mk1 (shut_bool Tryd.underlying4 _), (trodAll_cons_mk (Below.trod laidOut (by kernel_rfl) (of_decide_eq_true (by kernel_rfl)) k0 bel lt0) (trodAll_cons_mk (Below.trod laidOut (by kernel_rfl) (of_decide_eq_true (by kernel_rfl)) k1 bel lt1) (trodAll_cons_mk (Below.trod laidOut (by kernel_rfl) (of_decide_eq_true (by kernel_rfl)) k2 bel lt2) trodAll_mk0))), rfl, bel.frame _, fun h => by cases h⟩
theorem over : Rows.cookieLaysRow.holds Tryd.pinned (OpenSpec.ofChange Rows.cookieLaysSpec) :=
  OpenClaim.holds_of_wide 6 Tryd.f6 rfl rfl rfl rfl rfl rfl rfl ⟨rfl, rfl, rfl, rfl, rfl⟩ rfl rfl rfl rfl rfl (by kernel_rfl) Tryd.func6 (by kernel_rfl)
    (of_decide_eq_true (by kernel_rfl)) (by unfold Func.isWrapper; first | (rw [if_pos (by decide +kernel)]; kernel_rfl) | (rw [if_neg (by decide +kernel)]; exact ⟨rfl, rfl⟩))
    (fun os started H enc _ => lifted os started H enc)
end Go.Proofs.YtlkclaehamidbaaDoor.cookieLays
namespace Go.Proofs.YtlkclaehamidbaaDoor
theorem CookieLays_holds : Rows.CookieLaysCardSaid :=
  Claim7.holds_tied_plain_at .later [] [.data] true (true, Rows.cookieLaysCard.stood.harness.2) false
    cookieLays.over (fun _ h => by cases h) (by kernel_rfl) (fun _ h => by cases h) cookieLays_row_tie rfl ⟨rfl, rfl⟩ (by kernel_rfl) rfl
    (fun f fn hf hfn => by
      obtain rfl : f = 6 := Option.some.inj ((show Tryd.prog.funcNamed Rows.cookieLaysRow.func = some 6 by kernel_rfl).symm.trans hf) |>.symm
      obtain rfl : fn = Tryd.f6 := (Option.some.inj (Tryd.func6.symm.trans hfn)).symm
      exact ⟨by kernel_rfl, fun j t ht => by
        rw [Tryd.params6] at ht
        have hm : t ∈ [22, 33] := by simpa using Array.mem_of_getElem? ht
        have hall : ([22, 33].all fun u => !Tryd.prog.wantsStandIn u) = true := by kernel_rfl
        exact (show Tryd.prog.wantsStandIn t = false by simpa using List.all_eq_true.1 hall t hm)⟩)
    (by kernel_rfl)
#print axioms CookieLays_holds
end Go.Proofs.YtlkclaehamidbaaDoor
