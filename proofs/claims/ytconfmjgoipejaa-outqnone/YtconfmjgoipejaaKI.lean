/- A row of api.Msg, as it lies in a world. -/
import Derived.Test.YtconfmjgoipejaaKE
import Derived.Test.YtconfmjgoipejaaKG
import Derived.Test.YtconfmjgoipejaaProg
import Derived.Test.YtconfmjgoipejaaBase
import Derived.Deep.Strs
import Derived.RowKit
import Derived.ChangeSlices
import Derived.SizedLaws
import Derived.ProofKit
import Derived.OpenShut
import Derived.ChangeArms
import Derived.WideShapes
namespace Go.Proofs.Ytconfmjgoipejaa
open Go.RowKit
set_option linter.unusedVariables false in
set_option maxRecDepth 100000 in
set_option maxHeartbeats 1000000 in
theorem qmayPush_nil (m0 m1 m2 m3 m4 : Value) (w : World) :
    Calls Try.prog 21 #[.pointer none, .agg #[m0, m1, m2, m3, m4]] w fun e w' => e = .returned (.int .i64 1) ∧ Below w.heap.size w w' := by
  go_enter Try.func21, Try.ntmps21
  go_wp2
  go_ret
  exact ⟨rfl, by repeat (first | exact Below.refl _ _ | refine Below.alloc ?_ (by first | exact Nat.le_refl _ | (simp; done) | (simp; omega)) _)⟩
set_option linter.unusedVariables false in
set_option maxRecDepth 100000 in
set_option maxHeartbeats 1000000 in
theorem qpush_nil (m0 m1 m2 m3 m4 : Value) (w : World) :
    Calls Try.prog 12 #[.pointer none, .agg #[m0, m1, m2, m3, m4]] w fun e w' => e = .returned (.int .i64 1) ∧ Below w.heap.size w w' := by
  go_enter Try.func12, Try.ntmps12
  go_wp2_with fail
  refine (qmayPush_nil m0 m1 m2 m3 m4 _).mono ?_
  rintro e w1 ⟨rfl, hb⟩
  have HB : Hid (Below w.heap.size w w1) := by
    show Below _ _ _
    first
      | exact hb
      | exact ((Below.refl _ _).alloc (Nat.le_refl _) _).trans (hb.mono (by simp; done))
      | exact (((Below.refl _ _).alloc (Nat.le_refl _) _).alloc (by simp) _).trans (hb.mono (by simp; omega))
  clear hb
  go_wp2
  go_ret
  exact ⟨rfl, by first | exact HB.out | exact HB.out.alloc HB.out.size _⟩
set_option linter.unusedVariables false in
set_option maxRecDepth 100000 in
set_option maxHeartbeats 1000000 in
theorem qsend_nil (x y z : Int) (w : World) :
    Calls Try.prog 13 #[.pointer none, .int .i64 x, .int .i64 y, .int .i64 z] w fun e w' => e = .returned (.tuple #[.slice none 0 0, .int .i64 1]) ∧ Below w.heap.size w w' := by
  go_enter Try.func13, Try.ntmps13
  go_wp2
  go_ret2
  exact ⟨rfl, by repeat (first | exact Below.refl _ _ | refine Below.alloc ?_ (by first | exact Nat.le_refl _ | (simp; done) | (simp; omega)) _)⟩
set_option linter.unusedVariables false in
set_option maxRecDepth 100000 in
set_option maxHeartbeats 1000000 in
theorem qmaySack_nil (c0 c1 c2 c3 c4 c5 c6 c7 c8 c9 c10 c11 c12 c13 : Value) (w : World) :
    Calls Try.prog 32 #[.pointer none, .agg #[c0, c1, c2, c3, c4, c5, c6, c7, c8, c9, c10, c11, c12, c13]] w fun e w' => e = .returned (.int .i64 1) ∧ Below w.heap.size w w' := by
  go_enter Try.func32, Try.ntmps32
  go_wp2
  go_ret
  exact ⟨rfl, by repeat (first | exact Below.refl _ _ | refine Below.alloc ?_ (by first | exact Nat.le_refl _ | (simp; done) | (simp; omega)) _)⟩
set_option linter.unusedVariables false in
set_option maxRecDepth 100000 in
set_option maxHeartbeats 1000000 in
theorem qexpire_nil (x : Int) (w : World) :
    Calls Try.prog 18 #[.pointer none, .int .i64 x] w fun e w' => e = .returned (.tuple #[.int .i64 0, .int .i64 1]) ∧ Below w.heap.size w w' := by
  go_enter Try.func18, Try.ntmps18
  go_wp2
  go_ret2
  exact ⟨rfl, by repeat (first | exact Below.refl _ _ | refine Below.alloc ?_ (by first | exact Nat.le_refl _ | (simp; done) | (simp; omega)) _)⟩
set_option linter.unusedVariables false in
set_option maxRecDepth 100000 in
set_option maxHeartbeats 1000000 in
theorem qflight_nil (x : Int) (w : World) :
    Calls Try.prog 16 #[.pointer none, .int .i64 x] w fun e w' => e = .returned (.int .i64 0) ∧ Below w.heap.size w w' := by
  go_enter Try.func16, Try.ntmps16
  go_wp2
  go_ret
  exact ⟨rfl, by repeat (first | exact Below.refl _ _ | refine Below.alloc ?_ (by first | exact Nat.le_refl _ | (simp; done) | (simp; omega)) _)⟩
set_option linter.unusedVariables false in
set_option maxRecDepth 100000 in
set_option maxHeartbeats 1000000 in
theorem qleft_nil (w : World) :
    Calls Try.prog 15 #[.pointer none] w fun e w' => e = .returned (.tuple #[.int .i64 0, .int .i64 0]) ∧ Below w.heap.size w w' := by
  go_enter Try.func15, Try.ntmps15
  go_wp2
  go_ret2
  exact ⟨rfl, by repeat (first | exact Below.refl _ _ | refine Below.alloc ?_ (by first | exact Nat.le_refl _ | (simp; done) | (simp; omega)) _)⟩
set_option linter.unusedVariables false in
set_option maxRecDepth 100000 in
set_option maxHeartbeats 1000000 in
theorem qcum_nil (w : World) :
    Calls Try.prog 11 #[.pointer none] w fun e w' => e = .returned (.int .u32 0) ∧ Below w.heap.size w w' := by
  go_enter Try.func11, Try.ntmps11
  go_wp2
  go_ret
  exact ⟨rfl, by repeat (first | exact Below.refl _ _ | refine Below.alloc ?_ (by first | exact Nat.le_refl _ | (simp; done) | (simp; omega)) _)⟩
end Go.Proofs.Ytconfmjgoipejaa
namespace Go.Proofs.Ytconfmjgoipejaa
open Go.RowKit
set_option linter.unusedVariables false in
set_option maxRecDepth 100000 in
set_option maxHeartbeats 2000000 in
theorem qsack_nil (c0 c1 c2 c3 c4 c5 c6 c7 c8 c9 c10 c11 c12 c13 : Value) (w : World) :
    Calls Try.prog 17 #[.pointer none, .agg #[c0, c1, c2, c3, c4, c5, c6, c7, c8, c9, c10, c11, c12, c13]] w fun e w' => e = .returned (.tuple #[.agg #[.int .i64 0, .int .i64 0, .bool false, .bool false], .int .i64 1]) ∧ Below w.heap.size w w' := by
  obtain ⟨V, hV⟩ : ∃ V, V = (w.alloc (.cells #[c0, c1, c2, c3, c4, c5, c6, c7, c8, c9, c10, c11, c12, c13] 47)).alloc (.cells #[.int .i64 0, .int .i64 0, .bool false, .bool false] 58) := ⟨_, rfl⟩
  have bV : Below w.heap.size w V := by rw [hV]; exact ((Below.refl _ _).alloc (Nat.le_refl _) _).alloc (by simp) _
  have zV : V.heap.size = w.heap.size + 2 := by rw [hV]; simp
  have sV := Stc.new (w.alloc (.cells #[c0, c1, c2, c3, c4, c5, c6, c7, c8, c9, c10, c11, c12, c13] 47)) [.int .i64 0, .int .i64 0, .bool false, .bool false] 58 V hV
  have z1 : (w.alloc (.cells #[c0, c1, c2, c3, c4, c5, c6, c7, c8, c9, c10, c11, c12, c13] 47)).heap.size = w.heap.size + 1 := by simp
  rw [z1] at sV
  have hms := qmaySack_nil c0 c1 c2 c3 c4 c5 c6 c7 c8 c9 c10 c11 c12 c13 V
  have HV := (show Hid _ from hV)
  have HS := (show Hid _ from And.intro sV (And.intro bV zV))
  clear hV sV bV zV z1
  go_enter Try.func17, Try.ntmps17
  go_wp2_with fail
  rw [← HV.out]
  refine Calls.mono hms ?_
  rintro e w1 ⟨rfl, b1⟩
  obtain ⟨sV, bV, zV⟩ := HS.out
  have s1 := sV.below b1
  have a0 := s1.cell 0 _ rfl
  have a1 := s1.cell 1 _ rfl
  have a2 := s1.cell 2 _ rfl
  have a3 := s1.cell 3 _ rfl
  have f0 := s1.free 0
  have f1 := s1.free 1
  have f2 := s1.free 2
  have f3 := s1.free 3
  have hz := zeroAck
  have HB : Hid (Below w.heap.size w w1) := bV.trans (b1.mono (by omega))
  have HS1 := (show Hid _ from s1)
  clear sV bV zV b1 s1 hms HS HV
  go_wp2
  have sX := (((HS1.out.putQ (j := 0) (by decide) (.int .i64 0)).putQ (j := 1) (by decide) (.int .i64 0)).putQ (j := 2) (by decide) (.bool false)).putQ (j := 3) (by decide) (.bool false)
  refine bodyPost_ret (results_cellE2 rfl _ _ (w.heap.size + 1) 0 [.int .i64 0, .int .i64 0, .bool false, .bool false] _ rfl (fun j v hv => ?_) Try.underlying58 rfl (by kernel_rfl)) rfl ⟨rfl, ?_⟩
  · rw [Nat.zero_add]
    exact sX.cell j v hv
  · exact (((HB.out.setCell (by simp) _).setCell (by simp) _).setCell (by simp) _).setCell (by simp) _
theorem qfork_nil (w : World) :
    Calls Try.prog 19 #[.pointer none] w fun e w' => e = .returned (.pointer none) ∧ Below w.heap.size w w' := by
  go_enter Try.func19, Try.ntmps19
  go_wp2
  go_ret
  exact ⟨rfl, Below.refl _ _⟩
end Go.Proofs.Ytconfmjgoipejaa
namespace Go.Proofs.Ytconfmjgoipejaa
open Go.RowKit Go.ChangeShapes Go.WideShapes Go.ChangeAt
structure Pm where
  kind : Nat
  dataA : Option Addr
  dataN : Nat
  dataC : Nat
  dataZ : List Nat
instance : Inhabited Pm := ⟨⟨0, none, 0, 0, []⟩⟩
def Pm.vals (x : Pm) : List Value := [.int .u16 (x.kind : Nat), .slice x.dataA x.dataN x.dataC]
def Pm.Wf (w : World) (x : Pm) : Prop := x.kind < 65536 ∧ (Sl w x.dataA x.dataN x.dataC x.dataZ ∧ x.dataC ≤ 140737488351232)
structure SlPm (w : World) (a : Option Addr) (n c : Nat) (dd : List Pm) : Prop where
  len : dd.length = n
  cap : n ≤ c
  small : n ≤ 281474976710656
  at_ : n = 0 ∨ ∃ b off, a = some ⟨b, off, none⟩ ∧ b < w.heap.size ∧ ∀ i x, dd[i]? = some x → ∀ j v, x.vals[j]? = some v → w.cell? ⟨b, off + i * 2 + j, none⟩ = some v
  wf : ∀ x ∈ dd, x.Wf w
theorem SlPm.below {w w' : World} {a : Option Addr} {n c : Nat} {dd : List Pm} (h : SlPm w a n c dd) (hb : Below w.heap.size w w') : SlPm w' a n c dd := by
  refine ⟨h.len, h.cap, h.small, ?_, fun x hx => ?_⟩
  · rcases h.at_ with h0 | ⟨b, off, rfl, hlt, hc⟩
    · exact .inl h0
    · exact .inr ⟨b, off, rfl, Nat.lt_of_lt_of_le hlt hb.size, fun i x hx j v hv => (hb.cell (p := ⟨b, off + i * 2 + j, none⟩) hlt).trans (hc i x hx j v hv)⟩
  · have hh := h.wf x hx
    unfold Pm.Wf at hh ⊢
    obtain ⟨h0, h1⟩ := hh
    exact ⟨h0, ⟨h1.1.below hb, h1.2⟩⟩
theorem SlPm.wAll_mem {H : Type} {P : Program} {e : TypeId} : ∀ {ds : List (DataW H)} {d : DataW H}, d ∈ ds → ∀ n ∈ d.weights P e, n ∈ DataW.weightsAll P e ds
  | x :: ds, d, hd, n, hn => by
    unfold DataW.weightsAll
    rcases List.mem_cons.1 hd with rfl | h
    · exact List.mem_append_left _ hn
    · exact List.mem_append_right _ (SlPm.wAll_mem h n hn)
theorem SlPm.cells_uint16 : Try.prog.cellsOf 34 = 1 := by kernel_rfl
theorem SlPm.cells___uint8 : Try.prog.cellsOf 36 = 1 := by kernel_rfl
theorem SlPm.bytes_u8 : Try.prog.bytesOf 5 = 1 := by kernel_rfl
theorem SlPm.open_bytes {H : Type} {enc : TypeId × Value → H} {w : World} {base : Nat} {held : Bool} {fuel : Nat} {v : Value} {y : DataW H × List MemPlace}
    (h : DataW.trod enc Try.prog w base (fun _ => true) held fuel 36 [v] = some y) (hw : ∀ n ∈ y.1.weights Try.prog 36, n ≤ reachBytes) : ∃ a n c zs, v = .slice a n c ∧ Sl w a n c zs ∧ c ≤ 140737488351232 := by
  rcases open_ints Try.underlying36 Try.underlying5 (by kernel_rfl) h with ⟨hcs, _⟩ | ⟨x, l, c, zs, hcs, _, hl, hm, hz, hx, hcell, hwz⟩
  · simp at hcs
    exact ⟨none, 0, 0, [], hcs, SlK.nil _ _ _ (by omega), by omega⟩
  · simp at hcs
    have hz' : zs.length = c := by simpa using hz
    have hb : (lits (H := H) .u8 (zs.take l)).length + (lits (H := H) .u8 (zs.drop l)).length ≤ reachBytes := by
      have := hw (((lits (H := H) .u8 (zs.take l)).length + (lits (H := H) .u8 (zs.drop l)).length) * Try.prog.bytesOf 5) (by
        rw [hx]
        unfold DataW.weights
        rw [Try.underlying36]
        simp)
      rwa [SlPm.bytes_u8, Nat.mul_one] at this
    simp only [lits, List.length_map, List.length_take, List.length_drop, reachBytes] at hb
    exact ⟨_, _, _, _, hcs, SlK.of_ints (by omega) (fun z hz => by simp [Lit.wf, IntKind.min, IntKind.max, IntKind.signed, IntKind.bits] at hz; omega) hl hm hz' (by omega) hcell hwz, by omega⟩
theorem SlPm.open_all_fields : ∃ f0 f1 : Field, Try.prog.underlying 157 = some (.struct #[f0, f1]) ∧ f0.offset = 0 ∧ f1.offset = 1 ∧ f0.type = 34 ∧ f1.type = 36 := ⟨_, _, Try.underlying157, rfl, rfl, rfl, rfl⟩
set_option linter.unusedVariables false in
set_option maxRecDepth 100000 in
theorem SlPm.open_all {H : Type} {enc : TypeId × Value → H} {w : World} {base : Nat} {held : Bool} {fuel : Nat} {cl : List Value} {y : DataW H × List MemPlace} (hl : cl.length = 2)
    (h : DataW.trod enc Try.prog w base (fun _ => true) held fuel 157 cl = some y) (hw : ∀ n ∈ y.1.weights Try.prog 157, n ≤ reachBytes) :
    ∃ (kind : Nat) (dataA : Option Addr) (dataN dataC : Nat) (dataZ : List Nat), cl = [.int .u16 (kind : Nat), .slice dataA dataN dataC] ∧ kind < 65536 ∧ (Sl w dataA dataN dataC dataZ ∧ dataC ≤ 140737488351232) := by
  obtain ⟨f0, f1, he, o0, o1, t0, t1⟩ := SlPm.open_all_fields
  obtain ⟨xs, m, _, hx, _, hlen, hfs⟩ := DataW.trod_struct he h
  have hlen2 : xs.length = 2 := hlen
  match cl, hl, xs, hlen2 with
  | [v0, v1], _, [y0, y1], _ =>
    have hd := congrArg Prod.fst hx
    simp only [List.map_cons, List.map_nil] at hd
    have g0 := hfs 0 f0 rfl
    simp [o0, t0, SlPm.cells_uint16] at g0
    have g1 := hfs 1 f1 rfl
    simp [o1, t1, SlPm.cells___uint8] at g1
    obtain ⟨kindz, e0, _, w0⟩ := DataW.trod_int Try.underlying34 g0
    simp at e0
    subst e0
    obtain ⟨kind, rfl⟩ : ∃ m : Nat, kindz = (m : Int) := ⟨kindz.toNat, by have := bounds_u16 w0; omega⟩
    have b0 : kind < 65536 := by have := bounds_u16 w0; omega
    obtain ⟨dataA, dataN, dataC, dataZ, rfl, s1, b1⟩ := SlPm.open_bytes g1 (fun q hq => hw q (by
      rw [hd]
      unfold DataW.weights
      rw [he]
      exact DataW.weights_mem_each (j := 1) (t := f1.type) (d := y1.1) rfl rfl q (by rw [t1]; exact hq)))
    exact ⟨kind, dataA, dataN, dataC, dataZ, rfl, b0, ⟨s1, b1⟩⟩
theorem SlPm.cellsAll : Try.prog.cellsOf 157 = 2 := by kernel_rfl
theorem SlPm.bytesAll : Try.prog.bytesOf 157 = 32 := by kernel_rfl
theorem SlPm.open {H : Type} {enc : TypeId × Value → H} {w : World} {base : Nat} {held : Bool} {fuel : Nat} {a : Option Addr} {n c : Nat} {y : DataW H × List MemPlace}
    (h : DataW.trod enc Try.prog w base (fun _ => true) held fuel 45 [.slice a n c] = some y) (hw : ∀ n ∈ y.1.weights Try.prog 45, n ≤ reachBytes) : ∃ dd, SlPm w a n c dd := by
  rcases Go.Deep.open_slice Try.underlying45 h with ⟨hcs, _⟩ | ⟨x, l, k, m, fn, D, Pl, hcs, hb, hl, hm, hmm, hx, hc⟩
  · simp at hcs
    obtain ⟨rfl, rfl, rfl⟩ := hcs
    exact ⟨[], rfl, Nat.le_refl _, by omega, .inl rfl, fun x hx => (by cases hx)⟩
  · simp at hcs
    obtain ⟨rfl, rfl, rfl⟩ := hcs
    have hmc : m = c := by simpa using hmm
    subst hmc
    subst hx
    have hsz : m * 32 ≤ reachBytes := by
      have := hw ((((List.range n).map D).length + ((List.range (m - n)).map fun j => D (n + j)).length) * Try.prog.bytesOf 157) (by
        unfold DataW.weights
        rw [Try.underlying45]
        simp)
      rw [SlPm.bytesAll] at this
      simp at this
      omega
    simp only [reachBytes] at hsz
    rw [SlPm.cellsAll] at hc
    have hwi : ∀ i, i < n → ∀ q ∈ (D i).weights Try.prog 157, q ≤ reachBytes := by
      intro i hi q hq
      refine hw q ?_
      unfold DataW.weights
      rw [Try.underlying45]
      simp only [List.mem_cons, List.mem_append]
      exact .inr (.inl (SlPm.wAll_mem (List.mem_map.2 ⟨i, List.mem_range.2 hi, rfl⟩) q hq))
    have each : ∀ i, i < n → ∃ q : Pm, (∀ j v, q.vals[j]? = some v → w.cell? (x.add (i * 2 + j)) = some v) ∧ q.Wf w := by
      intro i hi
      obtain ⟨cs', h1, h2⟩ := hc i (by omega)
      obtain ⟨_, hlen, hcell⟩ := World.cells?_some h1
      obtain ⟨kind, dataA, dataN, dataC, dataZ, rfl, Hkind, Hdata⟩ := SlPm.open_all hlen h2 (hwi i hi)
      refine ⟨⟨kind, dataA, dataN, dataC, dataZ⟩, fun j v hv => ?_, ⟨Hkind, Hdata⟩⟩
      have hj : j < 2 := (List.getElem?_eq_some_iff.1 hv).1
      have e := hcell j hj
      rw [Go.Deep.add_add] at e
      rw [e]
      exact hv
    obtain ⟨q, hq⟩ := Go.Deep.choose_lt each
    have hget : ∀ i z, ((List.range n).map q)[i]? = some z → i < n ∧ z = q i := fun i z hz => by
      have hi := (List.getElem?_eq_some_iff.1 hz).1
      simp at hi
      rw [List.getElem?_map, List.getElem?_range hi] at hz
      simp at hz
      exact ⟨hi, hz.symm⟩
    refine ⟨(List.range n).map q, by simp, hl, by omega, ?_, fun z hz => ?_⟩
    · by_cases h0 : n = 0
      · exact .inl h0
      · obtain ⟨b, off, spot⟩ := x
        have hc0 := (hq 0 (by omega)).1 0 _ rfl
        have hspot : spot = none := by simpa [Addr.add] using World.cell?_spot hc0
        subst hspot
        have hlt : b < w.heap.size := by
          have := hc0
          simp only [Addr.add, World.cell?] at this
          rcases Nat.lt_or_ge b w.heap.size with h9 | h9
          · exact h9
          · simp [h9] at this
        refine .inr ⟨b, off, rfl, hlt, fun i z hz j v hv => ?_⟩
        obtain ⟨hi, rfl⟩ := hget i z hz
        have h1 := (hq i hi).1 j v hv
        have ea : ∀ j, (⟨b, off, none⟩ : Addr).add j = ⟨b, off + j, none⟩ := by
          intro j
          unfold Addr.add
          split
          · subst_vars; rfl
          · rfl
        rw [ea] at h1
        rw [Nat.add_assoc]
        exact h1
    · obtain ⟨i, hi⟩ := List.getElem?_of_mem hz
      obtain ⟨hin, rfl⟩ := hget i z hi
      exact (hq i hin).2
set_option maxRecDepth 100000 in
/-- One, by value, as a parameter. -/
theorem SlPm.openV {H : Type} {enc : TypeId × Value → H} {w : World} {b0 base : Nat} {held : Bool} {v : Value} {d : DataW H} {p : List MemPlace}
    (hv : Value.okWide Try.prog w .any b0 157 v) (h : DataW.Trod enc Try.prog w base (fun _ => true) held 157 v d p) (hw : ∀ n ∈ d.weights Try.prog 157, n ≤ reachBytes) : ∃ x : Pm, v = .agg x.vals.toArray ∧ x.Wf w := by
  obtain ⟨f0, f1, he, _⟩ := SlPm.open_all_fields
  obtain ⟨cs, rfl, hsz⟩ := okWide_struct he hv
  rw [SlPm.cellsAll] at hsz
  obtain ⟨cl⟩ := cs
  obtain ⟨fuel, hf⟩ := h
  have hf2 : DataW.trod enc Try.prog w base (fun _ => true) held fuel 157 cl = some (d, p) := hf
  obtain ⟨kind, dataA, dataN, dataC, dataZ, rfl, Hkind, Hdata⟩ := SlPm.open_all hsz hf2 hw
  exact ⟨⟨kind, dataA, dataN, dataC, dataZ⟩, rfl, ⟨Hkind, Hdata⟩⟩
end Go.Proofs.Ytconfmjgoipejaa
namespace Go.Proofs.Ytconfmjgoipejaa
open Go.RowKit Go.ChangeShapes Go.WideShapes Go.ChangeAt
structure ChD where
  k : Nat
  f : Nat
  t : Nat
  st : Nat
  ss : Nat
  pp : Nat
  tg : Nat
  rm : Nat
  os : Nat
  is : Nat
  bA : Option Addr
  bN : Nat
  bC : Nat
  dA : Option Addr
  dN : Nat
  dC : Nat
  pA : Option Addr
  pN : Nat
  pC : Nat
  pD : List Pm
  xA : Option Addr
  xN : Nat
  xC : Nat
  xZ : List Nat
instance : Inhabited ChD := ⟨⟨0, 0, 0, 0, 0, 0, 0, 0, 0, 0, none, 0, 0, none, 0, 0, none, 0, 0, [], none, 0, 0, []⟩⟩
def ChD.vals (x : ChD) : List Value := [.int .u8 (x.k : Nat), .int .u8 (x.f : Nat), .int .u32 (x.t : Nat), .int .u16 (x.st : Nat), .int .u16 (x.ss : Nat), .int .u32 (x.pp : Nat), .int .u32 (x.tg : Nat), .int .u32 (x.rm : Nat), .int .u16 (x.os : Nat), .int .u16 (x.is : Nat), .slice x.bA x.bN x.bC, .slice x.dA x.dN x.dC, .slice x.pA x.pN x.pC, .slice x.xA x.xN x.xC]
def ChD.Wf (w : World) (x : ChD) : Prop := x.k < 256 ∧ x.f < 256 ∧ x.t < 4294967296 ∧ x.st < 65536 ∧ x.ss < 65536 ∧ x.pp < 4294967296 ∧ x.tg < 4294967296 ∧ x.rm < 4294967296 ∧ x.os < 65536 ∧ x.is < 65536 ∧ x.bN ≤ 281474976710656 ∧ x.dN ≤ 281474976710656 ∧ (SlPm w x.pA x.pN x.pC x.pD) ∧ (Sl w x.xA x.xN x.xC x.xZ ∧ x.xC ≤ 140737488351232)
structure SlCh (w : World) (a : Option Addr) (n c : Nat) (dd : List ChD) : Prop where
  len : dd.length = n
  cap : n ≤ c
  small : n ≤ 281474976710656
  at_ : n = 0 ∨ ∃ b off, a = some ⟨b, off, none⟩ ∧ b < w.heap.size ∧ ∀ i x, dd[i]? = some x → ∀ j v, x.vals[j]? = some v → w.cell? ⟨b, off + i * 14 + j, none⟩ = some v
  wf : ∀ x ∈ dd, x.Wf w
theorem SlCh.below {w w' : World} {a : Option Addr} {n c : Nat} {dd : List ChD} (h : SlCh w a n c dd) (hb : Below w.heap.size w w') : SlCh w' a n c dd := by
  refine ⟨h.len, h.cap, h.small, ?_, fun x hx => ?_⟩
  · rcases h.at_ with h0 | ⟨b, off, rfl, hlt, hc⟩
    · exact .inl h0
    · exact .inr ⟨b, off, rfl, Nat.lt_of_lt_of_le hlt hb.size, fun i x hx j v hv => (hb.cell (p := ⟨b, off + i * 14 + j, none⟩) hlt).trans (hc i x hx j v hv)⟩
  · have hh := h.wf x hx
    unfold ChD.Wf at hh ⊢
    obtain ⟨h0, h1, h2, h3, h4, h5, h6, h7, h8, h9, h10, h11, h12, h13⟩ := hh
    exact ⟨h0, h1, h2, h3, h4, h5, h6, h7, h8, h9, h10, h11, h12.below hb, ⟨h13.1.below hb, h13.2⟩⟩
theorem SlCh.wAll_mem {H : Type} {P : Program} {e : TypeId} : ∀ {ds : List (DataW H)} {d : DataW H}, d ∈ ds → ∀ n ∈ d.weights P e, n ∈ DataW.weightsAll P e ds
  | x :: ds, d, hd, n, hn => by
    unfold DataW.weightsAll
    rcases List.mem_cons.1 hd with rfl | h
    · exact List.mem_append_left _ hn
    · exact List.mem_append_right _ (SlCh.wAll_mem h n hn)
theorem SlCh.cells_uint8 : Try.prog.cellsOf 5 = 1 := by kernel_rfl
theorem SlCh.cells_uint32 : Try.prog.cellsOf 22 = 1 := by kernel_rfl
theorem SlCh.cells_uint16 : Try.prog.cellsOf 34 = 1 := by kernel_rfl
theorem SlCh.cells____2_uint16 : Try.prog.cellsOf 43 = 1 := by kernel_rfl
theorem SlCh.cells___uint32 : Try.prog.cellsOf 44 = 1 := by kernel_rfl
theorem SlCh.cells___api_Param : Try.prog.cellsOf 45 = 1 := by kernel_rfl
theorem SlCh.cells___uint8 : Try.prog.cellsOf 36 = 1 := by kernel_rfl
theorem SlCh.bytes_u8 : Try.prog.bytesOf 5 = 1 := by kernel_rfl
theorem SlCh.open_bytes {H : Type} {enc : TypeId × Value → H} {w : World} {base : Nat} {held : Bool} {fuel : Nat} {v : Value} {y : DataW H × List MemPlace}
    (h : DataW.trod enc Try.prog w base (fun _ => true) held fuel 36 [v] = some y) (hw : ∀ n ∈ y.1.weights Try.prog 36, n ≤ reachBytes) : ∃ a n c zs, v = .slice a n c ∧ Sl w a n c zs ∧ c ≤ 140737488351232 := by
  rcases open_ints Try.underlying36 Try.underlying5 (by kernel_rfl) h with ⟨hcs, _⟩ | ⟨x, l, c, zs, hcs, _, hl, hm, hz, hx, hcell, hwz⟩
  · simp at hcs
    exact ⟨none, 0, 0, [], hcs, SlK.nil _ _ _ (by omega), by omega⟩
  · simp at hcs
    have hz' : zs.length = c := by simpa using hz
    have hb : (lits (H := H) .u8 (zs.take l)).length + (lits (H := H) .u8 (zs.drop l)).length ≤ reachBytes := by
      have := hw (((lits (H := H) .u8 (zs.take l)).length + (lits (H := H) .u8 (zs.drop l)).length) * Try.prog.bytesOf 5) (by
        rw [hx]
        unfold DataW.weights
        rw [Try.underlying36]
        simp)
      rwa [SlCh.bytes_u8, Nat.mul_one] at this
    simp only [lits, List.length_map, List.length_take, List.length_drop, reachBytes] at hb
    exact ⟨_, _, _, _, hcs, SlK.of_ints (by omega) (fun z hz => by simp [Lit.wf, IntKind.min, IntKind.max, IntKind.signed, IntKind.bits] at hz; omega) hl hm hz' (by omega) hcell hwz, by omega⟩
theorem SlCh.any_cells____2_uint16 {H : Type} {enc : TypeId × Value → H} {w : World} {base : Nat} {held : Bool} {fuel : Nat} {v : Value} {y : DataW H × List MemPlace}
    (h : DataW.trod enc Try.prog w base (fun _ => true) held fuel 43 [v] = some y) (hw : ∀ n ∈ y.1.weights Try.prog 43, n ≤ reachBytes) : ∃ a n c, v = .slice a n c ∧ n ≤ 281474976710656 := by
  have hbe : Try.prog.bytesOf 55 = 4 := by kernel_rfl
  rcases Go.Deep.open_slice Try.underlying43 h with ⟨hcs, _⟩ | ⟨x, l, k, m, fn, D, Pl, hcs, hb, hl, hm, hmm, hx, hc⟩
  · simp at hcs
    exact ⟨none, 0, 0, hcs, by omega⟩
  · simp at hcs
    subst hx
    have hmc : m = k := by simpa using hmm
    have hsz : m * 4 ≤ reachBytes := by
      have := hw ((((List.range l).map D).length + ((List.range (m - l)).map fun j => D (l + j)).length) * Try.prog.bytesOf 55) (by
        unfold DataW.weights
        rw [Try.underlying43]
        simp)
      rw [hbe] at this
      simp at this
      omega
    simp only [reachBytes] at hsz
    exact ⟨_, l, k, hcs, by omega⟩
theorem SlCh.any_cells___api_Param {H : Type} {enc : TypeId × Value → H} {w : World} {base : Nat} {held : Bool} {fuel : Nat} {v : Value} {y : DataW H × List MemPlace}
    (h : DataW.trod enc Try.prog w base (fun _ => true) held fuel 45 [v] = some y) (hw : ∀ n ∈ y.1.weights Try.prog 45, n ≤ reachBytes) : ∃ a n c, v = .slice a n c ∧ n ≤ 281474976710656 := by
  have hbe : Try.prog.bytesOf 157 = 32 := by kernel_rfl
  rcases Go.Deep.open_slice Try.underlying45 h with ⟨hcs, _⟩ | ⟨x, l, k, m, fn, D, Pl, hcs, hb, hl, hm, hmm, hx, hc⟩
  · simp at hcs
    exact ⟨none, 0, 0, hcs, by omega⟩
  · simp at hcs
    subst hx
    have hmc : m = k := by simpa using hmm
    have hsz : m * 32 ≤ reachBytes := by
      have := hw ((((List.range l).map D).length + ((List.range (m - l)).map fun j => D (l + j)).length) * Try.prog.bytesOf 157) (by
        unfold DataW.weights
        rw [Try.underlying45]
        simp)
      rw [hbe] at this
      simp at this
      omega
    simp only [reachBytes] at hsz
    exact ⟨_, l, k, hcs, by omega⟩
theorem SlCh.any_cells___uint32 {H : Type} {enc : TypeId × Value → H} {w : World} {base : Nat} {held : Bool} {fuel : Nat} {v : Value} {y : DataW H × List MemPlace}
    (h : DataW.trod enc Try.prog w base (fun _ => true) held fuel 44 [v] = some y) (hw : ∀ n ∈ y.1.weights Try.prog 44, n ≤ reachBytes) : ∃ a n c, v = .slice a n c ∧ n ≤ 281474976710656 := by
  have hbe : Try.prog.bytesOf 22 = 4 := by kernel_rfl
  rcases Go.Deep.open_slice Try.underlying44 h with ⟨hcs, _⟩ | ⟨x, l, k, m, fn, D, Pl, hcs, hb, hl, hm, hmm, hx, hc⟩
  · simp at hcs
    exact ⟨none, 0, 0, hcs, by omega⟩
  · simp at hcs
    subst hx
    have hmc : m = k := by simpa using hmm
    have hsz : m * 4 ≤ reachBytes := by
      have := hw ((((List.range l).map D).length + ((List.range (m - l)).map fun j => D (l + j)).length) * Try.prog.bytesOf 22) (by
        unfold DataW.weights
        rw [Try.underlying44]
        simp)
      rw [hbe] at this
      simp at this
      omega
    simp only [reachBytes] at hsz
    exact ⟨_, l, k, hcs, by omega⟩
theorem SlCh.open_all_fields : ∃ f0 f1 f2 f3 f4 f5 f6 f7 f8 f9 f10 f11 f12 f13 : Field, Try.prog.underlying 47 = some (.struct #[f0, f1, f2, f3, f4, f5, f6, f7, f8, f9, f10, f11, f12, f13]) ∧ f0.offset = 0 ∧ f1.offset = 1 ∧ f2.offset = 2 ∧ f3.offset = 3 ∧ f4.offset = 4 ∧ f5.offset = 5 ∧ f6.offset = 6 ∧ f7.offset = 7 ∧ f8.offset = 8 ∧ f9.offset = 9 ∧ f10.offset = 10 ∧ f11.offset = 11 ∧ f12.offset = 12 ∧ f13.offset = 13 ∧ f0.type = 5 ∧ f1.type = 5 ∧ f2.type = 22 ∧ f3.type = 34 ∧ f4.type = 34 ∧ f5.type = 22 ∧ f6.type = 22 ∧ f7.type = 22 ∧ f8.type = 34 ∧ f9.type = 34 ∧ f10.type = 43 ∧ f11.type = 44 ∧ f12.type = 45 ∧ f13.type = 36 := ⟨_, _, _, _, _, _, _, _, _, _, _, _, _, _, Try.underlying47, rfl, rfl, rfl, rfl, rfl, rfl, rfl, rfl, rfl, rfl, rfl, rfl, rfl, rfl, rfl, rfl, rfl, rfl, rfl, rfl, rfl, rfl, rfl, rfl, rfl, rfl, rfl, rfl⟩
set_option linter.unusedVariables false in
set_option maxRecDepth 100000 in
theorem SlCh.open_all {H : Type} {enc : TypeId × Value → H} {w : World} {base : Nat} {held : Bool} {fuel : Nat} {cl : List Value} {y : DataW H × List MemPlace} (hl : cl.length = 14)
    (h : DataW.trod enc Try.prog w base (fun _ => true) held fuel 47 cl = some y) (hw : ∀ n ∈ y.1.weights Try.prog 47, n ≤ reachBytes) :
    ∃ (k : Nat) (f : Nat) (t : Nat) (st : Nat) (ss : Nat) (pp : Nat) (tg : Nat) (rm : Nat) (os : Nat) (is : Nat) (bA : Option Addr) (bN bC : Nat) (dA : Option Addr) (dN dC : Nat) (pA : Option Addr) (pN pC : Nat) (pD : List Pm) (xA : Option Addr) (xN xC : Nat) (xZ : List Nat), cl = [.int .u8 (k : Nat), .int .u8 (f : Nat), .int .u32 (t : Nat), .int .u16 (st : Nat), .int .u16 (ss : Nat), .int .u32 (pp : Nat), .int .u32 (tg : Nat), .int .u32 (rm : Nat), .int .u16 (os : Nat), .int .u16 (is : Nat), .slice bA bN bC, .slice dA dN dC, .slice pA pN pC, .slice xA xN xC] ∧ k < 256 ∧ f < 256 ∧ t < 4294967296 ∧ st < 65536 ∧ ss < 65536 ∧ pp < 4294967296 ∧ tg < 4294967296 ∧ rm < 4294967296 ∧ os < 65536 ∧ is < 65536 ∧ bN ≤ 281474976710656 ∧ dN ≤ 281474976710656 ∧ (SlPm w pA pN pC pD) ∧ (Sl w xA xN xC xZ ∧ xC ≤ 140737488351232) := by
  obtain ⟨f0, f1, f2, f3, f4, f5, f6, f7, f8, f9, f10, f11, f12, f13, he, o0, o1, o2, o3, o4, o5, o6, o7, o8, o9, o10, o11, o12, o13, t0, t1, t2, t3, t4, t5, t6, t7, t8, t9, t10, t11, t12, t13⟩ := SlCh.open_all_fields
  obtain ⟨xs, m, _, hx, _, hlen, hfs⟩ := DataW.trod_struct he h
  have hlen2 : xs.length = 14 := hlen
  match cl, hl, xs, hlen2 with
  | [v0, v1, v2, v3, v4, v5, v6, v7, v8, v9, v10, v11, v12, v13], _, [y0, y1, y2, y3, y4, y5, y6, y7, y8, y9, y10, y11, y12, y13], _ =>
    have hd := congrArg Prod.fst hx
    simp only [List.map_cons, List.map_nil] at hd
    have g0 := hfs 0 f0 rfl
    simp [o0, t0, SlCh.cells_uint8] at g0
    have g1 := hfs 1 f1 rfl
    simp [o1, t1, SlCh.cells_uint8] at g1
    have g2 := hfs 2 f2 rfl
    simp [o2, t2, SlCh.cells_uint32] at g2
    have g3 := hfs 3 f3 rfl
    simp [o3, t3, SlCh.cells_uint16] at g3
    have g4 := hfs 4 f4 rfl
    simp [o4, t4, SlCh.cells_uint16] at g4
    have g5 := hfs 5 f5 rfl
    simp [o5, t5, SlCh.cells_uint32] at g5
    have g6 := hfs 6 f6 rfl
    simp [o6, t6, SlCh.cells_uint32] at g6
    have g7 := hfs 7 f7 rfl
    simp [o7, t7, SlCh.cells_uint32] at g7
    have g8 := hfs 8 f8 rfl
    simp [o8, t8, SlCh.cells_uint16] at g8
    have g9 := hfs 9 f9 rfl
    simp [o9, t9, SlCh.cells_uint16] at g9
    have g10 := hfs 10 f10 rfl
    simp [o10, t10, SlCh.cells____2_uint16] at g10
    have g11 := hfs 11 f11 rfl
    simp [o11, t11, SlCh.cells___uint32] at g11
    have g12 := hfs 12 f12 rfl
    simp [o12, t12, SlCh.cells___api_Param] at g12
    have g13 := hfs 13 f13 rfl
    simp [o13, t13, SlCh.cells___uint8] at g13
    obtain ⟨kz, e0, _, w0⟩ := DataW.trod_int Try.underlying5 g0
    simp at e0
    subst e0
    obtain ⟨k, rfl⟩ : ∃ m : Nat, kz = (m : Int) := ⟨kz.toNat, by have := bounds_u8 w0; omega⟩
    have b0 : k < 256 := by have := bounds_u8 w0; omega
    obtain ⟨fz, e1, _, w1⟩ := DataW.trod_int Try.underlying5 g1
    simp at e1
    subst e1
    obtain ⟨f, rfl⟩ : ∃ m : Nat, fz = (m : Int) := ⟨fz.toNat, by have := bounds_u8 w1; omega⟩
    have b1 : f < 256 := by have := bounds_u8 w1; omega
    obtain ⟨tz, e2, _, w2⟩ := DataW.trod_int Try.underlying22 g2
    simp at e2
    subst e2
    obtain ⟨t, rfl⟩ : ∃ m : Nat, tz = (m : Int) := ⟨tz.toNat, by have := bounds_u32 w2; omega⟩
    have b2 : t < 4294967296 := by have := bounds_u32 w2; omega
    obtain ⟨stz, e3, _, w3⟩ := DataW.trod_int Try.underlying34 g3
    simp at e3
    subst e3
    obtain ⟨st, rfl⟩ : ∃ m : Nat, stz = (m : Int) := ⟨stz.toNat, by have := bounds_u16 w3; omega⟩
    have b3 : st < 65536 := by have := bounds_u16 w3; omega
    obtain ⟨ssz, e4, _, w4⟩ := DataW.trod_int Try.underlying34 g4
    simp at e4
    subst e4
    obtain ⟨ss, rfl⟩ : ∃ m : Nat, ssz = (m : Int) := ⟨ssz.toNat, by have := bounds_u16 w4; omega⟩
    have b4 : ss < 65536 := by have := bounds_u16 w4; omega
    obtain ⟨ppz, e5, _, w5⟩ := DataW.trod_int Try.underlying22 g5
    simp at e5
    subst e5
    obtain ⟨pp, rfl⟩ : ∃ m : Nat, ppz = (m : Int) := ⟨ppz.toNat, by have := bounds_u32 w5; omega⟩
    have b5 : pp < 4294967296 := by have := bounds_u32 w5; omega
    obtain ⟨tgz, e6, _, w6⟩ := DataW.trod_int Try.underlying22 g6
    simp at e6
    subst e6
    obtain ⟨tg, rfl⟩ : ∃ m : Nat, tgz = (m : Int) := ⟨tgz.toNat, by have := bounds_u32 w6; omega⟩
    have b6 : tg < 4294967296 := by have := bounds_u32 w6; omega
    obtain ⟨rmz, e7, _, w7⟩ := DataW.trod_int Try.underlying22 g7
    simp at e7
    subst e7
    obtain ⟨rm, rfl⟩ : ∃ m : Nat, rmz = (m : Int) := ⟨rmz.toNat, by have := bounds_u32 w7; omega⟩
    have b7 : rm < 4294967296 := by have := bounds_u32 w7; omega
    obtain ⟨osz, e8, _, w8⟩ := DataW.trod_int Try.underlying34 g8
    simp at e8
    subst e8
    obtain ⟨os, rfl⟩ : ∃ m : Nat, osz = (m : Int) := ⟨osz.toNat, by have := bounds_u16 w8; omega⟩
    have b8 : os < 65536 := by have := bounds_u16 w8; omega
    obtain ⟨isz, e9, _, w9⟩ := DataW.trod_int Try.underlying34 g9
    simp at e9
    subst e9
    obtain ⟨is, rfl⟩ : ∃ m : Nat, isz = (m : Int) := ⟨isz.toNat, by have := bounds_u16 w9; omega⟩
    have b9 : is < 65536 := by have := bounds_u16 w9; omega
    obtain ⟨bA, bN, bC, rfl, b10⟩ := SlCh.any_cells____2_uint16 g10 (fun q hq => hw q (by
      rw [hd]
      unfold DataW.weights
      rw [he]
      exact DataW.weights_mem_each (j := 10) (t := f10.type) (d := y10.1) rfl rfl q (by rw [t10]; exact hq)))
    obtain ⟨dA, dN, dC, rfl, b11⟩ := SlCh.any_cells___uint32 g11 (fun q hq => hw q (by
      rw [hd]
      unfold DataW.weights
      rw [he]
      exact DataW.weights_mem_each (j := 11) (t := f11.type) (d := y11.1) rfl rfl q (by rw [t11]; exact hq)))
    obtain ⟨pA, pN, pC, rfl, _⟩ := SlCh.any_cells___api_Param g12 (fun q hq => hw q (by
      rw [hd]
      unfold DataW.weights
      rw [he]
      exact DataW.weights_mem_each (j := 12) (t := f12.type) (d := y12.1) rfl rfl q (by rw [t12]; exact hq)))
    obtain ⟨pD, b12⟩ := SlPm.open g12 (fun q hq => hw q (by
      rw [hd]
      unfold DataW.weights
      rw [he]
      exact DataW.weights_mem_each (j := 12) (t := f12.type) (d := y12.1) rfl rfl q (by rw [t12]; exact hq)))
    obtain ⟨xA, xN, xC, xZ, rfl, s13, b13⟩ := SlCh.open_bytes g13 (fun q hq => hw q (by
      rw [hd]
      unfold DataW.weights
      rw [he]
      exact DataW.weights_mem_each (j := 13) (t := f13.type) (d := y13.1) rfl rfl q (by rw [t13]; exact hq)))
    exact ⟨k, f, t, st, ss, pp, tg, rm, os, is, bA, bN, bC, dA, dN, dC, pA, pN, pC, pD, xA, xN, xC, xZ, rfl, b0, b1, b2, b3, b4, b5, b6, b7, b8, b9, b10, b11, b12, ⟨s13, b13⟩⟩
theorem SlCh.cellsAll : Try.prog.cellsOf 47 = 14 := by kernel_rfl
theorem SlCh.bytesAll : Try.prog.bytesOf 47 = 128 := by kernel_rfl
set_option maxRecDepth 100000 in
/-- One, by value, as a parameter. -/
theorem SlCh.openV {H : Type} {enc : TypeId × Value → H} {w : World} {b0 base : Nat} {held : Bool} {v : Value} {d : DataW H} {p : List MemPlace}
    (hv : Value.okWide Try.prog w .any b0 47 v) (h : DataW.Trod enc Try.prog w base (fun _ => true) held 47 v d p) (hw : ∀ n ∈ d.weights Try.prog 47, n ≤ reachBytes) : ∃ x : ChD, v = .agg x.vals.toArray ∧ x.Wf w := by
  obtain ⟨f0, f1, f2, f3, f4, f5, f6, f7, f8, f9, f10, f11, f12, f13, he, _⟩ := SlCh.open_all_fields
  obtain ⟨cs, rfl, hsz⟩ := okWide_struct he hv
  rw [SlCh.cellsAll] at hsz
  obtain ⟨cl⟩ := cs
  obtain ⟨fuel, hf⟩ := h
  have hf2 : DataW.trod enc Try.prog w base (fun _ => true) held fuel 47 cl = some (d, p) := hf
  obtain ⟨k, f, t, st, ss, pp, tg, rm, os, is, bA, bN, bC, dA, dN, dC, pA, pN, pC, pD, xA, xN, xC, xZ, rfl, Hk, Hf, Ht, Hst, Hss, Hpp, Htg, Hrm, Hos, His, Hb, Hd, Hp, Hx⟩ := SlCh.open_all hsz hf2 hw
  exact ⟨⟨k, f, t, st, ss, pp, tg, rm, os, is, bA, bN, bC, dA, dN, dC, pA, pN, pC, pD, xA, xN, xC, xZ⟩, rfl, ⟨Hk, Hf, Ht, Hst, Hss, Hpp, Htg, Hrm, Hos, His, Hb, Hd, Hp, Hx⟩⟩
end Go.Proofs.Ytconfmjgoipejaa
namespace Go.Proofs.Ytconfmjgoipejaa
open Go.RowKit Go.ChangeShapes Go.WideShapes Go.ChangeAt
structure MgD where
  st : Nat
  ss : Nat
  pp : Nat
  fr : Bool
  daA : Option Addr
  daN : Nat
  daC : Nat
  daZ : List Nat
instance : Inhabited MgD := ⟨⟨0, 0, 0, false, none, 0, 0, []⟩⟩
def MgD.vals (x : MgD) : List Value := [.int .u16 (x.st : Nat), .int .u16 (x.ss : Nat), .int .u32 (x.pp : Nat), .bool x.fr, .slice x.daA x.daN x.daC]
def MgD.Wf (w : World) (x : MgD) : Prop := x.st < 65536 ∧ x.ss < 65536 ∧ x.pp < 4294967296 ∧ (Sl w x.daA x.daN x.daC x.daZ ∧ x.daC ≤ 140737488351232)
structure SlMg (w : World) (a : Option Addr) (n c : Nat) (dd : List MgD) : Prop where
  len : dd.length = n
  cap : n ≤ c
  small : n ≤ 281474976710656
  at_ : n = 0 ∨ ∃ b off, a = some ⟨b, off, none⟩ ∧ b < w.heap.size ∧ ∀ i x, dd[i]? = some x → ∀ j v, x.vals[j]? = some v → w.cell? ⟨b, off + i * 5 + j, none⟩ = some v
  wf : ∀ x ∈ dd, x.Wf w
theorem SlMg.below {w w' : World} {a : Option Addr} {n c : Nat} {dd : List MgD} (h : SlMg w a n c dd) (hb : Below w.heap.size w w') : SlMg w' a n c dd := by
  refine ⟨h.len, h.cap, h.small, ?_, fun x hx => ?_⟩
  · rcases h.at_ with h0 | ⟨b, off, rfl, hlt, hc⟩
    · exact .inl h0
    · exact .inr ⟨b, off, rfl, Nat.lt_of_lt_of_le hlt hb.size, fun i x hx j v hv => (hb.cell (p := ⟨b, off + i * 5 + j, none⟩) hlt).trans (hc i x hx j v hv)⟩
  · have hh := h.wf x hx
    unfold MgD.Wf at hh ⊢
    obtain ⟨h0, h1, h2, h3⟩ := hh
    exact ⟨h0, h1, h2, ⟨h3.1.below hb, h3.2⟩⟩
theorem SlMg.wAll_mem {H : Type} {P : Program} {e : TypeId} : ∀ {ds : List (DataW H)} {d : DataW H}, d ∈ ds → ∀ n ∈ d.weights P e, n ∈ DataW.weightsAll P e ds
  | x :: ds, d, hd, n, hn => by
    unfold DataW.weightsAll
    rcases List.mem_cons.1 hd with rfl | h
    · exact List.mem_append_left _ hn
    · exact List.mem_append_right _ (SlMg.wAll_mem h n hn)
theorem SlMg.cells_uint16 : Try.prog.cellsOf 34 = 1 := by kernel_rfl
theorem SlMg.cells_uint32 : Try.prog.cellsOf 22 = 1 := by kernel_rfl
theorem SlMg.cells_bool : Try.prog.cellsOf 4 = 1 := by kernel_rfl
theorem SlMg.cells___uint8 : Try.prog.cellsOf 36 = 1 := by kernel_rfl
theorem SlMg.bytes_u8 : Try.prog.bytesOf 5 = 1 := by kernel_rfl
theorem SlMg.open_bytes {H : Type} {enc : TypeId × Value → H} {w : World} {base : Nat} {held : Bool} {fuel : Nat} {v : Value} {y : DataW H × List MemPlace}
    (h : DataW.trod enc Try.prog w base (fun _ => true) held fuel 36 [v] = some y) (hw : ∀ n ∈ y.1.weights Try.prog 36, n ≤ reachBytes) : ∃ a n c zs, v = .slice a n c ∧ Sl w a n c zs ∧ c ≤ 140737488351232 := by
  rcases open_ints Try.underlying36 Try.underlying5 (by kernel_rfl) h with ⟨hcs, _⟩ | ⟨x, l, c, zs, hcs, _, hl, hm, hz, hx, hcell, hwz⟩
  · simp at hcs
    exact ⟨none, 0, 0, [], hcs, SlK.nil _ _ _ (by omega), by omega⟩
  · simp at hcs
    have hz' : zs.length = c := by simpa using hz
    have hb : (lits (H := H) .u8 (zs.take l)).length + (lits (H := H) .u8 (zs.drop l)).length ≤ reachBytes := by
      have := hw (((lits (H := H) .u8 (zs.take l)).length + (lits (H := H) .u8 (zs.drop l)).length) * Try.prog.bytesOf 5) (by
        rw [hx]
        unfold DataW.weights
        rw [Try.underlying36]
        simp)
      rwa [SlMg.bytes_u8, Nat.mul_one] at this
    simp only [lits, List.length_map, List.length_take, List.length_drop, reachBytes] at hb
    exact ⟨_, _, _, _, hcs, SlK.of_ints (by omega) (fun z hz => by simp [Lit.wf, IntKind.min, IntKind.max, IntKind.signed, IntKind.bits] at hz; omega) hl hm hz' (by omega) hcell hwz, by omega⟩
theorem SlMg.open_all_fields : ∃ f0 f1 f2 f3 f4 : Field, Try.prog.underlying 38 = some (.struct #[f0, f1, f2, f3, f4]) ∧ f0.offset = 0 ∧ f1.offset = 1 ∧ f2.offset = 2 ∧ f3.offset = 3 ∧ f4.offset = 4 ∧ f0.type = 34 ∧ f1.type = 34 ∧ f2.type = 22 ∧ f3.type = 4 ∧ f4.type = 36 := ⟨_, _, _, _, _, Try.underlying38, rfl, rfl, rfl, rfl, rfl, rfl, rfl, rfl, rfl, rfl⟩
set_option linter.unusedVariables false in
set_option maxRecDepth 100000 in
theorem SlMg.open_all {H : Type} {enc : TypeId × Value → H} {w : World} {base : Nat} {held : Bool} {fuel : Nat} {cl : List Value} {y : DataW H × List MemPlace} (hl : cl.length = 5)
    (h : DataW.trod enc Try.prog w base (fun _ => true) held fuel 38 cl = some y) (hw : ∀ n ∈ y.1.weights Try.prog 38, n ≤ reachBytes) :
    ∃ (st : Nat) (ss : Nat) (pp : Nat) (fr : Bool) (daA : Option Addr) (daN daC : Nat) (daZ : List Nat), cl = [.int .u16 (st : Nat), .int .u16 (ss : Nat), .int .u32 (pp : Nat), .bool fr, .slice daA daN daC] ∧ st < 65536 ∧ ss < 65536 ∧ pp < 4294967296 ∧ (Sl w daA daN daC daZ ∧ daC ≤ 140737488351232) := by
  obtain ⟨f0, f1, f2, f3, f4, he, o0, o1, o2, o3, o4, t0, t1, t2, t3, t4⟩ := SlMg.open_all_fields
  obtain ⟨xs, m, _, hx, _, hlen, hfs⟩ := DataW.trod_struct he h
  have hlen2 : xs.length = 5 := hlen
  match cl, hl, xs, hlen2 with
  | [v0, v1, v2, v3, v4], _, [y0, y1, y2, y3, y4], _ =>
    have hd := congrArg Prod.fst hx
    simp only [List.map_cons, List.map_nil] at hd
    have g0 := hfs 0 f0 rfl
    simp [o0, t0, SlMg.cells_uint16] at g0
    have g1 := hfs 1 f1 rfl
    simp [o1, t1, SlMg.cells_uint16] at g1
    have g2 := hfs 2 f2 rfl
    simp [o2, t2, SlMg.cells_uint32] at g2
    have g3 := hfs 3 f3 rfl
    simp [o3, t3, SlMg.cells_bool] at g3
    have g4 := hfs 4 f4 rfl
    simp [o4, t4, SlMg.cells___uint8] at g4
    obtain ⟨stz, e0, _, w0⟩ := DataW.trod_int Try.underlying34 g0
    simp at e0
    subst e0
    obtain ⟨st, rfl⟩ : ∃ m : Nat, stz = (m : Int) := ⟨stz.toNat, by have := bounds_u16 w0; omega⟩
    have b0 : st < 65536 := by have := bounds_u16 w0; omega
    obtain ⟨ssz, e1, _, w1⟩ := DataW.trod_int Try.underlying34 g1
    simp at e1
    subst e1
    obtain ⟨ss, rfl⟩ : ∃ m : Nat, ssz = (m : Int) := ⟨ssz.toNat, by have := bounds_u16 w1; omega⟩
    have b1 : ss < 65536 := by have := bounds_u16 w1; omega
    obtain ⟨ppz, e2, _, w2⟩ := DataW.trod_int Try.underlying22 g2
    simp at e2
    subst e2
    obtain ⟨pp, rfl⟩ : ∃ m : Nat, ppz = (m : Int) := ⟨ppz.toNat, by have := bounds_u32 w2; omega⟩
    have b2 : pp < 4294967296 := by have := bounds_u32 w2; omega
    obtain ⟨fr, e3, _⟩ := DataW.trod_bool Try.underlying4 g3
    simp at e3
    subst e3
    obtain ⟨daA, daN, daC, daZ, rfl, s4, b4⟩ := SlMg.open_bytes g4 (fun q hq => hw q (by
      rw [hd]
      unfold DataW.weights
      rw [he]
      exact DataW.weights_mem_each (j := 4) (t := f4.type) (d := y4.1) rfl rfl q (by rw [t4]; exact hq)))
    exact ⟨st, ss, pp, fr, daA, daN, daC, daZ, rfl, b0, b1, b2, ⟨s4, b4⟩⟩
theorem SlMg.cellsAll : Try.prog.cellsOf 38 = 5 := by kernel_rfl
theorem SlMg.bytesAll : Try.prog.bytesOf 38 = 40 := by kernel_rfl
theorem SlMg.open {H : Type} {enc : TypeId × Value → H} {w : World} {base : Nat} {held : Bool} {fuel : Nat} {a : Option Addr} {n c : Nat} {y : DataW H × List MemPlace}
    (h : DataW.trod enc Try.prog w base (fun _ => true) held fuel 33 [.slice a n c] = some y) (hw : ∀ n ∈ y.1.weights Try.prog 33, n ≤ reachBytes) : ∃ dd, SlMg w a n c dd := by
  rcases Go.Deep.open_slice Try.underlying33 h with ⟨hcs, _⟩ | ⟨x, l, k, m, fn, D, Pl, hcs, hb, hl, hm, hmm, hx, hc⟩
  · simp at hcs
    obtain ⟨rfl, rfl, rfl⟩ := hcs
    exact ⟨[], rfl, Nat.le_refl _, by omega, .inl rfl, fun x hx => (by cases hx)⟩
  · simp at hcs
    obtain ⟨rfl, rfl, rfl⟩ := hcs
    have hmc : m = c := by simpa using hmm
    subst hmc
    subst hx
    have hsz : m * 40 ≤ reachBytes := by
      have := hw ((((List.range n).map D).length + ((List.range (m - n)).map fun j => D (n + j)).length) * Try.prog.bytesOf 38) (by
        unfold DataW.weights
        rw [Try.underlying33]
        simp)
      rw [SlMg.bytesAll] at this
      simp at this
      omega
    simp only [reachBytes] at hsz
    rw [SlMg.cellsAll] at hc
    have hwi : ∀ i, i < n → ∀ q ∈ (D i).weights Try.prog 38, q ≤ reachBytes := by
      intro i hi q hq
      refine hw q ?_
      unfold DataW.weights
      rw [Try.underlying33]
      simp only [List.mem_cons, List.mem_append]
      exact .inr (.inl (SlMg.wAll_mem (List.mem_map.2 ⟨i, List.mem_range.2 hi, rfl⟩) q hq))
    have each : ∀ i, i < n → ∃ q : MgD, (∀ j v, q.vals[j]? = some v → w.cell? (x.add (i * 5 + j)) = some v) ∧ q.Wf w := by
      intro i hi
      obtain ⟨cs', h1, h2⟩ := hc i (by omega)
      obtain ⟨_, hlen, hcell⟩ := World.cells?_some h1
      obtain ⟨st, ss, pp, fr, daA, daN, daC, daZ, rfl, Hst, Hss, Hpp, Hda⟩ := SlMg.open_all hlen h2 (hwi i hi)
      refine ⟨⟨st, ss, pp, fr, daA, daN, daC, daZ⟩, fun j v hv => ?_, ⟨Hst, Hss, Hpp, Hda⟩⟩
      have hj : j < 5 := (List.getElem?_eq_some_iff.1 hv).1
      have e := hcell j hj
      rw [Go.Deep.add_add] at e
      rw [e]
      exact hv
    obtain ⟨q, hq⟩ := Go.Deep.choose_lt each
    have hget : ∀ i z, ((List.range n).map q)[i]? = some z → i < n ∧ z = q i := fun i z hz => by
      have hi := (List.getElem?_eq_some_iff.1 hz).1
      simp at hi
      rw [List.getElem?_map, List.getElem?_range hi] at hz
      simp at hz
      exact ⟨hi, hz.symm⟩
    refine ⟨(List.range n).map q, by simp, hl, by omega, ?_, fun z hz => ?_⟩
    · by_cases h0 : n = 0
      · exact .inl h0
      · obtain ⟨b, off, spot⟩ := x
        have hc0 := (hq 0 (by omega)).1 0 _ rfl
        have hspot : spot = none := by simpa [Addr.add] using World.cell?_spot hc0
        subst hspot
        have hlt : b < w.heap.size := by
          have := hc0
          simp only [Addr.add, World.cell?] at this
          rcases Nat.lt_or_ge b w.heap.size with h9 | h9
          · exact h9
          · simp [h9] at this
        refine .inr ⟨b, off, rfl, hlt, fun i z hz j v hv => ?_⟩
        obtain ⟨hi, rfl⟩ := hget i z hz
        have h1 := (hq i hi).1 j v hv
        have ea : ∀ j, (⟨b, off, none⟩ : Addr).add j = ⟨b, off + j, none⟩ := by
          intro j
          unfold Addr.add
          split
          · subst_vars; rfl
          · rfl
        rw [ea] at h1
        rw [Nat.add_assoc]
        exact h1
    · obtain ⟨i, hi⟩ := List.getElem?_of_mem hz
      obtain ⟨hin, rfl⟩ := hget i z hi
      exact (hq i hin).2
set_option maxRecDepth 100000 in
/-- One, by value, as a parameter. -/
theorem SlMg.openV {H : Type} {enc : TypeId × Value → H} {w : World} {b0 base : Nat} {held : Bool} {v : Value} {d : DataW H} {p : List MemPlace}
    (hv : Value.okWide Try.prog w .any b0 38 v) (h : DataW.Trod enc Try.prog w base (fun _ => true) held 38 v d p) (hw : ∀ n ∈ d.weights Try.prog 38, n ≤ reachBytes) : ∃ x : MgD, v = .agg x.vals.toArray ∧ x.Wf w := by
  obtain ⟨f0, f1, f2, f3, f4, he, _⟩ := SlMg.open_all_fields
  obtain ⟨cs, rfl, hsz⟩ := okWide_struct he hv
  rw [SlMg.cellsAll] at hsz
  obtain ⟨cl⟩ := cs
  obtain ⟨fuel, hf⟩ := h
  have hf2 : DataW.trod enc Try.prog w base (fun _ => true) held fuel 38 cl = some (d, p) := hf
  obtain ⟨st, ss, pp, fr, daA, daN, daC, daZ, rfl, Hst, Hss, Hpp, Hda⟩ := SlMg.open_all hsz hf2 hw
  exact ⟨⟨st, ss, pp, fr, daA, daN, daC, daZ⟩, rfl, ⟨Hst, Hss, Hpp, Hda⟩⟩
end Go.Proofs.Ytconfmjgoipejaa
