/-
  Whatever the input, trunklinelaw13.StreamsNone answers true and leaves what it was handed as it was.
  (The statement is Rows.StreamsNoneSaid; no condition of our own.)
-/
import Derived.Test.YtjaheelgcjafcabStN
import Derived.Test.YtjaheelgcjafcabCh8
import Derived.Test.YtjaheelgcjafcabProg
import Derived.Test.YtjaheelgcjafcabBase
import Derived.Deep.Strs
import Derived.RowKit
import Derived.ChangeSlices
import Derived.SizedLaws
import Derived.ProofKit
import Derived.OpenShut
import Derived.ChangeArms
import Derived.WideShapes
import Derived.Test.YtjaheelgcjafcabStL
import Derived.Test.YtjaheelgcjafcabRows
import Derived.ShutString
import Derived.ChangeOld
namespace Go.Proofs.Ytjaheelgcjafcab
open Go.RowKit
set_option linter.unusedVariables false in
set_option maxRecDepth 100000 in
set_option maxHeartbeats 1000000 in
theorem shold_nil (c0 c1 c2 c3 c4 c5 c6 c7 c8 c9 c10 c11 c12 c13 : Value) (w : World) (v : Value) (hv : v = .agg #[c0, c1, c2, c3, c4, c5, c6, c7, c8, c9, c10, c11, c12, c13]) :
    Calls Try.prog 9 #[.pointer none, v] w fun e w' => e = .returned (.int .i64 1) ∧ Below w.heap.size w w' := by
  subst hv
  go_enter Try.func9, Try.ntmps9
  go_wp2
  go_ret
  exact ⟨rfl, by first | exact Below.refl _ _ | exact (Below.refl _ _).alloc (Nat.le_refl _) _⟩
set_option linter.unusedVariables false in
set_option maxRecDepth 100000 in
set_option maxHeartbeats 1000000 in
theorem sadd_nil (c0 c1 c2 c3 c4 c5 c6 c7 c8 c9 c10 c11 c12 c13 : Value) (w : World) (v : Value) (hv : v = .agg #[c0, c1, c2, c3, c4, c5, c6, c7, c8, c9, c10, c11, c12, c13]) :
    Calls Try.prog 4 #[.pointer none, v] w fun e w' => e = .returned (.tuple #[.slice none 0 0, .int .i64 1]) ∧ Below w.heap.size w w' := by
  subst hv
  go_enter Try.func4, Try.ntmps4
  go_wp2_with fail
  refine (shold_nil c0 c1 c2 c3 c4 c5 c6 c7 c8 c9 c10 c11 c12 c13 _ _ (by rfl)).mono ?_
  rintro e w1 ⟨rfl, hb⟩
  have HB : Hid (Below w.heap.size w w1) := by
    show Below _ _ _
    first
      | exact hb
      | exact ((Below.refl _ _).alloc (Nat.le_refl _) _).trans (hb.mono (by simp))
  clear hb
  go_wp2
  go_ret2
  exact ⟨rfl, HB.out⟩
set_option linter.unusedVariables false in
set_option maxRecDepth 100000 in
set_option maxHeartbeats 1000000 in
theorem snext_nil (n : Int) (w : World) :
    Calls Try.prog 5 #[.pointer none, .int .i64 n] w fun e w' => e = .returned (.tuple #[.int .u16 0, .int .i64 1]) ∧ Below w.heap.size w w' := by
  go_enter Try.func5, Try.ntmps5
  go_wp2
  go_ret2
  exact ⟨rfl, Below.refl _ _⟩
set_option linter.unusedVariables false in
set_option maxRecDepth 100000 in
set_option maxHeartbeats 1000000 in
theorem sheld_nil (w : World) :
    Calls Try.prog 6 #[.pointer none] w fun e w' => e = .returned (.tuple #[.int .i64 0, .int .i64 0]) ∧ Below w.heap.size w w' := by
  go_enter Try.func6, Try.ntmps6
  go_wp2
  go_ret2
  exact ⟨rfl, Below.refl _ _⟩
set_option linter.unusedVariables false in
set_option maxRecDepth 100000 in
set_option maxHeartbeats 1000000 in
theorem sfork_nil (w : World) :
    Calls Try.prog 8 #[.pointer none] w fun e w' => e = .returned (.pointer none) ∧ Below w.heap.size w w' := by
  go_enter Try.func8, Try.ntmps8
  go_wp2
  go_ret
  exact ⟨rfl, Below.refl _ _⟩
end Go.Proofs.Ytjaheelgcjafcab
namespace Go.Proofs.Ytjaheelgcjafcab
open Go.RowKit Go.ChangeShapes Go.WideShapes Go.ChangeAt
structure Pm where
  kind : Nat
  dataA : Option Addr
  dataN : Nat
  dataC : Nat
  dataZ : List Nat
instance : Inhabited Pm := ⟨⟨0, none, 0, 0, []⟩⟩
def Pm.vals (x : Pm) : List Value := [.int .u16 (x.kind : Nat), .slice x.dataA x.dataN x.dataC]
def Pm.Wf (w : World) (x : Pm) : Prop := x.kind < 65536 ∧ (Sl w x.dataA x.dataN x.dataC x.dataZ ∧ x.dataC ≤ 140737488351232)
structure SlPm (w : World) (a : Option Addr) (n c : Nat) (dd : List Pm) : Prop where
  len : dd.length = n
  cap : n ≤ c
  small : n ≤ 281474976710656
  at_ : n = 0 ∨ ∃ b off, a = some ⟨b, off, none⟩ ∧ b < w.heap.size ∧ ∀ i x, dd[i]? = some x → ∀ j v, x.vals[j]? = some v → w.cell? ⟨b, off + i * 2 + j, none⟩ = some v
  wf : ∀ x ∈ dd, x.Wf w
theorem SlPm.below {w w' : World} {a : Option Addr} {n c : Nat} {dd : List Pm} (h : SlPm w a n c dd) (hb : Below w.heap.size w w') : SlPm w' a n c dd := by
  refine ⟨h.len, h.cap, h.small, ?_, fun x hx => ?_⟩
  · rcases h.at_ with h0 | ⟨b, off, rfl, hlt, hc⟩
    · exact .inl h0
    · exact .inr ⟨b, off, rfl, Nat.lt_of_lt_of_le hlt hb.size, fun i x hx j v hv => (hb.cell (p := ⟨b, off + i * 2 + j, none⟩) hlt).trans (hc i x hx j v hv)⟩
  · have hh := h.wf x hx
    unfold Pm.Wf at hh ⊢
    obtain ⟨h0, h1⟩ := hh
    exact ⟨h0, ⟨h1.1.below hb, h1.2⟩⟩
theorem SlPm.wAll_mem {H : Type} {P : Program} {e : TypeId} : ∀ {ds : List (DataW H)} {d : DataW H}, d ∈ ds → ∀ n ∈ d.weights P e, n ∈ DataW.weightsAll P e ds
  | x :: ds, d, hd, n, hn => by
    unfold DataW.weightsAll
    rcases List.mem_cons.1 hd with rfl | h
    · exact List.mem_append_left _ hn
    · exact List.mem_append_right _ (SlPm.wAll_mem h n hn)
theorem SlPm.cells_uint16 : Try.prog.cellsOf 23 = 1 := by kernel_rfl
theorem SlPm.cells___uint8 : Try.prog.cellsOf 27 = 1 := by kernel_rfl
theorem SlPm.bytes_u8 : Try.prog.bytesOf 5 = 1 := by kernel_rfl
theorem SlPm.open_bytes {H : Type} {enc : TypeId × Value → H} {w : World} {base : Nat} {held : Bool} {fuel : Nat} {v : Value} {y : DataW H × List MemPlace}
    (h : DataW.trod enc Try.prog w base (fun _ => true) held fuel 27 [v] = some y) (hw : ∀ n ∈ y.1.weights Try.prog 27, n ≤ reachBytes) : ∃ a n c zs, v = .slice a n c ∧ Sl w a n c zs ∧ c ≤ 140737488351232 := by
  rcases open_ints Try.underlying27 Try.underlying5 (by kernel_rfl) h with ⟨hcs, _⟩ | ⟨x, l, c, zs, hcs, _, hl, hm, hz, hx, hcell, hwz⟩
  · simp at hcs
    exact ⟨none, 0, 0, [], hcs, SlK.nil _ _ _ (by omega), by omega⟩
  · simp at hcs
    have hz' : zs.length = c := by simpa using hz
    have hb : (lits (H := H) .u8 (zs.take l)).length + (lits (H := H) .u8 (zs.drop l)).length ≤ reachBytes := by
      have := hw (((lits (H := H) .u8 (zs.take l)).length + (lits (H := H) .u8 (zs.drop l)).length) * Try.prog.bytesOf 5) (by
        rw [hx]
        unfold DataW.weights
        rw [Try.underlying27]
        simp)
      rwa [SlPm.bytes_u8, Nat.mul_one] at this
    simp only [lits, List.length_map, List.length_take, List.length_drop, reachBytes] at hb
    exact ⟨_, _, _, _, hcs, SlK.of_ints (by omega) (fun z hz => by simp [Lit.wf, IntKind.min, IntKind.max, IntKind.signed, IntKind.bits] at hz; omega) hl hm hz' (by omega) hcell hwz, by omega⟩
theorem SlPm.open_all_fields : ∃ f0 f1 : Field, Try.prog.underlying 126 = some (.struct #[f0, f1]) ∧ f0.offset = 0 ∧ f1.offset = 1 ∧ f0.type = 23 ∧ f1.type = 27 := ⟨_, _, Try.underlying126, rfl, rfl, rfl, rfl⟩
set_option linter.unusedVariables false in
set_option maxRecDepth 100000 in
theorem SlPm.open_all {H : Type} {enc : TypeId × Value → H} {w : World} {base : Nat} {held : Bool} {fuel : Nat} {cl : List Value} {y : DataW H × List MemPlace} (hl : cl.length = 2)
    (h : DataW.trod enc Try.prog w base (fun _ => true) held fuel 126 cl = some y) (hw : ∀ n ∈ y.1.weights Try.prog 126, n ≤ reachBytes) :
    ∃ (kind : Nat) (dataA : Option Addr) (dataN dataC : Nat) (dataZ : List Nat), cl = [.int .u16 (kind : Nat), .slice dataA dataN dataC] ∧ kind < 65536 ∧ (Sl w dataA dataN dataC dataZ ∧ dataC ≤ 140737488351232) := by
  obtain ⟨f0, f1, he, o0, o1, t0, t1⟩ := SlPm.open_all_fields
  obtain ⟨xs, m, _, hx, _, hlen, hfs⟩ := DataW.trod_struct he h
  have hlen2 : xs.length = 2 := hlen
  match cl, hl, xs, hlen2 with
  | [v0, v1], _, [y0, y1], _ =>
    have hd := congrArg Prod.fst hx
    simp only [List.map_cons, List.map_nil] at hd
    have g0 := hfs 0 f0 rfl
    simp [o0, t0, SlPm.cells_uint16] at g0
    have g1 := hfs 1 f1 rfl
    simp [o1, t1, SlPm.cells___uint8] at g1
    obtain ⟨kindz, e0, _, w0⟩ := DataW.trod_int Try.underlying23 g0
    simp at e0
    subst e0
    obtain ⟨kind, rfl⟩ : ∃ m : Nat, kindz = (m : Int) := ⟨kindz.toNat, by have := bounds_u16 w0; omega⟩
    have b0 : kind < 65536 := by have := bounds_u16 w0; omega
    obtain ⟨dataA, dataN, dataC, dataZ, rfl, s1, b1⟩ := SlPm.open_bytes g1 (fun q hq => hw q (by
      rw [hd]
      unfold DataW.weights
      rw [he]
      exact DataW.weights_mem_each (j := 1) (t := f1.type) (d := y1.1) rfl rfl q (by rw [t1]; exact hq)))
    exact ⟨kind, dataA, dataN, dataC, dataZ, rfl, b0, ⟨s1, b1⟩⟩
theorem SlPm.cellsAll : Try.prog.cellsOf 126 = 2 := by kernel_rfl
theorem SlPm.bytesAll : Try.prog.bytesOf 126 = 32 := by kernel_rfl
theorem SlPm.open {H : Type} {enc : TypeId × Value → H} {w : World} {base : Nat} {held : Bool} {fuel : Nat} {a : Option Addr} {n c : Nat} {y : DataW H × List MemPlace}
    (h : DataW.trod enc Try.prog w base (fun _ => true) held fuel 26 [.slice a n c] = some y) (hw : ∀ n ∈ y.1.weights Try.prog 26, n ≤ reachBytes) : ∃ dd, SlPm w a n c dd := by
  rcases Go.Deep.open_slice Try.underlying26 h with ⟨hcs, _⟩ | ⟨x, l, k, m, fn, D, Pl, hcs, hb, hl, hm, hmm, hx, hc⟩
  · simp at hcs
    obtain ⟨rfl, rfl, rfl⟩ := hcs
    exact ⟨[], rfl, Nat.le_refl _, by omega, .inl rfl, fun x hx => (by cases hx)⟩
  · simp at hcs
    obtain ⟨rfl, rfl, rfl⟩ := hcs
    have hmc : m = c := by simpa using hmm
    subst hmc
    subst hx
    have hsz : m * 32 ≤ reachBytes := by
      have := hw ((((List.range n).map D).length + ((List.range (m - n)).map fun j => D (n + j)).length) * Try.prog.bytesOf 126) (by
        unfold DataW.weights
        rw [Try.underlying26]
        simp)
      rw [SlPm.bytesAll] at this
      simp at this
      omega
    simp only [reachBytes] at hsz
    rw [SlPm.cellsAll] at hc
    have hwi : ∀ i, i < n → ∀ q ∈ (D i).weights Try.prog 126, q ≤ reachBytes := by
      intro i hi q hq
      refine hw q ?_
      unfold DataW.weights
      rw [Try.underlying26]
      simp only [List.mem_cons, List.mem_append]
      exact .inr (.inl (SlPm.wAll_mem (List.mem_map.2 ⟨i, List.mem_range.2 hi, rfl⟩) q hq))
    have each : ∀ i, i < n → ∃ q : Pm, (∀ j v, q.vals[j]? = some v → w.cell? (x.add (i * 2 + j)) = some v) ∧ q.Wf w := by
      intro i hi
      obtain ⟨cs', h1, h2⟩ := hc i (by omega)
      obtain ⟨_, hlen, hcell⟩ := World.cells?_some h1
      obtain ⟨kind, dataA, dataN, dataC, dataZ, rfl, Hkind, Hdata⟩ := SlPm.open_all hlen h2 (hwi i hi)
      refine ⟨⟨kind, dataA, dataN, dataC, dataZ⟩, fun j v hv => ?_, ⟨Hkind, Hdata⟩⟩
      have hj : j < 2 := (List.getElem?_eq_some_iff.1 hv).1
      have e := hcell j hj
      rw [Go.Deep.add_add] at e
      rw [e]
      exact hv
    obtain ⟨q, hq⟩ := Go.Deep.choose_lt each
    have hget : ∀ i z, ((List.range n).map q)[i]? = some z → i < n ∧ z = q i := fun i z hz => by
      have hi := (List.getElem?_eq_some_iff.1 hz).1
      simp at hi
      rw [List.getElem?_map, List.getElem?_range hi] at hz
      simp at hz
      exact ⟨hi, hz.symm⟩
    refine ⟨(List.range n).map q, by simp, hl, by omega, ?_, fun z hz => ?_⟩
    · by_cases h0 : n = 0
      · exact .inl h0
      · obtain ⟨b, off, spot⟩ := x
        have hc0 := (hq 0 (by omega)).1 0 _ rfl
        have hspot : spot = none := by simpa [Addr.add] using World.cell?_spot hc0
        subst hspot
        have hlt : b < w.heap.size := by
          have := hc0
          simp only [Addr.add, World.cell?] at this
          rcases Nat.lt_or_ge b w.heap.size with h9 | h9
          · exact h9
          · simp [h9] at this
        refine .inr ⟨b, off, rfl, hlt, fun i z hz j v hv => ?_⟩
        obtain ⟨hi, rfl⟩ := hget i z hz
        have h1 := (hq i hi).1 j v hv
        have ea : ∀ j, (⟨b, off, none⟩ : Addr).add j = ⟨b, off + j, none⟩ := by
          intro j
          unfold Addr.add
          split
          · subst_vars; rfl
          · rfl
        rw [ea] at h1
        rw [Nat.add_assoc]
        exact h1
    · obtain ⟨i, hi⟩ := List.getElem?_of_mem hz
      obtain ⟨hin, rfl⟩ := hget i z hi
      exact (hq i hin).2
set_option maxRecDepth 100000 in
/-- One, by value, as a parameter. -/
theorem SlPm.openV {H : Type} {enc : TypeId × Value → H} {w : World} {b0 base : Nat} {held : Bool} {v : Value} {d : DataW H} {p : List MemPlace}
    (hv : Value.okWide Try.prog w .any b0 126 v) (h : DataW.Trod enc Try.prog w base (fun _ => true) held 126 v d p) (hw : ∀ n ∈ d.weights Try.prog 126, n ≤ reachBytes) : ∃ x : Pm, v = .agg x.vals.toArray ∧ x.Wf w := by
  obtain ⟨f0, f1, he, _⟩ := SlPm.open_all_fields
  obtain ⟨cs, rfl, hsz⟩ := okWide_struct he hv
  rw [SlPm.cellsAll] at hsz
  obtain ⟨cl⟩ := cs
  obtain ⟨fuel, hf⟩ := h
  have hf2 : DataW.trod enc Try.prog w base (fun _ => true) held fuel 126 cl = some (d, p) := hf
  obtain ⟨kind, dataA, dataN, dataC, dataZ, rfl, Hkind, Hdata⟩ := SlPm.open_all hsz hf2 hw
  exact ⟨⟨kind, dataA, dataN, dataC, dataZ⟩, rfl, ⟨Hkind, Hdata⟩⟩
end Go.Proofs.Ytjaheelgcjafcab
namespace Go.Proofs.Ytjaheelgcjafcab
open Go.RowKit Go.ChangeShapes Go.WideShapes Go.ChangeAt
structure ChD where
  k : Nat
  f : Nat
  t : Nat
  st : Nat
  ss : Nat
  pp : Nat
  tg : Nat
  rm : Nat
  os : Nat
  is : Nat
  bA : Option Addr
  bN : Nat
  bC : Nat
  dA : Option Addr
  dN : Nat
  dC : Nat
  pA : Option Addr
  pN : Nat
  pC : Nat
  pD : List Pm
  xA : Option Addr
  xN : Nat
  xC : Nat
  xZ : List Nat
instance : Inhabited ChD := ⟨⟨0, 0, 0, 0, 0, 0, 0, 0, 0, 0, none, 0, 0, none, 0, 0, none, 0, 0, [], none, 0, 0, []⟩⟩
def ChD.vals (x : ChD) : List Value := [.int .u8 (x.k : Nat), .int .u8 (x.f : Nat), .int .u32 (x.t : Nat), .int .u16 (x.st : Nat), .int .u16 (x.ss : Nat), .int .u32 (x.pp : Nat), .int .u32 (x.tg : Nat), .int .u32 (x.rm : Nat), .int .u16 (x.os : Nat), .int .u16 (x.is : Nat), .slice x.bA x.bN x.bC, .slice x.dA x.dN x.dC, .slice x.pA x.pN x.pC, .slice x.xA x.xN x.xC]
def ChD.Wf (w : World) (x : ChD) : Prop := x.k < 256 ∧ x.f < 256 ∧ x.t < 4294967296 ∧ x.st < 65536 ∧ x.ss < 65536 ∧ x.pp < 4294967296 ∧ x.tg < 4294967296 ∧ x.rm < 4294967296 ∧ x.os < 65536 ∧ x.is < 65536 ∧ x.bN ≤ 281474976710656 ∧ x.dN ≤ 281474976710656 ∧ (SlPm w x.pA x.pN x.pC x.pD) ∧ (Sl w x.xA x.xN x.xC x.xZ ∧ x.xC ≤ 140737488351232)
structure SlCh (w : World) (a : Option Addr) (n c : Nat) (dd : List ChD) : Prop where
  len : dd.length = n
  cap : n ≤ c
  small : n ≤ 281474976710656
  at_ : n = 0 ∨ ∃ b off, a = some ⟨b, off, none⟩ ∧ b < w.heap.size ∧ ∀ i x, dd[i]? = some x → ∀ j v, x.vals[j]? = some v → w.cell? ⟨b, off + i * 14 + j, none⟩ = some v
  wf : ∀ x ∈ dd, x.Wf w
theorem SlCh.below {w w' : World} {a : Option Addr} {n c : Nat} {dd : List ChD} (h : SlCh w a n c dd) (hb : Below w.heap.size w w') : SlCh w' a n c dd := by
  refine ⟨h.len, h.cap, h.small, ?_, fun x hx => ?_⟩
  · rcases h.at_ with h0 | ⟨b, off, rfl, hlt, hc⟩
    · exact .inl h0
    · exact .inr ⟨b, off, rfl, Nat.lt_of_lt_of_le hlt hb.size, fun i x hx j v hv => (hb.cell (p := ⟨b, off + i * 14 + j, none⟩) hlt).trans (hc i x hx j v hv)⟩
  · have hh := h.wf x hx
    unfold ChD.Wf at hh ⊢
    obtain ⟨h0, h1, h2, h3, h4, h5, h6, h7, h8, h9, h10, h11, h12, h13⟩ := hh
    exact ⟨h0, h1, h2, h3, h4, h5, h6, h7, h8, h9, h10, h11, h12.below hb, ⟨h13.1.below hb, h13.2⟩⟩
theorem SlCh.wAll_mem {H : Type} {P : Program} {e : TypeId} : ∀ {ds : List (DataW H)} {d : DataW H}, d ∈ ds → ∀ n ∈ d.weights P e, n ∈ DataW.weightsAll P e ds
  | x :: ds, d, hd, n, hn => by
    unfold DataW.weightsAll
    rcases List.mem_cons.1 hd with rfl | h
    · exact List.mem_append_left _ hn
    · exact List.mem_append_right _ (SlCh.wAll_mem h n hn)
theorem SlCh.cells_uint8 : Try.prog.cellsOf 5 = 1 := by kernel_rfl
theorem SlCh.cells_uint32 : Try.prog.cellsOf 22 = 1 := by kernel_rfl
theorem SlCh.cells_uint16 : Try.prog.cellsOf 23 = 1 := by kernel_rfl
theorem SlCh.cells____2_uint16 : Try.prog.cellsOf 24 = 1 := by kernel_rfl
theorem SlCh.cells___uint32 : Try.prog.cellsOf 25 = 1 := by kernel_rfl
theorem SlCh.cells___api_Param : Try.prog.cellsOf 26 = 1 := by kernel_rfl
theorem SlCh.cells___uint8 : Try.prog.cellsOf 27 = 1 := by kernel_rfl
theorem SlCh.bytes_u8 : Try.prog.bytesOf 5 = 1 := by kernel_rfl
theorem SlCh.open_bytes {H : Type} {enc : TypeId × Value → H} {w : World} {base : Nat} {held : Bool} {fuel : Nat} {v : Value} {y : DataW H × List MemPlace}
    (h : DataW.trod enc Try.prog w base (fun _ => true) held fuel 27 [v] = some y) (hw : ∀ n ∈ y.1.weights Try.prog 27, n ≤ reachBytes) : ∃ a n c zs, v = .slice a n c ∧ Sl w a n c zs ∧ c ≤ 140737488351232 := by
  rcases open_ints Try.underlying27 Try.underlying5 (by kernel_rfl) h with ⟨hcs, _⟩ | ⟨x, l, c, zs, hcs, _, hl, hm, hz, hx, hcell, hwz⟩
  · simp at hcs
    exact ⟨none, 0, 0, [], hcs, SlK.nil _ _ _ (by omega), by omega⟩
  · simp at hcs
    have hz' : zs.length = c := by simpa using hz
    have hb : (lits (H := H) .u8 (zs.take l)).length + (lits (H := H) .u8 (zs.drop l)).length ≤ reachBytes := by
      have := hw (((lits (H := H) .u8 (zs.take l)).length + (lits (H := H) .u8 (zs.drop l)).length) * Try.prog.bytesOf 5) (by
        rw [hx]
        unfold DataW.weights
        rw [Try.underlying27]
        simp)
      rwa [SlCh.bytes_u8, Nat.mul_one] at this
    simp only [lits, List.length_map, List.length_take, List.length_drop, reachBytes] at hb
    exact ⟨_, _, _, _, hcs, SlK.of_ints (by omega) (fun z hz => by simp [Lit.wf, IntKind.min, IntKind.max, IntKind.signed, IntKind.bits] at hz; omega) hl hm hz' (by omega) hcell hwz, by omega⟩
theorem SlCh.any_cells____2_uint16 {H : Type} {enc : TypeId × Value → H} {w : World} {base : Nat} {held : Bool} {fuel : Nat} {v : Value} {y : DataW H × List MemPlace}
    (h : DataW.trod enc Try.prog w base (fun _ => true) held fuel 24 [v] = some y) (hw : ∀ n ∈ y.1.weights Try.prog 24, n ≤ reachBytes) : ∃ a n c, v = .slice a n c ∧ n ≤ 281474976710656 := by
  have hbe : Try.prog.bytesOf 124 = 4 := by kernel_rfl
  rcases Go.Deep.open_slice Try.underlying24 h with ⟨hcs, _⟩ | ⟨x, l, k, m, fn, D, Pl, hcs, hb, hl, hm, hmm, hx, hc⟩
  · simp at hcs
    exact ⟨none, 0, 0, hcs, by omega⟩
  · simp at hcs
    subst hx
    have hmc : m = k := by simpa using hmm
    have hsz : m * 4 ≤ reachBytes := by
      have := hw ((((List.range l).map D).length + ((List.range (m - l)).map fun j => D (l + j)).length) * Try.prog.bytesOf 124) (by
        unfold DataW.weights
        rw [Try.underlying24]
        simp)
      rw [hbe] at this
      simp at this
      omega
    simp only [reachBytes] at hsz
    exact ⟨_, l, k, hcs, by omega⟩
theorem SlCh.any_cells___api_Param {H : Type} {enc : TypeId × Value → H} {w : World} {base : Nat} {held : Bool} {fuel : Nat} {v : Value} {y : DataW H × List MemPlace}
    (h : DataW.trod enc Try.prog w base (fun _ => true) held fuel 26 [v] = some y) (hw : ∀ n ∈ y.1.weights Try.prog 26, n ≤ reachBytes) : ∃ a n c, v = .slice a n c ∧ n ≤ 281474976710656 := by
  have hbe : Try.prog.bytesOf 126 = 32 := by kernel_rfl
  rcases Go.Deep.open_slice Try.underlying26 h with ⟨hcs, _⟩ | ⟨x, l, k, m, fn, D, Pl, hcs, hb, hl, hm, hmm, hx, hc⟩
  · simp at hcs
    exact ⟨none, 0, 0, hcs, by omega⟩
  · simp at hcs
    subst hx
    have hmc : m = k := by simpa using hmm
    have hsz : m * 32 ≤ reachBytes := by
      have := hw ((((List.range l).map D).length + ((List.range (m - l)).map fun j => D (l + j)).length) * Try.prog.bytesOf 126) (by
        unfold DataW.weights
        rw [Try.underlying26]
        simp)
      rw [hbe] at this
      simp at this
      omega
    simp only [reachBytes] at hsz
    exact ⟨_, l, k, hcs, by omega⟩
theorem SlCh.any_cells___uint32 {H : Type} {enc : TypeId × Value → H} {w : World} {base : Nat} {held : Bool} {fuel : Nat} {v : Value} {y : DataW H × List MemPlace}
    (h : DataW.trod enc Try.prog w base (fun _ => true) held fuel 25 [v] = some y) (hw : ∀ n ∈ y.1.weights Try.prog 25, n ≤ reachBytes) : ∃ a n c, v = .slice a n c ∧ n ≤ 281474976710656 := by
  have hbe : Try.prog.bytesOf 22 = 4 := by kernel_rfl
  rcases Go.Deep.open_slice Try.underlying25 h with ⟨hcs, _⟩ | ⟨x, l, k, m, fn, D, Pl, hcs, hb, hl, hm, hmm, hx, hc⟩
  · simp at hcs
    exact ⟨none, 0, 0, hcs, by omega⟩
  · simp at hcs
    subst hx
    have hmc : m = k := by simpa using hmm
    have hsz : m * 4 ≤ reachBytes := by
      have := hw ((((List.range l).map D).length + ((List.range (m - l)).map fun j => D (l + j)).length) * Try.prog.bytesOf 22) (by
        unfold DataW.weights
        rw [Try.underlying25]
        simp)
      rw [hbe] at this
      simp at this
      omega
    simp only [reachBytes] at hsz
    exact ⟨_, l, k, hcs, by omega⟩
theorem SlCh.open_all_fields : ∃ f0 f1 f2 f3 f4 f5 f6 f7 f8 f9 f10 f11 f12 f13 : Field, Try.prog.underlying 29 = some (.struct #[f0, f1, f2, f3, f4, f5, f6, f7, f8, f9, f10, f11, f12, f13]) ∧ f0.offset = 0 ∧ f1.offset = 1 ∧ f2.offset = 2 ∧ f3.offset = 3 ∧ f4.offset = 4 ∧ f5.offset = 5 ∧ f6.offset = 6 ∧ f7.offset = 7 ∧ f8.offset = 8 ∧ f9.offset = 9 ∧ f10.offset = 10 ∧ f11.offset = 11 ∧ f12.offset = 12 ∧ f13.offset = 13 ∧ f0.type = 5 ∧ f1.type = 5 ∧ f2.type = 22 ∧ f3.type = 23 ∧ f4.type = 23 ∧ f5.type = 22 ∧ f6.type = 22 ∧ f7.type = 22 ∧ f8.type = 23 ∧ f9.type = 23 ∧ f10.type = 24 ∧ f11.type = 25 ∧ f12.type = 26 ∧ f13.type = 27 := ⟨_, _, _, _, _, _, _, _, _, _, _, _, _, _, Try.underlying29, rfl, rfl, rfl, rfl, rfl, rfl, rfl, rfl, rfl, rfl, rfl, rfl, rfl, rfl, rfl, rfl, rfl, rfl, rfl, rfl, rfl, rfl, rfl, rfl, rfl, rfl, rfl, rfl⟩
set_option linter.unusedVariables false in
set_option maxRecDepth 100000 in
theorem SlCh.open_all {H : Type} {enc : TypeId × Value → H} {w : World} {base : Nat} {held : Bool} {fuel : Nat} {cl : List Value} {y : DataW H × List MemPlace} (hl : cl.length = 14)
    (h : DataW.trod enc Try.prog w base (fun _ => true) held fuel 29 cl = some y) (hw : ∀ n ∈ y.1.weights Try.prog 29, n ≤ reachBytes) :
    ∃ (k : Nat) (f : Nat) (t : Nat) (st : Nat) (ss : Nat) (pp : Nat) (tg : Nat) (rm : Nat) (os : Nat) (is : Nat) (bA : Option Addr) (bN bC : Nat) (dA : Option Addr) (dN dC : Nat) (pA : Option Addr) (pN pC : Nat) (pD : List Pm) (xA : Option Addr) (xN xC : Nat) (xZ : List Nat), cl = [.int .u8 (k : Nat), .int .u8 (f : Nat), .int .u32 (t : Nat), .int .u16 (st : Nat), .int .u16 (ss : Nat), .int .u32 (pp : Nat), .int .u32 (tg : Nat), .int .u32 (rm : Nat), .int .u16 (os : Nat), .int .u16 (is : Nat), .slice bA bN bC, .slice dA dN dC, .slice pA pN pC, .slice xA xN xC] ∧ k < 256 ∧ f < 256 ∧ t < 4294967296 ∧ st < 65536 ∧ ss < 65536 ∧ pp < 4294967296 ∧ tg < 4294967296 ∧ rm < 4294967296 ∧ os < 65536 ∧ is < 65536 ∧ bN ≤ 281474976710656 ∧ dN ≤ 281474976710656 ∧ (SlPm w pA pN pC pD) ∧ (Sl w xA xN xC xZ ∧ xC ≤ 140737488351232) := by
  obtain ⟨f0, f1, f2, f3, f4, f5, f6, f7, f8, f9, f10, f11, f12, f13, he, o0, o1, o2, o3, o4, o5, o6, o7, o8, o9, o10, o11, o12, o13, t0, t1, t2, t3, t4, t5, t6, t7, t8, t9, t10, t11, t12, t13⟩ := SlCh.open_all_fields
  obtain ⟨xs, m, _, hx, _, hlen, hfs⟩ := DataW.trod_struct he h
  have hlen2 : xs.length = 14 := hlen
  match cl, hl, xs, hlen2 with
  | [v0, v1, v2, v3, v4, v5, v6, v7, v8, v9, v10, v11, v12, v13], _, [y0, y1, y2, y3, y4, y5, y6, y7, y8, y9, y10, y11, y12, y13], _ =>
    have hd := congrArg Prod.fst hx
    simp only [List.map_cons, List.map_nil] at hd
    have g0 := hfs 0 f0 rfl
    simp [o0, t0, SlCh.cells_uint8] at g0
    have g1 := hfs 1 f1 rfl
    simp [o1, t1, SlCh.cells_uint8] at g1
    have g2 := hfs 2 f2 rfl
    simp [o2, t2, SlCh.cells_uint32] at g2
    have g3 := hfs 3 f3 rfl
    simp [o3, t3, SlCh.cells_uint16] at g3
    have g4 := hfs 4 f4 rfl
    simp [o4, t4, SlCh.cells_uint16] at g4
    have g5 := hfs 5 f5 rfl
    simp [o5, t5, SlCh.cells_uint32] at g5
    have g6 := hfs 6 f6 rfl
    simp [o6, t6, SlCh.cells_uint32] at g6
    have g7 := hfs 7 f7 rfl
    simp [o7, t7, SlCh.cells_uint32] at g7
    have g8 := hfs 8 f8 rfl
    simp [o8, t8, SlCh.cells_uint16] at g8
    have g9 := hfs 9 f9 rfl
    simp [o9, t9, SlCh.cells_uint16] at g9
    have g10 := hfs 10 f10 rfl
    simp [o10, t10, SlCh.cells____2_uint16] at g10
    have g11 := hfs 11 f11 rfl
    simp [o11, t11, SlCh.cells___uint32] at g11
    have g12 := hfs 12 f12 rfl
    simp [o12, t12, SlCh.cells___api_Param] at g12
    have g13 := hfs 13 f13 rfl
    simp [o13, t13, SlCh.cells___uint8] at g13
    obtain ⟨kz, e0, _, w0⟩ := DataW.trod_int Try.underlying5 g0
    simp at e0
    subst e0
    obtain ⟨k, rfl⟩ : ∃ m : Nat, kz = (m : Int) := ⟨kz.toNat, by have := bounds_u8 w0; omega⟩
    have b0 : k < 256 := by have := bounds_u8 w0; omega
    obtain ⟨fz, e1, _, w1⟩ := DataW.trod_int Try.underlying5 g1
    simp at e1
    subst e1
    obtain ⟨f, rfl⟩ : ∃ m : Nat, fz = (m : Int) := ⟨fz.toNat, by have := bounds_u8 w1; omega⟩
    have b1 : f < 256 := by have := bounds_u8 w1; omega
    obtain ⟨tz, e2, _, w2⟩ := DataW.trod_int Try.underlying22 g2
    simp at e2
    subst e2
    obtain ⟨t, rfl⟩ : ∃ m : Nat, tz = (m : Int) := ⟨tz.toNat, by have := bounds_u32 w2; omega⟩
    have b2 : t < 4294967296 := by have := bounds_u32 w2; omega
    obtain ⟨stz, e3, _, w3⟩ := DataW.trod_int Try.underlying23 g3
    simp at e3
    subst e3
    obtain ⟨st, rfl⟩ : ∃ m : Nat, stz = (m : Int) := ⟨stz.toNat, by have := bounds_u16 w3; omega⟩
    have b3 : st < 65536 := by have := bounds_u16 w3; omega
    obtain ⟨ssz, e4, _, w4⟩ := DataW.trod_int Try.underlying23 g4
    simp at e4
    subst e4
    obtain ⟨ss, rfl⟩ : ∃ m : Nat, ssz = (m : Int) := ⟨ssz.toNat, by have := bounds_u16 w4; omega⟩
    have b4 : ss < 65536 := by have := bounds_u16 w4; omega
    obtain ⟨ppz, e5, _, w5⟩ := DataW.trod_int Try.underlying22 g5
    simp at e5
    subst e5
    obtain ⟨pp, rfl⟩ : ∃ m : Nat, ppz = (m : Int) := ⟨ppz.toNat, by have := bounds_u32 w5; omega⟩
    have b5 : pp < 4294967296 := by have := bounds_u32 w5; omega
    obtain ⟨tgz, e6, _, w6⟩ := DataW.trod_int Try.underlying22 g6
    simp at e6
    subst e6
    obtain ⟨tg, rfl⟩ : ∃ m : Nat, tgz = (m : Int) := ⟨tgz.toNat, by have := bounds_u32 w6; omega⟩
    have b6 : tg < 4294967296 := by have := bounds_u32 w6; omega
    obtain ⟨rmz, e7, _, w7⟩ := DataW.trod_int Try.underlying22 g7
    simp at e7
    subst e7
    obtain ⟨rm, rfl⟩ : ∃ m : Nat, rmz = (m : Int) := ⟨rmz.toNat, by have := bounds_u32 w7; omega⟩
    have b7 : rm < 4294967296 := by have := bounds_u32 w7; omega
    obtain ⟨osz, e8, _, w8⟩ := DataW.trod_int Try.underlying23 g8
    simp at e8
    subst e8
    obtain ⟨os, rfl⟩ : ∃ m : Nat, osz = (m : Int) := ⟨osz.toNat, by have := bounds_u16 w8; omega⟩
    have b8 : os < 65536 := by have := bounds_u16 w8; omega
    obtain ⟨isz, e9, _, w9⟩ := DataW.trod_int Try.underlying23 g9
    simp at e9
    subst e9
    obtain ⟨is, rfl⟩ : ∃ m : Nat, isz = (m : Int) := ⟨isz.toNat, by have := bounds_u16 w9; omega⟩
    have b9 : is < 65536 := by have := bounds_u16 w9; omega
    obtain ⟨bA, bN, bC, rfl, b10⟩ := SlCh.any_cells____2_uint16 g10 (fun q hq => hw q (by
      rw [hd]
      unfold DataW.weights
      rw [he]
      exact DataW.weights_mem_each (j := 10) (t := f10.type) (d := y10.1) rfl rfl q (by rw [t10]; exact hq)))
    obtain ⟨dA, dN, dC, rfl, b11⟩ := SlCh.any_cells___uint32 g11 (fun q hq => hw q (by
      rw [hd]
      unfold DataW.weights
      rw [he]
      exact DataW.weights_mem_each (j := 11) (t := f11.type) (d := y11.1) rfl rfl q (by rw [t11]; exact hq)))
    obtain ⟨pA, pN, pC, rfl, _⟩ := SlCh.any_cells___api_Param g12 (fun q hq => hw q (by
      rw [hd]
      unfold DataW.weights
      rw [he]
      exact DataW.weights_mem_each (j := 12) (t := f12.type) (d := y12.1) rfl rfl q (by rw [t12]; exact hq)))
    obtain ⟨pD, b12⟩ := SlPm.open g12 (fun q hq => hw q (by
      rw [hd]
      unfold DataW.weights
      rw [he]
      exact DataW.weights_mem_each (j := 12) (t := f12.type) (d := y12.1) rfl rfl q (by rw [t12]; exact hq)))
    obtain ⟨xA, xN, xC, xZ, rfl, s13, b13⟩ := SlCh.open_bytes g13 (fun q hq => hw q (by
      rw [hd]
      unfold DataW.weights
      rw [he]
      exact DataW.weights_mem_each (j := 13) (t := f13.type) (d := y13.1) rfl rfl q (by rw [t13]; exact hq)))
    exact ⟨k, f, t, st, ss, pp, tg, rm, os, is, bA, bN, bC, dA, dN, dC, pA, pN, pC, pD, xA, xN, xC, xZ, rfl, b0, b1, b2, b3, b4, b5, b6, b7, b8, b9, b10, b11, b12, ⟨s13, b13⟩⟩
theorem SlCh.cellsAll : Try.prog.cellsOf 29 = 14 := by kernel_rfl
theorem SlCh.bytesAll : Try.prog.bytesOf 29 = 128 := by kernel_rfl
set_option maxRecDepth 100000 in
/-- One, by value, as a parameter. -/
theorem SlCh.openV {H : Type} {enc : TypeId × Value → H} {w : World} {b0 base : Nat} {held : Bool} {v : Value} {d : DataW H} {p : List MemPlace}
    (hv : Value.okWide Try.prog w .any b0 29 v) (h : DataW.Trod enc Try.prog w base (fun _ => true) held 29 v d p) (hw : ∀ n ∈ d.weights Try.prog 29, n ≤ reachBytes) : ∃ x : ChD, v = .agg x.vals.toArray ∧ x.Wf w := by
  obtain ⟨f0, f1, f2, f3, f4, f5, f6, f7, f8, f9, f10, f11, f12, f13, he, _⟩ := SlCh.open_all_fields
  obtain ⟨cs, rfl, hsz⟩ := okWide_struct he hv
  rw [SlCh.cellsAll] at hsz
  obtain ⟨cl⟩ := cs
  obtain ⟨fuel, hf⟩ := h
  have hf2 : DataW.trod enc Try.prog w base (fun _ => true) held fuel 29 cl = some (d, p) := hf
  obtain ⟨k, f, t, st, ss, pp, tg, rm, os, is, bA, bN, bC, dA, dN, dC, pA, pN, pC, pD, xA, xN, xC, xZ, rfl, Hk, Hf, Ht, Hst, Hss, Hpp, Htg, Hrm, Hos, His, Hb, Hd, Hp, Hx⟩ := SlCh.open_all hsz hf2 hw
  exact ⟨⟨k, f, t, st, ss, pp, tg, rm, os, is, bA, bN, bC, dA, dN, dC, pA, pN, pC, pD, xA, xN, xC, xZ⟩, rfl, ⟨Hk, Hf, Ht, Hst, Hss, Hpp, Htg, Hrm, Hos, His, Hb, Hd, Hp, Hx⟩⟩
end Go.Proofs.Ytjaheelgcjafcab
namespace Go.Proofs.Ytjaheelgcjafcab
open Go.RowKit
set_option linter.unusedVariables false in
set_option maxRecDepth 100000 in
set_option maxHeartbeats 4000000 in
theorem walk_StreamsNone (x : ChD) (n : Int) (w : World) (hx : x.Wf w) (hn : (Lit.int .i64 n).wf = true) :
    Calls Try.prog 3 #[.agg x.vals.toArray, .int .i64 n] w fun e w' => e = .returned (.bool true) ∧ Below w.heap.size w w' := by
  obtain ⟨k, f, t, st, ss, pp, tg, rm, os, is, bA, bN, bC, dA, dN, dC, pA, pN, pC, pD, xA, xN, xC, xZ⟩ := x
  unfold ChD.vals
  dsimp only
  clear hx hn
  have HA := (show Hid _ from fun W v hv => sadd_nil (.int .u8 (k : Nat)) (.int .u8 (f : Nat)) (.int .u32 (t : Nat)) (.int .u16 (st : Nat)) (.int .u16 (ss : Nat)) (.int .u32 (pp : Nat)) (.int .u32 (tg : Nat)) (.int .u32 (rm : Nat)) (.int .u16 (os : Nat)) (.int .u16 (is : Nat)) (.slice bA bN bC) (.slice dA dN dC) (.slice pA pN pC) (.slice xA xN xC) W v hv)
  go_enter Try.func3, Try.ntmps3
  go_wp2_with fail
  refine (HA.out _ _ (by rfl)).mono ?_
  rintro e w1 ⟨rfl, hb1⟩
  have HB1 : Hid (Below w.heap.size w w1) := by
    show Below _ _ _
    first
      | exact hb1
      | exact ((Below.refl _ _).alloc (Nat.le_refl _) _).trans (hb1.mono (by simp))
  clear hb1 HA
  go_wp2_with fail
  refine (snext_nil n _).mono ?_
  rintro e w2 ⟨rfl, hb2⟩
  have HB2 : Hid (Below w.heap.size w w2) := HB1.out.trans (hb2.mono HB1.out.size)
  clear hb2 HB1
  go_wp2_with fail
  refine (sheld_nil _).mono ?_
  rintro e w3 ⟨rfl, hb3⟩
  have HB3 : Hid (Below w.heap.size w w3) := HB2.out.trans (hb3.mono HB2.out.size)
  clear hb3 HB2
  go_wp2_with fail
  refine Calls.mono (live13_any w3) ?_
  rintro e w4 ⟨rfl, hb4⟩
  have HB4 : Hid (Below w.heap.size w w4) := HB3.out.trans (hb4.mono HB3.out.size)
  clear hb4 HB3
  go_wp2_with fail
  refine (sfork_nil _).mono ?_
  rintro e w5 ⟨rfl, hb5⟩
  have HB5 : Hid (Below w.heap.size w w5) := HB4.out.trans (hb5.mono HB4.out.size)
  clear hb5 HB4
  go_wp2
  go_ret
  exact ⟨rfl, HB5.out⟩
end Go.Proofs.Ytjaheelgcjafcab
namespace Go.Proofs.Ytjaheelgcjafcab.streamsNone
open Go.ChangeShapes Go.WideShapes Go.ChangeAt Go.RowKit
open Go.ChangeMaps (open_string shut_string)
set_option linter.unusedVariables false
theorem own : ownKnob Try.prog.godebug = none := by kernel_rfl
theorem laidOut : laidOutB Try.prog = true := by kernel_rfl


set_option maxRecDepth 100000 in
theorem lifted (os : Os) (started : os.Started) (H : Type) (enc : TypeId × Value → H) :
    ReturnsInHanded {} Try.checked os 3 .any (Rows.streamsNoneSpec.pre6 enc Try.prog Try.f3 Rows.streamsNoneRow.domain false) (Rows.streamsNoneSpec.post enc Try.prog Try.f3 false true false false) := by
  refine returnsInHanded_of_change_sized (C := Try.checked) own started (by kernel_rfl) Try.func3
    (ChangeSpec.witness6 (enc := enc) (C := Try.checked) false ⟨#[], #[.agg #[.int .u8 0, .int .u8 0, .int .u32 0, .int .u16 0, .int .u16 0, .int .u32 0, .int .u32 0, .int .u32 0, .int .u16 0, .int .u16 0, .slice none 0 0, .slice none 0 0, .slice none 0 0, .slice none 0 0], .int .i64 0], []⟩ 8 (by kernel_rfl) (by kernel_rfl) (by kernel_rfl) (by kernel_rfl)) ?_
  intro W base args ds gs before hval0 hW hcnd hsz0 _
  have hval : ∀ (j : Nat) t v, Try.f3.params[j]? = some t → args[j]? = some v → Value.okWide Try.prog W .any base t v := hval0
  have hsz : (DataW.weightsEach Try.prog (Try.f3.params.toList ++ Rows.streamsNoneSpec.plain.varTypes Try.prog) (ds ++ gs)).all (· ≤ reachBytes) = true := hsz0
  clear hsz0
  have hW' := hW
  obtain ⟨p, q, hA0, hV, rfl, hfz, hnd⟩ := hW
  have hA : DataW.TrodAll enc Try.prog W 0 (fun _ => true) true Try.f3.params.toList args.toList ds p := hA0
  rw [Try.params3] at hA hval hsz
  obtain ⟨v0, vs0, d0, ds0, p0, q0, hargs, rfl, rfl, h0, r0⟩ := trodAll_cons hA
  obtain ⟨v1, vs1, d1, ds1, p1, q1, rfl, rfl, rfl, h1, r1⟩ := trodAll_cons r0
  obtain ⟨rfl, rfl, rfl⟩ := trodAll_nil r1
  obtain rfl : args = #[v0, v1] := by cases args; simp_all
  obtain ⟨rfl, rfl⟩ := trodVars_none hV
  have k0 := h0
  have lt0 : ∀ x ∈ p0, x.block < W.heap.size := by obtain ⟨m, hm⟩ := k0; exact DataW.trod_lt m _ _ _ hm
  obtain ⟨z0, rfl, w0⟩ := SlCh.openV (hval 0 29 v0 rfl rfl) h0 (fun q hq => by
    have := List.all_eq_true.1 hsz q (DataW.weights_mem_each (j := 0) (t := 29) (d := d0) rfl rfl q hq)
    simpa using this)
  obtain ⟨x1, rfl, rfl, rfl, w1⟩ := open_int Try.underlying3 (hval 1 3 v1 rfl rfl) h1
  clear hA0 hval0 hsz
  refine (walk_StreamsNone z0 x1 W w0 w1).mono fun e W' ⟨he, bel⟩ => ?_
  subst he
  exact ⟨_, rfl, _, _, _, [], _, [], hW', trodAll_mk1 (shut_bool Try.underlying4 _), (trodAll_cons_mk (Below.trod laidOut (by kernel_rfl) (of_decide_eq_true (by kernel_rfl)) k0 bel lt0) (trodAll_cons_mk (shut_int Try.underlying3 w1) trodAll_mk0)), rfl, bel.frame _, fun h => by cases h⟩
theorem over : Rows.streamsNoneRow.holds Try.pinned (OpenSpec.ofChange Rows.streamsNoneSpec) :=
  OpenClaim.holds_of_wide 3 Try.f3 rfl rfl rfl rfl rfl rfl rfl ⟨rfl, rfl, rfl, rfl, rfl⟩ rfl rfl rfl rfl rfl (by kernel_rfl) Try.func3 (by kernel_rfl)
    (of_decide_eq_true (by kernel_rfl)) (by unfold Func.isWrapper; first | (rw [if_pos (by decide +kernel)]; kernel_rfl) | (rw [if_neg (by decide +kernel)]; exact ⟨rfl, rfl⟩))
    (fun os started H enc _ => lifted os started H enc)
end Go.Proofs.Ytjaheelgcjafcab.streamsNone
namespace Go.Proofs.Ytjaheelgcjafcab
theorem StreamsNone_holds : Rows.StreamsNoneSaid := streamsNone.over
#print axioms StreamsNone_holds
end Go.Proofs.Ytjaheelgcjafcab
