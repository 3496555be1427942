/- A row of api.Param, as it lies in a world. -/
import Derived.Test.YtlgfbcfogcmdbaaDoorProg
import Derived.Test.YtlgfbcfogcmdbaaDoorBase
import Derived.Deep.Strs
import Derived.RowKit
import Derived.ChangeSlices
import Derived.SizedLaws
import Derived.ProofKit
import Derived.OpenShut
import Derived.ChangeArms
import Derived.WideShapes
namespace Go.Proofs.YtlgfbcfogcmdbaaDoor
open Go.RowKit Go.ChangeShapes Go.WideShapes Go.ChangeAt
structure PqD where
  kind : Nat
  dataA : Option Addr
  dataN : Nat
  dataC : Nat
  dataZ : List Nat
instance : Inhabited PqD := ⟨⟨0, none, 0, 0, []⟩⟩
def PqD.vals (x : PqD) : List Value := [.int .u16 (x.kind : Nat), .slice x.dataA x.dataN x.dataC]
def PqD.Wf (w : World) (x : PqD) : Prop := x.kind < 65536 ∧ (Sl w x.dataA x.dataN x.dataC x.dataZ ∧ x.dataN ≤ 140737488351232)
structure SlPq (w : World) (a : Option Addr) (n c : Nat) (dd : List PqD) : Prop where
  len : dd.length = n
  cap : n ≤ c
  less : n ≤ 4398046511104
  at_ : n = 0 ∨ ∃ b off, a = some ⟨b, off, none⟩ ∧ b < w.heap.size ∧ ∀ i x, dd[i]? = some x → ∀ j v, x.vals[j]? = some v → w.cell? ⟨b, off + i * 2 + j, none⟩ = some v
  wf : ∀ x ∈ dd, x.Wf w
theorem SlPq.small {w : World} {a : Option Addr} {n c : Nat} {dd : List PqD} (h : SlPq w a n c dd) : n ≤ 281474976710656 := Nat.le_trans h.less (by decide)
theorem SlPq.below {w w' : World} {a : Option Addr} {n c : Nat} {dd : List PqD} (h : SlPq w a n c dd) (hb : Below w.heap.size w w') : SlPq w' a n c dd := by
  refine ⟨h.len, h.cap, h.less, ?_, fun x hx => ?_⟩
  · rcases h.at_ with h0 | ⟨b, off, rfl, hlt, hc⟩
    · exact .inl h0
    · exact .inr ⟨b, off, rfl, Nat.lt_of_lt_of_le hlt hb.size, fun i x hx j v hv => (hb.cell (p := ⟨b, off + i * 2 + j, none⟩) hlt).trans (hc i x hx j v hv)⟩
  · have hh := h.wf x hx
    unfold PqD.Wf at hh ⊢
    obtain ⟨h0, h1⟩ := hh
    exact ⟨h0, ⟨h1.1.below hb, h1.2⟩⟩
theorem SlPq.wAll_mem {H : Type} {P : Program} {e : TypeId} : ∀ {ds : List (DataW H)} {d : DataW H}, d ∈ ds → ∀ n ∈ d.weights P e, n ∈ DataW.weightsAll P e ds
  | x :: ds, d, hd, n, hn => by
    unfold DataW.weightsAll
    rcases List.mem_cons.1 hd with rfl | h
    · exact List.mem_append_left _ hn
    · exact List.mem_append_right _ (SlPq.wAll_mem h n hn)
theorem SlPq.cells_uint16 : Tryd.prog.cellsOf 22 = 1 := by kernel_rfl
theorem SlPq.cells___uint8 : Tryd.prog.cellsOf 30 = 1 := by kernel_rfl
theorem SlPq.bytes_u8 : Tryd.prog.bytesOf 5 = 1 := by kernel_rfl
theorem SlPq.open_bytes {H : Type} {enc : TypeId × Value → H} {w : World} {base : Nat} {held : Bool} {fuel : Nat} {v : Value} {y : DataW H × List MemPlace}
    (h : DataW.trod enc Tryd.prog w base (fun _ => true) held fuel 30 [v] = some y) (hw : ∀ n ∈ y.1.weights Tryd.prog 30, n ≤ reachBytes) : ∃ a n c zs, v = .slice a n c ∧ Sl w a n c zs ∧ c ≤ 140737488351232 := by
  rcases open_ints Tryd.underlying30 Tryd.underlying5 (by kernel_rfl) h with ⟨hcs, _⟩ | ⟨x, l, c, zs, hcs, _, hl, hm, hz, hx, hcell, hwz⟩
  · simp at hcs
    exact ⟨none, 0, 0, [], hcs, SlK.nil _ _ _ (by omega), by omega⟩
  · simp at hcs
    have hz' : zs.length = c := by simpa using hz
    have hb : (lits (H := H) .u8 (zs.take l)).length + (lits (H := H) .u8 (zs.drop l)).length ≤ reachBytes := by
      have := hw (((lits (H := H) .u8 (zs.take l)).length + (lits (H := H) .u8 (zs.drop l)).length) * Tryd.prog.bytesOf 5) (by
        rw [hx]
        unfold DataW.weights
        rw [Tryd.underlying30]
        simp)
      rwa [SlPq.bytes_u8, Nat.mul_one] at this
    simp only [lits, List.length_map, List.length_take, List.length_drop, reachBytes] at hb
    exact ⟨_, _, _, _, hcs, SlK.of_ints (by omega) (fun z hz => by simp [Lit.wf, IntKind.min, IntKind.max, IntKind.signed, IntKind.bits] at hz; omega) hl hm hz' (by omega) hcell hwz, by omega⟩
theorem SlPq.open_all_fields : ∃ f0 f1 : Field, Tryd.prog.underlying 34 = some (.struct #[f0, f1]) ∧ f0.offset = 0 ∧ f1.offset = 1 ∧ f0.type = 22 ∧ f1.type = 30 := ⟨_, _, Tryd.underlying34, rfl, rfl, rfl, rfl⟩
set_option linter.unusedVariables false in
set_option maxRecDepth 100000 in
theorem SlPq.open_all {H : Type} {enc : TypeId × Value → H} {w : World} {base : Nat} {held : Bool} {fuel : Nat} {cl : List Value} {y : DataW H × List MemPlace} (hl : cl.length = 2)
    (h : DataW.trod enc Tryd.prog w base (fun _ => true) held fuel 34 cl = some y) (hw : ∀ n ∈ y.1.weights Tryd.prog 34, n ≤ reachBytes) :
    ∃ (kind : Nat) (dataA : Option Addr) (dataN dataC : Nat) (dataZ : List Nat), cl = [.int .u16 (kind : Nat), .slice dataA dataN dataC] ∧ kind < 65536 ∧ (Sl w dataA dataN dataC dataZ ∧ dataC ≤ 140737488351232) := by
  obtain ⟨f0, f1, he, o0, o1, t0, t1⟩ := SlPq.open_all_fields
  obtain ⟨xs, m, _, hx, _, hlen, hfs⟩ := DataW.trod_struct he h
  have hlen2 : xs.length = 2 := hlen
  match cl, hl, xs, hlen2 with
  | [v0, v1], _, [y0, y1], _ =>
    have hd := congrArg Prod.fst hx
    simp only [List.map_cons, List.map_nil] at hd
    have g0 := hfs 0 f0 rfl
    simp [o0, t0, SlPq.cells_uint16] at g0
    have g1 := hfs 1 f1 rfl
    simp [o1, t1, SlPq.cells___uint8] at g1
    obtain ⟨kindz, e0, _, w0⟩ := DataW.trod_int Tryd.underlying22 g0
    simp at e0
    subst e0
    obtain ⟨kind, rfl⟩ : ∃ m : Nat, kindz = (m : Int) := ⟨kindz.toNat, by have := bounds_u16 w0; omega⟩
    have b0 : kind < 65536 := by have := bounds_u16 w0; omega
    obtain ⟨dataA, dataN, dataC, dataZ, rfl, s1, b1⟩ := SlPq.open_bytes g1 (fun q hq => hw q (by
      rw [hd]
      unfold DataW.weights
      rw [he]
      exact DataW.weights_mem_each (j := 1) (t := f1.type) (d := y1.1) rfl rfl q (by rw [t1]; exact hq)))
    exact ⟨kind, dataA, dataN, dataC, dataZ, rfl, b0, ⟨s1, b1⟩⟩
theorem SlPq.cellsAll : Tryd.prog.cellsOf 34 = 2 := by kernel_rfl
theorem SlPq.bytesAll : Tryd.prog.bytesOf 34 = 32 := by kernel_rfl
theorem SlPq.open {H : Type} {enc : TypeId × Value → H} {w : World} {base : Nat} {held : Bool} {fuel : Nat} {a : Option Addr} {n c : Nat} {y : DataW H × List MemPlace}
    (h : DataW.trod enc Tryd.prog w base (fun _ => true) held fuel 29 [.slice a n c] = some y) (hw : ∀ n ∈ y.1.weights Tryd.prog 29, n ≤ reachBytes) : ∃ dd, SlPq w a n c dd := by
  rcases Go.Deep.open_slice Tryd.underlying29 h with ⟨hcs, _⟩ | ⟨x, l, k, m, fn, D, Pl, hcs, hb, hl, hm, hmm, hx, hc⟩
  · simp at hcs
    obtain ⟨rfl, rfl, rfl⟩ := hcs
    exact ⟨[], rfl, Nat.le_refl _, by omega, .inl rfl, fun x hx => (by cases hx)⟩
  · simp at hcs
    obtain ⟨rfl, rfl, rfl⟩ := hcs
    have hmc : m = c := by simpa using hmm
    subst hmc
    subst hx
    have hsz : m * 32 ≤ reachBytes := by
      have := hw ((((List.range n).map D).length + ((List.range (m - n)).map fun j => D (n + j)).length) * Tryd.prog.bytesOf 34) (by
        unfold DataW.weights
        rw [Tryd.underlying29]
        simp)
      rw [SlPq.bytesAll] at this
      simp at this
      omega
    simp only [reachBytes] at hsz
    rw [SlPq.cellsAll] at hc
    have hwi : ∀ i, i < n → ∀ q ∈ (D i).weights Tryd.prog 34, q ≤ reachBytes := by
      intro i hi q hq
      refine hw q ?_
      unfold DataW.weights
      rw [Tryd.underlying29]
      simp only [List.mem_cons, List.mem_append]
      exact .inr (.inl (SlPq.wAll_mem (List.mem_map.2 ⟨i, List.mem_range.2 hi, rfl⟩) q hq))
    have each : ∀ i, i < n → ∃ q : PqD, (∀ j v, q.vals[j]? = some v → w.cell? (x.add (i * 2 + j)) = some v) ∧ q.Wf w := by
      intro i hi
      obtain ⟨cs', h1, h2⟩ := hc i (by omega)
      obtain ⟨_, hlen, hcell⟩ := World.cells?_some h1
      obtain ⟨kind, dataA, dataN, dataC, dataZ, rfl, Hkind, Hdata⟩ := SlPq.open_all hlen h2 (hwi i hi)
      refine ⟨⟨kind, dataA, dataN, dataC, dataZ⟩, fun j v hv => ?_, ⟨Hkind, ⟨Hdata.1, Nat.le_trans Hdata.1.cap Hdata.2⟩⟩⟩
      have hj : j < 2 := (List.getElem?_eq_some_iff.1 hv).1
      have e := hcell j hj
      rw [Go.Deep.add_add] at e
      rw [e]
      exact hv
    obtain ⟨q, hq⟩ := Go.Deep.choose_lt each
    have hget : ∀ i z, ((List.range n).map q)[i]? = some z → i < n ∧ z = q i := fun i z hz => by
      have hi := (List.getElem?_eq_some_iff.1 hz).1
      simp at hi
      rw [List.getElem?_map, List.getElem?_range hi] at hz
      simp at hz
      exact ⟨hi, hz.symm⟩
    refine ⟨(List.range n).map q, by simp, hl, by omega, ?_, fun z hz => ?_⟩
    · by_cases h0 : n = 0
      · exact .inl h0
      · obtain ⟨b, off, spot⟩ := x
        have hc0 := (hq 0 (by omega)).1 0 _ rfl
        have hspot : spot = none := by simpa [Addr.add] using World.cell?_spot hc0
        subst hspot
        have hlt : b < w.heap.size := by
          have := hc0
          simp only [Addr.add, World.cell?] at this
          rcases Nat.lt_or_ge b w.heap.size with h9 | h9
          · exact h9
          · simp [h9] at this
        refine .inr ⟨b, off, rfl, hlt, fun i z hz j v hv => ?_⟩
        obtain ⟨hi, rfl⟩ := hget i z hz
        have h1 := (hq i hi).1 j v hv
        have ea : ∀ j, (⟨b, off, none⟩ : Addr).add j = ⟨b, off + j, none⟩ := by
          intro j
          unfold Addr.add
          split
          · subst_vars; rfl
          · rfl
        rw [ea] at h1
        rw [Nat.add_assoc]
        exact h1
    · obtain ⟨i, hi⟩ := List.getElem?_of_mem hz
      obtain ⟨hin, rfl⟩ := hget i z hi
      exact (hq i hin).2
set_option maxRecDepth 100000 in
/-- One, by value, as a parameter. -/
theorem SlPq.openV {H : Type} {enc : TypeId × Value → H} {w : World} {b0 base : Nat} {held : Bool} {v : Value} {d : DataW H} {p : List MemPlace}
    (hv : Value.okWide Tryd.prog w .any b0 34 v) (h : DataW.Trod enc Tryd.prog w base (fun _ => true) held 34 v d p) (hw : ∀ n ∈ d.weights Tryd.prog 34, n ≤ reachBytes) : ∃ x : PqD, v = .agg x.vals.toArray ∧ x.Wf w := by
  obtain ⟨f0, f1, he, _⟩ := SlPq.open_all_fields
  obtain ⟨cs, rfl, hsz⟩ := okWide_struct he hv
  rw [SlPq.cellsAll] at hsz
  obtain ⟨cl⟩ := cs
  obtain ⟨fuel, hf⟩ := h
  have hf2 : DataW.trod enc Tryd.prog w base (fun _ => true) held fuel 34 cl = some (d, p) := hf
  obtain ⟨kind, dataA, dataN, dataC, dataZ, rfl, Hkind, Hdata⟩ := SlPq.open_all hsz hf2 hw
  exact ⟨⟨kind, dataA, dataN, dataC, dataZ⟩, rfl, ⟨Hkind, ⟨Hdata.1, Nat.le_trans Hdata.1.cap Hdata.2⟩⟩⟩
end Go.Proofs.YtlgfbcfogcmdbaaDoor
