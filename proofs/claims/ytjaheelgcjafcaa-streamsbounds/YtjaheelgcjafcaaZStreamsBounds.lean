/-
  Whatever the input, trunklinelaw13.StreamsBounds answers true and leaves what it was handed as it was.
  (The statement is Rows.StreamsBoundsSaid; no condition of our own.)
-/
import Derived.Test.YtjaheelgcjafcaaProg
import Derived.Test.YtjaheelgcjafcaaBase
import Derived.Deep.Strs
import Derived.RowKit
import Derived.ChangeSlices
import Derived.SizedLaws
import Derived.ProofKit
import Derived.OpenShut
import Derived.Test.YtjaheelgcjafcaaCks
import Derived.Test.YtjaheelgcjafcaaStL
import Derived.Test.YtjaheelgcjafcaaRows
import Derived.ShutString
import Derived.ChangeOld
namespace Go.Proofs.Ytjaheelgcjafcaa
open Go.RowKit Go.ChangeShapes Go.WideShapes Go.ChangeAt
structure Pm where
  kind : Nat
  dataA : Option Addr
  dataN : Nat
  dataC : Nat
  dataZ : List Nat
instance : Inhabited Pm := ⟨⟨0, none, 0, 0, []⟩⟩
def Pm.vals (x : Pm) : List Value := [.int .u16 (x.kind : Nat), .slice x.dataA x.dataN x.dataC]
def Pm.Wf (w : World) (x : Pm) : Prop := x.kind < 65536 ∧ (Sl w x.dataA x.dataN x.dataC x.dataZ ∧ x.dataC ≤ 140737488351232)
structure SlPm (w : World) (a : Option Addr) (n c : Nat) (dd : List Pm) : Prop where
  len : dd.length = n
  cap : n ≤ c
  small : n ≤ 281474976710656
  at_ : n = 0 ∨ ∃ b off, a = some ⟨b, off, none⟩ ∧ b < w.heap.size ∧ ∀ i x, dd[i]? = some x → ∀ j v, x.vals[j]? = some v → w.cell? ⟨b, off + i * 2 + j, none⟩ = some v
  wf : ∀ x ∈ dd, x.Wf w
theorem SlPm.below {w w' : World} {a : Option Addr} {n c : Nat} {dd : List Pm} (h : SlPm w a n c dd) (hb : Below w.heap.size w w') : SlPm w' a n c dd := by
  refine ⟨h.len, h.cap, h.small, ?_, fun x hx => ?_⟩
  · rcases h.at_ with h0 | ⟨b, off, rfl, hlt, hc⟩
    · exact .inl h0
    · exact .inr ⟨b, off, rfl, Nat.lt_of_lt_of_le hlt hb.size, fun i x hx j v hv => (hb.cell (p := ⟨b, off + i * 2 + j, none⟩) hlt).trans (hc i x hx j v hv)⟩
  · have hh := h.wf x hx
    unfold Pm.Wf at hh ⊢
    obtain ⟨h0, h1⟩ := hh
    exact ⟨h0, ⟨h1.1.below hb, h1.2⟩⟩
theorem SlPm.wAll_mem {H : Type} {P : Program} {e : TypeId} : ∀ {ds : List (DataW H)} {d : DataW H}, d ∈ ds → ∀ n ∈ d.weights P e, n ∈ DataW.weightsAll P e ds
  | x :: ds, d, hd, n, hn => by
    unfold DataW.weightsAll
    rcases List.mem_cons.1 hd with rfl | h
    · exact List.mem_append_left _ hn
    · exact List.mem_append_right _ (SlPm.wAll_mem h n hn)
theorem SlPm.cells_uint16 : Try.prog.cellsOf 42 = 1 := by kernel_rfl
theorem SlPm.cells___uint8 : Try.prog.cellsOf 31 = 1 := by kernel_rfl
theorem SlPm.bytes_u8 : Try.prog.bytesOf 5 = 1 := by kernel_rfl
theorem SlPm.open_bytes {H : Type} {enc : TypeId × Value → H} {w : World} {base : Nat} {held : Bool} {fuel : Nat} {v : Value} {y : DataW H × List MemPlace}
    (h : DataW.trod enc Try.prog w base (fun _ => true) held fuel 31 [v] = some y) (hw : ∀ n ∈ y.1.weights Try.prog 31, n ≤ reachBytes) : ∃ a n c zs, v = .slice a n c ∧ Sl w a n c zs ∧ c ≤ 140737488351232 := by
  rcases open_ints Try.underlying31 Try.underlying5 (by kernel_rfl) h with ⟨hcs, _⟩ | ⟨x, l, c, zs, hcs, _, hl, hm, hz, hx, hcell, hwz⟩
  · simp at hcs
    exact ⟨none, 0, 0, [], hcs, SlK.nil _ _ _ (by omega), by omega⟩
  · simp at hcs
    have hz' : zs.length = c := by simpa using hz
    have hb : (lits (H := H) .u8 (zs.take l)).length + (lits (H := H) .u8 (zs.drop l)).length ≤ reachBytes := by
      have := hw (((lits (H := H) .u8 (zs.take l)).length + (lits (H := H) .u8 (zs.drop l)).length) * Try.prog.bytesOf 5) (by
        rw [hx]
        unfold DataW.weights
        rw [Try.underlying31]
        simp)
      rwa [SlPm.bytes_u8, Nat.mul_one] at this
    simp only [lits, List.length_map, List.length_take, List.length_drop, reachBytes] at hb
    exact ⟨_, _, _, _, hcs, SlK.of_ints (by omega) (fun z hz => by simp [Lit.wf, IntKind.min, IntKind.max, IntKind.signed, IntKind.bits] at hz; omega) hl hm hz' (by omega) hcell hwz, by omega⟩
theorem SlPm.open_all_fields : ∃ f0 f1 : Field, Try.prog.underlying 129 = some (.struct #[f0, f1]) ∧ f0.offset = 0 ∧ f1.offset = 1 ∧ f0.type = 42 ∧ f1.type = 31 := ⟨_, _, Try.underlying129, rfl, rfl, rfl, rfl⟩
set_option linter.unusedVariables false in
set_option maxRecDepth 100000 in
theorem SlPm.open_all {H : Type} {enc : TypeId × Value → H} {w : World} {base : Nat} {held : Bool} {fuel : Nat} {cl : List Value} {y : DataW H × List MemPlace} (hl : cl.length = 2)
    (h : DataW.trod enc Try.prog w base (fun _ => true) held fuel 129 cl = some y) (hw : ∀ n ∈ y.1.weights Try.prog 129, n ≤ reachBytes) :
    ∃ (kind : Nat) (dataA : Option Addr) (dataN dataC : Nat) (dataZ : List Nat), cl = [.int .u16 (kind : Nat), .slice dataA dataN dataC] ∧ kind < 65536 ∧ (Sl w dataA dataN dataC dataZ ∧ dataC ≤ 140737488351232) := by
  obtain ⟨f0, f1, he, o0, o1, t0, t1⟩ := SlPm.open_all_fields
  obtain ⟨xs, m, _, hx, _, hlen, hfs⟩ := DataW.trod_struct he h
  have hlen2 : xs.length = 2 := hlen
  match cl, hl, xs, hlen2 with
  | [v0, v1], _, [y0, y1], _ =>
    have hd := congrArg Prod.fst hx
    simp only [List.map_cons, List.map_nil] at hd
    have g0 := hfs 0 f0 rfl
    simp [o0, t0, SlPm.cells_uint16] at g0
    have g1 := hfs 1 f1 rfl
    simp [o1, t1, SlPm.cells___uint8] at g1
    obtain ⟨kindz, e0, _, w0⟩ := DataW.trod_int Try.underlying42 g0
    simp at e0
    subst e0
    obtain ⟨kind, rfl⟩ : ∃ m : Nat, kindz = (m : Int) := ⟨kindz.toNat, by have := bounds_u16 w0; omega⟩
    have b0 : kind < 65536 := by have := bounds_u16 w0; omega
    obtain ⟨dataA, dataN, dataC, dataZ, rfl, s1, b1⟩ := SlPm.open_bytes g1 (fun q hq => hw q (by
      rw [hd]
      unfold DataW.weights
      rw [he]
      exact DataW.weights_mem_each (j := 1) (t := f1.type) (d := y1.1) rfl rfl q (by rw [t1]; exact hq)))
    exact ⟨kind, dataA, dataN, dataC, dataZ, rfl, b0, ⟨s1, b1⟩⟩
theorem SlPm.cellsAll : Try.prog.cellsOf 129 = 2 := by kernel_rfl
theorem SlPm.bytesAll : Try.prog.bytesOf 129 = 32 := by kernel_rfl
theorem SlPm.open {H : Type} {enc : TypeId × Value → H} {w : World} {base : Nat} {held : Bool} {fuel : Nat} {a : Option Addr} {n c : Nat} {y : DataW H × List MemPlace}
    (h : DataW.trod enc Try.prog w base (fun _ => true) held fuel 45 [.slice a n c] = some y) (hw : ∀ n ∈ y.1.weights Try.prog 45, n ≤ reachBytes) : ∃ dd, SlPm w a n c dd := by
  rcases Go.Deep.open_slice Try.underlying45 h with ⟨hcs, _⟩ | ⟨x, l, k, m, fn, D, Pl, hcs, hb, hl, hm, hmm, hx, hc⟩
  · simp at hcs
    obtain ⟨rfl, rfl, rfl⟩ := hcs
    exact ⟨[], rfl, Nat.le_refl _, by omega, .inl rfl, fun x hx => (by cases hx)⟩
  · simp at hcs
    obtain ⟨rfl, rfl, rfl⟩ := hcs
    have hmc : m = c := by simpa using hmm
    subst hmc
    subst hx
    have hsz : m * 32 ≤ reachBytes := by
      have := hw ((((List.range n).map D).length + ((List.range (m - n)).map fun j => D (n + j)).length) * Try.prog.bytesOf 129) (by
        unfold DataW.weights
        rw [Try.underlying45]
        simp)
      rw [SlPm.bytesAll] at this
      simp at this
      omega
    simp only [reachBytes] at hsz
    rw [SlPm.cellsAll] at hc
    have hwi : ∀ i, i < n → ∀ q ∈ (D i).weights Try.prog 129, q ≤ reachBytes := by
      intro i hi q hq
      refine hw q ?_
      unfold DataW.weights
      rw [Try.underlying45]
      simp only [List.mem_cons, List.mem_append]
      exact .inr (.inl (SlPm.wAll_mem (List.mem_map.2 ⟨i, List.mem_range.2 hi, rfl⟩) q hq))
    have each : ∀ i, i < n → ∃ q : Pm, (∀ j v, q.vals[j]? = some v → w.cell? (x.add (i * 2 + j)) = some v) ∧ q.Wf w := by
      intro i hi
      obtain ⟨cs', h1, h2⟩ := hc i (by omega)
      obtain ⟨_, hlen, hcell⟩ := World.cells?_some h1
      obtain ⟨kind, dataA, dataN, dataC, dataZ, rfl, Hkind, Hdata⟩ := SlPm.open_all hlen h2 (hwi i hi)
      refine ⟨⟨kind, dataA, dataN, dataC, dataZ⟩, fun j v hv => ?_, ⟨Hkind, Hdata⟩⟩
      have hj : j < 2 := (List.getElem?_eq_some_iff.1 hv).1
      have e := hcell j hj
      rw [Go.Deep.add_add] at e
      rw [e]
      exact hv
    obtain ⟨q, hq⟩ := Go.Deep.choose_lt each
    have hget : ∀ i z, ((List.range n).map q)[i]? = some z → i < n ∧ z = q i := fun i z hz => by
      have hi := (List.getElem?_eq_some_iff.1 hz).1
      simp at hi
      rw [List.getElem?_map, List.getElem?_range hi] at hz
      simp at hz
      exact ⟨hi, hz.symm⟩
    refine ⟨(List.range n).map q, by simp, hl, by omega, ?_, fun z hz => ?_⟩
    · by_cases h0 : n = 0
      · exact .inl h0
      · obtain ⟨b, off, spot⟩ := x
        have hc0 := (hq 0 (by omega)).1 0 _ rfl
        have hspot : spot = none := by simpa [Addr.add] using World.cell?_spot hc0
        subst hspot
        have hlt : b < w.heap.size := by
          have := hc0
          simp only [Addr.add, World.cell?] at this
          rcases Nat.lt_or_ge b w.heap.size with h9 | h9
          · exact h9
          · simp [h9] at this
        refine .inr ⟨b, off, rfl, hlt, fun i z hz j v hv => ?_⟩
        obtain ⟨hi, rfl⟩ := hget i z hz
        have h1 := (hq i hi).1 j v hv
        have ea : ∀ j, (⟨b, off, none⟩ : Addr).add j = ⟨b, off + j, none⟩ := by
          intro j
          unfold Addr.add
          split
          · subst_vars; rfl
          · rfl
        rw [ea] at h1
        rw [Nat.add_assoc]
        exact h1
    · obtain ⟨i, hi⟩ := List.getElem?_of_mem hz
      obtain ⟨hin, rfl⟩ := hget i z hi
      exact (hq i hin).2
end Go.Proofs.Ytjaheelgcjafcaa
namespace Go.Proofs.Ytjaheelgcjafcaa
open Go.RowKit Go.ChangeShapes Go.WideShapes Go.ChangeAt
structure ChD where
  k : Nat
  f : Nat
  t : Nat
  st : Nat
  ss : Nat
  pp : Nat
  tg : Nat
  rm : Nat
  os : Nat
  is : Nat
  bA : Option Addr
  bN : Nat
  bC : Nat
  dA : Option Addr
  dN : Nat
  dC : Nat
  pA : Option Addr
  pN : Nat
  pC : Nat
  pD : List Pm
  xA : Option Addr
  xN : Nat
  xC : Nat
  xZ : List Nat
instance : Inhabited ChD := ⟨⟨0, 0, 0, 0, 0, 0, 0, 0, 0, 0, none, 0, 0, none, 0, 0, none, 0, 0, [], none, 0, 0, []⟩⟩
def ChD.vals (x : ChD) : List Value := [.int .u8 (x.k : Nat), .int .u8 (x.f : Nat), .int .u32 (x.t : Nat), .int .u16 (x.st : Nat), .int .u16 (x.ss : Nat), .int .u32 (x.pp : Nat), .int .u32 (x.tg : Nat), .int .u32 (x.rm : Nat), .int .u16 (x.os : Nat), .int .u16 (x.is : Nat), .slice x.bA x.bN x.bC, .slice x.dA x.dN x.dC, .slice x.pA x.pN x.pC, .slice x.xA x.xN x.xC]
def ChD.Wf (w : World) (x : ChD) : Prop := x.k < 256 ∧ x.f < 256 ∧ x.t < 4294967296 ∧ x.st < 65536 ∧ x.ss < 65536 ∧ x.pp < 4294967296 ∧ x.tg < 4294967296 ∧ x.rm < 4294967296 ∧ x.os < 65536 ∧ x.is < 65536 ∧ x.bN ≤ 281474976710656 ∧ x.dN ≤ 281474976710656 ∧ (SlPm w x.pA x.pN x.pC x.pD) ∧ (Sl w x.xA x.xN x.xC x.xZ ∧ x.xC ≤ 140737488351232)
structure SlCh (w : World) (a : Option Addr) (n c : Nat) (dd : List ChD) : Prop where
  len : dd.length = n
  cap : n ≤ c
  small : n ≤ 281474976710656
  at_ : n = 0 ∨ ∃ b off, a = some ⟨b, off, none⟩ ∧ b < w.heap.size ∧ ∀ i x, dd[i]? = some x → ∀ j v, x.vals[j]? = some v → w.cell? ⟨b, off + i * 14 + j, none⟩ = some v
  wf : ∀ x ∈ dd, x.Wf w
theorem SlCh.below {w w' : World} {a : Option Addr} {n c : Nat} {dd : List ChD} (h : SlCh w a n c dd) (hb : Below w.heap.size w w') : SlCh w' a n c dd := by
  refine ⟨h.len, h.cap, h.small, ?_, fun x hx => ?_⟩
  · rcases h.at_ with h0 | ⟨b, off, rfl, hlt, hc⟩
    · exact .inl h0
    · exact .inr ⟨b, off, rfl, Nat.lt_of_lt_of_le hlt hb.size, fun i x hx j v hv => (hb.cell (p := ⟨b, off + i * 14 + j, none⟩) hlt).trans (hc i x hx j v hv)⟩
  · have hh := h.wf x hx
    unfold ChD.Wf at hh ⊢
    obtain ⟨h0, h1, h2, h3, h4, h5, h6, h7, h8, h9, h10, h11, h12, h13⟩ := hh
    exact ⟨h0, h1, h2, h3, h4, h5, h6, h7, h8, h9, h10, h11, h12.below hb, ⟨h13.1.below hb, h13.2⟩⟩
theorem SlCh.wAll_mem {H : Type} {P : Program} {e : TypeId} : ∀ {ds : List (DataW H)} {d : DataW H}, d ∈ ds → ∀ n ∈ d.weights P e, n ∈ DataW.weightsAll P e ds
  | x :: ds, d, hd, n, hn => by
    unfold DataW.weightsAll
    rcases List.mem_cons.1 hd with rfl | h
    · exact List.mem_append_left _ hn
    · exact List.mem_append_right _ (SlCh.wAll_mem h n hn)
theorem SlCh.cells_uint8 : Try.prog.cellsOf 5 = 1 := by kernel_rfl
theorem SlCh.cells_uint32 : Try.prog.cellsOf 30 = 1 := by kernel_rfl
theorem SlCh.cells_uint16 : Try.prog.cellsOf 42 = 1 := by kernel_rfl
theorem SlCh.cells____2_uint16 : Try.prog.cellsOf 43 = 1 := by kernel_rfl
theorem SlCh.cells___uint32 : Try.prog.cellsOf 44 = 1 := by kernel_rfl
theorem SlCh.cells___api_Param : Try.prog.cellsOf 45 = 1 := by kernel_rfl
theorem SlCh.cells___uint8 : Try.prog.cellsOf 31 = 1 := by kernel_rfl
theorem SlCh.bytes_u8 : Try.prog.bytesOf 5 = 1 := by kernel_rfl
theorem SlCh.open_bytes {H : Type} {enc : TypeId × Value → H} {w : World} {base : Nat} {held : Bool} {fuel : Nat} {v : Value} {y : DataW H × List MemPlace}
    (h : DataW.trod enc Try.prog w base (fun _ => true) held fuel 31 [v] = some y) (hw : ∀ n ∈ y.1.weights Try.prog 31, n ≤ reachBytes) : ∃ a n c zs, v = .slice a n c ∧ Sl w a n c zs ∧ c ≤ 140737488351232 := by
  rcases open_ints Try.underlying31 Try.underlying5 (by kernel_rfl) h with ⟨hcs, _⟩ | ⟨x, l, c, zs, hcs, _, hl, hm, hz, hx, hcell, hwz⟩
  · simp at hcs
    exact ⟨none, 0, 0, [], hcs, SlK.nil _ _ _ (by omega), by omega⟩
  · simp at hcs
    have hz' : zs.length = c := by simpa using hz
    have hb : (lits (H := H) .u8 (zs.take l)).length + (lits (H := H) .u8 (zs.drop l)).length ≤ reachBytes := by
      have := hw (((lits (H := H) .u8 (zs.take l)).length + (lits (H := H) .u8 (zs.drop l)).length) * Try.prog.bytesOf 5) (by
        rw [hx]
        unfold DataW.weights
        rw [Try.underlying31]
        simp)
      rwa [SlCh.bytes_u8, Nat.mul_one] at this
    simp only [lits, List.length_map, List.length_take, List.length_drop, reachBytes] at hb
    exact ⟨_, _, _, _, hcs, SlK.of_ints (by omega) (fun z hz => by simp [Lit.wf, IntKind.min, IntKind.max, IntKind.signed, IntKind.bits] at hz; omega) hl hm hz' (by omega) hcell hwz, by omega⟩
theorem SlCh.any_cells____2_uint16 {H : Type} {enc : TypeId × Value → H} {w : World} {base : Nat} {held : Bool} {fuel : Nat} {v : Value} {y : DataW H × List MemPlace}
    (h : DataW.trod enc Try.prog w base (fun _ => true) held fuel 43 [v] = some y) (hw : ∀ n ∈ y.1.weights Try.prog 43, n ≤ reachBytes) : ∃ a n c, v = .slice a n c ∧ n ≤ 281474976710656 := by
  have hbe : Try.prog.bytesOf 154 = 4 := by kernel_rfl
  rcases Go.Deep.open_slice Try.underlying43 h with ⟨hcs, _⟩ | ⟨x, l, k, m, fn, D, Pl, hcs, hb, hl, hm, hmm, hx, hc⟩
  · simp at hcs
    exact ⟨none, 0, 0, hcs, by omega⟩
  · simp at hcs
    subst hx
    have hmc : m = k := by simpa using hmm
    have hsz : m * 4 ≤ reachBytes := by
      have := hw ((((List.range l).map D).length + ((List.range (m - l)).map fun j => D (l + j)).length) * Try.prog.bytesOf 154) (by
        unfold DataW.weights
        rw [Try.underlying43]
        simp)
      rw [hbe] at this
      simp at this
      omega
    simp only [reachBytes] at hsz
    exact ⟨_, l, k, hcs, by omega⟩
theorem SlCh.any_cells___api_Param {H : Type} {enc : TypeId × Value → H} {w : World} {base : Nat} {held : Bool} {fuel : Nat} {v : Value} {y : DataW H × List MemPlace}
    (h : DataW.trod enc Try.prog w base (fun _ => true) held fuel 45 [v] = some y) (hw : ∀ n ∈ y.1.weights Try.prog 45, n ≤ reachBytes) : ∃ a n c, v = .slice a n c ∧ n ≤ 281474976710656 := by
  have hbe : Try.prog.bytesOf 129 = 32 := by kernel_rfl
  rcases Go.Deep.open_slice Try.underlying45 h with ⟨hcs, _⟩ | ⟨x, l, k, m, fn, D, Pl, hcs, hb, hl, hm, hmm, hx, hc⟩
  · simp at hcs
    exact ⟨none, 0, 0, hcs, by omega⟩
  · simp at hcs
    subst hx
    have hmc : m = k := by simpa using hmm
    have hsz : m * 32 ≤ reachBytes := by
      have := hw ((((List.range l).map D).length + ((List.range (m - l)).map fun j => D (l + j)).length) * Try.prog.bytesOf 129) (by
        unfold DataW.weights
        rw [Try.underlying45]
        simp)
      rw [hbe] at this
      simp at this
      omega
    simp only [reachBytes] at hsz
    exact ⟨_, l, k, hcs, by omega⟩
theorem SlCh.any_cells___uint32 {H : Type} {enc : TypeId × Value → H} {w : World} {base : Nat} {held : Bool} {fuel : Nat} {v : Value} {y : DataW H × List MemPlace}
    (h : DataW.trod enc Try.prog w base (fun _ => true) held fuel 44 [v] = some y) (hw : ∀ n ∈ y.1.weights Try.prog 44, n ≤ reachBytes) : ∃ a n c, v = .slice a n c ∧ n ≤ 281474976710656 := by
  have hbe : Try.prog.bytesOf 30 = 4 := by kernel_rfl
  rcases Go.Deep.open_slice Try.underlying44 h with ⟨hcs, _⟩ | ⟨x, l, k, m, fn, D, Pl, hcs, hb, hl, hm, hmm, hx, hc⟩
  · simp at hcs
    exact ⟨none, 0, 0, hcs, by omega⟩
  · simp at hcs
    subst hx
    have hmc : m = k := by simpa using hmm
    have hsz : m * 4 ≤ reachBytes := by
      have := hw ((((List.range l).map D).length + ((List.range (m - l)).map fun j => D (l + j)).length) * Try.prog.bytesOf 30) (by
        unfold DataW.weights
        rw [Try.underlying44]
        simp)
      rw [hbe] at this
      simp at this
      omega
    simp only [reachBytes] at hsz
    exact ⟨_, l, k, hcs, by omega⟩
theorem SlCh.open_all_fields : ∃ f0 f1 f2 f3 f4 f5 f6 f7 f8 f9 f10 f11 f12 f13 : Field, Try.prog.underlying 47 = some (.struct #[f0, f1, f2, f3, f4, f5, f6, f7, f8, f9, f10, f11, f12, f13]) ∧ f0.offset = 0 ∧ f1.offset = 1 ∧ f2.offset = 2 ∧ f3.offset = 3 ∧ f4.offset = 4 ∧ f5.offset = 5 ∧ f6.offset = 6 ∧ f7.offset = 7 ∧ f8.offset = 8 ∧ f9.offset = 9 ∧ f10.offset = 10 ∧ f11.offset = 11 ∧ f12.offset = 12 ∧ f13.offset = 13 ∧ f0.type = 5 ∧ f1.type = 5 ∧ f2.type = 30 ∧ f3.type = 42 ∧ f4.type = 42 ∧ f5.type = 30 ∧ f6.type = 30 ∧ f7.type = 30 ∧ f8.type = 42 ∧ f9.type = 42 ∧ f10.type = 43 ∧ f11.type = 44 ∧ f12.type = 45 ∧ f13.type = 31 := ⟨_, _, _, _, _, _, _, _, _, _, _, _, _, _, Try.underlying47, rfl, rfl, rfl, rfl, rfl, rfl, rfl, rfl, rfl, rfl, rfl, rfl, rfl, rfl, rfl, rfl, rfl, rfl, rfl, rfl, rfl, rfl, rfl, rfl, rfl, rfl, rfl, rfl⟩
set_option linter.unusedVariables false in
set_option maxRecDepth 100000 in
theorem SlCh.open_all {H : Type} {enc : TypeId × Value → H} {w : World} {base : Nat} {held : Bool} {fuel : Nat} {cl : List Value} {y : DataW H × List MemPlace} (hl : cl.length = 14)
    (h : DataW.trod enc Try.prog w base (fun _ => true) held fuel 47 cl = some y) (hw : ∀ n ∈ y.1.weights Try.prog 47, n ≤ reachBytes) :
    ∃ (k : Nat) (f : Nat) (t : Nat) (st : Nat) (ss : Nat) (pp : Nat) (tg : Nat) (rm : Nat) (os : Nat) (is : Nat) (bA : Option Addr) (bN bC : Nat) (dA : Option Addr) (dN dC : Nat) (pA : Option Addr) (pN pC : Nat) (pD : List Pm) (xA : Option Addr) (xN xC : Nat) (xZ : List Nat), cl = [.int .u8 (k : Nat), .int .u8 (f : Nat), .int .u32 (t : Nat), .int .u16 (st : Nat), .int .u16 (ss : Nat), .int .u32 (pp : Nat), .int .u32 (tg : Nat), .int .u32 (rm : Nat), .int .u16 (os : Nat), .int .u16 (is : Nat), .slice bA bN bC, .slice dA dN dC, .slice pA pN pC, .slice xA xN xC] ∧ k < 256 ∧ f < 256 ∧ t < 4294967296 ∧ st < 65536 ∧ ss < 65536 ∧ pp < 4294967296 ∧ tg < 4294967296 ∧ rm < 4294967296 ∧ os < 65536 ∧ is < 65536 ∧ bN ≤ 281474976710656 ∧ dN ≤ 281474976710656 ∧ (SlPm w pA pN pC pD) ∧ (Sl w xA xN xC xZ ∧ xC ≤ 140737488351232) := by
  obtain ⟨f0, f1, f2, f3, f4, f5, f6, f7, f8, f9, f10, f11, f12, f13, he, o0, o1, o2, o3, o4, o5, o6, o7, o8, o9, o10, o11, o12, o13, t0, t1, t2, t3, t4, t5, t6, t7, t8, t9, t10, t11, t12, t13⟩ := SlCh.open_all_fields
  obtain ⟨xs, m, _, hx, _, hlen, hfs⟩ := DataW.trod_struct he h
  have hlen2 : xs.length = 14 := hlen
  match cl, hl, xs, hlen2 with
  | [v0, v1, v2, v3, v4, v5, v6, v7, v8, v9, v10, v11, v12, v13], _, [y0, y1, y2, y3, y4, y5, y6, y7, y8, y9, y10, y11, y12, y13], _ =>
    have hd := congrArg Prod.fst hx
    simp only [List.map_cons, List.map_nil] at hd
    have g0 := hfs 0 f0 rfl
    simp [o0, t0, SlCh.cells_uint8] at g0
    have g1 := hfs 1 f1 rfl
    simp [o1, t1, SlCh.cells_uint8] at g1
    have g2 := hfs 2 f2 rfl
    simp [o2, t2, SlCh.cells_uint32] at g2
    have g3 := hfs 3 f3 rfl
    simp [o3, t3, SlCh.cells_uint16] at g3
    have g4 := hfs 4 f4 rfl
    simp [o4, t4, SlCh.cells_uint16] at g4
    have g5 := hfs 5 f5 rfl
    simp [o5, t5, SlCh.cells_uint32] at g5
    have g6 := hfs 6 f6 rfl
    simp [o6, t6, SlCh.cells_uint32] at g6
    have g7 := hfs 7 f7 rfl
    simp [o7, t7, SlCh.cells_uint32] at g7
    have g8 := hfs 8 f8 rfl
    simp [o8, t8, SlCh.cells_uint16] at g8
    have g9 := hfs 9 f9 rfl
    simp [o9, t9, SlCh.cells_uint16] at g9
    have g10 := hfs 10 f10 rfl
    simp [o10, t10, SlCh.cells____2_uint16] at g10
    have g11 := hfs 11 f11 rfl
    simp [o11, t11, SlCh.cells___uint32] at g11
    have g12 := hfs 12 f12 rfl
    simp [o12, t12, SlCh.cells___api_Param] at g12
    have g13 := hfs 13 f13 rfl
    simp [o13, t13, SlCh.cells___uint8] at g13
    obtain ⟨kz, e0, _, w0⟩ := DataW.trod_int Try.underlying5 g0
    simp at e0
    subst e0
    obtain ⟨k, rfl⟩ : ∃ m : Nat, kz = (m : Int) := ⟨kz.toNat, by have := bounds_u8 w0; omega⟩
    have b0 : k < 256 := by have := bounds_u8 w0; omega
    obtain ⟨fz, e1, _, w1⟩ := DataW.trod_int Try.underlying5 g1
    simp at e1
    subst e1
    obtain ⟨f, rfl⟩ : ∃ m : Nat, fz = (m : Int) := ⟨fz.toNat, by have := bounds_u8 w1; omega⟩
    have b1 : f < 256 := by have := bounds_u8 w1; omega
    obtain ⟨tz, e2, _, w2⟩ := DataW.trod_int Try.underlying30 g2
    simp at e2
    subst e2
    obtain ⟨t, rfl⟩ : ∃ m : Nat, tz = (m : Int) := ⟨tz.toNat, by have := bounds_u32 w2; omega⟩
    have b2 : t < 4294967296 := by have := bounds_u32 w2; omega
    obtain ⟨stz, e3, _, w3⟩ := DataW.trod_int Try.underlying42 g3
    simp at e3
    subst e3
    obtain ⟨st, rfl⟩ : ∃ m : Nat, stz = (m : Int) := ⟨stz.toNat, by have := bounds_u16 w3; omega⟩
    have b3 : st < 65536 := by have := bounds_u16 w3; omega
    obtain ⟨ssz, e4, _, w4⟩ := DataW.trod_int Try.underlying42 g4
    simp at e4
    subst e4
    obtain ⟨ss, rfl⟩ : ∃ m : Nat, ssz = (m : Int) := ⟨ssz.toNat, by have := bounds_u16 w4; omega⟩
    have b4 : ss < 65536 := by have := bounds_u16 w4; omega
    obtain ⟨ppz, e5, _, w5⟩ := DataW.trod_int Try.underlying30 g5
    simp at e5
    subst e5
    obtain ⟨pp, rfl⟩ : ∃ m : Nat, ppz = (m : Int) := ⟨ppz.toNat, by have := bounds_u32 w5; omega⟩
    have b5 : pp < 4294967296 := by have := bounds_u32 w5; omega
    obtain ⟨tgz, e6, _, w6⟩ := DataW.trod_int Try.underlying30 g6
    simp at e6
    subst e6
    obtain ⟨tg, rfl⟩ : ∃ m : Nat, tgz = (m : Int) := ⟨tgz.toNat, by have := bounds_u32 w6; omega⟩
    have b6 : tg < 4294967296 := by have := bounds_u32 w6; omega
    obtain ⟨rmz, e7, _, w7⟩ := DataW.trod_int Try.underlying30 g7
    simp at e7
    subst e7
    obtain ⟨rm, rfl⟩ : ∃ m : Nat, rmz = (m : Int) := ⟨rmz.toNat, by have := bounds_u32 w7; omega⟩
    have b7 : rm < 4294967296 := by have := bounds_u32 w7; omega
    obtain ⟨osz, e8, _, w8⟩ := DataW.trod_int Try.underlying42 g8
    simp at e8
    subst e8
    obtain ⟨os, rfl⟩ : ∃ m : Nat, osz = (m : Int) := ⟨osz.toNat, by have := bounds_u16 w8; omega⟩
    have b8 : os < 65536 := by have := bounds_u16 w8; omega
    obtain ⟨isz, e9, _, w9⟩ := DataW.trod_int Try.underlying42 g9
    simp at e9
    subst e9
    obtain ⟨is, rfl⟩ : ∃ m : Nat, isz = (m : Int) := ⟨isz.toNat, by have := bounds_u16 w9; omega⟩
    have b9 : is < 65536 := by have := bounds_u16 w9; omega
    obtain ⟨bA, bN, bC, rfl, b10⟩ := SlCh.any_cells____2_uint16 g10 (fun q hq => hw q (by
      rw [hd]
      unfold DataW.weights
      rw [he]
      exact DataW.weights_mem_each (j := 10) (t := f10.type) (d := y10.1) rfl rfl q (by rw [t10]; exact hq)))
    obtain ⟨dA, dN, dC, rfl, b11⟩ := SlCh.any_cells___uint32 g11 (fun q hq => hw q (by
      rw [hd]
      unfold DataW.weights
      rw [he]
      exact DataW.weights_mem_each (j := 11) (t := f11.type) (d := y11.1) rfl rfl q (by rw [t11]; exact hq)))
    obtain ⟨pA, pN, pC, rfl, _⟩ := SlCh.any_cells___api_Param g12 (fun q hq => hw q (by
      rw [hd]
      unfold DataW.weights
      rw [he]
      exact DataW.weights_mem_each (j := 12) (t := f12.type) (d := y12.1) rfl rfl q (by rw [t12]; exact hq)))
    obtain ⟨pD, b12⟩ := SlPm.open g12 (fun q hq => hw q (by
      rw [hd]
      unfold DataW.weights
      rw [he]
      exact DataW.weights_mem_each (j := 12) (t := f12.type) (d := y12.1) rfl rfl q (by rw [t12]; exact hq)))
    obtain ⟨xA, xN, xC, xZ, rfl, s13, b13⟩ := SlCh.open_bytes g13 (fun q hq => hw q (by
      rw [hd]
      unfold DataW.weights
      rw [he]
      exact DataW.weights_mem_each (j := 13) (t := f13.type) (d := y13.1) rfl rfl q (by rw [t13]; exact hq)))
    exact ⟨k, f, t, st, ss, pp, tg, rm, os, is, bA, bN, bC, dA, dN, dC, pA, pN, pC, pD, xA, xN, xC, xZ, rfl, b0, b1, b2, b3, b4, b5, b6, b7, b8, b9, b10, b11, b12, ⟨s13, b13⟩⟩
theorem SlCh.cellsAll : Try.prog.cellsOf 47 = 14 := by kernel_rfl
theorem SlCh.bytesAll : Try.prog.bytesOf 47 = 128 := by kernel_rfl
theorem SlCh.open {H : Type} {enc : TypeId × Value → H} {w : World} {base : Nat} {held : Bool} {fuel : Nat} {a : Option Addr} {n c : Nat} {y : DataW H × List MemPlace}
    (h : DataW.trod enc Try.prog w base (fun _ => true) held fuel 22 [.slice a n c] = some y) (hw : ∀ n ∈ y.1.weights Try.prog 22, n ≤ reachBytes) : ∃ dd, SlCh w a n c dd := by
  rcases Go.Deep.open_slice Try.underlying22 h with ⟨hcs, _⟩ | ⟨x, l, k, m, fn, D, Pl, hcs, hb, hl, hm, hmm, hx, hc⟩
  · simp at hcs
    obtain ⟨rfl, rfl, rfl⟩ := hcs
    exact ⟨[], rfl, Nat.le_refl _, by omega, .inl rfl, fun x hx => (by cases hx)⟩
  · simp at hcs
    obtain ⟨rfl, rfl, rfl⟩ := hcs
    have hmc : m = c := by simpa using hmm
    subst hmc
    subst hx
    have hsz : m * 128 ≤ reachBytes := by
      have := hw ((((List.range n).map D).length + ((List.range (m - n)).map fun j => D (n + j)).length) * Try.prog.bytesOf 47) (by
        unfold DataW.weights
        rw [Try.underlying22]
        simp)
      rw [SlCh.bytesAll] at this
      simp at this
      omega
    simp only [reachBytes] at hsz
    rw [SlCh.cellsAll] at hc
    have hwi : ∀ i, i < n → ∀ q ∈ (D i).weights Try.prog 47, q ≤ reachBytes := by
      intro i hi q hq
      refine hw q ?_
      unfold DataW.weights
      rw [Try.underlying22]
      simp only [List.mem_cons, List.mem_append]
      exact .inr (.inl (SlCh.wAll_mem (List.mem_map.2 ⟨i, List.mem_range.2 hi, rfl⟩) q hq))
    have each : ∀ i, i < n → ∃ q : ChD, (∀ j v, q.vals[j]? = some v → w.cell? (x.add (i * 14 + j)) = some v) ∧ q.Wf w := by
      intro i hi
      obtain ⟨cs', h1, h2⟩ := hc i (by omega)
      obtain ⟨_, hlen, hcell⟩ := World.cells?_some h1
      obtain ⟨k, f, t, st, ss, pp, tg, rm, os, is, bA, bN, bC, dA, dN, dC, pA, pN, pC, pD, xA, xN, xC, xZ, rfl, Hk, Hf, Ht, Hst, Hss, Hpp, Htg, Hrm, Hos, His, Hb, Hd, Hp, Hx⟩ := SlCh.open_all hlen h2 (hwi i hi)
      refine ⟨⟨k, f, t, st, ss, pp, tg, rm, os, is, bA, bN, bC, dA, dN, dC, pA, pN, pC, pD, xA, xN, xC, xZ⟩, fun j v hv => ?_, ⟨Hk, Hf, Ht, Hst, Hss, Hpp, Htg, Hrm, Hos, His, Hb, Hd, Hp, Hx⟩⟩
      have hj : j < 14 := (List.getElem?_eq_some_iff.1 hv).1
      have e := hcell j hj
      rw [Go.Deep.add_add] at e
      rw [e]
      exact hv
    obtain ⟨q, hq⟩ := Go.Deep.choose_lt each
    have hget : ∀ i z, ((List.range n).map q)[i]? = some z → i < n ∧ z = q i := fun i z hz => by
      have hi := (List.getElem?_eq_some_iff.1 hz).1
      simp at hi
      rw [List.getElem?_map, List.getElem?_range hi] at hz
      simp at hz
      exact ⟨hi, hz.symm⟩
    refine ⟨(List.range n).map q, by simp, hl, by omega, ?_, fun z hz => ?_⟩
    · by_cases h0 : n = 0
      · exact .inl h0
      · obtain ⟨b, off, spot⟩ := x
        have hc0 := (hq 0 (by omega)).1 0 _ rfl
        have hspot : spot = none := by simpa [Addr.add] using World.cell?_spot hc0
        subst hspot
        have hlt : b < w.heap.size := by
          have := hc0
          simp only [Addr.add, World.cell?] at this
          rcases Nat.lt_or_ge b w.heap.size with h9 | h9
          · exact h9
          · simp [h9] at this
        refine .inr ⟨b, off, rfl, hlt, fun i z hz j v hv => ?_⟩
        obtain ⟨hi, rfl⟩ := hget i z hz
        have h1 := (hq i hi).1 j v hv
        have ea : ∀ j, (⟨b, off, none⟩ : Addr).add j = ⟨b, off + j, none⟩ := by
          intro j
          unfold Addr.add
          split
          · subst_vars; rfl
          · rfl
        rw [ea] at h1
        rw [Nat.add_assoc]
        exact h1
    · obtain ⟨i, hi⟩ := List.getElem?_of_mem hz
      obtain ⟨hin, rfl⟩ := hget i z hi
      exact (hq i hin).2
end Go.Proofs.Ytjaheelgcjafcaa
namespace Go.Proofs.Ytjaheelgcjafcaa
open Go.RowKit
def ChD.ck (x : ChD) : Ck := ⟨x.k, x.f, x.t, x.st, x.ss, x.pp, x.tg, x.rm, x.os, x.is, x.bA, x.bN, x.bC, x.dA, x.dN, x.dC, x.pA, x.pN, x.pC, x.xA, x.xN, x.xC, x.pD.map (·.dataN), x.xZ⟩
theorem SlPm.prs {w : World} {a : Option Addr} {n c : Nat} {dd : List Pm} (h : SlPm w a n c dd) : Prs w a n c (dd.map (·.dataN)) := by
  refine ⟨by rw [List.length_map]; exact h.len, h.small, fun l hl => ?_, ?_⟩
  · obtain ⟨x, hx, rfl⟩ := List.mem_map.1 hl
    have hw := h.wf x hx
    unfold Pm.Wf at hw
    exact hw.2.1.small
  · rcases h.at_ with h0 | ⟨b, off, rfl, hlt, hc⟩
    · exact .inl h0
    · refine .inr ⟨b, off, rfl, hlt, fun i l hl => ?_⟩
      rw [List.getElem?_map] at hl
      cases hx : dd[i]? with
      | none => rw [hx] at hl; cases hl
      | some x =>
        rw [hx] at hl
        obtain rfl : x.dataN = l := Option.some.inj hl
        exact ⟨x.kind, x.dataA, x.dataC, hc i x hx 0 _ rfl, hc i x hx 1 _ rfl⟩
theorem ChD.ckW {w : World} {x : ChD} (h : x.Wf w) : CkW w x.ck := by
  unfold ChD.Wf at h
  obtain ⟨h1, h2, h3, h4, h5, h6, _, _, _, _, h11, h12, h13, h14⟩ := h
  exact ⟨⟨h1, h2, h3, h4, h5, h6, h11, h12⟩, h13.prs, h14.1⟩
end Go.Proofs.Ytjaheelgcjafcaa
namespace Go.Proofs.Ytjaheelgcjafcaa
open Go.RowKit Go.MapKept Go.Maps
/-- What stands between the pieces: streams of the call's own. -/
structure BoS (w0 : World) (p nb mb wb : Nat) (s : SmS) (w : World) : Prop where
  ex : ∃ wr Y, SmW w p nb mb wb wr Y s
  bel : Below w0.heap.size w0 w
theorem BoS.below {w0 w w' : World} {p nb mb wb : Nat} {s : SmS} (h : BoS w0 p nb mb wb s w) (hb : Below w.heap.size w w') : BoS w0 p nb mb wb s w' := by
  obtain ⟨wr, Y, h1⟩ := h.ex
  exact ⟨⟨wr, Y, h1.below hb⟩, h.bel.trans (hb.mono h.bel.size)⟩
theorem bo_held {w0 w : World} {p nb mb wb : Nat} {s : SmS} (h : BoS w0 p nb mb wb s w) :
    Calls Try.prog 16 #[.pointer (some ⟨p, 0, none⟩)] w fun e w' => e = .returned (.tuple #[.int .i64 (s.heldN : Nat), .int .i64 (s.heldB : Nat)]) ∧ BoS w0 p nb mb wb s w' := by
  obtain ⟨wr, Y, h1⟩ := h.ex
  refine (held_any h1).mono ?_
  rintro e w' ⟨rfl, hb⟩
  exact ⟨rfl, h.below hb⟩
/-- Behind a piece: refused, and nothing has changed; or held, and one more at most. -/
theorem bo_add {w0 w : World} {p nb mb wb : Nat} {s : SmS} (h : BoS w0 p nb mb wb s w) (hw0 : w0.heap.size ≤ nb ∧ w0.heap.size ≤ mb ∧ w0.heap.size ≤ wb) (c : Ck) (hc : CkW w c) (v : Value) (hv : v = c.val) :
    Calls Try.prog 14 #[.pointer (some ⟨p, 0, none⟩), v] w fun e w' => ∃ (ta : Option Addr) (tn tc : Nat) (E : Int) (s' : SmS), e = .returned (.tuple #[.slice ta tn tc, .int .i64 E]) ∧ BoS w0 p nb mb wb s' w' ∧ s'.heldN ≤ 128 ∧ s'.heldN ≤ s.heldN + 1 ∧ (E ≠ 0 → tn = 0 ∧ s' = s) := by
  obtain ⟨wr, Y, h1⟩ := h.ex
  refine (sadd_ck h1 c hc v hv).mono ?_
  rintro e w' hR
  cases hR with
  | bad hz he hb =>
    subst he
    exact ⟨none, 0, 0, _, s, rfl, h.below hb, h1.held, by omega, fun _ => ⟨rfl, rfl⟩⟩
  | ok da dc ta tn tc B wr' Y' hz he hms hsm hfr hB hY =>
    subst he
    exact ⟨ta, tn, tc, 0, _, rfl, ⟨⟨wr', Y', hsm⟩, h.bel.trans (hfr.below _ h.bel.size (fun k hk => by rcases hk with e | e | e <;> omega))⟩, hsm.held, add_held s _ h1.sd h1.sw (by have := h1.lenDle; omega) hc.ok.t, fun e => absurd rfl e⟩
set_option linter.unusedVariables false in
set_option maxRecDepth 100000 in
set_option maxHeartbeats 4000000 in
theorem walk_StreamsBounds (a : Option Addr) (n c : Nat) (dd : List ChD) (w : World) (hs : SlCh w a n c dd) :
    Calls Try.prog 6 #[.slice a n c] w fun e w' => e = .returned (.bool true) ∧ Below w.heap.size w w' := by
  have HNW := (show Hid _ from snew_ok 8 w (by decide) (by decide))
  have hlen := hs.len
  have hsmall := hs.small
  have HSL := (show Hid _ from hs)
  have hcap := hs.cap
  clear hs
  go_enter Try.func6, Try.ntmps6
  go_wp2_with fail
  refine Calls.mono HNW.out ?_
  rintro e w1 ⟨rfl, hw1⟩
  have hsm1 := SmW.new 8 (by decide) (by decide) hw1
  have hb1 : Below w.heap.size w w1 := by rw [hw1]; exact (((((Below.refl _ _).alloc (Nat.le_refl _) _).alloc (by simp) _).alloc (by simp; omega) _).alloc (by simp; omega) _)
  have HF : Hid (BoS w (w.heap.size + 3) w.heap.size (w.heap.size + 1) (w.heap.size + 2) ⟨List.replicate 8 0, [], []⟩ w1) := ⟨⟨_, _, hsm1⟩, hb1⟩
  clear hw1 hsm1 hb1 HNW
  go_wp2
  go_loopw [5] (fun u5 wr => ∃ (i : Nat) (s : SmS), i ≤ 300 ∧ i ≤ n ∧ u5 = .int .i64 (i : Nat) ∧ BoS w (w.heap.size + 3) w.heap.size (w.heap.size + 1) (w.heap.size + 2) s wr) (fun u5 _ => 300 - (intOf u5).toNat)
  case atStart => exact ⟨0, _, by omega, by omega, rfl, HF.out⟩
  case round =>
    obtain ⟨i, s, hi3, hin, rfl, hbo⟩ := hrel
    have HS := (show Hid _ from hbo)
    clear hbo HF
    by_cases hlt : i < n
    · have hlt1 : (i : Int) < (n : Int) := by omega
      by_cases h300 : i < 300
      · have h301 : (i : Int) < 300 := by omega
        have HHD := (show Hid _ from bo_held HS.out)
        go_wp2_with fail
        refine Calls.mono HHD.out ?_
        clear HHD HS
        rintro e w2 ⟨rfl, hbo⟩
        obtain ⟨x, hx⟩ : ∃ x, dd[i]? = some x := ⟨_, List.getElem?_eq_getElem (by omega)⟩
        have hsl2 := HSL.out.below hbo.bel
        have hxw := hsl2.wf x (List.mem_of_getElem? hx)
        obtain ⟨b, off, rfl, hbl, hcell⟩ : ∃ b off, a = some ⟨b, off, none⟩ ∧ b < w2.heap.size ∧ ∀ j v, x.vals[j]? = some v → w2.cell? ⟨b, off + i * 14 + j, none⟩ = some v := by
          rcases hsl2.at_ with h0 | ⟨b, off, e1, e2, e3⟩
          · omega
          · exact ⟨b, off, e1, e2, fun j v hv => e3 i x hx j v hv⟩
        have HAD := (show Hid _ from fun v hv => bo_add hbo ⟨by omega, by omega, by omega⟩ x.ck (ChD.ckW hxw) v hv)
        have k0 := hcell 0 _ rfl
        have k1 := hcell 1 _ rfl
        have k2 := hcell 2 _ rfl
        have k3 := hcell 3 _ rfl
        have k4 := hcell 4 _ rfl
        have k5 := hcell 5 _ rfl
        have k6 := hcell 6 _ rfl
        have k7 := hcell 7 _ rfl
        have k8 := hcell 8 _ rfl
        have k9 := hcell 9 _ rfl
        have k10 := hcell 10 _ rfl
        have k11 := hcell 11 _ rfl
        have k12 := hcell 12 _ rfl
        have k13 := hcell 13 _ rfl
        rw [Nat.add_zero] at k0
        clear hsl2 hxw hcell hx
        have hhn : s.heldN ≤ 128 := by obtain ⟨_, _, h1⟩ := hbo.ex; exact h1.held
        clear hbo
        generalize hN : s.heldN = hn at *
        generalize hB : s.heldB = hbb at *
        have HNB := (show Hid _ from And.intro hN hB)
        clear hN hB
        go_wp2_with fail
        refine (HAD.out _ (by rfl)).mono ?_
        clear HAD
        rintro e w3 ⟨ta, tn, tc, E, s', rfl, hbo, h128, hinc, hbad⟩
        have HHD := (show Hid _ from bo_held hbo)
        clear k0 k1 k2 k3 k4 k5 k6 k7 k8 k9 k10 k11 k12 k13
        have HBAD : Hid (E ≠ 0 → tn = 0 ∧ s'.heldN = hn ∧ s'.heldB = hbb) := fun e => ⟨(hbad e).1, by rw [(hbad e).2]; exact HNB.out.1, by rw [(hbad e).2]; exact HNB.out.2⟩
        clear hbad hbo
        generalize s'.heldN = hn2 at *
        generalize s'.heldB = hbb2 at *
        go_wp2_with fail
        refine Calls.mono HHD.out ?_
        clear HHD
        rintro e w4 ⟨rfl, hbo⟩
        have HF := (show Hid _ from hbo)
        clear hbo
        have g1 : ¬ (128 : Int) < (hn2 : Int) := by omega
        have g2 : ¬ (hn : Int) + 1 < (hn2 : Int) := by omega
        by_cases hE : E = 0
        · subst hE
          go_wp2
          go_roundw
          case rel => exact ⟨i + 1, s', by omega, by omega, by go_num, HF.out⟩
          case measure => simp [intOf]; omega
        · obtain ⟨rfl, rfl, rfl⟩ := HBAD.out hE
          go_wp2
          go_roundw
          case rel => exact ⟨i + 1, s', by omega, by omega, by go_num, HF.out⟩
          case measure => simp [intOf]; omega
      · have h301 : ¬ (i : Int) < 300 := by omega
        go_wp2_with fail
        refine Calls.mono (live13_any wr) ?_
        rintro e w5 ⟨rfl, hb5⟩
        have HF5 : Hid (Below w.heap.size w w5) := HS.out.bel.trans (hb5.mono HS.out.bel.size)
        clear HS hb5
        go_wp2
        go_ret
        exact ⟨rfl, HF5.out⟩
    · have hlt1 : ¬ (i : Int) < (n : Int) := by omega
      go_wp2_with fail
      refine Calls.mono (live13_any wr) ?_
      rintro e w5 ⟨rfl, hb5⟩
      have HF5 : Hid (Below w.heap.size w w5) := HS.out.bel.trans (hb5.mono HS.out.bel.size)
      clear HS hb5
      go_wp2
      go_ret
      exact ⟨rfl, HF5.out⟩
end Go.Proofs.Ytjaheelgcjafcaa
namespace Go.Proofs.Ytjaheelgcjafcaa.streamsBounds
open Go.ChangeShapes Go.WideShapes Go.ChangeAt Go.RowKit
open Go.ChangeMaps (open_string shut_string)
set_option linter.unusedVariables false
theorem own : ownKnob Try.prog.godebug = none := by kernel_rfl
theorem laidOut : laidOutB Try.prog = true := by kernel_rfl


set_option maxRecDepth 100000 in
theorem lifted (os : Os) (started : os.Started) (H : Type) (enc : TypeId × Value → H) :
    ReturnsInHanded {} Try.checked os 6 .any (Rows.streamsBoundsSpec.pre6 enc Try.prog Try.f6 Rows.streamsBoundsRow.domain false) (Rows.streamsBoundsSpec.post enc Try.prog Try.f6 false true false false) := by
  refine returnsInHanded_of_change_sized (C := Try.checked) own started (by kernel_rfl) Try.func6
    (ChangeSpec.witness6 (enc := enc) (C := Try.checked) false ⟨#[], #[.slice none 0 0], []⟩ 8 (by kernel_rfl) (by kernel_rfl) (by kernel_rfl) (by kernel_rfl)) ?_
  intro W base args ds gs before hval0 hW hcnd hsz0 _
  have hval : ∀ (j : Nat) t v, Try.f6.params[j]? = some t → args[j]? = some v → Value.okWide Try.prog W .any base t v := hval0
  have hsz : (DataW.weightsEach Try.prog (Try.f6.params.toList ++ Rows.streamsBoundsSpec.plain.varTypes Try.prog) (ds ++ gs)).all (· ≤ reachBytes) = true := hsz0
  clear hsz0
  have hW' := hW
  obtain ⟨p, q, hA0, hV, rfl, hfz, hnd⟩ := hW
  have hA : DataW.TrodAll enc Try.prog W 0 (fun _ => true) true Try.f6.params.toList args.toList ds p := hA0
  rw [Try.params6] at hA hval hsz
  obtain ⟨v0, vs0, d0, ds0, p0, q0, hargs, rfl, rfl, h0, r0⟩ := trodAll_cons hA
  obtain ⟨rfl, rfl, rfl⟩ := trodAll_nil r0
  obtain rfl : args = #[v0] := by cases args; simp_all
  obtain ⟨rfl, rfl⟩ := trodVars_none hV
  obtain ⟨a0, len0, cap0, rfl⟩ := okWide_slice Try.underlying22 (hval 0 22 v0 rfl rfl)
  have k0 := h0
  have lt0 : ∀ x ∈ p0, x.block < W.heap.size := by obtain ⟨m, hm⟩ := k0; exact DataW.trod_lt m _ _ _ hm
  obtain ⟨z0, w0⟩ : ∃ dd, SlCh W a0 len0 cap0 dd := by
    clear k0 lt0
    obtain ⟨fuel, hf⟩ := h0
    exact SlCh.open hf (fun q hq => by
      have := List.all_eq_true.1 hsz q (DataW.weights_mem_each (j := 0) (t := 22) (d := d0) rfl rfl q hq)
      simpa using this)
  clear hA0 hval0 hsz
  refine (walk_StreamsBounds a0 len0 cap0 z0 W w0).mono fun e W' ⟨he, bel⟩ => ?_
  subst he
  exact ⟨_, rfl, _, _, _, [], _, [], hW', trodAll_mk1 (shut_bool Try.underlying4 _), (trodAll_cons_mk (Below.trod laidOut (by kernel_rfl) (of_decide_eq_true (by kernel_rfl)) k0 bel lt0) trodAll_mk0), rfl, bel.frame _, fun h => by cases h⟩
theorem over : Rows.streamsBoundsRow.holds Try.pinned (OpenSpec.ofChange Rows.streamsBoundsSpec) :=
  OpenClaim.holds_of_wide 6 Try.f6 rfl rfl rfl rfl rfl rfl rfl ⟨rfl, rfl, rfl, rfl, rfl⟩ rfl rfl rfl rfl rfl (by kernel_rfl) Try.func6 (by kernel_rfl)
    (of_decide_eq_true (by kernel_rfl)) (by unfold Func.isWrapper; first | (rw [if_pos (by decide +kernel)]; kernel_rfl) | (rw [if_neg (by decide +kernel)]; exact ⟨rfl, rfl⟩))
    (fun os started H enc _ => lifted os started H enc)
end Go.Proofs.Ytjaheelgcjafcaa.streamsBounds
namespace Go.Proofs.Ytjaheelgcjafcaa
theorem StreamsBounds_holds : Rows.StreamsBoundsSaid := streamsBounds.over
#print axioms StreamsBounds_holds
end Go.Proofs.Ytjaheelgcjafcaa
