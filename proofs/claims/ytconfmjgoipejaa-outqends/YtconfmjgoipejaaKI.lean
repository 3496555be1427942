/- A row of api.Msg, as it lies in a world. -/
import Derived.Test.YtconfmjgoipejaaProg
import Derived.Test.YtconfmjgoipejaaBase
import Derived.Deep.Strs
import Derived.RowKit
import Derived.ChangeSlices
import Derived.SizedLaws
import Derived.ProofKit
import Derived.OpenShut
import Derived.ChangeArms
import Derived.WideShapes
namespace Go.Proofs.Ytconfmjgoipejaa
open Go.RowKit Go.ChangeShapes Go.WideShapes Go.ChangeAt
structure MgD where
  st : Nat
  ss : Nat
  pp : Nat
  fr : Bool
  daA : Option Addr
  daN : Nat
  daC : Nat
  daZ : List Nat
instance : Inhabited MgD := ⟨⟨0, 0, 0, false, none, 0, 0, []⟩⟩
def MgD.vals (x : MgD) : List Value := [.int .u16 (x.st : Nat), .int .u16 (x.ss : Nat), .int .u32 (x.pp : Nat), .bool x.fr, .slice x.daA x.daN x.daC]
def MgD.Wf (w : World) (x : MgD) : Prop := x.st < 65536 ∧ x.ss < 65536 ∧ x.pp < 4294967296 ∧ (Sl w x.daA x.daN x.daC x.daZ ∧ x.daC ≤ 140737488351232)
structure SlMg (w : World) (a : Option Addr) (n c : Nat) (dd : List MgD) : Prop where
  len : dd.length = n
  cap : n ≤ c
  small : n ≤ 281474976710656
  at_ : n = 0 ∨ ∃ b off, a = some ⟨b, off, none⟩ ∧ b < w.heap.size ∧ ∀ i x, dd[i]? = some x → ∀ j v, x.vals[j]? = some v → w.cell? ⟨b, off + i * 5 + j, none⟩ = some v
  wf : ∀ x ∈ dd, x.Wf w
theorem SlMg.below {w w' : World} {a : Option Addr} {n c : Nat} {dd : List MgD} (h : SlMg w a n c dd) (hb : Below w.heap.size w w') : SlMg w' a n c dd := by
  refine ⟨h.len, h.cap, h.small, ?_, fun x hx => ?_⟩
  · rcases h.at_ with h0 | ⟨b, off, rfl, hlt, hc⟩
    · exact .inl h0
    · exact .inr ⟨b, off, rfl, Nat.lt_of_lt_of_le hlt hb.size, fun i x hx j v hv => (hb.cell (p := ⟨b, off + i * 5 + j, none⟩) hlt).trans (hc i x hx j v hv)⟩
  · have hh := h.wf x hx
    unfold MgD.Wf at hh ⊢
    obtain ⟨h0, h1, h2, h3⟩ := hh
    exact ⟨h0, h1, h2, ⟨h3.1.below hb, h3.2⟩⟩
theorem SlMg.wAll_mem {H : Type} {P : Program} {e : TypeId} : ∀ {ds : List (DataW H)} {d : DataW H}, d ∈ ds → ∀ n ∈ d.weights P e, n ∈ DataW.weightsAll P e ds
  | x :: ds, d, hd, n, hn => by
    unfold DataW.weightsAll
    rcases List.mem_cons.1 hd with rfl | h
    · exact List.mem_append_left _ hn
    · exact List.mem_append_right _ (SlMg.wAll_mem h n hn)
theorem SlMg.cells_uint16 : Try.prog.cellsOf 34 = 1 := by kernel_rfl
theorem SlMg.cells_uint32 : Try.prog.cellsOf 22 = 1 := by kernel_rfl
theorem SlMg.cells_bool : Try.prog.cellsOf 4 = 1 := by kernel_rfl
theorem SlMg.cells___uint8 : Try.prog.cellsOf 36 = 1 := by kernel_rfl
theorem SlMg.bytes_u8 : Try.prog.bytesOf 5 = 1 := by kernel_rfl
theorem SlMg.open_bytes {H : Type} {enc : TypeId × Value → H} {w : World} {base : Nat} {held : Bool} {fuel : Nat} {v : Value} {y : DataW H × List MemPlace}
    (h : DataW.trod enc Try.prog w base (fun _ => true) held fuel 36 [v] = some y) (hw : ∀ n ∈ y.1.weights Try.prog 36, n ≤ reachBytes) : ∃ a n c zs, v = .slice a n c ∧ Sl w a n c zs ∧ c ≤ 140737488351232 := by
  rcases open_ints Try.underlying36 Try.underlying5 (by kernel_rfl) h with ⟨hcs, _⟩ | ⟨x, l, c, zs, hcs, _, hl, hm, hz, hx, hcell, hwz⟩
  · simp at hcs
    exact ⟨none, 0, 0, [], hcs, SlK.nil _ _ _ (by omega), by omega⟩
  · simp at hcs
    have hz' : zs.length = c := by simpa using hz
    have hb : (lits (H := H) .u8 (zs.take l)).length + (lits (H := H) .u8 (zs.drop l)).length ≤ reachBytes := by
      have := hw (((lits (H := H) .u8 (zs.take l)).length + (lits (H := H) .u8 (zs.drop l)).length) * Try.prog.bytesOf 5) (by
        rw [hx]
        unfold DataW.weights
        rw [Try.underlying36]
        simp)
      rwa [SlMg.bytes_u8, Nat.mul_one] at this
    simp only [lits, List.length_map, List.length_take, List.length_drop, reachBytes] at hb
    exact ⟨_, _, _, _, hcs, SlK.of_ints (by omega) (fun z hz => by simp [Lit.wf, IntKind.min, IntKind.max, IntKind.signed, IntKind.bits] at hz; omega) hl hm hz' (by omega) hcell hwz, by omega⟩
theorem SlMg.open_all_fields : ∃ f0 f1 f2 f3 f4 : Field, Try.prog.underlying 38 = some (.struct #[f0, f1, f2, f3, f4]) ∧ f0.offset = 0 ∧ f1.offset = 1 ∧ f2.offset = 2 ∧ f3.offset = 3 ∧ f4.offset = 4 ∧ f0.type = 34 ∧ f1.type = 34 ∧ f2.type = 22 ∧ f3.type = 4 ∧ f4.type = 36 := ⟨_, _, _, _, _, Try.underlying38, rfl, rfl, rfl, rfl, rfl, rfl, rfl, rfl, rfl, rfl⟩
set_option linter.unusedVariables false in
set_option maxRecDepth 100000 in
theorem SlMg.open_all {H : Type} {enc : TypeId × Value → H} {w : World} {base : Nat} {held : Bool} {fuel : Nat} {cl : List Value} {y : DataW H × List MemPlace} (hl : cl.length = 5)
    (h : DataW.trod enc Try.prog w base (fun _ => true) held fuel 38 cl = some y) (hw : ∀ n ∈ y.1.weights Try.prog 38, n ≤ reachBytes) :
    ∃ (st : Nat) (ss : Nat) (pp : Nat) (fr : Bool) (daA : Option Addr) (daN daC : Nat) (daZ : List Nat), cl = [.int .u16 (st : Nat), .int .u16 (ss : Nat), .int .u32 (pp : Nat), .bool fr, .slice daA daN daC] ∧ st < 65536 ∧ ss < 65536 ∧ pp < 4294967296 ∧ (Sl w daA daN daC daZ ∧ daC ≤ 140737488351232) := by
  obtain ⟨f0, f1, f2, f3, f4, he, o0, o1, o2, o3, o4, t0, t1, t2, t3, t4⟩ := SlMg.open_all_fields
  obtain ⟨xs, m, _, hx, _, hlen, hfs⟩ := DataW.trod_struct he h
  have hlen2 : xs.length = 5 := hlen
  match cl, hl, xs, hlen2 with
  | [v0, v1, v2, v3, v4], _, [y0, y1, y2, y3, y4], _ =>
    have hd := congrArg Prod.fst hx
    simp only [List.map_cons, List.map_nil] at hd
    have g0 := hfs 0 f0 rfl
    simp [o0, t0, SlMg.cells_uint16] at g0
    have g1 := hfs 1 f1 rfl
    simp [o1, t1, SlMg.cells_uint16] at g1
    have g2 := hfs 2 f2 rfl
    simp [o2, t2, SlMg.cells_uint32] at g2
    have g3 := hfs 3 f3 rfl
    simp [o3, t3, SlMg.cells_bool] at g3
    have g4 := hfs 4 f4 rfl
    simp [o4, t4, SlMg.cells___uint8] at g4
    obtain ⟨stz, e0, _, w0⟩ := DataW.trod_int Try.underlying34 g0
    simp at e0
    subst e0
    obtain ⟨st, rfl⟩ : ∃ m : Nat, stz = (m : Int) := ⟨stz.toNat, by have := bounds_u16 w0; omega⟩
    have b0 : st < 65536 := by have := bounds_u16 w0; omega
    obtain ⟨ssz, e1, _, w1⟩ := DataW.trod_int Try.underlying34 g1
    simp at e1
    subst e1
    obtain ⟨ss, rfl⟩ : ∃ m : Nat, ssz = (m : Int) := ⟨ssz.toNat, by have := bounds_u16 w1; omega⟩
    have b1 : ss < 65536 := by have := bounds_u16 w1; omega
    obtain ⟨ppz, e2, _, w2⟩ := DataW.trod_int Try.underlying22 g2
    simp at e2
    subst e2
    obtain ⟨pp, rfl⟩ : ∃ m : Nat, ppz = (m : Int) := ⟨ppz.toNat, by have := bounds_u32 w2; omega⟩
    have b2 : pp < 4294967296 := by have := bounds_u32 w2; omega
    obtain ⟨fr, e3, _⟩ := DataW.trod_bool Try.underlying4 g3
    simp at e3
    subst e3
    obtain ⟨daA, daN, daC, daZ, rfl, s4, b4⟩ := SlMg.open_bytes g4 (fun q hq => hw q (by
      rw [hd]
      unfold DataW.weights
      rw [he]
      exact DataW.weights_mem_each (j := 4) (t := f4.type) (d := y4.1) rfl rfl q (by rw [t4]; exact hq)))
    exact ⟨st, ss, pp, fr, daA, daN, daC, daZ, rfl, b0, b1, b2, ⟨s4, b4⟩⟩
theorem SlMg.cellsAll : Try.prog.cellsOf 38 = 5 := by kernel_rfl
theorem SlMg.bytesAll : Try.prog.bytesOf 38 = 40 := by kernel_rfl
theorem SlMg.open {H : Type} {enc : TypeId × Value → H} {w : World} {base : Nat} {held : Bool} {fuel : Nat} {a : Option Addr} {n c : Nat} {y : DataW H × List MemPlace}
    (h : DataW.trod enc Try.prog w base (fun _ => true) held fuel 33 [.slice a n c] = some y) (hw : ∀ n ∈ y.1.weights Try.prog 33, n ≤ reachBytes) : ∃ dd, SlMg w a n c dd := by
  rcases Go.Deep.open_slice Try.underlying33 h with ⟨hcs, _⟩ | ⟨x, l, k, m, fn, D, Pl, hcs, hb, hl, hm, hmm, hx, hc⟩
  · simp at hcs
    obtain ⟨rfl, rfl, rfl⟩ := hcs
    exact ⟨[], rfl, Nat.le_refl _, by omega, .inl rfl, fun x hx => (by cases hx)⟩
  · simp at hcs
    obtain ⟨rfl, rfl, rfl⟩ := hcs
    have hmc : m = c := by simpa using hmm
    subst hmc
    subst hx
    have hsz : m * 40 ≤ reachBytes := by
      have := hw ((((List.range n).map D).length + ((List.range (m - n)).map fun j => D (n + j)).length) * Try.prog.bytesOf 38) (by
        unfold DataW.weights
        rw [Try.underlying33]
        simp)
      rw [SlMg.bytesAll] at this
      simp at this
      omega
    simp only [reachBytes] at hsz
    rw [SlMg.cellsAll] at hc
    have hwi : ∀ i, i < n → ∀ q ∈ (D i).weights Try.prog 38, q ≤ reachBytes := by
      intro i hi q hq
      refine hw q ?_
      unfold DataW.weights
      rw [Try.underlying33]
      simp only [List.mem_cons, List.mem_append]
      exact .inr (.inl (SlMg.wAll_mem (List.mem_map.2 ⟨i, List.mem_range.2 hi, rfl⟩) q hq))
    have each : ∀ i, i < n → ∃ q : MgD, (∀ j v, q.vals[j]? = some v → w.cell? (x.add (i * 5 + j)) = some v) ∧ q.Wf w := by
      intro i hi
      obtain ⟨cs', h1, h2⟩ := hc i (by omega)
      obtain ⟨_, hlen, hcell⟩ := World.cells?_some h1
      obtain ⟨st, ss, pp, fr, daA, daN, daC, daZ, rfl, Hst, Hss, Hpp, Hda⟩ := SlMg.open_all hlen h2 (hwi i hi)
      refine ⟨⟨st, ss, pp, fr, daA, daN, daC, daZ⟩, fun j v hv => ?_, ⟨Hst, Hss, Hpp, Hda⟩⟩
      have hj : j < 5 := (List.getElem?_eq_some_iff.1 hv).1
      have e := hcell j hj
      rw [Go.Deep.add_add] at e
      rw [e]
      exact hv
    obtain ⟨q, hq⟩ := Go.Deep.choose_lt each
    have hget : ∀ i z, ((List.range n).map q)[i]? = some z → i < n ∧ z = q i := fun i z hz => by
      have hi := (List.getElem?_eq_some_iff.1 hz).1
      simp at hi
      rw [List.getElem?_map, List.getElem?_range hi] at hz
      simp at hz
      exact ⟨hi, hz.symm⟩
    refine ⟨(List.range n).map q, by simp, hl, by omega, ?_, fun z hz => ?_⟩
    · by_cases h0 : n = 0
      · exact .inl h0
      · obtain ⟨b, off, spot⟩ := x
        have hc0 := (hq 0 (by omega)).1 0 _ rfl
        have hspot : spot = none := by simpa [Addr.add] using World.cell?_spot hc0
        subst hspot
        have hlt : b < w.heap.size := by
          have := hc0
          simp only [Addr.add, World.cell?] at this
          rcases Nat.lt_or_ge b w.heap.size with h9 | h9
          · exact h9
          · simp [h9] at this
        refine .inr ⟨b, off, rfl, hlt, fun i z hz j v hv => ?_⟩
        obtain ⟨hi, rfl⟩ := hget i z hz
        have h1 := (hq i hi).1 j v hv
        have ea : ∀ j, (⟨b, off, none⟩ : Addr).add j = ⟨b, off + j, none⟩ := by
          intro j
          unfold Addr.add
          split
          · subst_vars; rfl
          · rfl
        rw [ea] at h1
        rw [Nat.add_assoc]
        exact h1
    · obtain ⟨i, hi⟩ := List.getElem?_of_mem hz
      obtain ⟨hin, rfl⟩ := hget i z hi
      exact (hq i hin).2
set_option maxRecDepth 100000 in
/-- One, by value, as a parameter. -/
theorem SlMg.openV {H : Type} {enc : TypeId × Value → H} {w : World} {b0 base : Nat} {held : Bool} {v : Value} {d : DataW H} {p : List MemPlace}
    (hv : Value.okWide Try.prog w .any b0 38 v) (h : DataW.Trod enc Try.prog w base (fun _ => true) held 38 v d p) (hw : ∀ n ∈ d.weights Try.prog 38, n ≤ reachBytes) : ∃ x : MgD, v = .agg x.vals.toArray ∧ x.Wf w := by
  obtain ⟨f0, f1, f2, f3, f4, he, _⟩ := SlMg.open_all_fields
  obtain ⟨cs, rfl, hsz⟩ := okWide_struct he hv
  rw [SlMg.cellsAll] at hsz
  obtain ⟨cl⟩ := cs
  obtain ⟨fuel, hf⟩ := h
  have hf2 : DataW.trod enc Try.prog w base (fun _ => true) held fuel 38 cl = some (d, p) := hf
  obtain ⟨st, ss, pp, fr, daA, daN, daC, daZ, rfl, Hst, Hss, Hpp, Hda⟩ := SlMg.open_all hsz hf2 hw
  exact ⟨⟨st, ss, pp, fr, daA, daN, daC, daZ⟩, rfl, ⟨Hst, Hss, Hpp, Hda⟩⟩
end Go.Proofs.Ytconfmjgoipejaa
