/- A row of trunklinelaw15.Deed, as it lies in a world. -/
import Derived.Test.YteobibinfckmdaaProg
import Derived.Test.YteobibinfckmdaaBase
import Derived.Deep.Strs
import Derived.RowKit
import Derived.ChangeSlices
import Derived.SizedLaws
import Derived.ProofKit
import Derived.OpenShut
namespace Go.Proofs.Yteobibinfckmdaa
open Go.RowKit Go.ChangeShapes Go.WideShapes Go.ChangeAt
structure Pd where
  op : Int
  a : Int
  b : Int
  moved : Bool
  nonce : Nat
instance : Inhabited Pd := ⟨⟨0, 0, 0, false, 0⟩⟩
def Pd.vals (x : Pd) : List Value := [.int .i64 x.op, .int .i64 x.a, .int .i64 x.b, .bool x.moved, .int .u64 (x.nonce : Nat)]
def Pd.Wf (_w : World) (x : Pd) : Prop := (Lit.int .i64 x.op).wf = true ∧ (Lit.int .i64 x.a).wf = true ∧ (Lit.int .i64 x.b).wf = true ∧ x.nonce < 18446744073709551616
structure SlP (w : World) (a : Option Addr) (n c : Nat) (dd : List Pd) : Prop where
  len : dd.length = n
  cap : n ≤ c
  small : n ≤ 281474976710656
  at_ : n = 0 ∨ ∃ b off, a = some ⟨b, off, none⟩ ∧ b < w.heap.size ∧ ∀ i x, dd[i]? = some x → ∀ j v, x.vals[j]? = some v → w.cell? ⟨b, off + i * 5 + j, none⟩ = some v
  wf : ∀ x ∈ dd, x.Wf w
theorem SlP.below {w w' : World} {a : Option Addr} {n c : Nat} {dd : List Pd} (h : SlP w a n c dd) (hb : Below w.heap.size w w') : SlP w' a n c dd := by
  refine ⟨h.len, h.cap, h.small, ?_, fun x hx => ?_⟩
  · rcases h.at_ with h0 | ⟨b, off, rfl, hlt, hc⟩
    · exact .inl h0
    · exact .inr ⟨b, off, rfl, Nat.lt_of_lt_of_le hlt hb.size, fun i x hx j v hv => (hb.cell (p := ⟨b, off + i * 5 + j, none⟩) hlt).trans (hc i x hx j v hv)⟩
  · have hh := h.wf x hx
    exact hh
theorem SlP.wAll_mem {H : Type} {P : Program} {e : TypeId} : ∀ {ds : List (DataW H)} {d : DataW H}, d ∈ ds → ∀ n ∈ d.weights P e, n ∈ DataW.weightsAll P e ds
  | x :: ds, d, hd, n, hn => by
    unfold DataW.weightsAll
    rcases List.mem_cons.1 hd with rfl | h
    · exact List.mem_append_left _ hn
    · exact List.mem_append_right _ (SlP.wAll_mem h n hn)
theorem SlP.cells_int : Try.prog.cellsOf 3 = 1 := by kernel_rfl
theorem SlP.cells_bool : Try.prog.cellsOf 4 = 1 := by kernel_rfl
theorem SlP.cells_uint64 : Try.prog.cellsOf 36 = 1 := by kernel_rfl
theorem SlP.open_all_fields : ∃ f0 f1 f2 f3 f4 : Field, Try.prog.underlying 38 = some (.struct #[f0, f1, f2, f3, f4]) ∧ f0.offset = 0 ∧ f1.offset = 1 ∧ f2.offset = 2 ∧ f3.offset = 3 ∧ f4.offset = 4 ∧ f0.type = 3 ∧ f1.type = 3 ∧ f2.type = 3 ∧ f3.type = 4 ∧ f4.type = 36 := ⟨_, _, _, _, _, Try.underlying38, rfl, rfl, rfl, rfl, rfl, rfl, rfl, rfl, rfl, rfl⟩
set_option linter.unusedVariables false in
set_option maxRecDepth 100000 in
theorem SlP.open_all {H : Type} {enc : TypeId × Value → H} {w : World} {base : Nat} {held : Bool} {fuel : Nat} {cl : List Value} {y : DataW H × List MemPlace} (hl : cl.length = 5)
    (h : DataW.trod enc Try.prog w base (fun _ => true) held fuel 38 cl = some y) (hw : ∀ n ∈ y.1.weights Try.prog 38, n ≤ reachBytes) :
    ∃ (op : Int) (a : Int) (b : Int) (moved : Bool) (nonce : Nat), cl = [.int .i64 op, .int .i64 a, .int .i64 b, .bool moved, .int .u64 (nonce : Nat)] ∧ (Lit.int .i64 op).wf = true ∧ (Lit.int .i64 a).wf = true ∧ (Lit.int .i64 b).wf = true ∧ nonce < 18446744073709551616 := by
  obtain ⟨f0, f1, f2, f3, f4, he, o0, o1, o2, o3, o4, t0, t1, t2, t3, t4⟩ := SlP.open_all_fields
  obtain ⟨xs, m, _, hx, _, hlen, hfs⟩ := DataW.trod_struct he h
  have hlen2 : xs.length = 5 := hlen
  match cl, hl, xs, hlen2 with
  | [v0, v1, v2, v3, v4], _, [y0, y1, y2, y3, y4], _ =>
    have hd := congrArg Prod.fst hx
    simp only [List.map_cons, List.map_nil] at hd
    have g0 := hfs 0 f0 rfl
    simp [o0, t0, SlP.cells_int] at g0
    have g1 := hfs 1 f1 rfl
    simp [o1, t1, SlP.cells_int] at g1
    have g2 := hfs 2 f2 rfl
    simp [o2, t2, SlP.cells_int] at g2
    have g3 := hfs 3 f3 rfl
    simp [o3, t3, SlP.cells_bool] at g3
    have g4 := hfs 4 f4 rfl
    simp [o4, t4, SlP.cells_uint64] at g4
    obtain ⟨opz, e0, _, w0⟩ := DataW.trod_int Try.underlying3 g0
    simp at e0
    subst e0
    obtain ⟨az, e1, _, w1⟩ := DataW.trod_int Try.underlying3 g1
    simp at e1
    subst e1
    obtain ⟨bz, e2, _, w2⟩ := DataW.trod_int Try.underlying3 g2
    simp at e2
    subst e2
    obtain ⟨moved, e3, _⟩ := DataW.trod_bool Try.underlying4 g3
    simp at e3
    subst e3
    obtain ⟨noncez, e4, _, w4⟩ := DataW.trod_int Try.underlying36 g4
    simp at e4
    subst e4
    obtain ⟨nonce, rfl⟩ : ∃ m : Nat, noncez = (m : Int) := ⟨noncez.toNat, by have := bounds_u64 w4; omega⟩
    have b4 : nonce < 18446744073709551616 := by have := bounds_u64 w4; omega
    exact ⟨opz, az, bz, moved, nonce, rfl, w0, w1, w2, b4⟩
theorem SlP.cellsAll : Try.prog.cellsOf 38 = 5 := by kernel_rfl
theorem SlP.bytesAll : Try.prog.bytesOf 38 = 40 := by kernel_rfl
theorem SlP.open {H : Type} {enc : TypeId × Value → H} {w : World} {base : Nat} {held : Bool} {fuel : Nat} {a : Option Addr} {n c : Nat} {y : DataW H × List MemPlace}
    (h : DataW.trod enc Try.prog w base (fun _ => true) held fuel 22 [.slice a n c] = some y) (hw : ∀ n ∈ y.1.weights Try.prog 22, n ≤ reachBytes) : ∃ dd, SlP w a n c dd := by
  rcases Go.Deep.open_slice Try.underlying22 h with ⟨hcs, _⟩ | ⟨x, l, k, m, fn, D, Pl, hcs, hb, hl, hm, hmm, hx, hc⟩
  · simp at hcs
    obtain ⟨rfl, rfl, rfl⟩ := hcs
    exact ⟨[], rfl, Nat.le_refl _, by omega, .inl rfl, fun x hx => (by cases hx)⟩
  · simp at hcs
    obtain ⟨rfl, rfl, rfl⟩ := hcs
    have hmc : m = c := by simpa using hmm
    subst hmc
    subst hx
    have hsz : m * 40 ≤ reachBytes := by
      have := hw ((((List.range n).map D).length + ((List.range (m - n)).map fun j => D (n + j)).length) * Try.prog.bytesOf 38) (by
        unfold DataW.weights
        rw [Try.underlying22]
        simp)
      rw [SlP.bytesAll] at this
      simp at this
      omega
    simp only [reachBytes] at hsz
    rw [SlP.cellsAll] at hc
    have hwi : ∀ i, i < n → ∀ q ∈ (D i).weights Try.prog 38, q ≤ reachBytes := by
      intro i hi q hq
      refine hw q ?_
      unfold DataW.weights
      rw [Try.underlying22]
      simp only [List.mem_cons, List.mem_append]
      exact .inr (.inl (SlP.wAll_mem (List.mem_map.2 ⟨i, List.mem_range.2 hi, rfl⟩) q hq))
    have each : ∀ i, i < n → ∃ q : Pd, (∀ j v, q.vals[j]? = some v → w.cell? (x.add (i * 5 + j)) = some v) ∧ q.Wf w := by
      intro i hi
      obtain ⟨cs', h1, h2⟩ := hc i (by omega)
      obtain ⟨_, hlen, hcell⟩ := World.cells?_some h1
      obtain ⟨op, a, b, moved, nonce, rfl, Hop, Ha, Hb, Hnonce⟩ := SlP.open_all hlen h2 (hwi i hi)
      refine ⟨⟨op, a, b, moved, nonce⟩, fun j v hv => ?_, ⟨Hop, Ha, Hb, Hnonce⟩⟩
      have hj : j < 5 := (List.getElem?_eq_some_iff.1 hv).1
      have e := hcell j hj
      rw [Go.Deep.add_add] at e
      rw [e]
      exact hv
    obtain ⟨q, hq⟩ := Go.Deep.choose_lt each
    have hget : ∀ i z, ((List.range n).map q)[i]? = some z → i < n ∧ z = q i := fun i z hz => by
      have hi := (List.getElem?_eq_some_iff.1 hz).1
      simp at hi
      rw [List.getElem?_map, List.getElem?_range hi] at hz
      simp at hz
      exact ⟨hi, hz.symm⟩
    refine ⟨(List.range n).map q, by simp, hl, by omega, ?_, fun z hz => ?_⟩
    · by_cases h0 : n = 0
      · exact .inl h0
      · obtain ⟨b, off, spot⟩ := x
        have hc0 := (hq 0 (by omega)).1 0 _ rfl
        have hspot : spot = none := by simpa [Addr.add] using World.cell?_spot hc0
        subst hspot
        have hlt : b < w.heap.size := by
          have := hc0
          simp only [Addr.add, World.cell?] at this
          rcases Nat.lt_or_ge b w.heap.size with h9 | h9
          · exact h9
          · simp [h9] at this
        refine .inr ⟨b, off, rfl, hlt, fun i z hz j v hv => ?_⟩
        obtain ⟨hi, rfl⟩ := hget i z hz
        have h1 := (hq i hi).1 j v hv
        have ea : ∀ j, (⟨b, off, none⟩ : Addr).add j = ⟨b, off + j, none⟩ := by
          intro j
          unfold Addr.add
          split
          · subst_vars; rfl
          · rfl
        rw [ea] at h1
        rw [Nat.add_assoc]
        exact h1
    · obtain ⟨i, hi⟩ := List.getElem?_of_mem hz
      obtain ⟨hin, rfl⟩ := hget i z hi
      exact (hq i hin).2
end Go.Proofs.Yteobibinfckmdaa
