/- A row of deeds (a number, bytes, a number each), as it lies in a world. -/
import Derived.Test.YtmmbnikjlklflaaProg
import Derived.Test.YtmmbnikjlklflaaBase
import Derived.Deep.Strs
import Derived.RowKit
import Derived.ChangeSlices
import Derived.SizedLaws
namespace Go.Proofs.Ytmmbnikjlklflaa
open Go.RowKit Go.ChangeShapes Go.WideShapes
structure Dd where
  op : Int
  a : Option Addr
  n : Nat
  c : Nat
  zs : List Nat
  i : Int
structure SlG (w : World) (a : Option Addr) (n c : Nat) (dd : List Dd) : Prop where
  len : dd.length = n
  cap : n ≤ c
  small : n ≤ 281474976710656
  at_ : n = 0 ∨ ∃ b off, a = some ⟨b, off, none⟩ ∧ b < w.heap.size ∧ ∀ i x, dd[i]? = some x → w.cell? ⟨b, off + i * 3, none⟩ = some (.int .i64 x.op) ∧ w.cell? ⟨b, off + i * 3 + 1, none⟩ = some (.slice x.a x.n x.c) ∧ w.cell? ⟨b, off + i * 3 + 2, none⟩ = some (.int .i64 x.i)
  rows : ∀ x ∈ dd, Sl w x.a x.n x.c x.zs ∧ x.c ≤ 140737488351232
  ints : ∀ x ∈ dd, (Lit.int .i64 x.i).wf = true ∧ (Lit.int .i64 x.op).wf = true
theorem SlG.below {w w' : World} {a : Option Addr} {n c : Nat} {dd : List Dd} (h : SlG w a n c dd) (hb : Below w.heap.size w w') : SlG w' a n c dd := by
  refine ⟨h.len, h.cap, h.small, ?_, fun x hx => ⟨(h.rows x hx).1.below hb, (h.rows x hx).2⟩, h.ints⟩
  rcases h.at_ with h0 | ⟨b, off, rfl, hlt, hc⟩
  · exact .inl h0
  · refine .inr ⟨b, off, rfl, Nat.lt_of_lt_of_le hlt hb.size, fun i x hx => ?_⟩
    obtain ⟨h1, h2, h3⟩ := hc i x hx
    exact ⟨(hb.cell (p := ⟨b, off + i * 3, none⟩) hlt).trans h1, (hb.cell (p := ⟨b, off + i * 3 + 1, none⟩) hlt).trans h2, (hb.cell (p := ⟨b, off + i * 3 + 2, none⟩) hlt).trans h3⟩
theorem weightsAll_mem {H : Type} {P : Program} {e : TypeId} : ∀ {ds : List (DataW H)} {d : DataW H}, d ∈ ds → ∀ n ∈ d.weights P e, n ∈ DataW.weightsAll P e ds
  | x :: ds, d, hd, n, hn => by
    unfold DataW.weightsAll
    rcases List.mem_cons.1 hd with rfl | h
    · exact List.mem_append_left _ hn
    · exact List.mem_append_right _ (weightsAll_mem h n hn)
theorem bytes_u8n : Try.prog.bytesOf 5 = 1 := by kernel_rfl
theorem open_bytesN {H : Type} {enc : TypeId × Value → H} {w : World} {base : Nat} {held : Bool} {fuel : Nat} {v : Value} {y : DataW H × List MemPlace}
    (h : DataW.trod enc Try.prog w base (fun _ => true) held fuel 33 [v] = some y) (hw : ∀ n ∈ y.1.weights Try.prog 33, n ≤ reachBytes) : ∃ a n c zs, v = .slice a n c ∧ Sl w a n c zs ∧ c ≤ 140737488351232 := by
  rcases open_ints Try.underlying33 Try.underlying5 (by kernel_rfl) h with ⟨hcs, _⟩ | ⟨x, l, c, zs, hcs, _, hl, hm, hz, hx, hcell, hwz⟩
  · simp at hcs
    exact ⟨none, 0, 0, [], hcs, SlK.nil _ _ _ (by omega), by omega⟩
  · simp at hcs
    have hz' : zs.length = c := by simpa using hz
    have hb : (lits (H := H) .u8 (zs.take l)).length + (lits (H := H) .u8 (zs.drop l)).length ≤ reachBytes := by
      have := hw (((lits (H := H) .u8 (zs.take l)).length + (lits (H := H) .u8 (zs.drop l)).length) * Try.prog.bytesOf 5) (by
        rw [hx]
        unfold DataW.weights
        rw [Try.underlying33]
        simp)
      rwa [bytes_u8n, Nat.mul_one] at this
    simp only [lits, List.length_map, List.length_take, List.length_drop, reachBytes] at hb
    exact ⟨_, _, _, _, hcs, SlK.of_ints (by omega) (fun z hz => by simp [Lit.wf, IntKind.min, IntKind.max, IntKind.signed, IntKind.bits] at hz; omega) hl hm hz' (by omega) hcell hwz, by omega⟩
theorem fieldsG : ∃ f0 f1 f2 : Field, Try.prog.underlying 35 = some (.struct #[f0, f1, f2]) ∧ f0.offset = 0 ∧ f1.offset = 1 ∧ f2.offset = 2 ∧ f0.type = 3 ∧ f1.type = 33 ∧ f2.type = 3 := ⟨_, _, _, Try.underlying35, rfl, rfl, rfl, rfl, rfl, rfl⟩
theorem cellsG : Try.prog.cellsOf 35 = 3 := by kernel_rfl
theorem cellsGi : Try.prog.cellsOf 3 = 1 := by kernel_rfl
theorem cellsGb : Try.prog.cellsOf 33 = 1 := by kernel_rfl
theorem bytesG : Try.prog.bytesOf 35 = 40 := by kernel_rfl
instance : Inhabited Dd := ⟨⟨0, none, 0, 0, [], 0⟩⟩
theorem SlG.open {H : Type} {enc : TypeId × Value → H} {w : World} {base : Nat} {held : Bool} {fuel : Nat} {a : Option Addr} {n c : Nat} {y : DataW H × List MemPlace}
    (h : DataW.trod enc Try.prog w base (fun _ => true) held fuel 22 [.slice a n c] = some y) (hw : ∀ n ∈ y.1.weights Try.prog 22, n ≤ reachBytes) : ∃ dd, SlG w a n c dd := by
  obtain ⟨f0, f1, f2, he, o0, o1, o2, t0, t1, t2⟩ := fieldsG
  rcases Go.Deep.open_slice Try.underlying22 h with ⟨hcs, _⟩ | ⟨x, l, k, m, fn, D, Pl, hcs, hb, hl, hm, hmm, hx, hc⟩
  · simp at hcs
    obtain ⟨rfl, rfl, rfl⟩ := hcs
    exact ⟨[], rfl, Nat.le_refl _, by omega, .inl rfl, fun x hx => (by cases hx), fun x hx => (by cases hx)⟩
  · simp at hcs
    obtain ⟨rfl, rfl, rfl⟩ := hcs
    have hmc : m = c := by simpa using hmm
    subst hmc
    subst hx
    have hsz : m * 40 ≤ reachBytes := by
      have := hw ((((List.range n).map D).length + ((List.range (m - n)).map fun j => D (n + j)).length) * Try.prog.bytesOf 35) (by
        unfold DataW.weights
        rw [Try.underlying22]
        simp)
      rw [bytesG] at this
      simp at this
      omega
    simp only [reachBytes] at hsz
    rw [cellsG] at hc
    have hwi : ∀ i, i < n → ∀ q ∈ (D i).weights Try.prog 35, q ≤ reachBytes := by
      intro i hi q hq
      refine hw q ?_
      unfold DataW.weights
      rw [Try.underlying22]
      simp only [List.mem_cons, List.mem_append]
      exact .inr (.inl (weightsAll_mem (List.mem_map.2 ⟨i, List.mem_range.2 hi, rfl⟩) q hq))
    have each : ∀ i, i < n → ∃ q : Dd, w.cell? (x.add (i * 3)) = some (.int .i64 q.op) ∧ w.cell? (x.add (i * 3 + 1)) = some (.slice q.a q.n q.c) ∧ w.cell? (x.add (i * 3 + 2)) = some (.int .i64 q.i) ∧ (Sl w q.a q.n q.c q.zs ∧ q.c ≤ 140737488351232) ∧ ((Lit.int .i64 q.i).wf = true ∧ (Lit.int .i64 q.op).wf = true) := by
      intro i hi
      obtain ⟨cs', h1, h2⟩ := hc i (by omega)
      obtain ⟨_, hlen, hcell⟩ := World.cells?_some h1
      obtain ⟨y0, y1, y2, k, hD, _, g0, g1, g2⟩ := Go.Deep.trod_struct3 he h2
      match cs', hlen with
      | [v0, v1, v2], _ =>
        simp [o0, o1, o2, t0, t1, t2, cellsGi, cellsGb] at g0 g1 g2
        obtain ⟨z0, hz0, _, hw0⟩ := DataW.trod_int Try.underlying3 g0
        obtain ⟨z2, hz2, _, hw2⟩ := DataW.trod_int Try.underlying3 g2
        have hDi : D i = .agg [y0.1, y1.1, y2.1] := (Prod.mk.inj hD).1
        obtain ⟨a1, n1, c1, zs1, rfl, hs1, hc1⟩ := open_bytesN g1 (fun q hq => hwi i hi q (by
          rw [hDi]
          unfold DataW.weights
          rw [he]
          exact DataW.weights_mem_each (j := 1) (t := f1.type) (d := y1.1) rfl rfl q (by rw [t1]; exact hq)))
        have e0 := hcell 0 (by omega)
        have e1 := hcell 1 (by omega)
        have e2 := hcell 2 (by omega)
        rw [Go.Deep.add_add] at e0 e1 e2
        simp at hz0 hz2
        refine ⟨⟨z0, a1, n1, c1, zs1, z2⟩, ?_, ?_, ?_, ⟨hs1, hc1⟩, hw2, hw0⟩
        · rw [← hz0]; simpa using e0
        · simpa using e1
        · rw [← hz2]; simpa using e2
    obtain ⟨q, hq⟩ := Go.Deep.choose_lt each
    have hget : ∀ i z, ((List.range n).map q)[i]? = some z → i < n ∧ z = q i := fun i z hz => by
      have hi := (List.getElem?_eq_some_iff.1 hz).1
      simp at hi
      rw [List.getElem?_map, List.getElem?_range hi] at hz
      simp at hz
      exact ⟨hi, hz.symm⟩
    refine ⟨(List.range n).map q, by simp, hl, by omega, ?_, fun z hz => ?_, fun z hz => ?_⟩
    · by_cases h0 : n = 0
      · exact .inl h0
      · obtain ⟨b, off, spot⟩ := x
        have hc0 := (hq 0 (by omega)).1
        have hspot : spot = none := by simpa [Addr.add] using World.cell?_spot hc0
        subst hspot
        have hlt : b < w.heap.size := by
          have := hc0
          simp only [Addr.add, World.cell?] at this
          rcases Nat.lt_or_ge b w.heap.size with h9 | h9
          · exact h9
          · simp [h9] at this
        refine .inr ⟨b, off, rfl, hlt, fun i z hz => ?_⟩
        obtain ⟨hi, rfl⟩ := hget i z hz
        obtain ⟨h1, h2, h3, _⟩ := hq i hi
        have ea : ∀ j, (⟨b, off, none⟩ : Addr).add j = ⟨b, off + j, none⟩ := by
          intro j
          unfold Addr.add
          split
          · subst_vars; rfl
          · rfl
        rw [ea] at h1 h2 h3
        exact ⟨h1, by rw [Nat.add_assoc]; exact h2, by rw [Nat.add_assoc]; exact h3⟩
    · obtain ⟨i, hi⟩ := List.getElem?_of_mem hz
      obtain ⟨hin, rfl⟩ := hget i z hi
      exact (hq i hin).2.2.2.1
    · obtain ⟨i, hi⟩ := List.getElem?_of_mem hz
      obtain ⟨hin, rfl⟩ := hget i z hi
      exact (hq i hin).2.2.2.2
end Go.Proofs.Ytmmbnikjlklflaa
