/- A row of rows of bytes that was handed in, as it lies in a world; its opening under the second form's bound. -/
import Derived.Test.YtdglclokjfinfaaDoorRows
import Derived.Test.YtdglclokjfinfaaDoorHSumOf
import Derived.Deep.Strs
import Derived.RowKit
import Derived.ChangeSlices
import Derived.SizedLaws
namespace Go.Proofs.YtdglclokjfinfaaDoor
open Go.RowKit Go.ChangeShapes Go.WideShapes
structure SlR (w : World) (a : Option Addr) (n c : Nat) (rr : List (Option Addr × Nat × Nat × List Nat)) : Prop where
  len : rr.length = n
  cap : n ≤ c
  at_ : n = 0 ∨ ∃ b off, a = some ⟨b, off, none⟩ ∧ b < w.heap.size ∧ ∀ (i : Nat) (x : Option Addr × Nat × Nat × List Nat), rr[i]? = some x → w.cell? ⟨b, off + i, none⟩ = some (.slice x.1 x.2.1 x.2.2.1)
  rows : ∀ (i : Nat) (x : Option Addr × Nat × Nat × List Nat), rr[i]? = some x → Sl w x.1 x.2.1 x.2.2.1 x.2.2.2
theorem SlR.below {w w' : World} {a : Option Addr} {n c : Nat} {rr : List (Option Addr × Nat × Nat × List Nat)} (h : SlR w a n c rr) (hb : Below w.heap.size w w') : SlR w' a n c rr := by
  refine ⟨h.len, h.cap, ?_, fun i x hx => (h.rows i x hx).below hb⟩
  rcases h.at_ with h0 | ⟨b, off, rfl, hlt, hc⟩
  · exact .inl h0
  · exact .inr ⟨b, off, rfl, Nat.lt_of_lt_of_le hlt hb.size, fun i x hx => (hb.cell (p := ⟨b, off + i, none⟩) hlt).trans (hc i x hx)⟩
theorem bulk_litsR {H : Type} (k : IntKind) : ∀ zs : List Int, Rows.uptoBulkAll (lits (H := H) k zs) = zs.length
  | [] => rfl
  | z :: zs => by
    show Rows.uptoBulk (.lit (.int k z) : DataW H) + Rows.uptoBulkAll (lits (H := H) k zs) = _
    rw [bulk_litsR k zs]
    simp [Rows.uptoBulk]
    omega
theorem open_bytesR {H : Type} {enc : TypeId × Value → H} {w : World} {base : Nat} {held : Bool} {fuel : Nat} {v : Value} {y : DataW H × List MemPlace}
    (h : DataW.trod enc Tryd.prog w base (fun _ => true) held fuel 22 [v] = some y) (hw : Rows.uptoBulk y.1 ≤ 1048576) : ∃ a n c zs, v = .slice a n c ∧ Sl w a n c zs ∧ zs.length ≤ Rows.uptoBulk y.1 := by
  rcases open_ints Tryd.underlying22 Tryd.underlying5 (by kernel_rfl) h with ⟨hcs, _⟩ | ⟨x, l, c, zs, hcs, _, hl, hm, hz, hx, hcell, hwz⟩
  · simp at hcs
    exact ⟨none, 0, 0, [], hcs, SlK.nil _ _ _ (by omega), by simp⟩
  · simp at hcs
    have hz' : zs.length = c := by simpa using hz
    have hb := hw
    rw [hx] at hb ⊢
    simp only [Rows.uptoBulk, bulk_litsR, List.length_take] at hb ⊢
    exact ⟨_, _, _, _, hcs, SlK.of_ints (by omega) (fun z hz => by simp [Lit.wf, IntKind.min, IntKind.max, IntKind.signed, IntKind.bits] at hz; omega) hl hm hz' (by omega) hcell hwz, by simp only [List.length_map, List.length_take]; omega⟩
theorem cellsRb : Tryd.prog.cellsOf 22 = 1 := by kernel_rfl
theorem bulkAll_map {H : Type} (D : Nat → DataW H) (f : Nat → List Nat) : ∀ n, (∀ i, i < n → (f i).length ≤ Rows.uptoBulk (D i)) → ((List.range n).flatMap f).length ≤ Rows.uptoBulkAll ((List.range n).map D)
  | 0, _ => by simp
  | n + 1, h => by
    have ih := bulkAll_map D f n (fun i hi => h i (by omega))
    have hn := h n (by omega)
    have happ : ∀ (l : List (DataW H)) (d : DataW H), Rows.uptoBulkAll (l ++ [d]) = Rows.uptoBulkAll l + Rows.uptoBulk d := by
      intro l d
      induction l with
      | nil => simp [Rows.uptoBulkAll]
      | cons x l ihl => simp only [List.cons_append, Rows.uptoBulkAll, ihl]; omega
    rw [List.range_succ, List.flatMap_append, List.map_append, List.length_append]
    simp only [List.map_cons, List.map_nil, List.flatMap_cons, List.flatMap_nil, List.append_nil]
    rw [happ]
    omega
theorem bulkAll_mem {H : Type} : ∀ {ds : List (DataW H)} {d : DataW H}, d ∈ ds → Rows.uptoBulk d ≤ Rows.uptoBulkAll ds
  | x :: ds, d, hd => by
    simp only [Rows.uptoBulkAll]
    rcases List.mem_cons.1 hd with rfl | h
    · omega
    · have := bulkAll_mem h; omega
theorem SlR.open {H : Type} {enc : TypeId × Value → H} {w : World} {base : Nat} {held : Bool} {fuel : Nat} {a : Option Addr} {n c : Nat} {y : DataW H × List MemPlace}
    (h : DataW.trod enc Tryd.prog w base (fun _ => true) held fuel 31 [.slice a n c] = some y) (hw : Rows.uptoBulk y.1 ≤ 1048576) : ∃ rr, SlR w a n c rr ∧ (flatB rr).length ≤ 1048576 ∧ n ≤ 9223372036854775807 := by
  rcases Go.Deep.open_slice Tryd.underlying31 h with ⟨hcs, _⟩ | ⟨x, l, k, m, fn, D, Pl, hcs, hb, hl, hm, hmm, hx, hc⟩
  · simp at hcs
    obtain ⟨rfl, rfl, rfl⟩ := hcs
    exact ⟨[], ⟨rfl, Nat.le_refl _, .inl rfl, fun i x hx => by simp at hx⟩, by simp [flatB], by omega⟩
  · simp at hcs
    obtain ⟨rfl, rfl, rfl⟩ := hcs
    have hmc : m = c := by simpa using hmm
    subst hmc
    subst hx
    simp only [Rows.uptoBulk] at hw
    rw [cellsRb] at hc
    have each : ∀ i, i < n → ∃ q : Option Addr × Nat × Nat × List Nat, w.cell? (x.add i) = some (.slice q.1 q.2.1 q.2.2.1) ∧ Sl w q.1 q.2.1 q.2.2.1 q.2.2.2 ∧ q.2.2.2.length ≤ Rows.uptoBulk (D i) := by
      intro i hi
      obtain ⟨cs', h1, h2⟩ := hc i (by omega)
      obtain ⟨_, hlen, hcell⟩ := World.cells?_some h1
      match cs', hlen with
      | [v0], _ =>
        have hbi : Rows.uptoBulk (D i) ≤ 1048576 := by
          have := bulkAll_mem (List.mem_map.2 ⟨i, List.mem_range.2 hi, rfl⟩ : D i ∈ (List.range n).map D)
          omega
        obtain ⟨a1, n1, c1, zs1, rfl, hs1, hl1⟩ := open_bytesR h2 hbi
        have e0 := hcell 0 (by omega)
        rw [Go.Deep.add_add] at e0
        exact ⟨(a1, n1, c1, zs1), by simpa using e0, hs1, hl1⟩
    obtain ⟨q, hq⟩ := Go.Deep.choose_lt each
    have hget : ∀ i z, ((List.range n).map q)[i]? = some z → i < n ∧ z = q i := fun i z hz => by
      have hi := (List.getElem?_eq_some_iff.1 hz).1
      simp at hi
      rw [List.getElem?_map, List.getElem?_range hi] at hz
      simp at hz
      exact ⟨hi, hz.symm⟩
    have hfl : (flatB ((List.range n).map q)).length ≤ 1048576 := by
      have := bulkAll_map D (fun i => (q i).2.2.2) n (fun i hi => (hq i hi).2.2)
      unfold flatB
      rw [List.flatMap_map]
      omega
    refine ⟨(List.range n).map q, ⟨by simp, hl, ?_, fun i z hz => ?_⟩, hfl, ?_⟩
    · by_cases h0 : n = 0
      · exact .inl h0
      · obtain ⟨b, off, spot⟩ := x
        have hc0 := (hq 0 (by omega)).1
        have hspot : spot = none := by simpa [Addr.add] using World.cell?_spot hc0
        subst hspot
        have hlt : b < w.heap.size := by
          have := hc0
          simp only [Addr.add, World.cell?] at this
          rcases Nat.lt_or_ge b w.heap.size with h9 | h9
          · exact h9
          · simp [h9] at this
        refine .inr ⟨b, off, rfl, hlt, fun i z hz => ?_⟩
        obtain ⟨hi, rfl⟩ := hget i z hz
        have ea : ∀ j, (⟨b, off, none⟩ : Addr).add j = ⟨b, off + j, none⟩ := by
          intro j
          unfold Addr.add
          split
          · subst_vars; rfl
          · rfl
        have := (hq i hi).1
        rwa [ea] at this
    · obtain ⟨hi, rfl⟩ := hget i z hz
      exact (hq i hi).2.1
    · unfold maxLen at hm
      omega
end Go.Proofs.YtdglclokjfinfaaDoor
