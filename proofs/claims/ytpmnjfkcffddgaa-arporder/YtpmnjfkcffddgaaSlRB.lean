/- A row of rows of bytes that was handed in, as it lies in a world; its opening (first form). -/
import Derived.Test.YtpmnjfkcffddgaaProg
import Derived.Test.YtpmnjfkcffddgaaBase
import Derived.Deep.Strs
import Derived.RowKit
import Derived.ChangeSlices
import Derived.SizedLaws
import Derived.ProofKit
import Derived.OpenShut
namespace Go.Proofs.Ytpmnjfkcffddgaa
open Go.RowKit Go.ChangeShapes Go.WideShapes Go.ChangeAt
structure SlRB (w : World) (a : Option Addr) (n c : Nat) (rr : List (Option Addr × Nat × Nat × List Nat)) : Prop where
  len : rr.length = n
  cap : n ≤ c
  small : n ≤ 281474976710656
  at_ : n = 0 ∨ ∃ b off, a = some ⟨b, off, none⟩ ∧ b < w.heap.size ∧ ∀ (i : Nat) (x : Option Addr × Nat × Nat × List Nat), rr[i]? = some x → w.cell? ⟨b, off + i, none⟩ = some (.slice x.1 x.2.1 x.2.2.1)
  rows : ∀ (i : Nat) (x : Option Addr × Nat × Nat × List Nat), rr[i]? = some x → Sl w x.1 x.2.1 x.2.2.1 x.2.2.2
theorem SlRB.below {w w' : World} {a : Option Addr} {n c : Nat} {rr : List (Option Addr × Nat × Nat × List Nat)} (h : SlRB w a n c rr) (hb : Below w.heap.size w w') : SlRB w' a n c rr := by
  refine ⟨h.len, h.cap, h.small, ?_, fun i x hx => (h.rows i x hx).below hb⟩
  rcases h.at_ with h0 | ⟨b, off, rfl, hlt, hc⟩
  · exact .inl h0
  · exact .inr ⟨b, off, rfl, Nat.lt_of_lt_of_le hlt hb.size, fun i x hx => (hb.cell (p := ⟨b, off + i, none⟩) hlt).trans (hc i x hx)⟩
theorem SlRB.wAll_mem {H : Type} {P : Program} {e : TypeId} : ∀ {ds : List (DataW H)} {d : DataW H}, d ∈ ds → ∀ n ∈ d.weights P e, n ∈ DataW.weightsAll P e ds
  | x :: ds, d, hd, n, hn => by
    unfold DataW.weightsAll
    rcases List.mem_cons.1 hd with rfl | h
    · exact List.mem_append_left _ hn
    · exact List.mem_append_right _ (SlRB.wAll_mem h n hn)
theorem SlRB.bytes_u8 : Try.prog.bytesOf 5 = 1 := by kernel_rfl
theorem SlRB.bytesAll : Try.prog.bytesOf 29 = 24 := by kernel_rfl
theorem SlRB.cellsAll : Try.prog.cellsOf 29 = 1 := by kernel_rfl
theorem SlRB.open_bytes {H : Type} {enc : TypeId × Value → H} {w : World} {base : Nat} {held : Bool} {fuel : Nat} {v : Value} {y : DataW H × List MemPlace}
    (h : DataW.trod enc Try.prog w base (fun _ => true) held fuel 29 [v] = some y) (hw : ∀ n ∈ y.1.weights Try.prog 29, n ≤ reachBytes) : ∃ a n c zs, v = .slice a n c ∧ Sl w a n c zs := by
  rcases open_ints Try.underlying29 Try.underlying5 (by kernel_rfl) h with ⟨hcs, _⟩ | ⟨x, l, c, zs, hcs, _, hl, hm, hz, hx, hcell, hwz⟩
  · simp at hcs
    exact ⟨none, 0, 0, [], hcs, SlK.nil _ _ _ (by omega)⟩
  · simp at hcs
    have hz' : zs.length = c := by simpa using hz
    have hb : (lits (H := H) .u8 (zs.take l)).length + (lits (H := H) .u8 (zs.drop l)).length ≤ reachBytes := by
      have := hw (((lits (H := H) .u8 (zs.take l)).length + (lits (H := H) .u8 (zs.drop l)).length) * Try.prog.bytesOf 5) (by
        rw [hx]
        unfold DataW.weights
        rw [Try.underlying29]
        simp)
      rwa [SlRB.bytes_u8, Nat.mul_one] at this
    simp only [lits, List.length_map, List.length_take, List.length_drop, reachBytes] at hb
    exact ⟨_, _, _, _, hcs, SlK.of_ints (by omega) (fun z hz => by simp [Lit.wf, IntKind.min, IntKind.max, IntKind.signed, IntKind.bits] at hz; omega) hl hm hz' (by omega) hcell hwz⟩
theorem SlRB.open {H : Type} {enc : TypeId × Value → H} {w : World} {base : Nat} {held : Bool} {fuel : Nat} {a : Option Addr} {n c : Nat} {y : DataW H × List MemPlace}
    (h : DataW.trod enc Try.prog w base (fun _ => true) held fuel 34 [.slice a n c] = some y) (hw : ∀ n ∈ y.1.weights Try.prog 34, n ≤ reachBytes) : ∃ dd, SlRB w a n c dd := by
  rcases Go.Deep.open_slice Try.underlying34 h with ⟨hcs, _⟩ | ⟨x, l, k, m, fn, D, Pl, hcs, hb, hl, hm, hmm, hx, hc⟩
  · simp at hcs
    obtain ⟨rfl, rfl, rfl⟩ := hcs
    exact ⟨[], rfl, Nat.le_refl _, by omega, .inl rfl, fun i x hx => (by simp at hx)⟩
  · simp at hcs
    obtain ⟨rfl, rfl, rfl⟩ := hcs
    have hmc : m = c := by simpa using hmm
    subst hmc
    subst hx
    have hsz : m * 24 ≤ reachBytes := by
      have := hw ((((List.range n).map D).length + ((List.range (m - n)).map fun j => D (n + j)).length) * Try.prog.bytesOf 29) (by
        unfold DataW.weights
        rw [Try.underlying34]
        simp)
      rw [SlRB.bytesAll] at this
      simp at this
      omega
    simp only [reachBytes] at hsz
    rw [SlRB.cellsAll] at hc
    have hwi : ∀ i, i < n → ∀ q ∈ (D i).weights Try.prog 29, q ≤ reachBytes := by
      intro i hi q hq
      refine hw q ?_
      unfold DataW.weights
      rw [Try.underlying34]
      simp only [List.mem_cons, List.mem_append]
      exact .inr (.inl (SlRB.wAll_mem (List.mem_map.2 ⟨i, List.mem_range.2 hi, rfl⟩) q hq))
    have each : ∀ i, i < n → ∃ q : Option Addr × Nat × Nat × List Nat, w.cell? (x.add i) = some (.slice q.1 q.2.1 q.2.2.1) ∧ Sl w q.1 q.2.1 q.2.2.1 q.2.2.2 := by
      intro i hi
      obtain ⟨cs', h1, h2⟩ := hc i (by omega)
      obtain ⟨_, hlen, hcell⟩ := World.cells?_some h1
      match cs', hlen with
      | [v0], _ =>
        obtain ⟨a0, n0, c0, zs0, rfl, hs0⟩ := SlRB.open_bytes h2 (hwi i hi)
        refine ⟨(a0, n0, c0, zs0), ?_, hs0⟩
        have e := hcell 0 (by simp)
        rw [Go.Deep.add_add] at e
        simpa using e
    obtain ⟨q, hq⟩ := Go.Deep.choose_lt each
    have hget : ∀ i z, ((List.range n).map q)[i]? = some z → i < n ∧ z = q i := fun i z hz => by
      have hi := (List.getElem?_eq_some_iff.1 hz).1
      simp at hi
      rw [List.getElem?_map, List.getElem?_range hi] at hz
      simp at hz
      exact ⟨hi, hz.symm⟩
    refine ⟨(List.range n).map q, by simp, hl, by omega, ?_, fun i z hz => ?_⟩
    · by_cases h0 : n = 0
      · exact .inl h0
      · obtain ⟨b, off, spot⟩ := x
        have hc0 := (hq 0 (by omega)).1
        have hspot : spot = none := by simpa [Addr.add] using World.cell?_spot hc0
        subst hspot
        have hlt : b < w.heap.size := by
          have := hc0
          simp only [Addr.add, World.cell?] at this
          rcases Nat.lt_or_ge b w.heap.size with h9 | h9
          · exact h9
          · simp [h9] at this
        refine .inr ⟨b, off, rfl, hlt, fun i z hz => ?_⟩
        obtain ⟨hi, rfl⟩ := hget i z hz
        have h1 := (hq i hi).1
        have ea : ∀ j, (⟨b, off, none⟩ : Addr).add j = ⟨b, off + j, none⟩ := by
          intro j
          unfold Addr.add
          split
          · subst_vars; rfl
          · rfl
        rw [ea] at h1
        exact h1
    · obtain ⟨hin, rfl⟩ := hget i z hz
      exact (hq i hin).2
end Go.Proofs.Ytpmnjfkcffddgaa
