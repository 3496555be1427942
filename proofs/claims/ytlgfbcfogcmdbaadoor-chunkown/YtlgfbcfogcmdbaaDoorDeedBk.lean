/- A row of blocks, a row of doubles, as they lie in a world that was handed in. -/
import Derived.Test.YtlgfbcfogcmdbaaDoorProg
import Derived.Test.YtlgfbcfogcmdbaaDoorWr8
import Derived.Deep.Strs
import Derived.RowKit
import Derived.ChangeSlices
import Derived.SizedLaws
import Derived.ProofKit
import Derived.OpenShut
import Derived.ChangeArms
import Derived.WideShapes
namespace Go.Proofs.YtlgfbcfogcmdbaaDoor
open Go.RowKit Go.ChangeShapes Go.WideShapes Go.ChangeAt
theorem BkR.below {w w' : World} {a : Option Addr} {n c : Nat} {bs : List (Nat × Nat)} (h : BkR w a n c bs) (hb : Below w.heap.size w w') : BkR w' a n c bs := by
  refine ⟨h.len, h.cap, h.less, ?_⟩
  rcases h.at_ with h0 | ⟨b, off, rfl, hlt, hc⟩
  · exact .inl h0
  · refine .inr ⟨b, off, rfl, Nat.lt_of_lt_of_le hlt hb.size, fun i p hp => ?_⟩
    obtain ⟨h1, h2, h3, h4⟩ := hc i p hp
    exact ⟨h1, h2, (hb.cell (p := ⟨b, off + i * 2, none⟩) hlt).trans h3, (hb.cell (p := ⟨b, off + i * 2 + 1, none⟩) hlt).trans h4⟩
def SlDu (w : World) (a : Option Addr) (n c : Nat) (ds : List Nat) : Prop := SlK .u32 4294967296 w a n c ds
theorem SlDu.below {w w' : World} {a : Option Addr} {n c : Nat} {ds : List Nat} (h : SlDu w a n c ds) (hb : Below w.heap.size w w') : SlDu w' a n c ds := SlK.below h hb
theorem SlDu.bytes4 : Tryd.prog.bytesOf 23 = 4 := by kernel_rfl
set_option maxRecDepth 100000 in
theorem SlDu.open {H : Type} {enc : TypeId × Value → H} {w : World} {base : Nat} {held : Bool} {fuel : Nat} {a : Option Addr} {n c : Nat} {y : DataW H × List MemPlace}
    (h : DataW.trod enc Tryd.prog w base (fun _ => true) held fuel 28 [.slice a n c] = some y) (hw : ∀ n ∈ y.1.weights Tryd.prog 28, n ≤ reachBytes) : ∃ ds, SlDu w a n c ds := by
  rcases open_ints Tryd.underlying28 Tryd.underlying23 (by kernel_rfl) h with ⟨hcs, _⟩ | ⟨x, l, c', zs, hcs, _, hl, hm, hz, hx, hcell, hwz⟩
  · simp at hcs
    obtain ⟨rfl, rfl, rfl⟩ := hcs
    exact ⟨[], SlK.nil _ _ _ (by omega)⟩
  · simp at hcs
    obtain ⟨rfl, rfl, rfl⟩ := hcs
    have hz' : zs.length = c := by simpa using hz
    have hb : ((lits (H := H) .u32 (zs.take n)).length + (lits (H := H) .u32 (zs.drop n)).length) * 4 ≤ reachBytes := by
      have := hw (((lits (H := H) .u32 (zs.take n)).length + (lits (H := H) .u32 (zs.drop n)).length) * Tryd.prog.bytesOf 23) (by
        rw [hx]
        unfold DataW.weights
        rw [Tryd.underlying28]
        simp)
      rwa [SlDu.bytes4] at this
    simp only [lits, List.length_map, List.length_take, List.length_drop, reachBytes] at hb
    exact ⟨_, SlK.of_ints (by omega) (fun z hz => by have := bounds_u32 hz; omega) hl hm hz' (by omega) hcell hwz⟩
theorem BkR.cells2 : Tryd.prog.cellsOf 71 = 2 := by kernel_rfl
theorem BkR.cells1 : Tryd.prog.cellsOf 22 = 1 := by kernel_rfl
theorem BkR.bytes4 : Tryd.prog.bytesOf 71 = 4 := by kernel_rfl
set_option maxRecDepth 100000 in
theorem BkR.open {H : Type} {enc : TypeId × Value → H} {w : World} {base : Nat} {held : Bool} {fuel : Nat} {a : Option Addr} {n c : Nat} {y : DataW H × List MemPlace}
    (h : DataW.trod enc Tryd.prog w base (fun _ => true) held fuel 27 [.slice a n c] = some y) (hw : ∀ n ∈ y.1.weights Tryd.prog 27, n ≤ reachBytes) : ∃ bs, BkR w a n c bs := by
  rcases Go.Deep.open_slice Tryd.underlying27 h with ⟨hcs, _⟩ | ⟨x, l, k, m, fn, D, Pl, hcs, hb, hl, hm, hmm, hx, hc⟩
  · simp at hcs
    obtain ⟨rfl, rfl, rfl⟩ := hcs
    exact ⟨[], rfl, Nat.le_refl _, by omega, .inl rfl⟩
  · simp at hcs
    obtain ⟨rfl, rfl, rfl⟩ := hcs
    have hmc : m = c := by simpa using hmm
    subst hmc
    subst hx
    have hsz : m * 4 ≤ reachBytes := by
      have := hw ((((List.range n).map D).length + ((List.range (m - n)).map fun j => D (n + j)).length) * Tryd.prog.bytesOf 71) (by
        unfold DataW.weights
        rw [Tryd.underlying27]
        simp)
      rw [BkR.bytes4] at this
      simp at this
      omega
    simp only [reachBytes] at hsz
    rw [BkR.cells2] at hc
    have each : ∀ i, i < n → ∃ q : Nat × Nat, q.1 < 65536 ∧ q.2 < 65536 ∧ w.cell? (x.add (i * 2)) = some (.int .u16 (q.1 : Nat)) ∧ w.cell? (x.add (i * 2 + 1)) = some (.int .u16 (q.2 : Nat)) := by
      intro i hi
      obtain ⟨cs', h1, h2⟩ := hc i (by omega)
      obtain ⟨_, hlen, hcell⟩ := World.cells?_some h1
      obtain ⟨xs, m', _, _, hcl, hxl, hel⟩ := DataW.trod_array Tryd.underlying71 h2
      match cs', hlen with
      | [c0, c1], _ =>
        have g0 := hel 0 (by omega)
        rw [BkR.cells1, List.getElem?_eq_getElem (show 0 < xs.length by omega)] at g0
        obtain ⟨i0, q0, _, w0⟩ := DataW.trod_int Tryd.underlying22 g0
        simp at q0
        have g1 := hel 1 (by omega)
        rw [BkR.cells1, List.getElem?_eq_getElem (show 1 < xs.length by omega)] at g1
        obtain ⟨i1, q1, _, w1⟩ := DataW.trod_int Tryd.underlying22 g1
        simp at q1
        subst q0 q1
        have e0 := hcell 0 (by omega)
        have e1 := hcell 1 (by omega)
        rw [Go.Deep.add_add] at e0 e1
        have b0 := bounds_u16 w0
        have b1 := bounds_u16 w1
        refine ⟨(i0.toNat, i1.toNat), by show i0.toNat < 65536; omega, by show i1.toNat < 65536; omega, ?_, ?_⟩
        · have : ((i0.toNat : Nat) : Int) = i0 := by omega
          rw [this]
          exact e0
        · have : ((i1.toNat : Nat) : Int) = i1 := by omega
          rw [this]
          exact e1
    obtain ⟨q, hq⟩ := Go.Deep.choose_lt each
    refine ⟨(List.range n).map q, by simp, hl, by omega, ?_⟩
    by_cases h0 : n = 0
    · exact .inl h0
    · obtain ⟨b, off, spot⟩ := x
      have hc0 := (hq 0 (by omega)).2.2.1
      have hspot : spot = none := by simpa [Addr.add] using World.cell?_spot hc0
      subst hspot
      have hlt : b < w.heap.size := by
        have := hc0
        simp only [Addr.add, World.cell?] at this
        rcases Nat.lt_or_ge b w.heap.size with h9 | h9
        · exact h9
        · simp [h9] at this
      refine .inr ⟨b, off, rfl, hlt, fun i z hz => ?_⟩
      have hi := (List.getElem?_eq_some_iff.1 hz).1
      simp at hi
      rw [List.getElem?_map, List.getElem?_range hi] at hz
      simp at hz
      subst hz
      obtain ⟨h1, h2, h3, h4⟩ := hq i hi
      have ea : ∀ j, (⟨b, off, none⟩ : Addr).add j = ⟨b, off + j, none⟩ := by
        intro j
        unfold Addr.add
        split
        · subst_vars; rfl
        · rfl
      rw [ea] at h3 h4
      exact ⟨h1, h2, h3, by rw [Nat.add_assoc]; exact h4⟩
end Go.Proofs.YtlgfbcfogcmdbaaDoor
