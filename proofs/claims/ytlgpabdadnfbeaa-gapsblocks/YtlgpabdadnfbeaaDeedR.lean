/- A row of deeds (a number of 16 bits and a flag each), as it lies in a world. -/
import Derived.Test.YtlgpabdadnfbeaaProg
import Derived.Test.YtlgpabdadnfbeaaBase
import Derived.Deep.SlicePairs
import Derived.RowKit
namespace Go.Proofs.Ytlgpabdadnfbeaa
open Go.RowKit Go.ChangeShapes Go.WideShapes
structure SlD (w : World) (a : Option Addr) (n c : Nat) (bs : List Int) (qs : List Bool) : Prop where
  len : bs.length = n
  len2 : qs.length = n
  cap : n ≤ c
  room : c ≤ maxLen
  small : n ≤ 281474976710656
  bnd : ∀ i, -32768 ≤ bs.getD i 0 ∧ bs.getD i 0 < 32768
  at_ : n = 0 ∨ ∃ b off, a = some ⟨b, off, none⟩ ∧ b < w.heap.size ∧ ∀ i, i < n → w.cell? ⟨b, off + i * 2, none⟩ = some (.int .i16 (bs.getD i 0)) ∧ w.cell? ⟨b, off + i * 2 + 1, none⟩ = some (.bool (qs.getD i false))
theorem SlD.below {w w' : World} {a : Option Addr} {n c : Nat} {bs : List Int} {qs : List Bool} (h : SlD w a n c bs qs) {B : Nat} (hB : w.heap.size ≤ B) (hb : Below B w w') : SlD w' a n c bs qs := by
  obtain ⟨h1, h2, h3, h4, h5, h6, h7⟩ := h
  refine ⟨h1, h2, h3, h4, h5, h6, ?_⟩
  rcases h7 with h7 | ⟨b, off, rfl, hlt, hc⟩
  · exact .inl h7
  · refine .inr ⟨b, off, rfl, Nat.lt_of_lt_of_le hlt hb.size, fun i hi => ?_⟩
    exact ⟨(hb.cell (p := ⟨b, off + i * 2, none⟩) (Nat.lt_of_lt_of_le hlt hB)).trans (hc i hi).1, (hb.cell (p := ⟨b, off + i * 2 + 1, none⟩) (Nat.lt_of_lt_of_le hlt hB)).trans (hc i hi).2⟩
theorem trod_boolD {H : Type} {enc : TypeId × Value → H} {P : Program} {w : World} {base : Nat} {spare : Nat → Bool} {held : Bool} {t : TypeId} {fuel : Nat} {v : Value} {x : DataW H × List MemPlace} (ht : P.underlying t = some .bool) (h : DataW.trod enc P w base spare held fuel t [v] = some x) : ∃ b, v = .bool b := by
  cases fuel with
  | zero => simp [DataW.trod] at h
  | succ f =>
    unfold DataW.trod at h
    rw [ht] at h
    cases v <;> simp at h ⊢
theorem fieldsD : ∃ f0 f1 : Field, Try.prog.underlying 41 = some (.struct #[f0, f1]) ∧ f0.offset = 0 ∧ f1.offset = 1 ∧ f0.type = 39 ∧ f1.type = 4 := ⟨_, _, Try.underlying41, rfl, rfl, rfl, rfl⟩
theorem cells_deed : Try.prog.cellsOf 41 = 2 := by kernel_rfl
theorem cells_i16 : Try.prog.cellsOf 39 = 1 := by kernel_rfl
theorem cells_boolD : Try.prog.cellsOf 4 = 1 := by kernel_rfl
theorem SlD.open {H : Type} {enc : TypeId × Value → H} {w : World} {base : Nat} {held : Bool} {fuel : Nat} {a : Option Addr} {n c : Nat} {d : DataW H} {ps : List MemPlace} (ht : Try.prog.underlying 23 = some (.slice 41))
    (h : DataW.trod enc Try.prog w base (fun _ => true) held fuel 23 [.slice a n c] = some (d, ps)) : (d = .nil ∧ n = 0 ∧ SlD w a n c [] []) ∨ ∃ es sp, d = .slice es sp ∧ es.length = n ∧ es.length + sp.length = c ∧ (n ≤ 281474976710656 → ∃ bs qs, SlD w a n c bs qs) := by
  obtain ⟨f0, f1, he, o0, o1, t0, t1⟩ := fieldsD
  rcases Go.Deep.open_slice_pairs ht he cells_deed o0 o1 (by rw [t0]; exact cells_i16) (by rw [t1]; exact cells_boolD) h with ⟨hcs, hd⟩ | ⟨x, l, k, m, fn, V0, V1, D0, D1, P0, P1, hcs, hb, hl, hm, hmm, hx, hc⟩
  · simp at hcs
    obtain ⟨rfl, rfl, rfl⟩ := hcs
    obtain ⟨rfl, _⟩ := Prod.mk.inj hd
    exact .inl ⟨rfl, rfl, rfl, rfl, Nat.le_refl _, by unfold maxLen; omega, by omega, fun i => by simp, .inl rfl⟩
  · simp at hcs
    obtain ⟨rfl, rfl, rfl⟩ := hcs
    obtain ⟨rfl, _⟩ := Prod.mk.inj hx
    have hmc : m = c := by simpa using hmm
    subst hmc
    refine .inr ⟨_, _, rfl, by simp, by simp; omega, fun hsm => ?_⟩
    have hV : ∀ i, i < m → ∃ z : Int, V0 i = .int .i16 z ∧ -32768 ≤ z ∧ z < 32768 := fun i hi => by
      have g := (hc i hi).2.2.1
      rw [t0] at g
      obtain ⟨z, hz, _, hw⟩ := DataW.trod_int Try.underlying39 g
      simp at hz
      have hb16 : -32768 ≤ z ∧ z < 32768 := by simp [Lit.wf, IntKind.min, IntKind.max, IntKind.signed, IntKind.bits] at hw; omega
      exact ⟨z, hz, hb16.1, hb16.2⟩
    have hQ : ∀ i, i < m → ∃ q : Bool, V1 i = .bool q := fun i hi => by
      have g := (hc i hi).2.2.2
      rw [t1] at g
      exact trod_boolD Try.underlying4 g
    let B : Nat → Int := fun i => match V0 i with | .int _ z => z | _ => 0
    let Q : Nat → Bool := fun i => match V1 i with | .bool q => q | _ => false
    have gB : ∀ i, i < n → ((List.range n).map B).getD i 0 = B i := fun i hi => by simp [List.getD_eq_getElem?_getD, hi]
    have gQ : ∀ i, i < n → ((List.range n).map Q).getD i false = Q i := fun i hi => by simp [List.getD_eq_getElem?_getD, hi]
    refine ⟨(List.range n).map B, (List.range n).map Q, by simp, by simp, hl, hm, hsm, fun i => ?_, ?_⟩
    · by_cases hi : i < n
      · rw [gB i hi]
        obtain ⟨z, hz, h1, h2⟩ := hV i (by omega)
        show -32768 ≤ (match V0 i with | .int _ z => z | _ => 0) ∧ (match V0 i with | .int _ z => z | _ => 0) < 32768
        rw [hz]; exact ⟨h1, h2⟩
      · rw [List.getD_eq_getElem?_getD, List.getElem?_eq_none (by simp; omega)]; simp
    · by_cases h0 : n = 0
      · exact .inl h0
      · obtain ⟨b, off, spot⟩ := x
        have hc0 := (hc 0 (by omega)).1
        have hspot : spot = none := by simpa [Addr.add] using World.cell?_spot hc0
        subst hspot
        have hlt : b < w.heap.size := by
          have := hc0
          simp only [Addr.add, World.cell?] at this
          rcases Nat.lt_or_ge b w.heap.size with h9 | h9
          · exact h9
          · simp [h9] at this
        refine .inr ⟨b, off, rfl, hlt, fun i hi => ?_⟩
        rw [gB i hi, gQ i hi]
        obtain ⟨h1, h2, _, _⟩ := hc i (by omega)
        obtain ⟨z, hz, _, _⟩ := hV i (by omega)
        obtain ⟨q, hq⟩ := hQ i (by omega)
        show _ = some (Value.int .i16 (match V0 i with | .int _ z => z | _ => 0)) ∧ _ = some (Value.bool (match V1 i with | .bool q => q | _ => false))
        rw [hz] at h1 ⊢
        rw [hq] at h2 ⊢
        have ea : ∀ j, (⟨b, off, none⟩ : Addr).add j = ⟨b, off + j, none⟩ := by
          intro j
          unfold Addr.add
          split
          · subst_vars; rfl
          · rfl
        rw [ea] at h1 h2
        exact ⟨h1, by rw [Nat.add_assoc]; exact h2⟩
end Go.Proofs.Ytlgpabdadnfbeaa
