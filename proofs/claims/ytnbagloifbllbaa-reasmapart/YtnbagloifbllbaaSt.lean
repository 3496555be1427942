/- Structs in blocks of their own, results of functions that answer structs, parts of rows. -/
import Derived.Test.YtnbagloifbllbaaBytes
import Derived.Test.YtnbagloifbllbaaFrM
import Derived.Test.YtnbagloifbllbaaSpan
import Derived.Outline
import Derived.Deep.MidRow
namespace Go.Proofs.Ytnbagloifbllbaa
open Go.RowKit
theorem hmf (fn : Fn) (first cap : Array Value) (w : World) : (Instr.makeFunc fn first cap).run Try.prog w = .ok (.func fn first cap) w := rfl
/-- A struct in a block of its own. -/
structure Stc (w : World) (q : Nat) (cs : List Value) : Prop where
  lt : q < w.heap.size
  cell : ∀ (i : Nat) v, cs[i]? = some v → w.cell? ⟨q, i, none⟩ = some v
  free : ∀ i, w.frozen? ⟨q, i, none⟩ = false
theorem Stc.new (w : World) (cs : List Value) (T : TypeId) (W : World) (hW : W = w.alloc (.cells cs.toArray T)) : Stc W w.heap.size cs := by
  subst hW
  refine ⟨by simp, fun i v h => ?_, fun i => ?_⟩
  · rw [World.cell?_alloc_mark]
    simpa using h
  · have hh : (w.alloc (.cells cs.toArray T)).heap[w.heap.size]? = some (.cells cs.toArray T) := by
      show (w.heap.push _)[w.heap.size]? = _
      simp
    unfold World.frozen?
    dsimp only
    rw [hh]
    simp
theorem Stc.below {w w' : World} {q : Nat} {cs : List Value} (h : Stc w q cs) (hb : Below w.heap.size w w') : Stc w' q cs :=
  ⟨Nat.lt_of_lt_of_le h.lt hb.size, fun i v hv => (hb.cell (p := ⟨q, i, none⟩) h.lt).trans (h.cell i v hv), fun i => (hb.frozen (p := ⟨q, i, none⟩) h.lt).trans (h.free i)⟩
theorem Stc.fr {P : Nat → Prop} {w w' : World} {q : Nat} {cs : List Value} (h : Stc w q cs) (hf : Fr P w w') (hp : ¬ P q) : Stc w' q cs :=
  ⟨Nat.lt_of_lt_of_le h.lt hf.size, fun i v hv => (hf.cell ⟨q, i, none⟩ h.lt hp).trans (h.cell i v hv), fun i => (hf.frozen ⟨q, i, none⟩ h.lt hp).trans (h.free i)⟩
theorem Stc.set {w : World} {q : Nat} {cs : List Value} (h : Stc w q cs) (j : Nat) (u : Value) : Stc (w.setCell ⟨q, j, none⟩ u) q (cs.set j u) := by
  refine ⟨by simp [World.setCell]; exact h.lt, fun i v hv => ?_, fun i => by rw [World.frozen?_setCell]; exact h.free i⟩
  rw [List.getElem?_set] at hv
  split at hv
  · rename_i e
    subst e
    split at hv
    · rename_i hl
      injection hv with hv
      subst hv
      exact World.cell?_setCell_same' _ _ _ (by rw [h.cell j _ (List.getElem?_eq_getElem hl)]; rfl)
    · cases hv
  · rename_i e
    rw [World.cell?_setCell_other _ _ _ _ (by intro e2; injection e2 with _ e3; exact e e3)]
    exact h.cell i v hv
theorem Stc.other {w : World} {q : Nat} {cs : List Value} (h : Stc w q cs) (q2 j : Nat) (u : Value) (hne : q2 ≠ q) : Stc (w.setCell ⟨q2, j, none⟩ u) q cs :=
  h.fr (Fr.setCell (fun b => b = q2) _ _ _ rfl) (fun e => hne e.symm)
theorem Stc.range {w : World} {q : Nat} {cs : List Value} (h : Stc w q cs) : w.rangeAt q 0 cs := fun i v hv => by rw [Nat.zero_add]; exact h.cell i v hv
theorem results_cellE {fn : Func} {p : Tmp} {ty : TypeId} (h : fn.results = #[.cell p ty]) (tmps : Array Value) (w : World) (g o : Nat) (cs : List Value) (d : TypeDesc)
    (hp : tmps.getD p undef = .pointer (some ⟨g, o, none⟩)) (hc : w.rangeAt g o cs) (hu : Try.prog.underlying ty = some d) (hd : d.isRow = true) (hi : (Try.prog.info? ty).map (·.size) = some cs.length) :
    (results fn tmps).run Try.prog w = .ok (.agg cs.toArray) w := by
  have hp' : tmps[p]?.getD undef = .pointer (some ⟨g, o, none⟩) := by simpa using hp
  simp [results, h, hp', asAddr, run_loadVar_mid w g o ty cs d hc hu hd hi]
theorem results_cellE2 {fn : Func} {p u : Tmp} {ty : TypeId} (h : fn.results = #[.cell p ty, .tmp u]) (tmps : Array Value) (w : World) (g o : Nat) (cs : List Value) (d : TypeDesc)
    (hp : tmps.getD p undef = .pointer (some ⟨g, o, none⟩)) (hc : w.rangeAt g o cs) (hu : Try.prog.underlying ty = some d) (hd : d.isRow = true) (hi : (Try.prog.info? ty).map (·.size) = some cs.length) :
    (results fn tmps).run Try.prog w = .ok (.tuple #[.agg cs.toArray, tmps.getD u undef]) w := by
  rw [results_cell_tmp h, hp]
  simp [asAddr, run_loadVar_mid w g o ty cs d hc hu hd hi, Result.andThen]
theorem Stc.there {w : World} {q : Nat} {cs : List Value} (h : Stc w q cs) : w.there q 0 cs.length := fun j hj => by
  rw [Nat.zero_add]
  exact ⟨by rw [h.cell j _ (List.getElem?_eq_getElem hj)]; rfl, h.free j⟩
theorem numV_lt (zs : List Nat) (p k : Nat) (hb : ∀ i, zs.getD i 0 < 256) : numV zs (p : Int) (k : Int) < 256 ^ k := by
  unfold numV
  split
  · rw [Int.toNat_natCast, Int.toNat_natCast]
    have h := numB_lt ((zs.drop p).take k) (fun i => by
      by_cases hi : i < k
      · rw [List.getD_eq_getElem?_getD, List.getElem?_take_of_lt hi, List.getElem?_drop, ← List.getD_eq_getElem?_getD]; exact hb _
      · rw [List.getD_eq_getElem?_getD, List.getElem?_eq_none (by rw [List.length_take]; omega)]; decide)
    refine Nat.lt_of_lt_of_le h (Nat.pow_le_pow_right (by omega) ?_)
    rw [List.length_take]; omega
  · exact Nat.pos_of_ne_zero (by simp)
theorem SlK.dropE {k : IntKind} {M : Nat} {w : World} {b off : Nat} {n c : Nat} {zs : List Nat} (h : SlK k M w (some ⟨b, off, none⟩) n c zs) (j : Nat) (hj : j ≤ n) (a' : Addr) (ha : j < n → a' = ⟨b, off + j, none⟩) : SlK k M w (some a') (n - j) (c - j) (zs.drop j) := by
  obtain ⟨h1, h2, h3, h4, h5, h6, h7⟩ := h
  refine ⟨by simp; omega, by omega, by omega, by omega, (fun h => by cases h), fun i => ?_, ?_⟩
  · have := h6 (j + i)
    simpa [List.getD_eq_getElem?_getD] using this
  · rcases h7 with h7 | ⟨b', off', e, hlt, hc⟩
    · exact .inl (by omega)
    · by_cases hjn : j < n
      · injection e with e
        injection e with e1 e2
        subst e1 e2
        refine .inr ⟨b, off + j, by rw [ha hjn], hlt, fun i hi => ?_⟩
        rw [Nat.add_assoc, hc (j + i) (by omega)]
        simp [List.getD_eq_getElem?_getD]
      · exact .inl (by omega)
theorem SlK.setOtherE {k : IntKind} {M : Nat} {w : World} {b off n c : Nat} {zs : List Nat} (h : SlK k M w (some ⟨b, off, none⟩) n c zs) (g o : Nat) (v : Value) (hne : b ≠ g) : SlK k M (w.setCell ⟨g, o, none⟩ v) (some ⟨b, off, none⟩) n c zs := by
  refine ⟨h.len, h.cap, h.room, h.small, h.nz, h.bnd, ?_⟩
  rcases h.at_ with h0 | ⟨b', off', e, hlt, hc⟩
  · exact .inl h0
  · injection e with e
    injection e with e1 e2
    subst e1 e2
    refine .inr ⟨b, off, rfl, by simpa [World.setCell] using hlt, fun i hi => ?_⟩
    rw [World.cell?_setCell_other _ _ _ _ (by intro e2; injection e2 with e3 _; exact hne e3.symm)]
    exact hc i hi
theorem OwnB.setOther {w : World} {B : Nat} {a : Option Addr} {n c : Nat} {zs : List Nat} (h : OwnB w B a n c zs) (g o : Nat) (v : Value) (hg : g < B) : OwnB (w.setCell ⟨g, o, none⟩ v) B a n c zs := by
  have hgs : w.grownBy (w.setCell ⟨g, o, none⟩ v) (some g) := (Fr.setCell (fun b => b = g) w ⟨g, o, none⟩ v rfl) |> fun h => ⟨h.os, h.tape, h.output, h.size, fun k hk hn => h.block k hk (fun e => hn (by rw [e]))⟩
  refine h.kept hgs ?_
  cases hq : (Value.slice a n c).ownBlock with
  | none => exact .inl rfl
  | some q => exact .inr (fun e => by have := (h.own.lt q hq).1; injection e with e; omega)
theorem SlK.takeE {k : IntKind} {M : Nat} {w : World} {a : Option Addr} {n c : Nat} {zs : List Nat} (h : SlK k M w a n c zs) (j : Nat) (hj : j ≤ n) (hM : 0 < M) : SlK k M w a j c (zs.take j) := by
  obtain ⟨h1, h2, h3, h4, h5, h6, h7⟩ := h
  refine ⟨by simp; omega, by omega, h3, by omega, ?_, fun i => ?_, ?_⟩
  · intro e; have := h5 e; omega
  · by_cases hi : i < j
    · have := h6 i
      simpa [List.getD_eq_getElem?_getD, List.getElem?_take_of_lt hi] using this
    · rw [List.getD_eq_getElem?_getD, List.getElem?_eq_none (by simp; omega)]
      exact hM
  · rcases h7 with h7 | ⟨b', off', e, hlt, hc⟩
    · exact .inl (by omega)
    · refine .inr ⟨b', off', e, hlt, fun i hi => ?_⟩
      rw [hc i (by omega)]
      simp [List.getD_eq_getElem?_getD, List.getElem?_take_of_lt hi]
end Go.Proofs.Ytnbagloifbllbaa
