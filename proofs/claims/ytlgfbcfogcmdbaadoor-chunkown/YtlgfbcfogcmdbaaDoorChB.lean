/- chunk: the base of its texts. -/
import Derived.Test.YtlgfbcfogcmdbaaDoorBase
import Derived.Test.YtlgfbcfogcmdbaaDoorFrM
import Derived.Test.YtlgfbcfogcmdbaaDoorProg
import Derived.Lib.MinMax
import Derived.Deep.MidRow
import Derived.Deep.RegionHeld3
import Derived.Deep.Draws
import Derived.Deep.QuietTactic
import Derived.BigQuiet
namespace Go.Proofs.YtlgfbcfogcmdbaaDoor
open Go.RowKit
/-- A struct in a block of its own. -/
structure Stc (w : World) (q : Nat) (cs : List Value) : Prop where
  lt : q < w.heap.size
  cell : ∀ (i : Nat) v, cs[i]? = some v → w.cell? ⟨q, i, none⟩ = some v
  free : ∀ i, w.frozen? ⟨q, i, none⟩ = false
theorem Stc.new (w : World) (cs : List Value) (T : TypeId) (W : World) (hW : W = w.alloc (.cells cs.toArray T)) : Stc W w.heap.size cs := by
  subst hW
  refine ⟨by simp, fun i v h => ?_, fun i => ?_⟩
  · rw [World.cell?_alloc_mark]
    simpa using h
  · have hh : (w.alloc (.cells cs.toArray T)).heap[w.heap.size]? = some (.cells cs.toArray T) := by
      show (w.heap.push _)[w.heap.size]? = _
      simp
    unfold World.frozen?
    dsimp only
    rw [hh]
    simp
theorem Stc.fr {P : Nat → Prop} {w w' : World} {q : Nat} {cs : List Value} (h : Stc w q cs) (hf : Fr P w w') (hp : ¬ P q) : Stc w' q cs :=
  ⟨Nat.lt_of_lt_of_le h.lt hf.size, fun i v hv => (hf.cell ⟨q, i, none⟩ h.lt hp).trans (h.cell i v hv), fun i => (hf.frozen ⟨q, i, none⟩ h.lt hp).trans (h.free i)⟩
theorem Stc.below {w w' : World} {q : Nat} {cs : List Value} (h : Stc w q cs) (hb : Below w.heap.size w w') : Stc w' q cs :=
  h.fr (Fr.of_below (P := fun _ => False) hb) (fun h => h)
theorem Stc.range {w : World} {q : Nat} {cs : List Value} (h : Stc w q cs) : w.rangeAt q 0 cs := fun i v hv => by rw [Nat.zero_add]; exact h.cell i v hv
theorem results_cellE {fn : Func} {p : Tmp} {ty : TypeId} (h : fn.results = #[.cell p ty]) (tmps : Array Value) (w : World) (g o : Nat) (cs : List Value) (d : TypeDesc)
    (hp : tmps.getD p undef = .pointer (some ⟨g, o, none⟩)) (hc : w.rangeAt g o cs) (hu : Tryd.prog.underlying ty = some d) (hd : d.isRow = true) (hi : (Tryd.prog.info? ty).map (·.size) = some cs.length) :
    (results fn tmps).run Tryd.prog w = .ok (.agg cs.toArray) w := by
  have hp' : tmps[p]?.getD undef = .pointer (some ⟨g, o, none⟩) := by simpa using hp
  simp [results, h, hp', asAddr, run_loadVar_mid w g o ty cs d hc hu hd hi]
end Go.Proofs.YtlgfbcfogcmdbaaDoor
