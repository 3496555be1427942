/- The tracker's contracts, in the form that a region with a drawn order takes: the arguments by equations, the world up to what was drawn. -/
import Derived.Test.YtlgpabdadnfbeaaGapY
import Derived.Deep.RegionHeld3
namespace Go.Proofs.Ytlgpabdadnfbeaa
open Go.RowKit
theorem World.below_heap {w W : World} (h : W.heap = w.heap) (ho : W.os = w.os) (ht : W.tape = w.tape) (hu : W.output = w.output) : Below w.heap.size w W := ⟨ho, ht, hu, by rw [h]; exact Nat.le_refl _, fun k _ => by rw [h]⟩
theorem Trk.same {w W : World} {B p : Nat} {db : Option Nat} {cum : Nat} {S : Nat → Bool} {ds : List Nat} (h : Trk w B p db cum S ds) (hW : Below w.heap.size w W) : Trk W B p db cum S ds := h.below hW
theorem tadd_at (v1 v2 : Value) (B p : Nat) (db : Option Nat) (cum : Nat) (S : Nat → Bool) (ds : List Nat) (t : Nat) (w W : World) (h : Trk w B p db cum S ds) (hW : Below w.heap.size w W) (ht : t < 4294967296) (h1 : v1 = .pointer (some ⟨p, 0, none⟩)) (h2 : v2 = .int .u32 (t : Nat)) :
    Calls Try.prog 16 #[v1, v2] W fun e w' => e = .returned (.int .i64 (addE cum S t : Nat)) ∧ ∃ db', Trk w' B p db' (addC cum S t) (addS cum S t) (addD cum S ds t) ∧ Fr (ownT p db) w w' ∧ Fresh w db db' := by
  subst h1 h2
  refine (tadd_any B p db cum S ds t W (h.below hW) ht).mono ?_
  rintro e w' ⟨he, db', h3, h4, h5⟩
  exact ⟨he, db', h3, (Fr.of_below hW).trans h4, fun k hk => (h5 k hk).imp id (fun h => Nat.le_trans hW.size h)⟩
theorem tcum_at (v1 : Value) (B p : Nat) (db : Option Nat) (cum : Nat) (S : Nat → Bool) (ds : List Nat) (w W : World) (h : Trk w B p db cum S ds) (hW : Below w.heap.size w W) (h1 : v1 = .pointer (some ⟨p, 0, none⟩)) :
    Calls Try.prog 13 #[v1] W fun e w' => e = .returned (.int .u32 cum) ∧ w' = W := by
  subst h1
  exact cum_any p cum W (h.below hW).c0
theorem ttop_at (v1 : Value) (B p : Nat) (db : Option Nat) (cum : Nat) (S : Nat → Bool) (ds : List Nat) (w W : World) (h : Trk w B p db cum S ds) (hW : Below w.heap.size w W) (h1 : v1 = .pointer (some ⟨p, 0, none⟩)) :
    Calls Try.prog 14 #[v1] W fun e w' => e = .returned (.int .u32 (addV 4294967296 cum (lastS (farTo S 256) : Nat) : Nat)) ∧ Below w.heap.size w w' := by
  subst h1
  refine (top_any B p db cum S ds W (h.below hW)).mono ?_
  rintro e w' ⟨he, hb⟩
  exact ⟨he, hW.trans (hb.mono hW.size)⟩
theorem thas_at (v1 v2 : Value) (B p : Nat) (db : Option Nat) (cum : Nat) (S : Nat → Bool) (ds : List Nat) (t : Nat) (w W : World) (h : Trk w B p db cum S ds) (hW : Below w.heap.size w W) (ht : t < 4294967296) (h1 : v1 = .pointer (some ⟨p, 0, none⟩)) (h2 : v2 = .int .u32 (t : Nat)) :
    Calls Try.prog 12 #[v1, v2] W fun e w' => e = .returned (.bool (hasV cum S t)) ∧ Below w.heap.size w w' := by
  subst h1 h2
  refine (thas_any B p db cum S ds t W (h.below hW) ht).mono ?_
  rintro e w' ⟨he, hb⟩
  exact ⟨he, hW.trans (hb.mono hW.size)⟩
end Go.Proofs.Ytlgpabdadnfbeaa
