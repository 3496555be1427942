/- Two arrays of 32 bytes that are the same are told so. -/
import Derived.Test.YtdglclokjfinfaaDoorHLive
import Derived.DeepKeys
namespace Go.Proofs.YtdglclokjfinfaaDoor
open Go.RowKit
theorem mapM_some {α β : Type} (f : α → Option β) (g : α → β) : ∀ l : List α, (∀ x ∈ l, f x = some (g x)) → l.mapM f = some (l.map g)
  | [], _ => rfl
  | x :: l, h => by
    rw [List.mapM_cons, h x (by simp), mapM_some f g l (fun y hy => h y (by simp [hy]))]; rfl
theorem keyLits32 (zs : List Nat) (hl : zs.length = 32) (hb : ∀ i, zs.getD i 0 < 256) : ∃ la, Tryd.prog.keyLits 3 24 (Value.agg (vals zs).toArray).cells.toList = some la := by
  have hc : Tryd.prog.cellsOf 24 = 32 := by kernel_rfl
  have h8 : Tryd.prog.cellsOf 5 = 1 := by kernel_rfl
  have hcs : (Value.agg (vals zs).toArray).cells.toList = vals zs := by simp [Value.cells]
  rw [hcs]
  have hlen : (vals zs).length = 32 := by simp [vals, hl]
  have he : ∀ i ∈ List.range 32, Tryd.prog.keyLits 2 5 (((vals zs).drop (i * 1)).take 1) = some [Lit.int .u8 (zs.getD i 0 : Nat)] := by
    intro i hi
    have hi' := List.mem_range.1 hi
    have h1 : ((vals zs).drop (i * 1)).take 1 = [.int .u8 (zs.getD i 0 : Nat)] := by
      have := vals_at zs i (by omega)
      rw [Nat.mul_one]
      obtain ⟨hlt, hv⟩ := List.getElem?_eq_some_iff.1 this
      rw [List.drop_eq_getElem_cons hlt, hv]; rfl
    rw [h1]
    unfold Program.keyLits
    rw [Tryd.underlying5]
    have := hb i
    generalize zs.getD i 0 = z at *
    simp [Lit.wf, IntKind.min, IntKind.max, IntKind.signed, IntKind.bits]
    omega
  refine ⟨((List.range 32).map fun i => [Lit.int .u8 (zs.getD i 0 : Nat)]).flatten, ?_⟩
  unfold Program.keyLits
  rw [Tryd.underlying24]
  simp only [hlen, hc, h8, if_true]
  rw [mapM_some _ _ _ he]
  rfl
theorem eq_vals (zs : List Nat) (hl : zs.length = 32) (hb : ∀ i, zs.getD i 0 < 256) (W : World) : (Op.equalIn 10000 24 (.agg (vals zs).toArray) (.agg (vals zs).toArray)).run Tryd.prog W = .ok true W := by
  obtain ⟨la, hla⟩ := keyLits32 zs hl hb
  have hf : (Value.agg (vals zs).toArray).formed Tryd.prog 24 = true := by
    have hc : Tryd.prog.cellsOf 24 = 32 := by kernel_rfl
    unfold Value.formed
    rw [Tryd.underlying24]
    simp [hc, vals, hl]
  obtain ⟨r, h1, h2⟩ := run_equalIn_deep (P := Tryd.prog) 9997 3 24 (by kernel_rfl) W 3 3 _ _ la la hf hf hla hla
  rw [h2.2 rfl] at h1
  exact h1
end Go.Proofs.YtdglclokjfinfaaDoor
