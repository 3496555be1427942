/- outq: lists turned from the front, by places; a queue of which the first pieces go. -/
import Derived.Test.YtconfmjgoipejaaOqM
namespace Go.Proofs.Ytconfmjgoipejaa
open Go.RowKit Go.Shelf
/-- The first k elements turned, each by its place. -/
def mapI (f : Nat → PcA → PcA) (L : List PcA) (k : Nat) : List PcA := L.mapIdx fun i x => if i < k then f i x else x
theorem mapI_at (f : Nat → PcA → PcA) (L : List PcA) (k i : Nat) : (mapI f L k)[i]? = (L[i]?).map fun x => if i < k then f i x else x := by
  unfold mapI
  rw [List.getElem?_mapIdx]
theorem mapI_len (f : Nat → PcA → PcA) (L : List PcA) (k : Nat) : (mapI f L k).length = L.length := by unfold mapI; rw [List.length_mapIdx]
theorem mapI_zero (f : Nat → PcA → PcA) (L : List PcA) : mapI f L 0 = L := by
  refine List.ext_getElem? fun i => ?_
  rw [mapI_at]
  simp
theorem mapI_get (f : Nat → PcA → PcA) (L : List PcA) {k i : Nat} (h : k ≤ i) : (mapI f L k)[i]? = L[i]? := by
  rw [mapI_at]
  simp [show ¬ i < k by omega]
theorem mapI_set (f : Nat → PcA → PcA) (L : List PcA) {k : Nat} {x : PcA} (h : L[k]? = some x) : (mapI f L k).set k (f k x) = mapI f L (k + 1) := by
  refine List.ext_getElem? fun i => ?_
  rw [List.getElem?_set, mapI_at, mapI_at, mapI_len]
  by_cases e : k = i
  · subst e
    have hk := (List.getElem?_eq_some_iff.1 h).1
    rw [if_pos rfl, if_pos hk, h]
    simp
  · rw [if_neg e]
    by_cases h1 : i < k
    · simp [h1, show i < k + 1 by omega]
    · simp [h1, show ¬ i < k + 1 by omega]
theorem mapI_id (f : Nat → PcA → PcA) (L : List PcA) {k : Nat} {x : PcA} (h : L[k]? = some x) (he : f k x = x) : mapI f L k = mapI f L (k + 1) := by
  rw [← mapI_set f L h, he]
  refine List.ext_getElem? fun i => ?_
  rw [List.getElem?_set]
  split
  · rename_i e
    subst e
    have hk := (List.getElem?_eq_some_iff.1 h).1
    rw [mapI_len, if_pos hk, mapI_get f L (Nat.le_refl _), h]
  · rfl
section
variable {w w' : World} {q nb : Nat} {pa : Option Addr} {cap : Nat} {L : List PcA} {cum size : Nat} {nx : List Nat}
theorem QuW.own (h : QuW w q nb pa cap L cum size nx) : ¬ (Value.slice pa L.length cap).ownBlock = some q ∧ ¬ (Value.slice pa L.length cap).ownBlock = some nb ∧ ∀ g, BT w g 5 → ¬ (Value.slice pa L.length cap).ownBlock = some g :=
  ⟨fun e => (h.row.bt q e).ne h.tq (by decide) rfl, fun e => (h.row.bt nb e).ne h.tn (by decide) rfl, fun g hg e => (h.row.bt g e).ne hg (by decide) rfl⟩
/-- The queue's row is another one. -/
theorem QuW.setRow (h : QuW w q nb pa cap L cum size nx) {pa2 : Option Addr} {cap2 : Nat} {L2 : List PcA} (hrow : OwnQ w' 0 pa2 L2.length cap2 L2) (hf : Fr (fun b => (Value.slice pa L.length cap).ownBlock = some b) w w') (hd : ∀ x ∈ L2, OwnB w' 0 x.2.1 x.1.zs.length x.2.2 x.1.zs) :
    QuW (w'.setCell ⟨q, 3, none⟩ (.slice pa2 L2.length cap2)) q nb pa2 cap2 L2 cum size nx := by
  obtain ⟨n1, n2, n3⟩ := h.own
  have tq2 : BT w' q 71 := h.tq.same (hf.block _ h.tq.lt n1)
  have tn2 : BT w' nb 34 := h.tn.same (hf.block _ h.tn.lt n2)
  have hqn : q ≠ nb := h.tq.ne h.tn (by decide)
  have k3 : w'.cell? ⟨q, 3, none⟩ = some (.slice pa L.length cap) := (hf.cell _ h.tq.lt n1).trans h.c3
  have hs := setCell_at w' q 3
  have h3 : (w'.cell? ⟨q, 3, none⟩).isSome = true := by rw [k3]; rfl
  have fq : Fr (fun b => b = q) w' (w'.setCell ⟨q, 3, none⟩ (.slice pa2 L2.length cap2)) := Fr.setCell _ _ _ _ rfl
  refine ⟨tq2.setCell _ _, tn2.setCell _ _, ?_, ?_, ?_, ?_, fun i => ?_, fun i hi => ?_, fun i => ?_, ?_, fun x hx => ?_⟩
  · rw [hs 0 _ h3, if_neg (by decide)]; exact (hf.cell _ h.tq.lt n1).trans h.c0
  · rw [hs 1 _ h3, if_neg (by decide)]; exact (hf.cell _ h.tq.lt n1).trans h.c1
  · rw [hs 2 _ h3, if_neg (by decide)]; exact (hf.cell _ h.tq.lt n1).trans h.c2
  · rw [hs 3 _ h3, if_pos rfl]
  · rw [World.frozen?_setCell]; exact (hf.frozen ⟨q, i, none⟩ h.tq.lt n1).trans (h.fq i)
  · rw [fq.cell ⟨nb, i, none⟩ tn2.lt (fun e => hqn e.symm)]; exact (hf.cell _ h.tn.lt n2).trans (h.nc i hi)
  · rw [World.frozen?_setCell]; exact (hf.frozen ⟨nb, i, none⟩ h.tn.lt n2).trans (h.fn i)
  · exact hrow.fr fq (fun g hg e => (hrow.bt g hg).ne (e ▸ tq2) (by decide) rfl)
  · exact (hd x hx).frY fq (fun g hg e => hg.ne (e ▸ tq2) (by decide) rfl)
theorem QuW.del (h : QuW w q nb pa cap L cum size nx) {G : Nat} (hrow : OwnQ w' 0 pa (L.length - G) cap (L.drop G)) (hf : Fr (fun b => (Value.slice pa L.length cap).ownBlock = some b) w w') :
    QuW (w'.setCell ⟨q, 3, none⟩ (.slice pa (L.length - G) cap)) q nb pa cap (L.drop G) cum size nx := by
  have e : (L.drop G).length = L.length - G := List.length_drop
  have := h.setRow (L2 := L.drop G) (pa2 := pa) (cap2 := cap) (by rw [e]; exact hrow) hf (fun x hx => (h.dat x (List.mem_of_mem_drop hx)).frY hf h.own.2.2)
  rwa [e] at this
theorem QuW.setCum (h : QuW w q nb pa cap L cum size nx) (c : Nat) : QuW (w.setCell ⟨q, 0, none⟩ (.int .u32 (c : Nat))) q nb pa cap L c size nx := by
  obtain ⟨n1, n2, n3⟩ := h.own
  have hqn : q ≠ nb := h.tq.ne h.tn (by decide)
  have hs := setCell_at w q 0
  have h3 : (w.cell? ⟨q, 0, none⟩).isSome = true := by rw [h.c0]; rfl
  have fq : Fr (fun b => b = q) w (w.setCell ⟨q, 0, none⟩ (.int .u32 (c : Nat))) := Fr.setCell _ _ _ _ rfl
  refine ⟨h.tq.setCell _ _, h.tn.setCell _ _, ?_, ?_, ?_, ?_, fun i => ?_, fun i hi => ?_, fun i => ?_, ?_, fun x hx => ?_⟩
  · rw [hs 0 _ h3, if_pos rfl]
  · rw [hs 1 _ h3, if_neg (by decide)]; exact h.c1
  · rw [hs 2 _ h3, if_neg (by decide)]; exact h.c2
  · rw [hs 3 _ h3, if_neg (by decide)]; exact h.c3
  · rw [World.frozen?_setCell]; exact h.fq i
  · rw [fq.cell ⟨nb, i, none⟩ h.tn.lt (fun e => hqn e.symm)]; exact h.nc i hi
  · rw [World.frozen?_setCell]; exact h.fn i
  · exact h.row.fr fq (fun g hg e => (h.row.bt g hg).ne (e ▸ h.tq) (by decide) rfl)
  · exact (h.dat x hx).frY fq (fun g hg e => hg.ne (e ▸ h.tq) (by decide) rfl)
theorem QuW.drew (h : QuW w q nb pa cap L cum size nx) : QuW w.drew q nb pa cap L cum size nx := h.below (Below.refl _ _).drew
end
end Go.Proofs.Ytconfmjgoipejaa
