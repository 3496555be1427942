/- A slice's bytes from a place on, as a slice; and none. -/
import Derived.Test.YtdglclokjfinfaaDoorSpan
import Derived.Test.YtdglclokjfinfaaDoorNum
namespace Go.Proofs.YtdglclokjfinfaaDoor
open Go.RowKit
theorem sl_mid {w : World} {b off n c : Nat} {zs : List Nat} (hs : Sl w (some ⟨b, off, none⟩) n c zs) (p k : Nat) (h : p + k ≤ n) (hk : 0 < k) : Sl w (some ⟨b, off + p, none⟩) k (c - p) ((zs.drop p).take k) := by
  have hlt := hs.lt b off (by omega) rfl
  obtain ⟨hl, hcap, hroom, hsm, hnz, hb, hat⟩ := hs
  refine ⟨by simp; omega, by omega, by omega, by omega, (fun h => by cases h), mid_bnd zs p k hb, .inr ⟨b, off + p, rfl, hlt, fun i hi => ?_⟩⟩
  rcases hat with h0 | ⟨b', off', e, _, hcell⟩
  · omega
  · injection e with e
    injection e with e1 e2
    subst e1 e2
    rw [mid_getD zs p k i hi, Nat.add_assoc]
    exact hcell (p + i) (by omega)
theorem sl_zero (w : World) (x : Addr) (c : Nat) (hc : c ≤ maxLen) : Sl w (some x) 0 c [] :=
  ⟨rfl, Nat.zero_le _, hc, by omega, (fun h => by cases h), fun i => by simp, .inl rfl⟩
end Go.Proofs.YtdglclokjfinfaaDoor
