/- What ref01.Lay answers; rows that lie apart. -/
import Derived.Test.YtplicfknjhjjgaaSt
import Derived.Test.YtplicfknjhjjgaaRefBytes
import Derived.Test.YtplicfknjhjjgaaIpLy
namespace Go.Proofs.Ytplicfknjhjjgaa
open Go.RowKit
theorem OwnB.fr {P : Nat → Prop} {w w' : World} {B : Nat} {a : Option Addr} {n c : Nat} {zs : List Nat} (h : OwnB w B a n c zs) (hf : Fr P w w') (hp : ∀ k, (Value.slice a n c).ownBlock = some k → ¬ P k) : OwnB w' B a n c zs := by
  refine ⟨h.len, ⟨h.own.1, ?_⟩, h.bnd⟩
  rcases h.own.2 with ⟨hv, h0⟩ | ⟨g, cap, cur, hv, hB, hh, h2⟩
  · exact .inl ⟨hv, h0⟩
  · have hlt : g < w.heap.size := by
      rcases Nat.lt_or_ge g w.heap.size with h9 | h9
      · exact h9
      · simp [h9] at hh
    exact .inr ⟨g, cap, cur, hv, hB, by rw [hf.block g hlt (hp g (by rw [hv]; rfl))]; exact hh, h2⟩
/-- A row that was laid on: where it lies, and what stays. -/
structure LayF (B : Nat) (v : Value) (L : List Nat) (w : World) (e : Ending) (w' : World) : Prop where
  row : ∃ a c, e = .returned (.slice a L.length c) ∧ OwnB w' B a L.length c L ∧ (∀ g, (Value.slice a L.length c).ownBlock = some g → v.ownBlock = some g ∨ w.heap.size ≤ g)
  fr : Fr (fun b => v.ownBlock = some b) w w'
set_option maxRecDepth 100000 in
set_option maxHeartbeats 1000000 in
theorem rlayF_any (B : Nat) (a : Option Addr) (n c : Nat) (zs : List Nat) (v k : Nat) (w : World) (h : OwnB w B a n c zs) (hB : B ≤ w.heap.size) (hv : v < 256 ^ k) (h1 : 1 ≤ k) (h8 : k ≤ 8) (hn : n ≤ 100000) :
    Calls Try.prog 16 #[.slice a n c, .int .u64 (v : Nat), .int .i64 (k : Nat)] w fun e w' => LayF B (.slice a n c) (zs ++ bytesB v k) w e w' := by
  have hv64 : v < 18446744073709551616 := Nat.lt_of_lt_of_le hv (Nat.le_trans (Nat.pow_le_pow_right (by omega) h8) (by decide))
  have hby := refbytes_any v (k : Int) w hv64
  rw [bytesE_in v k hv h1 h8, bytesV_in v k hv h1 h8, bytesB_len] at hby
  obtain ⟨D, hD⟩ : ∃ D, D = bytesB v k := ⟨_, rfl⟩
  rw [← hD] at hby ⊢
  clear hD hv
  go_enter Try.func16, Try.ntmps16
  go_wp2_with fail
  refine hby.mono ?_
  rintro e w1 ⟨ad, cd, rfl, hod, hb1⟩
  have ho1 := h.below hb1
  have hsd := hod.sl (by omega)
  have hz1 : B ≤ w1.heap.size := Nat.le_trans hB hb1.size
  have hzz := hb1.size
  go_wp2_with (at_builtin; go_must (refine app_list2 rfl _ _ rfl B a n c zs rfl ho1 _ k cd D rfl hsd (by omega) hz1 ?_))
  intro a2 c2 w2 ho2 hg2 hp2
  have HL : Hid ((zs ++ D).length = n + k) := ho2.len
  have hf : Fr (fun b => (Value.slice a n c).ownBlock = some b) w w2 := (Fr.of_below hb1).trans (Fr.grown hg2 (fun k hk => hk))
  go_wp2
  go_ret
  exact ⟨⟨a2, c2, by rw [HL.out]; rfl, by rw [HL.out]; exact ho2, by rw [HL.out]; exact fun g hg => (hp2 g hg).imp id (fun h => by omega)⟩, hf⟩
theorem own_lit (w : World) (L : List Nat) (hb : ∀ i, L.getD i 0 < 256) (hn : L.length ≤ 1000) : OwnB (w.alloc (.cells (vals L).toArray 5)) w.heap.size (some ⟨w.heap.size, 0, none⟩) L.length L.length L := by
  refine ⟨rfl, ⟨by simp [vals], .inr ⟨w.heap.size, L.length, (vals L).toArray, rfl, Nat.le_refl _, ?_, Nat.le_refl _, by unfold maxLen; omega, by simp [vals], ?_⟩⟩, hb⟩
  · show (w.heap.push _)[w.heap.size]? = _
    simp
  · rw [List.take_of_length_le (by simp [vals])]
end Go.Proofs.Ytplicfknjhjjgaa
