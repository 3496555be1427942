/- The reference's tracker as it lies in memory; what its Cum, Top, Has, Dups, Fork and New answer. -/
import Derived.Test.YtlgpabdadnfbeaaGapB
import Derived.Test.YtlgpabdadnfbeaaGapR
import Derived.Test.YtlgpabdadnfbeaaOwnI
import Derived.Test.YtlgpabdadnfbeaaRef3A
namespace Go.Proofs.Ytlgpabdadnfbeaa
open Go.RowKit
def blockOf (a : Option Addr) : Option Nat := a.map (·.block)
theorem SlK.fr {k : IntKind} {M : Nat} {P : Nat → Prop} {w w' : World} {a : Option Addr} {n c : Nat} {zs : List Nat} (h : SlK k M w a n c zs) (hf : Fr P w w') (hp : ∀ k, blockOf a = some k → ¬ P k) : SlK k M w' a n c zs := by
  obtain ⟨h1, h2, h3, hsm, hnz, h4, h5⟩ := h
  refine ⟨h1, h2, h3, hsm, hnz, h4, ?_⟩
  rcases h5 with h5 | ⟨b, off, rfl, hlt, hc⟩
  · exact .inl h5
  · exact .inr ⟨b, off, rfl, Nat.lt_of_lt_of_le hlt hf.size, fun i hi => (hf.cell ⟨b, off + i, none⟩ hlt (hp b rfl)).trans (hc i hi)⟩
/-- The reference's tracker: fb, db: the blocks of its two lists. -/
structure RTk (w : World) (B p : Nat) (fb db : Option Nat) (cum : Nat) (F ds : List Nat) : Prop where
  base : B ≤ p
  lt : p < w.heap.size
  cumlt : cum < 4294967296
  c0 : w.cell? ⟨p, 0, none⟩ = some (.int .u32 cum)
  far : ∃ a n c, w.cell? ⟨p, 1, none⟩ = some (.slice a n c) ∧ SlI w a n c F ∧ blockOf a = fb
  dup : ∃ a n c, w.cell? ⟨p, 2, none⟩ = some (.slice a n c) ∧ SlU w a n c ds ∧ blockOf a = db
  free : ∀ i, w.frozen? ⟨p, i, none⟩ = false
  fge : ∀ k, fb = some k → B ≤ k ∧ k < w.heap.size ∧ k ≠ p
  dge : ∀ k, db = some k → B ≤ k ∧ k < w.heap.size ∧ k ≠ p
def ownR (p : Nat) (fb db : Option Nat) (k : Nat) : Prop := k = p ∨ fb = some k ∨ db = some k
theorem RTk.fr {P : Nat → Prop} {w w' : World} {B p : Nat} {fb db : Option Nat} {cum : Nat} {F ds : List Nat} (h : RTk w B p fb db cum F ds) (hf : Fr P w w') (hp : ∀ k, ownR p fb db k → ¬ P k) : RTk w' B p fb db cum F ds := by
  have hpp : ¬ P p := hp p (.inl rfl)
  obtain ⟨a, n, c, h1, hs1, hb1⟩ := h.far
  obtain ⟨a2, n2, c2, h2, hs2, hb2⟩ := h.dup
  exact ⟨h.base, Nat.lt_of_lt_of_le h.lt hf.size, h.cumlt, (hf.cell ⟨p, 0, none⟩ h.lt hpp).trans h.c0,
    ⟨a, n, c, (hf.cell ⟨p, 1, none⟩ h.lt hpp).trans h1, hs1.fr hf (fun k hk => hp k (.inr (.inl (hb1.symm.trans hk)))), hb1⟩,
    ⟨a2, n2, c2, (hf.cell ⟨p, 2, none⟩ h.lt hpp).trans h2, hs2.fr hf (fun k hk => hp k (.inr (.inr (hb2.symm.trans hk)))), hb2⟩,
    fun i => (hf.frozen ⟨p, i, none⟩ h.lt hpp).trans (h.free i), fun k hk => ⟨(h.fge k hk).1, Nat.lt_of_lt_of_le (h.fge k hk).2.1 hf.size, (h.fge k hk).2.2⟩, fun k hk => ⟨(h.dge k hk).1, Nat.lt_of_lt_of_le (h.dge k hk).2.1 hf.size, (h.dge k hk).2.2⟩⟩
theorem RTk.below {w w' : World} {B p : Nat} {fb db : Option Nat} {cum : Nat} {F ds : List Nat} (h : RTk w B p fb db cum F ds) (hb : Below w.heap.size w w') : RTk w' B p fb db cum F ds :=
  h.fr (P := fun _ => False) (Fr.of_below hb) (fun _ _ e => e)
theorem RTk.rebase {w : World} {B B' p : Nat} {fb db : Option Nat} {cum : Nat} {F ds : List Nat} (h : RTk w B p fb db cum F ds) (hB : B' ≤ B) : RTk w B' p fb db cum F ds :=
  ⟨Nat.le_trans hB h.base, h.lt, h.cumlt, h.c0, h.far, h.dup, h.free, fun k hk => ⟨Nat.le_trans hB (h.fge k hk).1, (h.fge k hk).2⟩, fun k hk => ⟨Nat.le_trans hB (h.dge k hk).1, (h.dge k hk).2⟩⟩
theorem RTk.own_ge {w : World} {B p : Nat} {fb db : Option Nat} {cum : Nat} {F ds : List Nat} (h : RTk w B p fb db cum F ds) : ∀ k, ownR p fb db k → B ≤ k ∧ k < w.heap.size := by
  rintro k (rfl | hk | hk)
  · exact ⟨h.base, h.lt⟩
  · exact ⟨(h.fge k hk).1, (h.fge k hk).2.1⟩
  · exact ⟨(h.dge k hk).1, (h.dge k hk).2.1⟩
theorem drewN_belowR (w : World) (q : Nat) : Below w.heap.size w (w.drewN q) := by
  simp only [World.drewN]; exact ⟨rfl, rfl, rfl, Nat.le_refl _, fun k _ => rfl⟩
set_option maxHeartbeats 400000 in
theorem rcum_any (p cum : Nat) (w : World) (hc : w.cell? ⟨p, 0, none⟩ = some (.int .u32 cum)) :
    Calls Try.prog 39 #[.pointer (some ⟨p, 0, none⟩)] w fun e w' => e = .returned (.int .u32 cum) ∧ w' = w := by
  go_enter Try.func39, Try.ntmps39
  go_wp2
  go_ret
  exact ⟨rfl, rfl⟩
theorem rahead32 (x y : Nat) (hx : x < 4294967296) (hy : y < 4294967296) (w : World) :
    Calls Try.prog 18 #[.int .i64 32, .int .u32 x, .int .u32 y] w fun e w' => ∃ er : Int, e = .returned (.tuple #[.int .i64 (aheadV 4294967296 x y), .int .i64 er]) ∧ Below w.heap.size w w' := by
  refine (rahead_any 32 x y hx hy w).mono ?_
  rintro e w' ⟨rfl, hb⟩
  exact ⟨_, by rw [ahead_32 x y hx hy], hb⟩
end Go.Proofs.Ytlgpabdadnfbeaa
