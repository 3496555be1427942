/- A tracker as it lies in memory, and what leaves it as it was. -/
import Derived.Test.YtlgpabdadnfbeaaGap1
import Derived.Test.YtlgpabdadnfbeaaOwnU
import Derived.Test.YtlgpabdadnfbeaaSer1
namespace Go.Proofs.Ytlgpabdadnfbeaa
open Go.RowKit
/-- From w to w' no old block was turned but those of P. -/
structure Fr (P : Nat → Prop) (w w' : World) : Prop where
  os : w'.os = w.os
  tape : w'.tape = w.tape
  output : w'.output = w.output
  size : w.heap.size ≤ w'.heap.size
  block : ∀ k, k < w.heap.size → ¬ P k → w'.heap[k]? = w.heap[k]?
theorem Fr.refl (P : Nat → Prop) (w : World) : Fr P w w := ⟨rfl, rfl, rfl, Nat.le_refl _, fun _ _ _ => rfl⟩
theorem Fr.trans {P : Nat → Prop} {a b c : World} (h : Fr P a b) (k : Fr P b c) : Fr P a c :=
  ⟨k.os.trans h.os, k.tape.trans h.tape, k.output.trans h.output, Nat.le_trans h.size k.size, fun i hi hp => (k.block i (Nat.lt_of_lt_of_le hi h.size) hp).trans (h.block i hi hp)⟩
theorem Fr.mono {P Q : Nat → Prop} {w w' : World} (h : Fr P w w') (hq : ∀ k, k < w.heap.size → P k → Q k) : Fr Q w w' := ⟨h.os, h.tape, h.output, h.size, fun k hk hn => h.block k hk (fun hp => hn (hq k hk hp))⟩
theorem Fr.of_below {P : Nat → Prop} {w w' : World} (h : Below w.heap.size w w') : Fr P w w' := ⟨h.os, h.tape, h.output, h.size, fun k hk _ => h.block k hk⟩
theorem Fr.below {P : Nat → Prop} {w w' : World} (h : Fr P w w') (B : Nat) (hB : B ≤ w.heap.size) (hp : ∀ k, P k → B ≤ k) : Below B w w' :=
  ⟨h.os, h.tape, h.output, h.size, fun k hk => h.block k (Nat.lt_of_lt_of_le hk hB) (fun e => by have := hp k e; omega)⟩
theorem Fr.setCell (P : Nat → Prop) (w : World) (a : Addr) (v : Value) (h : P a.block) : Fr P w (w.setCell a v) :=
  ⟨rfl, rfl, rfl, by simp [World.setCell], fun k _ hk => Below.heap_setCell _ _ _ _ (fun e => hk (by rw [e]; exact h))⟩
theorem Fr.grown {P : Nat → Prop} {w w' : World} {row : Option Nat} (hg : w.grownBy w' row) (h : ∀ k, row = some k → P k) : Fr P w w' :=
  ⟨hg.os, hg.tape, hg.output, hg.size, fun k hk hn => hg.block k hk (fun e => hn (h k e.symm))⟩
theorem Fr.cell {P : Nat → Prop} {w w' : World} (h : Fr P w w') (a : Addr) (hl : a.block < w.heap.size) (hp : ¬ P a.block) : w'.cell? a = w.cell? a := by
  simp only [World.cell?, h.block a.block hl hp]
theorem Fr.frozen {P : Nat → Prop} {w w' : World} (h : Fr P w w') (a : Addr) (hl : a.block < w.heap.size) (hp : ¬ P a.block) : w'.frozen? a = w.frozen? a := by
  simp only [World.frozen?, h.block a.block hl hp]
theorem OwnU.fr {P : Nat → Prop} {w w' : World} {B : Nat} {a : Option Addr} {n c : Nat} {zs : List Nat} (h : OwnU w B a n c zs) (hf : Fr P w w') (hp : ∀ k, (Value.slice a n c).ownBlock = some k → ¬ P k) : OwnU w' B a n c zs := by
  obtain ⟨h1, h2, h4⟩ := h
  have h0 := h2
  obtain ⟨h2, h3⟩ := h2
  refine ⟨h1, ⟨h2, ?_⟩, h4⟩
  rcases h3 with h3 | ⟨g, cap, cur, hv, hb, hh, hr⟩
  · exact .inl h3
  · have hg : (Value.slice a n c).ownBlock = some g := by rw [hv]; rfl
    refine .inr ⟨g, cap, cur, hv, hb, ?_, hr⟩
    rw [hf.block g ((h0.lt g hg).2) (hp g hg)]
    exact hh
theorem Win.fr {P : Nat → Prop} {w w' : World} {p o : Nat} {ws : List Nat} (h : Win w p o ws) (hf : Fr P w w') (hl : p < w.heap.size) (hp : ¬ P p) : Win w' p o ws :=
  ⟨h.len, h.bnd, fun i hi => (hf.cell ⟨p, o + i, none⟩ hl hp).trans (h.cell i hi), fun i => (hf.frozen ⟨p, i, none⟩ hl hp).trans (h.free i)⟩
/-- A tracker: its cum, how far ahead of it numbers were taken, and its doubles. db: the block of the doubles, if there is one. -/
structure Trk (w : World) (B p : Nat) (db : Option Nat) (cum : Nat) (S : Nat → Bool) (ds : List Nat) : Prop where
  base : B ≤ p
  lt : p < w.heap.size
  cumlt : cum < 4294967296
  c0 : w.cell? ⟨p, 0, none⟩ = some (.int .u32 cum)
  win : ∃ ws, Win w p 1 ws ∧ ∀ n, 1 ≤ n → n ≤ 256 → S n = bitW ws ((cum + n) % 256)
  out : ∀ n, ¬ (1 ≤ n ∧ n ≤ 256) → S n = false
  dup : ∃ a n c, w.cell? ⟨p, 5, none⟩ = some (.slice a n c) ∧ OwnU w B a n c ds ∧ (Value.slice a n c).ownBlock = db ∧ n ≤ 16
  apart : db ≠ some p
/-- The blocks of a tracker. -/
def ownT (p : Nat) (db : Option Nat) (k : Nat) : Prop := k = p ∨ db = some k
theorem Trk.dlt {w : World} {B p : Nat} {db : Option Nat} {cum : Nat} {S : Nat → Bool} {ds : List Nat} (h : Trk w B p db cum S ds) : ∀ k, db = some k → B ≤ k ∧ k < w.heap.size := by
  obtain ⟨a, n, c, _, ho, hd, _⟩ := h.dup
  intro k hk
  exact ho.own.lt k (hd.trans hk)
theorem Trk.own_ge {w : World} {B p : Nat} {db : Option Nat} {cum : Nat} {S : Nat → Bool} {ds : List Nat} (h : Trk w B p db cum S ds) : ∀ k, ownT p db k → B ≤ k := by
  rintro k (rfl | hk)
  · exact h.base
  · exact (h.dlt k hk).1
/-- What turns none of its blocks leaves it. -/
theorem Trk.fr {P : Nat → Prop} {w w' : World} {B p : Nat} {db : Option Nat} {cum : Nat} {S : Nat → Bool} {ds : List Nat} (h : Trk w B p db cum S ds) (hf : Fr P w w') (hp : ∀ k, ownT p db k → ¬ P k) : Trk w' B p db cum S ds := by
  have hpp : ¬ P p := hp p (.inl rfl)
  obtain ⟨ws, hw, hb⟩ := h.win
  obtain ⟨a, n, c, h5, ho, hd, hn⟩ := h.dup
  exact ⟨h.base, Nat.lt_of_lt_of_le h.lt hf.size, h.cumlt, (hf.cell ⟨p, 0, none⟩ h.lt hpp).trans h.c0, ⟨ws, hw.fr hf h.lt hpp, hb⟩, h.out,
    ⟨a, n, c, (hf.cell ⟨p, 5, none⟩ h.lt hpp).trans h5, ho.fr hf (fun k hk => hp k (.inr (hd.symm.trans hk))), hd, hn⟩, h.apart⟩
theorem Trk.below {w w' : World} {B p : Nat} {db : Option Nat} {cum : Nat} {S : Nat → Bool} {ds : List Nat} (h : Trk w B p db cum S ds) (hb : Below w.heap.size w w') : Trk w' B p db cum S ds :=
  h.fr (P := fun _ => False) (Fr.of_below hb) (fun _ _ e => e)
set_option maxHeartbeats 400000 in
theorem onward_any (a : Nat) (n : Int) (ha : a < 4294967296) (w : World) :
    Calls Try.prog 30 #[.int .u32 a, .int .i64 n] w fun e w' => e = .returned (.int .u32 (addV 4294967296 a n : Nat)) ∧ Below w.heap.size w w' := by
  have h := fun w => add_any 32 a n ha w
  rw [add_32 a n ha] at h
  go_enter Try.func30, Try.ntmps30
  go_wp2_with (go_at_call 46; refine (h _).mono ?_; rintro e w' ⟨rfl, hb⟩)
  go_ret
  exact ⟨rfl, hb⟩
set_option maxHeartbeats 400000 in
theorem cum_any (p cum : Nat) (w : World) (hc : w.cell? ⟨p, 0, none⟩ = some (.int .u32 cum)) :
    Calls Try.prog 13 #[.pointer (some ⟨p, 0, none⟩)] w fun e w' => e = .returned (.int .u32 cum) ∧ w' = w := by
  go_enter Try.func13, Try.ntmps13
  go_wp2
  go_ret
  exact ⟨rfl, rfl⟩
set_option maxHeartbeats 400000 in
theorem tahead_any (p cum t : Nat) (w : World) (hl : cum < 4294967296) (ht : t < 4294967296) (hc : w.cell? ⟨p, 0, none⟩ = some (.int .u32 cum)) :
    Calls Try.prog 28 #[.pointer (some ⟨p, 0, none⟩), .int .u32 t] w fun e w' => e = .returned (.int .i64 (aheadV 4294967296 cum t)) ∧ Below w.heap.size w w' := by
  have h := fun w => ahead_any 32 cum t hl ht w
  rw [ahead_32 cum t hl ht] at h
  go_enter Try.func28, Try.ntmps28
  go_wp2_with (go_at_call 44; refine (h _).mono ?_; rintro e w' ⟨rfl, hb⟩)
  go_ret
  exact ⟨rfl, hb⟩
end Go.Proofs.Ytlgpabdadnfbeaa
