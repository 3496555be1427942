/- A pool of packets in pieces, as it lies in memory. -/
import Derived.Test.YtnbagloifbllbaaRs8
namespace Go.Proofs.Ytnbagloifbllbaa
open Go.RowKit
/-- What a block is of the pool's. -/
inductive Role where
  | no
  | pool
  | row
  | body
  | pcs (m : Nm)
/-- A packet in pieces: its name and since when; its pieces, with their bytes. -/
structure Pa where
  t : Pt
  ps : List (Pk × List Nat)
theorem Sl.frX {w w' : World} {a : Option Addr} {n c : Nat} {zs : List Nat} {Q : Nat → Prop} (h : Sl w a n c zs) (hf : Fr Q w w') (hq : ∀ b off, a = some ⟨b, off, none⟩ → ¬ Q b) : Sl w' a n c zs := by
  obtain ⟨h1, h2, h3, hsm, hnz, h4, h5⟩ := h
  refine ⟨h1, h2, h3, hsm, hnz, h4, ?_⟩
  rcases h5 with h5 | ⟨b, off, rfl, hlt, hc⟩
  · exact .inl h5
  · exact .inr ⟨b, off, rfl, Nat.lt_of_lt_of_le hlt hf.size, fun i hi => (hf.cell ⟨b, off + i, none⟩ hlt (hq b off rfl)).trans (hc i hi)⟩
theorem Sl.frY {w w' : World} {a : Option Addr} {n c : Nat} {zs : List Nat} {Q : Nat → Prop} (h : Sl w a n c zs) (hf : Fr Q w w') (hq : 0 < n → ∀ b off, a = some ⟨b, off, none⟩ → ¬ Q b) : Sl w' a n c zs := by
  obtain ⟨h1, h2, h3, hsm, hnz, h4, h5⟩ := h
  refine ⟨h1, h2, h3, hsm, hnz, h4, ?_⟩
  rcases h5 with h5 | ⟨b, off, rfl, hlt, hc⟩
  · exact .inl h5
  · by_cases h0 : 0 < n
    · exact .inr ⟨b, off, rfl, Nat.lt_of_lt_of_le hlt hf.size, fun i hi => (hf.cell ⟨b, off + i, none⟩ hlt (hq h0 b off rfl)).trans (hc i hi)⟩
    · exact .inl (by omega)
abbrev OwnP := OwnG 26 9 Pk.cells
theorem OwnK.g {w : World} {B : Nat} {a : Option Addr} {n c : Nat} {ps : List Pk} (h : OwnK w B a n c ps) : OwnP w B a n c ps := ⟨h.len, h.own⟩
theorem OwnG.k {w : World} {B : Nat} {a : Option Addr} {n c : Nat} {ps : List Pk} (h : OwnP w B a n c ps) : OwnK w B a n c ps := ⟨h.len, h.own⟩
theorem layPk : Lays Try.prog 28 26 9 48 Pk.cells :=
  ⟨Try.underlying28, ⟨_, own_infoK, rfl⟩, by decide, fun _ => rfl, pk_one⟩
/-- A packet in pieces lies so. -/
structure PaW (w : World) (kd : Nat → Role) (h : Pa) : Prop where
  row : OwnK w 0 h.t.a h.t.n h.t.c (h.ps.map (·.1))
  rk : ∀ g, (Value.slice h.t.a h.t.n h.t.c).ownBlock = some g → kd g = .pcs h.t.nm
  bs : ∀ q ∈ h.ps, Sl w q.1.a q.1.n q.1.c q.2 ∧ 0 < q.1.n ∧ ∃ b off, q.1.a = some ⟨b, off, none⟩ ∧ b < w.heap.size ∧ kd b = .body
structure PoolW (w : World) (kd : Nat → Role) (p : Nat) (now dr : Int) (hs : List Pa) : Prop where
  kp : kd p = .pool
  cells : ∃ a c, Stc w p [.int .i64 now, .slice a hs.length c, .int .i64 dr] ∧ OwnT w 0 a hs.length c (hs.map (·.t)) ∧ ∀ g, (Value.slice a hs.length c).ownBlock = some g → kd g = .row
  each : ∀ h ∈ hs, PaW w kd h
  fresh : ∀ g, w.heap.size ≤ g → kd g = .no
  nodup : (hs.map (·.t.nm)).Nodup
theorem PaW.fr {w w' : World} {kd kd' : Nat → Role} {h : Pa} {Q : Nat → Prop} (hp : PaW w kd h) (hf : Fr Q w w') (hq : ∀ g, g < w.heap.size → Q g → kd g ≠ .body ∧ kd g ≠ .pcs h.t.nm) (hk : ∀ g, g < w.heap.size → kd g = .body ∨ kd g = .pcs h.t.nm → kd' g = kd g) : PaW w' kd' h := by
  refine ⟨?_, fun g hg => ?_, fun q hqm => ?_⟩
  · refine (hp.row.g.fr hf (fun g hg hQ => ?_)).k
    have hlt := (hp.row.own.lt g hg).2
    exact (hq g hlt hQ).2 (hp.rk g hg)
  · have hlt := (hp.row.own.lt g hg).2
    rw [hk g hlt (.inr (hp.rk g hg))]
    exact hp.rk g hg
  · obtain ⟨h1, h2, b, off, h3, h4, h5⟩ := hp.bs q hqm
    refine ⟨h1.frX hf (fun b' off' hb hQ => ?_), h2, b, off, h3, Nat.lt_of_lt_of_le h4 hf.size, ?_⟩
    · rw [h3] at hb
      injection hb with hb
      injection hb with hb
      subst hb
      exact (hq b h4 hQ).1 h5
    · rw [hk b h4 (.inl h5)]
      exact h5
theorem PaW.below {w w' : World} {kd : Nat → Role} {h : Pa} (hp : PaW w kd h) (hb : Below w.heap.size w w') : PaW w' kd h :=
  hp.fr (Q := fun _ => False) (Fr.of_below hb) (fun _ _ h => h.elim) (fun _ _ _ => rfl)
theorem PoolW.fr {w w' : World} {kd : Nat → Role} {p : Nat} {now dr : Int} {hs : List Pa} {Q : Nat → Prop} (h : PoolW w kd p now dr hs) (hf : Fr Q w w') (hq : ∀ g, g < w.heap.size → Q g → kd g = .no) : PoolW w' kd p now dr hs := by
  obtain ⟨a, c, h1, h2, h3⟩ := h.cells
  refine ⟨h.kp, ⟨a, c, h1.fr hf (fun hQ => ?_), h2.fr hf (fun g hg hQ => ?_), h3⟩, fun x hx => (h.each x hx).fr hf (fun g hl hQ => ?_) (fun _ _ _ => rfl), fun g hg => h.fresh g (Nat.le_trans hf.size hg), h.nodup⟩
  · have := hq p h1.lt hQ
    rw [h.kp] at this
    cases this
  · have := hq g (h2.own.lt g hg).2 hQ
    rw [h3 g hg] at this
    cases this
  · rw [hq g hl hQ]
    exact ⟨fun e => (by cases e), fun e => (by cases e)⟩
theorem PoolW.below {w w' : World} {kd : Nat → Role} {p : Nat} {now dr : Int} {hs : List Pa} (h : PoolW w kd p now dr hs) (hb : Below w.heap.size w w') : PoolW w' kd p now dr hs :=
  h.fr (Q := fun _ => False) (Fr.of_below hb) (fun _ _ h => h.elim)
theorem PoolW.lt {w : World} {kd : Nat → Role} {p : Nat} {now dr : Int} {hs : List Pa} (h : PoolW w kd p now dr hs) : p < w.heap.size := by
  obtain ⟨a, c, h1, _⟩ := h.cells
  exact h1.lt
/-- Its tick is laid anew. -/
theorem PoolW.tick {w : World} {kd : Nat → Role} {p : Nat} {now dr : Int} {hs : List Pa} (h : PoolW w kd p now dr hs) (t : Int) : PoolW (w.setCell ⟨p, 0, none⟩ (.int .i64 t)) kd p t dr hs := by
  obtain ⟨a, c, h1, h2, h3⟩ := h.cells
  have hf := Fr.setCell (fun b => b = p) w ⟨p, 0, none⟩ (.int .i64 t) rfl
  have hpl := h1.lt
  refine ⟨h.kp, ⟨a, c, h1.set 0 _, h2.fr hf (fun g hg hQ => ?_), h3⟩, fun x hx => (h.each x hx).fr hf (fun g hl hQ => ?_) (fun _ _ _ => rfl), fun g hg => h.fresh g (Nat.le_trans hf.size hg), h.nodup⟩
  · subst hQ
    have := h3 _ hg
    rw [h.kp] at this
    cases this
  · subst hQ
    rw [h.kp]
    exact ⟨fun e => (by cases e), fun e => (by cases e)⟩
/-- A pool that is made. -/
theorem PoolW.new (w : World) : PoolW (w.alloc (.cells #[.int .i64 0, .slice none 0 0, .int .i64 0] 50)) (fun g => if g = w.heap.size then .pool else .no) w.heap.size 0 0 [] := by
  refine ⟨if_pos rfl, ⟨none, 0, Stc.new w [.int .i64 0, .slice none 0 0, .int .i64 0] 50 _ rfl, OwnG.nil _ _, fun g hg => (by cases hg)⟩, fun h hh => (by cases hh), fun g hg => if_neg (fun e => by have h1 : w.heap.size + 1 ≤ g := (by simpa using hg); omega), List.nodup_nil⟩
end Go.Proofs.Ytnbagloifbllbaa
