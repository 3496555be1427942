/- outq: a queue as it lies in memory. -/
import Derived.Test.YtconfmjgoipejaaOwnG
import Derived.Test.YtconfmjgoipejaaOwn
import Derived.Test.YtconfmjgoipejaaOqF
namespace Go.Proofs.Ytconfmjgoipejaa
open Go.RowKit Go.Shelf
/-- A piece as data: TSN, flags, stream, SSN, PPID, bytes; how it stands, its way, how often it was missed. -/
structure Pc where
  t : Nat
  f : Nat
  st : Nat
  ss : Nat
  pp : Nat
  zs : List Nat
  is : Nat
  wy : Nat
  ms : Nat
/-- .. and where its bytes lie. -/
abbrev PcA := Pc × Option Addr × Nat
def pcV (x : PcA) : List Value := [.int .u8 0, .int .u8 (x.1.f : Nat), .int .u32 (x.1.t : Nat), .int .u16 (x.1.st : Nat), .int .u16 (x.1.ss : Nat), .int .u32 (x.1.pp : Nat), .int .u32 0, .int .u32 0, .int .u16 0, .int .u16 0, .slice none 0 0, .slice none 0 0, .slice none 0 0, .slice x.2.1 x.1.zs.length x.2.2, .int .i64 (x.1.is : Nat), .int .i64 (x.1.wy : Nat), .int .i64 (x.1.ms : Nat)]
theorem pcV_len (x : PcA) : (pcV x).length = 17 := rfl
abbrev OwnQ := OwnG 82 17 pcV
theorem layQ : Lays Try.prog 69 82 17 152 pcV :=
  ⟨by kernel_rfl, ⟨.agg #[.int .u8 0, .int .u8 0, .int .u32 0, .int .u16 0, .int .u16 0, .int .u32 0, .int .u32 0, .int .u32 0, .int .u16 0, .int .u16 0, .slice none 0 0, .slice none 0 0, .slice none 0 0, .slice none 0 0, .int .i64 0, .int .i64 0, .int .i64 0], by kernel_rfl, by kernel_rfl⟩, by decide, pcV_len, fun x u hu => by
    simp only [pcV, List.mem_cons, List.not_mem_nil, or_false] at hu
    rcases hu with rfl | rfl | rfl | rfl | rfl | rfl | rfl | rfl | rfl | rfl | rfl | rfl | rfl | rfl | rfl | rfl | rfl <;> rfl⟩
/-- A block of cells of a type. -/
def BT (w : World) (b : Nat) (T : TypeId) : Prop := ∃ cur r, w.heap[b]? = some (.cells cur T r)
theorem BT.lt {w : World} {b : Nat} {T : TypeId} (h : BT w b T) : b < w.heap.size := by
  obtain ⟨cur, r, h⟩ := h
  exact (Array.getElem?_eq_some_iff.1 h).1
theorem BT.ne {w : World} {b c : Nat} {T U : TypeId} (h : BT w b T) (k : BT w c U) (hT : T ≠ U) : b ≠ c := by
  rintro rfl
  obtain ⟨cur, r, h⟩ := h
  obtain ⟨cur', r', k⟩ := k
  rw [h] at k
  injection k with k
  injection k with _ k _
  exact hT k
theorem BT.same {w w' : World} {b : Nat} {T : TypeId} (h : BT w b T) (he : w'.heap[b]? = w.heap[b]?) : BT w' b T := by
  obtain ⟨cur, r, h⟩ := h
  exact ⟨cur, r, he.trans h⟩
theorem BT.below {w w' : World} {b : Nat} {T : TypeId} (h : BT w b T) (hb : Below w.heap.size w w') : BT w' b T := h.same (hb.block b h.lt)
theorem BT.setCell {w : World} {b : Nat} {T : TypeId} (h : BT w b T) (a : Addr) (v : Value) : BT (w.setCell a v) b T := by
  obtain ⟨cur, r, h⟩ := h
  by_cases e : b = a.block
  · subst e
    refine ⟨if a.spot.isSome then cur else cur.setIfInBounds a.off v, r, ?_⟩
    simp only [World.setCell, Array.getElem?_modify, if_true, h, Option.map_some]
  · exact ⟨cur, r, (Below.heap_setCell _ _ _ _ (by omega)).trans h⟩
theorem OwnG.bt {α : Type} {T : TypeId} {k : Nat} {cf : α → List Value} {w : World} {B : Nat} {a : Option Addr} {n c : Nat} {ps : List α} (h : OwnG T k cf w B a n c ps) : ∀ g, (Value.slice a n c).ownBlock = some g → BT w g T := by
  intro g hg
  rcases h.own.2 with ⟨hv, _⟩ | ⟨g', cap, cur, hv, _, hh, _⟩
  · rw [hv] at hg; cases hg
  · rw [hv] at hg
    injection hg with e
    subst e
    exact ⟨cur, _, hh⟩
theorem OwnB.bt {w : World} {B : Nat} {a : Option Addr} {n c : Nat} {zs : List Nat} (h : OwnB w B a n c zs) : ∀ g, (Value.slice a n c).ownBlock = some g → BT w g 5 := by
  intro g hg
  rcases h.own.2 with ⟨hv, _⟩ | ⟨g', cap, cur, hv, _, hh, _⟩
  · rw [hv] at hg; cases hg
  · rw [hv] at hg
    injection hg with e
    subst e
    exact ⟨cur, _, hh⟩
theorem OwnB.frY {w w' : World} {B : Nat} {a : Option Addr} {n c : Nat} {zs : List Nat} {Q : Nat → Prop} (h : OwnB w B a n c zs) (hf : Fr Q w w') (hq : ∀ g, BT w g 5 → ¬ Q g) : OwnB w' B a n c zs := by
  have hbt := h.bt
  obtain ⟨h1, ⟨h2, h3⟩, h4⟩ := h
  refine ⟨h1, ⟨h2, ?_⟩, h4⟩
  rcases h3 with h3 | ⟨g, cap, cur, hv, hb, hh, hr⟩
  · exact .inl h3
  · injection hv with e1 e2 e3
    subst e1 e3
    exact .inr ⟨g, c, cur, rfl, hb, (hf.block g (Array.getElem?_eq_some_iff.1 hh).1 (hq g (hbt g rfl))).trans hh, hr⟩
/-- A queue: its struct in block q, its row of SSNs in block nb, its row of pieces; each piece's bytes in blocks of bytes. -/
structure QuW (w : World) (q nb : Nat) (pa : Option Addr) (cap : Nat) (L : List PcA) (cum size : Nat) (nx : List Nat) : Prop where
  tq : BT w q 71
  tn : BT w nb 34
  c0 : w.cell? ⟨q, 0, none⟩ = some (.int .u32 (cum : Nat))
  c1 : w.cell? ⟨q, 1, none⟩ = some (.int .i64 (size : Nat))
  c2 : w.cell? ⟨q, 2, none⟩ = some (.slice (some ⟨nb, 0, none⟩) nx.length nx.length)
  c3 : w.cell? ⟨q, 3, none⟩ = some (.slice pa L.length cap)
  fq : ∀ i, w.frozen? ⟨q, i, none⟩ = false
  nc : ∀ i, i < nx.length → w.cell? ⟨nb, i, none⟩ = some (.int .u16 (nx.getD i 0 : Nat))
  fn : ∀ i, w.frozen? ⟨nb, i, none⟩ = false
  row : OwnQ w 0 pa L.length cap L
  dat : ∀ x ∈ L, OwnB w 0 x.2.1 x.1.zs.length x.2.2 x.1.zs
theorem QuW.fr {w w' : World} {q nb : Nat} {pa : Option Addr} {cap : Nat} {L : List PcA} {cum size : Nat} {nx : List Nat} {Q : Nat → Prop} (h : QuW w q nb pa cap L cum size nx) (hf : Fr Q w w') (hq : ¬ Q q) (hn : ¬ Q nb) (hp : ∀ g, (Value.slice pa L.length cap).ownBlock = some g → ¬ Q g) (hu : ∀ g, BT w g 5 → ¬ Q g) : QuW w' q nb pa cap L cum size nx :=
  ⟨h.tq.same (hf.block _ h.tq.lt hq), h.tn.same (hf.block _ h.tn.lt hn), (hf.cell _ h.tq.lt hq).trans h.c0, (hf.cell _ h.tq.lt hq).trans h.c1, (hf.cell _ h.tq.lt hq).trans h.c2, (hf.cell _ h.tq.lt hq).trans h.c3,
    fun i => (hf.frozen ⟨q, i, none⟩ h.tq.lt hq).trans (h.fq i), fun i hi => (hf.cell _ h.tn.lt hn).trans (h.nc i hi), fun i => (hf.frozen ⟨nb, i, none⟩ h.tn.lt hn).trans (h.fn i), h.row.fr hf hp, fun x hx => (h.dat x hx).frY hf hu⟩
theorem QuW.below {w w' : World} {q nb : Nat} {pa : Option Addr} {cap : Nat} {L : List PcA} {cum size : Nat} {nx : List Nat} (h : QuW w q nb pa cap L cum size nx) (hb : Below w.heap.size w w') : QuW w' q nb pa cap L cum size nx :=
  h.fr (Q := fun _ => False) (Fr.of_below hb) (fun e => e) (fun e => e) (fun _ _ e => e) (fun _ _ e => e)
/-- Where piece k lies. -/
theorem QuW.at_ {w : World} {q nb : Nat} {pa : Option Addr} {cap : Nat} {L : List PcA} {cum size : Nat} {nx : List Nat} (h : QuW w q nb pa cap L cum size nx) : ∃ pb, (L.length = 0 ∨ pa = some ⟨pb, 0, none⟩) ∧
    (∀ (k : Nat) (x : PcA), L[k]? = some x → BT w pb 82 ∧ (∀ (i : Nat) u, (pcV x)[i]? = some u → w.cell? ⟨pb, k * 17 + i, none⟩ = some u) ∧ ∀ i, w.frozen? ⟨pb, i, none⟩ = false) := by
  by_cases hn : L.length = 0
  · refine ⟨0, .inl hn, fun k x hx => ?_⟩
    have := (List.getElem?_eq_some_iff.1 hx).1
    omega
  · obtain ⟨g, rfl, _, _, _, _, hc, hf⟩ := h.row.at_ pcV_len (by omega)
    exact ⟨g, .inr rfl, fun k x hx => ⟨h.row.bt g rfl, hc k x hx, hf⟩⟩
theorem Kq.set {B C : Nat} {Qs : Nat → Prop} (W : World) (a : Addr) (v : Value) (h1 : ¬ (B ≤ a.block ∧ a.block < B + C)) (h2 : ¬ Qs a.block) : Kq B C Qs W (W.setCell a v) :=
  ⟨by simp [World.setCell], fun b hb => Below.heap_setCell _ _ _ _ (fun e => by subst e; exact hb.elim h1 h2)⟩
/-- The bytes of the first k pieces. -/
def sumL (L : List PcA) (k : Nat) : Nat := ((L.take k).map (fun x => x.1.zs.length)).sum
theorem sumL_succ {L : List PcA} {k : Nat} {x : PcA} (h : L[k]? = some x) : sumL L (k + 1) = sumL L k + x.1.zs.length := by
  unfold sumL
  rw [List.take_add_one, h]
  simp
theorem sumL_all (L : List PcA) : sumL L L.length = (L.map (fun x => x.1.zs.length)).sum := by
  unfold sumL
  rw [List.take_length]
theorem sumL_le {L : List PcA} (k : Nat) : sumL L k ≤ sumL L L.length := by
  rw [sumL_all]
  unfold sumL
  have h : L.map (fun x => x.1.zs.length) = (L.take k).map (fun x => x.1.zs.length) ++ (L.drop k).map (fun x => x.1.zs.length) := by rw [← List.map_append, List.take_append_drop]
  rw [h, List.sum_append]
  omega
end Go.Proofs.Ytconfmjgoipejaa
