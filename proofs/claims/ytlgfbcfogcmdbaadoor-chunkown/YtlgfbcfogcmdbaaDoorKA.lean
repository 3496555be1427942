/- chunk.Take, where nothing fails; law12.live. -/
import Derived.Test.YtlgfbcfogcmdbaaDoorKG
import Derived.Test.YtlgfbcfogcmdbaaDoorWr8
import Derived.Defers
import Derived.Recover
import Derived.Test.YtlgfbcfogcmdbaaDoorBytes
import Derived.Test.YtlgfbcfogcmdbaaDoorProg
import Derived.Test.YtlgfbcfogcmdbaaDoorBase
import Derived.Outline
import Derived.WalkLawsBesides
import Derived.WalkSpells
import Derived.Laws.IdiomStrings
import Derived.Test.YtlgfbcfogcmdbaaDoorWr2
import Derived.Test.YtlgfbcfogcmdbaaDoorChK
import Derived.Test.YtlgfbcfogcmdbaaDoorChS
import Derived.Lib.SlBytesConst
namespace Go.Proofs.YtlgfbcfogcmdbaaDoor
open Go.RowKit
def bkV (p : Nat × Nat) : List Value := [.int .u16 (p.1 : Nat), .int .u16 (p.2 : Nat)]
def duV (d : Nat) : List Value := [.int .u32 (d : Nat)]
abbrev OwnK := OwnG 71 2 bkV
abbrev OwnD := OwnG 23 1 duV
theorem layK : Lays Tryd.prog 27 71 2 4 bkV :=
  ⟨Tryd.underlying27, ⟨.agg #[.int .u16 0, .int .u16 0], by kernel_rfl, rfl⟩, by decide, fun _ => rfl, fun x u hu => by
    simp [bkV] at hu
    rcases hu with rfl | rfl <;> rfl⟩
theorem layD : Lays Tryd.prog 28 23 1 4 duV :=
  ⟨Tryd.underlying28, ⟨.int .u32 0, by kernel_rfl, rfl⟩, by decide, fun _ => rfl, fun x u hu => by
    simp [duV] at hu
    rcases hu with rfl
    rfl⟩
theorem ownG_apart {α β : Type} {T T' : TypeId} {k k' : Nat} {cf : α → List Value} {cf' : β → List Value} {w : World} {B B' : Nat} {a a' : Option Addr} {n c n' c' : Nat} {xs : List α} {ys : List β} (hT : T ≠ T') (h : OwnG T k cf w B a n c xs) (h' : OwnG T' k' cf' w B' a' n' c' ys) : (Value.slice a n c).ownBlock = none ∨ (Value.slice a n c).ownBlock ≠ (Value.slice a' n' c').ownBlock := by
  cases hg : (Value.slice a n c).ownBlock with
  | none => exact .inl rfl
  | some g =>
    refine .inr fun hg' => ?_
    rcases h.own.2 with ⟨hv, _⟩ | ⟨g1, cap, cur, hv, _, hh, _⟩
    · injection hv with e1; subst e1; cases hg
    · injection hv with e1
      subst e1
      obtain rfl : g1 = g := Option.some.inj hg
      rcases h'.own.2 with ⟨hv', _⟩ | ⟨g2, cap2, cur2, hv', _, hh', _⟩
      · injection hv' with e1; subst e1; cases hg'
      · injection hv' with e1
        subst e1
        obtain rfl : g1 = g2 := Option.some.inj hg'
        rw [hh] at hh'
        injection hh' with hh'
        injection hh' with _ e2
        exact hT e2
/-- A Sack under way: the box x, the blocks and the numbers so far. -/
structure SkS (W0 w : World) (q : Nat) (sh : Int) (zs : List Nat) (tsn room : Nat) (la : Option Addr) (lc : Nat) (ma : Option Addr) (mc : Nat) (bs : List (Nat × Nat)) (ds : List Nat) (V : World) : Prop where
  ru : RuS W0 w q zs sh V
  st : Stc V w.heap.size [.int .u32 (tsn : Nat), .int .u32 (room : Nat), .slice la bs.length lc, .slice ma ds.length mc]
  ob : OwnK V (w.heap.size + 1) la bs.length lc bs
  od : OwnD V (w.heap.size + 1) ma ds.length mc ds
section
variable {W0 w V V' : World} {q : Nat} {sh : Int} {zs zs' : List Nat} {tsn room : Nat} {la : Option Addr} {lc : Nat} {ma : Option Addr} {mc : Nat} {bs : List (Nat × Nat)} {ds : List Nat}
theorem SkS.next {v : Value} {e : Ending} (h : SkS W0 w q sh zs tsn room la lc ma mc bs ds V) (hq : q < w.heap.size) (hp : RdP W0 V q v zs' sh e V') : SkS W0 w q sh zs' tsn room la lc ma mc bs ds V' :=
  ⟨h.ru.next hp, h.st.fr hp.fr (by omega), OwnG.fr h.ob hp.fr (fun g hg => by have := (h.ob.own.lt g hg).1; omega), OwnG.fr h.od hp.fr (fun g hg => by have := (h.od.own.lt g hg).1; omega)⟩
theorem SkS.below (h : SkS W0 w q sh zs tsn room la lc ma mc bs ds V) (hb : Below V.heap.size V V') : SkS W0 w q sh zs tsn room la lc ma mc bs ds V' :=
  ⟨h.ru.below hb, h.st.below hb, OwnG.below h.ob hb, OwnG.below h.od hb⟩
theorem SkS.grown {row : Option Nat} (h : SkS W0 w q sh zs tsn room la lc ma mc bs ds V) (hq : q < w.heap.size) (hW : W0.heap.size ≤ w.heap.size) (hg : V.grownBy V' row) (hr : ∀ g, row = some g → w.heap.size < g) : RuS W0 w q zs sh V' ∧ Stc V' w.heap.size [.int .u32 (tsn : Nat), .int .u32 (room : Nat), .slice la bs.length lc, .slice ma ds.length mc] := by
  have hf : Fr (fun k => w.heap.size < k) V V' := Fr.grown hg hr
  exact ⟨⟨h.ru.rd.fr hf (fun e => by omega) (fun g hg => by omega), h.ru.fr.trans (hf.mono (fun k _ hk => .inr (Nat.le_of_lt hk)))⟩, h.st.fr hf (by omega)⟩
/-- One more block. -/
theorem SkS.blk (h : SkS W0 w q sh zs tsn room la lc ma mc bs ds V) (hq : q < w.heap.size) (hW : W0.heap.size ≤ w.heap.size) (p : Nat × Nat) (hn : bs.length ≤ 1000) :
    ∃ g c' V', (Builtin.append_ #[27, 27] 27 #[.slice la bs.length lc, .slice (some ⟨V.heap.size, 0, none⟩) 1 1]).run Tryd.prog (V.alloc (.cells #[.int .u16 (p.1 : Nat), .int .u16 (p.2 : Nat)] 71)) = .ok (.slice (some ⟨g, 0, none⟩) (bs.length + 1) c') V' ∧
      Stc V' w.heap.size [.int .u32 (tsn : Nat), .int .u32 (room : Nat), .slice la bs.length lc, .slice ma ds.length mc] ∧
      SkS W0 w q sh zs tsn room (some ⟨g, 0, none⟩) c' ma mc (bs ++ [p]) ds (V'.setCell ⟨w.heap.size, 2, none⟩ (.slice (some ⟨g, 0, none⟩) (bs.length + 1) c')) := by
  have b0 : Below V.heap.size V (V.alloc (.cells (bkV p).toArray 71)) := (Below.refl _ _).alloc (Nat.le_refl _) _
  have st2 := Stc.new V (bkV p) 71 _ rfl
  have h0 := h.below b0
  have hxl := h.st.lt
  obtain ⟨g, c', V', hr, ho, hgr, hg, hgl⟩ := OwnG.app layK h0.ob 27 p ⟨V.heap.size, 0, none⟩ (fun j u hj => by
    have := st2.cell j u hj
    unfold Addr.add
    split
    · rename_i e; subst e; exact this
    · simpa using this) (by unfold maxLen; omega) (by omega) (by have := h0.st.lt; omega)
  obtain ⟨r1, r2⟩ := h0.grown hq hW hgr (fun g hg => (h0.ob.own.lt g hg).1)
  have od2 := OwnG.kept h0.od hgr (ownG_apart (by decide) h0.od h0.ob)
  have hf := Fr.setCell (fun k => k = w.heap.size) V' ⟨w.heap.size, 2, none⟩ (.slice (some ⟨g, 0, none⟩) (bs.length + 1) c') rfl
  refine ⟨g, c', V', hr, r2, ⟨r1.own (Nat.le_refl _) hq (by omega) hf, ?_, ?_, OwnG.fr od2 hf (fun g hg => by have := (od2.own.lt g hg).1; omega)⟩⟩
  · have := r2.set 2 (.slice (some ⟨g, 0, none⟩) (bs.length + 1) c')
    rw [List.length_append]
    exact this
  · rw [List.length_append]
    exact OwnG.fr ho hf (fun g hg => by have := (ho.own.lt g hg).1; omega)
/-- One more number: the row alone. -/
theorem SkS.dup (h : SkS W0 w q sh zs tsn room la lc ma mc bs ds V) (hq : q < w.heap.size) (hW : W0.heap.size ≤ w.heap.size) (d : Nat) (hn : ds.length ≤ 1000) :
    ∃ g c' V', (Builtin.append_ #[28, 28] 28 #[.slice ma ds.length mc, .slice (some ⟨V.heap.size, 0, none⟩) 1 1]).run Tryd.prog (V.alloc (.cells #[.int .u32 (d : Nat)] 23)) = .ok (.slice (some ⟨g, 0, none⟩) (ds.length + 1) c') V' ∧
      Stc V' w.heap.size [.int .u32 (tsn : Nat), .int .u32 (room : Nat), .slice la bs.length lc, .slice ma ds.length mc] ∧
      SkS W0 w q sh zs tsn room la lc (some ⟨g, 0, none⟩) c' bs (ds ++ [d]) (V'.setCell ⟨w.heap.size, 3, none⟩ (.slice (some ⟨g, 0, none⟩) (ds.length + 1) c')) := by
  have b0 : Below V.heap.size V (V.alloc (.cells (duV d).toArray 23)) := (Below.refl _ _).alloc (Nat.le_refl _) _
  have st2 := Stc.new V (duV d) 23 _ rfl
  have h0 := h.below b0
  have hxl := h.st.lt
  obtain ⟨g, c', V', hr, ho, hgr, hg, hgl⟩ := OwnG.app layD h0.od 28 d ⟨V.heap.size, 0, none⟩ (fun j u hj => by
    have := st2.cell j u hj
    unfold Addr.add
    split
    · rename_i e; subst e; exact this
    · simpa using this) (by unfold maxLen; omega) (by omega) (by have := h0.st.lt; omega)
  obtain ⟨r1, r2⟩ := h0.grown hq hW hgr (fun g hg => (h0.od.own.lt g hg).1)
  have ob2 := OwnG.kept h0.ob hgr (ownG_apart (by decide) h0.ob h0.od)
  have hf := Fr.setCell (fun k => k = w.heap.size) V' ⟨w.heap.size, 3, none⟩ (.slice (some ⟨g, 0, none⟩) (ds.length + 1) c') rfl
  refine ⟨g, c', V', hr, r2, ⟨r1.own (Nat.le_refl _) hq (by omega) hf, ?_, OwnG.fr ob2 hf (fun g hg => by have := (ob2.own.lt g hg).1; omega), ?_⟩⟩
  · have := r2.set 3 (.slice (some ⟨g, 0, none⟩) (ds.length + 1) c')
    rw [List.length_append]
    exact this
  · rw [List.length_append]
    exact OwnG.fr ho hf (fun g hg => by have := (ho.own.lt g hg).1; omega)
end
theorem bksB_cons (p : Nat × Nat) (bs : List (Nat × Nat)) (r : List Nat) : bksB (p :: bs) ++ r = bytesB p.1 2 ++ (bytesB p.2 2 ++ (bksB bs ++ r)) := by
  unfold bksB
  rw [List.flatMap_cons]
  simp only [List.append_assoc]
theorem dusB_cons (d : Nat) (ds : List Nat) : dusB (d :: ds) = bytesB d 4 ++ dusB ds := by
  unfold dusB
  rw [List.flatMap_cons]
theorem take4B (v : Nat) (x : List Nat) : (bytesB v 4 ++ x).take 4 = bytesB v 4 := List.take_left' (bytesB_len v 4)
theorem drop4B (v : Nat) (x : List Nat) : (bytesB v 4 ++ x).drop 4 = x := List.drop_left' (bytesB_len v 4)
theorem numB_four {v : Nat} (h : v < 4294967296) : numB (bytesB v 4) = v := by
  simp [bytesB, numB]
  omega
end Go.Proofs.YtlgfbcfogcmdbaaDoor
namespace Go.Proofs.YtlgfbcfogcmdbaaDoor
open Go.RowKit
/-- The region in which a number is laid behind the others: what is done (3: it is read, 4: a row of it is made, 5: appended, 7: stored). -/
structure SkG (W0 : World) (x : Nat) (old : Value) (d j : Nat) (S1 : World → Prop) (FF : Nat → Nat → World → Prop) (θ : Nat × Nat × Nat) (l : Nat → Bool) (V : World) : Prop where
  s0 : l 3 = false → V = W0
  s1 : l 3 = true → l 4 = false → S1 V
  s2 : l 4 = true → l 5 = false → ∃ V6, S1 V6 ∧ θ.1 = V6.heap.size ∧ V = V6.alloc (.cells #[.int .u32 (d : Nat)] 23)
  s3 : l 5 = true → l 7 = false → V.cell? ⟨x, 3, none⟩ = some old ∧ V.frozen? ⟨x, 3, none⟩ = false ∧ FF θ.2.1 θ.2.2 (V.setCell ⟨x, 3, none⟩ (.slice (some ⟨θ.2.1, 0, none⟩) (j + 1) θ.2.2))
  s4 : l 7 = true → FF θ.2.1 θ.2.2 V
section
variable {W0 : World} {x : Nat} {old : Value} {d j : Nat} {S1 : World → Prop} {FF : Nat → Nat → World → Prop} {θ : Nat × Nat × Nat} {l : Nat → Bool} {V : World}
theorem SkG.start (θ : Nat × Nat × Nat) : SkG W0 x old d j S1 FF θ (fun _ => false) W0 := ⟨fun _ => rfl, fun e => (by cases e), fun e => (by cases e), fun e => (by cases e), fun e => (by cases e)⟩
theorem SkG.other (h : SkG W0 x old d j S1 FF θ l V) (i : Nat) (h3 : 3 ≠ i) (h4 : 4 ≠ i) (h5 : 5 ≠ i) (h7 : 7 ≠ i) : SkG W0 x old d j S1 FF θ (updL l i) V :=
  ⟨by rw [updL_neC h3]; exact h.s0, by rw [updL_neC h3, updL_neC h4]; exact h.s1, by rw [updL_neC h4, updL_neC h5]; exact h.s2, by rw [updL_neC h5, updL_neC h7]; exact h.s3, by rw [updL_neC h7]; exact h.s4⟩
theorem SkG.call (h4 : l 4 = false) (h5 : l 5 = false) (h7 : l 7 = false) (hs : S1 V) : SkG W0 x old d j S1 FF θ (updL l 3) V :=
  ⟨fun e => (by rw [updL_eqC] at e; cases e), fun _ _ => hs, fun e => (by rw [updL_neC (by decide), h4] at e; cases e), fun e => (by rw [updL_neC (by decide), h5] at e; cases e), fun e => (by rw [updL_neC (by decide), h7] at e; cases e)⟩
theorem SkG.alloc (h : SkG W0 x old d j S1 FF θ l V) (h3 : l 3 = true) (h4 : l 4 = false) (h5 : l 5 = false) (h7 : l 7 = false) : SkG W0 x old d j S1 FF (V.heap.size, θ.2) (updL l 4) (V.alloc (.cells #[.int .u32 (d : Nat)] 23)) :=
  ⟨fun e => (by rw [updL_neC (by decide), h3] at e; cases e), fun _ e => (by rw [updL_eqC] at e; cases e), fun _ _ => ⟨V, h.s1 h3 h4, rfl, rfl⟩, fun e => (by rw [updL_neC (by decide), h5] at e; cases e), fun e => (by rw [updL_neC (by decide), h7] at e; cases e)⟩
theorem SkG.app {b6 g7 c7 : Nat} (hcl4 : l 3 = true) (h4 : l 4 = true) (h7 : l 7 = false) (k7 : V.cell? ⟨x, 3, none⟩ = some old) (f7 : V.frozen? ⟨x, 3, none⟩ = false) (hw : FF g7 c7 (V.setCell ⟨x, 3, none⟩ (.slice (some ⟨g7, 0, none⟩) (j + 1) c7))) : SkG W0 x old d j S1 FF (b6, g7, c7) (updL l 5) V :=
  ⟨fun e => (by rw [updL_neC (by decide), hcl4] at e; cases e), fun _ e => (by rw [updL_neC (by decide), h4] at e; cases e), fun _ e => (by rw [updL_eqC] at e; cases e), fun _ _ => ⟨k7, f7, hw⟩, fun e => (by rw [updL_neC (by decide), h7] at e; cases e)⟩
theorem SkG.store (hcl4 : l 3 = true) (hcl5 : l 4 = true) (h5 : l 5 = true) (hw : FF θ.2.1 θ.2.2 V) : SkG W0 x old d j S1 FF θ (updL l 7) V :=
  ⟨fun e => (by rw [updL_neC (by decide), hcl4] at e; cases e), fun _ e => (by rw [updL_neC (by decide), hcl5] at e; cases e), fun _ e => (by rw [updL_neC (by decide), h5] at e; cases e), fun _ e => (by rw [updL_eqC] at e; cases e), fun _ => hw⟩
theorem SkG.cell (h : SkG W0 x old d j S1 FF θ l V) (h7 : l 7 = false) (h0 : W0.cell? ⟨x, 3, none⟩ = some old) (h1 : ∀ V, S1 V → V.cell? ⟨x, 3, none⟩ = some old) (h2 : ∀ V, S1 V → (V.alloc (.cells #[.int .u32 (d : Nat)] 23)).cell? ⟨x, 3, none⟩ = some old) : V.cell? ⟨x, 3, none⟩ = some old := by
  cases h3 : l 3 with
  | false => rw [h.s0 h3]; exact h0
  | true =>
    cases h4 : l 4 with
    | false => exact h1 V (h.s1 h3 h4)
    | true =>
      cases h5 : l 5 with
      | false =>
        obtain ⟨V6, hs, _, rfl⟩ := h.s2 h4 h5
        exact h2 V6 hs
      | true => exact (h.s3 h5 h7).1
end
theorem run_bsd {ρ : Operand → Value} {o : Oper} (d : Nat) (V : World) {x : Operand} (ho : o.op = .buildSlice 28 1 #[(0, x)]) (hx : ρ x = .int .u32 (d : Nat)) : (execOp ρ o).run Tryd.prog V = .ok (.value (.slice (some ⟨V.heap.size, 0, none⟩) 1 1)) (V.alloc (.cells #[.int .u32 (d : Nat)] 23)) := by
  obtain ⟨dst, op, ty, pos, after, guard⟩ := o
  dsimp only at ho
  subst ho
  go_simp
structure RdK (W0 w : World) (q : Nat) (tsn room : Nat) (bs : List (Nat × Nat)) (ds : List Nat) (sh : Int) (e : Ending) (w' : World) : Prop where
  ex : ∃ la lc ma mc, e = .returned (.iface 97 (.agg #[.int .u32 (tsn : Nat), .int .u32 (room : Nat), .slice la bs.length lc, .slice ma ds.length mc])) ∧ OwnK w' w.heap.size la bs.length lc bs ∧ OwnD w' w.heap.size ma ds.length mc ds
  rd : RdW W0 w' q [] sh
  fr : Fr (fun k => k = q) w w'
def sackB (tsn room : Nat) (bs : List (Nat × Nat)) (ds : List Nat) : List Nat := bytesB tsn 4 ++ (bytesB room 4 ++ (bytesB bs.length 2 ++ (bytesB ds.length 2 ++ (bksB bs ++ dusB ds))))
theorem zero_sv (w : World) : (zeroValue 97).run Tryd.prog w = .ok (.agg #[.int .u32 0, .int .u32 0, .slice none 0 0, .slice none 0 0]) w := by kernel_rfl
set_option linter.unusedVariables false in
set_option maxRecDepth 100000 in
set_option maxHeartbeats 8000000 in
theorem rsack_any {W0 w : World} {q : Nat} {sh : Int} (tsn room : Nat) (bs : List (Nat × Nat)) (ds : List Nat) (h : RdW W0 w q (sackB tsn room bs ds) sh) (htb : tsn < 4294967296) (hrb : room < 4294967296) (hbn : bs.length ≤ 1000) (hdn : ds.length ≤ 1000) (hbb : ∀ p ∈ bs, p.1 < 65536 ∧ p.2 < 65536) (hdb : ∀ d ∈ ds, d < 4294967296) :
    Calls Tryd.prog 66 #[.pointer (some ⟨q, 0, none⟩)] w (RdK W0 w q tsn room bs ds sh) := by
  have hql := h.lt
  have hWq := h.old
  have hWw : W0.heap.size ≤ w.heap.size := by omega
  unfold sackB at h
  have HBB := (show Hid _ from And.intro hbb hdb)
  obtain ⟨nb, hnb⟩ : ∃ nb, nb = bs.length := ⟨_, rfl⟩
  obtain ⟨nd, hnd⟩ : ∃ nd, nd = ds.length := ⟨_, rfl⟩
  have HNB := (show Hid _ from And.intro hnb hnd)
  rw [← hnb, ← hnd] at h
  rw [← hnb] at hbn
  rw [← hnd] at hdn
  obtain ⟨W1, hW1⟩ : ∃ W1, W1 = w.alloc (.cells #[.int .u32 0, .int .u32 0, .slice none 0 0, .slice none 0 0] 97) := ⟨_, rfl⟩
  have b1 : Below w.heap.size w W1 := by rw [hW1]; exact (Below.refl _ _).alloc (Nat.le_refl _) _
  have s1 := Stc.new w [.int .u32 0, .int .u32 0, .slice none 0 0, .slice none 0 0] 97 W1 hW1
  have hz := zero_sv
  have HU0 : Hid (RuS W0 w q _ sh W1 ∧ Stc W1 w.heap.size [.int .u32 0, .int .u32 0, .slice none 0 0, .slice none 0 0]) := ⟨⟨h.below b1, Fr.of_below b1⟩, s1⟩
  have HN := (show Hid _ from rword_any HU0.out.1.rd (by simp [bytesB_len]))
  rw [take4B, drop4B, numB_four htb] at HN
  clear h b1 s1 hbb hdb hnb hnd
  go_enter Tryd.func66, Tryd.ntmps66
  go_wp2_with fail
  rw [← hW1]
  clear hW1 hz
  refine Calls.mono HN.out ?_
  clear HN
  rintro e v0 hP
  have he := hP.out
  subst he
  obtain ⟨hu, s1⟩ := HU0.out
  replace s1 := s1.fr hP.fr (by omega)
  replace hu := hu.next hP
  have f0 := s1.free 0
  have c0 := s1.cell 0 _ rfl
  have hf := Fr.setCell (fun k => k = w.heap.size) v0 ⟨w.heap.size, 0, none⟩ (.int .u32 (tsn : Nat)) rfl
  obtain ⟨w1, hw1⟩ : ∃ w1, w1 = v0.setCell ⟨w.heap.size, 0, none⟩ (.int .u32 (tsn : Nat)) := ⟨_, rfl⟩
  have HU1 : Hid (RuS W0 w q (bytesB room 4 ++ (bytesB nb 2 ++ (bytesB nd 2 ++ (bksB bs ++ dusB ds)))) sh w1 ∧ Stc w1 w.heap.size [.int .u32 (tsn : Nat), .int .u32 0, .slice none 0 0, .slice none 0 0]) := by
    rw [hw1]
    exact ⟨hu.own (Nat.le_refl _) hql (by omega) hf, s1.set 0 _⟩
  clear HU0 hP hu s1 hf
  have HN := (show Hid _ from rword_any HU1.out.1.rd (by simp [bytesB_len]))
  rw [take4B, drop4B, numB_four hrb] at HN
  go_wp2_with fail
  rw [← hw1]
  clear hw1 f0 c0
  refine Calls.mono HN.out ?_
  clear HN
  rintro e v1 hP
  have he := hP.out
  subst he
  obtain ⟨hu, s1⟩ := HU1.out
  replace s1 := s1.fr hP.fr (by omega)
  replace hu := hu.next hP
  have f0 := s1.free 1
  have c0 := s1.cell 1 _ rfl
  have hf := Fr.setCell (fun k => k = w.heap.size) v1 ⟨w.heap.size, 1, none⟩ (.int .u32 (room : Nat)) rfl
  obtain ⟨w2, hw2⟩ : ∃ w2, w2 = v1.setCell ⟨w.heap.size, 1, none⟩ (.int .u32 (room : Nat)) := ⟨_, rfl⟩
  have HU2 : Hid (SkS W0 w q sh (bytesB nb 2 ++ (bytesB nd 2 ++ (bksB bs ++ dusB ds))) tsn room none 0 none 0 [] [] w2) := by
    rw [hw2]
    exact ⟨hu.own (Nat.le_refl _) hql (by omega) hf, s1.set 1 _, OwnG.nil _ _, OwnG.nil _ _⟩
  clear HU1 hP hu s1 hf
  have HN := (show Hid _ from rhalf_any HU2.out.ru.rd (by simp [bytesB_len]))
  rw [take2B, drop2B, numB_two (by omega)] at HN
  go_wp2_with fail
  rw [← hw2]
  clear hw2 f0 c0
  refine Calls.mono HN.out ?_
  clear HN
  rintro e w3 hP
  have he := hP.out
  subst he
  have HU3 := (show Hid _ from HU2.out.next hql hP)
  clear HU2 hP
  have HN := (show Hid _ from rhalf_any HU3.out.ru.rd (by simp [bytesB_len]))
  rw [take2B, drop2B, numB_two (by omega)] at HN
  go_wp2_with fail
  refine Calls.mono HN.out ?_
  clear HN
  rintro e w4 hP
  have he := hP.out
  subst he
  have HU4 : Hid (SkS W0 w q sh (bksB (bs.drop 0) ++ dusB ds) tsn room none 0 none 0 (bs.take 0) [] w4) := HU3.out.next hql hP
  clear HU3 hP
  go_wp2
  go_loopw [19] (fun u19 wr => ∃ (i : Nat) (la : Option Addr) (lc : Nat), i ≤ nb ∧ u19 = .int .u16 (i : Nat) ∧ SkS W0 w q sh (bksB (bs.drop i) ++ dusB ds) tsn room la lc none 0 (bs.take i) [] wr) (fun u19 _ => nb - (intOf u19).toNat)
  case atStart => exact ⟨0, none, 0, by omega, rfl, HU4.out⟩
  case round =>
    obtain ⟨i, la, lc, hin, rfl, hS⟩ := hrel
    have hli : (bs.take i).length = i := by rw [List.length_take]; have := HNB.out.1; omega
    by_cases hlt2 : i < nb
    · have hlt1 : (i : Int) < (nb : Int) := by omega
      have hil : i < bs.length := by have := HNB.out.1; omega
      obtain ⟨p, hd, hpi⟩ : ∃ p, bs.drop i = p :: bs.drop (i + 1) ∧ bs[i]? = some p := ⟨bs[i], List.drop_eq_getElem_cons hil, List.getElem?_eq_getElem hil⟩
      obtain ⟨hp1, hp2⟩ := HBB.out.1 p (List.mem_of_getElem? hpi)
      have HTK : Hid (bs.take i ++ [p] = bs.take (i + 1)) := by rw [List.take_add_one, hpi]; rfl
      rw [hd, bksB_cons] at hS
      obtain ⟨f1, f2⟩ := p
      dsimp only at hp1 hp2 hS
      have HS := (show Hid _ from hS)
      have HN := (show Hid _ from rhalf_any hS.ru.rd (by simp [bytesB_len]))
      rw [take2B, drop2B, numB_two hp1] at HN
      have hwi : IntKind.u16.wrap ((i : Int) + 1) = (i : Int) + 1 := by rw [IntKind.wrap_u16]; omega
      clear hS hd hpi HU4 hil
      go_wp2_with fail
      refine Calls.mono HN.out ?_
      clear HN
      rintro e u1 hP
      have he := hP.out
      subst he
      have HS1 := (show Hid _ from HS.out.next hql hP)
      clear HS hP
      have HN := (show Hid _ from rhalf_any HS1.out.ru.rd (by simp [bytesB_len]))
      rw [take2B, drop2B, numB_two hp2] at HN
      go_wp2_with fail
      refine Calls.mono HN.out ?_
      clear HN
      rintro e u2 hP
      have he := hP.out
      subst he
      have hS2 := HS1.out.next hql hP
      clear HS1 hP
      obtain ⟨g7, c7, v7, hr7, r7, hs7⟩ := hS2.blk hql hWw (f1, f2) (by omega)
      have k2 := hS2.st.cell 2 _ rfl
      rw [hli] at hr7 r7 hs7 k2
      rw [HTK.out] at hs7
      have k7 := r7.cell 2 _ rfl
      have f7 := r7.free 2
      have HF := (show Hid _ from hs7)
      dsimp only at hr7
      clear hS2 hs7 r7
      go_wp2_with (at_builtin; refine app_eq_listR rfl _ _ rfl rfl rfl rfl hr7 ?_)
      clear hr7 k2
      go_wp2
      go_roundw
      case rel => exact ⟨i + 1, _, _, by omega, by go_num, HF.out⟩
      case measure => simp [intOf]; omega
    · have hlt1 : ¬ (i : Int) < (nb : Int) := by omega
      have hbe : bs.take i = bs := List.take_of_length_le (by have := HNB.out.1; omega)
      have hbd : bs.drop i = [] := List.drop_of_length_le (by have := HNB.out.1; omega)
      have HS5 : Hid (SkS W0 w q sh (dusB (ds.drop 0)) tsn room la lc none 0 bs (ds.take 0) wr) := by
        rw [hbe, hbd] at hS
        exact hS
      clear hS hbe hbd hli HU4
      go_wp2
      go_loopw [35] (fun u35 wr => ∃ (j : Nat) (ma : Option Addr) (mc : Nat), j ≤ nd ∧ u35 = .int .u16 (j : Nat) ∧ SkS W0 w q sh (dusB (ds.drop j)) tsn room la lc ma mc bs (ds.take j) wr) (fun u35 _ => nd - (intOf u35).toNat)
      case atStart => exact ⟨0, none, 0, by omega, rfl, HS5.out⟩
      case round =>
        clear hlt1 hlt2
        obtain ⟨j, ma, mc, hjn, rfl, hS⟩ := hrel
        have hlj : (ds.take j).length = j := by rw [List.length_take]; have := HNB.out.2; omega
        by_cases hlt2 : j < nd
        · have hlt1 : (j : Int) < (nd : Int) := by omega
          have hjl : j < ds.length := by have := HNB.out.2; omega
          obtain ⟨d, hd, hdi⟩ : ∃ d, ds.drop j = d :: ds.drop (j + 1) ∧ ds[j]? = some d := ⟨ds[j], List.drop_eq_getElem_cons hjl, List.getElem?_eq_getElem hjl⟩
          have hdb := HBB.out.2 d (List.mem_of_getElem? hdi)
          have HTK : Hid (ds.take j ++ [d] = ds.take (j + 1)) := by rw [List.take_add_one, hdi]; rfl
          rw [hd, dusB_cons] at hS
          have hSd := hS.below ((Below.refl _ _).drew : Below wr.heap.size wr wr.drew)
          have hwi : IntKind.u16.wrap ((j : Int) + 1) = (j : Int) + 1 := by rw [IntKind.wrap_u16]; omega
          obtain ⟨S1, hS1⟩ : ∃ S1 : World → Prop, S1 = SkS W0 w q sh (dusB (ds.drop (j + 1))) tsn room la lc ma mc bs (ds.take j) := ⟨_, rfl⟩
          obtain ⟨FF, hFF⟩ : ∃ FF : Nat → Nat → World → Prop, FF = fun g c V => SkS W0 w q sh (dusB (ds.drop (j + 1))) tsn room la lc (some ⟨g, 0, none⟩) c bs (ds.take (j + 1)) V := ⟨_, rfl⟩
          have HWD : Hid (Calls Tryd.prog 55 #[.pointer (some ⟨q, 0, none⟩)] wr.drew fun e V => e = .returned (.int .u32 (d : Nat)) ∧ S1 V) := by
            have hN := rword_any hSd.ru.rd (by simp [bytesB_len])
            rw [take4B, drop4B, numB_four hdb] at hN
            refine Calls.mono hN ?_
            intro e V hP
            exact ⟨hP.out, by rw [hS1]; exact hSd.next hql hP⟩
          have HL0 : Hid (wr.drew.cell? ⟨w.heap.size, 3, none⟩ = some (.slice ma j mc)) := by
            have := hSd.st.cell 3 _ rfl
            rw [hlj] at this
            exact this
          have HL1 : Hid (∀ V, S1 V → V.cell? ⟨w.heap.size, 3, none⟩ = some (.slice ma j mc)) := fun V hV => by
            rw [hS1] at hV
            have := hV.st.cell 3 _ rfl
            rw [hlj] at this
            exact this
          have HL2 : Hid (∀ V, S1 V → (V.alloc (.cells #[.int .u32 (d : Nat)] 23)).cell? ⟨w.heap.size, 3, none⟩ = some (.slice ma j mc)) := fun V hV => by
            rw [hS1] at hV
            have := (hV.below ((Below.refl _ _).alloc (Nat.le_refl _) (.cells #[.int .u32 (d : Nat)] 23))).st.cell 3 _ rfl
            rw [hlj] at this
            exact this
          have HAP : Hid (∀ V, S1 V → ∃ g c' V', (Builtin.append_ #[28, 28] 28 #[.slice ma j mc, .slice (some ⟨V.heap.size, 0, none⟩) 1 1]).run Tryd.prog (V.alloc (.cells #[.int .u32 (d : Nat)] 23)) = .ok (.slice (some ⟨g, 0, none⟩) (j + 1) c') V' ∧ V'.cell? ⟨w.heap.size, 3, none⟩ = some (.slice ma j mc) ∧ V'.frozen? ⟨w.heap.size, 3, none⟩ = false ∧ FF g c' (V'.setCell ⟨w.heap.size, 3, none⟩ (.slice (some ⟨g, 0, none⟩) (j + 1) c'))) := fun V hV => by
            rw [hS1] at hV
            obtain ⟨g, c', V', hr, r2, hs⟩ := hV.dup hql hWw d (by omega)
            rw [hlj] at hr r2 hs
            rw [HTK.out] at hs
            exact ⟨g, c', V', hr, r2.cell 3 _ rfl, r2.free 3, by rw [hFF]; exact hs⟩
          have HFF := (show Hid _ from hFF)
          clear hS hd hdi HS5 hjl hSd hS1 hFF hlj hdb
          go_wp2_with fail
          refine wp_region_parW mixedX (fun θ : Nat × Nat × Nat => [(37, .pointer (some ⟨w.heap.size, 3, none⟩)), (38, .slice ma j mc), (39, .pointer (some ⟨q, 0, none⟩)), (40, .int .u32 (d : Nat)), (41, .slice (some ⟨θ.1, 0, none⟩) 1 1), (42, .slice (some ⟨θ.2.1, 0, none⟩) (j + 1) θ.2.2), (43, .pointer (some ⟨w.heap.size, 3, none⟩))]) (SkG wr.drew w.heap.size (.slice ma j mc) d j S1 FF) (0, 0, 0) ?Y1 ?hY1 (by kernel_rfl) (by kernel_rfl) (fun θ => by kernel_rfl) (by kernel_rfl) ?g01 ?gops1 ?ge1
          case hY1 => intro θ; simp only [List.foldl_cons, List.foldl_nil, List.setIfInBounds_toArray, List.set_cons_zero, List.set_cons_succ]; rfl
          case g01 => exact SkG.start _
          case gops1 =>
            refine ⟨?_, ?_, ?_, ?_, ?_, ?_, ?_, ?_, trivial⟩
            · exact par_val (fun θ => by rfl) (fun θ l V hg => hg.other 0 (by decide) (by decide) (by decide) (by decide)) (fun θ l V hl hc hd hg => by go_simp; (try with_reducible rfl); (try omega))
            · exact par_val (fun θ => by rfl) (fun θ l V hg => hg.other 1 (by decide) (by decide) (by decide) (by decide)) (fun θ l V hl hc hd hg => by have h7 : l 7 = false := (by cases h : l 7 with | false => rfl | true => exact absurd (hc 7 1 (by kernel_rfl) h) (by rw [hl]; decide)); have d3 := hg.cell h7 HL0.out HL1.out HL2.out; go_simp; (try with_reducible rfl); (try omega))
            · exact par_val (fun θ => by rfl) (fun θ l V hg => hg.other 2 (by decide) (by decide) (by decide) (by decide)) (fun θ l V hl hc hd hg => by go_simp; (try with_reducible rfl); (try omega))
            · exact par_call (fun θ => by rfl) rfl (vs := fun _ => [.pointer (some ⟨q, 0, none⟩)]) (fun θ => by rfl) Tryd.func55 (by rfl) (by rfl) (fun θ l V hl hc hd hg => by
                have h4 : l 4 = false := (by cases h : l 4 with | false => rfl | true => exact absurd (hc 4 3 (by kernel_rfl) h) (by rw [hl]; decide))
                have h5 : l 5 = false := (by cases h : l 5 with | false => rfl | true => exact absurd (hc 5 3 (by kernel_rfl) h) (by rw [hl]; decide))
                have h7 : l 7 = false := (by cases h : l 7 with | false => rfl | true => exact absurd (hc 7 3 (by kernel_rfl) h) (by rw [hl]; decide))
                obtain rfl := hg.s0 hl
                refine Calls.mono HWD.out ?_
                rintro e V2 ⟨rfl, h2⟩
                exact ⟨_, rfl, θ, fun _ _ _ _ _ _ => rfl, fun d hd => (by cases hd; rfl), SkG.call h4 h5 h7 h2⟩)
            · exact par_run (fun θ => by rfl) (fun θ l V hl hc hd hg => by
                have h3 : l 3 = true := hd 3 (by kernel_rfl)
                have h5 : l 5 = false := (by cases h : l 5 with | false => rfl | true => exact absurd (hc 5 4 (by kernel_rfl) h) (by rw [hl]; decide))
                have h7 : l 7 = false := (by cases h : l 7 with | false => rfl | true => exact absurd (hc 7 4 (by kernel_rfl) h) (by rw [hl]; decide))
                refine ⟨_, _, run_bsd d V (by rfl) (by rfl), ?_⟩
                exact next_set (by kernel_rfl) (V.heap.size, θ.2) [(41, .slice (some ⟨V.heap.size, 0, none⟩) 1 1, 4)] (by simp only [List.foldl_cons, List.foldl_nil, List.setIfInBounds_toArray, List.set_cons_zero, List.set_cons_succ]) (by kernel_rfl) (fun y hy => by simp at hy; subst hy; exact hl) (fun d hd => by cases hd; rfl) (hg.alloc h3 hl h5 h7))
            · exact par_run (fun θ => by rfl) (fun θ l V hl hc hd hg => by
                have h4 : l 4 = true := hd 4 (by kernel_rfl)
                have h7 : l 7 = false := (by cases h : l 7 with | false => rfl | true => exact absurd (hc 7 5 (by kernel_rfl) h) (by rw [hl]; decide))
                obtain ⟨V6, hS6, hV6, rfl⟩ := hg.s2 h4 hl
                obtain ⟨g7, c7, V7, hr7, k7, f7, hw7⟩ := HAP.out V6 hS6
                refine ⟨_, V7, run_appX (S := 28) rfl rfl (by rfl) (by rfl) (by rw [hV6]; exact hr7), ?_⟩
                exact next_set (by kernel_rfl) (θ.1, g7, c7) [(42, .slice (some ⟨g7, 0, none⟩) (j + 1) c7, 5)] (by simp only [List.foldl_cons, List.foldl_nil, List.setIfInBounds_toArray, List.set_cons_zero, List.set_cons_succ]) (by kernel_rfl) (fun y hy => by simp at hy; subst hy; exact hl) (fun d hd => by cases hd; rfl) (SkG.app (hcl4 := hc 4 3 (by kernel_rfl) h4) h4 h7 k7 f7 hw7))
            · exact par_val (fun θ => by rfl) (fun θ l V hg => hg.other 6 (by decide) (by decide) (by decide) (by decide)) (fun θ l V hl hc hd hg => by go_simp; (try with_reducible rfl); (try omega))
            · exact par_skip (fun θ => by rfl) (fun θ l V hl hc hd hg => by
                have h5 : l 5 = true := hd 5 (by kernel_rfl)
                obtain ⟨k7, f7, hw7⟩ := hg.s3 h5 hl
                refine ⟨V.setCell ⟨w.heap.size, 3, none⟩ (.slice (some ⟨θ.2.1, 0, none⟩) (j + 1) θ.2.2), by go_simp, θ, fun _ _ _ _ _ _ => rfl, fun d hd => (by cases hd), SkG.store (hcl5 := hc 5 4 (by kernel_rfl) h5) (hcl4 := hc 4 3 (by kernel_rfl) (hc 5 4 (by kernel_rfl) h5)) h5 hw7⟩)
          case ge1 =>
          rintro ⟨b6, g7, c7⟩ l w8 hall hg
          have HF0 := (show Hid _ from hg.s4 (hall 7 (by decide)))
          clear hg hall
          dsimp only at HF0 ⊢
          rw [HFF.out] at HF0
          go_wp2
          go_roundw
          case rel => exact ⟨j + 1, _, _, by omega, by go_num, HF0.out⟩
          case measure => simp [intOf]; omega
        · have hlt1 : ¬ (j : Int) < (nd : Int) := by omega
          have hde : ds.take j = ds := List.take_of_length_le (by have := HNB.out.2; omega)
          have hdd : ds.drop j = [] := List.drop_of_length_le (by have := HNB.out.2; omega)
          rw [hde, hdd] at hS
          have d0 := hS.st.cell 0 _ rfl
          have d1 := hS.st.cell 1 _ rfl
          have d2 := hS.st.cell 2 _ rfl
          have d3 := hS.st.cell 3 _ rfl
          have HF : Hid (RdK W0 w q tsn room bs ds sh (.returned (.iface 97 (.agg #[.int .u32 (tsn : Nat), .int .u32 (room : Nat), .slice la bs.length lc, .slice ma ds.length mc]))) wr) := by
            have hd := hS.ru.done (v := .tuple #[]) (e := .returned (.tuple #[])) rfl
            exact ⟨⟨la, lc, ma, mc, rfl, OwnG.base hS.ob (by omega), OwnG.base hS.od (by omega)⟩, hd.rd, hd.fr⟩
          clear hS hde hdd hlj HS5
          generalize bs.length = bl at *
          generalize ds.length = dl at *
          go_wp2
          go_ret
          exact HF.out
set_option linter.unusedVariables false in
set_option maxRecDepth 100000 in
set_option maxHeartbeats 4000000 in
theorem rvalue_sack {W0 w : World} {q : Nat} {zs : List Nat} {sh : Int} (h : RdW W0 w q zs sh) (kind : Nat) (hk : kind = 3) (tsn room : Nat) (bs : List (Nat × Nat)) (ds : List Nat) (hzs : zs = sackB tsn room bs ds) (htb : tsn < 4294967296) (hrb : room < 4294967296) (hbn : bs.length ≤ 1000) (hdn : ds.length ≤ 1000) (hbb : ∀ p ∈ bs, p.1 < 65536 ∧ p.2 < 65536) (hdb : ∀ d ∈ ds, d < 4294967296) :
    Calls Tryd.prog 62 #[.pointer (some ⟨q, 0, none⟩), .int .u8 (kind : Nat)] w (RdK W0 w q tsn room bs ds sh) := by
  have HV : Hid (Calls Tryd.prog 26 #[.agg #[.int .u8 (kind : Nat), .int .u8 0, .int .u32 0, .int .u16 0, .int .u16 0, .int .u32 0, .int .u32 0, .int .u32 0, .int .u16 0, .int .u16 0, .slice none 0 0, .slice none 0 0, .slice none 0 0, .slice none 0 0]] w fun e w' => e = .returned (.iface 97 (.agg #[.int .u32 0, .int .u32 0, .slice none 0 0, .slice none 0 0])) ∧ Below w.heap.size w w') := valueOf_sack kind 0 0 0 0 0 0 0 0 0 none 0 0 none 0 0 none 0 0 none 0 0 w hk
  have t0 := fun (v : Value) (w : World) => ta_no_st 97 92 _ (.agg #[.int .u32 0, .int .u16 0, .int .u16 0, .int .u32 0, .slice none 0 0]) v Tryd.underlying92 (by kernel_rfl) (by decide) w
  have t1 := fun (v : Value) (w : World) => ta_no_st 97 95 _ (.agg #[.int .u32 0, .int .u32 0, .int .u16 0, .int .u16 0, .int .u32 0, .slice none 0 0]) v Tryd.underlying95 (by kernel_rfl) (by decide) w
  have t2 := fun (v : Value) (w : World) => ta_yes_st 97 _ v Tryd.underlying97 w
  have HR := (show Hid _ from h)
  clear h hk
  go_enter Tryd.func62, Tryd.ntmps62
  go_wp2_with fail
  refine Calls.mono HV.out ?_
  clear HV
  rintro e w1 ⟨rfl, b1⟩
  obtain ⟨Wx, hWx⟩ : ∃ Wx, Wx = w1.alloc (.cells #[.int .u32 0, .int .u32 0, .slice none 0 0, .slice none 0 0] 97) := ⟨_, rfl⟩
  have bx : Below w1.heap.size w1 Wx := by rw [hWx]; exact (Below.refl _ _).alloc (Nat.le_refl _) _
  have b1x : Below w.heap.size w Wx := b1.trans (bx.mono b1.size)
  have HD := (show Hid _ from rsack_any tsn room bs ds (hzs ▸ HR.out.below b1x) htb hrb hbn hdn hbb hdb)
  have HB := (show Hid _ from b1x)
  clear b1 bx b1x hbb hdb hzs
  go_wp2_with fail
  rw [← hWx]
  clear hWx
  refine Calls.mono HD.out ?_
  clear HD
  rintro e w2 hP
  obtain ⟨la, lc, ma, mc, rfl, ho1, ho2⟩ := hP.ex
  have HF : Hid (RdK W0 w q tsn room bs ds sh _ w2) := ⟨⟨la, lc, ma, mc, rfl, OwnG.base ho1 HB.out.size, OwnG.base ho2 HB.out.size⟩, hP.rd, (Fr.of_below HB.out).trans hP.fr⟩
  clear ho1 ho2 hP hbn hdn
  generalize bs.length = bl at *
  generalize ds.length = dl at *
  go_wp2
  go_ret
  exact HF.out
end Go.Proofs.YtlgfbcfogcmdbaaDoor
namespace Go.Proofs.YtlgfbcfogcmdbaaDoor
open Go.RowKit
/-- What holds of a value and of the chunk made of it: X B vv cs V: the value vv, the chunk's cells cs, their rows at B or behind. -/
structure ChX (W0 : World) (kind flags : Nat) (vz : List Nat) (X : Nat → Value → List Value → World → Prop) : Prop where
  fr : ∀ {B vv cs V V'} {Q : Nat → Prop}, X B vv cs V → Fr Q V V' → (∀ g, B ≤ g → g < V.heap.size → ¬ Q g) → X B vv cs V'
  base : ∀ {B B' vv cs V}, X B vv cs V → B' ≤ B → X B' vv cs V
  tv : ∀ W x, RdW W0 W x vz 4 → Calls Tryd.prog 62 #[.pointer (some ⟨x, 0, none⟩), .int .u8 (kind : Nat)] W fun e V => ∃ vv cs, e = .returned vv ∧ X W.heap.size vv cs V ∧ RdW W0 V x [] 4 ∧ Fr (fun k => k = x) W V
  lk : ∀ B vv cs V, X B vv cs V → Calls Tryd.prog 43 #[vv] V fun e V' => e = .returned (.bool false) ∧ Below V.heap.size V V'
  tm : ∀ B vv cs V, X B vv cs V → Calls Tryd.prog 44 #[vv] V fun e V' => e = .returned (.bool false) ∧ Below V.heap.size V V'
  co : ∀ B vv cs V, X B vv cs V → Calls Tryd.prog 42 #[.int .u8 (kind : Nat), .int .u8 (flags : Nat), vv] V fun e V' => e = .returned (.agg cs.toArray) ∧ Below V.heap.size V V'
  cs : ∀ B vv cs V, X B vv cs V → cs.length = 14 ∧ ∀ u ∈ cs, u.oneCell' = true
structure RdC (W0 w : World) (q : Nat) (X : Nat → Value → List Value → World → Prop) (rest : List Nat) (sh : Int) (e : Ending) (w' : World) : Prop where
  ex : ∃ vv cs, e = .returned (.agg cs.toArray) ∧ X w.heap.size vv cs w'
  rd : RdW W0 w' q rest sh
  fr : Fr (fun k => k = q) w w'
set_option linter.unusedVariables false in
set_option maxRecDepth 100000 in
set_option maxHeartbeats 8000000 in
theorem rchunk_gen {W0 w : World} {q : Nat} {vz pd rest : List Nat} {sh : Int} (kind flags : Nat) {X : Nat → Value → List Value → World → Prop} (hX : ChX W0 kind flags vz X) (h : RdW W0 w q (kind :: flags :: (bytesB (4 + vz.length) 2 ++ (vz ++ (pd ++ rest)))) sh) (ahead : Nat) (ha : ahead < 32) (hk256 : kind < 256) (hf : flags < 256) (hvz : 4 + vz.length < 65536) (hpd : pd.length = padN vz.length) :
    Calls Tryd.prog 57 #[.pointer (some ⟨q, 0, none⟩), .int .i64 (ahead : Nat)] w (RdC W0 w q X rest sh) := by
  have hql := h.lt
  have hWq := h.old
  have ha1 : (ahead : Int) < 32 := by omega
  have HX := (show Hid _ from hX)
  obtain ⟨m, hm⟩ : ∃ m, m = vz.length := ⟨_, rfl⟩
  rw [← hm] at h hvz hpd
  have HM := (show Hid _ from And.intro hm hpd)
  obtain ⟨zr, hzr⟩ : ∃ zr, zr = bytesB (4 + m) 2 ++ (vz ++ (pd ++ rest)) := ⟨_, rfl⟩
  rw [← hzr] at h
  have HZR := (show Hid _ from hzr)
  obtain ⟨W1, hW1⟩ : ∃ W1, W1 = w.alloc (.cells #[.int .u8 0, .int .u8 0, .int .u32 0, .int .u16 0, .int .u16 0, .int .u32 0, .int .u32 0, .int .u32 0, .int .u16 0, .int .u16 0, .slice none 0 0, .slice none 0 0, .slice none 0 0, .slice none 0 0] 32) := ⟨_, rfl⟩
  have b1 : Below w.heap.size w W1 := by rw [hW1]; exact (Below.refl _ _).alloc (Nat.le_refl _) _
  have s1 := Stc.new w [.int .u8 0, .int .u8 0, .int .u32 0, .int .u16 0, .int .u16 0, .int .u32 0, .int .u32 0, .int .u32 0, .int .u16 0, .int .u16 0, .slice none 0 0, .slice none 0 0, .slice none 0 0, .slice none 0 0] 32 W1 hW1
  have HU : Hid (RuS W0 w q (kind :: flags :: zr) sh W1 ∧ Stc W1 w.heap.size [.int .u8 0, .int .u8 0, .int .u32 0, .int .u16 0, .int .u16 0, .int .u32 0, .int .u32 0, .int .u32 0, .int .u16 0, .int .u16 0, .slice none 0 0, .slice none 0 0, .slice none 0 0, .slice none 0 0]) := ⟨⟨h.below b1, Fr.of_below b1⟩, s1⟩
  have hz := zero_ch14R w
  have HN := (show Hid _ from rnum_any HU.out.1.rd 1 (by simp) (by decide) (by decide))
  have e1 : numB (List.take 1 (kind :: flags :: zr)) = kind := by simp [numB]
  have e1d : List.drop 1 (kind :: flags :: zr) = flags :: zr := rfl
  rw [e1, e1d] at HN
  have hwk : IntKind.u8.wrap (kind : Int) = kind := by rw [IntKind.wrap_u8]; omega
  have hwf : IntKind.u8.wrap (flags : Int) = flags := by rw [IntKind.wrap_u8]; omega
  clear h b1 s1 e1 e1d hX hm hpd hzr
  go_enter Tryd.func57, Tryd.ntmps57
  go_wp2_with fail
  rw [← hW1]
  clear hW1 hz
  refine Calls.mono HN.out ?_
  clear HN
  rintro e w2 hP
  have he := hP.out
  subst he
  have HU2 : Hid (RuS W0 w q (flags :: zr) sh w2 ∧ Stc w2 w.heap.size [.int .u8 0, .int .u8 0, .int .u32 0, .int .u16 0, .int .u16 0, .int .u32 0, .int .u32 0, .int .u32 0, .int .u16 0, .int .u16 0, .slice none 0 0, .slice none 0 0, .slice none 0 0, .slice none 0 0]) := ⟨HU.out.1.next hP, HU.out.2.fr hP.fr (by omega)⟩
  have HN := (show Hid _ from rnum_any HU2.out.1.rd 1 (by simp) (by decide) (by decide))
  have e1 : numB (List.take 1 (flags :: zr)) = flags := by simp [numB]
  have e1d : List.drop 1 (flags :: zr) = zr := rfl
  rw [e1, e1d] at HN
  clear HU hP e1 e1d
  go_wp2_with fail
  refine Calls.mono HN.out ?_
  clear HN
  rintro e w3 hP
  have he := hP.out
  subst he
  have HU3 : Hid (RuS W0 w q (bytesB (4 + m) 2 ++ (vz ++ (pd ++ rest))) sh w3 ∧ Stc w3 w.heap.size [.int .u8 0, .int .u8 0, .int .u32 0, .int .u16 0, .int .u16 0, .int .u32 0, .int .u32 0, .int .u32 0, .int .u16 0, .int .u16 0, .slice none 0 0, .slice none 0 0, .slice none 0 0, .slice none 0 0]) := ⟨HZR.out ▸ HU2.out.1.next hP, HU2.out.2.fr hP.fr (by omega)⟩
  have HN := (show Hid _ from rlen_any HU3.out.1.rd (by simp [bytesB_len]) m (by rw [take2B, numB_two hvz]))
  rw [drop2B] at HN
  clear HU2 hP
  go_wp2_with fail
  refine Calls.mono HN.out ?_
  clear HN hwk hwf
  rintro e w4 hP
  have he := hP.out
  subst he
  have HU4 : Hid (RuS W0 w q (vz ++ (pd ++ rest)) sh w4 ∧ Stc w4 w.heap.size [.int .u8 0, .int .u8 0, .int .u32 0, .int .u16 0, .int .u16 0, .int .u32 0, .int .u32 0, .int .u32 0, .int .u16 0, .int .u16 0, .slice none 0 0, .slice none 0 0, .slice none 0 0, .slice none 0 0]) := ⟨HU3.out.1.next hP, HU3.out.2.fr hP.fr (by omega)⟩
  have HN := (show Hid _ from rcut_any HU4.out.1.rd m (by rw [List.length_append, ← HM.out.1]; omega))
  clear HU3 hP
  go_wp2_with fail
  refine Calls.mono HN.out ?_
  clear HN
  rintro e w5 hP
  obtain ⟨cb, co, cc, rfl, hsl⟩ := hP.ex
  have hrd5 := hP.rd
  rw [List.take_left' HM.out.1.symm] at hsl
  rw [List.drop_left' HM.out.1.symm] at hrd5
  have HU5 : Hid (RuS W0 w q (pd ++ rest) sh w5 ∧ Stc w5 w.heap.size [.int .u8 0, .int .u8 0, .int .u32 0, .int .u16 0, .int .u16 0, .int .u32 0, .int .u32 0, .int .u32 0, .int .u16 0, .int .u16 0, .slice none 0 0, .slice none 0 0, .slice none 0 0, .slice none 0 0]) := ⟨⟨hrd5, HU4.out.1.fr.trans (hP.fr.mono (fun _ _ hk => .inl hk))⟩, HU4.out.2.fr hP.fr (by omega)⟩
  obtain ⟨w6, hw6⟩ : ∃ w6, w6 = w5.alloc (.cells #[.slice (some ⟨cb, co, none⟩) m cc, .int .i64 4] 79) := ⟨_, rfl⟩
  have b6 : Below w5.heap.size w5 w6 := by rw [hw6]; exact (Below.refl _ _).alloc (Nat.le_refl _) _
  have sx := Stc.new w5 [.slice (some ⟨cb, co, none⟩) m cc, .int .i64 4] 79 w6 hw6
  obtain ⟨x, hx⟩ : ∃ x, x = w5.heap.size := ⟨_, rfl⟩
  rw [← hx] at sx
  have hxw : w.heap.size < x := by rw [hx]; exact HU5.out.2.lt
  have hu6 := HU5.out.1.below b6
  have HU6 : Hid (RuS W0 w q (pd ++ rest) sh w6 ∧ Stc w6 w.heap.size [.int .u8 0, .int .u8 0, .int .u32 0, .int .u16 0, .int .u16 0, .int .u32 0, .int .u32 0, .int .u32 0, .int .u16 0, .int .u16 0, .slice none 0 0, .slice none 0 0, .slice none 0 0, .slice none 0 0] ∧ RdW W0 w6 x vz 4) := ⟨hu6, HU5.out.2.below b6, ⟨⟨cb, co, m, cc, sx, hsl⟩, hu6.rd.bel, by omega⟩⟩
  clear HU4 HU5 hP hrd5 b6 sx hsl hu6
  obtain ⟨pn, hpn⟩ : ∃ pn, pn = padN m := ⟨_, rfl⟩
  have HPD : Hid (∀ V, Calls Tryd.prog 45 #[.int .i64 (m : Nat)] V fun e w' => e = .returned (.int .i64 (pn : Nat)) ∧ w' = V) := fun V => by rw [hpn]; exact padding_any m V (by omega) _ rfl
  have HPN : Hid (pd.length = pn) := by rw [hpn]; exact HM.out.2
  clear hpn
  go_wp2_with fail
  rw [← hw6, ← hx]
  clear hw6 hx
  refine Calls.mono (HPD.out w6) ?_
  rintro e w7 ⟨rfl, hw7⟩
  subst hw7
  have HN := (show Hid _ from rcut_any HU6.out.1.rd pn (by rw [List.length_append, HPN.out]; omega))
  clear HPD
  go_wp2_with fail
  refine Calls.mono HN.out ?_
  clear HN
  rintro e w8 hP
  obtain ⟨cb2, co2, cc2, rfl, _⟩ := hP.ex
  have hrd8 := hP.rd
  rw [List.drop_left' HPN.out] at hrd8
  have HU8 : Hid (RuS W0 w q rest sh w8 ∧ Stc w8 w.heap.size [.int .u8 0, .int .u8 0, .int .u32 0, .int .u16 0, .int .u16 0, .int .u32 0, .int .u32 0, .int .u32 0, .int .u16 0, .int .u16 0, .slice none 0 0, .slice none 0 0, .slice none 0 0, .slice none 0 0] ∧ RdW W0 w8 x vz 4) := ⟨⟨hrd8, HU6.out.1.fr.trans (hP.fr.mono (fun _ _ hk => .inl hk))⟩, HU6.out.2.1.fr hP.fr (by omega), HU6.out.2.2.fr hP.fr (by omega) (fun g hg => by omega)⟩
  clear HU6 hP hrd8
  go_wp2_with fail
  refine Calls.mono (must_yes 6 w8) ?_
  rintro e w9 ⟨rfl, hw9⟩
  subst hw9
  have HVN := (show Hid _ from HX.out.tv w9 x HU8.out.2.2)
  go_wp2_with fail
  refine Calls.mono HVN.out ?_
  clear HVN
  rintro e wa ⟨vv, cs, rfl, hxa, hra, fa⟩
  have hx9 := HU8.out.2.2.lt
  have hsz9 : w.heap.size + 1 ≤ w9.heap.size := HU8.out.2.1.lt
  obtain ⟨rb, ro, rn, rc, hst, hs0⟩ := hra.ex
  have hrn : rn = 0 := hs0.len.symm
  subst hrn
  have HUa : Hid (RuS W0 w q rest sh wa ∧ Stc wa w.heap.size [.int .u8 0, .int .u8 0, .int .u32 0, .int .u16 0, .int .u16 0, .int .u32 0, .int .u32 0, .int .u32 0, .int .u16 0, .int .u16 0, .slice none 0 0, .slice none 0 0, .slice none 0 0, .slice none 0 0] ∧ X (w.heap.size + 1) vv cs wa) := ⟨HU8.out.1.own (Nat.le_of_lt hxw) hql (by omega) fa, HU8.out.2.1.fr fa (by omega), HX.out.base hxa hsz9⟩
  have d0 := hst.cell 0 _ rfl
  clear HU8 fa hxa hra hst hs0
  have HLK := (show Hid _ from HX.out.lk _ vv cs wa HUa.out.2.2)
  go_wp2_with fail
  refine Calls.mono HLK.out ?_
  clear HLK d0
  rintro e wb ⟨rfl, bb⟩
  have HUb : Hid (RuS W0 w q rest sh wb ∧ Stc wb w.heap.size [.int .u8 0, .int .u8 0, .int .u32 0, .int .u16 0, .int .u16 0, .int .u32 0, .int .u32 0, .int .u32 0, .int .u16 0, .int .u16 0, .slice none 0 0, .slice none 0 0, .slice none 0 0, .slice none 0 0] ∧ X (w.heap.size + 1) vv cs wb) := ⟨HUa.out.1.below bb, HUa.out.2.1.below bb, HX.out.fr (Q := fun _ => False) HUa.out.2.2 (Fr.of_below bb) (fun _ _ _ e => e)⟩
  clear HUa bb
  go_wp2_with fail
  refine Calls.mono (must_yes 4 wb) ?_
  rintro e wc ⟨rfl, hwc⟩
  subst hwc
  have HMN := (show Hid _ from HX.out.tm _ vv cs wc HUb.out.2.2)
  go_wp2_with fail
  refine Calls.mono HMN.out ?_
  clear HMN
  rintro e wd ⟨rfl, bd⟩
  have HUd : Hid (RuS W0 w q rest sh wd ∧ Stc wd w.heap.size [.int .u8 0, .int .u8 0, .int .u32 0, .int .u16 0, .int .u16 0, .int .u32 0, .int .u32 0, .int .u32 0, .int .u16 0, .int .u16 0, .slice none 0 0, .slice none 0 0, .slice none 0 0, .slice none 0 0] ∧ X (w.heap.size + 1) vv cs wd) := ⟨HUb.out.1.below bd, HUb.out.2.1.below bd, HX.out.fr (Q := fun _ => False) HUb.out.2.2 (Fr.of_below bd) (fun _ _ _ e => e)⟩
  clear HUb bd
  go_wp2_with fail
  refine Calls.mono (must_yes 6 wd) ?_
  rintro e we ⟨rfl, hwe⟩
  subst hwe
  have HCO := (show Hid _ from HX.out.co _ vv cs we HUd.out.2.2)
  go_wp2_with fail
  refine Calls.mono HCO.out ?_
  clear HCO
  rintro e wf ⟨rfl, bf⟩
  have hxf := HX.out.fr (Q := fun _ => False) HUd.out.2.2 (Fr.of_below bf) (fun _ _ _ e => e)
  obtain ⟨hcl, hone⟩ := HX.out.cs _ _ _ _ hxf
  have s := HUd.out.2.1.below bf
  have hth : wf.there w.heap.size 0 cs.toArray.size := by
    have e : cs.toArray.size = 14 := by simp [hcl]
    rw [e]
    exact s.there
  have hi14 := ch_size14R cs hcl
  have hi14' : (Tryd.prog.info? 32).map (·.size) = some cs.toArray.size := by rw [List.size_toArray]; exact hi14
  have hput := s.put cs (by rw [hcl]; rfl)
  have hff := fr_setCellsX w.heap.size cs 0 wf
  have hxg := HX.out.base (B' := w.heap.size) (HX.out.fr hxf hff (fun g hg _ e => by have : g = w.heap.size := e; omega)) (by omega)
  have HF := (show Hid _ from And.intro (((HUd.out.1.below bf).own (Nat.le_refl _) hql (by omega) hff)) (And.intro hput hxg))
  clear HUd bf s hput hff hxf hxg
  go_wp2_with (first | (refine wpList_store_mid rfl 32 _ _ rfl w.heap.size 0 cs.toArray rfl rfl hth hi14' (all_oneCell_toArray hone) ?_; change wpList _ _ _ _ _ (wf.setCells w.heap.size 0 cs)) | fail)
  try simp only [Exit.inBlock, Exit.then]
  refine bodyPost_ret (results_cellE rfl _ _ w.heap.size 0 cs _ rfl HF.out.2.1.range Tryd.underlying32 rfl hi14) rfl ?_
  have hd := HF.out.1.done (v := .tuple #[]) (e := .returned (.tuple #[])) rfl
  exact ⟨⟨vv, cs, rfl, HF.out.2.2⟩, hd.rd, hd.fr⟩
end Go.Proofs.YtlgfbcfogcmdbaaDoor
namespace Go.Proofs.YtlgfbcfogcmdbaaDoor
open Go.RowKit
/-- A chunk with all that it holds. -/
structure CD where
  kind : Nat
  flags : Nat
  tsn : Nat
  stream : Nat
  ssn : Nat
  ppid : Nat
  tag : Nat
  room : Nat
  outs : Nat
  ins : Nat
  bs : List (Nat × Nat)
  ds : List Nat
  ps : List Pm
  xs : List Nat
/-- A chunk's cells, its rows in new memory. -/
structure ChO (V : World) (B : Nat) (c : CD) (cs : List Value) : Prop where
  ex : ∃ b1 b3 d1 d3 p1 p3 x1 x3, cs = [.int .u8 (c.kind : Nat), .int .u8 (c.flags : Nat), .int .u32 (c.tsn : Nat), .int .u16 (c.stream : Nat), .int .u16 (c.ssn : Nat), .int .u32 (c.ppid : Nat), .int .u32 (c.tag : Nat), .int .u32 (c.room : Nat), .int .u16 (c.outs : Nat), .int .u16 (c.ins : Nat), .slice b1 c.bs.length b3, .slice d1 c.ds.length d3, .slice p1 c.ps.length p3, .slice x1 c.xs.length x3] ∧
    OwnK V B b1 c.bs.length b3 c.bs ∧ OwnD V B d1 c.ds.length d3 c.ds ∧ PmO V B p1 c.ps.length p3 c.ps ∧ OwnB V B x1 c.xs.length x3 c.xs
theorem PmO.nil (w : World) (B : Nat) : PmO w B none 0 0 [] := ⟨[], rfl, OwnG.nil _ _, fun x hx => (by cases hx)⟩
structure RdO (W0 w : World) (q : Nat) (c : CD) (rest : List Nat) (sh : Int) (e : Ending) (w' : World) : Prop where
  ex : ∃ cs, e = .returned (.agg cs.toArray) ∧ ChO w' w.heap.size c cs
  rd : RdW W0 w' q rest sh
  fr : Fr (fun k => k = q) w w'
theorem chX_data {W0 : World} (kind flags : Nat) (vz : List Nat) (hk : kind = 0) (h12 : 12 < vz.length) (hb : vz.length ≤ 140737488351232) : ChX W0 kind flags vz (fun B vv cs V => ∃ xa xc, vv = .iface 92 (.agg #[.int .u32 (numB (vz.take 4) : Nat), .int .u16 (numB ((vz.drop 4).take 2) : Nat), .int .u16 (numB ((vz.drop 6).take 2) : Nat), .int .u32 (numB ((vz.drop 8).take 4) : Nat), .slice xa (vz.drop 12).length xc]) ∧ cs = [.int .u8 (kind : Nat), .int .u8 (flags : Nat), .int .u32 (numB (vz.take 4) : Nat), .int .u16 (numB ((vz.drop 4).take 2) : Nat), .int .u16 (numB ((vz.drop 6).take 2) : Nat), .int .u32 (numB ((vz.drop 8).take 4) : Nat), .int .u32 0, .int .u32 0, .int .u16 0, .int .u16 0, .slice none 0 0, .slice none 0 0, .slice none 0 0, .slice xa (vz.drop 12).length xc] ∧ OwnB V B xa (vz.drop 12).length xc (vz.drop 12)) where
  fr := fun ⟨xa, xc, h1, h2, o0⟩ hf hq => ⟨xa, xc, h1, h2, o0.fr hf hq⟩
  base := fun ⟨xa, xc, h1, h2, o0⟩ hb => ⟨xa, xc, h1, h2, o0.base hb⟩
  tv := fun W x h => Calls.mono (rvalue_data h kind hk (by omega) hb) (fun e V hP => by obtain ⟨xa, xc, rfl, o0⟩ := hP.ex; exact ⟨_, _, rfl, ⟨xa, xc, rfl, rfl, o0⟩, hP.rd, hP.fr⟩)
  lk := fun B vv cs V ⟨xa, xc, h1, h2, o0⟩ => by
    have := lacks_data kind flags (numB (vz.take 4)) (numB ((vz.drop 4).take 2)) (numB ((vz.drop 6).take 2)) (numB ((vz.drop 8).take 4)) 0 0 0 0 none 0 0 none 0 0 none 0 0 xa ((vz.drop 12).length) xc V vv h1
    rwa [decide_eq_false (by rw [List.length_drop]; omega)] at this
  tm := fun B vv cs V ⟨xa, xc, h1, h2, o0⟩ => by
    have := many_data kind flags (numB (vz.take 4)) (numB ((vz.drop 4).take 2)) (numB ((vz.drop 6).take 2)) (numB ((vz.drop 8).take 4)) 0 0 0 0 none 0 0 none 0 0 none 0 0 xa ((vz.drop 12).length) xc V vv h1
    exact this
  co := fun B vv cs V ⟨xa, xc, h1, h2, o0⟩ => by
    subst h2
    exact chunkOf_data kind flags (numB (vz.take 4)) (numB ((vz.drop 4).take 2)) (numB ((vz.drop 6).take 2)) (numB ((vz.drop 8).take 4)) 0 0 0 0 none 0 0 none 0 0 none 0 0 xa ((vz.drop 12).length) xc V _ _ vv rfl rfl h1
  cs := fun B vv cs V ⟨xa, xc, h1, h2, o0⟩ => by
    subst h2
    refine ⟨rfl, fun u hu => ?_⟩
    simp only [List.mem_cons, List.not_mem_nil, or_false] at hu
    rcases hu with rfl | rfl | rfl | rfl | rfl | rfl | rfl | rfl | rfl | rfl | rfl | rfl | rfl | rfl <;> rfl
theorem rchunk_dataO {W0 w : World} {q : Nat} {pd rest : List Nat} {sh : Int} (kind flags : Nat) (vz : List Nat) (hk : kind = 0) (h12 : 12 < vz.length) (hb : vz.length ≤ 140737488351232) (h : RdW W0 w q (kind :: flags :: (bytesB (4 + (vz).length) 2 ++ (vz ++ (pd ++ rest)))) sh) (ahead : Nat) (ha : ahead < 32) (hk256 : kind < 256) (hf : flags < 256) (hvz : 4 + (vz).length < 65536) (hpd : pd.length = padN (vz).length) :
    Calls Tryd.prog 57 #[.pointer (some ⟨q, 0, none⟩), .int .i64 (ahead : Nat)] w (RdO W0 w q ⟨kind, flags, numB (vz.take 4), numB ((vz.drop 4).take 2), numB ((vz.drop 6).take 2), numB ((vz.drop 8).take 4), 0, 0, 0, 0, [], [], [], vz.drop 12⟩ rest sh) := by
  refine Calls.mono (rchunk_gen kind flags (chX_data kind flags vz hk h12 hb) h ahead ha hk256 hf hvz hpd) ?_
  intro e V hP
  obtain ⟨vv, cs, he, xa, xc, h1, h2, o0⟩ := hP.ex
  exact ⟨⟨cs, he, ⟨none, 0, none, 0, none, 0, xa, xc, h2, OwnG.nil _ _, OwnG.nil _ _, PmO.nil _ _, o0⟩⟩, hP.rd, hP.fr⟩
theorem chX_init {W0 : World} (kind flags : Nat) (vz : List Nat) (ps : List Pm) (hk : kind = 1 ∨ kind = 2) (hz16 : 16 ≤ vz.length) (h16 : ps.length ≤ 16) (hpk : ∀ p ∈ ps, p.k < 65536 ∧ p.zs.length ≤ 2000) (hps : vz.drop 16 = pmsV ps) : ChX W0 kind flags vz (fun B vv cs V => ∃ xa xc, vv = .iface 95 (.agg #[.int .u32 (numB (vz.take 4) : Nat), .int .u32 (numB ((vz.drop 4).take 4) : Nat), .int .u16 (numB ((vz.drop 8).take 2) : Nat), .int .u16 (numB ((vz.drop 10).take 2) : Nat), .int .u32 (numB ((vz.drop 12).take 4) : Nat), .slice xa ps.length xc]) ∧ cs = [.int .u8 (kind : Nat), .int .u8 (flags : Nat), .int .u32 (numB ((vz.drop 12).take 4) : Nat), .int .u16 0, .int .u16 0, .int .u32 0, .int .u32 (numB (vz.take 4) : Nat), .int .u32 (numB ((vz.drop 4).take 4) : Nat), .int .u16 (numB ((vz.drop 8).take 2) : Nat), .int .u16 (numB ((vz.drop 10).take 2) : Nat), .slice none 0 0, .slice none 0 0, .slice xa ps.length xc, .slice none 0 0] ∧ PmO V B xa ps.length xc ps) where
  fr := fun ⟨xa, xc, h1, h2, o0⟩ hf hq => ⟨xa, xc, h1, h2, o0.fr hf hq⟩
  base := fun ⟨xa, xc, h1, h2, o0⟩ hb => ⟨xa, xc, h1, h2, o0.base hb⟩
  tv := fun W x h => Calls.mono (rvalue_init h kind hk hz16 ps h16 hpk hps) (fun e V hP => by obtain ⟨xa, xc, rfl, o0⟩ := hP.ex; exact ⟨_, _, rfl, ⟨xa, xc, rfl, rfl, o0⟩, hP.rd, hP.fr⟩)
  lk := fun B vv cs V ⟨xa, xc, h1, h2, o0⟩ => by
    have := lacks_init kind flags (numB ((vz.drop 12).take 4)) 0 0 0 (numB (vz.take 4)) (numB ((vz.drop 4).take 4)) (numB ((vz.drop 8).take 2)) (numB ((vz.drop 10).take 2)) none 0 0 none 0 0 xa (ps.length) xc none 0 0 V vv h1
    exact this
  tm := fun B vv cs V ⟨xa, xc, h1, h2, o0⟩ => by
    have := many_init kind flags (numB ((vz.drop 12).take 4)) 0 0 0 (numB (vz.take 4)) (numB ((vz.drop 4).take 4)) (numB ((vz.drop 8).take 2)) (numB ((vz.drop 10).take 2)) none 0 0 none 0 0 xa (ps.length) xc none 0 0 V vv h1
    rwa [decide_eq_false (by omega)] at this
  co := fun B vv cs V ⟨xa, xc, h1, h2, o0⟩ => by
    subst h2
    exact chunkOf_init kind flags (numB ((vz.drop 12).take 4)) 0 0 0 (numB (vz.take 4)) (numB ((vz.drop 4).take 4)) (numB ((vz.drop 8).take 2)) (numB ((vz.drop 10).take 2)) none 0 0 none 0 0 xa (ps.length) xc none 0 0 V _ _ vv rfl rfl h1
  cs := fun B vv cs V ⟨xa, xc, h1, h2, o0⟩ => by
    subst h2
    refine ⟨rfl, fun u hu => ?_⟩
    simp only [List.mem_cons, List.not_mem_nil, or_false] at hu
    rcases hu with rfl | rfl | rfl | rfl | rfl | rfl | rfl | rfl | rfl | rfl | rfl | rfl | rfl | rfl <;> rfl
theorem rchunk_initO {W0 w : World} {q : Nat} {pd rest : List Nat} {sh : Int} (kind flags : Nat) (vz : List Nat) (ps : List Pm) (hk : kind = 1 ∨ kind = 2) (hz16 : 16 ≤ vz.length) (h16 : ps.length ≤ 16) (hpk : ∀ p ∈ ps, p.k < 65536 ∧ p.zs.length ≤ 2000) (hps : vz.drop 16 = pmsV ps) (h : RdW W0 w q (kind :: flags :: (bytesB (4 + (vz).length) 2 ++ (vz ++ (pd ++ rest)))) sh) (ahead : Nat) (ha : ahead < 32) (hk256 : kind < 256) (hf : flags < 256) (hvz : 4 + (vz).length < 65536) (hpd : pd.length = padN (vz).length) :
    Calls Tryd.prog 57 #[.pointer (some ⟨q, 0, none⟩), .int .i64 (ahead : Nat)] w (RdO W0 w q ⟨kind, flags, numB ((vz.drop 12).take 4), 0, 0, 0, numB (vz.take 4), numB ((vz.drop 4).take 4), numB ((vz.drop 8).take 2), numB ((vz.drop 10).take 2), [], [], ps, []⟩ rest sh) := by
  refine Calls.mono (rchunk_gen kind flags (chX_init kind flags vz ps hk hz16 h16 hpk hps) h ahead ha hk256 hf hvz hpd) ?_
  intro e V hP
  obtain ⟨vv, cs, he, xa, xc, h1, h2, o0⟩ := hP.ex
  exact ⟨⟨cs, he, ⟨none, 0, none, 0, xa, xc, none, 0, h2, OwnG.nil _ _, OwnG.nil _ _, o0, OwnB.nil _ _⟩⟩, hP.rd, hP.fr⟩
theorem chX_sack {W0 : World} (kind flags : Nat) (tsn room : Nat) (bs : List (Nat × Nat)) (ds : List Nat) (hk : kind = 3) (htb : tsn < 4294967296) (hrb : room < 4294967296) (hbn : bs.length ≤ 16) (hdn : ds.length ≤ 16) (hbb : ∀ p ∈ bs, p.1 < 65536 ∧ p.2 < 65536) (hdb : ∀ d ∈ ds, d < 4294967296) : ChX W0 kind flags (sackB tsn room bs ds) (fun B vv cs V => ∃ la lc ma mc, vv = .iface 97 (.agg #[.int .u32 (tsn : Nat), .int .u32 (room : Nat), .slice la bs.length lc, .slice ma ds.length mc]) ∧ cs = [.int .u8 (kind : Nat), .int .u8 (flags : Nat), .int .u32 (tsn : Nat), .int .u16 0, .int .u16 0, .int .u32 0, .int .u32 0, .int .u32 (room : Nat), .int .u16 0, .int .u16 0, .slice la bs.length lc, .slice ma ds.length mc, .slice none 0 0, .slice none 0 0] ∧ OwnK V B la bs.length lc bs ∧ OwnD V B ma ds.length mc ds) where
  fr := fun ⟨la, lc, ma, mc, h1, h2, o0, o1⟩ hf hq => ⟨la, lc, ma, mc, h1, h2, OwnG.fr o0 hf (fun g hg => hq g (o0.own.lt g hg).1 (o0.own.lt g hg).2), OwnG.fr o1 hf (fun g hg => hq g (o1.own.lt g hg).1 (o1.own.lt g hg).2)⟩
  base := fun ⟨la, lc, ma, mc, h1, h2, o0, o1⟩ hb => ⟨la, lc, ma, mc, h1, h2, OwnG.base o0 hb, OwnG.base o1 hb⟩
  tv := fun W x h => Calls.mono (rvalue_sack h kind hk tsn room bs ds rfl htb hrb (by omega) (by omega) hbb hdb) (fun e V hP => by obtain ⟨la, lc, ma, mc, rfl, o0, o1⟩ := hP.ex; exact ⟨_, _, rfl, ⟨la, lc, ma, mc, rfl, rfl, o0, o1⟩, hP.rd, hP.fr⟩)
  lk := fun B vv cs V ⟨la, lc, ma, mc, h1, h2, o0, o1⟩ => by
    have := lacks_sack kind flags (tsn) 0 0 0 0 (room) 0 0 la (bs.length) lc ma (ds.length) mc none 0 0 none 0 0 V vv h1
    exact this
  tm := fun B vv cs V ⟨la, lc, ma, mc, h1, h2, o0, o1⟩ => by
    have := many_sack kind flags (tsn) 0 0 0 0 (room) 0 0 la (bs.length) lc ma (ds.length) mc none 0 0 none 0 0 V vv h1
    rwa [decide_eq_false (by omega)] at this
  co := fun B vv cs V ⟨la, lc, ma, mc, h1, h2, o0, o1⟩ => by
    subst h2
    exact chunkOf_sack kind flags (tsn) 0 0 0 0 (room) 0 0 la (bs.length) lc ma (ds.length) mc none 0 0 none 0 0 V _ _ vv rfl rfl h1
  cs := fun B vv cs V ⟨la, lc, ma, mc, h1, h2, o0, o1⟩ => by
    subst h2
    refine ⟨rfl, fun u hu => ?_⟩
    simp only [List.mem_cons, List.not_mem_nil, or_false] at hu
    rcases hu with rfl | rfl | rfl | rfl | rfl | rfl | rfl | rfl | rfl | rfl | rfl | rfl | rfl | rfl <;> rfl
theorem rchunk_sackO {W0 w : World} {q : Nat} {pd rest : List Nat} {sh : Int} (kind flags : Nat) (tsn room : Nat) (bs : List (Nat × Nat)) (ds : List Nat) (hk : kind = 3) (htb : tsn < 4294967296) (hrb : room < 4294967296) (hbn : bs.length ≤ 16) (hdn : ds.length ≤ 16) (hbb : ∀ p ∈ bs, p.1 < 65536 ∧ p.2 < 65536) (hdb : ∀ d ∈ ds, d < 4294967296) (h : RdW W0 w q (kind :: flags :: (bytesB (4 + ((sackB tsn room bs ds)).length) 2 ++ ((sackB tsn room bs ds) ++ (pd ++ rest)))) sh) (ahead : Nat) (ha : ahead < 32) (hk256 : kind < 256) (hf : flags < 256) (hvz : 4 + ((sackB tsn room bs ds)).length < 65536) (hpd : pd.length = padN ((sackB tsn room bs ds)).length) :
    Calls Tryd.prog 57 #[.pointer (some ⟨q, 0, none⟩), .int .i64 (ahead : Nat)] w (RdO W0 w q ⟨kind, flags, tsn, 0, 0, 0, 0, room, 0, 0, bs, ds, [], []⟩ rest sh) := by
  refine Calls.mono (rchunk_gen kind flags (chX_sack kind flags tsn room bs ds hk htb hrb hbn hdn hbb hdb) h ahead ha hk256 hf hvz hpd) ?_
  intro e V hP
  obtain ⟨vv, cs, he, la, lc, ma, mc, h1, h2, o0, o1⟩ := hP.ex
  exact ⟨⟨cs, he, ⟨la, lc, ma, mc, none, 0, none, 0, h2, o0, o1, PmO.nil _ _, OwnB.nil _ _⟩⟩, hP.rd, hP.fr⟩
theorem chX_prms {W0 : World} (kind flags : Nat) (ps : List Pm) (hk : kind = 4 ∨ kind = 5 ∨ kind = 6 ∨ kind = 9) (h16 : ps.length ≤ 16) (hpk : ∀ p ∈ ps, p.k < 65536 ∧ p.zs.length ≤ 2000) : ChX W0 kind flags (pmsV ps) (fun B vv cs V => ∃ xa xc, vv = .iface 93 (.slice xa ps.length xc) ∧ cs = [.int .u8 (kind : Nat), .int .u8 (flags : Nat), .int .u32 0, .int .u16 0, .int .u16 0, .int .u32 0, .int .u32 0, .int .u32 0, .int .u16 0, .int .u16 0, .slice none 0 0, .slice none 0 0, .slice xa ps.length xc, .slice none 0 0] ∧ PmO V B xa ps.length xc ps) where
  fr := fun ⟨xa, xc, h1, h2, o0⟩ hf hq => ⟨xa, xc, h1, h2, o0.fr hf hq⟩
  base := fun ⟨xa, xc, h1, h2, o0⟩ hb => ⟨xa, xc, h1, h2, o0.base hb⟩
  tv := fun W x h => Calls.mono (rvalue_prms h kind hk ps h16 hpk rfl) (fun e V hP => by obtain ⟨xa, xc, rfl, o0⟩ := hP.ex; exact ⟨_, _, rfl, ⟨xa, xc, rfl, rfl, o0⟩, hP.rd, hP.fr⟩)
  lk := fun B vv cs V ⟨xa, xc, h1, h2, o0⟩ => by
    have := lacks_prms kind flags 0 0 0 0 0 0 0 0 none 0 0 none 0 0 xa (ps.length) xc none 0 0 V vv h1
    exact this
  tm := fun B vv cs V ⟨xa, xc, h1, h2, o0⟩ => by
    have := many_prms kind flags 0 0 0 0 0 0 0 0 none 0 0 none 0 0 xa (ps.length) xc none 0 0 V vv h1
    rwa [decide_eq_false (by omega)] at this
  co := fun B vv cs V ⟨xa, xc, h1, h2, o0⟩ => by
    subst h2
    exact chunkOf_prms kind flags 0 0 0 0 0 0 0 0 none 0 0 none 0 0 xa (ps.length) xc none 0 0 V _ _ vv rfl rfl h1
  cs := fun B vv cs V ⟨xa, xc, h1, h2, o0⟩ => by
    subst h2
    refine ⟨rfl, fun u hu => ?_⟩
    simp only [List.mem_cons, List.not_mem_nil, or_false] at hu
    rcases hu with rfl | rfl | rfl | rfl | rfl | rfl | rfl | rfl | rfl | rfl | rfl | rfl | rfl | rfl <;> rfl
theorem rchunk_prmsO {W0 w : World} {q : Nat} {pd rest : List Nat} {sh : Int} (kind flags : Nat) (ps : List Pm) (hk : kind = 4 ∨ kind = 5 ∨ kind = 6 ∨ kind = 9) (h16 : ps.length ≤ 16) (hpk : ∀ p ∈ ps, p.k < 65536 ∧ p.zs.length ≤ 2000) (h : RdW W0 w q (kind :: flags :: (bytesB (4 + ((pmsV ps)).length) 2 ++ ((pmsV ps) ++ (pd ++ rest)))) sh) (ahead : Nat) (ha : ahead < 32) (hk256 : kind < 256) (hf : flags < 256) (hvz : 4 + ((pmsV ps)).length < 65536) (hpd : pd.length = padN ((pmsV ps)).length) :
    Calls Tryd.prog 57 #[.pointer (some ⟨q, 0, none⟩), .int .i64 (ahead : Nat)] w (RdO W0 w q ⟨kind, flags, 0, 0, 0, 0, 0, 0, 0, 0, [], [], ps, []⟩ rest sh) := by
  refine Calls.mono (rchunk_gen kind flags (chX_prms kind flags ps hk h16 hpk) h ahead ha hk256 hf hvz hpd) ?_
  intro e V hP
  obtain ⟨vv, cs, he, xa, xc, h1, h2, o0⟩ := hP.ex
  exact ⟨⟨cs, he, ⟨none, 0, none, 0, xa, xc, none, 0, h2, OwnG.nil _ _, OwnG.nil _ _, o0, OwnB.nil _ _⟩⟩, hP.rd, hP.fr⟩
theorem chX_tsnv {W0 : World} (kind flags : Nat) (vz : List Nat) (hk : kind = 7) (h4 : vz.length = 4) : ChX W0 kind flags vz (fun _B vv cs _V => vv = .iface 98 (.int .u32 (numB (vz.take 4) : Nat)) ∧ cs = [.int .u8 (kind : Nat), .int .u8 (flags : Nat), .int .u32 (numB (vz.take 4) : Nat), .int .u16 0, .int .u16 0, .int .u32 0, .int .u32 0, .int .u32 0, .int .u16 0, .int .u16 0, .slice none 0 0, .slice none 0 0, .slice none 0 0, .slice none 0 0]) where
  fr := fun ⟨h1, h2⟩ hf hq => ⟨h1, h2⟩
  base := fun ⟨h1, h2⟩ hb => ⟨h1, h2⟩
  tv := fun W x h => Calls.mono (rvalue_tsnv h kind hk h4) (fun e V hP => ⟨_, _, hP.out, ⟨rfl, rfl⟩, hP.rd, hP.fr⟩)
  lk := fun B vv cs V ⟨h1, h2⟩ => by
    have := lacks_tsnv kind flags (numB (vz.take 4)) 0 0 0 0 0 0 0 none 0 0 none 0 0 none 0 0 none 0 0 V vv h1
    exact this
  tm := fun B vv cs V ⟨h1, h2⟩ => by
    have := many_tsnv kind flags (numB (vz.take 4)) 0 0 0 0 0 0 0 none 0 0 none 0 0 none 0 0 none 0 0 V vv h1
    exact this
  co := fun B vv cs V ⟨h1, h2⟩ => by
    subst h2
    exact chunkOf_tsnv kind flags (numB (vz.take 4)) 0 0 0 0 0 0 0 none 0 0 none 0 0 none 0 0 none 0 0 V _ _ vv rfl rfl h1
  cs := fun B vv cs V ⟨h1, h2⟩ => by
    subst h2
    refine ⟨rfl, fun u hu => ?_⟩
    simp only [List.mem_cons, List.not_mem_nil, or_false] at hu
    rcases hu with rfl | rfl | rfl | rfl | rfl | rfl | rfl | rfl | rfl | rfl | rfl | rfl | rfl | rfl <;> rfl
theorem rchunk_tsnvO {W0 w : World} {q : Nat} {pd rest : List Nat} {sh : Int} (kind flags : Nat) (vz : List Nat) (hk : kind = 7) (h4 : vz.length = 4) (h : RdW W0 w q (kind :: flags :: (bytesB (4 + (vz).length) 2 ++ (vz ++ (pd ++ rest)))) sh) (ahead : Nat) (ha : ahead < 32) (hk256 : kind < 256) (hf : flags < 256) (hvz : 4 + (vz).length < 65536) (hpd : pd.length = padN (vz).length) :
    Calls Tryd.prog 57 #[.pointer (some ⟨q, 0, none⟩), .int .i64 (ahead : Nat)] w (RdO W0 w q ⟨kind, flags, numB (vz.take 4), 0, 0, 0, 0, 0, 0, 0, [], [], [], []⟩ rest sh) := by
  refine Calls.mono (rchunk_gen kind flags (chX_tsnv kind flags vz hk h4) h ahead ha hk256 hf hvz hpd) ?_
  intro e V hP
  obtain ⟨vv, cs, he, h1, h2⟩ := hP.ex
  exact ⟨⟨cs, he, ⟨none, 0, none, 0, none, 0, none, 0, h2, OwnG.nil _ _, OwnG.nil _ _, PmO.nil _ _, OwnB.nil _ _⟩⟩, hP.rd, hP.fr⟩
theorem chX_raw {W0 : World} (kind flags : Nat) (vz : List Nat) (hk : ¬ kind = 0 ∧ ¬ kind = 1 ∧ ¬ kind = 2 ∧ ¬ kind = 3 ∧ ¬ kind = 4 ∧ ¬ kind = 5 ∧ ¬ kind = 6 ∧ ¬ kind = 7 ∧ ¬ kind = 8 ∧ ¬ kind = 9 ∧ ¬ kind = 11 ∧ ¬ kind = 14) (hb : vz.length ≤ 140737488351232) : ChX W0 kind flags vz (fun B vv cs V => ∃ xa xc, vv = .iface 101 (.slice xa vz.length xc) ∧ cs = [.int .u8 (kind : Nat), .int .u8 (flags : Nat), .int .u32 0, .int .u16 0, .int .u16 0, .int .u32 0, .int .u32 0, .int .u32 0, .int .u16 0, .int .u16 0, .slice none 0 0, .slice none 0 0, .slice none 0 0, .slice xa vz.length xc] ∧ OwnB V B xa vz.length xc vz) where
  fr := fun ⟨xa, xc, h1, h2, o0⟩ hf hq => ⟨xa, xc, h1, h2, o0.fr hf hq⟩
  base := fun ⟨xa, xc, h1, h2, o0⟩ hb => ⟨xa, xc, h1, h2, o0.base hb⟩
  tv := fun W x h => Calls.mono (rvalue_raw h kind hk hb) (fun e V hP => by obtain ⟨xa, xc, rfl, o0⟩ := hP.ex; exact ⟨_, _, rfl, ⟨xa, xc, rfl, rfl, o0⟩, hP.rd, hP.fr⟩)
  lk := fun B vv cs V ⟨xa, xc, h1, h2, o0⟩ => by
    have := lacks_raw kind flags 0 0 0 0 0 0 0 0 none 0 0 none 0 0 none 0 0 xa (vz.length) xc V vv h1
    exact this
  tm := fun B vv cs V ⟨xa, xc, h1, h2, o0⟩ => by
    have := many_raw kind flags 0 0 0 0 0 0 0 0 none 0 0 none 0 0 none 0 0 xa (vz.length) xc V vv h1
    exact this
  co := fun B vv cs V ⟨xa, xc, h1, h2, o0⟩ => by
    subst h2
    exact chunkOf_raw kind flags 0 0 0 0 0 0 0 0 none 0 0 none 0 0 none 0 0 xa (vz.length) xc V _ _ vv rfl rfl h1
  cs := fun B vv cs V ⟨xa, xc, h1, h2, o0⟩ => by
    subst h2
    refine ⟨rfl, fun u hu => ?_⟩
    simp only [List.mem_cons, List.not_mem_nil, or_false] at hu
    rcases hu with rfl | rfl | rfl | rfl | rfl | rfl | rfl | rfl | rfl | rfl | rfl | rfl | rfl | rfl <;> rfl
theorem rchunk_rawO {W0 w : World} {q : Nat} {pd rest : List Nat} {sh : Int} (kind flags : Nat) (vz : List Nat) (hk : ¬ kind = 0 ∧ ¬ kind = 1 ∧ ¬ kind = 2 ∧ ¬ kind = 3 ∧ ¬ kind = 4 ∧ ¬ kind = 5 ∧ ¬ kind = 6 ∧ ¬ kind = 7 ∧ ¬ kind = 8 ∧ ¬ kind = 9 ∧ ¬ kind = 11 ∧ ¬ kind = 14) (hb : vz.length ≤ 140737488351232) (h : RdW W0 w q (kind :: flags :: (bytesB (4 + (vz).length) 2 ++ (vz ++ (pd ++ rest)))) sh) (ahead : Nat) (ha : ahead < 32) (hk256 : kind < 256) (hf : flags < 256) (hvz : 4 + (vz).length < 65536) (hpd : pd.length = padN (vz).length) :
    Calls Tryd.prog 57 #[.pointer (some ⟨q, 0, none⟩), .int .i64 (ahead : Nat)] w (RdO W0 w q ⟨kind, flags, 0, 0, 0, 0, 0, 0, 0, 0, [], [], [], vz⟩ rest sh) := by
  refine Calls.mono (rchunk_gen kind flags (chX_raw kind flags vz hk hb) h ahead ha hk256 hf hvz hpd) ?_
  intro e V hP
  obtain ⟨vv, cs, he, xa, xc, h1, h2, o0⟩ := hP.ex
  exact ⟨⟨cs, he, ⟨none, 0, none, 0, none, 0, xa, xc, h2, OwnG.nil _ _, OwnG.nil _ _, PmO.nil _ _, o0⟩⟩, hP.rd, hP.fr⟩
theorem chX_none {W0 : World} (kind flags : Nat)  (hk : kind = 8 ∨ kind = 11 ∨ kind = 14)  : ChX W0 kind flags ([] : List Nat) (fun _B vv cs _V => vv = .iface 100 (.agg #[]) ∧ cs = [.int .u8 (kind : Nat), .int .u8 (flags : Nat), .int .u32 0, .int .u16 0, .int .u16 0, .int .u32 0, .int .u32 0, .int .u32 0, .int .u16 0, .int .u16 0, .slice none 0 0, .slice none 0 0, .slice none 0 0, .slice none 0 0]) where
  fr := fun ⟨h1, h2⟩ hf hq => ⟨h1, h2⟩
  base := fun ⟨h1, h2⟩ hb => ⟨h1, h2⟩
  tv := fun W x h => Calls.mono (rvalue_none x kind W hk) (fun e V hP => ⟨_, _, hP.1, ⟨rfl, rfl⟩, h.below hP.2, Fr.of_below hP.2⟩)
  lk := fun B vv cs V ⟨h1, h2⟩ => by
    have := lacks_none kind flags 0 0 0 0 0 0 0 0 none 0 0 none 0 0 none 0 0 none 0 0 V vv h1
    exact this
  tm := fun B vv cs V ⟨h1, h2⟩ => by
    have := many_none kind flags 0 0 0 0 0 0 0 0 none 0 0 none 0 0 none 0 0 none 0 0 V vv h1
    exact this
  co := fun B vv cs V ⟨h1, h2⟩ => by
    subst h2
    exact chunkOf_none kind flags 0 0 0 0 0 0 0 0 none 0 0 none 0 0 none 0 0 none 0 0 V _ _ vv rfl rfl h1
  cs := fun B vv cs V ⟨h1, h2⟩ => by
    subst h2
    refine ⟨rfl, fun u hu => ?_⟩
    simp only [List.mem_cons, List.not_mem_nil, or_false] at hu
    rcases hu with rfl | rfl | rfl | rfl | rfl | rfl | rfl | rfl | rfl | rfl | rfl | rfl | rfl | rfl <;> rfl
theorem rchunk_noneO {W0 w : World} {q : Nat} {pd rest : List Nat} {sh : Int} (kind flags : Nat)  (hk : kind = 8 ∨ kind = 11 ∨ kind = 14)  (h : RdW W0 w q (kind :: flags :: (bytesB (4 + (([] : List Nat)).length) 2 ++ (([] : List Nat) ++ (pd ++ rest)))) sh) (ahead : Nat) (ha : ahead < 32) (hk256 : kind < 256) (hf : flags < 256) (hvz : 4 + (([] : List Nat)).length < 65536) (hpd : pd.length = padN (([] : List Nat)).length) :
    Calls Tryd.prog 57 #[.pointer (some ⟨q, 0, none⟩), .int .i64 (ahead : Nat)] w (RdO W0 w q ⟨kind, flags, 0, 0, 0, 0, 0, 0, 0, 0, [], [], [], []⟩ rest sh) := by
  refine Calls.mono (rchunk_gen kind flags (chX_none kind flags hk) h ahead ha hk256 hf hvz hpd) ?_
  intro e V hP
  obtain ⟨vv, cs, he, h1, h2⟩ := hP.ex
  exact ⟨⟨cs, he, ⟨none, 0, none, 0, none, 0, none, 0, h2, OwnG.nil _ _, OwnG.nil _ _, PmO.nil _ _, OwnB.nil _ _⟩⟩, hP.rd, hP.fr⟩
end Go.Proofs.YtlgfbcfogcmdbaaDoor
namespace Go.Proofs.YtlgfbcfogcmdbaaDoor
open Go.RowKit
theorem ownB_apartG {β : Type} {T' : TypeId} {k' : Nat} {cf' : β → List Value} {w : World} {B B' : Nat} {a a' : Option Addr} {n c n' c' : Nat} {zs : List Nat} {ys : List β} (hT : (5 : Nat) ≠ T') (h : OwnB w B a n c zs) (h' : OwnG T' k' cf' w B' a' n' c' ys) : (Value.slice a n c).ownBlock = none ∨ (Value.slice a n c).ownBlock ≠ (Value.slice a' n' c').ownBlock := by
  cases hg : (Value.slice a n c).ownBlock with
  | none => exact .inl rfl
  | some g =>
    refine .inr fun hg' => ?_
    rcases h.own.2 with ⟨hv, _⟩ | ⟨g1, cap, cur, hv, _, hh, _⟩
    · injection hv with e1; subst e1; cases hg
    · injection hv with e1
      subst e1
      obtain rfl : g1 = g := Option.some.inj hg
      rcases h'.own.2 with ⟨hv', _⟩ | ⟨g2, cap2, cur2, hv', _, hh', _⟩
      · injection hv' with e1; subst e1; cases hg'
      · injection hv' with e1
        subst e1
        obtain rfl : g1 = g2 := Option.some.inj hg'
        rw [hh] at hh'
        injection hh' with hh'
        injection hh' with _ e2
        exact hT e2
section
variable {V V' : World} {B B' : Nat} {c : CD} {cs : List Value}
theorem ChO.fr {Q : Nat → Prop} (h : ChO V B c cs) (hf : Fr Q V V') (hq : ∀ g, B ≤ g → g < V.heap.size → ¬ Q g) : ChO V' B c cs := by
  obtain ⟨b1, b3, d1, d3, p1, p3, x1, x3, e, o1, o2, o3, o4⟩ := h.ex
  exact ⟨b1, b3, d1, d3, p1, p3, x1, x3, e, OwnG.fr o1 hf (fun g hg => hq g (o1.own.lt g hg).1 (o1.own.lt g hg).2), OwnG.fr o2 hf (fun g hg => hq g (o2.own.lt g hg).1 (o2.own.lt g hg).2), o3.fr hf hq, o4.fr hf hq⟩
theorem ChO.below (h : ChO V B c cs) (hb : Below V.heap.size V V') : ChO V' B c cs := h.fr (Q := fun _ => False) (Fr.of_below hb) (fun _ _ _ e => e)
theorem ChO.base (h : ChO V B c cs) (hb : B' ≤ B) : ChO V B' c cs := by
  obtain ⟨b1, b3, d1, d3, p1, p3, x1, x3, e, o1, o2, o3, o4⟩ := h.ex
  exact ⟨b1, b3, d1, d3, p1, p3, x1, x3, e, OwnG.base o1 hb, OwnG.base o2 hb, o3.base hb, o4.base hb⟩
theorem ChO.kept {la : Option Addr} {n lc : Nat} {xs : List C14} (h : ChO V B c cs) (k : OwnR V B' la n lc xs) (hg : V.grownBy V' (Value.slice la n lc).ownBlock) : ChO V' B c cs := by
  obtain ⟨b1, b3, d1, d3, p1, p3, x1, x3, e, o1, o2, o3, o4⟩ := h.ex
  obtain ⟨ys, h1, h2, h3⟩ := o3.ex
  exact ⟨b1, b3, d1, d3, p1, p3, x1, x3, e, OwnG.kept o1 hg (ownG_apart (by decide) o1 k), OwnG.kept o2 hg (ownG_apart (by decide) o2 k), ⟨ys, h1, OwnG.kept h2 hg (ownG_apart (by decide) h2 k), fun x hx => (h3 x hx).kept hg (ownB_apartG (by decide) (h3 x hx) k)⟩, o4.kept hg (ownB_apartG (by decide) o4 k)⟩
theorem ChO.c14 (h : ChO V B c cs) : cs.length = 14 ∧ ∀ u ∈ cs, u.oneCell' = true := by
  obtain ⟨b1, b3, d1, d3, p1, p3, x1, x3, e, _⟩ := h.ex
  subst e
  refine ⟨rfl, fun u hu => ?_⟩
  simp only [List.mem_cons, List.not_mem_nil, or_false] at hu
  rcases hu with rfl | rfl | rfl | rfl | rfl | rfl | rfl | rfl | rfl | rfl | rfl | rfl | rfl | rfl <;> rfl
end
/-- A row of chunks in new memory. -/
structure ChsO (V : World) (B : Nat) (la : Option Addr) (n lc : Nat) (cds : List CD) : Prop where
  ex : ∃ xs : List C14, xs.length = cds.length ∧ OwnR V B la n lc xs ∧ ∀ (i : Nat) (c : CD) (x : C14), cds[i]? = some c → xs[i]? = some x → ChO V B c x.1
section
variable {V V' : World} {B : Nat} {la : Option Addr} {n lc : Nat} {cds : List CD}
theorem ChsO.fr {Q : Nat → Prop} (h : ChsO V B la n lc cds) (hf : Fr Q V V') (hq : ∀ g, B ≤ g → g < V.heap.size → ¬ Q g) : ChsO V' B la n lc cds := by
  obtain ⟨xs, h1, h2, h3⟩ := h.ex
  exact ⟨xs, h1, OwnG.fr h2 hf (fun g hg => hq g (h2.own.lt g hg).1 (h2.own.lt g hg).2), fun i c x hc hx => (h3 i c x hc hx).fr hf hq⟩
theorem ChsO.app (h : ChsO V B la n lc cds) {c : CD} {cs : List Value} (hc : ChO V B c cs) (hB : B ≤ V.heap.size) (hn : n ≤ 1000) :
    ∃ g c' V', (Builtin.append_ #[26, 26] 26 #[.slice la n lc, .slice (some ⟨V.heap.size, 0, none⟩) 1 1]).run Tryd.prog (V.alloc (.cells cs.toArray 32)) = .ok (.slice (some ⟨g, 0, none⟩) (n + 1) c') V' ∧ ChsO V' B (some ⟨g, 0, none⟩) (n + 1) c' (cds ++ [c]) ∧ Fr (fun k => B ≤ k) V V' := by
  obtain ⟨xs, h1, h2, h3⟩ := h.ex
  have b0 : Below V.heap.size V (V.alloc (.cells cs.toArray 32)) := (Below.refl _ _).alloc (Nat.le_refl _) _
  have st2 := Stc.new V cs 32 _ rfl
  have h2a := OwnG.below h2 b0
  obtain ⟨g, c', V', hr, ho, hgr, hg, hgl⟩ := OwnG.app layR h2a 26 ⟨cs, hc.c14⟩ ⟨V.heap.size, 0, none⟩ (fun j u hj => by
    have := st2.cell j u hj
    unfold Addr.add
    split
    · rename_i e; subst e; exact this
    · simpa using this) (by unfold maxLen; omega) (by omega) (Nat.le_trans hB b0.size)
  refine ⟨g, c', V', hr, ⟨xs ++ [⟨cs, hc.c14⟩], by simp [h1], ho, fun i d x hd hx => ?_⟩, (Fr.of_below b0).trans (Fr.grown hgr (fun k hk => (h2.own.lt k hk).1))⟩
  rcases Nat.lt_or_ge i cds.length with hi | hi
  · rw [List.getElem?_append_left hi] at hd
    rw [List.getElem?_append_left (by omega)] at hx
    exact ((h3 i d x hd hx).below b0).kept h2a hgr
  · rw [List.getElem?_append_right hi] at hd
    rw [List.getElem?_append_right (by omega), h1] at hx
    obtain ⟨k, hk⟩ : ∃ k, i - cds.length = k := ⟨_, rfl⟩
    rw [hk] at hd hx
    cases k with
    | zero =>
      simp at hd hx
      subst hd hx
      exact (hc.below b0).kept h2a hgr
    | succ k => simp at hd
end
structure RdL2 (W0 w : World) (q : Nat) (cds : List CD) (sh : Int) (e : Ending) (w' : World) : Prop where
  ex : ∃ la lc, e = .returned (.slice la cds.length lc) ∧ ChsO w' w.heap.size la cds.length lc cds
  rd : RdW W0 w' q [] sh
  fr : Fr (fun k => k = q) w w'
set_option linter.unusedVariables false in
set_option maxRecDepth 100000 in
set_option maxHeartbeats 4000000 in
theorem rchunks_cd {W0 w : World} {q : Nat} {sh : Int} (cds : List CD) (rest : Nat → List Nat) (h : RdW W0 w q (rest 0) sh) (hn : rest cds.length = []) (hne : ∀ i, i < cds.length → rest i ≠ []) (hn32 : cds.length ≤ 32)
    (hrd : ∀ i c, cds[i]? = some c → ∀ W, RdW W0 W q (rest i) sh → Calls Tryd.prog 57 #[.pointer (some ⟨q, 0, none⟩), .int .i64 (i : Nat)] W (RdO W0 W q c (rest (i + 1)) sh)) :
    Calls Tryd.prog 40 #[.pointer (some ⟨q, 0, none⟩)] w (RdL2 W0 w q cds sh) := by
  have hql := h.lt
  have hWq := h.old
  have HU : Hid (RuS W0 w q (rest 0) sh w ∧ ChsO w w.heap.size none 0 0 (cds.take 0)) := ⟨⟨h, Fr.refl _ _⟩, ⟨[], rfl, OwnG.nil _ _, fun i c x hc hx => (by simp at hx)⟩⟩
  have HRD := (show Hid _ from hrd)
  have HNE := (show Hid _ from And.intro hn hne)
  obtain ⟨n, hnl⟩ : ∃ n, n = cds.length := ⟨_, rfl⟩
  have HNL := (show Hid _ from hnl)
  rw [← hnl] at hn32
  clear h hrd hn hne hnl
  go_enter Tryd.func40, Tryd.ntmps40
  go_wp2
  go_loopw [3] (fun u3 wr => ∃ (i : Nat) (la : Option Addr) (lc : Nat), i ≤ n ∧ u3 = .slice la i lc ∧ RuS W0 w q (rest i) sh wr ∧ ChsO wr w.heap.size la i lc (cds.take i)) (fun u3 _ => match u3 with | .slice _ i _ => n - i | _ => 0)
  case atStart => exact ⟨0, none, 0, by omega, rfl, HU.out⟩
  case round =>
    obtain ⟨i, la, lc, hin, rfl, hu, ho⟩ := hrel
    obtain ⟨b, off, m, c, hst, hs⟩ := hu.rd.ex
    have c0 := hst.cell 0 _ rfl
    have hm := hs.len
    have hms := hs.small
    have HUO := (show Hid _ from And.intro hu ho)
    clear hst hs hu ho HU
    by_cases hlt : i < n
    · have hil : i < cds.length := by have := HNL.out; omega
      have hm0 : (0 : Int) < (m : Int) := by
        have := List.length_pos_iff.2 (HNE.out.2 i hil)
        omega
      obtain ⟨cd, hcd⟩ : ∃ cd, cds[i]? = some cd := ⟨_, List.getElem?_eq_getElem hil⟩
      have HTK : Hid (cds.take i ++ [cd] = cds.take (i + 1)) := by rw [List.take_add_one, hcd]; rfl
      have HN := (show Hid _ from HRD.out i cd hcd wr HUO.out.1.rd)
      clear hm hcd hil
      go_wp2_with fail
      refine Calls.mono HN.out ?_
      clear HN c0 hm0
      rintro e w2 hP
      obtain ⟨cs, rfl, hco⟩ := hP.ex
      have ho2 : ChsO w2 w.heap.size la i lc (cds.take i) := HUO.out.2.fr hP.fr (fun g hg _ e => by omega)
      have hsz2 : w.heap.size ≤ w2.heap.size := Nat.le_trans HUO.out.1.fr.size hP.fr.size
      obtain ⟨g7, c7, w7, hr7, ho7, hf7⟩ := ho2.app (hco.base HUO.out.1.fr.size) hsz2 (by omega)
      have HF : Hid (RuS W0 w q (rest (i + 1)) sh w7 ∧ ChsO w7 w.heap.size (some ⟨g7, 0, none⟩) (i + 1) c7 (cds.take (i + 1))) := by
        have hu2 : RuS W0 w q (rest (i + 1)) sh w2 := ⟨hP.rd, HUO.out.1.fr.trans (hP.fr.mono (fun _ _ hk => .inl hk))⟩
        refine ⟨⟨hu2.rd.fr hf7 (fun e => by omega) (fun g hg => by omega), hu2.fr.trans (hf7.mono (fun k _ hk => .inr hk))⟩, ?_⟩
        rw [← HTK.out]
        exact ho7
      have hcl : cs.length = 14 := hco.c14.1
      have hcl2 : cs.toArray.size = 14 := by simp [hcl]
      clear hP ho2 ho7 hf7 HUO hco
      go_wp2_with (at_builtin; rw [fold14 cs hcl]; refine app_eq_listR rfl _ _ rfl rfl rfl rfl hr7 ?_)
      clear hr7
      go_wp2
      go_roundw
      case rel => exact ⟨i + 1, _, _, by omega, rfl, HF.out⟩
      case measure => simp; omega
    · have hien : i = n := by omega
      subst hien
      have hm0 : m = 0 := by rw [← hm, HNL.out, HNE.out.1]; rfl
      subst hm0
      have HF : Hid (RdL2 W0 w q cds sh (.returned (.slice la i lc)) wr) := by
        obtain ⟨hu, ho⟩ := HUO.out
        rw [HNL.out, HNE.out.1] at hu
        rw [HNL.out, List.take_length] at ho
        exact ⟨⟨la, lc, by rw [HNL.out], ho⟩, hu.rd, hu.fr.mono (fun k hk hp => hp.elim id (fun e => by omega))⟩
      clear HUO hm
      go_wp2
      go_ret
      exact HF.out
end Go.Proofs.YtlgfbcfogcmdbaaDoor
namespace Go.Proofs.YtlgfbcfogcmdbaaDoor
open Go.RowKit
/-- Behind takeChunks. -/
structure Rp6 (w : World) (x n : Nat) (C : Nat → C14) (hd : List Value) (θ : Option Addr × Nat) (z : List Value) (V : World) : Prop where
  own : OwnR V w.heap.size θ.1 n θ.2 ((List.range n).map C)
  bel : Below w.heap.size w V
  s0 : Stc V w.heap.size z
  s1 : Stc V (w.heap.size + 1) [.int .i64 0]
  sx : Stc V x hd
  ob : ∀ g, (Value.slice θ.1 n θ.2).ownBlock = some g → w.heap.size + 1 < g
structure RpG (w W : World) (x n : Nat) (C : Nat → C14) (hd : List Value) (θ : Option Addr × Nat) (l : Nat → Bool) (V : World) : Prop where
  a0 : l 2 = false → V = W
  a1 : l 2 = true → l 3 = false → Rp6 w x n C hd θ [.int .u16 0, .int .u16 0, .int .u32 0] V
  a2 : l 3 = true → l 5 = false → Rp6 w x n C hd θ hd V
  a3 : l 5 = true → Rp6 w x n C hd θ hd V
section
variable {w W : World} {x n : Nat} {C : Nat → C14} {hd : List Value} {θ : Option Addr × Nat} {l : Nat → Bool} {V : World}
theorem RpG.start : RpG w W x n C hd θ (fun _ => false) W := ⟨fun _ => rfl, fun e => (by cases e), fun e => (by cases e), fun e => (by cases e)⟩
theorem RpG.other (h : RpG w W x n C hd θ l V) (i : Nat) (h2 : 2 ≠ i) (h3 : 3 ≠ i) (h5 : 5 ≠ i) : RpG w W x n C hd θ (updL l i) V :=
  ⟨by rw [updL_neC h2]; exact h.a0, by rw [updL_neC h2, updL_neC h3]; exact h.a1, by rw [updL_neC h3, updL_neC h5]; exact h.a2, by rw [updL_neC h5]; exact h.a3⟩
theorem RpG.call {V' : World} {la : Option Addr} {lc : Nat} (h3 : l 3 = false) (h5 : l 5 = false) (hp : Rp6 w x n C hd (la, lc) [.int .u16 0, .int .u16 0, .int .u32 0] V') : RpG w W x n C hd (la, lc) (updL l 2) V' :=
  ⟨fun e => (by rw [updL_eqC] at e; cases e), fun _ _ => hp, fun e => (by rw [updL_neC (by decide), h3] at e; cases e), fun e => (by rw [updL_neC (by decide), h5] at e; cases e)⟩
theorem Rp6.turn {V' : World} {z z' : List Value} {y : Nat} (h : Rp6 w x n C hd θ z V) (hf : Fr (fun k => k = y) V V') (hy : w.heap.size ≤ y) (hy2 : y ≤ w.heap.size + 1) (hx : w.heap.size + 1 < x) (h0 : Stc V' w.heap.size z') (h1 : Stc V' (w.heap.size + 1) [.int .i64 0]) : Rp6 w x n C hd θ z' V' :=
  ⟨OwnG.fr h.own hf (fun g hg => by have := h.ob g hg; omega), h.bel.trans (hf.below _ h.bel.size (fun k hk => by omega)), h0, h1, h.sx.fr hf (by omega), h.ob⟩
theorem RpG.put3 (h : RpG w W x n C hd θ l V) (h2 : l 2 = true) (h3 : l 3 = false) (h5 : l 5 = false) (hl : hd.length = 3) (hx : w.heap.size + 1 < x) : V.there w.heap.size 0 hd.length ∧ RpG w W x n C hd θ (updL l 3) (V.setCells w.heap.size 0 hd) := by
  have s := h.a1 h2 h3
  have hf := fr_setCellsX w.heap.size hd 0 V
  refine ⟨by rw [hl]; exact s.s0.there, ⟨fun e => (by rw [updL_neC (by decide), h2] at e; cases e), fun _ e => (by rw [updL_eqC] at e; cases e), fun _ _ => s.turn hf (Nat.le_refl _) (by omega) hx (s.s0.put hd (by rw [hl]; rfl)) (s.s1.fr hf (by omega)), fun e => (by rw [updL_neC (by decide), h5] at e; cases e)⟩⟩
theorem RpG.put5 (h : RpG w W x n C hd θ l V) (h3 : l 3 = true) (h2 : l 2 = true) (h5 : l 5 = false) (hx : w.heap.size + 1 < x) : V.cell? ⟨w.heap.size + 1, 0, none⟩ = some (.int .i64 0) ∧ V.frozen? ⟨w.heap.size + 1, 0, none⟩ = false ∧ w.heap.size + 1 < V.heap.size ∧ RpG w W x n C hd θ (updL l 5) (V.setCell ⟨w.heap.size + 1, 0, none⟩ (.int .i64 0)) := by
  have s := h.a2 h3 h5
  have hf := Fr.setCell (fun k => k = w.heap.size + 1) V ⟨w.heap.size + 1, 0, none⟩ (.int .i64 0) rfl
  exact ⟨s.s1.cell 0 _ rfl, s.s1.free 0, s.s1.lt, ⟨fun e => (by rw [updL_neC (by decide), h2] at e; cases e), fun _ e => (by rw [updL_neC (by decide), h3] at e; cases e), fun _ e => (by rw [updL_eqC] at e; cases e), fun _ => s.turn hf (by omega) (Nat.le_refl _) hx (s.s0.fr hf (by omega)) (s.s1.set 0 _)⟩⟩
end
theorem catch_idle (p : Addr) (w : World) :
    CallsD Tryd.prog 38 #[.pointer (some p)] .returning w fun e u' w' => e = .returned (.tuple #[]) ∧ u' = .returning ∧ w' = w := by
  refine callsD_of_wpS Tryd.func38 rfl fun c₀ cs hu => ?_
  apply wpS_seq
  apply wpS_region
  simp [wpOpsS, go_sem, recoverD, hu, Tryd.ntmps38, Exit.thenS]
  apply wpS_seq
  apply wpS_region
  simp [wpOpsS, go_sem, Exit.thenS]
  refine wpS_cond (t := false) (by simp [Act.eval, Array.replicate]) ?_
  simp only [Bool.false_eq_true, if_false]
  refine wpS_of_wp (wp_skip ?_)
  cases c₀
  simp_all [bodyPostS, results, Tryd.results38]
set_option linter.unusedVariables false in
set_option maxRecDepth 100000 in
set_option maxHeartbeats 4000000 in
theorem readp_ok {w : World} {b off m c : Nat} {zs : List Nat} (hs : Sl w (some ⟨b, off, none⟩) m c zs) (h12 : 12 ≤ zs.length) (n : Nat) (C : Nat → C14) (rest : Nat → List Nat) (h0 : rest 0 = zs.drop 12) (hn : rest n = []) (hne : ∀ i, i < n → rest i ≠ []) (hn32 : n ≤ 32)
    (hrd : ∀ i, i < n → ∀ q W, RdW w W q (rest i) 3 → Calls Tryd.prog 57 #[.pointer (some ⟨q, 0, none⟩), .int .i64 (i : Nat)] W (RdP w W q (.agg (C i).1.toArray) (rest (i + 1)) 3)) :
    Calls Tryd.prog 23 #[.slice (some ⟨b, off, none⟩) m c] w fun e w' => ∃ la lc, e = .returned (.tuple #[.agg #[.int .u16 (numB (zs.take 2) : Nat), .int .u16 (numB ((zs.drop 2).take 2) : Nat), .int .u32 (numB ((zs.drop 4).take 4) : Nat)], .slice la n lc, .int .i64 0]) ∧ OwnR w' w.heap.size la n lc ((List.range n).map C) ∧ Below w.heap.size w w' := by
  have hmf : ∀ (fn : Fn) (first cap : Array Value) (w : World), (Instr.makeFunc fn first cap).run Tryd.prog w = .ok (.func fn first cap) w := fun _ _ _ _ => rfl
  have hz := zero_head
  obtain ⟨W1, hW1⟩ : ∃ W1, W1 = w.alloc (.cells #[.int .u16 0, .int .u16 0, .int .u32 0] 25) := ⟨_, rfl⟩
  obtain ⟨W2, hW2⟩ : ∃ W2, W2 = W1.alloc (.cells #[.int .i64 0] 35) := ⟨_, rfl⟩
  obtain ⟨W3, hW3⟩ : ∃ W3, W3 = W2.alloc (.cells #[.slice (some ⟨b, off, none⟩) m c, .int .i64 3] 79) := ⟨_, rfl⟩
  have z1 : W1.heap.size = w.heap.size + 1 := by rw [hW1]; simp
  have z2 : W2.heap.size = w.heap.size + 1 + 1 := by rw [hW2]; simp [z1]
  have b1 : Below w.heap.size w W1 := by rw [hW1]; exact (Below.refl _ _).alloc (Nat.le_refl _) _
  have b2 : Below W1.heap.size W1 W2 := by rw [hW2]; exact (Below.refl _ _).alloc (Nat.le_refl _) _
  have b3 : Below W2.heap.size W2 W3 := by rw [hW3]; exact (Below.refl _ _).alloc (Nat.le_refl _) _
  have s1 := ((Stc.new w [.int .u16 0, .int .u16 0, .int .u32 0] 25 W1 hW1).below b2).below b3
  have s2 := (Stc.new W1 [.int .i64 0] 35 W2 hW2).below b3
  have s3 := Stc.new W2 [.slice (some ⟨b, off, none⟩) m c, .int .i64 3] 79 W3 hW3
  rw [z1] at s2
  rw [z2] at s3
  have b13 : Below w.heap.size w W3 := (b1.trans (b2.mono b1.size)).trans (b3.mono (Nat.le_trans b1.size b2.size))
  have hrw : RdW w W3 (w.heap.size + 1 + 1) zs 3 := ⟨⟨b, off, m, c, s3, hs⟩, b13, by omega⟩
  have HU : Hid (RuS w w (w.heap.size + 1 + 1) zs 3 W3 ∧ Stc W3 w.heap.size [.int .u16 0, .int .u16 0, .int .u32 0] ∧ Stc W3 (w.heap.size + 1) [.int .i64 0]) := ⟨⟨hrw, Fr.of_below b13⟩, s1, s2⟩
  have HN := (show Hid _ from rhead_any hrw h12)
  have HR := (show Hid _ from And.intro h0 (And.intro hn (And.intro hne hrd)))
  obtain ⟨n1, hn1⟩ : ∃ n1, n1 = numB (zs.take 2) := ⟨_, rfl⟩
  obtain ⟨n2, hn2⟩ : ∃ n2, n2 = numB ((zs.drop 2).take 2) := ⟨_, rfl⟩
  obtain ⟨n3, hn3⟩ : ∃ n3, n3 = numB ((zs.drop 4).take 4) := ⟨_, rfl⟩
  rw [← hn1, ← hn2, ← hn3] at HN ⊢
  clear hn1 hn2 hn3 h0 hn hne hrd z1 z2 b1 b2 b3 s1 s2 s3 b13 hrw hs h12
  go_enter_defers Tryd.func23, Tryd.ntmps23
  go_wp2_with fail
  rw [← hW1, ← hW2, ← hW3]
  clear hW1 hW2 hW3
  refine Calls.mono HN.out ?_
  clear HN
  rintro e w4 hP
  have he := hP.out
  subst he
  have HU4 : Hid (RuS w w (w.heap.size + 1 + 1) (zs.drop 12) 3 w4 ∧ Stc w4 w.heap.size [.int .u16 0, .int .u16 0, .int .u32 0] ∧ Stc w4 (w.heap.size + 1) [.int .i64 0]) := ⟨HU.out.1.next hP, HU.out.2.1.fr hP.fr (by omega), HU.out.2.2.fr hP.fr (by omega)⟩
  obtain ⟨W5, hW5⟩ : ∃ W5, W5 = w4.alloc (.cells #[.int .u16 (n1 : Nat), .int .u16 (n2 : Nat), .int .u32 (n3 : Nat)] 25) := ⟨_, rfl⟩
  have b5 : Below w4.heap.size w4 W5 := by rw [hW5]; exact (Below.refl _ _).alloc (Nat.le_refl _) _
  have s5 := Stc.new w4 [.int .u16 (n1 : Nat), .int .u16 (n2 : Nat), .int .u32 (n3 : Nat)] 25 W5 hW5
  obtain ⟨x, hx⟩ : ∃ x, x = w4.heap.size := ⟨_, rfl⟩
  have hxw : w.heap.size + 1 < x := by rw [hx]; exact HU4.out.2.2.lt
  have hxq : w.heap.size + 1 + 1 < x := by rw [hx]; exact HU4.out.1.rd.lt
  rw [← hx] at s5
  have bd : Below W5.heap.size W5 W5.drew := (Below.refl _ _).drew
  have hu5 := (HU4.out.1.below b5).below bd
  have s5d := s5.below bd
  have hrd5 := hu5.rd
  rw [← HR.out.1] at hrd5
  have HRC := (show Hid _ from rchunks_any n C rest hrd5 HR.out.2.1 HR.out.2.2.1 hn32 (fun i hi W hW => HR.out.2.2.2 i hi _ W hW))
  have HU5 : Hid (RuS w w (w.heap.size + 1 + 1) (zs.drop 12) 3 W5.drew ∧ Stc W5.drew w.heap.size [.int .u16 0, .int .u16 0, .int .u32 0] ∧ Stc W5.drew (w.heap.size + 1) [.int .i64 0] ∧ Stc W5.drew x [.int .u16 (n1 : Nat), .int .u16 (n2 : Nat), .int .u32 (n3 : Nat)]) := ⟨hu5, (HU4.out.2.1.below b5).below bd, (HU4.out.2.2.below b5).below bd, s5d⟩
  have k0 := s5d.cell 0 _ rfl
  have k1 := s5d.cell 1 _ rfl
  have k2 := s5d.cell 2 _ rfl
  have HAF : Hid (∀ e w6, RdL w W5.drew (w.heap.size + 1 + 1) n C 3 e w6 → ∃ la lc, e = .returned (.slice la n lc) ∧ Rp6 w x n C [.int .u16 (n1 : Nat), .int .u16 (n2 : Nat), .int .u32 (n3 : Nat)] (la, lc) [.int .u16 0, .int .u16 0, .int .u32 0] w6) := fun e w6 hL => by
    obtain ⟨la, lc, he, ho⟩ := hL.ex
    have h2 := HU5.out.2.2.1.lt
    have hfr : Fr (fun k => k = w.heap.size + 1 + 1 ∨ w.heap.size ≤ k) w w6 := hu5.fr.trans (hL.fr.mono (fun _ _ hk => .inl hk))
    refine ⟨la, lc, he, OwnG.base ho (by omega), hfr.below _ (Nat.le_refl _) (fun k hk => by omega), HU5.out.2.1.fr hL.fr (by omega), HU5.out.2.2.1.fr hL.fr (by omega), HU5.out.2.2.2.fr hL.fr (by omega), fun g hg => ?_⟩
    have h1 := (ho.own.lt g hg).1
    omega
  have HK5 : Hid (W5.drew.cell? ⟨x, 0, none⟩ = some (.int .u16 (n1 : Nat)) ∧ W5.drew.cell? ⟨x, 1, none⟩ = some (.int .u16 (n2 : Nat)) ∧ W5.drew.cell? ⟨x, 2, none⟩ = some (.int .u32 (n3 : Nat))) := ⟨k0, k1, k2⟩
  have HXW : Hid (w.heap.size + 1 < x) := hxw
  clear k0 k1 k2
  clear HU hP b5 s5 bd hu5 s5d hrd5
  go_wp2_with fail
  rw [← hW5, ← hx]
  clear hW5 hx
  refine wp_region_parW mixedX (fun θ : Option Addr × Nat => [(13, .agg #[.int .u16 (n1 : Nat), .int .u16 (n2 : Nat), .int .u32 (n3 : Nat)]), (14, .pointer (some ⟨w.heap.size + 1 + 1, 0, none⟩)), (15, .slice θ.1 n θ.2), (3, .slice θ.1 n θ.2)]) (fun θ l V => RpG w W5.drew x n C [.int .u16 (n1 : Nat), .int .u16 (n2 : Nat), .int .u32 (n3 : Nat)] θ l V) (none, 0) ?Z1 ?hZ1 (by kernel_rfl) (by kernel_rfl) (fun θ => by kernel_rfl) (by kernel_rfl) ?h01 ?hops1 ?he1
  case hZ1 => intro θ; simp only [List.foldl_cons, List.foldl_nil, List.setIfInBounds_toArray, List.set_cons_zero, List.set_cons_succ]; rfl
  case h01 => exact RpG.start
  case hops1 =>
    refine ⟨?_, ?_, ?_, ?_, ?_, ?_, trivial⟩
    · exact par_val (fun θ => by rfl) (fun θ l V hg => hg.other 0 (by decide) (by decide) (by decide)) (fun θ l V hl hc hd hg => by
        have h3 : l 3 = false := (by cases h : l 3 with | false => rfl | true => exact absurd (hc 3 0 (by kernel_rfl) h) (by rw [hl]; decide))
        obtain ⟨j0, j1, j2⟩ : V.cell? ⟨x, 0, none⟩ = some (.int .u16 (n1 : Nat)) ∧ V.cell? ⟨x, 1, none⟩ = some (.int .u16 (n2 : Nat)) ∧ V.cell? ⟨x, 2, none⟩ = some (.int .u32 (n3 : Nat)) := by
          cases h2 : l 2 with
          | false => rw [hg.a0 h2]; exact HK5.out
          | true => have s := (hg.a1 h2 h3).sx; exact ⟨s.cell 0 _ rfl, s.cell 1 _ rfl, s.cell 2 _ rfl⟩
        go_simp; (try with_reducible rfl))
    · exact par_val (fun θ => by rfl) (fun θ l V hg => hg.other 1 (by decide) (by decide) (by decide)) (fun θ l V hl hc hd hg => by go_simp; (try with_reducible rfl))
    · exact par_call (fun θ => by rfl) rfl (vs := fun _ => [.pointer (some ⟨w.heap.size + 1 + 1, 0, none⟩)]) (fun θ => by rfl) Tryd.func40 (by rfl) (by rfl) (fun θ l V hl hc hd hg => by
        have h3 : l 3 = false := (by cases h : l 3 with | false => rfl | true => exact absurd (hc 3 2 (by kernel_rfl) h) (by rw [hl]; decide))
        have h4 : l 4 = false := (by cases h : l 4 with | false => rfl | true => exact absurd (hc 4 2 (by kernel_rfl) h) (by rw [hl]; decide))
        have h5 : l 5 = false := (by cases h : l 5 with | false => rfl | true => exact absurd (hc 5 2 (by kernel_rfl) h) (by rw [hl]; decide))
        rw [hg.a0 hl]
        refine Calls.mono HRC.out ?_
        intro e w6 hL
        obtain ⟨la, lc, rfl, hP6⟩ := HAF.out _ _ hL
        exact ⟨_, rfl, next_set (by kernel_rfl) ((la, lc) : Option Addr × Nat) [(15, .slice la n lc, 2), (3, .slice la n lc, 4)] (by simp only [List.foldl_cons, List.foldl_nil, List.setIfInBounds_toArray, List.set_cons_zero, List.set_cons_succ]) (by kernel_rfl) (fun y hy => by simp at hy; rcases hy with rfl | rfl; exact hl; exact h4) (fun d hd => by cases hd; rfl) (RpG.call h3 h5 hP6)⟩)
    · exact par_skip (fun θ => by rfl) (fun θ l V hl hc hd hg => by
        have h2 : l 2 = true := hd 2 (by kernel_rfl)
        have h5 : l 5 = false := (by cases h : l 5 with | false => rfl | true => exact absurd (hc 5 3 (by kernel_rfl) h) (by rw [hl]; decide))
        obtain ⟨hth, hst⟩ := hg.put3 h2 hl h5 rfl HXW.out
        exact ⟨_, run_storeX rfl (b := w.heap.size) (k := 0) (by rfl) (cs := [.int .u16 (n1 : Nat), .int .u16 (n2 : Nat), .int .u32 (n3 : Nat)]) (by rfl) hth (by kernel_rfl) (by intro v hv; simp at hv; rcases hv with rfl | rfl | rfl <;> rfl), ⟨θ, fun _ _ _ _ _ _ => rfl, fun d hd => (by cases hd), hst⟩⟩)
    · exact par_val (fun θ => by rfl) (fun θ l V hg => hg.other 4 (by decide) (by decide) (by decide)) (fun θ l V hl hc hd hg => by go_simp; (try with_reducible rfl))
    · exact par_skip (fun θ => by rfl) (fun θ l V hl hc hd hg => by
        have h4 : l 4 = true := hd 4 (by kernel_rfl)
        have h3 : l 3 = true := hc 4 3 (by kernel_rfl) h4
        have h2 : l 2 = true := hc 4 2 (by kernel_rfl) h4
        obtain ⟨c5, f5, l5, hst⟩ := hg.put5 h3 h2 hl HXW.out
        exact ⟨_, by go_simp; (try with_reducible rfl), ⟨θ, fun _ _ _ _ _ _ => rfl, fun d hd => (by cases hd), hst⟩⟩)
  case he1 =>
  rintro ⟨la, lc⟩ l V hall hg
  have h8 := hg.a3 (hall 5 (by decide))
  clear hall hg HRC HAF
  dsimp only at h8 ⊢
  have y0 := h8.s0.cell 0 _ rfl
  have y1 := h8.s0.cell 1 _ rfl
  have y2 := h8.s0.cell 2 _ rfl
  have y3 := h8.s1.cell 0 _ rfl
  have HE := (show Hid _ from h8)
  clear h8
  go_wp2
  refine leaves_cons (f := 38) (args := #[.pointer (some ⟨w.heap.size + 1, 0, none⟩)]) (by simp) (by simp [go_sem]) ?_
  refine (catch_idle ⟨w.heap.size + 1, 0, none⟩ _).mono ?_
  rintro e u' w'' ⟨rfl, rfl, rfl⟩
  simp [Leaves, settle, results, Tryd.results23, go_sem, y0, y1, y2, y3]
  exact ⟨la, lc, ⟨rfl, rfl⟩, HE.out.own, HE.out.bel⟩
end Go.Proofs.YtlgfbcfogcmdbaaDoor
namespace Go.Proofs.YtlgfbcfogcmdbaaDoor
open Go.RowKit
def setE (n : Nat) (p : Int) (v : Nat) (k : Int) : Nat := if nspanE n p k = 0 then bytesE v k else nspanE n p k
def setV (zs : List Nat) (p : Int) (v : Nat) (k : Int) : List Nat := if setE zs.length p v k = 0 then lay zs p.toNat (bytesV v k) else []
theorem setE_ok {n : Nat} {p : Int} {v : Nat} {k : Int} (h : setE n p v k = 0) : nspanE n p k = 0 ∧ bytesE v k = 0 := by
  unfold setE at h
  split at h
  · exact ⟨by assumption, h⟩
  · exact absurd h (by assumption)
theorem bytesV_length {v : Nat} {k : Int} (h : bytesE v k = 0) : (bytesV v k).length = k.toNat := by unfold bytesV; rw [if_pos h, bytesB_len]
theorem setV_len {zs : List Nat} {p : Int} {v : Nat} {k : Int} (h : setE zs.length p v k = 0) : (setV zs p v k).length = zs.length := by
  obtain ⟨h1, h2⟩ := setE_ok h
  obtain ⟨_, _, _, _⟩ := nspan_ok h1
  unfold setV
  rw [if_pos h, lay_len]
  rw [bytesV_length h2]; omega
set_option maxHeartbeats 2000000 in
theorem set_any (a : Option Addr) (n c : Nat) (zs : List Nat) (p : Int) (v : Nat) (k : Int) (w : World) (hs : Sl w a n c zs) (hn : n ≤ 140737488351232) (hv : v < 18446744073709551616) :
    Calls Tryd.prog 30 #[.slice a n c, .int .i64 p, .int .u64 (v : Nat), .int .i64 k] w fun e w' => ∃ a' c', e = .returned (.tuple #[.slice a' (setV zs p v k).length c', .int .i64 (setE n p v k : Nat)]) ∧ OwnB w' w.heap.size a' (setV zs p v k).length c' (setV zs p v k) ∧ Below w.heap.size w w' := by
  have hl := hs.len
  have hsm := hs.small
  by_cases h1 : nspanE n p k = 0
  · obtain ⟨hk1, hk8, hp0, hpk⟩ := nspan_ok h1
    have HN := (show Hid _ from h1)
    by_cases h2 : bytesE v k = 0
    · have HB := (show Hid _ from h2)
      have HE : Hid (setE n p v k = 0) := by show _ = _; unfold setE; rw [if_pos h1]; exact h2
      have HV : Hid (setV zs p v k = lay zs p.toNat (bytesV v k)) := by show _ = _; unfold setV; rw [hl, if_pos HE.out]
      have hlen := bytesV_length h2
      have HL : Hid ((setV zs p v k).length = n) := by show _ = _; rw [setV_len (by rw [hl]; exact HE.out), hl]
      clear h1 h2
      obtain ⟨p, rfl⟩ := Int.eq_ofNat_of_zero_le hp0
      obtain ⟨k, rfl⟩ := Int.eq_ofNat_of_zero_le (show 0 ≤ k by omega)
      rw [Int.toNat_natCast] at HV hlen
      have hpk' : p + k ≤ n := by omega
      have hk1' : 1 ≤ k := by omega
      have hk8' : k ≤ 8 := by omega
      go_enter Tryd.func30, Tryd.ntmps30
      go_wp2_with fail
      refine (nspan_any n p k _ hsm).mono ?_
      rintro e w1 ⟨rfl, rfl⟩
      rw [HN.out]
      go_wp2_with fail
      refine (bytes_any v k _ hv).mono ?_
      rintro e w2 ⟨a2, c2, rfl, ho2, hb2⟩
      rw [HB.out]
      rw [hlen] at *
      have hs2 := hs.below hb2
      go_wp2_with fail
      refine (clone_any _ _ _ zs _ hs2 hn).mono ?_
      rintro e w3 ⟨a3, c3, rfl, ho3, hg3, hb3⟩
      obtain ⟨g, rfl⟩ := hg3 (by omega)
      have hs3 := (ho2.below hb3).sl (by omega)
      have hb4 := hb2.trans (hb3.mono hb2.size)
      have hz2 := hb2.size
      have hc3 : n ≤ c3 := (ho3.sl (by omega)).cap
      have hpc : ¬ c3 = p := by omega
      have hpn : (p : Int) ≤ (n : Int) := by omega
      clear hs2 hb2 ho2
      generalize bytesV v k = ys at *
      obtain ⟨w4, hcp, ho4, hg4⟩ := copy_run w3 w2.heap.size g p (n - p) (c3 - p) n c3 (some ⟨g, p, none⟩) zs ho3 a2 k c2 ys hs3 (fun _ => rfl) (by omega) hpk'
      have hb5 : Below w1.heap.size w1 w4 := hb4.grown hg4 (by have := hb3.size; omega) (fun j hj => by injection hj with hj; subst hj; exact Nat.le_trans hz2 (ho3.own.lt g rfl).1)
      go_wp2
      go_ret2
      rw [HL.out, HV.out, HE.out]
      exact ⟨_, c3, rfl, ho4.base hz2, hb5⟩
    · have HE : Hid (setE n p v k = bytesE v k) := by show _ = _; unfold setE; rw [if_pos h1]
      have HV : Hid (setV zs p v k = []) := by show _ = _; unfold setV; rw [hl, if_neg (by rw [HE.out]; exact h2)]
      have hne : ((bytesE v k : Int) != 0) = true := by simp; omega
      clear h1 h2
      go_enter Tryd.func30, Tryd.ntmps30
      go_wp2_with fail
      refine (nspan_any n p k _ hsm).mono ?_
      rintro e w1 ⟨rfl, rfl⟩
      rw [HN.out]
      go_wp2_with fail
      refine (bytes_any v k _ hv).mono ?_
      rintro e w2 ⟨a2, c2, rfl, ho2, hb2⟩
      go_wp2
      go_ret2
      rw [HV.out, HE.out]
      exact ⟨none, 0, rfl, OwnB.nil _ _, hb2⟩
  · have HE : Hid (setE n p v k = nspanE n p k) := by show _ = _; unfold setE; rw [if_neg h1]
    have HV : Hid (setV zs p v k = []) := by show _ = _; unfold setV; rw [hl, if_neg (by rw [HE.out]; exact h1)]
    have hne : ((nspanE n p k : Int) != 0) = true := by simp; omega
    clear h1
    go_enter Tryd.func30, Tryd.ntmps30
    go_wp2_with fail
    refine (nspan_any n p k _ hsm).mono ?_
    rintro e w1 ⟨rfl, rfl⟩
    go_wp2
    go_ret2
    rw [HV.out, HE.out]
    exact ⟨none, 0, rfl, OwnB.nil _ _, Below.refl _ _⟩
end Go.Proofs.YtlgfbcfogcmdbaaDoor
namespace Go.Proofs.YtlgfbcfogcmdbaaDoor
open Go.RowKit
set_option maxHeartbeats 400000 in
theorem step_any (r x : Nat) (w : World) (hr : r < 4294967296) (hx : x < 256) :
    Calls Tryd.prog 50 #[.int .u32 r, .int .u8 x] w fun e w' => e = .returned (.int .u32 (cbyte r x)) ∧ w' = w := by
  go_enter Tryd.func50, Tryd.ntmps50
  go_wp2
  go_loop [0, 7] (fun r' i => ∃ (k : Nat), k ≤ 8 ∧ i = .int .i64 k ∧ r' = .int .u32 (cbits r x k)) (fun _ i => 8 - (intOf i).toNat)
  case atStart => exact ⟨0, by omega, rfl, rfl⟩
  case round =>
    obtain ⟨k, hk, rfl, rfl⟩ := hrel
    have hq := cbits_lt r x k hr
    have HE := (show Hid _ from cb_eq (cbits r x k) x k hq hx)
    have H : Hid (cb (cbits r x k) x k = cbits r x (k + 1)) := rfl
    by_cases hlt : k < 8
    · generalize cbits r x k = q at *
      go_wp2
      go_round
      case rel => exact ⟨k + 1, by omega, by go_num, by rw [HE.out, H.out]⟩
      case measure => simp [intOf]; omega
    · obtain rfl : k = 8 := by omega
      go_wp2
      go_ret
      exact ⟨rfl, rfl⟩

set_option maxHeartbeats 400000 in
theorem thr_crc (a : Option Addr) (n c : Nat) (zs : List Nat) (r : Nat) (w : World) (hr : r < 4294967296) (hs : Sl w a n c zs) :
    Calls Tryd.prog 49 #[.slice a n c, .int .u32 r, .func (.func 50) #[] #[]] w fun e w' => e = .returned (.int .u32 (crcReg r zs)) ∧ w' = w := by
  obtain ⟨hl, hcap, hroom, hsm, _, hb, hat⟩ := hs
  unfold maxLen at hroom
  go_enter Tryd.func49, Tryd.ntmps49
  go_wp2
  go_loop [1, 11] (fun r' i => ∃ (k : Nat), k ≤ n ∧ i = .int .i64 k ∧ r' = .int .u32 (crcReg r (zs.take k))) (fun _ i => n - (intOf i).toNat)
  case atStart => exact ⟨0, by omega, rfl, rfl⟩
  case round =>
    obtain ⟨k, hk, rfl, rfl⟩ := hrel
    have hq := crcReg_lt (zs.take k) r hr
    by_cases hlt : k < n
    · have HE : Hid (crcReg r (zs.take (k + 1)) = cbyte (crcReg r (zs.take k)) (zs.getD k 0)) := by
        rw [take_snocN zs k (by omega), crcReg_snoc]; rfl
      rcases hat with h0 | ⟨b, off, rfl, hlt2, hcell⟩
      · omega
      · have hc := hcell k hlt
        have hx := hb k
        generalize zs.getD k 0 = x at *
        generalize crcReg r (zs.take k) = q at *
        clear hcell hb
        go_wp2_with (go_at_call 50; refine (step_any _ _ _ hq hx).mono ?_; rintro e w' ⟨rfl, rfl⟩)
        go_round
        case rel => exact ⟨k + 1, by omega, by go_num, by rw [HE.out]⟩
        case measure => simp [intOf]; omega
    · obtain rfl : k = n := by omega
      have HT : Hid (zs.take k = zs) := by rw [← hl]; exact List.take_length
      go_wp2
      go_ret
      exact ⟨by rw [HT.out]; rfl, rfl⟩

set_option maxHeartbeats 400000 in
theorem crc_any (a : Option Addr) (n c : Nat) (zs : List Nat) (w : World) (hs : Sl w a n c zs) :
    Calls Tryd.prog 32 #[.slice a n c] w fun e w' => e = .returned (.int .u32 (crc zs)) ∧ w' = w := by
  have hq := crcReg_lt zs 4294967295 (by omega)
  have HE : Hid (crc zs = 4294967295 - crcReg 4294967295 zs) := rfl
  go_enter Tryd.func32, Tryd.ntmps32
  go_wp2_with (go_at_call 49; refine (thr_crc a n c zs 4294967295 _ (by omega) hs).mono ?_; rintro e w' ⟨rfl, rfl⟩)
  generalize crcReg 4294967295 zs = q at *
  go_ret
  exact ⟨ret_int (by rw [HE.out]; exact not32 q hq), rfl⟩
end Go.Proofs.YtlgfbcfogcmdbaaDoor
namespace Go.Proofs.YtlgfbcfogcmdbaaDoor
open Go.RowKit
def strOf (zs : List Nat) : ByteArray := ⟨(zs.map UInt8.ofNat).toArray⟩
theorem conv_str {w : World} {a : Option Addr} {n c : Nat} {zs : List Nat} (hs : Sl w a n c zs) : (convert 30 9 (.slice a n c)).run Tryd.prog w = .ok (.string (strOf zs)) w := by
  obtain ⟨hl, hcap, hroom, hsm, hnz, hb, hat⟩ := hs
  cases a with
  | none =>
    obtain rfl := hnz rfl
    obtain rfl : n = 0 := by omega
    obtain rfl : zs = [] := List.eq_nil_of_length_eq_zero hl
    rw [run_convert_bytes_string w 30 9 5 none 0 0 Tryd.underlying30 Tryd.underlying5 Tryd.underlying9]
    rfl
  | some p =>
    have hlen : (zs.map UInt8.ofNat).length = n := by simp [hl]
    have := run_convert_bytes_back (P := Tryd.prog) w 30 9 5 p c (zs.map UInt8.ofNat) Tryd.underlying30 Tryd.underlying5 Tryd.underlying9 (fun j hj => by
      rw [hlen] at hj
      rcases hat with h0 | ⟨b, off, hp, _, hcell⟩
      · omega
      · injection hp with hp
        subst hp
        have ea : (⟨b, off, none⟩ : Addr).add j = ⟨b, off + j, none⟩ := by
          unfold Addr.add
          split
          · subst_vars; rfl
          · rfl
        have hbj := hb j
        have e2 : zs[j]'(by omega) = zs.getD j 0 := by simp [List.getD_eq_getElem?_getD, show j < zs.length from by omega]
        rw [ea, hcell j hj, List.getElem_map, e2]
        generalize zs.getD j 0 = q at hbj
        have e3 : (UInt8.ofNat q).toNat = q := by rw [UInt8.toNat_ofNat']; omega
        rw [e3])
    rw [hlen] at this
    exact this
theorem strOf_inj {zs ys : List Nat} (hz : ∀ i, zs.getD i 0 < 256) (hy : ∀ i, ys.getD i 0 < 256) (h : strOf zs = strOf ys) : zs = ys := by
  have h1 : zs.map UInt8.ofNat = ys.map UInt8.ofNat := by
    unfold strOf at h
    injection h with h
    simpa using congrArg Array.toList h
  have hl : zs.length = ys.length := by simpa using congrArg List.length h1
  apply List.ext_getElem hl
  intro i h2 h3
  have h4 : (zs.map UInt8.ofNat)[i]'(by simpa using h2) = (ys.map UInt8.ofNat)[i]'(by simpa using h3) := by simp only [h1]
  rw [List.getElem_map, List.getElem_map] at h4
  have a1 := hz i
  have a2 := hy i
  simp [List.getD_eq_getElem?_getD, h2] at a1
  simp [List.getD_eq_getElem?_getD, h3] at a2
  have h5 := congrArg UInt8.toNat h4
  simpa [UInt8.toNat_ofNat', Nat.mod_eq_of_lt a1, Nat.mod_eq_of_lt a2] using h5
end Go.Proofs.YtlgfbcfogcmdbaaDoor
namespace Go.Proofs.YtlgfbcfogcmdbaaDoor
open Go.RowKit
/-- A number's four bytes, the lowest first. -/
def le4 (x : Nat) : List Nat := [x % 256, x / 256 % 256, x / 65536 % 256, x / 16777216 % 256]
def rev4 (x : Nat) : Nat := x / 16777216 + x / 65536 % 256 * 256 + x / 256 % 256 * 65536 + x % 256 * 16777216
theorem rev4_lt (x : Nat) (h : x < 4294967296) : rev4 x < 4294967296 := by unfold rev4; omega
theorem rev4_E (x : Nat) (h : x < 4294967296) : bytesE (rev4 x) 4 = 0 := by
  unfold bytesE
  rw [if_neg (by omega), if_pos]
  have := rev4_lt x h
  show rev4 x / 4294967296 = 0
  omega
theorem rev4_bytes (x : Nat) (h : x < 4294967296) : bytesV (rev4 x) 4 = le4 x := by
  unfold bytesV
  rw [if_pos (rev4_E x h)]
  show [rev4 x / 16777216 % 256, rev4 x / 65536 % 256, rev4 x / 256 % 256, rev4 x / 1 % 256] = le4 x
  unfold le4 rev4
  obtain ⟨a, b, c, d, ha, hb, hc, hd, rfl⟩ : ∃ a b c d, a < 256 ∧ b < 256 ∧ c < 256 ∧ d < 256 ∧ x = a + b * 256 + c * 65536 + d * 16777216 :=
    ⟨x % 256, x / 256 % 256, x / 65536 % 256, x / 16777216, by omega, by omega, by omega, by omega, by omega⟩
  have e0 : (a + b * 256 + c * 65536 + d * 16777216) % 256 = a := by omega
  have e1 : (a + b * 256 + c * 65536 + d * 16777216) / 256 % 256 = b := by omega
  have e2 : (a + b * 256 + c * 65536 + d * 16777216) / 65536 % 256 = c := by omega
  have e3 : (a + b * 256 + c * 65536 + d * 16777216) / 16777216 = d := by omega
  rw [e0, e1, e2, e3]
  clear e0 e1 e2 e3 h
  simp only [List.cons.injEq, and_true]
  refine ⟨?_, ?_, ?_, ?_⟩ <;> omega
theorem mask_ff (x : Nat) : x &&& 16711935 = x % 256 + x / 65536 % 256 * 65536 := by
  have h1 : (x &&& 16711935) % 65536 = (x % 65536) &&& (16711935 % 65536) := Nat.and_mod_two_pow (n := 16)
  have h2 : (x &&& 16711935) / 65536 = (x / 65536) &&& (16711935 / 65536) := Nat.and_div_two_pow (n := 16)
  have h3 : (x % 65536) &&& 255 = x % 65536 % 256 := Nat.and_two_pow_sub_one_eq_mod _ 8
  have h4 : (x / 65536) &&& 255 = x / 65536 % 256 := Nat.and_two_pow_sub_one_eq_mod _ 8
  rw [show 16711935 % 65536 = 255 from rfl, h3] at h1
  rw [show 16711935 / 65536 = 255 from rfl, h4] at h2
  omega
theorem or_mid (A B : Nat) (hA1 : A % 65536 < 256) (hA2 : A / 65536 < 256) (hB1 : B % 65536 % 256 = 0) (hB2 : B / 65536 % 256 = 0) : A ||| B = A + B := by
  have h1 : (A ||| B) % 65536 = (A % 65536) ||| (B % 65536) := Nat.or_mod_two_pow (n := 16)
  have h2 : (A ||| B) / 65536 = (A / 65536) ||| (B / 65536) := Nat.or_div_two_pow (n := 16)
  rw [Nat.or_comm (A % 65536), nat_join 8 _ _ hB1 hA1] at h1
  rw [Nat.or_comm (A / 65536), nat_join 8 _ _ hB2 hA2] at h2
  omega
theorem rev_eq (x : Nat) (h : x < 4294967296) :
    bits .or .u32 (bits .or .u32 (bits .and .u32 ((x : Int) / 256) 16711935) (bits .and .u32 (x : Int) 16711935 * 256 % 4294967296) / 65536)
      (bits .or .u32 (bits .and .u32 ((x : Int) / 256) 16711935) (bits .and .u32 (x : Int) 16711935 * 256 % 4294967296) * 65536 % 4294967296) = ((rev4 x : Nat) : Int) := by
  have m1 := u32_and_nat (x / 256) 16711935 (by omega) (by omega)
  have m2 := u32_and_nat x 16711935 h (by omega)
  rw [mask_ff] at m1 m2
  rw [show ((x / 256 : Nat) : Int) = (x : Int) / 256 from by omega] at m1
  rw [show ((16711935 : Nat) : Int) = 16711935 from rfl] at m1 m2
  rw [m1, m2]
  clear m1 m2
  obtain ⟨a, b, c, d, ha, hb, hc, hd, rfl⟩ : ∃ a b c d, a < 256 ∧ b < 256 ∧ c < 256 ∧ d < 256 ∧ x = a + b * 256 + c * 65536 + d * 16777216 :=
    ⟨x % 256, x / 256 % 256, x / 65536 % 256, x / 16777216, by omega, by omega, by omega, by omega, by omega⟩
  clear h
  rw [show (a + b * 256 + c * 65536 + d * 16777216) / 256 % 256 + (a + b * 256 + c * 65536 + d * 16777216) / 256 / 65536 % 256 * 65536 = b + d * 65536 from by omega,
    show (a + b * 256 + c * 65536 + d * 16777216) % 256 + (a + b * 256 + c * 65536 + d * 16777216) / 65536 % 256 * 65536 = a + c * 65536 from by omega,
    show ((a + c * 65536 : Nat) : Int) * 256 % 4294967296 = ((a * 256 + c * 16777216 : Nat) : Int) from by omega,
    u32_or_nat _ _ (by omega) (by omega), or_mid _ _ (by omega) (by omega) (by omega) (by omega),
    show ((b + d * 65536 + (a * 256 + c * 16777216) : Nat) : Int) / 65536 = ((d + c * 256 : Nat) : Int) from by omega,
    show ((b + d * 65536 + (a * 256 + c * 16777216) : Nat) : Int) * 65536 % 4294967296 = (((b + a * 256) * 65536 : Nat) : Int) from by omega,
    u32_or_nat _ _ (by omega) (by omega), Nat.or_comm, nat_join 16 _ _ (by omega) (by omega)]
  have e : rev4 (a + b * 256 + c * 65536 + d * 16777216) = (b + a * 256) * 65536 + (d + c * 256) := by
    unfold rev4
    have e0 : (a + b * 256 + c * 65536 + d * 16777216) % 256 = a := by omega
    have e1 : (a + b * 256 + c * 65536 + d * 16777216) / 256 % 256 = b := by omega
    have e2 : (a + b * 256 + c * 65536 + d * 16777216) / 65536 % 256 = c := by omega
    have e3 : (a + b * 256 + c * 65536 + d * 16777216) / 16777216 = d := by omega
    rw [e0, e1, e2, e3]
    clear e0 e1 e2 e3
    omega
  rw [e]
set_option maxHeartbeats 400000 in
theorem rev_any (x : Nat) (w : World) (h : x < 4294967296) :
    Calls Tryd.prog 31 #[.int .u32 (x : Nat)] w fun e w' => e = .returned (.int .u32 (rev4 x : Nat)) ∧ w' = w := by
  have HR := (show Hid _ from rev_eq x h)
  go_enter Tryd.func31, Tryd.ntmps31
  go_wp2
  go_ret
  exact ⟨ret_int HR.out, rfl⟩
/-- What Stamp answers. -/
def blank (zs : List Nat) : List Nat := lay zs 8 [0, 0, 0, 0]
def stampV (zs : List Nat) : List Nat := if zs.length < 12 then [] else lay (blank zs) 8 (le4 (crc (blank zs)))
def stampE (n : Nat) : Nat := if n < 12 then 3 else 0
theorem blank_len (zs : List Nat) (h : 12 ≤ zs.length) : (blank zs).length = zs.length := lay_len zs 8 _ (by simpa using h)
theorem stampV_len (zs : List Nat) (h : 12 ≤ zs.length) : (stampV zs).length = zs.length := by
  unfold stampV
  rw [if_neg (by omega), lay_len _ 8 _ (by rw [blank_len zs h]; simpa [le4] using h), blank_len zs h]
theorem set_blank (zs : List Nat) (h : 12 ≤ zs.length) : setE zs.length 8 0 4 = 0 ∧ setV zs 8 0 4 = blank zs := by
  have h1 : nspanE zs.length 8 4 = 0 := by unfold nspanE spanE; rw [if_neg (by omega), if_neg (by omega), if_neg (by omega)]
  have h2 : bytesE 0 4 = 0 := by decide
  have h3 : setE zs.length 8 0 4 = 0 := by unfold setE; rw [if_pos h1]; exact h2
  refine ⟨h3, ?_⟩
  unfold setV
  rw [if_pos h3]
  rfl
theorem set_sum (zs : List Nat) (h : 12 ≤ zs.length) (x : Nat) (hx : x < 4294967296) : setE zs.length 8 (rev4 x) 4 = 0 ∧ setV zs 8 (rev4 x) 4 = lay zs 8 (le4 x) := by
  have h1 : nspanE zs.length 8 4 = 0 := by unfold nspanE spanE; rw [if_neg (by omega), if_neg (by omega), if_neg (by omega)]
  have h2 := rev4_E x hx
  have h3 : setE zs.length 8 (rev4 x) 4 = 0 := by unfold setE; rw [if_pos h1]; exact h2
  refine ⟨h3, ?_⟩
  unfold setV
  rw [if_pos h3, rev4_bytes x hx]
  rfl
set_option maxHeartbeats 1000000 in
theorem stamp_any (a : Option Addr) (n c : Nat) (zs : List Nat) (w : World) (hs : Sl w a n c zs) (hn : n ≤ 140737488351232) :
    Calls Tryd.prog 14 #[.slice a n c] w fun e w' => ∃ a' c', e = .returned (.tuple #[.slice a' (stampV zs).length c', .int .i64 (stampE n : Nat)]) ∧ OwnB w' w.heap.size a' (stampV zs).length c' (stampV zs) ∧ Below w.heap.size w w' := by
  have hl := hs.len
  by_cases h12 : n < 12
  · have HE : Hid (stampE n = 3) := by show _ = _; unfold stampE; rw [if_pos h12]
    have HV : Hid (stampV zs = []) := by show _ = _; unfold stampV; rw [if_pos (by omega)]
    go_enter Tryd.func14, Tryd.ntmps14
    go_wp2
    go_ret2
    rw [HE.out, HV.out]
    exact ⟨none, 0, rfl, OwnB.nil _ _, Below.refl _ _⟩
  · have HE : Hid (stampE n = 0) := by show _ = _; unfold stampE; rw [if_neg h12]
    have HV : Hid (stampV zs = lay (blank zs) 8 (le4 (crc (blank zs)))) := by show _ = _; unfold stampV; rw [if_neg (by omega)]
    have hbl : (blank zs).length = n := by rw [blank_len zs (by omega), hl]
    have HS := set_blank zs (by omega)
    have hx := crc_lt (blank zs)
    have HT := set_sum (blank zs) (by omega) (crc (blank zs)) hx
    have hrl := rev4_lt _ hx
    have HL : Hid ((stampV zs).length = n) := by show _ = _; rw [stampV_len zs (by omega), hl]
    rw [hl] at HS
    rw [hbl] at HT
    have HS1 := (show Hid _ from HS.1)
    have HS2 := (show Hid _ from HS.2)
    have HT1 := (show Hid _ from HT.1)
    have HT2 := (show Hid _ from HT.2)
    have HB := (show Hid _ from hbl)
    clear HS HT hbl
    go_enter Tryd.func14, Tryd.ntmps14
    go_wp2_with fail
    refine (set_any _ _ _ zs 8 0 4 _ hs hn (by omega)).mono ?_
    rintro e w1 ⟨a1, c1, rfl, ho1, hb1⟩
    rw [HS1.out, HS2.out, HB.out]
    rw [HS2.out, HB.out] at ho1
    generalize blank zs = bz at *
    go_wp2_with fail
    refine (crc_any _ _ _ bz _ (ho1.sl (by omega))).mono ?_
    rintro e w2 ⟨rfl, hw2⟩
    subst hw2
    go_wp2_with fail
    refine (rev_any (crc bz) _ hx).mono ?_
    rintro e w3 ⟨rfl, hw3⟩
    subst hw3
    generalize rev4 (crc bz) = rv at *
    go_wp2_with fail
    refine (set_any _ _ _ bz 8 rv 4 _ (ho1.sl (by omega)) hn (by omega)).mono ?_
    rintro e w4 ⟨a4, c4, rfl, ho4, hb4⟩
    rw [HT1.out, HT2.out, ← HV.out, HL.out]
    rw [HT2.out, ← HV.out, HL.out] at ho4
    go_wp2
    go_ret2
    rw [HL.out, HE.out]
    exact ⟨a4, c4, rfl, ho4.base hb1.size, hb1.trans (hb4.mono hb1.size)⟩
end Go.Proofs.YtlgfbcfogcmdbaaDoor
namespace Go.Proofs.YtlgfbcfogcmdbaaDoor
open Go.RowKit
def sumS (S : Nat → Nat) : Nat → Nat
  | 0 => 0
  | k + 1 => sumS S k + S k
def badE (E : Nat → Int) : Nat → Int
  | 0 => 0
  | k + 1 => if badE E k ≠ 0 then badE E k else E k
def mbE (E : Nat → Int) (S : Nat → Nat) (n : Nat) : Int := if n = 0 then 2 else if 32 < n then 6 else if badE E n ≠ 0 then badE E n else if 1480 < 12 + sumS S n then 6 else 0
theorem badE_le {E : Nat → Int} {k : Nat} (h : badE E k ≠ 0) : ∀ d, badE E (k + d) = badE E k
  | 0 => rfl
  | d + 1 => by
    rw [← Nat.add_assoc, badE, badE_le h d, if_pos h]
theorem badE_ok {E : Nat → Int} : ∀ {k : Nat}, badE E k = 0 → ∀ j, j < k → E j = 0
  | 0, _, j, hj => (by omega)
  | k + 1, h, j, hj => by
    rw [badE] at h
    split at h
    · rename_i h2; exact absurd h h2
    · rename_i h2
      have h3 : badE E k = 0 := by simpa using h2
      rcases Nat.lt_or_ge j k with e | e
      · exact badE_ok h3 j e
      · have : j = k := by omega
        rw [this]; exact h
theorem sumS_le {S : Nat → Nat} {B : Nat} : ∀ n, (∀ j, j < n → S j ≤ B) → sumS S n ≤ n * B
  | 0, _ => by simp [sumS]
  | n + 1, h => by
    have h1 := sumS_le n (fun j hj => h j (by omega))
    have h2 := h n (by omega)
    rw [sumS, Nat.add_mul]
    omega
/-- A row of chunks, and what is known of each: what Check answers, its value, its size. -/
structure CkR (w : World) (a : Option Addr) (n c : Nat) (cf : Nat → List Value) (E : Nat → Int) (V : Nat → Value) (S : Nat → Nat) : Prop where
  cap : n ≤ c
  small : n ≤ 281474976710656
  len : ∀ j, j < n → (cf j).length = 14
  one : ∀ j, j < n → ∀ u ∈ cf j, u.oneCell' = true
  at_ : n = 0 ∨ ∃ b off, a = some ⟨b, off, none⟩ ∧ b < w.heap.size ∧ ∀ j, j < n → w.rangeAt b (off + j * 14) (cf j)
  ck : ∀ j, j < n → ∀ W, Below w.heap.size w W → Calls Tryd.prog 24 #[.agg (cf j).toArray] W fun e w' => e = .returned (.int .i64 (E j)) ∧ Below W.heap.size W w'
  vl : ∀ j, j < n → E j = 0 → ∀ W, Below w.heap.size w W → Calls Tryd.prog 26 #[.agg (cf j).toArray] W fun e w' => e = .returned (V j) ∧ Below W.heap.size W w'
  sp : ∀ j, j < n → E j = 0 → ∀ W, Below w.heap.size w W → Calls Tryd.prog 25 #[V j] W fun e w' => e = .returned (.int .i64 (S j : Nat)) ∧ Below W.heap.size W w'
  sb : ∀ j, j < n → E j = 0 → S j ≤ 1468
theorem rangeAt_below {w W : World} {b o : Nat} {cs : List Value} (h : w.rangeAt b o cs) (hb : Below w.heap.size w W) (hl : b < w.heap.size) : W.rangeAt b o cs := fun i u hu => (hb.cell (p := ⟨b, o + i, none⟩) hl).trans (h i u hu)
theorem zero_ch14 (w : World) : (zeroValue 32).run Tryd.prog w = .ok (.agg #[.int .u8 0, .int .u8 0, .int .u32 0, .int .u16 0, .int .u16 0, .int .u32 0, .int .u32 0, .int .u32 0, .int .u16 0, .int .u16 0, .slice none 0 0, .slice none 0 0, .slice none 0 0, .slice none 0 0]) w := by kernel_rfl
/-- A chunk laid into a variable of its own. -/
theorem laid14 (w W : World) (cs : List Value) (hl : cs.length = 14) (hW : W = (w.alloc (.cells #[.int .u8 0, .int .u8 0, .int .u32 0, .int .u16 0, .int .u16 0, .int .u32 0, .int .u32 0, .int .u32 0, .int .u16 0, .int .u16 0, .slice none 0 0, .slice none 0 0, .slice none 0 0, .slice none 0 0] 32)).setCells w.heap.size 0 cs) : (w.alloc (.cells #[.int .u8 0, .int .u8 0, .int .u32 0, .int .u16 0, .int .u16 0, .int .u32 0, .int .u32 0, .int .u32 0, .int .u16 0, .int .u16 0, .slice none 0 0, .slice none 0 0, .slice none 0 0, .slice none 0 0] 32)).there w.heap.size 0 cs.toArray.size ∧ Stc W w.heap.size cs ∧ Below w.heap.size w W := by
  have s := Stc.new w [.int .u8 0, .int .u8 0, .int .u32 0, .int .u16 0, .int .u16 0, .int .u32 0, .int .u32 0, .int .u32 0, .int .u16 0, .int .u16 0, .slice none 0 0, .slice none 0 0, .slice none 0 0, .slice none 0 0] 32 _ rfl
  have hb : Below w.heap.size w (w.alloc (.cells #[.int .u8 0, .int .u8 0, .int .u32 0, .int .u16 0, .int .u16 0, .int .u32 0, .int .u32 0, .int .u32 0, .int .u16 0, .int .u16 0, .slice none 0 0, .slice none 0 0, .slice none 0 0, .slice none 0 0] 32)) := (Below.refl _ _).alloc (Nat.le_refl _) _
  refine ⟨?_, ?_, ?_⟩
  · have e : cs.toArray.size = 14 := by simp [hl]
    rw [e]
    exact s.there
  · rw [hW]; exact s.put cs (by rw [hl]; rfl)
  · rw [hW]; exact hb.trans ((fr_setCellsX w.heap.size cs 0 _).below _ hb.size (fun k hk => by rw [hk]; exact Nat.le_refl _))
set_option linter.unusedVariables false in
set_option maxRecDepth 100000 in
set_option maxHeartbeats 4000000 in
theorem maybe_any {w : World} {a : Option Addr} {n c : Nat} {cf : Nat → List Value} {E : Nat → Int} {V : Nat → Value} {S : Nat → Nat} (h : CkR w a n c cf E V S) :
    Calls Tryd.prog 9 #[.slice a n c] w fun e w' => e = .returned (.int .i64 (mbE E S n)) ∧ Below w.heap.size w w' := by
  have HH := (show Hid _ from h)
  have hcap := h.cap
  have hsm := h.small
  clear h
  by_cases h0 : n = 0
  · have HM : Hid (mbE E S n = 2) := by show _ = _; unfold mbE; rw [if_pos h0]
    subst h0
    go_enter Tryd.func9, Tryd.ntmps9
    go_wp2
    go_ret
    exact ⟨by rw [HM.out]; rfl, Below.refl _ _⟩
  · have g0 : ¬ (n : Int) = 0 := by omega
    by_cases h32 : 32 < n
    · have HM : Hid (mbE E S n = 6) := by show _ = _; unfold mbE; rw [if_neg h0, if_pos h32]
      have g32 : (32 : Int) < (n : Int) := by omega
      go_enter Tryd.func9, Tryd.ntmps9
      go_wp2
      go_ret
      exact ⟨by rw [HM.out]; rfl, Below.refl _ _⟩
    · have g32 : ¬ (32 : Int) < (n : Int) := by omega
      obtain ⟨b, off, rfl, hbl, hrow⟩ : ∃ b off, a = some ⟨b, off, none⟩ ∧ b < w.heap.size ∧ ∀ j, j < n → w.rangeAt b (off + j * 14) (cf j) := by
        rcases HH.out.at_ with e | e
        · exact absurd e h0
        · exact e
      have HROW := (show Hid _ from hrow)
      have HB0 : Hid (Below w.heap.size w w) := Below.refl _ _
      clear hrow
      go_enter Tryd.func9, Tryd.ntmps9
      go_wp2
      go_loopw [3, 15] (fun u3 u15 wr => ∃ i : Nat, i ≤ n ∧ u15 = .int .i64 (i : Nat) ∧ u3 = .int .i64 ((12 + sumS S i : Nat) : Int) ∧ badE E i = 0 ∧ Below w.heap.size w wr) (fun _ u15 _ => n - (intOf u15).toNat)
      case atStart => exact ⟨0, by omega, rfl, rfl, rfl, HB0.out⟩
      case round =>
        obtain ⟨i, hin, rfl, rfl, hbad, hbw⟩ := hrel
        have hsi := sumS_le (S := S) (B := 1468) i (fun j hj => HH.out.sb j (by omega) (badE_ok hbad j hj))
        have HBW := (show Hid _ from hbw)
        have HBAD := (show Hid _ from hbad)
        clear hbw hbad HB0
        by_cases hlt : i < n
        · have hlt1 : (i : Int) < (n : Int) := by omega
          have hrg := rangeAt_below (HROW.out i hlt) HBW.out hbl
          obtain ⟨cs, hcs⟩ : ∃ cs, cs = cf i := ⟨_, rfl⟩
          have hcl : cs.length = 14 := by rw [hcs]; exact HH.out.len i hlt
          have hone : ∀ u ∈ cs, u.oneCell' = true := by rw [hcs]; exact HH.out.one i hlt
          rw [← hcs] at hrg
          obtain ⟨W2, hW2⟩ : ∃ W2, W2 = (wr.alloc (.cells #[.int .u8 0, .int .u8 0, .int .u32 0, .int .u16 0, .int .u16 0, .int .u32 0, .int .u32 0, .int .u32 0, .int .u16 0, .int .u16 0, .slice none 0 0, .slice none 0 0, .slice none 0 0, .slice none 0 0] 32)).setCells wr.heap.size 0 cs := ⟨_, rfl⟩
          obtain ⟨hth, hst2, hb2⟩ := laid14 wr W2 cs hcl hW2
          have hrg2 := hst2.range
          have hi14 := ch_size14 cs hcl
          have hi14' : (Tryd.prog.info? 32).map (·.size) = some cs.toArray.size := by rw [List.size_toArray]; exact hi14
          have HCK := (show Hid _ from HH.out.ck i hlt W2 (HBW.out.trans (hb2.mono HBW.out.size)))
          rw [← hcs] at HCK
          have HS2 : Hid (Stc W2 wr.heap.size cs ∧ Below w.heap.size w W2) := ⟨hst2, HBW.out.trans (hb2.mono HBW.out.size)⟩
          have hz := zero_ch14 wr
          have HCS := (show Hid _ from hcs)
          clear hst2 hb2 hcs
          go_wp2_with (first | (refine wpList_load_mid rfl 32 _ rfl b (off + i * 14) rfl cs _ hrg Tryd.underlying32 rfl hi14 ?_) | (refine wpList_store_mid rfl 32 _ _ rfl wr.heap.size 0 cs.toArray rfl rfl hth hi14' (all_oneCell_toArray hone) ?_; change wpList _ _ _ _ _ ((wr.alloc (.cells #[.int .u8 0, .int .u8 0, .int .u32 0, .int .u16 0, .int .u16 0, .int .u32 0, .int .u32 0, .int .u32 0, .int .u16 0, .int .u16 0, .slice none 0 0, .slice none 0 0, .slice none 0 0, .slice none 0 0] 32)).setCells wr.heap.size 0 cs); rw [← hW2]; clear hW2) | (refine wpList_load_mid rfl 32 _ rfl wr.heap.size 0 rfl cs _ hrg2 Tryd.underlying32 rfl hi14 ?_))
          refine Calls.mono HCK.out ?_
          clear HCK hrg hrg2 hz hth
          rintro e w3 ⟨rfl, b3⟩
          have hst3 := HS2.out.1.below b3
          have hb3 : Below w.heap.size w w3 := HS2.out.2.trans (b3.mono HS2.out.2.size)
          have hrg3 := hst3.range
          by_cases hE : E i = 0
          · have HVL := (show Hid _ from HH.out.vl i hlt hE w3 hb3)
            rw [← HCS.out] at HVL
            have HSP := (show Hid _ from fun W hW => HH.out.sp i hlt hE W hW)
            have hSb := HH.out.sb i hlt hE
            have HBAD2 : Hid (badE E (i + 1) = 0) := by show _ = _; rw [badE, if_neg (by rw [HBAD.out]; decide)]; exact hE
            have HB3 := (show Hid _ from hb3)
            have gE : E i = 0 := hE
            have HSS : Hid (sumS S (i + 1) = sumS S i + S i) := rfl
            clear hst3 hb3 b3 hE HS2
            generalize V i = vi at *
            generalize S i = si at *
            generalize hsg : sumS S i = sg at *
            have HSG := (show Hid _ from hsg)
            clear hsg
            go_wp2_with (first | (refine wpList_load_mid rfl 32 _ rfl wr.heap.size 0 rfl cs _ hrg3 Tryd.underlying32 rfl hi14 ?_) | fail)
            refine Calls.mono HVL.out ?_
            clear HVL hrg3
            rintro e w4 ⟨rfl, b4⟩
            have HB4 : Hid (Below w.heap.size w w4) := HB3.out.trans (b4.mono HB3.out.size)
            clear b4
            go_wp2_with fail
            refine Calls.mono (HSP.out w4 HB4.out) ?_
            rintro e w5 ⟨rfl, b5⟩
            have HB5 : Hid (Below w.heap.size w w5) := HB4.out.trans (b5.mono HB4.out.size)
            clear b5 HSP gE
            go_wp2
            go_roundw
            case rel => exact ⟨i + 1, by omega, by go_num, congrArg (Value.int .i64) (by have := HSS.out; omega), HBAD2.out, HB5.out⟩
            case measure => simp [intOf]; omega
          · have HM : Hid (mbE E S n = E i) := by
              show _ = _
              have h1 : badE E (i + 1) = E i := by rw [badE, if_neg (by rw [HBAD.out]; decide)]
              have h2 := badE_le (E := E) (k := i + 1) (by rw [h1]; exact hE) (n - (i + 1))
              rw [show i + 1 + (n - (i + 1)) = n by omega, h1] at h2
              unfold mbE
              rw [if_neg h0, if_neg h32, h2, if_pos hE]
            have HB3 := (show Hid _ from hb3)
            clear hst3 hb3 b3 hrg3 HS2
            go_wp2
            go_ret
            exact ⟨by rw [HM.out]; rfl, HB3.out⟩
        · have hlt1 : ¬ (i : Int) < (n : Int) := by omega
          have hien : i = n := by omega
          subst hien
          by_cases hz : 1480 < 12 + sumS S i
          · have HM : Hid (mbE E S i = 6) := by show _ = _; unfold mbE; rw [if_neg h0, if_neg h32, if_neg (by rw [HBAD.out]; decide), if_pos hz]
            have gz : (1480 : Int) < ((12 + sumS S i : Nat) : Int) := by omega
            generalize 12 + sumS S i = sz at *
            go_wp2
            go_ret
            exact ⟨by rw [HM.out]; rfl, HBW.out⟩
          · have HM : Hid (mbE E S i = 0) := by show _ = _; unfold mbE; rw [if_neg h0, if_neg h32, if_neg (by rw [HBAD.out]; decide), if_neg hz]
            have gz : ¬ (1480 : Int) < ((12 + sumS S i : Nat) : Int) := by omega
            generalize 12 + sumS S i = sz at *
            go_wp2
            go_ret
            exact ⟨by rw [HM.out]; rfl, HBW.out⟩
end Go.Proofs.YtlgfbcfogcmdbaaDoor
namespace Go.Proofs.YtlgfbcfogcmdbaaDoor
open Go.RowKit
def hdB (f t g : Nat) : List Nat := ((bytesB f 2 ++ bytesB t 2) ++ bytesB g 4) ++ bytesB 0 4
def catB (B : Nat → List Nat) : Nat → List Nat
  | 0 => []
  | k + 1 => catB B k ++ B k
theorem hdB_len (f t g : Nat) : (hdB f t g).length = 12 := by
  unfold hdB
  simp [bytesB_len]
theorem catB_len {B : Nat → List Nat} {S : Nat → Nat} : ∀ n, (∀ j, j < n → (B j).length = S j) → (catB B n).length = sumS S n
  | 0, _ => rfl
  | n + 1, h => by
    rw [catB, List.length_append, catB_len n (fun j hj => h j (by omega)), h n (by omega), sumS]
def putV (f t g : Nat) (E : Nat → Int) (S : Nat → Nat) (B : Nat → List Nat) (n : Nat) : List Nat := if mbE E S n = 0 then stampV (hdB f t g ++ catB B n) else []
theorem mbE_ok {E : Nat → Int} {S : Nat → Nat} {n : Nat} (h : mbE E S n = 0) : 1 ≤ n ∧ n ≤ 32 ∧ badE E n = 0 ∧ 12 + sumS S n ≤ 1480 := by
  unfold mbE at h
  split at h
  · cases h
  · split at h
    · cases h
    · split at h
      · rename_i h3; exact absurd h h3
      · rename_i h3
        split at h
        · cases h
        · exact ⟨by omega, by omega, by simpa using h3, by omega⟩
/-- What writes each chunk's bytes. -/
structure CkB (w : World) (n : Nat) (cf : Nat → List Value) (E : Nat → Int) (S : Nat → Nat) (B : Nat → List Nat) : Prop where
  ch : ∀ j, j < n → E j = 0 → ∀ W q zs, WrW W q (fun _ => False) zs → w.heap.size ≤ q → Below w.heap.size w W → zs.length % 4 = 0 → zs.length ≤ 100000 → Calls Tryd.prog 13 #[.pointer (some ⟨q, 0, none⟩), .agg (cf j).toArray] W (WrP W q (fun _ => False) (zs ++ B j))
  len : ∀ j, j < n → E j = 0 → (B j).length = S j
  four : ∀ j, j < n → E j = 0 → S j % 4 = 0
theorem sumS_four {S : Nat → Nat} : ∀ n, (∀ j, j < n → S j % 4 = 0) → sumS S n % 4 = 0
  | 0, _ => rfl
  | n + 1, h => by
    have h1 := sumS_four n (fun j hj => h j (by omega))
    have h2 := h n (by omega)
    rw [sumS]
    omega
theorem sumS_mono {S : Nat → Nat} {i n : Nat} (h : i ≤ n) : sumS S i ≤ sumS S n := by
  induction n with
  | zero => have : i = 0 := by omega
            subst this; exact Nat.le_refl _
  | succ n ih =>
    rcases Nat.lt_or_ge i (n + 1) with e | e
    · have := ih (by omega); rw [sumS]; omega
    · have : i = n + 1 := by omega
      subst this; exact Nat.le_refl _
structure PutR (w : World) (ys : List Nat) (er : Int) (e : Ending) (w' : World) : Prop where
  ex : ∃ a c, e = .returned (.tuple #[.slice a ys.length c, .int .i64 er]) ∧ OwnB w' w.heap.size a ys.length c ys
  bel : Below w.heap.size w w'
set_option linter.unusedVariables false in
set_option maxRecDepth 100000 in
set_option maxHeartbeats 8000000 in
theorem put_any {w : World} {a : Option Addr} {n c : Nat} {cf : Nat → List Value} {E : Nat → Int} {V : Nat → Value} {S : Nat → Nat} {B : Nat → List Nat} (h : CkR w a n c cf E V S) (hB : CkB w n cf E S B) (f t g : Nat) (hf : f < 65536) (ht : t < 65536) (hg : g < 4294967296) :
    Calls Tryd.prog 4 #[.agg #[.int .u16 (f : Nat), .int .u16 (t : Nat), .int .u32 (g : Nat)], .slice a n c] w (PutR w (putV f t g E S B n) (mbE E S n)) := by
  obtain ⟨W1, hW1⟩ : ∃ W1, W1 = w.alloc (.cells #[.int .u16 (f : Nat), .int .u16 (t : Nat), .int .u32 (g : Nat)] 25) := ⟨_, rfl⟩
  have bb1 : Below w.heap.size w W1 := by rw [hW1]; exact (Below.refl _ _).alloc (Nat.le_refl _) _
  have hst1 := Stc.new w [.int .u16 (f : Nat), .int .u16 (t : Nat), .int .u32 (g : Nat)] 25 W1 hW1
  have hR1 : CkR W1 a n c cf E V S := ⟨h.cap, h.small, h.len, h.one, h.at_.imp id (fun ⟨b, off, e1, e2, e3⟩ => ⟨b, off, e1, Nat.lt_of_lt_of_le e2 bb1.size, fun j hj => rangeAt_below (e3 j hj) bb1 e2⟩), fun j hj W hW => h.ck j hj W (bb1.trans (hW.mono bb1.size)), fun j hj he W hW => h.vl j hj he W (bb1.trans (hW.mono bb1.size)), fun j hj he W hW => h.sp j hj he W (bb1.trans (hW.mono bb1.size)), h.sb⟩
  have HMB := (show Hid _ from maybe_any hR1)
  have HH := (show Hid _ from And.intro h hB)
  have HS1 := (show Hid _ from And.intro hst1 bb1)
  have hcap := h.cap
  have hsm := h.small
  clear h hB hst1 bb1 hR1
  go_enter Tryd.func4, Tryd.ntmps4
  go_wp2_with fail
  rw [← hW1]
  clear hW1
  refine Calls.mono HMB.out ?_
  clear HMB
  rintro e w2 ⟨rfl, b2⟩
  obtain ⟨hst1, bb1⟩ := HS1.out
  have hst2 := hst1.below b2
  have hb2 : Below w.heap.size w w2 := bb1.trans (b2.mono bb1.size)
  by_cases hE : mbE E S n = 0
  · have HOK := (show Hid _ from mbE_ok hE)
    have HPV : Hid (putV f t g E S B n = stampV (hdB f t g ++ catB B n)) := by show _ = _; unfold putV; rw [if_pos hE]
    have gE : mbE E S n = 0 := hE
    obtain ⟨W3, hW3⟩ : ∃ W3, W3 = w2.alloc (.cells #[.slice none 0 0] 45) := ⟨_, rfl⟩
    have b3 : Below w2.heap.size w2 W3 := by rw [hW3]; exact (Below.refl _ _).alloc (Nat.le_refl _) _
    have hw3 := WrW.new w2 W3 45 hW3
    have hst3 := hst2.below b3
    obtain ⟨q, hq⟩ : ∃ q, q = w2.heap.size := ⟨_, rfl⟩
    rw [← hq] at hw3
    have hqw : w.heap.size + 1 ≤ q := by have := hst2.lt; omega
    have k0 := hst2.cell 0 _ rfl
    have hlw := hst2.lt
    have hlne : ¬ w.heap.size = w2.heap.size := by omega
    have HN := (show Hid _ from whalf_any hw3 f hf (by simp))
    have HS3 : Hid (Stc W3 w.heap.size [.int .u16 (f : Nat), .int .u16 (t : Nat), .int .u32 (g : Nat)] ∧ Below w.heap.size w W3) := ⟨hst3, hb2.trans (b3.mono hb2.size)⟩
    clear hE hst1 bb1 HS1 b2 hst2 hb2 b3 hw3 hst3
    go_wp2_with fail
    rw [← hW3, ← hq]
    clear hW3 hq k0 hlw hlne
    refine Calls.mono HN.out ?_
    clear HN
    rintro e w4 hP
    have he := hP.out
    subst he
    have hst4 := HS3.out.1.fr hP.fr (fun e => by omega)
    have hb4 : Below w.heap.size w w4 := HS3.out.2.trans (hP.fr.below _ HS3.out.2.size (fun k hk => by omega))
    have k1 := hst4.cell 1 _ rfl
    have HN := (show Hid _ from whalf_any hP.wr t ht (by simp [bytesB_len]))
    have HS4 := (show Hid _ from And.intro hst4 hb4)
    clear HS3 hst4 hb4 hP
    go_wp2_with fail
    refine Calls.mono HN.out ?_
    clear HN k1
    rintro e w5 hP
    have he := hP.out
    subst he
    have hst5 := HS4.out.1.fr hP.fr (fun e => by omega)
    have hb5 : Below w.heap.size w w5 := HS4.out.2.trans (hP.fr.below _ HS4.out.2.size (fun k hk => by omega))
    have k2 := hst5.cell 2 _ rfl
    have HN := (show Hid _ from wword_any hP.wr g hg (by simp [bytesB_len]))
    have HS5 := (show Hid _ from And.intro hst5 hb5)
    clear HS4 hst5 hb5 hP
    go_wp2_with fail
    refine Calls.mono HN.out ?_
    clear HN k2
    rintro e w6 hP
    have he := hP.out
    subst he
    have hb6 : Below w.heap.size w w6 := HS5.out.2.trans (hP.fr.below _ HS5.out.2.size (fun k hk => by omega))
    have HN := (show Hid _ from wnum_any hP.wr 0 4 (by decide) (by decide) (by decide) (by decide) (by simp [bytesB_len]))
    have HS6 := (show Hid _ from hb6)
    clear HS5 hb6 hP
    go_wp2_with fail
    refine Calls.mono HN.out ?_
    clear HN
    rintro e w7 hP
    have he := hP.out
    subst he
    have HS7 : Hid (WrW w7 q (fun _ => False) (hdB f t g ++ catB B 0) ∧ Below w.heap.size w w7) := ⟨by
      have := hP.wr
      rw [List.nil_append] at this
      show WrW w7 q (fun _ => False) (hdB f t g ++ [])
      rw [List.append_nil]
      exact this, HS6.out.trans (hP.fr.below _ HS6.out.size (fun k hk => by omega))⟩
    obtain ⟨b, off, hab, hbl, hrow⟩ : ∃ b off, a = some ⟨b, off, none⟩ ∧ b < w.heap.size ∧ ∀ j, j < n → w.rangeAt b (off + j * 14) (cf j) := by
      rcases HH.out.1.at_ with e | e
      · have := HOK.out.1; omega
      · exact e
    subst hab
    have HROW := (show Hid _ from hrow)
    clear hrow HS6 hP
    go_wp2
    go_loopw [27] (fun u27 wr => ∃ i : Nat, i ≤ n ∧ u27 = .int .i64 (i : Nat) ∧ WrW wr q (fun _ => False) (hdB f t g ++ catB B i) ∧ Below w.heap.size w wr) (fun u27 _ => n - (intOf u27).toNat)
    case atStart => exact ⟨0, by omega, rfl, HS7.out⟩
    case round =>
      obtain ⟨i, hin, rfl, hw, hbw⟩ := hrel
      have hlen : (hdB f t g ++ catB B i).length = 12 + sumS S i := by rw [List.length_append, hdB_len, catB_len i (fun j hj => HH.out.2.len j (by omega) (badE_ok HOK.out.2.2.1 j (by omega)))]
      have hsle := sumS_mono (S := S) hin
      have hs4 := sumS_four (S := S) i (fun j hj => HH.out.2.four j (by omega) (badE_ok HOK.out.2.2.1 j (by omega)))
      have hmax := HOK.out.2.2.2
      have HW := (show Hid _ from And.intro hw hbw)
      have hrg0 := fun hlt => rangeAt_below (HROW.out i hlt) hbw hbl
      clear HS7 hw hbw
      by_cases hlt : i < n
      · have hlt1 : (i : Int) < (n : Int) := by omega
        have hrg := hrg0 hlt
        obtain ⟨cs, hcs⟩ : ∃ cs, cs = cf i := ⟨_, rfl⟩
        have hcl : cs.length = 14 := by rw [hcs]; exact HH.out.1.len i hlt
        have hone : ∀ u ∈ cs, u.oneCell' = true := by rw [hcs]; exact HH.out.1.one i hlt
        rw [← hcs] at hrg
        obtain ⟨W2, hW2⟩ : ∃ W2, W2 = (wr.alloc (.cells #[.int .u8 0, .int .u8 0, .int .u32 0, .int .u16 0, .int .u16 0, .int .u32 0, .int .u32 0, .int .u32 0, .int .u16 0, .int .u16 0, .slice none 0 0, .slice none 0 0, .slice none 0 0, .slice none 0 0] 32)).setCells wr.heap.size 0 cs := ⟨_, rfl⟩
        obtain ⟨hth, hst2, hb2⟩ := laid14 wr W2 cs hcl hW2
        have hrg2 := hst2.range
        have hi14 := ch_size14 cs hcl
        have hi14' : (Tryd.prog.info? 32).map (·.size) = some cs.toArray.size := by rw [List.size_toArray]; exact hi14
        have hw2 := HW.out.1.below hb2
        have hbw2 : Below w.heap.size w W2 := HW.out.2.trans (hb2.mono HW.out.2.size)
        have HCH := (show Hid _ from HH.out.2.ch i hlt (badE_ok HOK.out.2.2.1 i hlt) W2 q _ hw2 (by omega) hbw2 (by omega) (by omega))
        rw [← hcs] at HCH
        have HB2 := (show Hid _ from hbw2)
        have hz := zero_ch14 wr
        clear hst2 hb2 hcs hw2 hbw2 hrg0
        go_wp2_with (first | (refine wpList_load_mid rfl 32 _ rfl b (off + i * 14) rfl cs _ hrg Tryd.underlying32 rfl hi14 ?_) | (refine wpList_store_mid rfl 32 _ _ rfl wr.heap.size 0 cs.toArray rfl rfl hth hi14' (all_oneCell_toArray hone) ?_; change wpList _ _ _ _ _ ((wr.alloc (.cells #[.int .u8 0, .int .u8 0, .int .u32 0, .int .u16 0, .int .u16 0, .int .u32 0, .int .u32 0, .int .u32 0, .int .u16 0, .int .u16 0, .slice none 0 0, .slice none 0 0, .slice none 0 0, .slice none 0 0] 32)).setCells wr.heap.size 0 cs); rw [← hW2]; clear hW2) | (refine wpList_load_mid rfl 32 _ rfl wr.heap.size 0 rfl cs _ hrg2 Tryd.underlying32 rfl hi14 ?_))
        refine Calls.mono HCH.out ?_
        clear HCH hrg hrg2 hz hth HW
        rintro e w8 hP
        have he := hP.out
        subst he
        have HW8 : Hid (WrW w8 q (fun _ => False) (hdB f t g ++ catB B (i + 1)) ∧ Below w.heap.size w w8) := ⟨by
          have := hP.wr
          rw [List.append_assoc] at this
          exact this, HB2.out.trans (hP.fr.below _ HB2.out.size (fun k hk => by omega))⟩
        clear hP HB2
        go_wp2
        go_roundw
        case rel => exact ⟨i + 1, by omega, by go_num, HW8.out⟩
        case measure => simp [intOf]; omega
      · have hlt1 : ¬ (i : Int) < (n : Int) := by omega
        have hien : i = n := by omega
        subst hien
        obtain ⟨oa, oc, hsq, hoq, _⟩ := HW.out.1.ex
        have k0 := hsq.cell 0 _ rfl
        have HST := (show Hid _ from stamp_any oa _ oc _ wr (hoq.sl (by omega)) (by omega))
        have HBW := (show Hid _ from HW.out.2)
        have hstE : stampE (hdB f t g ++ catB B i).length = 0 := by unfold stampE; rw [if_neg (by omega)]
        rw [hstE] at HST
        have hzl : (hdB f t g ++ catB B i).length ≤ 1480 := by omega
        have HPV2 := HPV
        clear HW hsq hoq hrg0 hlen hsle hs4 hmax hstE HPV hin hlt
        obtain ⟨zz, hzz⟩ : ∃ zz, zz = hdB f t g ++ catB B i := ⟨_, rfl⟩
        rw [← hzz] at k0 HST hzl HPV2
        clear hzz
        obtain ⟨zl, hzl2⟩ : ∃ zl, zl = zz.length := ⟨_, rfl⟩
        rw [← hzl2] at k0 HST hzl
        clear hzl2
        go_wp2_with fail
        refine Calls.mono HST.out ?_
        clear HST
        rintro e w9 ⟨sa, sc, rfl, hso, hsb⟩
        have HF : Hid (PutR w (putV f t g E S B i) 0 (.returned (.tuple #[.slice sa (stampV zz).length sc, .int .i64 0])) w9) := by
          rw [HPV2.out]
          exact ⟨⟨sa, sc, rfl, hso.base (by have := HBW.out.size; omega)⟩, HBW.out.trans (hsb.mono HBW.out.size)⟩
        clear hso hsb HPV2
        obtain ⟨sl, hsl⟩ : ∃ sl, sl = (stampV zz).length := ⟨_, rfl⟩
        rw [← hsl] at HF ⊢
        clear hsl
        go_wp2
        go_ret2
        rw [gE]
        exact HF.out
  · have HF : Hid (PutR w (putV f t g E S B n) (mbE E S n) (.returned (.tuple #[.slice none 0 0, .int .i64 (mbE E S n)])) w2) := by
      have e : putV f t g E S B n = [] := by unfold putV; rw [if_neg hE]
      rw [e]
      exact ⟨⟨none, 0, rfl, OwnB.nil _ _⟩, hb2⟩
    have gE : ¬ mbE E S n = 0 := hE
    clear hE hst1 bb1 HS1 b2 hst2 hb2
    generalize mbE E S n = me at *
    go_wp2
    go_ret2
    exact HF.out
end Go.Proofs.YtlgfbcfogcmdbaaDoor
namespace Go.Proofs.YtlgfbcfogcmdbaaDoor
open Go.RowKit
set_option maxHeartbeats 1000000 in
theorem equal_any (a : Option Addr) (n c : Nat) (zs : List Nat) (a2 : Option Addr) (n2 c2 : Nat) (ys : List Nat) (w : World) (hs : Sl w a n c zs) (hs2 : Sl w a2 n2 c2 ys) :
    Calls Tryd.prog 37 #[.slice a n c, .slice a2 n2 c2] w fun e w' => e = .returned (.bool ((strOf zs).toList == (strOf ys).toList)) ∧ w' = w := by
  have h1 := conv_str hs
  have h2 := conv_str hs2
  clear hs hs2
  go_enter Tryd.func37, Tryd.ntmps37
  go_wp2
  go_ret
  exact ⟨rfl, rfl⟩
/-- What Stamped answers. -/
def stampedB (zs : List Nat) : Bool := if zs.length < 12 then false else (strOf (stampV zs)).toList == (strOf zs).toList
set_option maxHeartbeats 1000000 in
theorem stamped_any (a : Option Addr) (n c : Nat) (zs : List Nat) (w : World) (hs : Sl w a n c zs) (hn : n ≤ 140737488351232) :
    Calls Tryd.prog 22 #[.slice a n c] w fun e w' => e = .returned (.bool (stampedB zs)) ∧ Below w.heap.size w w' := by
  have hl := hs.len
  by_cases h12 : n < 12
  · have HE : Hid (stampE n = 3) := by show _ = _; unfold stampE; rw [if_pos h12]
    have HS : Hid (stampedB zs = false) := by show _ = _; unfold stampedB; rw [if_pos (by omega)]
    go_enter Tryd.func22, Tryd.ntmps22
    go_wp2_with fail
    refine (stamp_any _ _ _ zs _ hs hn).mono ?_
    rintro e w1 ⟨a1, c1, rfl, ho1, hb1⟩
    rw [HE.out]
    go_wp2
    go_ret
    exact ⟨by rw [HS.out]; rfl, hb1⟩
  · have HE : Hid (stampE n = 0) := by show _ = _; unfold stampE; rw [if_neg h12]
    have HS : Hid (stampedB zs = ((strOf (stampV zs)).toList == (strOf zs).toList)) := by show _ = _; unfold stampedB; rw [if_neg (by omega)]
    have hlen : (stampV zs).length = n := by rw [stampV_len zs (by omega), hl]
    go_enter Tryd.func22, Tryd.ntmps22
    go_wp2_with fail
    refine (stamp_any _ _ _ zs _ hs hn).mono ?_
    rintro e w1 ⟨a1, c1, rfl, ho1, hb1⟩
    rw [HE.out, hlen]
    rw [hlen] at ho1
    clear hlen
    go_wp2_with fail
    refine (equal_any _ _ _ (stampV zs) _ _ _ zs _ (ho1.sl (by omega)) (hs.below hb1)).mono ?_
    rintro e w2 ⟨rfl, hw2⟩
    subst hw2
    rw [← HS.out]
    clear HS
    go_wp2
    go_ret
    exact ⟨rfl, hb1⟩
end Go.Proofs.YtlgfbcfogcmdbaaDoor
namespace Go.Proofs.YtlgfbcfogcmdbaaDoor
open Go.RowKit
theorem cb_xor (r s x y k : Nat) : cb (r ^^^ s) (x ^^^ y) k = cb r x k ^^^ cb s y k := by
  unfold cb
  have h1 : (r ^^^ s) / 2 = (r / 2) ^^^ (s / 2) := Nat.xor_div_two
  have h2 : (x ^^^ y) / 2 ^ k = (x / 2 ^ k) ^^^ (y / 2 ^ k) := Nat.xor_div_two_pow
  rw [h1, h2]
  generalize x / 2 ^ k = x'
  generalize y / 2 ^ k = y'
  generalize r / 2 = r2
  generalize s / 2 = s2
  have e : (r ^^^ s ^^^ (x' ^^^ y')) % 2 = ((r ^^^ x') % 2 + (s ^^^ y') % 2) % 2 := by
    have a1 := xor_two r s
    have a2 := xor_two x' y'
    rw [xor_two, xor_two r x', xor_two s y']; omega
  rw [e]
  have hp := Nat.mod_lt (r ^^^ x') (show 0 < 2 by omega)
  have hq := Nat.mod_lt (s ^^^ y') (show 0 < 2 by omega)
  generalize (r ^^^ x') % 2 = p at *
  generalize (s ^^^ y') % 2 = q at *
  have e2 : 2197175160 * ((p + q) % 2) = (2197175160 * p) ^^^ (2197175160 * q) := by
    rcases (show p = 0 ∨ p = 1 by omega) with rfl | rfl <;> rcases (show q = 0 ∨ q = 1 by omega) with rfl | rfl <;> decide
  rw [e2]
  generalize 2197175160 * p = P
  generalize 2197175160 * q = Q
  ac_rfl
theorem cbits_xor (r s x y k : Nat) : cbits (r ^^^ s) (x ^^^ y) k = cbits r x k ^^^ cbits s y k := by
  induction k with
  | zero => rfl
  | succ k ih => show cb (cbits (r ^^^ s) (x ^^^ y) k) (x ^^^ y) k = _; rw [ih, cb_xor]; rfl
def xorL : List Nat → List Nat → List Nat
  | x :: xs, y :: ys => (x ^^^ y) :: xorL xs ys
  | _, _ => []
theorem reg_xor (xs : List Nat) : ∀ (ys : List Nat) (r s : Nat), xs.length = ys.length → crcReg (r ^^^ s) (xorL xs ys) = crcReg r xs ^^^ crcReg s ys := by
  induction xs with
  | nil => intro ys r s h; cases ys with
    | nil => rfl
    | cons y ys => simp at h
  | cons x xs ih => intro ys r s h; cases ys with
    | nil => simp at h
    | cons y ys =>
      show crcReg (cbyte (r ^^^ s) (x ^^^ y)) (xorL xs ys) = crcReg (cbyte r x) xs ^^^ crcReg (cbyte s y) ys
      rw [show cbyte (r ^^^ s) (x ^^^ y) = cbyte r x ^^^ cbyte s y from cbits_xor r s x y 8]
      exact ih ys _ _ (by simpa using h)
theorem xorL_len (xs : List Nat) : ∀ ys, xs.length = ys.length → (xorL xs ys).length = xs.length := by
  induction xs with
  | nil => intro ys h; rfl
  | cons x xs ih => intro ys h; cases ys with
    | nil => simp at h
    | cons y ys => simp [xorL, ih ys (by simpa using h)]
theorem xorL_zero (xs : List Nat) : xorL xs (List.replicate xs.length 0) = xs := by
  induction xs with
  | nil => rfl
  | cons x xs ih => simp [xorL, List.replicate_succ, ih]
theorem xorL_snoc (xs : List Nat) : ∀ ys x y, xs.length = ys.length → xorL (xs ++ [x]) (ys ++ [y]) = xorL xs ys ++ [x ^^^ y] := by
  induction xs with
  | nil => intro ys x y h; cases ys with
    | nil => rfl
    | cons y ys => simp at h
  | cons z xs ih => intro ys x y h; cases ys with
    | nil => simp at h
    | cons y' ys => simp [xorL, ih ys x y (by simpa using h)]
theorem crc_xor (xs ys : List Nat) (h : xs.length = ys.length) : crc (xorL xs ys) = crc xs ^^^ crc ys ^^^ crc (List.replicate xs.length 0) := by
  have h1 : crcReg 4294967295 (xorL xs ys) = crcReg 4294967295 xs ^^^ crcReg 4294967295 ys ^^^ crcReg 4294967295 (List.replicate xs.length 0) := by
    have e1 := reg_xor xs ys 4294967295 4294967295 h
    have e2 := reg_xor (xorL xs ys) (List.replicate xs.length 0) (4294967295 ^^^ 4294967295) 4294967295 (by simp [xorL_len xs ys h])
    rw [show xorL (xorL xs ys) (List.replicate xs.length 0) = xorL xs ys from by
      have := xorL_zero (xorL xs ys); rw [xorL_len xs ys h] at this; exact this] at e2
    rw [e1] at e2
    rw [← e2]
    rfl
  have b1 := crcReg_lt xs 4294967295 (by omega)
  have b2 := crcReg_lt ys 4294967295 (by omega)
  have b3 := crcReg_lt (List.replicate xs.length 0) 4294967295 (by omega)
  have b4 := crcReg_lt (xorL xs ys) 4294967295 (by omega)
  unfold crc
  rw [← not32_nat _ b1, ← not32_nat _ b2, ← not32_nat _ b3, ← not32_nat _ b4, h1]
  generalize crcReg 4294967295 xs = p
  generalize crcReg 4294967295 ys = q
  generalize crcReg 4294967295 (List.replicate xs.length 0) = r
  have : 4294967295 ^^^ p ^^^ (4294967295 ^^^ q) ^^^ (4294967295 ^^^ r) = (4294967295 ^^^ 4294967295) ^^^ (4294967295 ^^^ (p ^^^ q ^^^ r)) := by ac_rfl
  rw [this, Nat.xor_self, Nat.zero_xor]
theorem xor_u8 (x y : Nat) (hx : x < 256) (hy : y < 256) : x ^^^ y < 256 := Nat.xor_lt_two_pow (n := 8) hx hy
/-- One bit back: where the register's highest bit is 0, none went out. -/
theorem cb_back (r z k q : Nat) (hr : r < 4294967296) (h : cb r z k = q) (hq : q < 2147483648) : r = 2 * q + z / 2 ^ k % 2 := by
  unfold cb at h
  have hx := xor_two r (z / 2 ^ k)
  have hb : (r ^^^ z / 2 ^ k) % 2 < 2 := Nat.mod_lt _ (by omega)
  generalize z / 2 ^ k = y at *
  rcases (show (r ^^^ y) % 2 = 0 ∨ (r ^^^ y) % 2 = 1 by omega) with h0 | h0
  · rw [h0, Nat.mul_zero, Nat.xor_zero] at h
    omega
  · exfalso
    rw [h0, Nat.mul_one] at h
    have hd : (r / 2 ^^^ 2197175160) / 2147483648 = (r / 2 / 2147483648) ^^^ (2197175160 / 2147483648) := Nat.xor_div_two_pow (n := 31)
    rw [show r / 2 / 2147483648 = 0 from by omega, show 2197175160 / 2147483648 = 1 from rfl, h] at hd
    simp at hd
    omega
theorem cbyte_back (d z q : Nat) (hd : d < 4294967296) (hz : z < 256) (h : cbyte d z = q) (hq : q < 16777216) : d = 256 * q + z := by
  have l := fun k => cbits_lt d z k hd
  have s8 := cb_back (cbits d z 7) z 7 q (l 7) h (by omega)
  have s7 := cb_back (cbits d z 6) z 6 (cbits d z 7) (l 6) rfl (by omega)
  have s6 := cb_back (cbits d z 5) z 5 (cbits d z 6) (l 5) rfl (by omega)
  have s5 := cb_back (cbits d z 4) z 4 (cbits d z 5) (l 4) rfl (by omega)
  have s4 := cb_back (cbits d z 3) z 3 (cbits d z 4) (l 3) rfl (by omega)
  have s3 := cb_back (cbits d z 2) z 2 (cbits d z 3) (l 2) rfl (by omega)
  have s2 := cb_back (cbits d z 1) z 1 (cbits d z 2) (l 1) rfl (by omega)
  have s1 := cb_back d z 0 (cbits d z 1) hd rfl (by omega)
  clear h l
  simp only [show 2 ^ 7 = 128 from rfl, show 2 ^ 6 = 64 from rfl, show 2 ^ 5 = 32 from rfl, show 2 ^ 4 = 16 from rfl, show 2 ^ 3 = 8 from rfl, show 2 ^ 2 = 4 from rfl, show 2 ^ 1 = 2 from rfl, show 2 ^ 0 = 1 from rfl] at *
  omega
theorem reg_zeros (n : Nat) : ∀ d, d < 4294967296 → crcReg d (List.replicate n 0) = 0 → d = 0 := by
  induction n with
  | zero => intro d _ h; exact h
  | succ n ih =>
    intro d hd h
    have h2 := ih (cbyte d 0) (cbyte_lt d 0 hd) (by simpa [List.replicate_succ, crcReg] using h)
    have := cbyte_back d 0 0 hd (by omega) h2 (by omega)
    omega
theorem cbyte_zero : cbyte 0 0 = 0 := by decide
theorem reg_zero_zeros (n : Nat) : crcReg 0 (List.replicate n 0) = 0 := by
  induction n with
  | zero => rfl
  | succ n ih =>
    show crcReg (cbyte 0 0) (List.replicate n 0) = 0
    rw [cbyte_zero]; exact ih
theorem reg_append (r : Nat) (xs ys : List Nat) : crcReg r (xs ++ ys) = crcReg (crcReg r xs) ys := by simp [crcReg, List.foldl_append]
/-- Bytes as a number, the lowest first. -/
def leN : List Nat → Nat
  | [] => 0
  | z :: zs => z + 256 * leN zs
theorem leN_lt (zs : List Nat) (hb : ∀ z ∈ zs, z < 256) : leN zs < 256 ^ zs.length := by
  induction zs with
  | nil => simp [leN]
  | cons z zs ih =>
    have h1 := ih (fun x hx => hb x (List.mem_cons_of_mem _ hx))
    have h2 := hb z (List.mem_cons_self ..)
    show z + 256 * leN zs < 256 ^ (zs.length + 1)
    rw [Nat.pow_succ]
    omega
theorem reg_burst (zs : List Nat) : zs.length ≤ 4 → (∀ z ∈ zs, z < 256) → ∀ d, d < 4294967296 → crcReg d zs = 0 → d = leN zs := by
  induction zs with
  | nil => intro _ _ d _ h; exact h
  | cons z zs ih =>
    intro hl hb d hd h
    have hb' : ∀ x ∈ zs, x < 256 := fun x hx => hb x (List.mem_cons_of_mem _ hx)
    have hl' : zs.length ≤ 3 := by simp at hl; omega
    have h2 := ih (by omega) hb' (cbyte d z) (cbyte_lt d z hd) h
    have h3 := leN_lt zs hb'
    have h4 : 256 ^ zs.length ≤ 256 ^ 3 := Nat.pow_le_pow_right (by omega) hl'
    have := cbyte_back d z (leN zs) hd (hb z (List.mem_cons_self ..)) h2 (by omega)
    show d = z + 256 * leN zs
    omega
theorem leN_zero (zs : List Nat) : leN zs = 0 → ∀ z ∈ zs, z = 0 := by
  induction zs with
  | nil => intro _ z hz; simp at hz
  | cons x zs ih =>
    intro h z hz
    have h' : x + 256 * leN zs = 0 := h
    rcases List.mem_cons.1 hz with rfl | hz
    · omega
    · exact ih (by omega) z hz
/-- Two rows of bytes of one length that differ in up to four neighbouring bytes, and have one sum, are the same there. -/
theorem burst (p s : Nat) (zs : List Nat) (hl : zs.length ≤ 4) (hb : ∀ z ∈ zs, z < 256) (h : crcReg 0 (List.replicate p 0 ++ (zs ++ List.replicate s 0)) = 0) : ∀ z ∈ zs, z = 0 := by
  rw [reg_append, reg_zero_zeros, reg_append] at h
  have h2 := reg_zeros s _ (crcReg_lt zs 0 (by omega)) h
  exact leN_zero zs (reg_burst zs hl hb 0 (by omega) h2).symm
theorem crc_same (xs ys : List Nat) (hl : xs.length = ys.length) (h : crc xs = crc ys) : crcReg 0 (xorL xs ys) = 0 := by
  have b1 := crcReg_lt xs 4294967295 (by omega)
  have b2 := crcReg_lt ys 4294967295 (by omega)
  have e : crcReg 4294967295 xs = crcReg 4294967295 ys := by unfold crc at h; omega
  have := reg_xor xs ys 4294967295 4294967295 hl
  rw [Nat.xor_self, e, Nat.xor_self] at this
  exact this
end Go.Proofs.YtlgfbcfogcmdbaaDoor
namespace Go.Proofs.YtlgfbcfogcmdbaaDoor
open Go.RowKit
theorem ext_getD {xs ys : List Nat} (hl : xs.length = ys.length) (h : ∀ i, i < xs.length → xs.getD i 0 = ys.getD i 0) : xs = ys := by
  apply List.ext_getElem hl
  intro i h1 h2
  have := h i h1
  simpa [List.getD_eq_getElem?_getD, h1, h2] using this
theorem le4_len (x : Nat) : (le4 x).length = 4 := rfl
theorem le4_inj {x y : Nat} (hx : x < 4294967296) (hy : y < 4294967296) (h : ∀ i, i < 4 → (le4 x).getD i 0 = (le4 y).getD i 0) : x = y := by
  have h0 := h 0 (by omega)
  have h1 := h 1 (by omega)
  have h2 := h 2 (by omega)
  have h3 := h 3 (by omega)
  simp only [le4, List.getD_cons_zero, List.getD_cons_succ] at h0 h1 h2 h3
  omega
theorem blank_getD (zs : List Nat) (h : 12 ≤ zs.length) (i : Nat) : (blank zs).getD i 0 = if 8 ≤ i ∧ i < 12 then 0 else zs.getD i 0 := by
  unfold blank
  rw [lay_getD zs 8 [0, 0, 0, 0] (by simpa using h)]
  show (if 8 ≤ i ∧ i < 12 then _ else _) = _
  by_cases h1 : 8 ≤ i ∧ i < 12
  · rw [if_pos h1, if_pos h1]
    rcases (show i = 8 ∨ i = 9 ∨ i = 10 ∨ i = 11 by omega) with rfl | rfl | rfl | rfl <;> rfl
  · rw [if_neg h1, if_neg h1]
theorem stampV_getD (zs : List Nat) (h : 12 ≤ zs.length) (i : Nat) : (stampV zs).getD i 0 = if 8 ≤ i ∧ i < 12 then (le4 (crc (blank zs))).getD (i - 8) 0 else zs.getD i 0 := by
  unfold stampV
  rw [if_neg (by omega), lay_getD _ 8 _ (by rw [blank_len zs h, le4_len]; omega), le4_len]
  by_cases h1 : 8 ≤ i ∧ i < 12
  · rw [if_pos (by omega), if_pos h1]
  · rw [if_neg (by omega), if_neg h1, blank_getD zs h, if_neg h1]
/-- Two packets that are the same but for their sums have one blank. -/
theorem blank_stamp (zs : List Nat) (h : 12 ≤ zs.length) : blank (stampV zs) = blank zs := by
  have hl := stampV_len zs h
  apply ext_getD (by rw [blank_len _ (by omega), blank_len zs h, hl])
  intro i _
  rw [blank_getD _ (by omega), blank_getD zs h, stampV_getD zs h]
  split
  · rfl
  · rfl
theorem stamp_stamp (zs : List Nat) (h : 12 ≤ zs.length) : stampV (stampV zs) = stampV zs := by
  have hl := stampV_len zs h
  apply ext_getD (by rw [stampV_len _ (by omega)])
  intro i _
  rw [stampV_getD _ (by omega), blank_stamp zs h, stampV_getD zs h]
  split <;> rfl
theorem stamped_stamp (zs : List Nat) (h : 12 ≤ zs.length) : stampedB (stampV zs) = true := by
  have hl := stampV_len zs h
  unfold stampedB
  rw [if_neg (by omega), stamp_stamp zs h]
  simp
theorem xorL_getD (xs : List Nat) : ∀ (ys : List Nat) (i : Nat), xs.length = ys.length → (xorL xs ys).getD i 0 = xs.getD i 0 ^^^ ys.getD i 0 := by
  induction xs with
  | nil => intro ys i h; cases ys with
    | nil => simp [xorL]
    | cons y ys => simp at h
  | cons x xs ih => intro ys i h; cases ys with
    | nil => simp at h
    | cons y ys =>
      cases i with
      | zero => simp [xorL]
      | succ i =>
        have := ih ys i (by simpa using h)
        simpa [xorL, List.getD_cons_succ] using this
/-- What the turns make of the packet: byte q is changed by bs, from p on. -/
def Turned (c X : List Nat) (p m : Nat) (bs : List Nat) : Prop := X.length = c.length ∧ ∀ q, q < c.length → X.getD q 0 = if p ≤ q ∧ q < p + m then c.getD q 0 ^^^ bs.getD (q - p) 0 else c.getD q 0
theorem turned_not (zs X bs : List Nat) (p m : Nat) (h : 12 ≤ zs.length) (hp : 12 ≤ p) (hm : m ≤ 4) (hpm : p + m ≤ zs.length) (hX : Turned (stampV zs) X p m bs) (hb : ∀ i, bs.getD i 0 < 256) (hXb : ∀ i, X.getD i 0 < 256)
    (hs : stampedB X = true) : ∀ i, i < m → bs.getD i 0 = 0 := by
  have hl := stampV_len zs h
  obtain ⟨hXl, hXg⟩ := hX
  have hX12 : 12 ≤ X.length := by omega
  have hSl := stampV_len X hX12
  have hsame : stampV X = X := by
    unfold stampedB at hs
    rw [if_neg (by omega)] at hs
    have e : (strOf (stampV X)).toList = (strOf X).toList := by simpa using hs
    have e2 : strOf (stampV X) = strOf X := by
      rw [ByteArray.toList_eq, ByteArray.toList_eq] at e
      exact ByteArray.ext (Array.toList_inj.1 e)
    refine strOf_inj (fun i => ?_) hXb e2
    rw [stampV_getD X hX12]
    split
    · have hc : ∀ j, (le4 (crc (blank X))).getD j 0 < 256 := by
        apply getD_bnd
        simp only [le4, List.all_cons, List.all_nil, Bool.and_true, Bool.and_eq_true, decide_eq_true_eq]
        omega
      exact hc _
    · exact hXb i
  have hcrc : crc (blank X) = crc (blank zs) := by
    apply le4_inj (crc_lt _) (crc_lt _)
    intro i hi
    have e1 := stampV_getD X hX12 (8 + i)
    rw [hsame, if_pos (by omega), show 8 + i - 8 = i from by omega] at e1
    have e2 := hXg (8 + i) (by omega)
    rw [if_neg (by omega), stampV_getD zs h, if_pos (by omega), show 8 + i - 8 = i from by omega] at e2
    rw [← e1, e2]
  have hbl : (blank X).length = (blank zs).length := by rw [blank_len X hX12, blank_len zs h, hXl, hl]
  have h0 := crc_same (blank X) (blank zs) hbl hcrc
  have hn : (blank zs).length = zs.length := blank_len zs h
  have hD : xorL (blank X) (blank zs) = List.replicate p 0 ++ ((List.range m).map (fun i => bs.getD i 0) ++ List.replicate (zs.length - p - m) 0) := by
    apply ext_getD
    · rw [xorL_len _ _ hbl]; simp; omega
    · intro q hq
      rw [xorL_len _ _ hbl, hbl, hn] at hq
      rw [xorL_getD _ _ _ hbl, blank_getD X hX12, blank_getD zs h, getD_app, getD_app]
      simp only [List.length_replicate, List.length_map, List.length_range]
      have hrep : ∀ a b, (List.replicate a 0).getD b 0 = 0 := by
        intro a b; simp only [List.getD_eq_getElem?_getD, List.getElem?_replicate]; split <;> rfl
      by_cases h1 : 8 ≤ q ∧ q < 12
      · rw [if_pos h1, if_pos h1, if_pos (by omega), hrep]; rfl
      · rw [if_neg h1, if_neg h1, hXg q (by omega), stampV_getD zs h, if_neg h1]
        by_cases h2 : q < p
        · rw [if_neg (by omega), if_pos h2, hrep, Nat.xor_self]
        · rw [if_neg h2]
          by_cases h3 : q < p + m
          · rw [if_pos (by omega), if_pos (by omega)]
            have e : ((List.range m).map (fun i => bs.getD i 0)).getD (q - p) 0 = bs.getD (q - p) 0 := by
              simp [List.getD_eq_getElem?_getD, show q - p < m from by omega]
            rw [e, Nat.xor_comm (zs.getD q 0), Nat.xor_assoc, Nat.xor_self, Nat.xor_zero]
          · rw [if_neg (by omega), if_neg (by omega), hrep, Nat.xor_self]
  rw [hD] at h0
  have := burst p (zs.length - p - m) ((List.range m).map (fun i => bs.getD i 0)) (by simpa using hm) (fun z hz => by
    obtain ⟨i, _, rfl⟩ := List.mem_map.1 hz
    exact hb i) h0
  intro i hi
  exact this _ (List.mem_map.2 ⟨i, List.mem_range.2 hi, rfl⟩)
theorem turned_same (c X bs : List Nat) (p m : Nat) (hX : Turned c X p m bs) (h0 : ∀ i, i < m → bs.getD i 0 = 0) : X = c := by
  obtain ⟨hXl, hXg⟩ := hX
  apply ext_getD hXl
  intro q hq
  rw [hXg q (by omega)]
  by_cases h : p ≤ q ∧ q < p + m
  · rw [if_pos h, h0 _ (by omega), Nat.xor_zero]
  · rw [if_neg h]
theorem turned_step (c X bs : List Nat) (p m : Nat) (hX : Turned c X p m bs) (hp : p + m < c.length) : Turned c (X.set (p + m) (X.getD (p + m) 0 ^^^ bs.getD m 0)) p (m + 1) bs := by
  obtain ⟨hXl, hXg⟩ := hX
  refine ⟨by simp [hXl], fun q hq => ?_⟩
  have e3 : ∀ y, (X.set (p + m) y).getD q 0 = if q = p + m then y else X.getD q 0 := by
    intro y
    simp only [List.getD_eq_getElem?_getD, List.getElem?_set]
    by_cases h : q = p + m
    · subst h; rw [if_pos rfl, if_pos rfl, if_pos (by omega)]; rfl
    · rw [if_neg (fun e => h e.symm), if_neg h]
  rw [e3]
  by_cases h : q = p + m
  · subst h
    rw [if_pos rfl, if_pos (by omega), hXg (p + m) hq, if_neg (by omega), show p + m - p = m from by omega]
  · rw [if_neg h, hXg q hq]
    by_cases h2 : p ≤ q ∧ q < p + m
    · rw [if_pos h2, if_pos (by omega)]
    · rw [if_neg h2, if_neg (by omega)]
/-- Has one of the first i bytes turned something? -/
def tb (bs : List Nat) : Nat → Bool
  | 0 => false
  | i + 1 => tb bs i || (bs.getD i 0 != 0)
theorem tb_false (bs : List Nat) : ∀ m, tb bs m = false → ∀ i, i < m → bs.getD i 0 = 0 := by
  intro m
  induction m with
  | zero => intro _ i hi; omega
  | succ m ih =>
    intro h i hi
    simp only [tb, Bool.or_eq_false_iff, bne_eq_false_iff_eq] at h
    rcases Nat.lt_or_ge i m with h1 | h1
    · exact ih h.1 i h1
    · have : i = m := by omega
      subst this; exact h.2
theorem tb_true (bs : List Nat) : ∀ m, tb bs m = true → ¬ ∀ i, i < m → bs.getD i 0 = 0 := by
  intro m
  induction m with
  | zero => intro h; cases h
  | succ m ih =>
    intro h hall
    simp only [tb, Bool.or_eq_true, bne_iff_ne, ne_eq] at h
    rcases h with h | h
    · exact ih h (fun i hi => hall i (by omega))
    · exact h (hall m (by omega))
/-- The whole of it: the packet is told to be stamped just if nothing was turned. -/
theorem turned_told (zs X bs : List Nat) (p m : Nat) (h : 12 ≤ zs.length) (hp : 12 ≤ p) (hm : m ≤ 4) (hpm : p + m ≤ zs.length) (hX : Turned (stampV zs) X p m bs) (hb : ∀ i, bs.getD i 0 < 256) (hXb : ∀ i, X.getD i 0 < 256) :
    stampedB X = !tb bs m := by
  cases ht : tb bs m with
  | false => rw [turned_same _ _ _ _ _ hX (tb_false bs m ht), stamped_stamp zs h]; rfl
  | true =>
    cases hs : stampedB X with
    | false => rfl
    | true => exact absurd (turned_not zs X bs p m h hp hm hpm hX hb hXb hs) (tb_true bs m ht)
end Go.Proofs.YtlgfbcfogcmdbaaDoor
namespace Go.Proofs.YtlgfbcfogcmdbaaDoor
open Go.RowKit
theorem results_cellE3 {fn : Func} {p u v : Tmp} {ty : TypeId} (h : fn.results = #[.cell p ty, .tmp u, .tmp v]) (tmps : Array Value) (w : World) (g o : Nat) (cs : List Value) (d : TypeDesc)
    (hp : tmps.getD p undef = .pointer (some ⟨g, o, none⟩)) (hc : w.rangeAt g o cs) (hu : Tryd.prog.underlying ty = some d) (hd : d.isRow = true) (hi : (Tryd.prog.info? ty).map (·.size) = some cs.length) :
    (results fn tmps).run Tryd.prog w = .ok (.tuple #[.agg cs.toArray, tmps.getD u undef, tmps.getD v undef]) w := by
  have hp' : tmps[p]?.getD undef = .pointer (some ⟨g, o, none⟩) := by simpa using hp
  simp [results, h, hp', asAddr, run_loadVar_mid w g o ty cs d hc hu hd hi, Result.andThen]
structure TkR (w : World) (n1 n2 n3 n : Nat) (C : Nat → C14) (e : Ending) (w' : World) : Prop where
  ex : ∃ la lc, e = .returned (.tuple #[.agg #[.int .u16 (n1 : Nat), .int .u16 (n2 : Nat), .int .u32 (n3 : Nat)], .slice la n lc, .int .i64 0]) ∧ OwnR w' w.heap.size la n lc ((List.range n).map C)
  bel : Below w.heap.size w w'
set_option linter.unusedVariables false in
set_option maxRecDepth 100000 in
set_option maxHeartbeats 4000000 in
theorem take_ok {w : World} {b off m c : Nat} {zs : List Nat} (hs : Sl w (some ⟨b, off, none⟩) m c zs) (h16 : 16 ≤ m) (h1480 : m ≤ 1480) (hsum : stampedB zs = true) (n : Nat) (C : Nat → C14) (rest : Nat → List Nat) (h0 : rest 0 = zs.drop 12) (hn : rest n = []) (hne : ∀ i, i < n → rest i ≠ []) (hn32 : n ≤ 32)
    (hrd : ∀ i, i < n → ∀ W0 q W, RdW W0 W q (rest i) 3 → Calls Tryd.prog 57 #[.pointer (some ⟨q, 0, none⟩), .int .i64 (i : Nat)] W (RdP W0 W q (.agg (C i).1.toArray) (rest (i + 1)) 3)) :
    Calls Tryd.prog 8 #[.slice (some ⟨b, off, none⟩) m c] w (TkR w (numB (zs.take 2)) (numB ((zs.drop 2).take 2)) (numB ((zs.drop 4).take 4)) n C) := by
  have hl := hs.len
  have hz := zero_head
  obtain ⟨W1, hW1⟩ : ∃ W1, W1 = w.alloc (.cells #[.int .u16 0, .int .u16 0, .int .u32 0] 25) := ⟨_, rfl⟩
  have b1 : Below w.heap.size w W1 := by rw [hW1]; exact (Below.refl _ _).alloc (Nat.le_refl _) _
  have s1 := Stc.new w [.int .u16 0, .int .u16 0, .int .u32 0] 25 W1 hW1
  have HST := (show Hid _ from stamped_any _ m c zs W1 (hs.below b1) (by omega))
  rw [hsum] at HST
  have HRP := (show Hid _ from fun W (hW : Below w.heap.size w W) => readp_ok (hs.below hW) (by omega) n C rest h0 hn hne hn32 (fun i hi q W' hW' => hrd i hi W q W' hW'))
  obtain ⟨n1, hn1⟩ : ∃ n1, n1 = numB (zs.take 2) := ⟨_, rfl⟩
  obtain ⟨n2, hn2⟩ : ∃ n2, n2 = numB ((zs.drop 2).take 2) := ⟨_, rfl⟩
  obtain ⟨n3, hn3⟩ : ∃ n3, n3 = numB ((zs.drop 4).take 4) := ⟨_, rfl⟩
  rw [← hn1, ← hn2, ← hn3] at HRP ⊢
  have HS1 := (show Hid _ from And.intro s1 b1)
  clear hn1 hn2 hn3 h0 hn hne hrd b1 s1 hs hsum hl
  go_enter Tryd.func8, Tryd.ntmps8
  go_wp2_with fail
  rw [← hW1]
  clear hW1 hz
  refine Calls.mono HST.out ?_
  clear HST
  rintro e w2 ⟨rfl, b2⟩
  have hb2 : Below w.heap.size w w2 := HS1.out.2.trans (b2.mono HS1.out.2.size)
  have HN := (show Hid _ from HRP.out w2 hb2)
  have HS2 : Hid (Stc w2 w.heap.size [.int .u16 0, .int .u16 0, .int .u32 0] ∧ Below w.heap.size w w2) := ⟨HS1.out.1.below b2, hb2⟩
  clear HRP HS1 b2 hb2
  go_wp2_with fail
  refine Calls.mono HN.out ?_
  clear HN
  rintro e w3 ⟨la, lc, rfl, ho, b3⟩
  have s3 := HS2.out.1.below b3
  have hob : ∀ g, (Value.slice la n lc).ownBlock = some g → g ≠ w.heap.size := fun g hg => by have := (ho.own.lt g hg).1; have := HS2.out.1.lt; omega
  have HF : Hid (OwnR w3 w.heap.size la n lc ((List.range n).map C) ∧ Below w.heap.size w w3 ∧ Stc w3 w.heap.size [.int .u16 0, .int .u16 0, .int .u32 0] ∧ ∀ g, (Value.slice la n lc).ownBlock = some g → g ≠ w.heap.size) := ⟨OwnG.base ho HS2.out.2.size, HS2.out.2.trans (b3.mono HS2.out.2.size), s3, hob⟩
  have g0 := s3.free 0
  have g1 := s3.free 1
  have g2 := s3.free 2
  have d0 := s3.cell 0 _ rfl
  have d1 := s3.cell 1 _ rfl
  have d2 := s3.cell 2 _ rfl
  clear ho b3 s3 HS2 hob
  go_wp2
  try simp only [Exit.inBlock, Exit.then]
  obtain ⟨ho, hb, s3, hob⟩ := HF.out
  have hput := s3.put [.int .u16 (n1 : Nat), .int .u16 (n2 : Nat), .int .u32 (n3 : Nat)] rfl
  have hff := fr_setCellsX w.heap.size [.int .u16 (n1 : Nat), .int .u16 (n2 : Nat), .int .u32 (n3 : Nat)] 0 w3
  refine bodyPost_ret (results_cellE3 rfl _ _ w.heap.size 0 [.int .u16 (n1 : Nat), .int .u16 (n2 : Nat), .int .u32 (n3 : Nat)] _ rfl hput.range Tryd.underlying25 rfl (by kernel_rfl)) rfl ?_
  exact ⟨⟨la, lc, rfl, OwnG.fr ho hff (fun g hg e => hob g hg e)⟩, hb.trans (hff.below _ hb.size (fun k hk => by omega))⟩
end Go.Proofs.YtlgfbcfogcmdbaaDoor
