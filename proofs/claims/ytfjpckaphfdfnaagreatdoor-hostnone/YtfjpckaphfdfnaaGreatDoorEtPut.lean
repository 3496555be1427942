/- What ether's small functions answer, and how a head is laid. -/
import Derived.Test.YtfjpckaphfdfnaaGreatDoorLy
import Derived.Deep.MidRow
namespace Go.Proofs.YtfjpckaphfdfnaaGreatDoor
open Go.RowKit
theorem isCard_any (m : Nat) (w : World) (hm : m < 18446744073709551616) :
    Calls Tryz.prog 212 #[.int .u64 (m : Nat)] w fun e w' => e = .returned (.bool (decide (m < 281474976710656))) ∧ w' = w := by
  have HD : Hid (decide ((m : Int) ≤ 281474976710655) = decide (m < 281474976710656)) := by show _ = _; rw [decide_eq_decide]; omega
  go_enter Tryz.func212, Tryz.ntmps212
  go_wp2
  go_ret
  exact ⟨by rw [← HD.out]; rfl, rfl⟩
theorem hmf (fn : Fn) (first cap : Array Value) (w : World) : (Instr.makeFunc fn first cap).run Tryz.prog w = .ok (.func fn first cap) w := rfl
set_option maxRecDepth 100000 in
set_option maxHeartbeats 2000000 in
theorem laying_any (po : Nat) (w : World) :
    Calls Tryz.prog 213 #[.pointer (some ⟨po, 0, none⟩)] w fun e w' => e = .returned (.func (.func 276) #[] #[.pointer (some ⟨w.heap.size, 0, none⟩)]) ∧ w' = w.alloc (.cells #[.pointer (some ⟨po, 0, none⟩)] 341) := by
  have hm := hmf
  go_enter Tryz.func213, Tryz.ntmps213
  go_wp2
  go_ret
  exact ⟨rfl, rfl⟩
/-- A block that a call of laying's function leaves as it was. -/
theorem LyP.cell {B pc po : Nat} {gr : Option Nat} {zs : List Nat} {v : Nat} {w : World} {e : Ending} {w' : World} (h : LyP B pc po gr zs v w e w') (q o : Nat) (hq : q < w.heap.size) (h1 : q ≠ po) (h2 : gr ≠ some q) : w'.cell? ⟨q, o, none⟩ = w.cell? ⟨q, o, none⟩ :=
  h.fr.cell ⟨q, o, none⟩ hq (fun e => e.elim h1 h2)
theorem LyP.frozen {B pc po : Nat} {gr : Option Nat} {zs : List Nat} {v : Nat} {w : World} {e : Ending} {w' : World} (h : LyP B pc po gr zs v w e w') (q o : Nat) (hq : q < w.heap.size) (h1 : q ≠ po) (h2 : gr ≠ some q) : w'.frozen? ⟨q, o, none⟩ = w.frozen? ⟨q, o, none⟩ :=
  h.fr.frozen ⟨q, o, none⟩ hq (fun e => e.elim h1 h2)
/-- A struct in a block of its own. -/
structure Stc (w : World) (q : Nat) (cs : List Value) : Prop where
  lt : q < w.heap.size
  cell : ∀ (i : Nat) v, cs[i]? = some v → w.cell? ⟨q, i, none⟩ = some v
  free : ∀ i, w.frozen? ⟨q, i, none⟩ = false
theorem Stc.new (w : World) (cs : List Value) (T : TypeId) (W : World) (hW : W = w.alloc (.cells cs.toArray T)) : Stc W w.heap.size cs := by
  subst hW
  refine ⟨by simp, fun i v h => ?_, fun i => ?_⟩
  · rw [World.cell?_alloc_mark]
    simpa using h
  · have hh : (w.alloc (.cells cs.toArray T)).heap[w.heap.size]? = some (.cells cs.toArray T) := by
      show (w.heap.push _)[w.heap.size]? = _
      simp
    unfold World.frozen?
    dsimp only
    rw [hh]
    simp
theorem Stc.below {w w' : World} {q : Nat} {cs : List Value} (h : Stc w q cs) (hb : Below w.heap.size w w') : Stc w' q cs :=
  ⟨Nat.lt_of_lt_of_le h.lt hb.size, fun i v hv => (hb.cell (p := ⟨q, i, none⟩) h.lt).trans (h.cell i v hv), fun i => (hb.frozen (p := ⟨q, i, none⟩) h.lt).trans (h.free i)⟩
theorem Stc.fr {P : Nat → Prop} {w w' : World} {q : Nat} {cs : List Value} (h : Stc w q cs) (hf : Fr P w w') (hp : ¬ P q) : Stc w' q cs :=
  ⟨Nat.lt_of_lt_of_le h.lt hf.size, fun i v hv => (hf.cell ⟨q, i, none⟩ h.lt hp).trans (h.cell i v hv), fun i => (hf.frozen ⟨q, i, none⟩ h.lt hp).trans (h.free i)⟩
theorem Stc.set {w : World} {q : Nat} {cs : List Value} (h : Stc w q cs) (j : Nat) (u : Value) : Stc (w.setCell ⟨q, j, none⟩ u) q (cs.set j u) := by
  refine ⟨by simp [World.setCell]; exact h.lt, fun i v hv => ?_, fun i => by rw [World.frozen?_setCell]; exact h.free i⟩
  rw [List.getElem?_set] at hv
  split at hv
  · rename_i e
    subst e
    split at hv
    · rename_i hl
      injection hv with hv
      subst hv
      exact World.cell?_setCell_same' _ _ _ (by rw [h.cell j _ (List.getElem?_eq_getElem hl)]; rfl)
    · cases hv
  · rename_i e
    rw [World.cell?_setCell_other _ _ _ _ (by intro e2; injection e2 with _ e3; exact e e3)]
    exact h.cell i v hv
theorem Stc.other {w : World} {q : Nat} {cs : List Value} (h : Stc w q cs) (q2 j : Nat) (u : Value) (hne : q2 ≠ q) : Stc (w.setCell ⟨q2, j, none⟩ u) q cs :=
  h.fr (Fr.setCell (fun b => b = q2) _ _ _ rfl) (fun e => hne e.symm)
/-- What is answered by a row of calls. -/
structure LyQ (B pc po : Nat) (gr : Option Nat) (zs : List Nat) (w w' : World) : Prop where
  st : ∃ gr', LyS B pc po gr' zs w' ∧ (∀ g, gr' = some g → gr = some g ∨ w.heap.size ≤ g)
  fr : Fr (fun b => b = po ∨ gr = some b) w w'
theorem Stc.range {w : World} {q : Nat} {cs : List Value} (h : Stc w q cs) : w.rangeAt q 0 cs := fun i v hv => by rw [Nat.zero_add]; exact h.cell i v hv
theorem results_cellE {fn : Func} {p : Tmp} {ty : TypeId} (h : fn.results = #[.cell p ty]) (tmps : Array Value) (w : World) (g o : Nat) (cs : List Value) (d : TypeDesc)
    (hp : tmps.getD p undef = .pointer (some ⟨g, o, none⟩)) (hc : w.rangeAt g o cs) (hu : Tryz.prog.underlying ty = some d) (hd : d.isRow = true) (hi : (Tryz.prog.info? ty).map (·.size) = some cs.length) :
    (results fn tmps).run Tryz.prog w = .ok (.agg cs.toArray) w := by
  have hp' : tmps[p]?.getD undef = .pointer (some ⟨g, o, none⟩) := by simpa using hp
  simp [results, h, hp', asAddr, run_loadVar_mid w g o ty cs d hc hu hd hi]
/-- What stands while parts of a struct (at x; the answer's at r) are laid one behind the other. -/
structure HdS (w0 : World) (B pc po : Nat) (gr : Option Nat) (x r : Nat) (zs : List Nat) (xs rs : List Value) (W : World) : Prop where
  st : ∃ g, LyS B pc po g zs W ∧ (∀ g', g = some g' → gr = some g' ∨ w0.heap.size ≤ g') ∧ g ≠ some x ∧ g ≠ some r
  sx : Stc W x xs
  sr : Stc W r rs
  nx : x ≠ po ∧ x ≠ pc
  nr : r ≠ po ∧ r ≠ pc
  nxr : x ≠ r
  wx : w0.heap.size ≤ x
  wr : w0.heap.size ≤ r
  fr : Fr (fun b => b = po ∨ gr = some b) w0 W
theorem HdS.lay {w0 : World} {B pc po : Nat} {gr : Option Nat} {x r : Nat} {zs : List Nat} {xs rs : List Value} {W : World} (h : HdS w0 B pc po gr x r zs xs rs W) (v k : Nat) (hv : v < 256 ^ k) (h1 : 1 ≤ k) (h8 : k ≤ 8) (hl : zs.length ≤ 10000) :
    Calls Tryz.prog 276 #[.int .u64 (v : Nat), .int .i64 (k : Nat), .pointer (some ⟨pc, 0, none⟩)] W fun e w' => e = .returned (.int .u64 (v : Nat)) ∧ HdS w0 B pc po gr x r (zs ++ bytesB v k) xs rs w' := by
  obtain ⟨g, hS, hg, hgx, hgr⟩ := h.st
  refine (layc_any B pc po g zs v k W hS hv h1 h8 hl).mono ?_
  rintro e w' ⟨he, ⟨g1, hS1, hg1⟩, hf⟩
  refine ⟨he, ⟨g1, hS1, fun g' e => ?_, fun e => ?_, fun e => ?_⟩, h.sx.fr hf (fun e => e.elim h.nx.1 hgx), h.sr.fr hf (fun e => e.elim h.nr.1 hgr), h.nx, h.nr, h.nxr, h.wx, h.wr, ⟨hf.os.trans h.fr.os, hf.tape.trans h.fr.tape, hf.output.trans h.fr.output, Nat.le_trans h.fr.size hf.size, fun b hb hn => ?_⟩⟩
  · rcases hg1 g' e with e2 | e2
    · exact hg g' e2
    · exact .inr (Nat.le_trans h.fr.size e2)
  · rcases hg1 x e with e2 | e2
    · exact hgx e2
    · have := h.sx.lt; omega
  · rcases hg1 r e with e2 | e2
    · exact hgr e2
    · have := h.sr.lt; omega
  · refine (hf.block b (Nat.lt_of_lt_of_le hb h.fr.size) (fun e => ?_)).trans (h.fr.block b hb hn)
    rcases e with e | e
    · exact hn (.inl e)
    · rcases hg b e with e2 | e2
      · exact hn (.inr e2)
      · omega
theorem HdS.set {w0 : World} {B pc po : Nat} {gr : Option Nat} {x r : Nat} {zs : List Nat} {xs rs : List Value} {W : World} (h : HdS w0 B pc po gr x r zs xs rs W) (j : Nat) (u : Value) : HdS w0 B pc po gr x r zs (xs.set j u) rs (W.setCell ⟨x, j, none⟩ u) := by
  obtain ⟨g, hS, hg, hgx, hgr⟩ := h.st
  refine ⟨⟨g, hS.far x j u h.nx.2 h.nx.1 hgx, hg, hgx, hgr⟩, h.sx.set j u, h.sr.other x j u h.nxr, h.nx, h.nr, h.nxr, h.wx, h.wr, ?_⟩
  have f := Fr.setCell (fun b => b = x) W ⟨x, j, none⟩ u rfl
  exact ⟨f.os.trans h.fr.os, f.tape.trans h.fr.tape, f.output.trans h.fr.output, Nat.le_trans h.fr.size f.size, fun b hb hn => (f.block b (Nat.lt_of_lt_of_le hb h.fr.size) (fun e => by have := h.wx; omega)).trans (h.fr.block b hb hn)⟩
theorem HdS.setR {w0 : World} {B pc po : Nat} {gr : Option Nat} {x r : Nat} {zs : List Nat} {xs rs : List Value} {W : World} (h : HdS w0 B pc po gr x r zs xs rs W) (j : Nat) (u : Value) : HdS w0 B pc po gr x r zs xs (rs.set j u) (W.setCell ⟨r, j, none⟩ u) := by
  obtain ⟨g, hS, hg, hgx, hgr⟩ := h.st
  refine ⟨⟨g, hS.far r j u h.nr.2 h.nr.1 hgr, hg, hgx, hgr⟩, h.sx.other r j u (fun e => h.nxr e.symm), h.sr.set j u, h.nx, h.nr, h.nxr, h.wx, h.wr, ?_⟩
  have f := Fr.setCell (fun b => b = r) W ⟨r, j, none⟩ u rfl
  exact ⟨f.os.trans h.fr.os, f.tape.trans h.fr.tape, f.output.trans h.fr.output, Nat.le_trans h.fr.size f.size, fun b hb hn => (f.block b (Nat.lt_of_lt_of_le hb h.fr.size) (fun e => by have := h.wr; omega)).trans (h.fr.block b hb hn)⟩
theorem HdS.start {w : World} {B pc po : Nat} {gr : Option Nat} {zs : List Nat} (h : LyS B pc po gr zs w) (xs rs : List Value) (T T2 : TypeId) : HdS w B pc po gr w.heap.size (w.heap.size + 1) zs xs rs ((w.alloc (.cells xs.toArray T)).alloc (.cells rs.toArray T2)) := by
  have hz1 : (w.alloc (.cells xs.toArray T)).heap.size = w.heap.size + 1 := by simp
  have hb1 : Below w.heap.size w (w.alloc (.cells xs.toArray T)) := (Below.refl _ _).alloc (Nat.le_refl _) _
  have hb2 : Below (w.alloc (.cells xs.toArray T)).heap.size (w.alloc (.cells xs.toArray T)) ((w.alloc (.cells xs.toArray T)).alloc (.cells rs.toArray T2)) := (Below.refl _ _).alloc (Nat.le_refl _) _
  have hb : Below w.heap.size w _ := hb1.trans (hb2.mono hb1.size)
  have hpc := h.pclt
  have hpo := h.polt
  refine ⟨⟨gr, h.below hb, fun g e => .inl e, fun e => ?_, fun e => ?_⟩, (Stc.new w xs T _ rfl).below hb2, ?_, ⟨by omega, by omega⟩, ⟨by omega, by omega⟩, by omega, Nat.le_refl _, by omega, Fr.of_below hb⟩
  · have := (h.glt _ e).2; omega
  · have := (h.glt _ e).2; omega
  · have := Stc.new (w.alloc (.cells xs.toArray T)) rs T2 _ rfl
    rw [hz1] at this
    exact this
set_option maxRecDepth 100000 in
set_option maxHeartbeats 2000000 in
theorem eachHead_lay (B pc po : Nat) (gr : Option Nat) (zs : List Nat) (t f k : Nat) (a : Option Addr) (n c : Nat) (w : World) (h : LyS B pc po gr zs w) (ht : t < 281474976710656) (hf : f < 281474976710656) (hk : k < 65536) (hl : zs.length ≤ 1000) :
    Calls Tryz.prog 150 #[.agg #[.int .u64 (t : Nat), .int .u64 (f : Nat), .int .u16 (k : Nat), .slice a n c], .func (.func 276) #[] #[.pointer (some ⟨pc, 0, none⟩)]] w fun e w' => (∃ v, e = .returned v) ∧ LyQ B pc po gr (((zs ++ bytesB t 6) ++ bytesB f 6) ++ bytesB k 2) w w' := by
  have h0 := HdS.start h [.int .u64 (t : Nat), .int .u64 (f : Nat), .int .u16 (k : Nat), .slice a n c] [.int .u64 0, .int .u64 0, .int .u16 0, .slice none 0 0] 238 238
  obtain ⟨W, hW⟩ : ∃ W, W = (w.alloc (.cells #[.int .u64 (t : Nat), .int .u64 (f : Nat), .int .u16 (k : Nat), .slice a n c] 238)).alloc (.cells #[.int .u64 0, .int .u64 0, .int .u16 0, .slice none 0 0] 238) := ⟨_, rfl⟩
  have hl1 : (zs ++ bytesB t 6).length ≤ 10000 := by rw [List.length_append, bytesB_len]; omega
  have hl2 : ((zs ++ bytesB t 6) ++ bytesB f 6).length ≤ 10000 := by rw [List.length_append, List.length_append, bytesB_len, bytesB_len]; omega
  change HdS w B pc po gr w.heap.size (w.heap.size + 1) zs _ _ ((w.alloc (.cells #[.int .u64 (t : Nat), .int .u64 (f : Nat), .int .u16 (k : Nat), .slice a n c] 238)).alloc (.cells #[.int .u64 0, .int .u64 0, .int .u16 0, .slice none 0 0] 238)) at h0
  rw [← hW] at h0
  obtain ⟨q, hq⟩ : ∃ q, q = w.heap.size := ⟨_, rfl⟩
  clear h
  go_enter Tryz.func150, Tryz.ntmps150
  go_wp2_with fail
  rw [← hW]
  clear hW
  refine (h0.lay t 6 (by show t < 256 ^ 6; omega) (by omega) (by omega) (by omega)).mono ?_
  rintro e w1 ⟨rfl, h1⟩
  have x0 := h1.sx.cell 0 _ rfl
  have x0f := h1.sx.free 0
  have x1 := h1.sx.cell 1 _ rfl
  have h1' := h1.set 0 (.int .u64 (t : Nat))
  go_wp2_with fail
  refine (h1'.lay f 6 (by show f < 256 ^ 6; omega) (by omega) (by omega) hl1).mono ?_
  rintro e w2 ⟨rfl, h2⟩
  have y1 := h2.sx.cell 1 _ rfl
  have y1f := h2.sx.free 1
  have y2 := h2.sx.cell 2 _ rfl
  have h2' := h2.set 1 (.int .u64 (f : Nat))
  clear x0 x0f x1 h1 h1' h0
  go_wp2_with fail
  refine (h2'.lay k 2 (by show k < 256 ^ 2; omega) (by omega) (by omega) hl2).mono ?_
  rintro e w3 ⟨rfl, h3⟩
  have z2 := h3.sx.cell 2 _ rfl
  have z2f := h3.sx.free 2
  have z0 := h3.sx.cell 0 _ rfl
  have z1 := h3.sx.cell 1 _ rfl
  have z3 := h3.sx.cell 3 _ rfl
  have h3' := h3.set 2 (.int .u16 (k : Nat))
  have hkm : (k : Int) % 65536 = (k : Int) := by omega
  have r0 := h3.sr.cell 0 _ rfl
  have r1 := h3.sr.cell 1 _ rfl
  have r2 := h3.sr.cell 2 _ rfl
  have r3 := h3.sr.cell 3 _ rfl
  have r0f := h3.sr.free 0
  have r1f := h3.sr.free 1
  have r2f := h3.sr.free 2
  have r3f := h3.sr.free 3
  have h4 := (((h3'.setR 0 (.int .u64 (t : Nat))).setR 1 (.int .u64 (f : Nat))).setR 2 (.int .u16 (k : Nat))).setR 3 (.slice a n c)
  have HF : Hid (LyQ B pc po gr (((zs ++ bytesB t 6) ++ bytesB f 6) ++ bytesB k 2) w _) := ⟨by obtain ⟨g, s1, s2, _, _⟩ := h4.st; exact ⟨g, s1, s2⟩, h4.fr⟩
  have HRG := (show Hid _ from h4.sr.range)
  clear y1 y1f y2 h2 h2' h3 h3' h4
  go_wp2
  try simp only [Exit.inBlock, Exit.then]
  refine bodyPost_ret (results_cellE rfl _ _ (w.heap.size + 1) 0 [.int .u64 (t : Nat), .int .u64 (f : Nat), .int .u16 (k : Nat), .slice a n c] _ rfl HRG.out Tryz.underlying238 rfl (by kernel_rfl)) rfl ?_
  exact ⟨⟨_, rfl⟩, HF.out⟩
end Go.Proofs.YtfjpckaphfdfnaaGreatDoor
