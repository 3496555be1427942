/- What ether.laying's function does: a number's bytes are laid behind those that stand there. -/
import Derived.Test.YtfjpckaphfdfnaaGreatDoorBytes
import Derived.Test.YtfjpckaphfdfnaaGreatDoorFrM
import Derived.Outline
import Derived.Deep.RegionLaw
namespace Go.Proofs.YtfjpckaphfdfnaaGreatDoor
open Go.RowKit
/-- append in a region that draws its order; where the new row lies. -/
theorem app_step2 {ops : Array Oper} {o : Oper} {a : Act} {w : World} {K : Act → World → Prop} {Q : Exit → Act → World → Prop} {E : Prop} (hgd : o.guard = none) (s x : Operand)
    (ho : o.op = .call { callee := .builtin .append, args := #[s, x], argTypes := #[24, 24] })
    (B : Nat) (ad : Option Addr) (n c : Nat) (zs : List Nat) (hs : a.eval s = .slice ad n c) (hown : OwnB w B ad n c zs)
    (sa : Option Addr) (m sc : Nat) (ys : List Nat) (hx : a.eval x = .slice sa m sc) (hsrc : Sl w sa m sc ys) (hb : n + m ≤ 140737488355328) (hB : B ≤ w.heap.size)
    (h : ∀ a' c' w', OwnB w' B a' (n + m) c' (zs ++ ys) → w.grownBy w' (Value.slice ad n c).ownBlock → (∀ g, (Value.slice a' (n + m) c').ownBlock = some g → (Value.slice ad n c).ownBlock = some g ∨ w.heap.size ≤ g) → K (a.put o.dst (.slice a' (n + m) c')) w') :
    if Region.wanted o (yielded ops a.tmps) = true then Oper.wp Tryz.prog o a w K Q else E := by
  have hw : Region.wanted o (yielded ops a.tmps) = true := by simp [Region.wanted, hgd]
  rw [if_pos hw]
  exact app_wp s x ho B ad n c zs hs hown sa m sc ys hx hsrc hb hB h
/-- A row that grows, as laying's function finds it: pc: what the function holds; po: the row's variable; gr: the row's block. -/
structure LyS (B pc po : Nat) (gr : Option Nat) (zs : List Nat) (w : World) : Prop where
  ne : pc ≠ po
  Bw : B ≤ w.heap.size
  pclt : pc < w.heap.size
  polt : po < w.heap.size
  gpc : gr ≠ some pc
  gpo : gr ≠ some po
  pcc : w.cell? ⟨pc, 0, none⟩ = some (.pointer (some ⟨po, 0, none⟩))
  row : ∃ a c, w.cell? ⟨po, 0, none⟩ = some (.slice a zs.length c) ∧ OwnB w B a zs.length c zs ∧ (Value.slice a zs.length c).ownBlock = gr
  free : w.frozen? ⟨po, 0, none⟩ = false
theorem LyS.below {B pc po : Nat} {gr : Option Nat} {zs : List Nat} {w w' : World} (h : LyS B pc po gr zs w) (hb : Below w.heap.size w w') : LyS B pc po gr zs w' := by
  obtain ⟨h1, h2, h3, h4, h5, h6, h7, ⟨a, c, h8, h9, h10⟩, h11⟩ := h
  have hz := hb.size
  exact ⟨h1, by omega, by omega, by omega, h5, h6, (hb.cell (p := ⟨pc, 0, none⟩) h3).trans h7, ⟨a, c, (hb.cell (p := ⟨po, 0, none⟩) h4).trans h8, h9.below hb, h10⟩, (hb.frozen (p := ⟨po, 0, none⟩) h4).trans h11⟩
theorem LyS.glt {B pc po : Nat} {gr : Option Nat} {zs : List Nat} {w : World} (h : LyS B pc po gr zs w) : ∀ g, gr = some g → B ≤ g ∧ g < w.heap.size := by
  obtain ⟨a, c, _, h9, h10⟩ := h.row
  intro g hg
  exact h9.own.lt g (h10.trans hg)
/-- A store into another block. -/
theorem LyS.far {B pc po : Nat} {gr : Option Nat} {zs : List Nat} {w : World} (h : LyS B pc po gr zs w) (q o : Nat) (v : Value) (hq1 : q ≠ pc) (hq2 : q ≠ po) (hq3 : gr ≠ some q) : LyS B pc po gr zs (w.setCell ⟨q, o, none⟩ v) := by
  obtain ⟨h1, h2, h3, h4, h5, h6, h7, ⟨a, c, h8, h9, h10⟩, h11⟩ := h
  have hgs : w.grownBy (w.setCell ⟨q, o, none⟩ v) (some q) := (Fr.setCell (fun b => b = q) w ⟨q, o, none⟩ v rfl) |> fun h => ⟨h.os, h.tape, h.output, h.size, fun k hk hn => h.block k hk (fun e => hn (by rw [e]))⟩
  refine ⟨h1, by simp [World.setCell]; omega, by simp [World.setCell]; omega, by simp [World.setCell]; omega, h5, h6, ?_, ⟨a, c, ?_, ?_, h10⟩, ?_⟩
  · rw [World.cell?_setCell_other _ _ _ _ (by intro e; injection e with e1; exact hq1 e1)]; exact h7
  · rw [World.cell?_setCell_other _ _ _ _ (by intro e; injection e with e1; exact hq2 e1)]; exact h8
  · refine h9.kept hgs ?_
    rw [h10]
    cases gr with
    | none => exact .inl rfl
    | some g => exact .inr hq3
  · rw [World.frozen?_setCell]; exact h11
theorem bytesE_in (v k : Nat) (hv : v < 256 ^ k) (h1 : 1 ≤ k) (h8 : k ≤ 8) : bytesE v (k : Int) = 0 := by
  unfold bytesE
  rw [if_neg (by omega), Int.toNat_natCast, if_pos (Nat.div_eq_of_lt hv)]
theorem bytesV_in (v k : Nat) (hv : v < 256 ^ k) (h1 : 1 ≤ k) (h8 : k ≤ 8) : bytesV v (k : Int) = bytesB v k := by
  unfold bytesV
  rw [bytesE_in v k hv h1 h8, if_pos rfl, Int.toNat_natCast]
/-- What is answered by one call: the row has grown. -/
structure LyP (B pc po : Nat) (gr : Option Nat) (zs : List Nat) (v : Nat) (w : World) (e : Ending) (w' : World) : Prop where
  ans : e = .returned (.int .u64 (v : Nat))
  st : ∃ gr', LyS B pc po gr' zs w' ∧ (∀ g, gr' = some g → gr = some g ∨ w.heap.size ≤ g)
  fr : Fr (fun b => b = po ∨ gr = some b) w w'
set_option maxRecDepth 100000 in
set_option maxHeartbeats 2000000 in
theorem layc_any (B pc po : Nat) (gr : Option Nat) (zs : List Nat) (v k : Nat) (w : World) (h : LyS B pc po gr zs w) (hv : v < 256 ^ k) (h1 : 1 ≤ k) (h8 : k ≤ 8) (hl : zs.length ≤ 10000) :
    Calls Tryz.prog 276 #[.int .u64 (v : Nat), .int .i64 (k : Nat), .pointer (some ⟨pc, 0, none⟩)] w fun e w' => LyP B pc po gr (zs ++ bytesB v k) v w e w' := by
  have hv64 : v < 18446744073709551616 := Nat.lt_of_lt_of_le hv (Nat.le_trans (Nat.pow_le_pow_right (by omega) h8) (by decide))
  have hby := bytes_any v (k : Int) w hv64
  rw [bytesE_in v k hv h1 h8, bytesV_in v k hv h1 h8, bytesB_len] at hby
  obtain ⟨D, hD⟩ : ∃ D, D = bytesB v k := ⟨_, rfl⟩
  rw [← hD] at hby ⊢
  have hDl : D.length = k := by rw [hD]; exact bytesB_len v k
  clear hD hv
  go_enter Tryz.func276, Tryz.ntmps276
  go_wp2_with fail
  refine hby.mono ?_
  rintro e w1 ⟨ad, cd, rfl, hod, hb1⟩
  obtain ⟨hne, hBw, hpcB, hpoB, hgpc, hgpo, hpcc, ⟨a, c, hrow, hown, hgr⟩, hfree⟩ := h
  have hz1 := hb1.size
  have hpc1 : w1.cell? ⟨pc, 0, none⟩ = some (.pointer (some ⟨po, 0, none⟩)) := (hb1.cell (p := ⟨pc, 0, none⟩) hpcB).trans hpcc
  have hpo1 : w1.cell? ⟨po, 0, none⟩ = some (.slice a zs.length c) := (hb1.cell (p := ⟨po, 0, none⟩) hpoB).trans hrow
  have hfr1 : w1.frozen? ⟨po, 0, none⟩ = false := (hb1.frozen (p := ⟨po, 0, none⟩) hpoB).trans hfree
  have hown1 := (hown.below hb1).below (Below.refl _ _).drew
  have hsd := (hod.sl (by omega)).below (Below.refl _ _).drew
  obtain ⟨n, hn⟩ : ∃ n, n = zs.length := ⟨_, rfl⟩
  rw [← hn] at hpo1 hown1 hl hgr
  have HN := (show Hid _ from hn)
  have HDl := (show Hid _ from hDl)
  have HST : Hid (∀ (a2 : Option Addr) (c2 : Nat) (w2 : World), w1.drew.grownBy w2 (Value.slice a n c).ownBlock → w2.cell? ⟨po, 0, none⟩ = some (.slice a n c) ∧ w2.frozen? ⟨po, 0, none⟩ = false ∧ w2.cell? ⟨pc, 0, none⟩ = some (.pointer (some ⟨po, 0, none⟩))) := by
    intro a2 c2 w2 hg
    rw [hgr] at hg
    refine ⟨?_, ?_, ?_⟩
    · exact (World.cell?_of_block (a := ⟨po, 0, none⟩) (hg.block po (by simp; omega) (fun e => hgpo e.symm))).trans hpo1
    · exact (World.frozen?_of_block (a := ⟨po, 0, none⟩) (hg.block po (by simp; omega) (fun e => hgpo e.symm))).trans hfr1
    · exact (World.cell?_of_block (a := ⟨pc, 0, none⟩) (hg.block pc (by simp; omega) (fun e => hgpc e.symm))).trans hpc1
  have HLY : Hid (∀ (a2 : Option Addr) (c2 : Nat) (w2 : World), OwnB w2 B a2 (n + k) c2 (zs ++ D) → w1.drew.grownBy w2 (Value.slice a n c).ownBlock → (∀ g, (Value.slice a2 (n + k) c2).ownBlock = some g → (Value.slice a n c).ownBlock = some g ∨ w1.drew.heap.size ≤ g) → (∃ gr', LyS B pc po gr' (zs ++ D) (w2.setCell ⟨po, 0, none⟩ (.slice a2 (n + k) c2)) ∧ (∀ g, gr' = some g → gr = some g ∨ w.heap.size ≤ g)) ∧ Fr (fun b => b = po ∨ gr = some b) w (w2.setCell ⟨po, 0, none⟩ (.slice a2 (n + k) c2))) := by
    intro a2 c2 w2 ho2 hg hpl
    obtain ⟨q1, q2, q3⟩ := HST.out a2 c2 w2 hg
    have hz2 : w1.heap.size ≤ w2.heap.size := hg.size
    have hll : (zs ++ D).length = n + k := ho2.len
    rw [hgr] at hpl hg
    have hpl2 : ∀ g, (Value.slice a2 (n + k) c2).ownBlock = some g → gr = some g ∨ w1.heap.size ≤ g := fun g h => hpl g h
    have n1 : (Value.slice a2 (n + k) c2).ownBlock ≠ some po := fun e => by
      rcases hpl2 po e with h | h
      · exact hgpo h
      · omega
    have n2 : (Value.slice a2 (n + k) c2).ownBlock ≠ some pc := fun e => by
      rcases hpl2 pc e with h | h
      · exact hgpc h
      · omega
    have hgs : w2.grownBy (w2.setCell ⟨po, 0, none⟩ (.slice a2 (n + k) c2)) (some po) := (Fr.setCell (fun b => b = po) w2 ⟨po, 0, none⟩ _ rfl) |> fun h => ⟨h.os, h.tape, h.output, h.size, fun k hk hn => h.block k hk (fun e => hn (by rw [e]))⟩
    refine ⟨⟨(Value.slice a2 (n + k) c2).ownBlock, ⟨hne, by simp [World.setCell]; omega, by simp [World.setCell]; omega, by simp [World.setCell]; omega, n2, n1, ?_, ⟨a2, c2, ?_, ?_, by rw [hll]⟩, ?_⟩, fun g h => (hpl2 g h).imp id (fun h => by omega)⟩, ?_⟩
    · rw [World.cell?_setCell_other _ _ _ _ (by intro e; injection e with e1; exact hne e1.symm)]
      exact q3
    · rw [hll]
      exact World.cell?_setCell_same' _ _ _ (by rw [q1]; rfl)
    · rw [hll]
      refine ho2.kept hgs ?_
      cases hg : (Value.slice a2 (n + k) c2).ownBlock with
      | none => exact .inl rfl
      | some g => exact .inr (by rw [← hg]; exact n1)
    · rw [World.frozen?_setCell]
      exact q2
    · have f1 : Fr (fun b => b = po ∨ gr = some b) w w1 := Fr.of_below hb1
      have f2 : Fr (fun b => b = po ∨ gr = some b) w1 w2 := ⟨hg.os, hg.tape, hg.output, hz2, fun b hb hn => hg.block b hb (fun e => hn (.inr e.symm))⟩
      exact (f1.trans f2).trans (Fr.setCell _ _ _ _ (.inl rfl))
  have HBw1 : B ≤ w1.heap.size := by omega
  clear hn hDl hrow hpcc hown hod hfree hby hgr
  go_wp2_with fail
  go_region_law (refine app_step2 rfl _ _ rfl B a n c zs (by simp [Act.eval]) hown1 _ k cd D (by simp [Act.eval]) hsd (by omega) (by simp; omega) ?_; intro a2 c2 w2 ho2 hg2 hpl2; obtain ⟨hpo2, hfr2, hpc2⟩ := HST.out a2 c2 w2 hg2)
  all_goals
    have HF := (show Hid _ from HLY.out a2 c2 w2 ho2 hg2 hpl2)
    go_wp2
    go_ret
    exact ⟨rfl, HF.out.1, HF.out.2⟩
end Go.Proofs.YtfjpckaphfdfnaaGreatDoor
