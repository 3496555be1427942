/- What ip.Split answers. -/
import Derived.Test.YtplicfknjhjjgaaIpCut
namespace Go.Proofs.Ytplicfknjhjjgaa
open Go.RowKit
def spE (dn mo : Bool) (of : Int) (n : Nat) (mtu : Int) : Nat := if mbE mo of n ≠ 0 then mbE mo of n else if mtu < 28 then 2 else if (n : Int) ≤ mtu - 20 then 0 else if dn = true then 10 else 0
def spS (mtu : Int) : Nat := (mtu - 20).toNat / 8 * 8
/-- The pieces that are answered, as they lie. -/
def SpR (w' : World) (B : Nat) (sr ds pr tt id : Nat) (dn mo : Bool) (of : Int) (zs : List Nat) (mtu : Int) (v : Value) (ps : List Pk) : Prop :=
  (¬ spE dn mo of zs.length mtu = 0 ∧ ps = []) ∨
  (spE dn mo of zs.length mtu = 0 ∧ (zs.length : Int) ≤ mtu - 20 ∧ ∃ ab cb, ps = [⟨sr, ds, pr, tt, id, dn, mo, of, ab, zs.length, cb⟩] ∧ OwnB w' B ab zs.length cb zs ∧ (∀ g, v.ownBlock = some g → (Value.slice ab zs.length cb).ownBlock ≠ some g)) ∨
  (spE dn mo of zs.length mtu = 0 ∧ mtu - 20 < (zs.length : Int) ∧ 28 ≤ mtu ∧ dn = false ∧ ∃ g cg, ps = cutL sr ds pr tt id dn mo of.toNat g zs.length (spS mtu) (cutN zs.length (spS mtu)) ∧ OwnB w' B (some ⟨g, 0, none⟩) zs.length cg zs ∧ v.ownBlock ≠ some g)
structure SpP (sr ds pr tt id : Nat) (dn mo : Bool) (of : Int) (zs : List Nat) (mtu : Int) (w : World) (e : Ending) (w' : World) : Prop where
  ans : ∃ a c ps, e = .returned (.tuple #[.slice a ps.length c, .int .i64 (spE dn mo of zs.length mtu : Nat)]) ∧ OwnK w' w.heap.size a ps.length c ps ∧ SpR w' w.heap.size sr ds pr tt id dn mo of zs mtu (.slice a ps.length c) ps
  bel : Below w.heap.size w w'
theorem cutL_len (sr ds pr tt id : Nat) (dn mo : Bool) (o g n s k : Nat) : (cutL sr ds pr tt id dn mo o g n s k).length = k := by simp [cutL]
set_option maxRecDepth 100000 in
set_option maxHeartbeats 1000000 in
theorem split_any (sr ds pr tt id : Nat) (dn mo : Bool) (of : Int) (a : Option Addr) (n c : Nat) (zs : List Nat) (mtu : Int) (w : World) (hs : Sl w a n c zs) (hmtu : (Lit.int .i64 mtu).wf = true) :
    Calls Try.prog 23 #[.agg #[.int .u32 (sr : Nat), .int .u32 (ds : Nat), .int .u8 (pr : Nat), .int .u8 (tt : Nat), .int .u16 (id : Nat), .bool dn, .bool mo, .int .i64 of, .slice a n c], .int .i64 mtu] w fun e w' => SpP sr ds pr tt id dn mo of zs mtu w e w' := by
  have hl := hs.len
  have hsm := hs.small
  have hmb := fun W => mayBe_any sr ds pr tt id dn mo of a n c W hsm
  obtain ⟨W, hW⟩ : ∃ W, W = w.alloc (.cells #[.int .u32 (sr : Nat), .int .u32 (ds : Nat), .int .u8 (pr : Nat), .int .u8 (tt : Nat), .int .u16 (id : Nat), .bool dn, .bool mo, .int .i64 of, .slice a n c] 26) := ⟨_, rfl⟩
  have hX := Stc.new w [.int .u32 (sr : Nat), .int .u32 (ds : Nat), .int .u8 (pr : Nat), .int .u8 (tt : Nat), .int .u16 (id : Nat), .bool dn, .bool mo, .int .i64 of, .slice a n c] 26 W hW
  have hbW : Below w.heap.size w W := by rw [hW]; exact (Below.refl _ _).alloc (Nat.le_refl _) _
  have hsW := hs.below hbW
  have x0 := hX.cell 0 _ rfl
  have x1 := hX.cell 1 _ rfl
  have x2 := hX.cell 2 _ rfl
  have x3 := hX.cell 3 _ rfl
  have x4 := hX.cell 4 _ rfl
  have x5 := hX.cell 5 _ rfl
  have x6 := hX.cell 6 _ rfl
  have x7 := hX.cell 7 _ rfl
  have x8 := hX.cell 8 _ rfl
  by_cases hE : mbE mo of n = 0
  case neg =>
    have HE : Hid (spE dn mo of zs.length mtu = mbE mo of n) := by show _ = _; unfold spE; rw [hl, if_pos hE]
    have hne : ¬ ((mbE mo of n : Nat) : Int) = 0 := by omega
    have hne2 : (((mbE mo of n : Nat) : Int) != 0) = true := by simpa using hne
    generalize mbE mo of n = E at *
    go_enter Try.func23, Try.ntmps23
    go_wp2_with fail
    rw [← hW]
    clear hW
    refine (hmb W).mono ?_
    rintro e w1 ⟨rfl, b1⟩
    go_wp2
    go_ret2
    exact ⟨⟨none, 0, [], by rw [HE.out]; rfl, OwnK.nil _ _, .inl ⟨by rw [HE.out]; exact hE, rfl⟩⟩, hbW.trans (b1.mono hbW.size)⟩
  case pos =>
  obtain ⟨q1, q2, q3, q4, q5⟩ := mbE_ok hE
  obtain ⟨o, ho⟩ : ∃ o : Nat, of = (o : Int) := ⟨of.toNat, by omega⟩
  subst ho
  have HS : Hid (spE dn mo (o : Int) zs.length mtu = if mtu < 28 then 2 else if (n : Int) ≤ mtu - 20 then 0 else if dn = true then 10 else 0) := by show _ = _; unfold spE; rw [hl, if_neg (by rw [hE]; simp)]
  rw [hE] at hmb
  clear q3 q4 hE
  by_cases h1 : mtu < 28
  case pos =>
    have HE : Hid (spE dn mo (o : Int) zs.length mtu = 2) := by show _ = _; rw [HS.out, if_pos h1]
    go_enter Try.func23, Try.ntmps23
    go_wp2_with fail
    rw [← hW]
    clear hW
    refine (hmb W).mono ?_
    rintro e w1 ⟨rfl, b1⟩
    go_wp2
    go_ret2
    exact ⟨⟨none, 0, [], by rw [HE.out]; rfl, OwnK.nil _ _, .inl ⟨by rw [HE.out]; simp, rfl⟩⟩, hbW.trans (b1.mono hbW.size)⟩
  case neg =>
  obtain ⟨M, hM⟩ : ∃ M : Nat, mtu = ((M + 20 : Nat) : Int) := ⟨(mtu - 20).toNat, by omega⟩
  have hMb : M < 9223372036854775807 := by simp [Lit.wf, IntKind.min, IntKind.max, IntKind.signed, IntKind.bits] at hmtu; omega
  have hmr : mtu - 20 = (M : Int) := by omega
  rw [hmr] at HS
  have HMR := (show Hid _ from hmr)
  have h1i : ¬ mtu < 28 := h1
  go_enter Try.func23, Try.ntmps23
  go_wp2_with fail
  rw [← hW]
  clear hW
  refine (hmb W).mono ?_
  rintro e w1 ⟨rfl, b1⟩
  have hX1 := hX.below b1
  have hs1 := hsW.below b1
  have bb1 : Below w.heap.size w w1 := hbW.trans (b1.mono hbW.size)
  clear x0 x1 x2 x3 x4 x5 x6 x7 x8 hX hsW hbW b1 hmb
  have x0 := hX1.cell 0 _ rfl
  have x1 := hX1.cell 1 _ rfl
  have x2 := hX1.cell 2 _ rfl
  have x3 := hX1.cell 3 _ rfl
  have x4 := hX1.cell 4 _ rfl
  have x5 := hX1.cell 5 _ rfl
  have x6 := hX1.cell 6 _ rfl
  have x7 := hX1.cell 7 _ rfl
  have x8 := hX1.cell 8 _ rfl
  have x8f := hX1.free 8
  by_cases h2 : n ≤ M
  case pos =>
    have h2i : (n : Int) ≤ (M : Int) := by omega
    have h2j : (n : Int) ≤ mtu - 20 := by omega
    have HE : Hid (spE dn mo (o : Int) zs.length mtu = 0) := by show _ = _; rw [HS.out, if_neg (by omega), if_pos h2i]
    clear hM
    go_wp2_with fail
    refine (clone_any a n c zs w1 hs1 (by omega)).mono ?_
    rintro e w2 ⟨a2, c2, rfl, o2, _, b2⟩
    have hX2 := hX1.below b2
    have bb2 : Below w.heap.size w w2 := bb1.trans (b2.mono bb1.size)
    have hz1 := hX1.lt
    have hz2 := b2.size
    have hx3 := hX2.set 8 (.slice a2 n c2)
    have o3 := o2.setOther w.heap.size 8 (.slice a2 n c2) (by omega)
    have bb3 := bb2.setCell (p := ⟨w.heap.size, 8, none⟩) (Nat.le_refl _) (.slice a2 n c2)
    obtain ⟨w3, hw3⟩ : ∃ w3, w3 = w2.setCell ⟨w.heap.size, 8, none⟩ (.slice a2 n c2) := ⟨_, rfl⟩
    rw [← hw3] at hx3 o3 bb3
    have z8 := hX2.cell 8 _ rfl
    have z8f := hX2.free 8
    clear x0 x1 x2 x3 x4 x5 x6 x7 x8 x8f
    have x0 := hx3.cell 0 _ rfl
    have x1 := hx3.cell 1 _ rfl
    have x2 := hx3.cell 2 _ rfl
    have x3 := hx3.cell 3 _ rfl
    have x4 := hx3.cell 4 _ rfl
    have x5 := hx3.cell 5 _ rfl
    have x6 := hx3.cell 6 _ rfl
    have x7 := hx3.cell 7 _ rfl
    have x8 := hx3.cell 8 _ rfl
    rw [hw3] at x0 x1 x2 x3 x4 x5 x6 x7 x8
    obtain ⟨w4, hw4⟩ : ∃ w4, w4 = w3.alloc (.cells (Pk.cells ⟨sr, ds, pr, tt, id, dn, mo, (o : Int), a2, n, c2⟩).toArray 26) := ⟨_, rfl⟩
    have k4 := ownK_lit w3 ⟨sr, ds, pr, tt, id, dn, mo, (o : Int), a2, n, c2⟩ w4 hw4
    have b34 : Below w3.heap.size w3 w4 := by rw [hw4]; exact (Below.refl _ _).alloc (Nat.le_refl _) _
    have o4 := (o3.below b34).base (show w.heap.size ≤ w1.heap.size by omega)
    have bb4 : Below w.heap.size w w4 := bb3.trans (b34.mono bb3.size)
    have k4' := k4.base bb3.size
    have hap : ∀ g, (Value.slice (some ⟨w3.heap.size, 0, none⟩) 1 1).ownBlock = some g → (Value.slice a2 n c2).ownBlock ≠ some g := fun g hg e => by
      have h9 : w3.heap.size = g := by simpa [Value.ownBlock] using hg
      have := (o3.own.lt g e).2
      omega
    have HW4 : Hid (w4 = (w2.setCell ⟨w.heap.size, 8, none⟩ (.slice a2 n c2)).alloc (.cells #[.int .u32 (sr : Nat), .int .u32 (ds : Nat), .int .u8 (pr : Nat), .int .u8 (tt : Nat), .int .u16 (id : Nat), .bool dn, .bool mo, .int .i64 ((o : Nat) : Int), .slice a2 n c2] 26)) := by show _ = _; rw [hw4, hw3]; rfl
    have HZ3 : Hid (w3.heap.size = w2.heap.size) := by show _ = _; rw [hw3]; simp [World.setCell]
    have HFA := (show Hid _ from (⟨⟨some ⟨w3.heap.size, 0, none⟩, 1, [⟨sr, ds, pr, tt, id, dn, mo, (o : Int), a2, n, c2⟩], by rw [HE.out]; rfl, k4', .inr (.inl ⟨HE.out, by rw [hl]; exact h2j, a2, c2, by rw [hl], by rw [hl]; exact o4, by rw [hl]; exact hap⟩)⟩, bb4⟩ : SpP sr ds pr tt id dn mo (o : Int) zs mtu w (.returned (.tuple #[.slice (some ⟨w3.heap.size, 0, none⟩) 1 1, .int .i64 0])) w4))
    rw [HW4.out, HZ3.out] at HFA
    clear k4 k4' o4 bb4 hap o3 bb3 hw3 hw4 hx3 o2 b34 HW4 HZ3 hX2 bb2 b2 hX1 hs1
    go_wp2
    go_ret2
    exact HFA.out
  case neg =>
    have h2i : ¬ (n : Int) ≤ (M : Int) := by omega
    have h2j : ¬ (n : Int) ≤ mtu - 20 := by omega
    have HMM := (show Hid _ from hM)
    clear hM
    cases dn with
    | true =>
      have HE : Hid (spE true mo (o : Int) zs.length mtu = 10) := by show _ = _; rw [HS.out, if_neg (by omega), if_neg h2i]; rfl
      go_wp2
      go_ret2
      exact ⟨⟨none, 0, [], by rw [HE.out]; rfl, OwnK.nil _ _, .inl ⟨by rw [HE.out]; simp, rfl⟩⟩, bb1⟩
    | false =>
      have HE : Hid (spE false mo (o : Int) zs.length mtu = 0) := by show _ = _; rw [HS.out, if_neg (by omega), if_neg h2i]; rfl
      have hMn : M < n := by omega
      have hM8 : 8 ≤ M := by omega
      have HSS : Hid (spS mtu = M / 8 * 8) := by show _ = _; unfold spS; rw [HMR.out]; rfl
      have hlt : mtu - 20 < (zs.length : Int) := by rw [hl]; omega
      have HLT := (show Hid _ from hlt)
      clear hlt
      go_wp2_with fail
      rw [show (M : Int) / 8 * 8 = ((M / 8 * 8 : Nat) : Int) from by omega]
      refine (cut_any sr ds pr tt id false mo o a n c (M / 8 * 8) zs w1 hs1 (by omega) (by omega) (by omega) (by omega) (by omega)).mono ?_
      rintro e w2 ⟨a2, c2, g2, cg2, rfl, k2, o2, hne2, b2⟩
      have bb2 : Below w.heap.size w w2 := bb1.trans (b2.mono bb1.size)
      have k3 := k2.base bb1.size
      have o3 := o2.base bb1.size
      rw [← HSS.out] at k3 hne2 ⊢
      have HFA := (show Hid _ from (⟨⟨a2, c2, cutL sr ds pr tt id false mo o g2 n (spS mtu) (cutN n (spS mtu)), by rw [HE.out, cutL_len]; rfl, by rw [cutL_len]; exact k3, .inr (.inr ⟨HE.out, HLT.out, by omega, rfl, g2, cg2, by rw [hl]; rfl, by rw [hl]; exact o3, by rw [cutL_len]; exact hne2⟩)⟩, bb2⟩ : SpP sr ds pr tt id false mo (o : Int) zs mtu w (.returned (.tuple #[.slice a2 (cutN n (spS mtu)) c2, .int .i64 0])) w2))
      clear k2 k3 o2 o3 hne2 b2 bb2 hX1 hs1 bb1
      generalize cutN n (spS mtu) = K at *
      go_wp2
      go_ret2
      exact HFA.out
end Go.Proofs.Ytplicfknjhjjgaa
