/- What ref10.Take answers. -/
import Derived.Test.YtpmfofgnapopaaaIpTake
import Derived.Test.YtpmfofgnapopaaaRefNetI
import Derived.Test.YtpmfofgnapopaaaRefNum
import Derived.Deep.RegionHeld3
import Derived.Deep.Cut
namespace Go.Proofs.Ytpmfofgnapopaaa
open Go.RowKit
theorem numV_one (zs : List Nat) (p : Nat) (h : p < zs.length) : numV zs (p : Int) ((1 : Nat) : Int) = zs.getD p 0 := by
  unfold numV
  have e : nspanE zs.length (p : Int) ((1 : Nat) : Int) = 0 := by
    unfold nspanE spanE
    rw [if_neg (by omega), if_neg (by omega), if_neg (by omega)]
  rw [if_pos e, Int.toNat_natCast, Int.toNat_natCast, List.take_one, List.head?_drop, List.getD_eq_getElem?_getD]
  rw [List.getElem?_eq_getElem h]
  simp [numB]
theorem OwnB.fr2 {w : World} {B : Nat} {a : Option Addr} {n c : Nat} {zs : List Nat} (h : OwnB w B a n c zs) (g o : Nat) (v : Value) (hg : ∀ k, (Value.slice a n c).ownBlock = some k → k ≠ g) : OwnB (w.setCell ⟨g, o, none⟩ v) B a n c zs := by
  have hgs : w.grownBy (w.setCell ⟨g, o, none⟩ v) (some g) := (Fr.setCell (fun b => b = g) w ⟨g, o, none⟩ v rfl) |> fun h => ⟨h.os, h.tape, h.output, h.size, fun k hk hn => h.block k hk (fun e => hn (by rw [e]))⟩
  refine h.kept hgs ?_
  cases hq : (Value.slice a n c).ownBlock with
  | none => exact .inl rfl
  | some q => exact .inr (fun e => by injection e with e; exact hg q hq e)
set_option maxRecDepth 100000 in
set_option maxHeartbeats 1000000 in
theorem number10_any (a : Option Addr) (n c : Nat) (zs : List Nat) (p k : Nat) (r : Nat) (hr : numV zs (p : Int) (k : Int) = r) (hrb : r < 4294967296) (w : World) (hs : Sl w a n c zs) (v1 v2 v3 : Value) (e1 : v1 = .slice a n c) (e2 : v2 = .int .i64 (p : Nat)) (e3 : v3 = .int .i64 (k : Nat)) :
    Calls Try.prog 29 #[v1, v2, v3] w fun e w' => e = .returned (.int .i64 (r : Nat)) ∧ w' = w := by
  subst e1 e2 e3
  have hn := refnum_any a n c zs (p : Int) (k : Int) w hs
  rw [hr] at hn
  go_enter Try.func29, Try.ntmps29
  go_wp2_with fail
  refine hn.mono ?_
  rintro e w' ⟨rfl, hw'⟩
  subst w'
  go_wp2
  go_ret
  exact ⟨rfl, rfl⟩
theorem armZ (W0 X w5 : World) (q gp : Nat) (a5 : Option Addr) (m c5 : Nat) (BY : List Nat) (L : List Value) (hX : gp < X.heap.size) (hqg : q ≠ gp)
    (b0 : Below W0.heap.size W0 X) (oX : OwnB X W0.heap.size (some ⟨q, 0, none⟩) 0 0 []) (pX : Stc X gp L)
    (o5 : OwnB w5 W0.heap.size a5 (0 + m) c5 ([] ++ BY)) (g5 : X.grownBy w5 (Value.slice (some ⟨q, 0, none⟩) 0 0).ownBlock)
    (p5 : ∀ g, (Value.slice a5 (0 + m) c5).ownBlock = some g → (Value.slice (some ⟨q, 0, none⟩) 0 0).ownBlock = some g ∨ X.heap.size ≤ g) :
    Below W0.heap.size W0 w5 ∧ OwnB w5 W0.heap.size a5 m c5 BY ∧ Stc w5 gp L ∧ (∀ k, (Value.slice a5 m c5).ownBlock = some k → k ≠ gp) := by
  have h0 : (Value.slice (some (⟨q, 0, none⟩ : Addr)) 0 0).ownBlock = some q := by simp [Value.ownBlock]
  have bs := b0.size
  refine ⟨b0.trans (oX.up g5 bs), by simpa using o5, ?_, ?_⟩
  · exact pX.fr (Fr.grown g5 (P := fun b => (Value.slice (some ⟨q, 0, none⟩) 0 0).ownBlock = some b) (fun k hk => hk)) (fun h => by rw [h0] at h; injection h with h; exact hqg h)
  · intro k hk e
    have h9 := p5 k (by simpa using hk)
    rw [h0] at h9
    rcases h9 with h9 | h9
    · injection h9 with h9; exact hqg (h9.trans e)
    · omega
theorem rel1 (W0 w5 : World) (SR DS PR TT ID : Nat) (O : Int) (a5 : Option Addr) (m c5 : Nat) (BY : List Nat) (o6 : OwnB w5 W0.heap.size a5 m c5 BY) (b5 : Below W0.heap.size W0 w5) :
    (∃ (gp : Nat) (ab : Option Addr) (cb : Nat), (Value.pointer (some ⟨w5.heap.size, 0, none⟩)) = .pointer (some ⟨gp, 0, none⟩) ∧ W0.heap.size ≤ gp ∧ Stc (w5.alloc (.cells #[.int .u32 (SR : Nat), .int .u32 (DS : Nat), .int .u8 (PR : Nat), .int .u8 (TT : Nat), .int .u16 (ID : Nat), .bool false, .bool false, .int .i64 O, .slice a5 m c5] 26)) gp [.int .u32 (SR : Nat), .int .u32 (DS : Nat), .int .u8 (PR : Nat), .int .u8 (TT : Nat), .int .u16 (ID : Nat), .bool false, .bool false, .int .i64 O, .slice ab m cb] ∧ OwnB (w5.alloc (.cells #[.int .u32 (SR : Nat), .int .u32 (DS : Nat), .int .u8 (PR : Nat), .int .u8 (TT : Nat), .int .u16 (ID : Nat), .bool false, .bool false, .int .i64 O, .slice a5 m c5] 26)) W0.heap.size ab m cb BY ∧ (∀ g, (Value.slice ab m cb).ownBlock = some g → g ≠ gp) ∧ Below W0.heap.size W0 (w5.alloc (.cells #[.int .u32 (SR : Nat), .int .u32 (DS : Nat), .int .u8 (PR : Nat), .int .u8 (TT : Nat), .int .u16 (ID : Nat), .bool false, .bool false, .int .i64 O, .slice a5 m c5] 26))) ∧ Below W0.heap.size W0 (w5.alloc (.cells #[.int .u32 (SR : Nat), .int .u32 (DS : Nat), .int .u8 (PR : Nat), .int .u8 (TT : Nat), .int .u16 (ID : Nat), .bool false, .bool false, .int .i64 O, .slice a5 m c5] 26)) := by
  have bb := b5.alloc b5.size (.cells #[.int .u32 (SR : Nat), .int .u32 (DS : Nat), .int .u8 (PR : Nat), .int .u8 (TT : Nat), .int .u16 (ID : Nat), .bool false, .bool false, .int .i64 O, .slice a5 m c5] 26)
  exact ⟨⟨w5.heap.size, a5, c5, rfl, b5.size, Stc.new w5 [.int .u32 (SR : Nat), .int .u32 (DS : Nat), .int .u8 (PR : Nat), .int .u8 (TT : Nat), .int .u16 (ID : Nat), .bool false, .bool false, .int .i64 O, .slice a5 m c5] 26 _ rfl, o6.below ((Below.refl _ _).alloc (Nat.le_refl _) _), fun g hg e => by have := (o6.own.lt g hg).2; omega, bb⟩, bb⟩
theorem rel2 (W0 w5 : World) (gp : Nat) (hgp : W0.heap.size ≤ gp) (SR DS PR TT ID : Nat) (O : Int) (a5 : Option Addr) (m c5 : Nat) (BY : List Nat) (o6 : OwnB w5 W0.heap.size a5 m c5 BY) (b5 : Below W0.heap.size W0 w5) (q5 : Stc w5 gp [.int .u32 0, .int .u32 0, .int .u8 0, .int .u8 0, .int .u16 0, .bool false, .bool false, .int .i64 0, .slice none 0 0]) (ne5 : ∀ k, (Value.slice a5 m c5).ownBlock = some k → k ≠ gp) :
    (∃ (gp' : Nat) (ab : Option Addr) (cb : Nat), (Value.pointer (some ⟨gp, 0, none⟩)) = .pointer (some ⟨gp', 0, none⟩) ∧ W0.heap.size ≤ gp' ∧ Stc (((((((((w5.setCell ⟨gp, 0, none⟩ (.int .u32 (SR : Nat))).setCell ⟨gp, 1, none⟩ (.int .u32 (DS : Nat))).setCell ⟨gp, 2, none⟩ (.int .u8 (PR : Nat))).setCell ⟨gp, 3, none⟩ (.int .u8 (TT : Nat))).setCell ⟨gp, 4, none⟩ (.int .u16 (ID : Nat))).setCell ⟨gp, 5, none⟩ (.bool false)).setCell ⟨gp, 6, none⟩ (.bool false)).setCell ⟨gp, 7, none⟩ (.int .i64 O)).setCell ⟨gp, 8, none⟩ (.slice a5 m c5)) gp' [.int .u32 (SR : Nat), .int .u32 (DS : Nat), .int .u8 (PR : Nat), .int .u8 (TT : Nat), .int .u16 (ID : Nat), .bool false, .bool false, .int .i64 O, .slice ab m cb] ∧ OwnB (((((((((w5.setCell ⟨gp, 0, none⟩ (.int .u32 (SR : Nat))).setCell ⟨gp, 1, none⟩ (.int .u32 (DS : Nat))).setCell ⟨gp, 2, none⟩ (.int .u8 (PR : Nat))).setCell ⟨gp, 3, none⟩ (.int .u8 (TT : Nat))).setCell ⟨gp, 4, none⟩ (.int .u16 (ID : Nat))).setCell ⟨gp, 5, none⟩ (.bool false)).setCell ⟨gp, 6, none⟩ (.bool false)).setCell ⟨gp, 7, none⟩ (.int .i64 O)).setCell ⟨gp, 8, none⟩ (.slice a5 m c5)) W0.heap.size ab m cb BY ∧ (∀ g, (Value.slice ab m cb).ownBlock = some g → g ≠ gp') ∧ Below W0.heap.size W0 (((((((((w5.setCell ⟨gp, 0, none⟩ (.int .u32 (SR : Nat))).setCell ⟨gp, 1, none⟩ (.int .u32 (DS : Nat))).setCell ⟨gp, 2, none⟩ (.int .u8 (PR : Nat))).setCell ⟨gp, 3, none⟩ (.int .u8 (TT : Nat))).setCell ⟨gp, 4, none⟩ (.int .u16 (ID : Nat))).setCell ⟨gp, 5, none⟩ (.bool false)).setCell ⟨gp, 6, none⟩ (.bool false)).setCell ⟨gp, 7, none⟩ (.int .i64 O)).setCell ⟨gp, 8, none⟩ (.slice a5 m c5))) ∧ Below W0.heap.size W0 (((((((((w5.setCell ⟨gp, 0, none⟩ (.int .u32 (SR : Nat))).setCell ⟨gp, 1, none⟩ (.int .u32 (DS : Nat))).setCell ⟨gp, 2, none⟩ (.int .u8 (PR : Nat))).setCell ⟨gp, 3, none⟩ (.int .u8 (TT : Nat))).setCell ⟨gp, 4, none⟩ (.int .u16 (ID : Nat))).setCell ⟨gp, 5, none⟩ (.bool false)).setCell ⟨gp, 6, none⟩ (.bool false)).setCell ⟨gp, 7, none⟩ (.int .i64 O)).setCell ⟨gp, 8, none⟩ (.slice a5 m c5)) := by
  have bb : Below W0.heap.size W0 (((((((((w5.setCell ⟨gp, 0, none⟩ (.int .u32 (SR : Nat))).setCell ⟨gp, 1, none⟩ (.int .u32 (DS : Nat))).setCell ⟨gp, 2, none⟩ (.int .u8 (PR : Nat))).setCell ⟨gp, 3, none⟩ (.int .u8 (TT : Nat))).setCell ⟨gp, 4, none⟩ (.int .u16 (ID : Nat))).setCell ⟨gp, 5, none⟩ (.bool false)).setCell ⟨gp, 6, none⟩ (.bool false)).setCell ⟨gp, 7, none⟩ (.int .i64 O)).setCell ⟨gp, 8, none⟩ (.slice a5 m c5)) := (((((((((b5.setCell (p := ⟨gp, 0, none⟩) hgp (.int .u32 (SR : Nat))).setCell (p := ⟨gp, 1, none⟩) hgp (.int .u32 (DS : Nat))).setCell (p := ⟨gp, 2, none⟩) hgp (.int .u8 (PR : Nat))).setCell (p := ⟨gp, 3, none⟩) hgp (.int .u8 (TT : Nat))).setCell (p := ⟨gp, 4, none⟩) hgp (.int .u16 (ID : Nat))).setCell (p := ⟨gp, 5, none⟩) hgp (.bool false)).setCell (p := ⟨gp, 6, none⟩) hgp (.bool false)).setCell (p := ⟨gp, 7, none⟩) hgp (.int .i64 O)).setCell (p := ⟨gp, 8, none⟩) hgp (.slice a5 m c5))
  exact ⟨⟨gp, a5, c5, rfl, hgp, (((((((((q5.set 0 (.int .u32 (SR : Nat))).set 1 (.int .u32 (DS : Nat))).set 2 (.int .u8 (PR : Nat))).set 3 (.int .u8 (TT : Nat))).set 4 (.int .u16 (ID : Nat))).set 5 (.bool false)).set 6 (.bool false)).set 7 (.int .i64 O)).set 8 (.slice a5 m c5)), (((((((((o6.fr2 gp 0 (.int .u32 (SR : Nat)) ne5).fr2 gp 1 (.int .u32 (DS : Nat)) ne5).fr2 gp 2 (.int .u8 (PR : Nat)) ne5).fr2 gp 3 (.int .u8 (TT : Nat)) ne5).fr2 gp 4 (.int .u16 (ID : Nat)) ne5).fr2 gp 5 (.bool false) ne5).fr2 gp 6 (.bool false) ne5).fr2 gp 7 (.int .i64 O) ne5).fr2 gp 8 (.slice a5 m c5) ne5), ne5, bb⟩, bb⟩
set_option maxRecDepth 100000 in
set_option maxHeartbeats 8000000 in
theorem ritake_any (a : Option Addr) (n c : Nat) (zs : List Nat) (w : World) (hs : Sl w a n c zs) :
    Calls Try.prog 13 #[.slice a n c] w fun e w' => TipP zs w e w' := by
  have hl := hs.len
  have hcap := hs.cap
  have hsm := hs.small
  have HBAD : Hid (∀ k, itE zs = k → ¬ k = 0 → itB zs = [] ∧ Ending.returned (.tuple #[.agg #[.int .u32 0, .int .u32 0, .int .u8 0, .int .u8 0, .int .u16 0, .bool false, .bool false, .int .i64 0, .slice none 0 0], .int .i64 (k : Nat)]) = .returned (.tuple #[.agg #[.int .u32 (itN zs 12 4 : Nat), .int .u32 (itN zs 16 4 : Nat), .int .u8 (itN zs 9 1 : Nat), .int .u8 (itN zs 8 1 : Nat), .int .u16 (itN zs 4 2 : Nat), .bool (itD zs 16384), .bool (itD zs 8192), .int .i64 (itO zs : Nat), .slice none ([] : List Nat).length 0], .int .i64 (k : Nat)]) ∧ True) := fun k h hk => it_bad zs k hk h
  have hb0 : Below w.heap.size w (w.alloc (.cells #[.int .u32 0, .int .u32 0, .int .u8 0, .int .u8 0, .int .u16 0, .bool false, .bool false, .int .i64 0, .slice none 0 0] 26)) := (Below.refl _ _).alloc (Nat.le_refl _) _
  have hR0 := Stc.new w [.int .u32 0, .int .u32 0, .int .u8 0, .int .u8 0, .int .u16 0, .bool false, .bool false, .int .i64 0, .slice none 0 0] 26 (w.alloc (.cells #[.int .u32 0, .int .u32 0, .int .u8 0, .int .u8 0, .int .u16 0, .bool false, .bool false, .int .i64 0, .slice none 0 0] 26)) rfl
  by_cases h1 : n < 20
  · have hn1 : (n : Int) < 20 := by omega
    have HE : Hid (itE zs = 3) := by show _ = _; unfold itE; rw [if_pos (by omega)]
    have HN := HBAD.out 3 HE.out (by omega)
    have HRG := (show Hid _ from hR0.range)
    have HBB := (show Hid _ from hb0)
    clear hR0 hb0
    go_enter Try.func13, Try.ntmps13
    go_wp2
    try simp only [Exit.inBlock, Exit.then]
    refine bodyPost_ret (results_cellE2 rfl _ _ w.heap.size 0 [.int .u32 0, .int .u32 0, .int .u8 0, .int .u8 0, .int .u16 0, .bool false, .bool false, .int .i64 0, .slice none 0 0] _ rfl HRG.out Try.underlying26 rfl (by kernel_rfl)) rfl ?_
    exact ⟨⟨none, 0, by rw [HN.1, HE.out]; exact HN.2.1, by rw [HN.1]; exact OwnB.nil _ _⟩, HBB.out⟩
  have hn1 : ¬ (n : Int) < 20 := by omega
  rcases hs.at_ with h00 | ⟨b, off, rfl, hltb, hcellw⟩
  · omega
  obtain ⟨W0, hW0⟩ : ∃ W0, W0 = w.alloc (.cells #[.int .u32 0, .int .u32 0, .int .u8 0, .int .u8 0, .int .u16 0, .bool false, .bool false, .int .i64 0, .slice none 0 0] 26) := ⟨_, rfl⟩
  have hs0 := hs.below (show Below w.heap.size w W0 from by rw [hW0]; exact hb0)
  rcases hs0.at_ with h00 | ⟨b', off', e', _, hc0⟩
  · omega
  injection e' with e'
  injection e' with e1' e2'
  subst e1' e2'
  have c0 := hc0 0 (by omega)
  rw [Nat.add_zero] at c0
  have c8 := hc0 8 (by omega)
  have c9 := hc0 9 (by omega)
  have q0 := hs.bnd 0
  have q8 := hs.bnd 8
  have q9 := hs.bnd 9
  have v0 := numV_one zs 0 (by omega)
  have v8 := numV_one zs 8 (by omega)
  have v9 := numV_one zs 9 (by omega)
  obtain ⟨X0, hX0⟩ : ∃ X, X = zs.getD 0 0 := ⟨_, rfl⟩
  obtain ⟨TT, hTT⟩ : ∃ X, X = zs.getD 8 0 := ⟨_, rfl⟩
  obtain ⟨PR, hPR⟩ : ∃ X, X = zs.getD 9 0 := ⟨_, rfl⟩
  rw [← hX0] at c0 q0 v0
  rw [← hTT] at c8 q8 v8
  rw [← hPR] at c9 q9 v9
  obtain ⟨SR, hSR⟩ : ∃ V, V = numV zs 12 4 := ⟨_, rfl⟩
  obtain ⟨DS, hDS⟩ : ∃ V, V = numV zs 16 4 := ⟨_, rfl⟩
  obtain ⟨ID, hID⟩ : ∃ V, V = numV zs 4 2 := ⟨_, rfl⟩
  obtain ⟨BT, hBT⟩ : ∃ V, V = numV zs 6 2 := ⟨_, rfl⟩
  obtain ⟨WH, hWH⟩ : ∃ V, V = numV zs 2 2 := ⟨_, rfl⟩
  obtain ⟨HD, hHD⟩ : ∃ V, V = X0 % 16 * 4 := ⟨_, rfl⟩
  have qS : SR < 4294967296 := by rw [hSR]; exact numV_lt zs 12 4 hs.bnd
  have qD : DS < 4294967296 := by rw [hDS]; exact numV_lt zs 16 4 hs.bnd
  have qI : ID < 65536 := by rw [hID]; exact numV_lt zs 4 2 hs.bnd
  have qB : BT < 65536 := by rw [hBT]; exact numV_lt zs 6 2 hs.bnd
  have qW : WH < 65536 := by rw [hWH]; exact numV_lt zs 2 2 hs.bnd
  have HIT : Hid (itE zs = if zs.length < 20 then 3 else if lnE (X0 / 16) HD WH zs.length ≠ 0 then lnE (X0 / 16) HD WH zs.length else if net (zs.take HD) ≠ 0 then 5 else if BT / 32768 % 2 = 1 ∨ (BT / 8192 % 2 = 1 ∧ (WH - HD) % 8 ≠ 0) then 4 else if 65515 < BT % 8192 * 8 + (WH - HD) then 6 else 0) := by
    show _ = _
    have v0' : numV zs 0 1 = X0 := v0
    rw [hHD, hBT, hWH, ← v0']
    rfl
  have HOK : Hid (itE zs = 0 → itN zs 12 4 = SR ∧ itN zs 16 4 = DS ∧ itN zs 9 1 = PR ∧ itN zs 8 1 = TT ∧ itN zs 4 2 = ID ∧ itD zs 16384 = decide (BT / 16384 % 2 = 1) ∧ itD zs 8192 = decide (BT / 8192 % 2 = 1) ∧ itO zs = BT % 8192 * 8 ∧ itB zs = (zs.drop HD).take (WH - HD)) := by
    intro h
    have v0' : numV zs 0 1 = X0 := v0
    unfold itN itD itO itB
    rw [if_pos h, if_pos h, if_pos h, if_pos h, if_pos h, if_pos h, if_pos h, if_pos h, if_pos h]
    refine ⟨hSR.symm, hDS.symm, v9, v8, hID.symm, by rw [hBT], by rw [hBT], by rw [hBT], ?_⟩
    rw [hHD, hWH, ← v0']
    rfl
  have HSR := (show Hid _ from hSR.symm)
  have HDS := (show Hid _ from hDS.symm)
  have HID := (show Hid _ from hID.symm)
  have HBT := (show Hid _ from hBT.symm)
  have HWH := (show Hid _ from hWH.symm)
  have HHD := (show Hid _ from hHD)
  have hHDb : HD ≤ 60 := by omega
  have hw0 := c0
  have hb0' := hb0
  rw [← hW0] at hb0 hR0
  have c0' : (w.alloc (.cells #[.int .u32 0, .int .u32 0, .int .u8 0, .int .u8 0, .int .u16 0, .bool false, .bool false, .int .i64 0, .slice none 0 0] 26)).cell? ⟨b, off, none⟩ = some (.int .u8 (X0 : Nat)) := by rw [← hW0]; exact c0
  clear hX0 hTT hPR hSR hDS hID hBT hWH v0 v8 v9 hc0 hcellw hw0 hHD
  have hHi : (X0 : Int) % 16 * 4 = (HD : Int) := by have := HHD.out; omega
  have hX16 : X0 / 16 < 16 := by omega
  by_cases g1 : X0 / 16 = 4
  case neg =>
    have t1 : ((X0 : Int) / 16 != 4) = true := by simp; omega
    have HL : Hid (lnE (X0 / 16) HD WH n = 4) := by show _ = _; unfold lnE; rw [if_pos (.inl g1)]
    have HE : Hid (itE zs = 4) := by show _ = _; rw [HIT.out, hl, if_neg h1, HL.out, if_pos (by simp)]
    have HN := HBAD.out 4 HE.out (by omega)
    rw [hW0] at hR0
    have HRG := (show Hid _ from hR0.range)
    have HBB := (show Hid _ from hb0')
    clear hR0 hb0 hb0'
    go_enter Try.func13, Try.ntmps13
    go_wp2
    try simp only [Exit.inBlock, Exit.then]
    refine bodyPost_ret (results_cellE2 rfl _ _ w.heap.size 0 [.int .u32 0, .int .u32 0, .int .u8 0, .int .u8 0, .int .u16 0, .bool false, .bool false, .int .i64 0, .slice none 0 0] _ rfl HRG.out Try.underlying26 rfl (by kernel_rfl)) rfl ?_
    exact ⟨⟨none, 0, by rw [HN.1, HE.out]; exact HN.2.1, by rw [HN.1]; exact OwnB.nil _ _⟩, HBB.out⟩
  case pos =>
  have t1 : ((X0 : Int) / 16 != 4) = false := by simp; omega
  by_cases g2 : HD < 20
  case pos =>
    have t2 : (HD : Int) < 20 := by omega
    have HL : Hid (lnE (X0 / 16) HD WH n = 4) := by show _ = _; unfold lnE; rw [if_pos (.inr g2)]
    have HE : Hid (itE zs = 4) := by show _ = _; rw [HIT.out, hl, if_neg h1, HL.out, if_pos (by simp)]
    have HN := HBAD.out 4 HE.out (by omega)
    rw [hW0] at hR0
    have HRG := (show Hid _ from hR0.range)
    have HBB := (show Hid _ from hb0')
    clear hR0 hb0 hb0'
    go_enter Try.func13, Try.ntmps13
    go_wp2
    try simp only [Exit.inBlock, Exit.then]
    refine bodyPost_ret (results_cellE2 rfl _ _ w.heap.size 0 [.int .u32 0, .int .u32 0, .int .u8 0, .int .u8 0, .int .u16 0, .bool false, .bool false, .int .i64 0, .slice none 0 0] _ rfl HRG.out Try.underlying26 rfl (by kernel_rfl)) rfl ?_
    exact ⟨⟨none, 0, by rw [HN.1, HE.out]; exact HN.2.1, by rw [HN.1]; exact OwnB.nil _ _⟩, HBB.out⟩
  case neg =>
  have t2 : ¬ (HD : Int) < 20 := by omega
  have N2 : Hid (¬ (X0 / 16 ≠ 4 ∨ HD < 20)) := by intro h; omega
  by_cases g3 : n < HD
  case pos =>
    have t3 : (n : Int) < (HD : Int) := by omega
    have HL : Hid (lnE (X0 / 16) HD WH n = 3) := by show _ = _; unfold lnE; rw [if_neg N2.out, if_pos g3]
    have HE : Hid (itE zs = 3) := by show _ = _; rw [HIT.out, hl, if_neg h1, HL.out, if_pos (by simp)]
    have HN := HBAD.out 3 HE.out (by omega)
    rw [hW0] at hR0
    have HRG := (show Hid _ from hR0.range)
    have HBB := (show Hid _ from hb0')
    clear hR0 hb0 hb0'
    go_enter Try.func13, Try.ntmps13
    go_wp2
    try simp only [Exit.inBlock, Exit.then]
    refine bodyPost_ret (results_cellE2 rfl _ _ w.heap.size 0 [.int .u32 0, .int .u32 0, .int .u8 0, .int .u8 0, .int .u16 0, .bool false, .bool false, .int .i64 0, .slice none 0 0] _ rfl HRG.out Try.underlying26 rfl (by kernel_rfl)) rfl ?_
    exact ⟨⟨none, 0, by rw [HN.1, HE.out]; exact HN.2.1, by rw [HN.1]; exact OwnB.nil _ _⟩, HBB.out⟩
  case neg =>
  have t3 : ¬ (n : Int) < (HD : Int) := by omega
  have hst := fun W => slice_to (some ⟨b, off, none⟩) n c HD (by omega) W
  have hsH0 := hs0.takeE HD (by omega) (by omega)
  go_enter Try.func13, Try.ntmps13
  go_wp2_with fail
  rw [← hW0]
  clear hW0 c0' hb0'
  refine (number10_any _ n c zs 2 2 WH HWH.out (by omega) _ hs0 _ _ _ rfl rfl rfl).mono ?_
  rintro e w' ⟨rfl, hw'⟩
  subst w'
  by_cases g4 : WH < HD
  case pos =>
    have t4 : (WH : Int) < (HD : Int) := by omega
    have HL : Hid (lnE (X0 / 16) HD WH n = 4) := by show _ = _; unfold lnE; rw [if_neg N2.out, if_neg g3, if_pos g4]
    have HE : Hid (itE zs = 4) := by show _ = _; rw [HIT.out, hl, if_neg h1, HL.out, if_pos (by simp)]
    have HN := HBAD.out 4 HE.out (by omega)
    have r0 := hR0.cell 0 _ rfl
    have r1 := hR0.cell 1 _ rfl
    have r2 := hR0.cell 2 _ rfl
    have r3 := hR0.cell 3 _ rfl
    have r4 := hR0.cell 4 _ rfl
    have r5 := hR0.cell 5 _ rfl
    have r6 := hR0.cell 6 _ rfl
    have r7 := hR0.cell 7 _ rfl
    have r8 := hR0.cell 8 _ rfl
    have r0f := hR0.free 0
    have r1f := hR0.free 1
    have r2f := hR0.free 2
    have r3f := hR0.free 3
    have r4f := hR0.free 4
    have r5f := hR0.free 5
    have r6f := hR0.free 6
    have r7f := hR0.free 7
    have r8f := hR0.free 8
    have hR9 := (((((((((hR0.set 0 (.int .u32 0)).set 1 (.int .u32 0)).set 2 (.int .u8 0)).set 3 (.int .u8 0)).set 4 (.int .u16 0)).set 5 (.bool false)).set 6 (.bool false)).set 7 (.int .i64 0)).set 8 (.slice none 0 0))
    have hb9 := (((((((((hb0.setCell (p := ⟨w.heap.size, 0, none⟩) (Nat.le_refl _) (.int .u32 0)).setCell (p := ⟨w.heap.size, 1, none⟩) (Nat.le_refl _) (.int .u32 0)).setCell (p := ⟨w.heap.size, 2, none⟩) (Nat.le_refl _) (.int .u8 0)).setCell (p := ⟨w.heap.size, 3, none⟩) (Nat.le_refl _) (.int .u8 0)).setCell (p := ⟨w.heap.size, 4, none⟩) (Nat.le_refl _) (.int .u16 0)).setCell (p := ⟨w.heap.size, 5, none⟩) (Nat.le_refl _) (.bool false)).setCell (p := ⟨w.heap.size, 6, none⟩) (Nat.le_refl _) (.bool false)).setCell (p := ⟨w.heap.size, 7, none⟩) (Nat.le_refl _) (.int .i64 0)).setCell (p := ⟨w.heap.size, 8, none⟩) (Nat.le_refl _) (.slice none 0 0))
    have HRG := (show Hid _ from hR9.range)
    have HBB := (show Hid _ from hb9)
    clear hR9 hb9
    clear hR0 hb0
    go_wp2
    try simp only [Exit.inBlock, Exit.then]
    refine bodyPost_ret (results_cellE2 rfl _ _ w.heap.size 0 [.int .u32 0, .int .u32 0, .int .u8 0, .int .u8 0, .int .u16 0, .bool false, .bool false, .int .i64 0, .slice none 0 0] _ rfl HRG.out Try.underlying26 rfl (by kernel_rfl)) rfl ?_
    exact ⟨⟨none, 0, by rw [HN.1, HE.out]; exact HN.2.1, by rw [HN.1]; exact OwnB.nil _ _⟩, HBB.out⟩
  case neg =>
  have t4 : ¬ (WH : Int) < (HD : Int) := by omega
  by_cases g5 : n < WH
  case pos =>
    have t5 : (n : Int) < (WH : Int) := by omega
    have HL : Hid (lnE (X0 / 16) HD WH n = 3) := by show _ = _; unfold lnE; rw [if_neg N2.out, if_neg g3, if_neg g4, if_pos g5]
    have HE : Hid (itE zs = 3) := by show _ = _; rw [HIT.out, hl, if_neg h1, HL.out, if_pos (by simp)]
    have HN := HBAD.out 3 HE.out (by omega)
    have r0 := hR0.cell 0 _ rfl
    have r1 := hR0.cell 1 _ rfl
    have r2 := hR0.cell 2 _ rfl
    have r3 := hR0.cell 3 _ rfl
    have r4 := hR0.cell 4 _ rfl
    have r5 := hR0.cell 5 _ rfl
    have r6 := hR0.cell 6 _ rfl
    have r7 := hR0.cell 7 _ rfl
    have r8 := hR0.cell 8 _ rfl
    have r0f := hR0.free 0
    have r1f := hR0.free 1
    have r2f := hR0.free 2
    have r3f := hR0.free 3
    have r4f := hR0.free 4
    have r5f := hR0.free 5
    have r6f := hR0.free 6
    have r7f := hR0.free 7
    have r8f := hR0.free 8
    have hR9 := (((((((((hR0.set 0 (.int .u32 0)).set 1 (.int .u32 0)).set 2 (.int .u8 0)).set 3 (.int .u8 0)).set 4 (.int .u16 0)).set 5 (.bool false)).set 6 (.bool false)).set 7 (.int .i64 0)).set 8 (.slice none 0 0))
    have hb9 := (((((((((hb0.setCell (p := ⟨w.heap.size, 0, none⟩) (Nat.le_refl _) (.int .u32 0)).setCell (p := ⟨w.heap.size, 1, none⟩) (Nat.le_refl _) (.int .u32 0)).setCell (p := ⟨w.heap.size, 2, none⟩) (Nat.le_refl _) (.int .u8 0)).setCell (p := ⟨w.heap.size, 3, none⟩) (Nat.le_refl _) (.int .u8 0)).setCell (p := ⟨w.heap.size, 4, none⟩) (Nat.le_refl _) (.int .u16 0)).setCell (p := ⟨w.heap.size, 5, none⟩) (Nat.le_refl _) (.bool false)).setCell (p := ⟨w.heap.size, 6, none⟩) (Nat.le_refl _) (.bool false)).setCell (p := ⟨w.heap.size, 7, none⟩) (Nat.le_refl _) (.int .i64 0)).setCell (p := ⟨w.heap.size, 8, none⟩) (Nat.le_refl _) (.slice none 0 0))
    have HRG := (show Hid _ from hR9.range)
    have HBB := (show Hid _ from hb9)
    clear hR9 hb9
    clear hR0 hb0
    go_wp2
    try simp only [Exit.inBlock, Exit.then]
    refine bodyPost_ret (results_cellE2 rfl _ _ w.heap.size 0 [.int .u32 0, .int .u32 0, .int .u8 0, .int .u8 0, .int .u16 0, .bool false, .bool false, .int .i64 0, .slice none 0 0] _ rfl HRG.out Try.underlying26 rfl (by kernel_rfl)) rfl ?_
    exact ⟨⟨none, 0, by rw [HN.1, HE.out]; exact HN.2.1, by rw [HN.1]; exact OwnB.nil _ _⟩, HBB.out⟩
  case neg =>
  have t5 : ¬ (n : Int) < (WH : Int) := by omega
  have HL : Hid (lnE (X0 / 16) HD WH n = 0) := by show _ = _; unfold lnE; rw [if_neg N2.out, if_neg g3, if_neg g4, if_neg g5]
  have HIT2 : Hid (itE zs = if net (zs.take HD) ≠ 0 then 5 else if BT / 32768 % 2 = 1 ∨ (BT / 8192 % 2 = 1 ∧ (WH - HD) % 8 ≠ 0) then 4 else if 65515 < BT % 8192 * 8 + (WH - HD) then 6 else 0) := by show _ = _; rw [HIT.out, hl, if_neg h1, HL.out, if_neg (by simp)]
  go_wp2_with fail
  refine (refnet_any (some ⟨b, off, none⟩) HD c (zs.take HD) W0 hsH0).mono ?_
  rintro e w' ⟨rfl, hw'⟩
  subst w'
  generalize net (zs.take HD) = NT at *
  by_cases g6 : NT = 0
  case neg =>
    have HE : Hid (itE zs = 5) := by show _ = _; rw [HIT2.out, if_pos g6]
    have HN := HBAD.out 5 HE.out (by omega)
    have t6 : ¬ (NT : Int) = 0 := by omega
    have t6b : ((NT : Int) != 0) = true := by simpa using t6
    have r0 := hR0.cell 0 _ rfl
    have r1 := hR0.cell 1 _ rfl
    have r2 := hR0.cell 2 _ rfl
    have r3 := hR0.cell 3 _ rfl
    have r4 := hR0.cell 4 _ rfl
    have r5 := hR0.cell 5 _ rfl
    have r6 := hR0.cell 6 _ rfl
    have r7 := hR0.cell 7 _ rfl
    have r8 := hR0.cell 8 _ rfl
    have r0f := hR0.free 0
    have r1f := hR0.free 1
    have r2f := hR0.free 2
    have r3f := hR0.free 3
    have r4f := hR0.free 4
    have r5f := hR0.free 5
    have r6f := hR0.free 6
    have r7f := hR0.free 7
    have r8f := hR0.free 8
    have hR9 := (((((((((hR0.set 0 (.int .u32 0)).set 1 (.int .u32 0)).set 2 (.int .u8 0)).set 3 (.int .u8 0)).set 4 (.int .u16 0)).set 5 (.bool false)).set 6 (.bool false)).set 7 (.int .i64 0)).set 8 (.slice none 0 0))
    have hb9 := (((((((((hb0.setCell (p := ⟨w.heap.size, 0, none⟩) (Nat.le_refl _) (.int .u32 0)).setCell (p := ⟨w.heap.size, 1, none⟩) (Nat.le_refl _) (.int .u32 0)).setCell (p := ⟨w.heap.size, 2, none⟩) (Nat.le_refl _) (.int .u8 0)).setCell (p := ⟨w.heap.size, 3, none⟩) (Nat.le_refl _) (.int .u8 0)).setCell (p := ⟨w.heap.size, 4, none⟩) (Nat.le_refl _) (.int .u16 0)).setCell (p := ⟨w.heap.size, 5, none⟩) (Nat.le_refl _) (.bool false)).setCell (p := ⟨w.heap.size, 6, none⟩) (Nat.le_refl _) (.bool false)).setCell (p := ⟨w.heap.size, 7, none⟩) (Nat.le_refl _) (.int .i64 0)).setCell (p := ⟨w.heap.size, 8, none⟩) (Nat.le_refl _) (.slice none 0 0))
    have HRG := (show Hid _ from hR9.range)
    have HBB := (show Hid _ from hb9)
    clear hR9 hb9
    clear hR0 hb0
    go_wp2
    try simp only [Exit.inBlock, Exit.then]
    refine bodyPost_ret (results_cellE2 rfl _ _ w.heap.size 0 [.int .u32 0, .int .u32 0, .int .u8 0, .int .u8 0, .int .u16 0, .bool false, .bool false, .int .i64 0, .slice none 0 0] _ rfl HRG.out Try.underlying26 rfl (by kernel_rfl)) rfl ?_
    exact ⟨⟨none, 0, by rw [HN.1, HE.out]; exact HN.2.1, by rw [HN.1]; exact OwnB.nil _ _⟩, HBB.out⟩
  case pos =>
  subst g6
  go_wp2_with fail
  refine (number10_any _ n c zs 6 2 BT HBT.out (by omega) _ hs0 _ _ _ rfl rfl rfl).mono ?_
  rintro e w' ⟨rfl, hw'⟩
  subst w'
  obtain ⟨m, hm⟩ : ∃ m, m = WH - HD := ⟨_, rfl⟩
  rw [← hm] at HIT2 HOK
  have HM := (show Hid _ from hm)
  have hmn : m ≤ n := by omega
  have hmW : m ≤ 65536 := by omega
  have hsl0 := slice_lh b off n c HD WH (by omega) (by omega)
  rw [← hm] at hsl0
  obtain ⟨ab0, hab, hab2⟩ := hsl0
  have hsB0 : Sl W0 (some ab0) m (c - HD) ((zs.drop HD).take m) := by rw [hm]; exact hs0.midE HD WH (by omega) (by omega) (by omega) ab0 hab2
  have hBl : ((zs.drop HD).take m).length = m := hsB0.len
  obtain ⟨BY, hBY⟩ : ∃ B, B = (zs.drop HD).take m := ⟨_, rfl⟩
  rw [← hBY] at hsB0 hBl HOK
  have HSW : Hid (∀ W', Below W0.heap.size W0 W' → Sl W' (some ⟨b, off, none⟩) n c zs ∧ W'.cell? ⟨b, off + 8, none⟩ = some (.int .u8 (TT : Nat)) ∧ W'.cell? ⟨b, off + 9, none⟩ = some (.int .u8 (PR : Nat))) := fun W' h => ⟨hs0.below h, (h.cell (p := ⟨b, off + 8, none⟩) (by assumption)).trans c8, (h.cell (p := ⟨b, off + 9, none⟩) (by assumption)).trans c9⟩
  have bD : Below W0.heap.size W0 W0.drew := (Below.refl _ _).drew
  have zD : W0.drew.heap.size = W0.heap.size := rfl
  have hwI : IntKind.u16.wrap (ID : Int) = (ID : Int) := by rw [IntKind.wrap_u16]; omega
  have hwS : IntKind.u32.wrap (SR : Int) = (SR : Int) := by rw [IntKind.wrap_u32]; omega
  have hwD : IntKind.u32.wrap (DS : Int) = (DS : Int) := by rw [IntKind.wrap_u32]; omega
  have hmI : (ID : Int) % 65536 = (ID : Int) := by omega
  have hmS : (SR : Int) % 4294967296 = (SR : Int) := by omega
  have hmD : (DS : Int) % 4294967296 = (DS : Int) := by omega
  have hWi : (HD : Int) ≤ (WH : Int) := by omega
  have HBYl := (show Hid _ from hBl)
  clear hm hBY hBl
  obtain ⟨hsD, c8D, c9D⟩ := HSW.out _ bD
  go_wp2_with fail
  go_cut [7] from 8 (fun s7 wc => ∃ (gp : Nat) (ab : Option Addr) (cb : Nat), s7 = .pointer (some ⟨gp, 0, none⟩) ∧ W0.heap.size ≤ gp ∧ Stc wc gp [.int .u32 (SR : Nat), .int .u32 (DS : Nat), .int .u8 (PR : Nat), .int .u8 (TT : Nat), .int .u16 (ID : Nat), .bool false, .bool false, .int .i64 ((BT : Int) % 8192 * 8), .slice ab m cb] ∧ OwnB wc W0.heap.size ab m cb BY ∧ (∀ g, (Value.slice ab m cb).ownBlock = some g → g ≠ gp) ∧ Below W0.heap.size W0 wc)
  case first =>
    have zE : (W0.alloc (.cells #[] 5)).heap.size = W0.heap.size + 1 := by simp
    have zZ : (W0.alloc (.cells #[.int .u32 0, .int .u32 0, .int .u8 0, .int .u8 0, .int .u16 0, .bool false, .bool false, .int .i64 0, .slice none 0 0] 26)).heap.size = W0.heap.size + 1 := by simp
    have bE0 : Below W0.heap.size W0 (W0.alloc (.cells #[] 5)) := (Below.refl _ _).alloc (Nat.le_refl _) _
    have bZ0 : Below W0.heap.size W0 (W0.alloc (.cells #[.int .u32 0, .int .u32 0, .int .u8 0, .int .u8 0, .int .u16 0, .bool false, .bool false, .int .i64 0, .slice none 0 0] 26)) := (Below.refl _ _).alloc (Nat.le_refl _) _
    have bE : Below W0.heap.size W0 (W0.alloc (.cells #[] 5)).drew := bE0.drew
    have bZ : Below W0.heap.size W0 (W0.alloc (.cells #[.int .u32 0, .int .u32 0, .int .u8 0, .int .u8 0, .int .u16 0, .bool false, .bool false, .int .i64 0, .slice none 0 0] 26)).drew := bZ0.drew
    have bEZ : Below W0.heap.size W0 ((W0.alloc (.cells #[] 5)).alloc (.cells #[.int .u32 0, .int .u32 0, .int .u8 0, .int .u8 0, .int .u16 0, .bool false, .bool false, .int .i64 0, .slice none 0 0] 26)).drew := (bE0.alloc (by simp) _).drew
    have bZE : Below W0.heap.size W0 ((W0.alloc (.cells #[.int .u32 0, .int .u32 0, .int .u8 0, .int .u8 0, .int .u16 0, .bool false, .bool false, .int .i64 0, .slice none 0 0] 26)).alloc (.cells #[] 5)).drew := (bZ0.alloc (by simp) _).drew
    have oE : OwnB (W0.alloc (.cells #[] 5)).drew W0.heap.size (some ⟨W0.heap.size, 0, none⟩) 0 0 [] := (own_empty W0).below (Below.refl _ _).drew
    have oEZ : OwnB ((W0.alloc (.cells #[] 5)).alloc (.cells #[.int .u32 0, .int .u32 0, .int .u8 0, .int .u8 0, .int .u16 0, .bool false, .bool false, .int .i64 0, .slice none 0 0] 26)).drew W0.heap.size (some ⟨W0.heap.size, 0, none⟩) 0 0 [] := ((own_empty W0).below ((Below.refl _ _).alloc (Nat.le_refl _) _)).below (Below.refl _ _).drew
    have oZE : OwnB ((W0.alloc (.cells #[.int .u32 0, .int .u32 0, .int .u8 0, .int .u8 0, .int .u16 0, .bool false, .bool false, .int .i64 0, .slice none 0 0] 26)).alloc (.cells #[] 5)).drew W0.heap.size (some ⟨W0.heap.size + 1, 0, none⟩) 0 0 [] := by
      have := ((own_empty (W0.alloc (.cells #[.int .u32 0, .int .u32 0, .int .u8 0, .int .u8 0, .int .u16 0, .bool false, .bool false, .int .i64 0, .slice none 0 0] 26))).base (B' := W0.heap.size) (by simp)).below (Below.refl _ _).drew
      rwa [zZ] at this
    have p2 : Stc ((W0.alloc (.cells #[] 5)).alloc (.cells #[.int .u32 0, .int .u32 0, .int .u8 0, .int .u8 0, .int .u16 0, .bool false, .bool false, .int .i64 0, .slice none 0 0] 26)).drew (W0.heap.size + 1) [.int .u32 0, .int .u32 0, .int .u8 0, .int .u8 0, .int .u16 0, .bool false, .bool false, .int .i64 0, .slice none 0 0] := by
      have := (Stc.new (W0.alloc (.cells #[] 5)) [.int .u32 0, .int .u32 0, .int .u8 0, .int .u8 0, .int .u16 0, .bool false, .bool false, .int .i64 0, .slice none 0 0] 26 _ rfl).below (Below.refl _ _).drew
      rwa [zE] at this
    have p3 : Stc ((W0.alloc (.cells #[.int .u32 0, .int .u32 0, .int .u8 0, .int .u8 0, .int .u16 0, .bool false, .bool false, .int .i64 0, .slice none 0 0] 26)).alloc (.cells #[] 5)).drew W0.heap.size [.int .u32 0, .int .u32 0, .int .u8 0, .int .u8 0, .int .u16 0, .bool false, .bool false, .int .i64 0, .slice none 0 0] := ((Stc.new W0 [.int .u32 0, .int .u32 0, .int .u8 0, .int .u8 0, .int .u16 0, .bool false, .bool false, .int .i64 0, .slice none 0 0] 26 _ rfl).below ((Below.refl _ _).alloc (Nat.le_refl _) _)).below (Below.refl _ _).drew
    have sBE := hsB0.below bE
    have sBEZ := hsB0.below bEZ
    have sBZE := hsB0.below bZE
    clear zE zZ bE0 bZ0
    have hi9 : (9 : Int) < (n : Int) := by omega
    have HWT : Hid (IntKind.i64.wrap ((BT : Int).tmod 8192 * 8) = (BT : Int) % 8192 * 8) := by show _ = _; rw [Int.tmod_eq_emod_of_nonneg (by omega), IntKind.wrap_i64]; omega
    have hi8 : (8 : Int) < (n : Int) := by omega
    go_region_held3 (fun w' => Sl w' (some ⟨b, off, none⟩) n c zs ∧ w'.cell? ⟨b, off + 8, none⟩ = some (.int .u8 (TT : Nat)) ∧ w'.cell? ⟨b, off + 9, none⟩ = some (.int .u8 (PR : Nat))) (first | with_reducible exact HSW.out _ bD | with_reducible exact HSW.out _ bE | with_reducible exact HSW.out _ bZ | with_reducible exact HSW.out _ bEZ | with_reducible exact HSW.out _ bZE | with_reducible exact HSW.out _ b5 | with_reducible exact HSW.out _ (b5.alloc b5.size _) | with_reducible exact HSW.out _ HREL.out.2 | (rw [HWT.out]; with_reducible exact HSW.out _ HREL.out.2) | fail) (first
      | (go_at_call 29; first
          | (refine (number10_any _ n c zs 12 4 SR HSR.out qS _ (by first | with_reducible exact (HSW.out _ bD).1 | with_reducible exact (HSW.out _ bE).1 | with_reducible exact (HSW.out _ bZ).1 | with_reducible exact (HSW.out _ bEZ).1 | with_reducible exact (HSW.out _ bZE).1) _ _ _ (by rfl) (by rfl) (by rfl)).mono ?_; rintro e w' ⟨rfl, hw'⟩; subst w')
          | (refine (number10_any _ n c zs 16 4 DS HDS.out qD _ (by first | with_reducible exact (HSW.out _ bD).1 | with_reducible exact (HSW.out _ bE).1 | with_reducible exact (HSW.out _ bZ).1 | with_reducible exact (HSW.out _ bEZ).1 | with_reducible exact (HSW.out _ bZE).1) _ _ _ (by rfl) (by rfl) (by rfl)).mono ?_; rintro e w' ⟨rfl, hw'⟩; subst w')
          | (refine (number10_any _ n c zs 4 2 ID HID.out (by omega) _ (by first | with_reducible exact (HSW.out _ bD).1 | with_reducible exact (HSW.out _ bE).1 | with_reducible exact (HSW.out _ bZ).1 | with_reducible exact (HSW.out _ bEZ).1 | with_reducible exact (HSW.out _ bZE).1) _ _ _ (by rfl) (by rfl) (by rfl)).mono ?_; rintro e w' ⟨rfl, hw'⟩; subst w')
          | fail)
      | (refine app_step2 (by rfl) _ _ (by rfl) W0.heap.size _ 0 0 [] (by rfl) (by with_reducible exact oE) _ m (c - HD) BY (by rfl) (by with_reducible exact sBE) (by omega) bE.size ?_; intro a5 c5 w5 o5 g5 p5; have b5 : Below W0.heap.size W0 w5 := bE.trans (oE.up g5 bE.size); have o6 : OwnB w5 W0.heap.size a5 m c5 BY := (by simpa using o5); have HREL := (show Hid _ from rel1 W0 w5 SR DS PR TT ID ((BT : Int) % 8192 * 8) a5 m c5 BY o6 b5))
      | (refine app_step2 (by rfl) _ _ (by rfl) W0.heap.size _ 0 0 [] (by rfl) (by with_reducible exact oEZ) _ m (c - HD) BY (by rfl) (by with_reducible exact sBEZ) (by omega) bEZ.size ?_; intro a5 c5 w5 o5 g5 p5; obtain ⟨b5, o6, q5, ne5⟩ := armZ W0 _ w5 (W0.heap.size) (W0.heap.size + 1) a5 m c5 BY _ p2.lt (by omega) bEZ oEZ p2 o5 g5 p5; have z0 := q5.cell 0 _ rfl; have z0f := q5.free 0; have z1 := q5.cell 1 _ rfl; have z1f := q5.free 1; have z2 := q5.cell 2 _ rfl; have z2f := q5.free 2; have z3 := q5.cell 3 _ rfl; have z3f := q5.free 3; have z4 := q5.cell 4 _ rfl; have z4f := q5.free 4; have z5 := q5.cell 5 _ rfl; have z5f := q5.free 5; have z6 := q5.cell 6 _ rfl; have z6f := q5.free 6; have z7 := q5.cell 7 _ rfl; have z7f := q5.free 7; have z8 := q5.cell 8 _ rfl; have z8f := q5.free 8; have HREL := (show Hid _ from rel2 W0 w5 (W0.heap.size + 1) (by omega) SR DS PR TT ID ((BT : Int) % 8192 * 8) a5 m c5 BY o6 b5 q5 ne5))
      | (refine app_step2 (by rfl) _ _ (by rfl) W0.heap.size _ 0 0 [] (by rfl) (by with_reducible exact oZE) _ m (c - HD) BY (by rfl) (by with_reducible exact sBZE) (by omega) bZE.size ?_; intro a5 c5 w5 o5 g5 p5; obtain ⟨b5, o6, q5, ne5⟩ := armZ W0 _ w5 (W0.heap.size + 1) (W0.heap.size) a5 m c5 BY _ p3.lt (by omega) bZE oZE p3 o5 g5 p5; have z0 := q5.cell 0 _ rfl; have z0f := q5.free 0; have z1 := q5.cell 1 _ rfl; have z1f := q5.free 1; have z2 := q5.cell 2 _ rfl; have z2f := q5.free 2; have z3 := q5.cell 3 _ rfl; have z3f := q5.free 3; have z4 := q5.cell 4 _ rfl; have z4f := q5.free 4; have z5 := q5.cell 5 _ rfl; have z5f := q5.free 5; have z6 := q5.cell 6 _ rfl; have z6f := q5.free 6; have z7 := q5.cell 7 _ rfl; have z7f := q5.free 7; have z8 := q5.cell 8 _ rfl; have z8f := q5.free 8; have HREL := (show Hid _ from rel2 W0 w5 (W0.heap.size) (by omega) SR DS PR TT ID ((BT : Int) % 8192 * 8) a5 m c5 BY o6 b5 q5 ne5))
      | fail)
    all_goals
      clear bD bE bZ bEZ bZE oE oEZ oZE p2 p3 sBE sBEZ sBZE HSW
      go_wp2_with fail
      go_meet
      first | with_reducible exact HREL.out.1 | (rw [HWT.out]; with_reducible exact HREL.out.1) | (rw [HWT.out]; exact HREL.out.1)
  case rest =>
    obtain ⟨gp, ab, cb, rfl, hgp, hP, hO, hne, hbc⟩ := hcut
    have hRc := hR0.below hbc
    have bbc : Below w.heap.size w wc := hb0.trans (hbc.mono hb0.size)
    have hzw : w.heap.size < W0.heap.size := hR0.lt
    have hgl := hP.lt
    obtain ⟨o14, ho14⟩ : ∃ b, b = decide (BT / 16384 % 2 = 1) := ⟨_, rfl⟩
    obtain ⟨o13, ho13⟩ : ∃ b, b = decide (BT / 8192 % 2 = 1) := ⟨_, rfl⟩
    have t14 : ((BT : Int) / 16384 % 2 == 1) = o14 := by rw [ho14, Bool.eq_iff_iff]; simp only [beq_iff_eq, decide_eq_true_eq]; omega
    have t13 : ((BT : Int) / 8192 % 2 == 1) = o13 := by rw [ho13, Bool.eq_iff_iff]; simp only [beq_iff_eq, decide_eq_true_eq]; omega
    rw [← ho14, ← ho13] at HOK
    have HIT3 : Hid (itE zs = if BT / 32768 % 2 = 1 ∨ (o13 = true ∧ m % 8 ≠ 0) then 4 else if 65515 < BT % 8192 * 8 + m then 6 else 0) := by show _ = _; rw [HIT2.out, if_neg (by simp), ho13]; simp only [decide_eq_true_eq]
    clear ho14 ho13 hR0 hb0 hbc HSW bD zD hsD c8D c9D hab hab2 hsB0 hs0 hsH0 c8 c9 c0
    have p0 := hP.cell 0 _ rfl
    have p1 := hP.cell 1 _ rfl
    have p2 := hP.cell 2 _ rfl
    have p3 := hP.cell 3 _ rfl
    have p4 := hP.cell 4 _ rfl
    have p5 := hP.cell 5 _ rfl
    have p6 := hP.cell 6 _ rfl
    have p7 := hP.cell 7 _ rfl
    have p8 := hP.cell 8 _ rfl
    have p5f := hP.free 5
    have p6f := hP.free 6
    obtain ⟨w5, hw5⟩ : ∃ w5, w5 = (wc.setCell ⟨gp, 5, none⟩ (.bool o14)).setCell ⟨gp, 6, none⟩ (.bool o13) := ⟨_, rfl⟩
    have hP5 : Stc w5 gp [.int .u32 (SR : Nat), .int .u32 (DS : Nat), .int .u8 (PR : Nat), .int .u8 (TT : Nat), .int .u16 (ID : Nat), .bool o14, .bool o13, .int .i64 ((BT : Int) % 8192 * 8), .slice ab m cb] := by rw [hw5]; exact (hP.set 5 (.bool o14)).set 6 (.bool o13)
    have hR5 : Stc w5 w.heap.size [.int .u32 0, .int .u32 0, .int .u8 0, .int .u8 0, .int .u16 0, .bool false, .bool false, .int .i64 0, .slice none 0 0] := by rw [hw5]; exact (hRc.other gp 5 _ (by omega)).other gp 6 _ (by omega)
    have bb5 : Below w.heap.size w w5 := by rw [hw5]; exact (bbc.setCell (p := ⟨gp, 5, none⟩) (by show w.heap.size ≤ gp; omega) _).setCell (p := ⟨gp, 6, none⟩) (by show w.heap.size ≤ gp; omega) _
    have hO5 : OwnB w5 W0.heap.size ab m cb BY := by
      rw [hw5]
      exact (hO.fr2 gp 5 (.bool o14) hne).fr2 gp 6 (.bool o13) hne
    have HP5 := (show Hid _ from hP5)
    have HR5 := (show Hid _ from hR5)
    have HB5 := (show Hid _ from bb5)
    have HO5 := (show Hid _ from hO5)
    have y0 := hP5.cell 0 _ rfl
    have y1 := hP5.cell 1 _ rfl
    have y2 := hP5.cell 2 _ rfl
    have y3 := hP5.cell 3 _ rfl
    have y4 := hP5.cell 4 _ rfl
    have y5 := hP5.cell 5 _ rfl
    have y6 := hP5.cell 6 _ rfl
    have y7 := hP5.cell 7 _ rfl
    have y8 := hP5.cell 8 _ rfl
    have r0 := hR5.cell 0 _ rfl
    have r1 := hR5.cell 1 _ rfl
    have r2 := hR5.cell 2 _ rfl
    have r3 := hR5.cell 3 _ rfl
    have r4 := hR5.cell 4 _ rfl
    have r5 := hR5.cell 5 _ rfl
    have r6 := hR5.cell 6 _ rfl
    have r7 := hR5.cell 7 _ rfl
    have r8 := hR5.cell 8 _ rfl
    have r0f := hR5.free 0
    have r1f := hR5.free 1
    have r2f := hR5.free 2
    have r3f := hR5.free 3
    have r4f := hR5.free 4
    have r5f := hR5.free 5
    have r6f := hR5.free 6
    have r7f := hR5.free 7
    have r8f := hR5.free 8
    rw [hw5] at y0 y1 y2 y3 y4 y5 y6 y7 y8 r0 r0f r1 r1f r2 r2f r3 r3f r4 r4f r5 r5f r6 r6f r7 r7f r8 r8f
    clear hP hRc bbc hO hP5 hR5 bb5 hO5
    have HW5 := (show Hid _ from hw5)
    clear hw5
    by_cases g7 : BT / 32768 = 1
    case pos =>
      have t15 : ((BT : Int) / 32768 == 1) = true := by simp; omega
      have HE : Hid (itE zs = 4) := by show _ = _; rw [HIT3.out, if_pos (.inl (by omega))]
      have HN := HBAD.out 4 HE.out (by omega)
      have hR9 := (((((((((HR5.out.set 0 (.int .u32 0)).set 1 (.int .u32 0)).set 2 (.int .u8 0)).set 3 (.int .u8 0)).set 4 (.int .u16 0)).set 5 (.bool false)).set 6 (.bool false)).set 7 (.int .i64 0)).set 8 (.slice none 0 0))
      have hb9 := (((((((((HB5.out.setCell (p := ⟨w.heap.size, 0, none⟩) (Nat.le_refl _) (.int .u32 0)).setCell (p := ⟨w.heap.size, 1, none⟩) (Nat.le_refl _) (.int .u32 0)).setCell (p := ⟨w.heap.size, 2, none⟩) (Nat.le_refl _) (.int .u8 0)).setCell (p := ⟨w.heap.size, 3, none⟩) (Nat.le_refl _) (.int .u8 0)).setCell (p := ⟨w.heap.size, 4, none⟩) (Nat.le_refl _) (.int .u16 0)).setCell (p := ⟨w.heap.size, 5, none⟩) (Nat.le_refl _) (.bool false)).setCell (p := ⟨w.heap.size, 6, none⟩) (Nat.le_refl _) (.bool false)).setCell (p := ⟨w.heap.size, 7, none⟩) (Nat.le_refl _) (.int .i64 0)).setCell (p := ⟨w.heap.size, 8, none⟩) (Nat.le_refl _) (.slice none 0 0))
      rw [HW5.out] at hR9 hb9
      have HRG := (show Hid _ from hR9.range)
      have HBB := (show Hid _ from hb9)
      clear hR9 hb9
      go_wp2
      try simp only [Exit.inBlock, Exit.then]
      refine bodyPost_ret (results_cellE2 rfl _ _ w.heap.size 0 [.int .u32 0, .int .u32 0, .int .u8 0, .int .u8 0, .int .u16 0, .bool false, .bool false, .int .i64 0, .slice none 0 0] _ rfl HRG.out Try.underlying26 rfl (by kernel_rfl)) rfl ?_
      exact ⟨⟨none, 0, by rw [HN.1, HE.out]; exact HN.2.1, by rw [HN.1]; exact OwnB.nil _ _⟩, HBB.out⟩
    case neg =>
    have t15 : ((BT : Int) / 32768 == 1) = false := by simp; omega
    by_cases g8 : o13 = true ∧ m % 8 ≠ 0
    case pos =>
      have HE : Hid (itE zs = 4) := by show _ = _; rw [HIT3.out, if_pos (.inr g8)]
      have HN := HBAD.out 4 HE.out (by omega)
      have hR9 := (((((((((HR5.out.set 0 (.int .u32 0)).set 1 (.int .u32 0)).set 2 (.int .u8 0)).set 3 (.int .u8 0)).set 4 (.int .u16 0)).set 5 (.bool false)).set 6 (.bool false)).set 7 (.int .i64 0)).set 8 (.slice none 0 0))
      have hb9 := (((((((((HB5.out.setCell (p := ⟨w.heap.size, 0, none⟩) (Nat.le_refl _) (.int .u32 0)).setCell (p := ⟨w.heap.size, 1, none⟩) (Nat.le_refl _) (.int .u32 0)).setCell (p := ⟨w.heap.size, 2, none⟩) (Nat.le_refl _) (.int .u8 0)).setCell (p := ⟨w.heap.size, 3, none⟩) (Nat.le_refl _) (.int .u8 0)).setCell (p := ⟨w.heap.size, 4, none⟩) (Nat.le_refl _) (.int .u16 0)).setCell (p := ⟨w.heap.size, 5, none⟩) (Nat.le_refl _) (.bool false)).setCell (p := ⟨w.heap.size, 6, none⟩) (Nat.le_refl _) (.bool false)).setCell (p := ⟨w.heap.size, 7, none⟩) (Nat.le_refl _) (.int .i64 0)).setCell (p := ⟨w.heap.size, 8, none⟩) (Nat.le_refl _) (.slice none 0 0))
      rw [HW5.out] at hR9 hb9
      have HRG := (show Hid _ from hR9.range)
      have HBB := (show Hid _ from hb9)
      obtain ⟨g81, g82⟩ := g8
      subst g81
      have t16 : ((m : Int) % 8 != 0) = true := by simp; omega
      clear hR9 hb9
      go_wp2
      try simp only [Exit.inBlock, Exit.then]
      refine bodyPost_ret (results_cellE2 rfl _ _ w.heap.size 0 [.int .u32 0, .int .u32 0, .int .u8 0, .int .u8 0, .int .u16 0, .bool false, .bool false, .int .i64 0, .slice none 0 0] _ rfl HRG.out Try.underlying26 rfl (by kernel_rfl)) rfl ?_
      exact ⟨⟨none, 0, by rw [HN.1, HE.out]; exact HN.2.1, by rw [HN.1]; exact OwnB.nil _ _⟩, HBB.out⟩
    case neg =>
    have HIT4 : Hid (itE zs = if 65515 < BT % 8192 * 8 + m then 6 else 0) := by
      show _ = _
      rw [HIT3.out, if_neg]
      intro h
      rcases h with h | h
      · omega
      · exact g8 h
    have hQ : (o13 = false) ∨ (o13 = true ∧ ((m : Int) % 8 != 0) = false) := by
      cases o13 with
      | false => exact .inl rfl
      | true =>
        refine .inr ⟨rfl, ?_⟩
        have : m % 8 = 0 := by
          cases Nat.decEq (m % 8) 0 with
          | isTrue e => exact e
          | isFalse e => exact absurd ⟨rfl, e⟩ g8
        simp
        omega
    clear g8
    by_cases g9 : 65515 < BT % 8192 * 8 + m
    case pos =>
      have t9 : 65535 < (BT : Int) % 8192 * 8 + (m : Int) + 20 := by omega
      have HE : Hid (itE zs = 6) := by show _ = _; rw [HIT4.out, if_pos g9]
      have HN := HBAD.out 6 HE.out (by omega)
      have hR9 := (((((((((HR5.out.set 0 (.int .u32 0)).set 1 (.int .u32 0)).set 2 (.int .u8 0)).set 3 (.int .u8 0)).set 4 (.int .u16 0)).set 5 (.bool false)).set 6 (.bool false)).set 7 (.int .i64 0)).set 8 (.slice none 0 0))
      have hb9 := (((((((((HB5.out.setCell (p := ⟨w.heap.size, 0, none⟩) (Nat.le_refl _) (.int .u32 0)).setCell (p := ⟨w.heap.size, 1, none⟩) (Nat.le_refl _) (.int .u32 0)).setCell (p := ⟨w.heap.size, 2, none⟩) (Nat.le_refl _) (.int .u8 0)).setCell (p := ⟨w.heap.size, 3, none⟩) (Nat.le_refl _) (.int .u8 0)).setCell (p := ⟨w.heap.size, 4, none⟩) (Nat.le_refl _) (.int .u16 0)).setCell (p := ⟨w.heap.size, 5, none⟩) (Nat.le_refl _) (.bool false)).setCell (p := ⟨w.heap.size, 6, none⟩) (Nat.le_refl _) (.bool false)).setCell (p := ⟨w.heap.size, 7, none⟩) (Nat.le_refl _) (.int .i64 0)).setCell (p := ⟨w.heap.size, 8, none⟩) (Nat.le_refl _) (.slice none 0 0))
      rw [HW5.out] at hR9 hb9
      have HRG := (show Hid _ from hR9.range)
      have HBB := (show Hid _ from hb9)
      clear hR9 hb9
      rcases hQ with rfl | ⟨rfl, t16⟩
      all_goals
        go_wp2
        try simp only [Exit.inBlock, Exit.then]
        refine bodyPost_ret (results_cellE2 rfl _ _ w.heap.size 0 [.int .u32 0, .int .u32 0, .int .u8 0, .int .u8 0, .int .u16 0, .bool false, .bool false, .int .i64 0, .slice none 0 0] _ rfl HRG.out Try.underlying26 rfl (by kernel_rfl)) rfl ?_
        exact ⟨⟨none, 0, by rw [HN.1, HE.out]; exact HN.2.1, by rw [HN.1]; exact OwnB.nil _ _⟩, HBB.out⟩
    case neg =>
      have t9 : ¬ 65535 < (BT : Int) % 8192 * 8 + (m : Int) + 20 := by omega
      have HE : Hid (itE zs = 0) := by show _ = _; rw [HIT4.out, if_neg g9]
      have HKK := (show Hid _ from HOK.out HE.out)
      have hR9 := (((((((((HR5.out.set 0 (.int .u32 (SR : Nat))).set 1 (.int .u32 (DS : Nat))).set 2 (.int .u8 (PR : Nat))).set 3 (.int .u8 (TT : Nat))).set 4 (.int .u16 (ID : Nat))).set 5 (.bool o14)).set 6 (.bool o13)).set 7 (.int .i64 ((BT : Int) % 8192 * 8))).set 8 (.slice ab m cb))
      have hb9 := (((((((((HB5.out.setCell (p := ⟨w.heap.size, 0, none⟩) (Nat.le_refl _) (.int .u32 (SR : Nat))).setCell (p := ⟨w.heap.size, 1, none⟩) (Nat.le_refl _) (.int .u32 (DS : Nat))).setCell (p := ⟨w.heap.size, 2, none⟩) (Nat.le_refl _) (.int .u8 (PR : Nat))).setCell (p := ⟨w.heap.size, 3, none⟩) (Nat.le_refl _) (.int .u8 (TT : Nat))).setCell (p := ⟨w.heap.size, 4, none⟩) (Nat.le_refl _) (.int .u16 (ID : Nat))).setCell (p := ⟨w.heap.size, 5, none⟩) (Nat.le_refl _) (.bool o14)).setCell (p := ⟨w.heap.size, 6, none⟩) (Nat.le_refl _) (.bool o13)).setCell (p := ⟨w.heap.size, 7, none⟩) (Nat.le_refl _) (.int .i64 ((BT : Int) % 8192 * 8))).setCell (p := ⟨w.heap.size, 8, none⟩) (Nat.le_refl _) (.slice ab m cb))
      have HOF : Hid (OwnB (((((((((w5.setCell ⟨w.heap.size, 0, none⟩ (.int .u32 (SR : Nat))).setCell ⟨w.heap.size, 1, none⟩ (.int .u32 (DS : Nat))).setCell ⟨w.heap.size, 2, none⟩ (.int .u8 (PR : Nat))).setCell ⟨w.heap.size, 3, none⟩ (.int .u8 (TT : Nat))).setCell ⟨w.heap.size, 4, none⟩ (.int .u16 (ID : Nat))).setCell ⟨w.heap.size, 5, none⟩ (.bool o14)).setCell ⟨w.heap.size, 6, none⟩ (.bool o13)).setCell ⟨w.heap.size, 7, none⟩ (.int .i64 ((BT : Int) % 8192 * 8))).setCell ⟨w.heap.size, 8, none⟩ (.slice ab m cb)) w.heap.size ab m cb BY) := by
        show OwnB _ _ _ _ _ _
        exact (((((((((HO5.out.setOther w.heap.size 0 (.int .u32 (SR : Nat)) hzw).setOther w.heap.size 1 (.int .u32 (DS : Nat)) hzw).setOther w.heap.size 2 (.int .u8 (PR : Nat)) hzw).setOther w.heap.size 3 (.int .u8 (TT : Nat)) hzw).setOther w.heap.size 4 (.int .u16 (ID : Nat)) hzw).setOther w.heap.size 5 (.bool o14) hzw).setOther w.heap.size 6 (.bool o13) hzw).setOther w.heap.size 7 (.int .i64 ((BT : Int) % 8192 * 8)) hzw).setOther w.heap.size 8 (.slice ab m cb) hzw).base (Nat.le_of_lt hzw)
      rw [HW5.out] at hR9 hb9 HOF
      have HRG := (show Hid _ from hR9.range)
      have HBB := (show Hid _ from hb9)
      clear hR9 hb9
      rcases hQ with rfl | ⟨rfl, t16⟩
      all_goals
        go_wp2
        try simp only [Exit.inBlock, Exit.then]
        refine bodyPost_ret (results_cellE2 rfl _ _ w.heap.size 0 [.int .u32 (SR : Nat), .int .u32 (DS : Nat), .int .u8 (PR : Nat), .int .u8 (TT : Nat), .int .u16 (ID : Nat), .bool o14, .bool _, .int .i64 ((BT : Int) % 8192 * 8), .slice ab m cb] _ rfl HRG.out Try.underlying26 rfl (by kernel_rfl)) rfl ?_
        obtain ⟨e1, e2, e3, e4, e5, e6, e7, e8, e9⟩ := HKK.out
        refine ⟨⟨ab, cb, ?_, ?_⟩, HBB.out⟩
        · rw [e1, e2, e3, e4, e5, e6, e7, e8, e9, HBYl.out, HE.out]; simp
        · rw [e9, HBYl.out]; exact HOF.out
end Go.Proofs.Ytpmfofgnapopaaa
