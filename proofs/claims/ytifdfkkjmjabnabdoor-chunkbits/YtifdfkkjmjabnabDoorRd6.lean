/- chunk.Take, where nothing fails; law12.live. -/
import Derived.Test.YtifdfkkjmjabnabDoorRd5
import Derived.Test.YtifdfkkjmjabnabDoorWr4
import Derived.Test.YtifdfkkjmjabnabDoorTurn
import Derived.Test.YtifdfkkjmjabnabDoorChK
import Derived.Test.YtifdfkkjmjabnabDoorChS
import Derived.Lib.SlBytesConst
namespace Go.Proofs.YtifdfkkjmjabnabDoor
open Go.RowKit
theorem results_cellE3 {fn : Func} {p u v : Tmp} {ty : TypeId} (h : fn.results = #[.cell p ty, .tmp u, .tmp v]) (tmps : Array Value) (w : World) (g o : Nat) (cs : List Value) (d : TypeDesc)
    (hp : tmps.getD p undef = .pointer (some ⟨g, o, none⟩)) (hc : w.rangeAt g o cs) (hu : Tryd.prog.underlying ty = some d) (hd : d.isRow = true) (hi : (Tryd.prog.info? ty).map (·.size) = some cs.length) :
    (results fn tmps).run Tryd.prog w = .ok (.tuple #[.agg cs.toArray, tmps.getD u undef, tmps.getD v undef]) w := by
  have hp' : tmps[p]?.getD undef = .pointer (some ⟨g, o, none⟩) := by simpa using hp
  simp [results, h, hp', asAddr, run_loadVar_mid w g o ty cs d hc hu hd hi, Result.andThen]
structure TkR (w : World) (n1 n2 n3 n : Nat) (C : Nat → C14) (e : Ending) (w' : World) : Prop where
  ex : ∃ la lc, e = .returned (.tuple #[.agg #[.int .u16 (n1 : Nat), .int .u16 (n2 : Nat), .int .u32 (n3 : Nat)], .slice la n lc, .int .i64 0]) ∧ OwnR w' w.heap.size la n lc ((List.range n).map C)
  bel : Below w.heap.size w w'
set_option linter.unusedVariables false in
set_option maxRecDepth 100000 in
set_option maxHeartbeats 4000000 in
theorem take_ok {w : World} {b off m c : Nat} {zs : List Nat} (hs : Sl w (some ⟨b, off, none⟩) m c zs) (h16 : 16 ≤ m) (h1480 : m ≤ 1480) (hsum : stampedB zs = true) (n : Nat) (C : Nat → C14) (rest : Nat → List Nat) (h0 : rest 0 = zs.drop 12) (hn : rest n = []) (hne : ∀ i, i < n → rest i ≠ []) (hn32 : n ≤ 32)
    (hrd : ∀ i, i < n → ∀ W0 q W, RdW W0 W q (rest i) 3 → Calls Tryd.prog 61 #[.pointer (some ⟨q, 0, none⟩), .int .i64 (i : Nat)] W (RdP W0 W q (.agg (C i).1.toArray) (rest (i + 1)) 3)) :
    Calls Tryd.prog 13 #[.slice (some ⟨b, off, none⟩) m c] w (TkR w (numB (zs.take 2)) (numB ((zs.drop 2).take 2)) (numB ((zs.drop 4).take 4)) n C) := by
  have hl := hs.len
  have hz := zero_head
  obtain ⟨W1, hW1⟩ : ∃ W1, W1 = w.alloc (.cells #[.int .u16 0, .int .u16 0, .int .u32 0] 28) := ⟨_, rfl⟩
  have b1 : Below w.heap.size w W1 := by rw [hW1]; exact (Below.refl _ _).alloc (Nat.le_refl _) _
  have s1 := Stc.new w [.int .u16 0, .int .u16 0, .int .u32 0] 28 W1 hW1
  have HST := (show Hid _ from stamped_any _ m c zs W1 (hs.below b1) (by omega))
  rw [hsum] at HST
  have HRP := (show Hid _ from fun W (hW : Below w.heap.size w W) => readp_ok (hs.below hW) (by omega) n C rest h0 hn hne hn32 (fun i hi q W' hW' => hrd i hi W q W' hW'))
  obtain ⟨n1, hn1⟩ : ∃ n1, n1 = numB (zs.take 2) := ⟨_, rfl⟩
  obtain ⟨n2, hn2⟩ : ∃ n2, n2 = numB ((zs.drop 2).take 2) := ⟨_, rfl⟩
  obtain ⟨n3, hn3⟩ : ∃ n3, n3 = numB ((zs.drop 4).take 4) := ⟨_, rfl⟩
  rw [← hn1, ← hn2, ← hn3] at HRP ⊢
  have HS1 := (show Hid _ from And.intro s1 b1)
  clear hn1 hn2 hn3 h0 hn hne hrd b1 s1 hs hsum hl
  go_enter Tryd.func13, Tryd.ntmps13
  go_wp2_with fail
  rw [← hW1]
  clear hW1 hz
  refine Calls.mono HST.out ?_
  clear HST
  rintro e w2 ⟨rfl, b2⟩
  have hb2 : Below w.heap.size w w2 := HS1.out.2.trans (b2.mono HS1.out.2.size)
  have HN := (show Hid _ from HRP.out w2 hb2)
  have HS2 : Hid (Stc w2 w.heap.size [.int .u16 0, .int .u16 0, .int .u32 0] ∧ Below w.heap.size w w2) := ⟨HS1.out.1.below b2, hb2⟩
  clear HRP HS1 b2 hb2
  go_wp2_with fail
  refine Calls.mono HN.out ?_
  clear HN
  rintro e w3 ⟨la, lc, rfl, ho, b3⟩
  have s3 := HS2.out.1.below b3
  have hob : ∀ g, (Value.slice la n lc).ownBlock = some g → g ≠ w.heap.size := fun g hg => by have := (ho.own.lt g hg).1; have := HS2.out.1.lt; omega
  have HF : Hid (OwnR w3 w.heap.size la n lc ((List.range n).map C) ∧ Below w.heap.size w w3 ∧ Stc w3 w.heap.size [.int .u16 0, .int .u16 0, .int .u32 0] ∧ ∀ g, (Value.slice la n lc).ownBlock = some g → g ≠ w.heap.size) := ⟨OwnG.base ho HS2.out.2.size, HS2.out.2.trans (b3.mono HS2.out.2.size), s3, hob⟩
  have g0 := s3.free 0
  have g1 := s3.free 1
  have g2 := s3.free 2
  have d0 := s3.cell 0 _ rfl
  have d1 := s3.cell 1 _ rfl
  have d2 := s3.cell 2 _ rfl
  clear ho b3 s3 HS2 hob
  go_wp2
  try simp only [Exit.inBlock, Exit.then]
  obtain ⟨ho, hb, s3, hob⟩ := HF.out
  have hput := s3.put [.int .u16 (n1 : Nat), .int .u16 (n2 : Nat), .int .u32 (n3 : Nat)] rfl
  have hff := fr_setCellsX w.heap.size [.int .u16 (n1 : Nat), .int .u16 (n2 : Nat), .int .u32 (n3 : Nat)] 0 w3
  refine bodyPost_ret (results_cellE3 rfl _ _ w.heap.size 0 [.int .u16 (n1 : Nat), .int .u16 (n2 : Nat), .int .u32 (n3 : Nat)] _ rfl hput.range Tryd.underlying28 rfl (by kernel_rfl)) rfl ?_
  exact ⟨⟨la, lc, rfl, OwnG.fr ho hff (fun g hg e => hob g hg e)⟩, hb.trans (hff.below _ hb.size (fun k hk => by omega))⟩
end Go.Proofs.YtifdfkkjmjabnabDoor
