/- Fork of both trackers. -/
import Derived.Test.YtlgpabdadnfbeaaGapR7
import Derived.Laws.Cover3
namespace Go.Proofs.Ytlgpabdadnfbeaa
open Go.RowKit
theorem eql_nilU (w : World) (a : Option Addr) (n c : Nat) : (binOp .eql 47 (.slice a n c) (.slice none 0 0)).run Try.prog w = .ok (.bool a.isNone) w := by
  simp [binOp, run_equal_slice_nil w 47 22 a n c Try.underlying47]
set_option maxHeartbeats 1000000 in
theorem clone_any (a : Option Addr) (n c : Nat) (zs : List Nat) (w : World) (hs : SlU w a n c zs) (hn : n ≤ 16) :
    Calls Try.prog 37 #[.slice a n c] w fun e w' => ∃ a' c', e = .returned (.slice a' n c') ∧ OwnU w' w.heap.size a' n c' zs ∧ Below w.heap.size w w' := by
  have hl := hs.len
  have hcap := hs.cap
  cases a with
  | none =>
    have hnil := fun w => eql_nilU w none 0 0
    obtain rfl := hs.nz rfl
    obtain rfl : n = 0 := by omega
    obtain rfl : zs = [] := List.eq_nil_of_length_eq_zero hl
    go_enter Try.func37, Try.ntmps37
    go_wp2
    go_ret
    exact ⟨none, 0, rfl, OwnU.nil _ _, Below.refl _ _⟩
  | some x =>
    have hnil := fun w => eql_nilU w (some x) n c
    go_enter Try.func37, Try.ntmps37
    go_wp2_with (at_builtin; go_must (refine app_listU rfl _ _ rfl w.heap.size _ 0 0 [] rfl (own_emptyU w) _ n c zs rfl (hs.alloc _) (by omega) (by simp) ?_))
    intro a1 c1 w1 ho1 hg1
    have hb1 : Below w.heap.size w w1 := ((Below.refl _ _).alloc (Nat.le_refl _) _).trans ((own_emptyU w).up hg1 (by simp))
    clear hg1
    go_wp2
    go_ret
    exact ⟨a1, c1, by simp, by simpa using ho1, hb1⟩
set_option maxRecDepth 100000 in
set_option maxHeartbeats 2000000 in
theorem tfork_any (B p : Nat) (db : Option Nat) (cum : Nat) (S : Nat → Bool) (ds : List Nat) (w : World) (h : Trk w B p db cum S ds) :
    Calls Try.prog 22 #[.pointer (some ⟨p, 0, none⟩)] w fun e w' => ∃ q db', e = .returned (.pointer (some ⟨q, 0, none⟩)) ∧ Trk w' w.heap.size q db' cum S ds ∧ Below w.heap.size w w' := by
  obtain ⟨a, n, c, h5, ho, hd, hn⟩ := h.dup
  obtain ⟨ws, hw, hb⟩ := h.win
  have hc0 := h.c0
  have h1 := hw.cell 0 (by omega)
  have h2 := hw.cell 1 (by omega)
  have h3 := hw.cell 2 (by omega)
  have h4 := hw.cell 3 (by omega)
  have hs := ho.sl (by omega)
  have hlt := h.lt
  simp only [Nat.reduceAdd] at h1 h2 h3 h4
  go_enter Try.func22, Try.ntmps22
  go_wp2_with fail
  obtain ⟨cs, hcs⟩ : ∃ cs : Array Value, cs = #[.int .u32 (cum : Nat), .int .u64 (ws[0]?.getD 0 : Nat), .int .u64 (ws[1]?.getD 0 : Nat), .int .u64 (ws[2]?.getD 0 : Nat), .int .u64 (ws[3]?.getD 0 : Nat), .slice a n c] := ⟨_, rfl⟩
  rw [← hcs]
  have hA : Below w.heap.size w (w.alloc (.cells cs 64)) := (Below.refl _ _).alloc (Nat.le_refl _) _
  have hcell : ∀ i, (w.alloc (.cells cs 64)).cell? ⟨w.heap.size, i, none⟩ = cs[i]? := fun i => cell_new2 _ _ _ _ rfl
  have hfree : ∀ i, (w.alloc (.cells cs 64)).frozen? ⟨w.heap.size, i, none⟩ = false := by
    intro i
    have hh : (w.alloc (.cells cs 64)).heap[w.heap.size]? = some (.cells cs 64) := by
      show (w.heap.push _)[w.heap.size]? = _
      simp
    unfold World.frozen?
    dsimp only
    rw [hh]
    simp
  have hsz : w.heap.size < (w.alloc (.cells cs 64)).heap.size := by simp
  have hsA := hs.below hA
  obtain ⟨q, hq⟩ : ∃ q, q = w.heap.size := ⟨_, rfl⟩
  rw [← hq] at hcell hfree hsz ⊢
  have HQ := (show Hid _ from hq)
  clear hq
  have hAz := hA.size
  generalize w.alloc (.cells cs 64) = W at *
  have hk0 := hcell 0
  have hk5 := hcell 5
  have hkw : ∀ i, i < 4 → W.cell? ⟨q, 1 + i, none⟩ = some (.int .u64 (ws.getD i 0 : Nat)) := by
    intro i hi
    rw [hcell, hcs]
    rcases i with _ | _ | _ | _ | i
    · simp [List.getD_eq_getElem?_getD]
    · simp [List.getD_eq_getElem?_getD]
    · simp [List.getD_eq_getElem?_getD]
    · simp [List.getD_eq_getElem?_getD]
    · omega
  rw [hcs] at hk0 hk5
  replace hk0 : W.cell? ⟨q, 0, none⟩ = some (.int .u32 (cum : Nat)) := hk0
  replace hk5 : W.cell? ⟨q, 5, none⟩ = some (.slice a n c) := hk5
  refine (clone_any a n c ds W hsA hn).mono ?_
  rintro e w2 ⟨a2, c2, rfl, ho2, hb2⟩
  have hk52 := (hb2.cell (p := ⟨q, 5, none⟩) hsz).trans hk5
  have hf52 := (hb2.frozen (p := ⟨q, 5, none⟩) hsz).trans (hfree 5)
  have hbl2 := ho2.own.lt
  have hF3 : Fr (fun k => k = q) w2 (w2.setCell ⟨q, 5, none⟩ (.slice a2 n c2)) := Fr.setCell _ _ _ _ rfl
  have hz2 := hb2.size
  have HT : Hid (Trk (w2.setCell ⟨q, 5, none⟩ (.slice a2 n c2)) w.heap.size q (Value.slice a2 n c2).ownBlock cum S ds) := by
    refine ⟨by rw [HQ.out]; exact Nat.le_refl _, by simp [World.setCell]; omega, h.cumlt, ?_, ⟨ws, ⟨hw.len, hw.bnd, fun i hi => ?_, fun i => by rw [World.frozen?_setCell]; exact (hb2.frozen (p := ⟨q, i, none⟩) hsz).trans (hfree i)⟩, hb⟩, h.out, ⟨a2, n, c2, ?_, ?_, rfl, hn⟩, fun e => ?_⟩
    · rw [World.cell?_setCell_other _ _ _ _ (by intro e2; injection e2 with _ e3; omega)]
      exact (hb2.cell (p := ⟨q, 0, none⟩) hsz).trans hk0
    · rw [World.cell?_setCell_other _ _ _ _ (by intro e2; injection e2 with _ e3; omega)]
      exact (hb2.cell (p := ⟨q, 1 + i, none⟩) hsz).trans (hkw i hi)
    · exact World.cell?_setCell_same' _ _ _ (by rw [hk52]; rfl)
    · exact (ho2.fr hF3 (fun k hk e => by have := hbl2 k hk; omega)).base hAz
    · have := hbl2 q e; omega
  have HB : Hid (Below w.heap.size w (w2.setCell ⟨q, 5, none⟩ (.slice a2 n c2))) := (hA.trans (hb2.mono hAz)).trans (hF3.below w.heap.size (by have := HQ.out; omega) (fun k hk => by rw [hk, HQ.out]; exact Nat.le_refl _))
  clear hcs hcell hfree hkw hk0 hk5 hs hsA ho2 hb2 hF3 hw hb ho h hA hbl2
  go_wp2
  go_ret
  exact ⟨q, _, rfl, HT.out, HB.out⟩
set_option maxHeartbeats 2000000 in
theorem rfork_any (B p : Nat) (fb db : Option Nat) (cum : Nat) (F ds : List Nat) (w : World) (h : RTk w B p fb db cum F ds) :
    Calls Try.prog 23 #[.pointer (some ⟨p, 0, none⟩)] w fun e w' => ∃ q, e = .returned (.pointer (some ⟨q, 0, none⟩)) ∧ w.heap.size ≤ q ∧ RTk w' B q fb db cum F ds ∧ Below w.heap.size w w' := by
  obtain ⟨a, n, c, h1, hs1, hf1⟩ := h.far
  obtain ⟨a2, n2, c2, h2, hs2, hd2⟩ := h.dup
  have hc0 := h.c0
  go_enter Try.func23, Try.ntmps23
  go_wp2
  go_ret
  have hA : Below w.heap.size w (w.alloc (.cells #[.int .u32 (cum : Nat), .slice a n c, .slice a2 n2 c2] 72)) := (Below.refl _ _).alloc (Nat.le_refl _) _
  have hcell : ∀ i, (w.alloc (.cells #[.int .u32 (cum : Nat), .slice a n c, .slice a2 n2 c2] 72)).cell? ⟨w.heap.size, i, none⟩ = (#[.int .u32 (cum : Nat), .slice a n c, .slice a2 n2 c2] : Array Value)[i]? := fun i => cell_new2 _ _ _ _ rfl
  have hfree : ∀ i, (w.alloc (.cells #[.int .u32 (cum : Nat), .slice a n c, .slice a2 n2 c2] 72)).frozen? ⟨w.heap.size, i, none⟩ = false := by
    intro i
    have hh : (w.alloc (.cells #[.int .u32 (cum : Nat), .slice a n c, .slice a2 n2 c2] 72)).heap[w.heap.size]? = some (.cells #[.int .u32 (cum : Nat), .slice a n c, .slice a2 n2 c2] 72) := by
      show (w.heap.push _)[w.heap.size]? = _
      simp
    unfold World.frozen?
    dsimp only
    rw [hh]
    simp
  refine ⟨w.heap.size, rfl, Nat.le_refl _, ⟨Nat.le_trans h.base (Nat.le_of_lt h.lt), by simp, h.cumlt, by rw [hcell]; rfl, ⟨a, n, c, by rw [hcell]; rfl, hs1.below hA, hf1⟩, ⟨a2, n2, c2, by rw [hcell]; rfl, hs2.below hA, hd2⟩, hfree, fun k hk => ?_, fun k hk => ?_⟩, hA⟩
  · have := h.fge k hk; exact ⟨this.1, by simp; omega, by omega⟩
  · have := h.dge k hk; exact ⟨this.1, by simp; omega, by omega⟩
end Go.Proofs.Ytlgpabdadnfbeaa
