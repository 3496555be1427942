/- The reference's tracker: Add. -/
import Derived.Test.YtlgpabdadnfbeaaGapR2
import Derived.Test.YtlgpabdadnfbeaaSlcI
namespace Go.Proofs.Ytlgpabdadnfbeaa
open Go.RowKit
theorem Fresh.refl (w : World) (b : Option Nat) : Fresh w b b := fun _ hk => .inl hk
/-- What Add does where the number is known. -/
theorem RTk.noted {w w' : World} {B p : Nat} {fb db : Option Nat} {cum : Nat} {F ds ds' : List Nat} {a : Option Addr} {n c : Nat} (h : RTk w B p fb db cum F ds) (hb : Below w.heap.size w w') (ho : OwnU w' w.heap.size a n c ds') (hn : n ≤ 281474976710656) :
    RTk (w'.setCell ⟨p, 2, none⟩ (.slice a n c)) B p fb (blockOf a) cum F ds' ∧ Fr (fun k => k = p) w (w'.setCell ⟨p, 2, none⟩ (.slice a n c)) ∧ Fresh w db (blockOf a) := by
  have h' := h.below hb
  have hlt := h.lt
  have hz := hb.size
  obtain ⟨a1, n1, c1, h1, hs1, hf⟩ := h'.far
  obtain ⟨a2, n2, c2, h2, hs2, hd⟩ := h'.dup
  have hF : Fr (fun k => k = p) w' (w'.setCell ⟨p, 2, none⟩ (.slice a n c)) := Fr.setCell _ _ _ _ rfl
  have hblk := ho.block
  refine ⟨⟨h.base, by simp [World.setCell]; omega, h.cumlt, ?_, ⟨a1, n1, c1, ?_, hs1.fr hF (fun k hk e => (h.fge k (by rw [← hf, hk])).2.2 e), hf⟩, ⟨a, n, c, ?_, (ho.sl hn).fr hF (fun k hk e => by have := hblk k hk; omega), rfl⟩, fun i => by rw [World.frozen?_setCell]; exact h'.free i, fun k hk => ?_, fun k hk => ?_⟩, (Fr.of_below hb).trans hF, fun k hk => .inr (hblk k hk).1⟩
  · rw [World.cell?_setCell_other _ _ _ _ (by intro e2; injection e2 with _ e3; omega)]
    exact h'.c0
  · rw [World.cell?_setCell_other _ _ _ _ (by intro e2; injection e2 with _ e3; omega)]
    exact h1
  · exact World.cell?_setCell_same' _ _ _ (by rw [h2]; rfl)
  · have := h'.fge k hk
    exact ⟨this.1, by simp [World.setCell]; exact this.2.1, this.2.2⟩
  · have := hblk k hk
    have := h.base
    exact ⟨by omega, by simp [World.setCell]; omega, by omega⟩
/-- The list of the numbers ahead is put in another's place. -/
theorem RTk.farred {w w' : World} {B p : Nat} {fb db : Option Nat} {cum : Nat} {F F' ds : List Nat} {a : Option Addr} {n c : Nat} (h : RTk w B p fb db cum F ds) (hb : Below w.heap.size w w') (ho : OwnI w' w.heap.size a n c F') (hn : n ≤ 281474976710656) :
    RTk (w'.setCell ⟨p, 1, none⟩ (.slice a n c)) B p (blockOf a) db cum F' ds ∧ Fr (fun k => k = p) w (w'.setCell ⟨p, 1, none⟩ (.slice a n c)) ∧ (∀ k, blockOf a = some k → w.heap.size ≤ k) := by
  have h' := h.below hb
  have hlt := h.lt
  have hz := hb.size
  obtain ⟨a1, n1, c1, h1, hs1, hf⟩ := h'.far
  obtain ⟨a2, n2, c2, h2, hs2, hd⟩ := h'.dup
  have hF : Fr (fun k => k = p) w' (w'.setCell ⟨p, 1, none⟩ (.slice a n c)) := Fr.setCell _ _ _ _ rfl
  have hblk := ho.block
  refine ⟨⟨h.base, by simp [World.setCell]; omega, h.cumlt, ?_, ⟨a, n, c, ?_, (ho.sl hn).fr hF (fun k hk e => by have := hblk k hk; omega), rfl⟩, ⟨a2, n2, c2, ?_, hs2.fr hF (fun k hk e => (h.dge k (by rw [← hd, hk])).2.2 e), hd⟩, fun i => by rw [World.frozen?_setCell]; exact h'.free i, fun k hk => ?_, fun k hk => ?_⟩, (Fr.of_below hb).trans hF, fun k hk => (hblk k hk).1⟩
  · rw [World.cell?_setCell_other _ _ _ _ (by intro e2; injection e2 with _ e3; omega)]
    exact h'.c0
  · exact World.cell?_setCell_same' _ _ _ (by rw [h1]; rfl)
  · rw [World.cell?_setCell_other _ _ _ _ (by intro e2; injection e2 with _ e3; omega)]
    exact h2
  · have := hblk k hk
    have := h.base
    exact ⟨by omega, by simp [World.setCell]; omega, by omega⟩
  · have := h'.dge k hk
    exact ⟨this.1, by simp [World.setCell]; exact this.2.1, this.2.2⟩
/-- cum is set. -/
theorem RTk.cummed {w : World} {B p : Nat} {fb db : Option Nat} {cum : Nat} {F ds : List Nat} (h : RTk w B p fb db cum F ds) (c2 : Nat) (hc2 : c2 < 4294967296) :
    RTk (w.setCell ⟨p, 0, none⟩ (.int .u32 (c2 : Nat))) B p fb db c2 F ds := by
  obtain ⟨a1, n1, c1, h1, hs1, hf⟩ := h.far
  obtain ⟨a3, n3, c3, h3, hs3, hd⟩ := h.dup
  have hF : Fr (fun k => k = p) w (w.setCell ⟨p, 0, none⟩ (.int .u32 (c2 : Nat))) := Fr.setCell _ _ _ _ rfl
  refine ⟨h.base, by simp [World.setCell]; exact h.lt, hc2, World.cell?_setCell_same' _ _ _ (by rw [h.c0]; rfl), ⟨a1, n1, c1, ?_, hs1.fr hF (fun k hk e => (h.fge k (by rw [← hf, hk])).2.2 e), hf⟩, ⟨a3, n3, c3, ?_, hs3.fr hF (fun k hk e => (h.dge k (by rw [← hd, hk])).2.2 e), hd⟩, fun i => by rw [World.frozen?_setCell]; exact h.free i, fun k hk => ?_, fun k hk => ?_⟩
  · rw [World.cell?_setCell_other _ _ _ _ (by intro e2; injection e2 with _ e3; omega)]
    exact h1
  · rw [World.cell?_setCell_other _ _ _ _ (by intro e2; injection e2 with _ e3; omega)]
    exact h3
  · have := h.fge k hk
    exact ⟨this.1, by simp [World.setCell]; exact this.2.1, this.2.2⟩
  · have := h.dge k hk
    exact ⟨this.1, by simp [World.setCell]; exact this.2.1, this.2.2⟩
set_option maxRecDepth 100000 in
set_option maxHeartbeats 2000000 in
theorem radd_known (B p : Nat) (fb db : Option Nat) (cum : Nat) (S : Nat → Bool) (ds : List Nat) (t : Nat) (w : World) (h : RTk w B p fb db cum (farN S) ds) (ht : t < 4294967296) (hv : hasV cum S t = true) (hd16 : ds.length ≤ 16) :
    Calls Try.prog 38 #[.pointer (some ⟨p, 0, none⟩), .int .u32 t] w fun e w' => e = .returned (.int .i64 17) ∧ ∃ db', RTk w' B p fb db' cum (farN S) (noteV ds t) ∧ Fr (fun k => k = p) w w' ∧ Fresh w db db' := by
  have ha := rahead32 cum t h.cumlt ht w
  have hh := fun W (hT : RTk W B p fb db cum (farN S) ds) => rhas_any B p fb db cum (farN S) ds t W hT ht
  have hv2 := hasV_mem cum S t
  rw [hv] at hv2
  change true = (decide (aheadV 4294967296 cum t ≤ 0) || anyV (farN S) (aheadV 4294967296 cum t)) at hv2
  rw [← hv2] at hh
  have hc0 := h.c0
  generalize aheadV 4294967296 cum t = m at *
  generalize farN S = F at *
  clear hv hv2
  go_enter Try.func38, Try.ntmps38
  go_wp2_with fail
  refine ha.mono ?_
  rintro e w1 ⟨er, rfl, hb1⟩
  have h1 := h.below hb1
  clear hc0 ha
  go_wp2_with fail
  refine (hh _ h1).mono ?_
  rintro e w2 ⟨rfl, hb2⟩
  have h2 := h1.below hb2
  have hB2 : Below w.heap.size w w2 := hb1.trans (hb2.mono hb1.size)
  clear hh h1 hb1 hb2
  obtain ⟨a, n, c, hc2, hs, hd⟩ := h2.dup
  have hl := hs.len
  by_cases h16 : n < 16
  · have HN : Hid (noteV ds t = ds ++ [t]) := by show _ = _; unfold noteV; rw [if_pos (by omega)]
    have h16' : (n : Int) < 16 := by omega
    have hfr := h2.free 2
    have hc2a : ∀ o, (w2.alloc o).cell? ⟨p, 2, none⟩ = some (.slice a n c) := fun o => (((Below.refl w2.heap.size w2).alloc (Nat.le_refl _) o).cell (p := ⟨p, 2, none⟩) h2.lt).trans hc2
    go_wp2_with (at_builtin; go_must (refine app_listU rfl _ _ rfl w2.heap.size _ 0 0 [] rfl (own_emptyU w2) _ n c ds rfl (hs.alloc _) (by omega) (by simp) ?_))
    intro a3 c3 w3 ho3 hg3
    have hb3 : Below w2.heap.size w2 w3 := ((Below.refl _ _).alloc (Nat.le_refl _) _).trans ((own_emptyU w2).up hg3 (by simp))
    have hz3 := hb3.size
    clear hg3
    go_wp2_with (at_builtin; go_must (refine app_listU rfl _ _ rfl w2.heap.size a3 _ c3 _ rfl (ho3.alloc _) _ 1 1 [t] rfl (u32_oneB _ _ t ht _ rfl) (by omega) (by simp; omega) ?_))
    intro a4 c4 w4 ho4 hg4
    have hb4 : Below w2.heap.size w2 w4 := (hb3.alloc hz3 _).trans ((ho3.alloc _).up hg4 (by simp; omega))
    obtain ⟨k1, k2, k3⟩ := h2.noted hb4 ho4 (by omega)
    have hc4 := (hb4.cell (p := ⟨p, 2, none⟩) h2.lt).trans hc2
    have hfr4 := (hb4.frozen (p := ⟨p, 2, none⟩) h2.lt).trans hfr
    have K1 := (show Hid _ from k1)
    have K2 := (show Hid _ from k2)
    have K3 := (show Hid _ from k3)
    clear k1 k2 k3 hg4 ho4 ho3 hb3 hb4 hs
    go_wp2
    go_ret
    exact ⟨rfl, _, by rw [HN.out]; exact K1.out, (Fr.of_below hB2).trans K2.out, fun k hk => (K3.out k hk).imp id (fun h => Nat.le_trans hB2.size h)⟩
  · have HN : Hid (noteV ds t = ds) := by show _ = _; unfold noteV; rw [if_neg (by omega)]
    have h16' : ¬ (n : Int) < 16 := by omega
    go_wp2
    go_ret
    exact ⟨rfl, _, by rw [HN.out]; exact h2, Fr.of_below hB2, Fresh.refl _ _⟩
set_option maxHeartbeats 2000000 in
theorem radd_full (B p : Nat) (fb db : Option Nat) (cum : Nat) (S : Nat → Bool) (ds : List Nat) (t : Nat) (w : World) (h : RTk w B p fb db cum (farN S) ds) (ht : t < 4294967296) (hv : hasV cum S t = false) (hf : 256 < aheadV 4294967296 cum t) :
    Calls Try.prog 38 #[.pointer (some ⟨p, 0, none⟩), .int .u32 t] w fun e w' => e = .returned (.int .i64 10) ∧ RTk w' B p fb db cum (farN S) ds ∧ Below w.heap.size w w' := by
  have ha := rahead32 cum t h.cumlt ht w
  have hh := fun W (hT : RTk W B p fb db cum (farN S) ds) => rhas_any B p fb db cum (farN S) ds t W hT ht
  have hv2 := hasV_mem cum S t
  rw [hv] at hv2
  change false = (decide (aheadV 4294967296 cum t ≤ 0) || anyV (farN S) (aheadV 4294967296 cum t)) at hv2
  rw [← hv2] at hh
  have hc0 := h.c0
  generalize aheadV 4294967296 cum t = m at *
  generalize farN S = F at *
  clear hv hv2
  go_enter Try.func38, Try.ntmps38
  go_wp2_with fail
  refine ha.mono ?_
  rintro e w1 ⟨er, rfl, hb1⟩
  have h1 := h.below hb1
  clear hc0 ha
  go_wp2_with fail
  refine (hh _ h1).mono ?_
  rintro e w2 ⟨rfl, hb2⟩
  have h2 := h1.below hb2
  have hB2 : Below w.heap.size w w2 := hb1.trans (hb2.mono hb1.size)
  clear hh h1 hb1 hb2
  go_wp2
  go_ret
  exact ⟨rfl, h2, hB2⟩
end Go.Proofs.Ytlgpabdadnfbeaa
