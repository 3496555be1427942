/- chunk's writer: bytes laid one behind the other. -/
import Derived.Test.YtlgfbcfogcmdbaaDoorRgC
import Derived.Test.YtlgfbcfogcmdbaaDoorCh5
import Derived.Test.YtlgfbcfogcmdbaaDoorBytes
import Derived.Deep.DeepMust
namespace Go.Proofs.YtlgfbcfogcmdbaaDoor
open Go.RowKit
theorem OwnB.fr {w w' : World} {B : Nat} {a : Option Addr} {n c : Nat} {zs : List Nat} {Q : Nat → Prop} (h : OwnB w B a n c zs) (hf : Fr Q w w') (hq : ∀ g, B ≤ g → g < w.heap.size → ¬ Q g) : OwnB w' B a n c zs := by
  obtain ⟨h1, ⟨h2, h3⟩, h4⟩ := h
  refine ⟨h1, ⟨h2, ?_⟩, h4⟩
  rcases h3 with h3 | ⟨g, cap, cur, hv, hb, hh, hr⟩
  · exact .inl h3
  · have hl := (Array.getElem?_eq_some_iff.1 hh).1
    exact .inr ⟨g, cap, cur, hv, hb, (hf.block g hl (hq g hb hl)).trans hh, hr⟩
/-- A writer in block q: what it has laid lies in blocks behind q; K: blocks that it does not touch. -/
structure WrW (w : World) (q : Nat) (K : Nat → Prop) (zs : List Nat) : Prop where
  ex : ∃ a c, Stc w q [.slice a zs.length c] ∧ OwnB w (q + 1) a zs.length c zs ∧ ∀ g, (Value.slice a zs.length c).ownBlock = some g → ¬ K g
  nk : ¬ K q
  kl : ∀ g, K g → g < w.heap.size
/-- zs is laid now; blocks ahead of q, and those of K, are as they were. -/
structure WrP (w : World) (q : Nat) (K : Nat → Prop) (zs : List Nat) (e : Ending) (w' : World) : Prop where
  out : e = .returned (.tuple #[])
  wr : WrW w' q K zs
  fr : Fr (fun k => q ≤ k ∧ ¬ K k) w w'
theorem WrW.lt {w : World} {q : Nat} {K : Nat → Prop} {zs : List Nat} (h : WrW w q K zs) : q < w.heap.size := by
  obtain ⟨a, c, h1, _⟩ := h.ex
  exact h1.lt
theorem WrW.below {w w' : World} {q : Nat} {K : Nat → Prop} {zs : List Nat} (h : WrW w q K zs) (hb : Below w.heap.size w w') : WrW w' q K zs := by
  obtain ⟨a, c, h1, h2, h3⟩ := h.ex
  exact ⟨⟨a, c, h1.below hb, h2.below hb, h3⟩, h.nk, fun g hg => Nat.lt_of_lt_of_le (h.kl g hg) hb.size⟩
/-- A younger block comes aboard. -/
theorem WrW.add {w w' : World} {q : Nat} {K : Nat → Prop} {zs : List Nat} (h : WrW w q K zs) (hb : Below w.heap.size w w') (x : Nat) (hx : w.heap.size ≤ x) (hx' : x < w'.heap.size) : WrW w' q (fun g => K g ∨ g = x) zs := by
  obtain ⟨a, c, h1, h2, h3⟩ := h.ex
  have hq := h1.lt
  refine ⟨⟨a, c, h1.below hb, h2.below hb, fun g hg hk => ?_⟩, fun hk => ?_, fun g hg => ?_⟩
  · rcases hk with e | e
    · exact h3 g hg e
    · have := (h2.own.lt g hg).2; omega
  · rcases hk with e | e
    · exact h.nk e
    · omega
  · rcases hg with e | e
    · exact Nat.lt_of_lt_of_le (h.kl g e) hb.size
    · omega
theorem WrW.sub {w : World} {q : Nat} {K K' : Nat → Prop} {zs : List Nat} (h : WrW w q K zs) (hk : ∀ g, K' g → K g) : WrW w q K' zs := by
  obtain ⟨a, c, h1, h2, h3⟩ := h.ex
  exact ⟨⟨a, c, h1, h2, fun g hg e => h3 g hg (hk g e)⟩, fun e => h.nk (hk q e), fun g hg => h.kl g (hk g hg)⟩
theorem WrP.from {w v : World} {q : Nat} {K : Nat → Prop} {zs : List Nat} {e : Ending} {w' : World} (h : WrP v q K zs e w') (hb : Fr (fun k => q ≤ k ∧ ¬ K k) w v) : WrP w q K zs e w' := ⟨h.out, h.wr, hb.trans h.fr⟩
theorem WrW.new (w : World) (W : World) (T : TypeId) (hW : W = w.alloc (.cells #[.slice none 0 0] T)) : WrW W w.heap.size (fun _ => False) [] :=
  ⟨⟨none, 0, Stc.new w [.slice none 0 0] T W hW, OwnB.nil _ _, fun g hg => (by cases hg)⟩, fun e => e, fun g hg => hg.elim⟩
set_option linter.unusedVariables false in
set_option maxRecDepth 100000 in
theorem wraw_any {w : World} {q : Nat} {K : Nat → Prop} {zs : List Nat} (h : WrW w q K zs) {a : Option Addr} {n c : Nat} {ys : List Nat} (hs : Sl w a n c ys) (hb : zs.length + n ≤ 100000000) :
    Calls Tryd.prog 28 #[.pointer (some ⟨q, 0, none⟩), .slice a n c] w (WrP w q K (zs ++ ys)) := by
  obtain ⟨oa, oc, hst, ho, hok⟩ := h.ex
  have HNK := (show Hid _ from And.intro h.nk (And.intro h.kl hok))
  have hl := hs.len
  have c0 := hst.cell 0 _ rfl
  have c0f := hst.free 0
  have hql := hst.lt
  have HS := (show Hid _ from hst)
  obtain ⟨m, hm⟩ : ∃ m, m = zs.length := ⟨_, rfl⟩
  rw [← hm] at c0 ho hb HNK
  have HM := (show Hid _ from hm)
  clear h hst hm hok
  go_enter Tryd.func28, Tryd.ntmps28
  go_wp2_with (at_builtin; go_must (refine app_list2 rfl _ _ rfl (q + 1) _ m oc zs rfl ho _ n c ys rfl hs (by omega) (by omega) ?_))
  intro a2 c2 w2 ho2 hg2 hn2
  have hf : Fr (fun k => q + 1 ≤ k ∧ ¬ K k) w w2 := Fr.grown hg2 (fun k hk => ⟨(ho.own.lt k hk).1, HNK.out.2.2 k hk⟩)
  have hst2 := HS.out.fr hf (fun e => by omega)
  have d0 := hst2.cell 0 _ rfl
  have d0f := hst2.free 0
  have HF : Hid (WrP w q K (zs ++ ys) (.returned (.tuple #[])) (w2.setCell ⟨q, 0, none⟩ (.slice a2 (m + n) c2))) := by
    have hf3 := Fr.setCell (fun k => k = q) w2 ⟨q, 0, none⟩ (.slice a2 (m + n) c2) rfl
    have e : (zs ++ ys).length = m + n := by rw [List.length_append, ← HM.out, hl]
    refine ⟨rfl, ⟨⟨a2, c2, ?_, ?_, fun g hg hk => ?_⟩, HNK.out.1, fun g hg => Nat.lt_of_lt_of_le (HNK.out.2.1 g hg) (Nat.le_trans hf.size hf3.size)⟩, (hf.mono (fun k _ hk => ⟨by omega, hk.2⟩)).trans (hf3.mono (fun k _ hk => ⟨by omega, by rw [hk]; exact HNK.out.1⟩))⟩
    · rw [e]; exact hst2.set 0 _
    · rw [e]; exact ho2.fr hf3 (fun g hg _ e => by omega)
    · rw [e] at hg
      rcases hn2 g hg with e2 | e2
      · exact HNK.out.2.2 g e2 hk
      · have := HNK.out.2.1 g hk; omega
  clear hf hst2 HS ho2 hg2 ho hs hn2
  go_wp2
  go_end0
  exact HF.out
theorem bytesV_ok {v k : Nat} (h1 : 1 ≤ k) (h8 : k ≤ 8) (hv : v < 256 ^ k) : bytesV v (k : Int) = bytesB v k := by
  unfold bytesV
  rw [if_pos]
  · simp
  · unfold bytesE
    rw [if_neg (by omega), if_pos]
    rw [Int.toNat_natCast]
    exact Nat.div_eq_of_lt hv
set_option linter.unusedVariables false in
set_option maxRecDepth 100000 in
theorem wnum_any {w : World} {q : Nat} {K : Nat → Prop} {zs : List Nat} (h : WrW w q K zs) (v k : Nat) (h1 : 1 ≤ k) (h8 : k ≤ 8) (hv : v < 256 ^ k) (hv64 : v < 18446744073709551616) (hb : zs.length + 8 ≤ 100000000) :
    Calls Tryd.prog 12 #[.pointer (some ⟨q, 0, none⟩), .int .u64 (v : Nat), .int .i64 (k : Nat)] w (WrP w q K (zs ++ bytesB v k)) := by
  have HBY := (show Hid _ from bytes_any v (k : Int) w hv64)
  rw [bytesV_ok h1 h8 hv] at HBY
  have hlen := bytesB_len v k
  have HH := (show Hid _ from h)
  clear h
  generalize bytesE v (k : Int) = E at *
  go_enter Tryd.func12, Tryd.ntmps12
  go_wp2_with fail
  refine Calls.mono HBY.out ?_
  clear HBY
  rintro e w1 ⟨a, c, rfl, ho, hb1⟩
  rw [hlen] at ho ⊢
  have HRW := (show Hid _ from wraw_any (HH.out.below hb1) (ho.sl (by omega)) (by omega))
  have HB := (show Hid _ from hb1)
  clear ho hb1
  go_wp2_with fail
  refine Calls.mono HRW.out ?_
  rintro e w2 ⟨rfl, hw, hf⟩
  have HF : Hid (WrP w q K (zs ++ bytesB v k) (.returned (.tuple #[])) w2) := ⟨rfl, hw, (Fr.of_below HB.out).trans hf⟩
  clear hw hf HRW
  go_wp2
  go_end0
  exact HF.out
set_option linter.unusedVariables false in
set_option maxRecDepth 100000 in
theorem whalf_any {w : World} {q : Nat} {K : Nat → Prop} {zs : List Nat} (h : WrW w q K zs) (v : Nat) (hv : v < 65536) (hb : zs.length + 8 ≤ 100000000) :
    Calls Tryd.prog 10 #[.pointer (some ⟨q, 0, none⟩), .int .u16 (v : Nat)] w (WrP w q K (zs ++ bytesB v 2)) := by
  have HN := (show Hid _ from wnum_any h v 2 (by decide) (by decide) hv (by omega) hb)
  have hw : IntKind.u64.wrap (v : Int) = v := by rw [IntKind.wrap_u64]; omega
  clear h
  go_enter Tryd.func10, Tryd.ntmps10
  go_wp2_with fail
  refine Calls.mono HN.out ?_
  rintro e w2 ⟨rfl, hw, hf⟩
  have HF : Hid (WrP w q K (zs ++ bytesB v 2) (.returned (.tuple #[])) w2) := ⟨rfl, hw, hf⟩
  clear hw hf HN
  go_wp2
  go_end0
  exact HF.out
set_option linter.unusedVariables false in
set_option maxRecDepth 100000 in
theorem wword_any {w : World} {q : Nat} {K : Nat → Prop} {zs : List Nat} (h : WrW w q K zs) (v : Nat) (hv : v < 4294967296) (hb : zs.length + 8 ≤ 100000000) :
    Calls Tryd.prog 11 #[.pointer (some ⟨q, 0, none⟩), .int .u32 (v : Nat)] w (WrP w q K (zs ++ bytesB v 4)) := by
  have HN := (show Hid _ from wnum_any h v 4 (by decide) (by decide) hv (by omega) hb)
  have hw : IntKind.u64.wrap (v : Int) = v := by rw [IntKind.wrap_u64]; omega
  clear h
  go_enter Tryd.func11, Tryd.ntmps11
  go_wp2_with fail
  refine Calls.mono HN.out ?_
  rintro e w2 ⟨rfl, hw, hf⟩
  have HF : Hid (WrP w q K (zs ++ bytesB v 4) (.returned (.tuple #[])) w2) := ⟨rfl, hw, hf⟩
  clear hw hf HN
  go_wp2
  go_end0
  exact HF.out
set_option linter.unusedVariables false in
set_option maxRecDepth 100000 in
theorem wpad_any {w : World} {q : Nat} {K : Nat → Prop} {zs : List Nat} (h : WrW w q K zs) (hb : zs.length + 8 ≤ 100000000) :
    Calls Tryd.prog 29 #[.pointer (some ⟨q, 0, none⟩)] w (WrP w q K (zs ++ List.replicate (padN zs.length) 0)) := by
  have hpl : padN zs.length ≤ 3 := by unfold padN; omega
  obtain ⟨oa, oc, hst, ho, hok⟩ := h.ex
  have c0 := hst.cell 0 _ rfl
  have hql := hst.lt
  have HH := (show Hid _ from h)
  have HPD := (show Hid _ from fun W v hv => padding_any zs.length W (by omega) v hv)
  have hmk := mkn (padN zs.length) (by omega)
  clear h hst ho hok
  generalize hpn : padN zs.length = pn at *
  go_enter Tryd.func29, Tryd.ntmps29
  go_wp2_with fail
  refine Calls.mono (HPD.out _ _ (by rfl)) ?_
  rintro e w1 ⟨rfl, hw1⟩
  have hb1 : Below w.heap.size w w1 := by rw [hw1]; exact Below.refl _ _
  clear hw1
  have hba : Below w1.heap.size w1 (w1.alloc (.cells (madeCells #[.int .u8 0] pn) 5)) := (Below.refl _ _).alloc (Nat.le_refl _) _
  have HRW := (show Hid _ from wraw_any ((HH.out.below hb1).below hba) ((own_full w1 pn (by omega)).sl (by omega)) (by omega))
  have HB : Hid (Below w.heap.size w (w1.alloc (.cells (madeCells #[.int .u8 0] pn) 5))) := hb1.trans (hba.mono hb1.size)
  clear hb1 hba HH
  go_wp2_with fail
  refine Calls.mono HRW.out ?_
  rintro e w2 ⟨rfl, hw, hf⟩
  have HF : Hid (WrP w q K (zs ++ List.replicate pn 0) (.returned (.tuple #[])) w2) := ⟨rfl, hw, (Fr.of_below HB.out).trans hf⟩
  clear hw hf HRW
  go_wp2
  go_end0
  exact HF.out
end Go.Proofs.YtlgfbcfogcmdbaaDoor
