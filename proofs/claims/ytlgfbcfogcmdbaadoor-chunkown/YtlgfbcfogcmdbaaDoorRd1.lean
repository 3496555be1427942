/- chunk's reader, where enough is left: must, cut, number, half, word, length. -/
import Derived.Test.YtlgfbcfogcmdbaaDoorRgC
import Derived.Test.YtlgfbcfogcmdbaaDoorNum
import Derived.Test.YtlgfbcfogcmdbaaDoorSlc
import Derived.Deep.DeepMust
namespace Go.Proofs.YtlgfbcfogcmdbaaDoor
open Go.RowKit
theorem SlK.dropR {w : World} {b off n c : Nat} {zs : List Nat} (h : Sl w (some ⟨b, off, none⟩) n c zs) (k off' : Nat) (hk : k ≤ n) (ho : k < n → off' = off + k) : Sl w (some ⟨b, off', none⟩) (n - k) (c - k) (zs.drop k) := by
  obtain ⟨h1, h2, h3, hsm, _, h4, h5⟩ := h
  refine ⟨by simp; omega, by omega, by omega, by omega, (fun e => by cases e), fun i => ?_, ?_⟩
  · rw [List.getD_eq_getElem?_getD, List.getElem?_drop, ← List.getD_eq_getElem?_getD]; exact h4 _
  · rcases Nat.eq_or_lt_of_le hk with e | e
    · exact .inl (by omega)
    · rcases h5 with h5 | ⟨b', o', e1, hlt, hc⟩
      · omega
      · injection e1 with e1
        injection e1 with e1 e2
        subst e1 e2
        refine .inr ⟨b, off', rfl, hlt, fun i hi => ?_⟩
        rw [ho e, Nat.add_assoc, hc (k + i) (by omega)]
        rw [List.getD_eq_getElem?_getD, List.getD_eq_getElem?_getD, List.getElem?_drop]
theorem SlK.takeR {w : World} {b off n c : Nat} {zs : List Nat} (h : Sl w (some ⟨b, off, none⟩) n c zs) (k : Nat) (hk : k ≤ n) : Sl w (some ⟨b, off, none⟩) k c (zs.take k) := by
  obtain ⟨h1, h2, h3, hsm, _, h4, h5⟩ := h
  refine ⟨by simp; omega, by omega, h3, by omega, (fun e => by cases e), fun i => ?_, ?_⟩
  · rw [List.getD_eq_getElem?_getD, List.getElem?_take]
    split
    · rw [← List.getD_eq_getElem?_getD]; exact h4 _
    · decide
  · rcases h5 with h5 | ⟨b', o', e1, hlt, hc⟩
    · exact .inl (by omega)
    · injection e1 with e1
      injection e1 with e1 e2
      subst e1 e2
      refine .inr ⟨b, off, rfl, hlt, fun i hi => ?_⟩
      rw [hc i (by omega), List.getD_eq_getElem?_getD, List.getD_eq_getElem?_getD, List.getElem?_take_of_lt hi]
/-- A reader in block q: zs is left; the bytes lie as they lay in W0. -/
structure RdW (W0 w : World) (q : Nat) (zs : List Nat) (sh : Int) : Prop where
  ex : ∃ b off n c, Stc w q [.slice (some ⟨b, off, none⟩) n c, .int .i64 sh] ∧ Sl W0 (some ⟨b, off, none⟩) n c zs
  bel : Below W0.heap.size W0 w
  old : W0.heap.size ≤ q
theorem RdW.below {W0 w w' : World} {q : Nat} {zs : List Nat} {sh : Int} (h : RdW W0 w q zs sh) (hb : Below w.heap.size w w') : RdW W0 w' q zs sh := by
  obtain ⟨b, off, n, c, h1, h2⟩ := h.ex
  exact ⟨⟨b, off, n, c, h1.below hb, h2⟩, h.bel.trans (hb.mono h.bel.size), h.old⟩
theorem RdW.fr {W0 w w' : World} {q : Nat} {zs : List Nat} {sh : Int} {Q : Nat → Prop} (h : RdW W0 w q zs sh) (hf : Fr Q w w') (hq : ¬ Q q) (hW : ∀ g, Q g → W0.heap.size ≤ g) : RdW W0 w' q zs sh := by
  obtain ⟨b, off, n, c, h1, h2⟩ := h.ex
  exact ⟨⟨b, off, n, c, h1.fr hf hq, h2⟩, h.bel.trans (hf.below _ h.bel.size hW), h.old⟩
/-- A call of a reader that answers v: zs is left behind it; its own block alone was turned. -/
structure RdP (W0 w : World) (q : Nat) (v : Value) (zs : List Nat) (sh : Int) (e : Ending) (w' : World) : Prop where
  out : e = .returned v
  rd : RdW W0 w' q zs sh
  fr : Fr (fun k => k = q) w w'
theorem must_yes (e : Int) (w : World) : Calls Tryd.prog 60 #[.bool true, .int .i64 e] w fun r w' => r = .returned (.tuple #[]) ∧ w' = w := by
  go_enter Tryd.func60, Tryd.ntmps60
  go_wp2
  go_end0
  exact ⟨rfl, rfl⟩
theorem slice_fromR (b off n c k : Nat) (h : k ≤ n) (hc : n ≤ c) : ∃ o2, (∀ w, (Instr.slice 30 (.slice (some ⟨b, off, none⟩) n c) (some (.int .i64 (k : Int))) none none).run Tryd.prog w = .ok (.slice (some ⟨b, o2, none⟩) (n - k) (c - k)) w) ∧ (k < n → o2 = off + k) := by
  refine ⟨if c = k then off else off + k, fun w => ?_, fun hx => by rw [if_neg (by omega)]⟩
  rw [run_slice_l w 30 _ n c und8 .i64 k (by omega) (by omega), size8]
  simp only [Result.andThen, sliced, Int.toNat_natCast]
  split <;> simp [Addr.add]
/-- cut: the bytes, and where they lie. -/
structure RcP (W0 w : World) (q k : Nat) (zs : List Nat) (sh : Int) (e : Ending) (w' : World) : Prop where
  ex : ∃ b off c, e = .returned (.slice (some ⟨b, off, none⟩) k c) ∧ Sl W0 (some ⟨b, off, none⟩) k c (zs.take k)
  rd : RdW W0 w' q (zs.drop k) sh
  fr : Fr (fun k => k = q) w w'
set_option linter.unusedVariables false in
set_option maxRecDepth 100000 in
set_option maxHeartbeats 4000000 in
theorem rcut_any {W0 w : World} {q : Nat} {zs : List Nat} {sh : Int} (h : RdW W0 w q zs sh) (k : Nat) (hk : k ≤ zs.length) :
    Calls Tryd.prog 56 #[.pointer (some ⟨q, 0, none⟩), .int .i64 (k : Nat)] w (RcP W0 w q k zs sh) := by
  obtain ⟨b, off, n, c, hst, hs⟩ := h.ex
  have hl := hs.len
  have hcap := hs.cap
  have hsm := hs.small
  rw [hl] at hk
  have hsl1 := slice_to (some ⟨b, off, none⟩) n c k (by omega)
  obtain ⟨o2, hsl2, ho2⟩ := slice_fromR b off n c k hk hcap
  have HKC : Hid (w.drew.cell? ⟨q, 0, none⟩ = some (.slice (some ⟨b, off, none⟩) n c) ∧ w.drew.cell? ⟨q, 1, none⟩ = some (.int .i64 sh)) := by
    have s := hst.below (Below.refl _ _).drew
    exact ⟨s.cell 0 _ rfl, s.cell 1 _ rfl⟩
  have hk1 : (k : Int) ≤ (n : Int) := by omega
  have hst2 := hst.below (Below.refl w.heap.size w).drew
  have HE : Hid (RcP W0 w q k zs sh (.returned (.slice (some ⟨b, off, none⟩) k c)) (w.drew.setCell ⟨q, 0, none⟩ (.slice (some ⟨b, o2, none⟩) (n - k) (c - k)))) := by
    have hf := Fr.setCell (fun g => g = q) w.drew ⟨q, 0, none⟩ (.slice (some ⟨b, o2, none⟩) (n - k) (c - k)) rfl
    have hb : Below w.heap.size w w.drew := (Below.refl _ _).drew
    exact ⟨⟨b, off, c, rfl, hs.takeR k hk⟩, ⟨⟨b, o2, n - k, c - k, hst2.set 0 _, hs.dropR k o2 hk ho2⟩, (h.bel.trans (hb.mono h.bel.size)).trans (hf.below _ (Nat.le_trans h.bel.size hb.size) (fun g hg => by rw [hg]; exact h.old)), h.old⟩, (Fr.of_below hb).trans hf⟩
  have c0 := hst2.cell 0 _ rfl
  have f0 := hst2.free 0
  have hql := hst2.lt
  clear hst hs h hst2 ho2
  go_enter Tryd.func56, Tryd.ntmps56
  go_wp2_with fail
  refine wp_region_fixW mixedX (fun V => V = w.drew) [(6, .pointer (some ⟨q, 0, none⟩)), (7, .pointer (some ⟨q, 0, none⟩)), (8, .pointer (some ⟨q, 0, none⟩)), (9, .slice (some ⟨b, off, none⟩) n c), (10, .int .i64 (n : Nat)), (11, .int .i64 (k : Nat)), (12, .bool true), (13, .pointer (some ⟨q, 0, none⟩)), (14, .pointer (some ⟨q, 0, none⟩)), (15, .pointer (some ⟨q, 1, none⟩)), (16, .int .i64 sh), (17, .tuple #[])] ?Z1 ?hZ1 (by kernel_rfl) (by kernel_rfl) (by kernel_rfl) (by kernel_rfl) ?h01 ?hops1 ?he1
  case hZ1 => simp only [List.foldl_cons, List.foldl_nil, List.setIfInBounds_toArray, List.set_cons_zero, List.set_cons_succ]; rfl
  case h01 => rfl
  case hops1 =>
    refine ⟨?_, ?_, ?_, ?_, ?_, ?_, ?_, ?_, ?_, ?_, ?_, ?_, trivial⟩
    · exact fix_val (by rfl) (fun W hW => by subst hW; obtain ⟨c0, c1⟩ := HKC.out; go_simp; (try with_reducible rfl); (try omega))
    · exact fix_val (by rfl) (fun W hW => by subst hW; obtain ⟨c0, c1⟩ := HKC.out; go_simp; (try with_reducible rfl); (try omega))
    · exact fix_val (by rfl) (fun W hW => by subst hW; obtain ⟨c0, c1⟩ := HKC.out; go_simp; (try with_reducible rfl); (try omega))
    · exact fix_val (by rfl) (fun W hW => by subst hW; obtain ⟨c0, c1⟩ := HKC.out; go_simp; (try with_reducible rfl); (try omega))
    · exact fix_val (by rfl) (fun W hW => by subst hW; obtain ⟨c0, c1⟩ := HKC.out; go_simp; (try with_reducible rfl); (try omega))
    · exact fix_val (by rfl) (fun W hW => by subst hW; obtain ⟨c0, c1⟩ := HKC.out; go_simp; (try with_reducible rfl); (try omega))
    · exact fix_val (by rfl) (fun W hW => by subst hW; obtain ⟨c0, c1⟩ := HKC.out; go_simp; (try with_reducible rfl); (try omega))
    · exact fix_val (by rfl) (fun W hW => by subst hW; obtain ⟨c0, c1⟩ := HKC.out; go_simp; (try with_reducible rfl); (try omega))
    · exact fix_val (by rfl) (fun W hW => by subst hW; obtain ⟨c0, c1⟩ := HKC.out; go_simp; (try with_reducible rfl); (try omega))
    · exact fix_val (by rfl) (fun W hW => by subst hW; obtain ⟨c0, c1⟩ := HKC.out; go_simp; (try with_reducible rfl); (try omega))
    · exact fix_val (by rfl) (fun W hW => by subst hW; obtain ⟨c0, c1⟩ := HKC.out; go_simp; (try with_reducible rfl); (try omega))
    · exact fix_call (vs := [.bool true, .int .i64 sh]) (by rfl) rfl (by rfl) Tryd.func60 (by rfl) (by rfl) (fun W hW => by subst hW; exact must_yes sh _)
  case he1 =>
  rintro V rfl
  go_wp2
  go_ret
  exact HE.out
theorem numV_all (zs : List Nat) (k : Nat) (h1 : 1 ≤ k) (h8 : k ≤ 8) (h : zs.length = k) : numV zs 0 (k : Int) = numB zs ∧ nspanE k 0 (k : Int) = 0 := by
  have e : nspanE k 0 (k : Int) = 0 := by
    unfold nspanE spanE
    rw [if_neg (by omega), if_neg (by omega), if_neg (by omega)]
  refine ⟨?_, e⟩
  unfold numV
  rw [h, if_pos e]
  congr 1
  simp
  rw [← h, List.take_length]
set_option linter.unusedVariables false in
set_option maxRecDepth 100000 in
theorem rnum_any {W0 w : World} {q : Nat} {zs : List Nat} {sh : Int} (h : RdW W0 w q zs sh) (k : Nat) (hk : k ≤ zs.length) (h1 : 1 ≤ k) (h8 : k ≤ 8) :
    Calls Tryd.prog 59 #[.pointer (some ⟨q, 0, none⟩), .int .i64 (k : Nat)] w (RdP W0 w q (.int .u64 (numB (zs.take k) : Nat)) (zs.drop k) sh) := by
  have HCU := (show Hid _ from rcut_any h k hk)
  have htl : (zs.take k).length = k := by simp; omega
  clear h
  go_enter Tryd.func59, Tryd.ntmps59
  go_wp2_with fail
  refine Calls.mono HCU.out ?_
  clear HCU
  rintro e w1 hP
  obtain ⟨b, off, c, rfl, hs⟩ := hP.ex
  obtain ⟨e1, e2⟩ := numV_all (zs.take k) k h1 h8 htl
  have HN := (show Hid _ from num_any (some ⟨b, off, none⟩) k c (zs.take k) 0 (k : Int) w1 (hs.below hP.rd.bel))
  rw [e1, e2] at HN
  have HR : Hid (RdP W0 w q (.int .u64 (numB (zs.take k) : Nat)) (zs.drop k) sh (.returned (.int .u64 (numB (zs.take k) : Nat))) w1) := ⟨rfl, hP.rd, hP.fr⟩
  clear hs hP e1 e2 htl
  generalize numB (zs.take k) = nv at *
  go_wp2_with fail
  refine Calls.mono HN.out ?_
  rintro e w2 ⟨rfl, rfl⟩
  go_wp2
  go_ret
  exact HR.out
theorem numB_take {zs : List Nat} (hb : ∀ i, zs.getD i 0 < 256) (k : Nat) (hk : k ≤ zs.length) : numB (zs.take k) < 256 ^ k := by
  have := numB_lt (zs.take k) (fun i => by
    rw [List.getD_eq_getElem?_getD, List.getElem?_take]
    split
    · rw [← List.getD_eq_getElem?_getD]; exact hb i
    · decide)
  rwa [show (zs.take k).length = k by simp; omega] at this
theorem RdW.bnd {W0 w : World} {q : Nat} {zs : List Nat} {sh : Int} (h : RdW W0 w q zs sh) : ∀ i, zs.getD i 0 < 256 := by
  obtain ⟨b, off, n, c, _, h2⟩ := h.ex
  exact h2.bnd
set_option linter.unusedVariables false in
set_option maxRecDepth 100000 in
theorem rhalf_any {W0 w : World} {q : Nat} {zs : List Nat} {sh : Int} (h : RdW W0 w q zs sh) (hk : 2 ≤ zs.length) :
    Calls Tryd.prog 54 #[.pointer (some ⟨q, 0, none⟩)] w (RdP W0 w q (.int .u16 (numB (zs.take 2) : Nat)) (zs.drop 2) sh) := by
  have HN := (show Hid _ from rnum_any h 2 hk (by decide) (by decide))
  have hlt := numB_take h.bnd 2 hk
  have hw : IntKind.u16.wrap ((numB (zs.take 2) : Nat) : Int) = (numB (zs.take 2) : Nat) := by rw [IntKind.wrap_u16]; omega
  clear h
  generalize numB (zs.take 2) = nv at *
  go_enter Tryd.func54, Tryd.ntmps54
  go_wp2_with fail
  refine Calls.mono HN.out ?_
  rintro e w2 ⟨rfl, hr, hf⟩
  have HR : Hid (RdP W0 w q (.int .u16 (nv : Nat)) (zs.drop 2) sh (.returned (.int .u16 (nv : Nat))) w2) := ⟨rfl, hr, hf⟩
  clear hr hf HN
  go_wp2
  go_ret
  exact HR.out
set_option linter.unusedVariables false in
set_option maxRecDepth 100000 in
theorem rword_any {W0 w : World} {q : Nat} {zs : List Nat} {sh : Int} (h : RdW W0 w q zs sh) (hk : 4 ≤ zs.length) :
    Calls Tryd.prog 55 #[.pointer (some ⟨q, 0, none⟩)] w (RdP W0 w q (.int .u32 (numB (zs.take 4) : Nat)) (zs.drop 4) sh) := by
  have HN := (show Hid _ from rnum_any h 4 hk (by decide) (by decide))
  have hlt := numB_take h.bnd 4 hk
  have hw : IntKind.u32.wrap ((numB (zs.take 4) : Nat) : Int) = (numB (zs.take 4) : Nat) := by rw [IntKind.wrap_u32]; omega
  clear h
  generalize numB (zs.take 4) = nv at *
  go_enter Tryd.func55, Tryd.ntmps55
  go_wp2_with fail
  refine Calls.mono HN.out ?_
  rintro e w2 ⟨rfl, hr, hf⟩
  have HR : Hid (RdP W0 w q (.int .u32 (nv : Nat)) (zs.drop 4) sh (.returned (.int .u32 (nv : Nat))) w2) := ⟨rfl, hr, hf⟩
  clear hr hf HN
  go_wp2
  go_ret
  exact HR.out
set_option linter.unusedVariables false in
set_option maxRecDepth 100000 in
theorem rlen_any {W0 w : World} {q : Nat} {zs : List Nat} {sh : Int} (h : RdW W0 w q zs sh) (hk : 2 ≤ zs.length) (L : Nat) (hL : numB (zs.take 2) = 4 + L) :
    Calls Tryd.prog 61 #[.pointer (some ⟨q, 0, none⟩)] w (RdP W0 w q (.int .i64 (L : Nat)) (zs.drop 2) sh) := by
  have HN := (show Hid _ from rhalf_any h hk)
  have hlt := numB_take h.bnd 2 hk
  rw [hL] at HN hlt
  have hsub : (((4 + L : Nat) : Int) - 4) = (L : Int) := by omega
  have hge : (4 : Int) ≤ ((4 + L : Nat) : Int) := by omega
  clear h hL
  generalize 4 + L = nv at *
  go_enter Tryd.func61, Tryd.ntmps61
  go_wp2_with fail
  refine Calls.mono HN.out ?_
  rintro e w2 ⟨rfl, hr, hf⟩
  have HR : Hid (RdP W0 w q (.int .i64 (L : Nat)) (zs.drop 2) sh (.returned (.int .i64 (L : Nat))) w2) := ⟨rfl, hr, hf⟩
  clear hr hf HN
  go_wp2_with fail
  refine Calls.mono (must_yes 4 w2) ?_
  rintro e w3 ⟨rfl, rfl⟩
  go_wp2
  go_ret
  exact HR.out
end Go.Proofs.YtlgfbcfogcmdbaaDoor
