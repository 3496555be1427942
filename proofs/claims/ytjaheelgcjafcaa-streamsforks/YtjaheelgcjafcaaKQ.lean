/- trunklineref13: tell: a message that is not free: late, or one that waits. -/
import Derived.Test.YtjaheelgcjafcaaKP
import Derived.Test.YtjaheelgcjafcaaRgX
namespace Go.Proofs.Ytjaheelgcjafcaa
open Go.RowKit
theorem Fr.fresh2 {P Q : Nat → Prop} {a b c : World} (h : Fr P a b) (k : Fr Q b c) (hq : ∀ i, Q i → P i ∨ a.heap.size ≤ i) : Fr P a c :=
  ⟨k.os.trans h.os, k.tape.trans h.tape, k.output.trans h.output, Nat.le_trans h.size k.size, fun i hi hp => (k.block i (Nat.lt_of_lt_of_le hi h.size) (fun e => (hq i e).elim hp (fun e => by omega))).trans (h.block i hi hp)⟩
theorem nx_cell {w : World} {Z : Nat → Prop} {a : Option Addr} {c : Nat} {nx : List Nat} (h : RowR 1 nxV w Z a nx.length c nx) {st : Nat} (hs : st < nx.length) : ∃ g, a = some ⟨g, 0, none⟩ ∧ g < w.heap.size ∧ Z g ∧ w.cell? ⟨g, st, none⟩ = some (.int .u16 (nx.getD st 0 : Nat)) := by
  obtain ⟨g, x, h1, h2, h3, h4, h5⟩ := h.get hs
  refine ⟨g, h1, h2, h3, ?_⟩
  have := h5 0 _ rfl
  rw [Nat.mul_one, Nat.add_zero] at this
  rw [List.getD_eq_getElem?_getD, h4]
  exact this
theorem dropY_mn (V : List RyD) (k : Nat) : (dropY V k).map RyD.mn = dropV (V.map RyD.mn) k := by
  unfold dropY dropV
  rw [List.filter_map]
  rfl
theorem dropY_nd {V : List RyD} (h : (V.map RyD.key).Nodup) (k : Nat) : ((dropY V k).map RyD.key).Nodup := by
  unfold dropY
  exact (List.Sublist.map _ (List.filter_sublist ..)).nodup h
theorem dropY_put {V : List RyD} (h : (V.map RyD.key).Nodup) {x : RyD} {k : Nat} (hk : x.key = k) : ((dropY V k ++ [x]).map RyD.key).Nodup := by
  rw [List.map_append, List.nodup_append]
  refine ⟨dropY_nd h k, by simp, fun a ha b hb e => ?_⟩
  obtain ⟨y, hy, rfl⟩ := List.mem_map.1 ha
  have hb : b = x.key := by simpa using hb
  have := (List.mem_filter.1 hy).2
  rw [e, hb, hk] at this
  simp at this
theorem dropY_le (V : List RyD) (k : Nat) : (dropY V k).length ≤ V.length := List.length_filter_le _ _
/-- A message that waits from now on, laid: the streams behind it. -/
theorem RfS.put {W0 w w' : World} {p : Nat} {r : Rw} {nx : List Nat} {E : List ChQ} {V V' : List RyD} {Z : Nat → Prop} {va : Option Addr} {vc : Nat} {Q : Nat → Prop} (h : RfS W0 w p r nx E V Z) (hf : Fr Q w w') (hq : ∀ g, Q g → g = p ∨ w.heap.size ≤ g)
    (hst : Stc w' p [.slice r.aA nx.length r.aC, .slice r.lA E.length r.lC, .slice va V'.length vc]) (hv : OwnG 108 6 RyD.vals w' w.heap.size va V'.length vc V')
    (hsl : ∀ x ∈ V', x ∈ V ∨ (Sl w' x.a x.m.zs.length x.c x.m.zs ∧ (∀ g off, x.a = some ⟨g, off, none⟩ → Z g ∨ (w.heap.size ≤ g ∧ g < w'.heap.size)) ∧ x.m.st < 65536 ∧ x.m.ss < 65536 ∧ x.m.pp < 4294967296 ∧ x.m.zs.length ≤ 200000 ∧ x.n ≤ 128)) (hl : V'.length ≤ 128) :
    RfS W0 w' p ⟨r.aA, r.aC, r.lA, r.lC, va, vc⟩ nx E V' (fun g => Z g ∨ (w.heap.size ≤ g ∧ g < w'.heap.size)) := by
  have hz : ∀ g, Z g → ¬ Q g := fun g hg e => by have := h.zp g hg; have := hq g e; omega
  have hp := h.st.lt
  have hb : Below W0.heap.size W0 w' := ⟨hf.os.trans h.b0.os, hf.tape.trans h.b0.tape, hf.output.trans h.b0.output, Nat.le_trans h.b0.size hf.size, fun k hk => (hf.block k (Nat.lt_of_lt_of_le hk h.b0.size) (fun e => by have := hq k e; have := h.pn; have := h.b0.size; omega)).trans (h.b0.block k hk)⟩
  refine ⟨hst, (h.ra.fr hf hz).mono (fun g hg => .inl hg), (h.rl.fr hf hz).mono (fun g hg => .inl hg), OwnG.rowR hv (fun _ => rfl) _ (fun g h1 h2 => .inr ⟨h1, h2⟩), h.ok, hb, fun x hx => ?_, fun x hx => ?_, h.n1, h.n8, h.nv, h.el, hl, fun g hg => ?_, h.pn⟩
  · rcases hsl x hx with h1 | h1
    · exact ⟨(h.sl x h1).1.frA hf (fun b off e _ hQ => hz b ((h.sl x h1).2 b off e) hQ), fun g off e => .inl ((h.sl x h1).2 g off e)⟩
    · exact ⟨h1.1, h1.2.1⟩
  · rcases hsl x hx with h1 | h1
    · exact h.sm x h1
    · exact h1.2.2
  · rcases hg with hg | hg
    · have := h.zp g hg
      exact ⟨this.1, Nat.lt_of_lt_of_le this.2 hf.size⟩
    · omega
/-- The reference's loop over what waits no longer. -/
structure TeL (W0 w : World) (p : Nat) (E : List ChQ) (Z : Nat → Prop) (θ : Nat) (cs : List Value) (oa : Option Addr) (on oc : Nat) (T : List Mg) (nx : List Nat) (V : List RyD) (wr : World) : Prop where
  ex : ∃ r Z' ms, RfS W0 wr p r nx E V Z' ∧ OwnM wr w.heap.size oa on oc ms ∧ ms.map (·.1) = T ∧ (∀ y ∈ ms, Sl wr y.2.1 y.1.zs.length y.2.2 y.1.zs ∧ ∀ g off, y.2.1 = some ⟨g, off, none⟩ → Z' g) ∧ (∀ g, Z' g → ∀ n c, (Value.slice oa n c).ownBlock ≠ some g) ∧ ∀ g, Z' g → Z g ∨ w.heap.size ≤ g
  fr : Fr (fun g => g = p) w wr
  box : Stc wr θ cs
  lo : w.heap.size ≤ θ
  ne : ∀ n c, (Value.slice oa n c).ownBlock ≠ some θ
  nd : (V.map RyD.key).Nodup
set_option maxRecDepth 100000 in
set_option maxHeartbeats 8000000 in
set_option tactic.hygienic false in
/-- What is left: the loop over what waits no longer. -/
noncomputable def telC : PSigma fun G1 : Prop => Hid G1 → telB.1 := by
  apply PSigma.mk
  case snd =>
    intro h0
    unfold telB
    dsimp only
    intros
    have hS := HZ.out.1
    obtain ⟨hx0, hfr, hss⟩ := HZ.out.2.2.2
    have hc := hS.c
    have hst8 := hc.st8 x hx0
    have hxw := ChQ.sml (hc.ok x (List.mem_of_getElem? hx0)).wf
    have hss2 : ss < 65536 := by rw [hss]; exact hxw.2.2.2.2.1
    obtain ⟨nv, hnv⟩ : ∃ v, v = nx.getD x.st 0 := ⟨_, rfl⟩
    have hnv2 : nv < 65536 := by rw [hnv]; exact hc.h.nv _
    have hm := joinQ_eq hx0
    rw [← hfr] at hm
    have hm : joinQ xs = ⟨x.st, x.ss, x.pp, false, flQ xs⟩ := hm
    have hss3 : ss = x.ss := hss
    have hTV : tellV nx (Vs.map RyD.mn) (joinQ xs) k = if 0 < aheadV 65536 ss nv then ((nx, Vs.map RyD.mn), []) else relV x.st ((dropV (Vs.map RyD.mn) (tkey x.st ss)).length + 2) (nx, dropV (Vs.map RyD.mn) (tkey x.st ss) ++ [(joinQ xs, k)]) [] := by
      unfold tellV keyM
      rw [hm, if_neg Bool.false_ne_true]
      dsimp only
      rw [hnv, hss3]
    have hJ := HJ.out
    have hrow := fun g (hg : g = θ ∨ wz.heap.size ≤ g) => (show w.heap.size ≤ g ∧ ∀ n, (Value.slice ka n kc).ownBlock ≠ some g from ⟨by omega, fun n e => by
      have h1 : (Value.slice ka (restQ E xs).length kc).ownBlock = some g := by cases ka <;> exact e
      rcases hg with rfl | hg
      · exact HNK.out _ h1 rfl
      · have := (hS.row.own.lt g h1).2; omega⟩)
    have hR1 := hS.rfs hJ.fr_ hrow
    have hFw : Fr (fun g => g = p) w wq := hS.fr.fresh hJ.fr_ (fun g hg => by omega)
    obtain ⟨ga, hga, hgal, _, hgc⟩ := nx_cell hR1.ra hst8
    dsimp only at hga
    subst hga
    obtain ⟨an2, han⟩ : ∃ a, a = nx.length := ⟨_, rfl⟩
    have q0 : wq.cell? ⟨p, 0, none⟩ = some (.slice (some ⟨ga, 0, none⟩) an2 aC) := by rw [han]; exact hR1.st.cell 0 _ rfl
    have hst9 : x.st < an2 := by rw [han]; exact hst8
    rw [← hnv] at hgc
    have HKC : Hid (∀ W, Below wq.drew.heap.size wq.drew W → W.cell? ⟨p, 0, none⟩ = some (.slice (some ⟨ga, 0, none⟩) an2 aC) ∧ W.cell? ⟨ga, x.st, none⟩ = some (.int .u16 (nv : Nat)) ∧ W.cell? ⟨θ, 0, none⟩ = some (.int .u16 (x.st : Nat)) ∧ W.cell? ⟨θ, 1, none⟩ = some (.int .u16 (ss : Nat))) := by
      intro W hW
      have hW2 : Below wq.heap.size wq W := (Below.refl _ _).drew.trans hW
      have s := hJ.st.below hW2
      exact ⟨(hW2.cell (p := ⟨p, 0, none⟩) hR1.st.lt).trans q0, (hW2.cell (p := ⟨ga, x.st, none⟩) hgal).trans hgc, s.cell 0 _ rfl, s.cell 1 _ rfl⟩
    have HM := (show Hid _ from And.intro hm (And.intro hss3 (And.intro hTV (And.intro hR1 (And.intro hFw (And.intro hnv han))))))
    obtain ⟨o, ho⟩ : ∃ o, o = decide (0 < aheadV 65536 ss nv) := ⟨_, rfl⟩
    have HO := (show Hid _ from ho)
    have hst65 := hxw.2.2.2.1
    have hpp32 := hxw.2.2.2.2.2
    have w1 : IntKind.u32.wrap (ss : Int) = (ss : Int) := by rw [IntKind.wrap_u32]; omega
    have w2 : IntKind.u32.wrap (nv : Int) = (nv : Int) := by rw [IntKind.wrap_u32]; omega
    clear hS hx0 hfr hss hc hst8 hxw hm hss3 hTV hJ hrow hR1 hFw hgc hgal q0 hnv han ho
    refine wp_region_fixW mixedX (fun V => Below wq.drew.heap.size wq.drew V) [(107, .pointer (some ⟨θ, 1, none⟩)), (108, .int .u16 (ss : Nat)), (109, .int .u32 (ss : Nat)), (110, .pointer (some ⟨p, 0, none⟩)), (111, .pointer (some ⟨p, 0, none⟩)), (112, .pointer (some ⟨p, 0, none⟩)), (113, .slice (some ⟨ga, 0, none⟩) an2 aC), (114, .pointer (some ⟨θ, 0, none⟩)), (115, .int .u16 (x.st : Nat)), (116, .pointer (some ⟨ga, x.st, none⟩)), (117, .int .u16 (nv : Nat)), (118, .int .u32 (nv : Nat)), (119, .tuple #[.bool o, .int .i64 0]), (106, .tuple #[.bool o, .int .i64 0]), (120, .bool o), (121, .int .i64 0), (11, .bool o), (12, .int .i64 0)] ?Z2 ?hZ2 (by kernel_rfl) (by kernel_rfl) (by kernel_rfl) (by kernel_rfl) ?h02 ?hops2 ?he2
    case hZ2 => simp only [List.foldl_cons, List.foldl_nil, List.setIfInBounds_toArray, List.set_cons_zero, List.set_cons_succ]; rfl
    case h02 => exact Below.refl _ _
    case hops2 =>
      refine ⟨?_, ?_, ?_, ?_, ?_, ?_, ?_, ?_, ?_, ?_, ?_, ?_, ?_, ?_, ?_, ?_, ?_, ?_, trivial⟩
      · exact fix_val (by rfl) (fun W hW => by obtain ⟨d0, d1, d2, d3⟩ := HKC.out W hW; go_simp; (try with_reducible rfl); (try omega))
      · exact fix_val (by rfl) (fun W hW => by obtain ⟨d0, d1, d2, d3⟩ := HKC.out W hW; go_simp; (try with_reducible rfl); (try omega))
      · exact fix_val (by rfl) (fun W hW => by obtain ⟨d0, d1, d2, d3⟩ := HKC.out W hW; go_simp; (try with_reducible rfl); (try omega))
      · exact fix_val (by rfl) (fun W hW => by obtain ⟨d0, d1, d2, d3⟩ := HKC.out W hW; go_simp; (try with_reducible rfl); (try omega))
      · exact fix_val (by rfl) (fun W hW => by obtain ⟨d0, d1, d2, d3⟩ := HKC.out W hW; go_simp; (try with_reducible rfl); (try omega))
      · exact fix_val (by rfl) (fun W hW => by obtain ⟨d0, d1, d2, d3⟩ := HKC.out W hW; go_simp; (try with_reducible rfl); (try omega))
      · exact fix_val (by rfl) (fun W hW => by obtain ⟨d0, d1, d2, d3⟩ := HKC.out W hW; go_simp; (try with_reducible rfl); (try omega))
      · exact fix_val (by rfl) (fun W hW => by obtain ⟨d0, d1, d2, d3⟩ := HKC.out W hW; go_simp; (try with_reducible rfl); (try omega))
      · exact fix_val (by rfl) (fun W hW => by obtain ⟨d0, d1, d2, d3⟩ := HKC.out W hW; go_simp; (try with_reducible rfl); (try omega))
      · exact fix_val (by rfl) (fun W hW => by obtain ⟨d0, d1, d2, d3⟩ := HKC.out W hW; go_simp; (try with_reducible rfl); (try omega))
      · exact fix_val (by rfl) (fun W hW => by obtain ⟨d0, d1, d2, d3⟩ := HKC.out W hW; go_simp; (try with_reducible rfl); (try omega))
      · exact fix_val (by rfl) (fun W hW => by obtain ⟨d0, d1, d2, d3⟩ := HKC.out W hW; go_simp; (try with_reducible rfl); (try omega))
      · exact fix_call (vs := [.int .i64 16, .int .u32 (ss : Nat), .int .u32 (nv : Nat)]) (by rfl) rfl (by rfl) Try.func66 (by rfl) (by rfl) (fun W hW => by (exact (rless16 ss nv W hss2 hnv2).mono (fun e V h => ⟨by rw [h.1, ← HO.out]; rfl, hW.trans (h.2.mono hW.size)⟩)))
      · exact fix_val (by rfl) (fun W hW => by obtain ⟨d0, d1, d2, d3⟩ := HKC.out W hW; go_simp; (try with_reducible rfl); (try omega))
      · exact fix_val (by rfl) (fun W hW => by obtain ⟨d0, d1, d2, d3⟩ := HKC.out W hW; go_simp; (try with_reducible rfl); (try omega))
      · exact fix_val (by rfl) (fun W hW => by obtain ⟨d0, d1, d2, d3⟩ := HKC.out W hW; go_simp; (try with_reducible rfl); (try omega))
      · exact fix_val (by rfl) (fun W hW => by obtain ⟨d0, d1, d2, d3⟩ := HKC.out W hW; go_simp; (try with_reducible rfl); (try omega))
      · exact fix_val (by rfl) (fun W hW => by obtain ⟨d0, d1, d2, d3⟩ := HKC.out W hW; go_simp; (try with_reducible rfl); (try omega))
    case he2 =>
    intro V2 hV2
    have hbV : Below wq.heap.size wq V2 := (Below.refl _ _).drew.trans hV2
    have HBV := (show Hid _ from hbV)
    clear hV2 HKC w1 w2
    cases o with
    | true =>
      clear h0
      go_wp2
      obtain ⟨hm, hss3, hTV, hR1, hFw, hnv, han⟩ := HM.out
      have ho : 0 < aheadV 65536 ss nv := of_decide_eq_true HO.out.symm
      rw [if_pos ho] at hTV
      refine HZ.out.2.2.1 _ _ ⟨⟨none, 0, 0, rfl, ?_⟩, ⟨_, nx, Vs, _, hR1.below HBV.out, by rw [hTV], by rw [hTV], fun g hg => hg.elim .inl (fun h => .inr h.1)⟩, hFw.trans (Fr.of_below HBV.out)⟩
      rw [hTV]
      exact ⟨0, [], rfl, OwnG.nil _ _, fun y hy => by cases hy⟩
    | false =>
      have HRD : Hid (Calls Try.prog 67 #[.pointer (some ⟨p, 0, none⟩), .int .u16 (x.st : Nat), .int .u16 (ss : Nat)] V2 (DropR V2 p (.slice (some ⟨ga, 0, none⟩) nx.length aC) (.slice ka (restQ E xs).length kc) Vs (tkey x.st ss))) := rdrop_any (HM.out.2.2.2.1.below HBV.out) HZ.out.1.c.nd x.st ss hst65 hss2
      have s0 := HJ.out.st.below HBV.out
      have s0c := s0.cell 0 _ rfl
      have s1c := s0.cell 1 _ rfl
      clear s0
      go_wp2_with fail
      refine HRD.out.mono ?_
      clear HRD s0c s1c
      rintro e Wd hD
      have he := hD.ans
      subst he
      obtain ⟨va2, vc2, hrow2, hst2⟩ := hD.row
      have hDf := hD.fr
      clear hD
      have hθp : θ ≠ p := by omega
      have hbx3 := (HJ.out.st.below HBV.out).fr hDf hθp
      obtain ⟨fn, hfn⟩ : ∃ n, n = (flQ xs).length := ⟨_, rfl⟩
      obtain ⟨dn, hdn⟩ : ∃ n, n = (dropY Vs (tkey x.st ss)).length := ⟨_, rfl⟩
      have hdl : dn < 128 := by rw [hdn]; exact Nat.lt_of_le_of_lt (dropY_le _ _) HZ.out.1.c.v1
      rw [← hdn] at hrow2 hst2
      have hbx4 := hbx3
      rw [← hfn] at hbx4
      obtain ⟨ry, hry⟩ : ∃ y, y = RyD.mk (joinQ xs) ra rc k := ⟨_, rfl⟩
      have hrv : ry.vals = [.int .u16 (x.st : Nat), .int .u16 (ss : Nat), .int .u32 (x.pp : Nat), .bool false, .slice ra fn rc, .int .i64 (k : Nat)] := by rw [hry]; unfold RyD.vals; rw [HM.out.1, HM.out.2.1, hfn]
      obtain ⟨Wa, hWa⟩ : ∃ Wa, Wa = Wd.drew.alloc (.cells #[.int .u16 (x.st : Nat), .int .u16 (ss : Nat), .int .u32 (x.pp : Nat), .bool false, .slice ra fn rc, .int .i64 (k : Nat)] 108) := ⟨_, rfl⟩
      have bda : Below Wd.heap.size Wd Wa := by rw [hWa]; exact (Below.refl _ _).drew.alloc (Nat.le_refl _) _
      have hra := OwnG.below hrow2 bda
      have hsa := hst2.below bda
      have hba := hbx4.below bda
      have hVd := hDf.size
      have hny := Stc.new Wd.drew ry.vals 108 Wa (by rw [hrv]; exact hWa)
      obtain ⟨g7, c7, Wb, happ, ho7, hg7, hl7, hlt7⟩ := OwnG.app layRy hra 91 ry ⟨Wd.drew.heap.size, 0, none⟩ (st_add hny) (by unfold maxLen; omega) (by omega) (Nat.le_trans hVd bda.size)
      have hfb : Fr (fun g => V2.heap.size ≤ g) Wa Wb := Fr.grown hg7 (fun g hg => (hra.own.lt g hg).1)
      have hpV : p < V2.heap.size := by have := HM.out.2.2.2.1.st.lt; have := HBV.out.size; omega
      have hθV : θ < V2.heap.size := by have := HJ.out.st.lt; have := HBV.out.size; omega
      have hsb := hsa.fr hfb (by show ¬ V2.heap.size ≤ p; omega)
      have hbb := hba.fr hfb (by show ¬ V2.heap.size ≤ θ; omega)
      obtain ⟨Wc, hWc⟩ : ∃ Wc, Wc = Wb.setCell ⟨p, 2, none⟩ (.slice (some ⟨g7, 0, none⟩) (dn + 1) c7) := ⟨_, rfl⟩
      have hfc : Fr (fun g => g = p) Wb Wc := by rw [hWc]; exact Fr.setCell _ _ _ _ rfl
      have hsc := hsb.set 2 (.slice (some ⟨g7, 0, none⟩) (dn + 1) c7)
      rw [← hWc] at hsc
      have m2 := (hst2.below (Below.refl _ _).drew).cell 2 _ rfl
      have mf := (hst2.below (Below.refl _ _).drew).free 2
      have ma := hsa.cell 2 _ rfl
      have mb := hsb.cell 2 _ rfl
      have mbf := hsb.free 2
      have HWA := (show Hid _ from hWa)
      have HWC := (show Hid _ from hWc)
      have HAP := (show Hid _ from happ)
      have HD0 : Hid (Stc Wd.drew θ [.int .u16 (x.st : Nat), .int .u16 (ss : Nat), .int .u32 (x.pp : Nat), .bool false, .slice ra fn rc]) := hbx4.below (Below.refl _ _).drew
      have HD1 := (show Hid _ from hba)
      have HD2 := (show Hid _ from hbb)
      have HFIN : Hid (TeL W0 w p (restQ E xs) Z θ [.int .u16 (x.st : Nat), .int .u16 (ss : Nat), .int .u32 (x.pp : Nat), .bool false, .slice ra fn rc] (some ⟨Wc.heap.size, 0, none⟩) 0 0 [] nx (dropY Vs (tkey x.st ss) ++ [ry]) (Wc.alloc (.cells #[] 51)) ∧ (dropY Vs (tkey x.st ss) ++ [ry]).map RyD.mn = dropV (Vs.map RyD.mn) (tkey x.st ss) ++ [(joinQ xs, k)]) := by
        have hR1 := HM.out.2.2.2.1.below HBV.out
        have hJ := HJ.out
        have hfl := flQ_le HZ.out.1.c.ok k (by omega)
        rw [List.take_of_length_le (by omega)] at hfl
        have f1 : Fr (fun g => g = p ∨ V2.heap.size ≤ g) V2 Wc := (((hDf.mono (fun g _ h => .inl h)).trans (Fr.of_below bda)).trans (hfb.mono (fun g _ h => .inr h))).trans (hfc.mono (fun g _ h => .inl h))
        have bc : Below Wc.heap.size Wc (Wc.alloc (.cells #[] 51)) := (Below.refl _ _).alloc (Nat.le_refl _) _
        have hl1 : (dropY Vs (tkey x.st ss) ++ [ry]).length = dn + 1 := by rw [List.length_append, hdn]; rfl
        have hv := OwnG.fr ho7 hfc (fun g hg e => by have := (ho7.own.lt g hg).1; omega)
        have hR2 := hR1.put (V' := dropY Vs (tkey x.st ss) ++ [ry]) f1 (fun g h => h) (by rw [hl1]; exact hsc) (by rw [hl1]; exact hv) (fun y hy => by
          rcases List.mem_append.1 hy with hy | hy
          · exact .inl (List.mem_filter.1 hy).1
          · refine .inr ?_
            obtain rfl : y = ry := by simpa using hy
            have hsl : Sl Wc ra (flQ xs).length rc (flQ xs) := ((hJ.own.below HBV.out).sl (by omega)).frA f1 (fun b off e hb hQ => by
              have := (hJ.own.own.lt b (by rw [e]; rfl)).1
              have := HM.out.2.2.2.1.st.lt
              rcases hQ with h1 | h1 <;> omega)
            rw [hry]
            dsimp only
            rw [HM.out.1]
            refine ⟨hsl, fun g off e => .inl (.inr ?_), hst65, by rw [← HM.out.2.1]; exact hss2, ?_, by show (flQ xs).length ≤ 200000; omega, hLe⟩
            · have := (hJ.own.own.lt g (by rw [e]; rfl)).1
              have := (hJ.own.own.lt g (by rw [e]; rfl)).2
              have := HBV.out.size
              omega
            · exact hpp32) (by rw [hl1]; omega)
        have hsz : (Wc.alloc (.cells #[] 51)).heap.size = Wc.heap.size + 1 := by simp
        have hsV : V2.heap.size ≤ Wc.heap.size := f1.size
        have hbq := HBV.out.size
        refine ⟨⟨⟨_, _, [], hR2.below bc, OwnG.base (OwnG.empty (T := 51) (k := 5) (cf := Mq.v) Wc) (by omega), rfl, (fun y hy => by cases hy), (fun g hg n c e => ?_), (fun g hg => ?_)⟩, ?_, (hbb.fr hfc hθp).below bc, by omega, (fun n c e => ?_), dropY_put HZ.out.1.c.nd ?_⟩, ?_⟩
        · obtain rfl : Wc.heap.size = g := Option.some.inj e
          rcases hg with (hg | hg) | hg
          · have := HZ.out.1.c.h.zp _ hg
            omega
          · omega
          · omega
        · rcases hg with (hg | hg) | hg
          · exact .inl hg
          · exact .inr hg.1
          · exact .inr (by omega)
        · exact ((HM.out.2.2.2.2.1.trans (Fr.of_below HBV.out)).fresh2 f1 (fun g h => by rcases h with h | h; exact .inl h; exact .inr (by omega))).trans (Fr.of_below bc)
        · have e : Wc.heap.size = θ := Option.some.inj e
          omega
        · rw [hry]
          show keyM (joinQ xs) = _
          rw [HM.out.1]
          unfold keyM
          rw [HM.out.2.1]
        · rw [List.map_append, dropY_mn, hry]
          rfl
      clear hrow2 hst2 hDf hbx3 hbx4 hra hsa hba hny happ ho7 hg7 hl7 hfb hsb hbb hfc hsc hWa hWc hbV bda hrv hry hdn hfn
      go_wp2_with fail
      refine wp_region_stage mixedX [9, 10, 13] (fun stgN W => match stgN with | 0 => W = Wd.drew | 1 => W = Wa | 2 => W = Wb | _ => W = Wc) (fun W => W.cell? ⟨p, 2, none⟩ = some (.slice va2 dn vc2) ∧ W.cell? ⟨θ, 0, none⟩ = some (.int .u16 (x.st : Nat)) ∧ W.cell? ⟨θ, 1, none⟩ = some (.int .u16 (ss : Nat)) ∧ W.cell? ⟨θ, 2, none⟩ = some (.int .u32 (x.pp : Nat)) ∧ W.cell? ⟨θ, 3, none⟩ = some (.bool false) ∧ W.cell? ⟨θ, 4, none⟩ = some (.slice ra fn rc)) [(129, .pointer (some ⟨p, 0, none⟩)), (130, .pointer (some ⟨p, 0, none⟩)), (131, .pointer (some ⟨p, 0, none⟩)), (132, .pointer (some ⟨p, 2, none⟩)), (133, .slice va2 dn vc2), (134, .agg #[.int .u16 (x.st : Nat), .int .u16 (ss : Nat), .int .u32 (x.pp : Nat), .bool false, .slice ra fn rc]), (135, .slice (some ⟨lb, 0, none⟩) k lc), (136, .int .i64 (k : Nat)), (137, .agg #[.int .u16 (x.st : Nat), .int .u16 (ss : Nat), .int .u32 (x.pp : Nat), .bool false, .slice ra fn rc, .int .i64 (k : Nat)]), (138, .slice (some ⟨Wd.drew.heap.size, 0, none⟩) 1 1), (139, .slice (some ⟨g7, 0, none⟩) (dn + 1) c7), (140, .pointer (some ⟨p, 0, none⟩)), (141, .pointer (some ⟨p, 2, none⟩))] ?Z102 ?hZ102 (by kernel_rfl) (by kernel_rfl) (by kernel_rfl) (by kernel_rfl) (by kernel_rfl) ?h0102 ?hS102 (.inl (by kernel_rfl)) ?hops102 ?he102 (by kernel_rfl) (by decide)
      case hZ102 => simp only [List.foldl_cons, List.foldl_nil, List.setIfInBounds_toArray, List.set_cons_zero, List.set_cons_succ]; rfl
      case h0102 => rfl
      case hS102 =>
        intro k W hk hW
        have hk : k < 3 := hk
        obtain rfl | rfl | rfl : k = 0 ∨ k = 1 ∨ k = 2 := by omega
        · have hW : W = Wd.drew := hW; rw [hW]; exact ⟨m2, HD0.out.cell 0 _ rfl, HD0.out.cell 1 _ rfl, HD0.out.cell 2 _ rfl, HD0.out.cell 3 _ rfl, HD0.out.cell 4 _ rfl⟩
        · have hW : W = Wa := hW; rw [hW]; exact ⟨ma, HD1.out.cell 0 _ rfl, HD1.out.cell 1 _ rfl, HD1.out.cell 2 _ rfl, HD1.out.cell 3 _ rfl, HD1.out.cell 4 _ rfl⟩
        · have hW : W = Wb := hW; rw [hW]; exact ⟨mb, HD2.out.cell 0 _ rfl, HD2.out.cell 1 _ rfl, HD2.out.cell 2 _ rfl, HD2.out.cell 3 _ rfl, HD2.out.cell 4 _ rfl⟩
      case hops102 =>
        refine ⟨?_, ?_, ?_, ?_, ?_, ?_, ?_, ?_, ?_, ?_, ?_, ?_, ?_, ?_, trivial⟩
        · exact stg_val (by rfl) (by rfl) (fun W hW => by obtain ⟨y0, z0, z1, z2, z3, z4⟩ := hW; go_simp; (try with_reducible rfl); (try omega))
        · exact stg_val (by rfl) (by rfl) (fun W hW => by obtain ⟨y0, z0, z1, z2, z3, z4⟩ := hW; go_simp; (try with_reducible rfl); (try omega))
        · exact stg_val (by rfl) (by rfl) (fun W hW => by obtain ⟨y0, z0, z1, z2, z3, z4⟩ := hW; go_simp; (try with_reducible rfl); (try omega))
        · exact stg_val (by rfl) (by rfl) (fun W hW => by obtain ⟨y0, z0, z1, z2, z3, z4⟩ := hW; go_simp; (try with_reducible rfl); (try omega))
        · exact stg_val (by rfl) (by rfl) (fun W hW => by obtain ⟨y0, z0, z1, z2, z3, z4⟩ := hW; go_simp; (try with_reducible rfl); (try omega))
        · exact stg_val (by rfl) (by rfl) (fun W hW => by obtain ⟨y0, z0, z1, z2, z3, z4⟩ := hW; go_simp; (try with_reducible rfl); (try omega))
        · exact stg_val (by rfl) (by rfl) (fun W hW => by obtain ⟨y0, z0, z1, z2, z3, z4⟩ := hW; go_simp; (try with_reducible rfl); (try omega))
        · exact stg_val (by rfl) (by rfl) (fun W hW => by obtain ⟨y0, z0, z1, z2, z3, z4⟩ := hW; go_simp; (try with_reducible rfl); (try omega))
        · exact stg_val (by rfl) (by rfl) (fun W hW => by obtain ⟨y0, z0, z1, z2, z3, z4⟩ := hW; go_simp; (try with_reducible rfl); (try omega))
        · exact stg_run (by rfl) (by rfl) (fun W hW => by have hW : W = Wd.drew := hW; subst hW; refine ⟨Wa, ?_, rfl⟩; rw [HWA.out]; go_simp; try rfl)
        · exact stg_run (by rfl) (by rfl) (fun W hW => by have hW : W = Wa := hW; subst hW; exact ⟨Wb, run_appX rfl rfl rfl rfl HAP.out, rfl⟩)
        · exact stg_val (by rfl) (by rfl) (fun W hW => by obtain ⟨y0, z0, z1, z2, z3, z4⟩ := hW; go_simp; (try with_reducible rfl); (try omega))
        · exact stg_val (by rfl) (by rfl) (fun W hW => by obtain ⟨y0, z0, z1, z2, z3, z4⟩ := hW; go_simp; (try with_reducible rfl); (try omega))
        · exact stg_skip (by rfl) (by rfl) rfl (fun W hW => by have hW : W = Wb := hW; subst hW; refine ⟨Wc, ?_, rfl⟩; rw [HWC.out]; go_simp; try rfl)
      case he102 =>
      intro W9 hW9
      have hW9' : W9 = Wc := hW9
      subst hW9'
      clear m2 mf ma mb mbf hW9
      go_wp2_with fail
      have HTR : Hid (∃ N, (dropY Vs (tkey x.st ss) ++ [ry]).length < N ∧ tellV nx (Vs.map RyD.mn) (joinQ xs) k = relV x.st N (nx, (dropY Vs (tkey x.st ss) ++ [ry]).map RyD.mn) []) := by
        refine ⟨(dropV (Vs.map RyD.mn) (tkey x.st ss)).length + 2, ?_, ?_⟩
        · rw [List.length_append, ← dropY_mn, List.length_map]
          show _ + 1 < _
          omega
        · rw [HFIN.out.2, HM.out.2.2.1, if_neg (of_decide_eq_false HO.out.symm)]
      obtain ⟨V1, hV1⟩ : ∃ V1, V1 = dropY Vs (tkey x.st ss) ++ [ry] := ⟨_, rfl⟩
      obtain ⟨wl, hwl⟩ : ∃ wl, wl = W9.alloc (.cells #[] 51) := ⟨_, rfl⟩
      have HL0 := (show Hid _ from HFIN.out.1)
      rw [← hV1, ← hwl] at HL0
      rw [← hV1] at HTR
      rw [← hwl]
      have HQ0 := (show Hid _ from And.intro HZ.out.2.2.1 (And.intro HZ.out.1.c.h.pn (HZ.out.1.c.st8 x HZ.out.2.2.2.1)))
      have hpw := HZ.out.1.c.h.st.lt
      obtain ⟨og, hog⟩ : ∃ g, g = W9.heap.size := ⟨_, rfl⟩
      rw [← hog] at HL0 ⊢
      clear HFIN HWA HWC HAP HD0 HD1 HD2 HZ HNK HBz HJ HM HO HBV hV1 hwl hog
      trace_state
      (repeat revert ‹_›); intro h0; exact h0.out
end Go.Proofs.Ytjaheelgcjafcaa
