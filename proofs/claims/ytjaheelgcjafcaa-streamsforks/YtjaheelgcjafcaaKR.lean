/- trunklineref13: tell: the loop over what waits no longer. -/
import Derived.Test.YtjaheelgcjafcaaKQ
import Derived.Test.YtjaheelgcjafcaaRgZ
namespace Go.Proofs.Ytjaheelgcjafcaa
open Go.RowKit
/-- The region that calls drop (11), makes a variable (15) and stores what drop answers (16). -/
structure RgD (w : World) (p : Nat) (v0 v1 : Value) (V : List RyD) (k : Nat) (M : List Value) (θ : Nat) (l : Nat → Bool) (W : World) : Prop where
  c0 : l 11 = false → Below w.heap.size w W
  c1 : l 11 = true → ∃ a c, OwnG 108 6 RyD.vals W w.heap.size a (dropY V k).length c (dropY V k) ∧ Stc W p [v0, v1, .slice a (dropY V k).length c] ∧ Fr (fun g => g = p) w W ∧ (l 15 = true → ∀ g, (Value.slice a (dropY V k).length c).ownBlock = some g → g ≠ θ)
  a1 : l 16 = true → Stc W θ M
  a2 : l 16 = false → l 15 = true → Stc W θ (msgY none)
  a3 : l 15 = true → w.heap.size ≤ θ ∧ θ < W.heap.size
  pl : p < w.heap.size
section
variable {w : World} {p : Nat} {v0 v1 : Value} {V : List RyD} {k : Nat} {M : List Value} {θ : Nat} {l : Nat → Bool} {W : World}
theorem updL_nD {l : Nat → Bool} {i j : Nat} (h : j ≠ i) : updL l i j = l j := if_neg h
theorem updL_eD {l : Nat → Bool} {i : Nat} : updL l i i = true := if_pos rfl
theorem RgD.start (h : Below w.heap.size w W) (hp : p < w.heap.size) : RgD w p v0 v1 V k M θ (fun _ => false) W := ⟨fun _ => h, fun e => (by cases e), fun e => (by cases e), fun _ e => (by cases e), fun e => (by cases e), hp⟩
theorem RgD.other (h : RgD w p v0 v1 V k M θ l W) (i : Nat) (h1 : 11 ≠ i) (h2 : 15 ≠ i) (h3 : 16 ≠ i) : RgD w p v0 v1 V k M θ (updL l i) W :=
  ⟨by rw [updL_nD h1]; exact h.c0, by rw [updL_nD h1, updL_nD h2]; exact h.c1, by rw [updL_nD h3]; exact h.a1, by rw [updL_nD h3, updL_nD h2]; exact h.a2, by rw [updL_nD h2]; exact h.a3, h.pl⟩
theorem RgD.sz (h : RgD w p v0 v1 V k M θ l W) : w.heap.size ≤ W.heap.size := by
  cases h1 : l 11 with
  | false => exact (h.c0 h1).size
  | true => obtain ⟨_, _, _, _, hf, _⟩ := h.c1 h1; exact hf.size
theorem RgD.alloc (h : RgD w p v0 v1 V k M θ l W) (h16 : l 16 = false) : RgD w p v0 v1 V k M W.heap.size (updL l 15) (W.alloc (.cells (msgY none).toArray 51)) := by
  have hb : Below W.heap.size W (W.alloc (.cells (msgY none).toArray 51)) := (Below.refl _ _).alloc (Nat.le_refl _) _
  refine ⟨?_, ?_, ?_, fun _ _ => Stc.new W (msgY none) 51 _ rfl, fun _ => ⟨h.sz, by simp⟩, h.pl⟩
  · rw [updL_nD (by decide)]; exact fun e => (h.c0 e).trans (hb.mono (h.c0 e).size)
  · rw [updL_nD (i := 15) (j := 11) (by decide)]
    intro e
    obtain ⟨a, c, h1, h2, h3, _⟩ := h.c1 e
    exact ⟨a, c, OwnG.below h1 hb, h2.below hb, h3.trans (Fr.of_below hb), fun _ g hg e2 => by have := (h1.own.lt g hg).2; omega⟩
  · rw [updL_nD (by decide), h16]; exact fun e => (by cases e)
theorem RgD.call {e : Ending} {W' : World} (h : RgD w p v0 v1 V k M θ l W) (h11 : l 11 = false) (h16 : l 16 = false) (hD : DropR W p v0 v1 V k e W') : RgD w p v0 v1 V k M θ (updL l 11) W' := by
  have hb := h.c0 h11
  obtain ⟨a, c, h1, h2⟩ := hD.row
  refine ⟨fun e => (by rw [updL_eD] at e; cases e), fun _ => ⟨a, c, OwnG.base h1 hb.size, h2, (Fr.of_below hb).trans hD.fr, ?_⟩, ?_, ?_, ?_, h.pl⟩
  · rw [updL_nD (by decide)]
    intro e g hg e2
    have := (h.a3 e).2
    have := (h1.own.lt g hg).1
    omega
  · rw [updL_nD (by decide), h16]; exact fun e => (by cases e)
  · rw [updL_nD (i := 11) (j := 16) (by decide), updL_nD (i := 11) (j := 15) (by decide)]
    exact fun e1 e2 => (h.a2 e1 e2).fr hD.fr (by have := (h.a3 e2).1; have := h.pl; omega)
  · rw [updL_nD (by decide)]; exact fun e => ⟨(h.a3 e).1, Nat.lt_of_lt_of_le (h.a3 e).2 hD.fr.size⟩
theorem RgD.store (h : RgD w p v0 v1 V k M θ l W) (h11 : l 11 = true) (h15 : l 15 = true) (h16 : l 16 = false) (hM : M.length = 5) : W.there θ 0 M.length ∧ RgD w p v0 v1 V k M θ (updL l 16) (W.setCells θ 0 M) := by
  have s := h.a2 h16 h15
  have hf := fr_setCellsX θ M 0 W
  have h3 := h.a3 h15
  have hp := h.pl
  refine ⟨by rw [hM]; exact s.there, ⟨?_, ?_, fun _ => s.put M hM, fun e => (by rw [updL_eD] at e; cases e), ?_, h.pl⟩⟩
  · rw [updL_nD (by decide), h11]; exact fun e => (by cases e)
  · rw [updL_nD (i := 16) (j := 11) (by decide), updL_nD (i := 16) (j := 15) (by decide)]
    intro e
    obtain ⟨a, c, k1, k2, k3, k4⟩ := h.c1 e
    exact ⟨a, c, OwnG.fr k1 hf (fun g hg e2 => k4 h15 g hg e2), k2.fr hf (by omega), k3.fresh hf (fun g hg => by omega), k4⟩
  · rw [updL_nD (by decide)]; exact fun e => ⟨(h.a3 e).1, Nat.lt_of_lt_of_le (h.a3 e).2 hf.size⟩
end
def slM : Value → Nat
  | .slice _ n _ => n
  | _ => 0
def u16L (nx : List Nat) : List Value := nx.map fun n => .int .u16 (n : Nat)
theorem layU16 : Lays Try.prog 72 42 1 2 nxV :=
  ⟨Try.underlying72, ⟨.int .u16 0, by kernel_rfl, rfl⟩, by decide, fun _ => rfl, fun x u hu => by
    simp [nxV] at hu
    subst hu
    rfl⟩
theorem valsG_u16 (nx : List Nat) : valsG nxV nx = u16L nx := by
  unfold valsG u16L nxV
  induction nx with
  | nil => rfl
  | cons a l ih => rw [List.flatMap_cons, ih]; rfl
theorem OwnG.stcN {w : World} {B g n c : Nat} {nx : List Nat} (h : OwnG 42 1 nxV w B (some ⟨g, 0, none⟩) n c nx) (hn : 0 < n) : Stc w g (u16L nx) := by
  obtain ⟨g', e, _, h3, _, _, h4, h5⟩ := h.at_ (fun _ => rfl) hn
  obtain rfl : g = g' := by injection e with e; injection e
  refine ⟨h3, fun i v hv => ?_, h5⟩
  unfold u16L at hv
  rw [List.getElem?_map] at hv
  cases hx : nx[i]? with
  | none => rw [hx] at hv; cases hv
  | some x =>
    rw [hx] at hv
    have := h4 i x hx 0 _ rfl
    rw [Nat.mul_one, Nat.add_zero] at this
    rw [this]
    exact hv
theorem Stc.rowN {w : World} {g : Nat} {nx : List Nat} (h : Stc w g (u16L nx)) (c : Nat) (hc : nx.length ≤ c ∧ c ≤ maxLen) (Z : Nat → Prop) (hz : Z g) : RowR 1 nxV w Z (some ⟨g, 0, none⟩) nx.length c nx := by
  refine ⟨rfl, hc, .inr ⟨g, rfl, h.lt, hz, fun j x hx i u hu => ?_⟩⟩
  have hi : i = 0 := by have := (List.getElem?_eq_some_iff.1 hu).1; have e : (nxV x).length = 1 := rfl; omega
  subst hi
  rw [Nat.mul_one, Nat.add_zero]
  refine h.cell j u ?_
  unfold u16L
  rw [List.getElem?_map, hx]
  exact hu
/-- Another row of what is awaited. -/
theorem RfS.turn {W0 w w' : World} {p : Nat} {r : Rw} {nx nx2 : List Nat} {E : List ChQ} {V : List RyD} {Z Q : Nat → Prop} {g6 c6 : Nat} (h : RfS W0 w p r nx E V Z) (hf : Fr Q w w') (hz : ∀ g, Z g → ¬ Q g) (hW : ∀ g, Q g → W0.heap.size ≤ g) (hg6 : g6 ≠ p ∧ g6 < w'.heap.size)
    (hst : Stc w' p [.slice (some ⟨g6, 0, none⟩) nx2.length c6, .slice r.lA E.length r.lC, .slice r.vA V.length r.vC]) (hs6 : Stc w' g6 (u16L nx2)) (hc : nx2.length ≤ c6 ∧ c6 ≤ maxLen) (hl : nx2.length = nx.length) (hv : ∀ i, nx2.getD i 0 < 65536) :
    RfS W0 w' p ⟨some ⟨g6, 0, none⟩, c6, r.lA, r.lC, r.vA, r.vC⟩ nx2 E V (fun g => Z g ∨ g = g6) := by
  have hb : Below W0.heap.size W0 w' := ⟨hf.os.trans h.b0.os, hf.tape.trans h.b0.tape, hf.output.trans h.b0.output, Nat.le_trans h.b0.size hf.size, fun k hk => (hf.block k (Nat.lt_of_lt_of_le hk h.b0.size) (fun e => by have := hW k e; omega)).trans (h.b0.block k hk)⟩
  refine ⟨hst, hs6.rowN c6 hc _ (.inr rfl), (h.rl.fr hf hz).mono (fun g hg => .inl hg), (h.rv.fr hf hz).mono (fun g hg => .inl hg), h.ok, hb, fun x hx => ⟨(h.sl x hx).1.frA hf (fun b off e _ hQ => hz b ((h.sl x hx).2 b off e) hQ), fun g off e => .inl ((h.sl x hx).2 g off e)⟩, h.sm, by rw [hl]; exact h.n1, by rw [hl]; exact h.n8, hv, h.el, h.vl, fun g hg => ?_, h.pn⟩
  rcases hg with hg | rfl
  · have := h.zp g hg
    exact ⟨this.1, Nat.lt_of_lt_of_le this.2 hf.size⟩
  · exact hg6
theorem getD_set16 (nx : List Nat) (st v : Nat) (h : ∀ i, nx.getD i 0 < 65536) (hv : v < 65536) : ∀ i, (nx.set st v).getD i 0 < 65536 := by
  intro i
  rw [List.getD_eq_getElem?_getD, List.getElem?_set]
  split
  · split
    · exact hv
    · decide
  · rw [← List.getD_eq_getElem?_getD]; exact h i
theorem dropY_lt {V : List RyD} {k : Nat} {y : RyD} (h : findY V k = some y) : (dropY V k).length < V.length := by
  have h1 := List.mem_of_find?_eq_some h
  have h2 := List.find?_some h
  exact List.length_filter_lt_length_iff_exists.2 ⟨y, h1, by simpa using h2⟩
theorem findY_look (V : List RyD) (k : Nat) : lookD ((V.map RyD.mn).map kvV) k = (findY V k).map RyD.mn := by
  unfold findY
  induction V with
  | nil => rfl
  | cons y V ih =>
    rw [List.map_cons, List.map_cons]
    unfold lookD
    by_cases e : y.key = k
    · rw [if_pos (show (kvV y.mn).1 = k from e), List.find?_cons_of_pos (by simpa using e)]
      rfl
    · rw [if_neg (show ¬ (kvV y.mn).1 = k from e), List.find?_cons_of_neg (by simpa using e)]
      exact ih
theorem app_eq_listT {P : Program} {S : TypeId} {ops : Array Oper} {rest : List Oper} {o : Oper} {A : Act} {w w' : World} {Q : Exit → Act → World → Prop} {v u r : Value} {ty : TypeId} (hgd : Region.wanted o (yielded ops A.tmps) = true) (s x : Operand)
    (ho : o.op = .call { callee := .builtin .append, args := #[s, x], argTypes := #[S, S] }) (hty : o.type = ty) (hs : A.eval s = v) (hx : A.eval x = u)
    (hrun : (Builtin.append_ #[S, S] ty #[v, u]).run P w = .ok r w') (hK : wpList P ops Q rest (A.put o.dst r) w') : wpList P ops Q (o :: rest) A w :=
  wpList_step fun K hK' => by
    rw [if_pos hgd]
    subst hty
    have := hK' _ _ hK
    unfold Oper.wp
    simp [execOp, ho, resolve, invoke, builtin, hs, hx, hrun, Result.andThen]
    exact this
theorem zero_m5 (w : World) : (zeroValue 51).run Try.prog w = .ok (.agg #[.int .u16 0, .int .u16 0, .int .u32 0, .bool false, .slice none 0 0]) w := by kernel_rfl
set_option maxRecDepth 100000 in
set_option maxHeartbeats 8000000 in
set_option tactic.hygienic false in
theorem tel_4 : telC.1 := by
  unfold telC
  dsimp only
  intros
  have hoff := 51
  go_loopw [13] (fun ov wr => ∃ (oa : Option Addr) (on oc : Nat) (T : List Mg) (nx' : List Nat) (V' : List RyD) (N : Nat), ov = .slice oa on oc ∧ TeL W0 w p (restQ E xs) Z θ [.int .u16 (x.st : Nat), .int .u16 (ss : Nat), .int .u32 (x.pp : Nat), .bool false, .slice ra fn rc] oa on oc T nx' V' wr ∧ V'.length < N ∧ nx'.length = nx.length ∧ on + V'.length ≤ 128 ∧ tellV nx (Vs.map RyD.mn) (joinQ xs) k = relV x.st N (nx', V'.map RyD.mn) T) (fun _ ww => slM ((ww.cell? ⟨p, 2, none⟩).getD undef))
  case atStart =>
    obtain ⟨N, hN1, hN2⟩ := HTR.out
    have hvl : V1.length ≤ 128 := by obtain ⟨_, _, _, hR, _⟩ := HL0.out.ex; exact hR.vl
    exact ⟨_, 0, 0, [], nx, V1, N, rfl, HL0.out, hN1, rfl, by omega, hN2⟩
  case round =>
    obtain ⟨oa, on, oc, T, nx', V', N, rfl, hL, hN, hnl, hon, hrel2⟩ := hrel
    clear HL0 HTR hoff
    obtain ⟨r', Z', ms, hR, hoM, hmT, hms, hZo, hZZ⟩ := hL.ex
    have hst8 : x.st < nx'.length := by rw [hnl]; exact HQ0.out.2.2
    obtain ⟨aA', aC', lA', lC', vA', vC'⟩ := r'
    obtain ⟨ga, hga, hgal, hgaZ, hgc⟩ := nx_cell hR.ra hst8
    dsimp only at hga
    subst hga
    obtain ⟨nv, hnv⟩ : ∃ v, v = nx'.getD x.st 0 := ⟨_, rfl⟩
    have hnv2 : nv < 65536 := by rw [hnv]; exact hR.nv _
    obtain ⟨an3, han⟩ : ∃ a, a = nx'.length := ⟨_, rfl⟩
    have q0 : wr.cell? ⟨p, 0, none⟩ = some (.slice (some ⟨ga, 0, none⟩) an3 aC') := by rw [han]; exact hR.st.cell 0 _ rfl
    have hst9 : x.st < an3 := by rw [han]; exact hst8
    rw [← hnv] at hgc
    have hpw3 := hR.st.lt
    have HKC : Hid (∀ W, Below wr.drew.heap.size wr.drew W → W.cell? ⟨p, 0, none⟩ = some (.slice (some ⟨ga, 0, none⟩) an3 aC') ∧ W.cell? ⟨ga, x.st, none⟩ = some (.int .u16 (nv : Nat)) ∧ W.cell? ⟨θ, 0, none⟩ = some (.int .u16 (x.st : Nat))) := by
      intro W hW
      have hW2 : Below wr.heap.size wr W := (Below.refl _ _).drew.trans hW
      exact ⟨(hW2.cell (p := ⟨p, 0, none⟩) hpw3).trans q0, (hW2.cell (p := ⟨ga, x.st, none⟩) hgal).trans hgc, (hL.box.below hW2).cell 0 _ rfl⟩
    have hdrop : ∀ W, Below wr.drew.heap.size wr.drew W → Calls Try.prog 67 #[.pointer (some ⟨p, 0, none⟩), .int .u16 (x.st : Nat), .int .u16 (nv : Nat)] W (DropR W p (.slice (some ⟨ga, 0, none⟩) nx'.length aC') (.slice lA' (restQ E xs).length lC') V' (tkey x.st nv)) := fun W hW =>
      rdrop_any (hR.below ((Below.refl _ _).drew.trans hW)) hL.nd x.st nv hst65 hnv2
    have HLL := (show Hid _ from And.intro hL (And.intro hN (And.intro hnl (And.intro hrel2 (And.intro hR (And.intro hoM (And.intro hmT (And.intro hms (And.intro hZo (And.intro hZZ (And.intro hnv han)))))))))))
    have bd : Below wr.drew.heap.size wr.drew wr.drew := Below.refl _ _
    have HDR := (show Hid _ from hdrop)
    clear hL hN hnl hrel2 hR hoM hmT hms hZo hZZ hgc hgal hgaZ q0 hnv han hst8 hdrop
    cases hfy : findY V' (tkey x.st nv) with
    | none =>
      have HFY := (show Hid _ from hfy)
      clear hfy
      go_wp2_with fail
      refine wp_region_parW mixedX (fun θθ : Nat => [(144, .pointer (some ⟨p, 0, none⟩)), (145, .pointer (some ⟨θ, 0, none⟩)), (146, .int .u16 (x.st : Nat)), (147, .pointer (some ⟨p, 0, none⟩)), (148, .pointer (some ⟨p, 0, none⟩)), (149, .pointer (some ⟨p, 0, none⟩)), (150, .slice (some ⟨ga, 0, none⟩) an3 aC'), (151, .pointer (some ⟨θ, 0, none⟩)), (152, .int .u16 (x.st : Nat)), (153, .pointer (some ⟨ga, x.st, none⟩)), (154, .int .u16 (nv : Nat)), (155, .tuple #[.agg #[.int .u16 0, .int .u16 0, .int .u32 0, .bool false, .slice none 0 0], .bool false]), (143, .tuple #[.agg #[.int .u16 0, .int .u16 0, .int .u32 0, .bool false, .slice none 0 0], .bool false]), (156, .agg #[.int .u16 0, .int .u16 0, .int .u32 0, .bool false, .slice none 0 0]), (157, .bool false), (14, .pointer (some ⟨θθ, 0, none⟩)), (15, .bool false)]) (fun θθ l W => RgD wr.drew p (.slice (some ⟨ga, 0, none⟩) nx'.length aC') (.slice lA' (restQ E xs).length lC') V' (tkey x.st nv) [.int .u16 0, .int .u16 0, .int .u32 0, .bool false, .slice none 0 0] θθ l W) 0 ?Z1 ?hZ1 (by kernel_rfl) (by kernel_rfl) (fun θθ => by kernel_rfl) (by kernel_rfl) ?h01 ?hops1 ?he1
      case hZ1 => intro θθ; simp only [List.foldl_cons, List.foldl_nil, List.setIfInBounds_toArray, List.set_cons_zero, List.set_cons_succ]; rfl
      case h01 => exact RgD.start bd (by simpa using hpw3)
      case hops1 =>
        refine ⟨?_, ?_, ?_, ?_, ?_, ?_, ?_, ?_, ?_, ?_, ?_, ?_, ?_, ?_, ?_, ?_, ?_, ?_, trivial⟩
        · exact par_val (fun θθ => by rfl) (fun θθ l W hg => hg.other 0 (by decide) (by decide) (by decide)) (fun θθ l W hl hc hd hg => by go_simp; (try with_reducible rfl); (try omega))
        · exact par_val (fun θθ => by rfl) (fun θθ l W hg => hg.other 1 (by decide) (by decide) (by decide)) (fun θθ l W hl hc hd hg => by go_simp; (try with_reducible rfl); (try omega))
        · exact par_val (fun θθ => by rfl) (fun θθ l W hg => hg.other 2 (by decide) (by decide) (by decide)) (fun θθ l W hl hc hd hg => by have h11 : l 11 = false := (by cases h11 : l 11 with | false => rfl | true => exact absurd (hc 11 2 (by kernel_rfl) h11) (by rw [hl]; decide)); obtain ⟨d0, d1, d2⟩ := HKC.out W (hg.c0 h11); go_simp; (try with_reducible rfl); (try omega))
        · exact par_val (fun θθ => by rfl) (fun θθ l W hg => hg.other 3 (by decide) (by decide) (by decide)) (fun θθ l W hl hc hd hg => by go_simp; (try with_reducible rfl); (try omega))
        · exact par_val (fun θθ => by rfl) (fun θθ l W hg => hg.other 4 (by decide) (by decide) (by decide)) (fun θθ l W hl hc hd hg => by go_simp; (try with_reducible rfl); (try omega))
        · exact par_val (fun θθ => by rfl) (fun θθ l W hg => hg.other 5 (by decide) (by decide) (by decide)) (fun θθ l W hl hc hd hg => by go_simp; (try with_reducible rfl); (try omega))
        · exact par_val (fun θθ => by rfl) (fun θθ l W hg => hg.other 6 (by decide) (by decide) (by decide)) (fun θθ l W hl hc hd hg => by have h11 : l 11 = false := (by cases h11 : l 11 with | false => rfl | true => exact absurd (hc 11 6 (by kernel_rfl) h11) (by rw [hl]; decide)); obtain ⟨d0, d1, d2⟩ := HKC.out W (hg.c0 h11); go_simp; (try with_reducible rfl); (try omega))
        · exact par_val (fun θθ => by rfl) (fun θθ l W hg => hg.other 7 (by decide) (by decide) (by decide)) (fun θθ l W hl hc hd hg => by go_simp; (try with_reducible rfl); (try omega))
        · exact par_val (fun θθ => by rfl) (fun θθ l W hg => hg.other 8 (by decide) (by decide) (by decide)) (fun θθ l W hl hc hd hg => by have h11 : l 11 = false := (by cases h11 : l 11 with | false => rfl | true => exact absurd (hc 11 8 (by kernel_rfl) h11) (by rw [hl]; decide)); obtain ⟨d0, d1, d2⟩ := HKC.out W (hg.c0 h11); go_simp; (try with_reducible rfl); (try omega))
        · exact par_val (fun θθ => by rfl) (fun θθ l W hg => hg.other 9 (by decide) (by decide) (by decide)) (fun θθ l W hl hc hd hg => by go_simp; (try with_reducible rfl); (try omega))
        · exact par_val (fun θθ => by rfl) (fun θθ l W hg => hg.other 10 (by decide) (by decide) (by decide)) (fun θθ l W hl hc hd hg => by have h11 : l 11 = false := (by cases h11 : l 11 with | false => rfl | true => exact absurd (hc 11 10 (by kernel_rfl) h11) (by rw [hl]; decide)); obtain ⟨d0, d1, d2⟩ := HKC.out W (hg.c0 h11); go_simp; (try with_reducible rfl); (try omega))
        · exact par_call (fun θθ => by rfl) rfl (vs := fun _ => [.pointer (some ⟨p, 0, none⟩), .int .u16 (x.st : Nat), .int .u16 (nv : Nat)]) (fun θθ => by rfl) Try.func67 (by rfl) (by rfl) (fun θθ l W hl hc hd hg => by
            have h16 : l 16 = false := (by cases h16 : l 16 with | false => rfl | true => exact absurd (hc 16 11 (by kernel_rfl) h16) (by rw [hl]; decide))
            refine (HDR.out W (hg.c0 hl)).mono ?_
            intro e W2 hD
            have he := hD.ans
            rw [HFY.out] at he
            exact ⟨_, (show e = .returned (.tuple #[.agg #[.int .u16 0, .int .u16 0, .int .u32 0, .bool false, .slice none 0 0], .bool false]) from by rw [he]; rfl), θθ, fun _ _ _ _ _ _ => rfl, fun d hd => (by cases hd; rfl), hg.call hl h16 hD⟩)
        · exact par_val (fun θθ => by rfl) (fun θθ l W hg => hg.other 12 (by decide) (by decide) (by decide)) (fun θθ l W hl hc hd hg => by go_simp; (try with_reducible rfl); (try omega))
        · exact par_val (fun θθ => by rfl) (fun θθ l W hg => hg.other 13 (by decide) (by decide) (by decide)) (fun θθ l W hl hc hd hg => by go_simp; (try with_reducible rfl); (try omega))
        · exact par_val (fun θθ => by rfl) (fun θθ l W hg => hg.other 14 (by decide) (by decide) (by decide)) (fun θθ l W hl hc hd hg => by go_simp; (try with_reducible rfl); (try omega))
        · exact par_run (fun θθ => by rfl) (fun θθ l W hl hc hd hg => by
            have h16 : l 16 = false := (by cases h16 : l 16 with | false => rfl | true => exact absurd (hc 16 15 (by kernel_rfl) h16) (by rw [hl]; decide))
            exact ⟨_, _, run_allocX rfl zero_m5, next_set (by kernel_rfl) W.heap.size [(14, .pointer (some ⟨W.heap.size, 0, none⟩), 15)] (by simp only [List.foldl_cons, List.foldl_nil, List.setIfInBounds_toArray, List.set_cons_zero, List.set_cons_succ]) (by kernel_rfl) (fun t ht => by simp at ht; subst ht; exact hl) (fun d hd => by cases hd; rfl) (hg.alloc h16)⟩)
        · exact par_skip (fun θθ => by rfl) (fun θθ l W hl hc hd hg => by
            have h11 : l 11 = true := (by have := hd 13 (by kernel_rfl); exact hd 11 (by kernel_rfl))
            have h15 : l 15 = true := hd 15 (by kernel_rfl)
            obtain ⟨hth, hst⟩ := hg.store h11 h15 hl rfl
            exact ⟨_, run_storeX rfl (b := θθ) (k := 0) (by rfl) (cs := [.int .u16 0, .int .u16 0, .int .u32 0, .bool false, .slice none 0 0]) (by rfl) hth (by kernel_rfl) (by intro v hv; simp at hv; rcases hv with rfl | rfl | rfl | rfl | rfl <;> rfl), ⟨θθ, fun _ _ _ _ _ _ => rfl, fun d hd => (by cases hd), hst⟩⟩)
        · exact par_val (fun θθ => by rfl) (fun θθ l W hg => hg.other 17 (by decide) (by decide) (by decide)) (fun θθ l W hl hc hd hg => by go_simp; (try with_reducible rfl); (try omega))
      case he1 =>
      intro θ5 l5 W5 hall hg
      have hg1 := hg.c1 (hall 11 (by decide))
      clear hall hg
      go_wp2
      obtain ⟨hL, hN, hnl, hrel2, hR, hoM, hmT, hms, hZo, hZZ, hnv, han⟩ := HLL.out
      obtain ⟨va, vc, ho, hst, hf, _⟩ := hg1
      have hdy : dropY V' (tkey x.st nv) = V' := by
        unfold dropY
        refine List.filter_eq_self.2 (fun y hy => ?_)
        have := List.find?_eq_none.1 HFY.out y hy
        simpa using this
      rw [hdy] at ho hst
      have hfd : Fr (fun g => g = p) wr W5 := (Fr.of_below (Below.refl _ _).drew).trans hf
      have hRn := hR.put (V' := V') hfd (fun g h => .inl h) hst (OwnG.base ho (by simp)) (fun y hy => .inl hy) hR.vl
      have hlk : lookD ((V'.map RyD.mn).map kvV) (tkey x.st (nx'.getD x.st 0)) = none := by
        rw [← hnv, findY_look]
        rw [HFY.out]
        rfl
      have hTV := hrel2
      rw [relV_none (q := (nx', V'.map RyD.mn)) hlk] at hTV
      refine HQ0.out.1 _ _ ⟨⟨oa, on, oc, rfl, ?_⟩, ⟨_, nx', V', _, hRn, by rw [hTV], by rw [hTV], fun g hg => ?_⟩, hL.fr.trans hfd⟩
      · rw [hTV]
        exact ⟨w.heap.size, ms, hmT, OwnG.fr hoM hfd (fun g hg e => by have := (hoM.own.lt g hg).1; omega), fun y hy => (hms y hy).1.frA hfd (fun b off e _ hb => (hR.zp b ((hms y hy).2 b off e)).1 hb)⟩
      · rcases hg with hg | hg
        · exact hZZ g hg
        · exact .inr (by have := hL.fr.size; omega)
    | some y =>
      have HFY := (show Hid _ from hfy)
      obtain ⟨yl, hyl⟩ : ∃ n, n = y.m.zs.length := ⟨_, rfl⟩
      have HYL := (show Hid _ from hyl)
      clear hfy hyl
      go_wp2_with fail
      refine wp_region_parW mixedX (fun θθ : Nat => [(144, .pointer (some ⟨p, 0, none⟩)), (145, .pointer (some ⟨θ, 0, none⟩)), (146, .int .u16 (x.st : Nat)), (147, .pointer (some ⟨p, 0, none⟩)), (148, .pointer (some ⟨p, 0, none⟩)), (149, .pointer (some ⟨p, 0, none⟩)), (150, .slice (some ⟨ga, 0, none⟩) an3 aC'), (151, .pointer (some ⟨θ, 0, none⟩)), (152, .int .u16 (x.st : Nat)), (153, .pointer (some ⟨ga, x.st, none⟩)), (154, .int .u16 (nv : Nat)), (155, .tuple #[.agg #[.int .u16 (y.m.st : Nat), .int .u16 (y.m.ss : Nat), .int .u32 (y.m.pp : Nat), .bool y.m.fr, .slice y.a yl y.c], .bool true]), (143, .tuple #[.agg #[.int .u16 (y.m.st : Nat), .int .u16 (y.m.ss : Nat), .int .u32 (y.m.pp : Nat), .bool y.m.fr, .slice y.a yl y.c], .bool true]), (156, .agg #[.int .u16 (y.m.st : Nat), .int .u16 (y.m.ss : Nat), .int .u32 (y.m.pp : Nat), .bool y.m.fr, .slice y.a yl y.c]), (157, .bool true), (14, .pointer (some ⟨θθ, 0, none⟩)), (15, .bool true)]) (fun θθ l W => RgD wr.drew p (.slice (some ⟨ga, 0, none⟩) nx'.length aC') (.slice lA' (restQ E xs).length lC') V' (tkey x.st nv) [.int .u16 (y.m.st : Nat), .int .u16 (y.m.ss : Nat), .int .u32 (y.m.pp : Nat), .bool y.m.fr, .slice y.a yl y.c] θθ l W) 0 ?Z2 ?hZ2 (by kernel_rfl) (by kernel_rfl) (fun θθ => by kernel_rfl) (by kernel_rfl) ?h02 ?hops2 ?he2
      case hZ2 => intro θθ; simp only [List.foldl_cons, List.foldl_nil, List.setIfInBounds_toArray, List.set_cons_zero, List.set_cons_succ]; rfl
      case h02 => exact RgD.start bd (by simpa using hpw3)
      case hops2 =>
        refine ⟨?_, ?_, ?_, ?_, ?_, ?_, ?_, ?_, ?_, ?_, ?_, ?_, ?_, ?_, ?_, ?_, ?_, ?_, trivial⟩
        · exact par_val (fun θθ => by rfl) (fun θθ l W hg => hg.other 0 (by decide) (by decide) (by decide)) (fun θθ l W hl hc hd hg => by go_simp; (try with_reducible rfl); (try omega))
        · exact par_val (fun θθ => by rfl) (fun θθ l W hg => hg.other 1 (by decide) (by decide) (by decide)) (fun θθ l W hl hc hd hg => by go_simp; (try with_reducible rfl); (try omega))
        · exact par_val (fun θθ => by rfl) (fun θθ l W hg => hg.other 2 (by decide) (by decide) (by decide)) (fun θθ l W hl hc hd hg => by have h11 : l 11 = false := (by cases h11 : l 11 with | false => rfl | true => exact absurd (hc 11 2 (by kernel_rfl) h11) (by rw [hl]; decide)); obtain ⟨d0, d1, d2⟩ := HKC.out W (hg.c0 h11); go_simp; (try with_reducible rfl); (try omega))
        · exact par_val (fun θθ => by rfl) (fun θθ l W hg => hg.other 3 (by decide) (by decide) (by decide)) (fun θθ l W hl hc hd hg => by go_simp; (try with_reducible rfl); (try omega))
        · exact par_val (fun θθ => by rfl) (fun θθ l W hg => hg.other 4 (by decide) (by decide) (by decide)) (fun θθ l W hl hc hd hg => by go_simp; (try with_reducible rfl); (try omega))
        · exact par_val (fun θθ => by rfl) (fun θθ l W hg => hg.other 5 (by decide) (by decide) (by decide)) (fun θθ l W hl hc hd hg => by go_simp; (try with_reducible rfl); (try omega))
        · exact par_val (fun θθ => by rfl) (fun θθ l W hg => hg.other 6 (by decide) (by decide) (by decide)) (fun θθ l W hl hc hd hg => by have h11 : l 11 = false := (by cases h11 : l 11 with | false => rfl | true => exact absurd (hc 11 6 (by kernel_rfl) h11) (by rw [hl]; decide)); obtain ⟨d0, d1, d2⟩ := HKC.out W (hg.c0 h11); go_simp; (try with_reducible rfl); (try omega))
        · exact par_val (fun θθ => by rfl) (fun θθ l W hg => hg.other 7 (by decide) (by decide) (by decide)) (fun θθ l W hl hc hd hg => by go_simp; (try with_reducible rfl); (try omega))
        · exact par_val (fun θθ => by rfl) (fun θθ l W hg => hg.other 8 (by decide) (by decide) (by decide)) (fun θθ l W hl hc hd hg => by have h11 : l 11 = false := (by cases h11 : l 11 with | false => rfl | true => exact absurd (hc 11 8 (by kernel_rfl) h11) (by rw [hl]; decide)); obtain ⟨d0, d1, d2⟩ := HKC.out W (hg.c0 h11); go_simp; (try with_reducible rfl); (try omega))
        · exact par_val (fun θθ => by rfl) (fun θθ l W hg => hg.other 9 (by decide) (by decide) (by decide)) (fun θθ l W hl hc hd hg => by go_simp; (try with_reducible rfl); (try omega))
        · exact par_val (fun θθ => by rfl) (fun θθ l W hg => hg.other 10 (by decide) (by decide) (by decide)) (fun θθ l W hl hc hd hg => by have h11 : l 11 = false := (by cases h11 : l 11 with | false => rfl | true => exact absurd (hc 11 10 (by kernel_rfl) h11) (by rw [hl]; decide)); obtain ⟨d0, d1, d2⟩ := HKC.out W (hg.c0 h11); go_simp; (try with_reducible rfl); (try omega))
        · exact par_call (fun θθ => by rfl) rfl (vs := fun _ => [.pointer (some ⟨p, 0, none⟩), .int .u16 (x.st : Nat), .int .u16 (nv : Nat)]) (fun θθ => by rfl) Try.func67 (by rfl) (by rfl) (fun θθ l W hl hc hd hg => by
            have h16 : l 16 = false := (by cases h16 : l 16 with | false => rfl | true => exact absurd (hc 16 11 (by kernel_rfl) h16) (by rw [hl]; decide))
            refine (HDR.out W (hg.c0 hl)).mono ?_
            intro e W2 hD
            have he := hD.ans
            rw [HFY.out] at he
            exact ⟨_, (show e = .returned (.tuple #[.agg #[.int .u16 (y.m.st : Nat), .int .u16 (y.m.ss : Nat), .int .u32 (y.m.pp : Nat), .bool y.m.fr, .slice y.a yl y.c], .bool true]) from by rw [he]; rw [HYL.out]; rfl), θθ, fun _ _ _ _ _ _ => rfl, fun d hd => (by cases hd; rfl), hg.call hl h16 hD⟩)
        · exact par_val (fun θθ => by rfl) (fun θθ l W hg => hg.other 12 (by decide) (by decide) (by decide)) (fun θθ l W hl hc hd hg => by go_simp; (try with_reducible rfl); (try omega))
        · exact par_val (fun θθ => by rfl) (fun θθ l W hg => hg.other 13 (by decide) (by decide) (by decide)) (fun θθ l W hl hc hd hg => by go_simp; (try with_reducible rfl); (try omega))
        · exact par_val (fun θθ => by rfl) (fun θθ l W hg => hg.other 14 (by decide) (by decide) (by decide)) (fun θθ l W hl hc hd hg => by go_simp; (try with_reducible rfl); (try omega))
        · exact par_run (fun θθ => by rfl) (fun θθ l W hl hc hd hg => by
            have h16 : l 16 = false := (by cases h16 : l 16 with | false => rfl | true => exact absurd (hc 16 15 (by kernel_rfl) h16) (by rw [hl]; decide))
            exact ⟨_, _, run_allocX rfl zero_m5, next_set (by kernel_rfl) W.heap.size [(14, .pointer (some ⟨W.heap.size, 0, none⟩), 15)] (by simp only [List.foldl_cons, List.foldl_nil, List.setIfInBounds_toArray, List.set_cons_zero, List.set_cons_succ]) (by kernel_rfl) (fun t ht => by simp at ht; subst ht; exact hl) (fun d hd => by cases hd; rfl) (hg.alloc h16)⟩)
        · exact par_skip (fun θθ => by rfl) (fun θθ l W hl hc hd hg => by
            have h11 : l 11 = true := (by have := hd 13 (by kernel_rfl); exact hd 11 (by kernel_rfl))
            have h15 : l 15 = true := hd 15 (by kernel_rfl)
            obtain ⟨hth, hst⟩ := hg.store h11 h15 hl rfl
            exact ⟨_, run_storeX rfl (b := θθ) (k := 0) (by rfl) (cs := [.int .u16 (y.m.st : Nat), .int .u16 (y.m.ss : Nat), .int .u32 (y.m.pp : Nat), .bool y.m.fr, .slice y.a yl y.c]) (by rfl) hth (by kernel_rfl) (by intro v hv; simp at hv; rcases hv with rfl | rfl | rfl | rfl | rfl <;> rfl), ⟨θθ, fun _ _ _ _ _ _ => rfl, fun d hd => (by cases hd), hst⟩⟩)
        · exact par_val (fun θθ => by rfl) (fun θθ l W hg => hg.other 17 (by decide) (by decide) (by decide)) (fun θθ l W hl hc hd hg => by go_simp; (try with_reducible rfl); (try omega))
      case he2 =>
      intro θ5 l5 W5 hall hg
      have hg1 := hg.c1 (hall 11 (by decide))
      have hgb := hg.a1 (hall 16 (by decide))
      have hg3 := hg.a3 (hall 15 (by decide))
      clear hall hg
      obtain ⟨hL, hN, hnl, hrel2, hR, hoM, hmT, hms, hZo, hZZ, hnv, han⟩ := HLL.out
      obtain ⟨va, vc, ho, hst, hf, _⟩ := hg1
      have hfd : Fr (fun g => g = p) wr W5 := (Fr.of_below (Below.refl _ _).drew).trans hf
      have hyV : y ∈ V' := List.mem_of_find?_eq_some HFY.out
      have hRn := hR.put (V' := dropY V' (tkey x.st nv)) hfd (fun g h => .inl h) hst (OwnG.base ho (by simp)) (fun y hy => .inl (List.mem_filter.1 hy).1) (Nat.le_trans (dropY_le _ _) hR.vl)
      have hdl := dropY_lt HFY.out
      have hsz5 := hfd.size
      have hga5 : ga < W5.heap.size ∧ W5.cell? ⟨ga, x.st, none⟩ = some (.int .u16 (nv : Nat)) ∧ ∀ (j : Nat) u, (u16L nx')[j]? = some u → W5.cell? ⟨ga, j, none⟩ = some u := by
        obtain ⟨g, e, h1, _, h2⟩ := nx_cell hRn.ra (by rw [hnl]; exact HQ0.out.2.2)
        have e : some (⟨ga, 0, none⟩ : Addr) = some ⟨g, 0, none⟩ := e
        obtain rfl : ga = g := by injection e with e; injection e
        rw [← hnv] at h2
        refine ⟨h1, h2, fun j u hu => ?_⟩
        have hj : j < nx'.length := by have := (List.getElem?_eq_some_iff.1 hu).1; unfold u16L at this; rwa [List.length_map] at this
        obtain ⟨g2, e2, _, _, h4⟩ := nx_cell hRn.ra hj
        have e2 : some (⟨ga, 0, none⟩ : Addr) = some ⟨g2, 0, none⟩ := e2
        obtain rfl : ga = g2 := by injection e2 with e2; injection e2
        rw [h4]
        rw [← hu]
        unfold u16L
        rw [List.getElem?_map, List.getD_eq_getElem?_getD, List.getElem?_eq_getElem hj]
        rfl
      -- the copy of what is awaited
      have oe := OwnG.empty (T := 42) (k := 1) (cf := nxV) W5
      have be : Below W5.heap.size W5 (W5.alloc (.cells #[] 42)) := (Below.refl _ _).alloc (Nat.le_refl _) _
      have hne : 0 < an3 := by omega
      have han8 : an3 ≤ 8 := by rw [han]; exact hR.n8
      obtain ⟨g6, c6, W6, happ6, ho6, hgr6, hl6, hlt6⟩ := OwnG.appN layU16 oe 72 nx' ⟨ga, 0, none⟩ an3 aC' han.symm (fun j u hu => by
        rw [valsG_u16] at hu
        have := (be.cell (p := ⟨ga, j, none⟩) hga5.1).trans (hga5.2.2 j u hu)
        unfold Addr.add
        split
        · rename_i e; subst e; exact this
        · simpa using this) hne (by unfold maxLen; omega) (by omega) be.size
      rw [Nat.zero_add] at happ6 ho6
      rw [List.nil_append] at ho6
      have hf6 : Fr (fun g => W5.heap.size ≤ g) W5 W6 := (Fr.of_below be).trans (Fr.grown hgr6 (fun g hg => by have := (oe.own.lt g hg).1; exact this))
      have hs6 := ho6.stcN hne
      have hg6 : W5.heap.size ≤ g6 := (ho6.own.lt g6 rfl).1
      obtain ⟨n1, hn1⟩ : ∃ v, v = (nv + 1) % 65536 := ⟨_, rfl⟩
      have hw16 : IntKind.u16.wrap ((nv : Int) + 1) = (n1 : Int) := by rw [hn1, IntKind.wrap_u16]; omega
      obtain ⟨W7, hW7⟩ : ∃ W7, W7 = W6.drew.setCell ⟨g6, x.st, none⟩ (.int .u16 (n1 : Nat)) := ⟨_, rfl⟩
      have hf7 : Fr (fun g => g = g6) W6 W7 := (Fr.of_below (Below.refl _ _).drew).trans (by rw [hW7]; exact Fr.setCell _ _ _ _ rfl)
      have hs7 : Stc W7 g6 (u16L (nx'.set x.st n1)) := by
        have := (hs6.below (Below.refl _ _).drew).set x.st (.int .u16 (n1 : Nat))
        rw [← hW7] at this
        have e : (u16L nx').set x.st (.int .u16 (n1 : Nat)) = u16L (nx'.set x.st n1) := by unfold u16L; rw [List.map_set]
        rwa [e] at this
      obtain ⟨W8, hW8⟩ : ∃ W8, W8 = W7.setCell ⟨p, 0, none⟩ (.slice (some ⟨g6, 0, none⟩) an3 c6) := ⟨_, rfl⟩
      have hf8 : Fr (fun g => g = p) W7 W8 := by rw [hW8]; exact Fr.setCell _ _ _ _ rfl
      have hp5 : p < W5.heap.size := by omega
      have hst6 := hRn.st.fr hf6 (by show ¬ W5.heap.size ≤ p; omega)
      have hst7 := hst6.fr hf7 (by omega)
      have hst8 := hst7.set 0 (.slice (some ⟨g6, 0, none⟩) an3 c6)
      rw [← hW8] at hst8
      have hs8 := hs7.fr hf8 (by omega)
      have hgw : wr.drew.heap.size = wr.heap.size := by simp
      have hθ5 : θ5 ≠ p ∧ θ5 ≠ g6 ∧ θ5 < W5.heap.size ∧ wr.heap.size ≤ θ5 := ⟨by omega, by omega, hg3.2, by omega⟩
      have ne5 : ¬ θ5 = p := hθ5.1
      have ne6 : ¬ p = θ5 := fun e => ne5 e.symm
      have hθlt := hL.box.lt
      have hb6 := hgb.fr hf6 (by show ¬ W5.heap.size ≤ θ5; omega)
      have hb7 := hb6.fr hf7 hθ5.2.1
      have hb8 := hb7.fr hf8 hθ5.1
      have hbx6 := (hL.box.fr hfd (by have := hL.lo; omega)).fr hf6 (by show ¬ W5.heap.size ≤ θ; omega)
      have hx0c : W6.drew.cell? ⟨θ, 0, none⟩ = some (.int .u16 (x.st : Nat)) := (hbx6.below (Below.refl _ _).drew).cell 0 _ rfl
      have hx0d : W6.drew.cell? ⟨g6, x.st, none⟩ = some (.int .u16 (nv : Nat)) := by
        refine (hs6.below (Below.refl _ _).drew).cell x.st _ ?_
        have hj : x.st < nx'.length := by rw [hnl]; exact HQ0.out.2.2
        unfold u16L
        rw [List.getElem?_map, List.getElem?_eq_getElem hj, hnv, List.getD_eq_getElem?_getD, List.getElem?_eq_getElem hj]
        rfl
      have hx0f : W6.drew.frozen? ⟨g6, x.st, none⟩ = false := (hs6.below (Below.refl _ _).drew).free x.st
      have p0 : W5.cell? ⟨p, 0, none⟩ = some (.slice (some ⟨ga, 0, none⟩) an3 aC') := by rw [han]; exact hRn.st.cell 0 _ rfl
      have p7 := hst7.cell 0 _ rfl
      have p7f := hst7.free 0
      have k0 := hb7.cell 0 _ rfl
      have k1 := hb7.cell 1 _ rfl
      have k2 := hb7.cell 2 _ rfl
      have k3 := hb7.cell 3 _ rfl
      have k4 := hb7.cell 4 _ rfl
      -- what was told, in the last world
      have hob := fun g (hg : (Value.slice oa on oc).ownBlock = some g) => hoM.own.lt g hg
      have hoM8 : OwnM W8 w.heap.size oa on oc ms := OwnG.fr (OwnG.fr (OwnG.fr (OwnG.fr hoM hfd (fun g hg e => by have := (hob g hg).1; omega)) hf6 (fun g hg e => by have := (hob g hg).2; have e : W5.heap.size ≤ g := e; omega)) hf7 (fun g hg e => by have := (hob g hg).2; omega)) hf8 (fun g hg e => by have := (hob g hg).1; omega)
      have HST := (show Hid _ from And.intro hRn (And.intro hs8 (And.intro hst8 (And.intro hoM8 (And.intro hb8 (And.intro hf6 (And.intro hf7 (And.intro hf8 (And.intro hfd hyV)))))))))
      have HAP6 := (show Hid _ from happ6)
      have HW7 := (show Hid _ from hW7)
      have HW8 := (show Hid _ from hW8)
      have HN1 := (show Hid _ from hn1)
      have HCC := (show Hid _ from ho6.cap)
      have hsz6 := hf6.size
      have hsz7 := hf7.size
      have hsz8 := hf8.size
      clear hL hN hnl hrel2 hR hoM hmT hms hZo hZZ hnv han ho hst hf hfd hyV hRn hga5 oe be happ6 ho6 hgr6 hl6 hf6 hs6 hn1 hW7 hf7 hs7 hW8 hf8 hst6 hst7 hst8 hs8 hb6 hb7 hb8 hbx6 hob hoM8 hgb hg3
      go_wp2_with (first
        | (at_builtin; refine app_eq_listT rfl _ _ rfl rfl rfl rfl HAP6.out ?_)
        | fail)
      refine wp_region_stage mixedX [10] (fun stgN W => match stgN with | 0 => W = W6.drew | _ => W = W7) (fun W => W.cell? ⟨θ, 0, none⟩ = some (.int .u16 (x.st : Nat)) ∧ W.cell? ⟨g6, x.st, none⟩ = some (.int .u16 (nv : Nat)) ∧ W.frozen? ⟨g6, x.st, none⟩ = false) [(167, .slice (some ⟨g6, 0, none⟩) an3 c6), (168, .pointer (some ⟨θ, 0, none⟩)), (169, .int .u16 (x.st : Nat)), (170, .slice (some ⟨g6, 0, none⟩) an3 c6), (171, .pointer (some ⟨θ, 0, none⟩)), (172, .int .u16 (x.st : Nat)), (173, .pointer (some ⟨g6, x.st, none⟩)), (174, .int .u16 (nv : Nat)), (175, .int .u16 (n1 : Nat)), (176, .pointer (some ⟨g6, x.st, none⟩))] ?Z103 ?hZ103 (by kernel_rfl) (by kernel_rfl) (by kernel_rfl) (by kernel_rfl) (by kernel_rfl) ?h0103 ?hS103 (.inl (by kernel_rfl)) ?hops103 ?he103 (by kernel_rfl) (by decide)
      case hZ103 => simp only [List.foldl_cons, List.foldl_nil, List.setIfInBounds_toArray, List.set_cons_zero, List.set_cons_succ]; rfl
      case h0103 => rfl
      case hS103 =>
        intro k W hk hW
        have hk : k < 1 := hk
        obtain rfl : k = 0 := by omega
        · have hW : W = W6.drew := hW; rw [hW]; exact ⟨hx0c, hx0d, hx0f⟩
      case hops103 =>
        refine ⟨?_, ?_, ?_, ?_, ?_, ?_, ?_, ?_, ?_, ?_, ?_, trivial⟩
        · exact stg_val (by rfl) (by rfl) (fun W hW => by obtain ⟨y0, y1, y2⟩ := hW; go_simp; (try with_reducible rfl); (try omega))
        · exact stg_val (by rfl) (by rfl) (fun W hW => by obtain ⟨y0, y1, y2⟩ := hW; go_simp; (try with_reducible rfl); (try omega))
        · exact stg_val (by rfl) (by rfl) (fun W hW => by obtain ⟨y0, y1, y2⟩ := hW; go_simp; (try with_reducible rfl); (try omega))
        · exact stg_val (by rfl) (by rfl) (fun W hW => by obtain ⟨y0, y1, y2⟩ := hW; go_simp; (try with_reducible rfl); (try omega))
        · exact stg_val (by rfl) (by rfl) (fun W hW => by obtain ⟨y0, y1, y2⟩ := hW; go_simp; (try with_reducible rfl); (try omega))
        · exact stg_val (by rfl) (by rfl) (fun W hW => by obtain ⟨y0, y1, y2⟩ := hW; go_simp; (try with_reducible rfl); (try omega))
        · exact stg_val (by rfl) (by rfl) (fun W hW => by obtain ⟨y0, y1, y2⟩ := hW; go_simp; (try with_reducible rfl); (try omega))
        · exact stg_val (by rfl) (by rfl) (fun W hW => by obtain ⟨y0, y1, y2⟩ := hW; go_simp; (try with_reducible rfl); (try omega))
        · exact stg_val (by rfl) (by rfl) (fun W hW => by obtain ⟨y0, y1, y2⟩ := hW; go_simp; (try with_reducible rfl); (try omega))
        · exact stg_val (by rfl) (by rfl) (fun W hW => by obtain ⟨y0, y1, y2⟩ := hW; go_simp; (try with_reducible rfl); (try omega))
        · exact stg_skip (by rfl) (by rfl) rfl (fun W hW => by have hW : W = W6.drew := hW; subst hW; refine ⟨W7, ?_, rfl⟩; rw [HW7.out]; go_simp; try rfl)
      case he103 =>
      intro W9 hW9
      have hW9' : W9 = W7 := hW9
      subst hW9'
      clear hx0c hx0d hx0f hW9 p0
      have ba := (Below.refl W8.heap.size W8).alloc (Nat.le_refl _) (.cells #[.int .u16 (y.m.st : Nat), .int .u16 (y.m.ss : Nat), .int .u32 (y.m.pp : Nat), .bool y.m.fr, .slice y.a yl y.c] 51)
      have hmv : Mq.v (y.m, y.a, y.c) = [.int .u16 (y.m.st : Nat), .int .u16 (y.m.ss : Nat), .int .u32 (y.m.pp : Nat), .bool y.m.fr, .slice y.a yl y.c] := by unfold Mq.v Mg.v; rw [HYL.out]
      obtain ⟨g9, c9, W10, happ9, ho9, hgr9, hl9, hlt9⟩ := OwnG.app layM (OwnG.below HST.out.2.2.2.1 ba) 32 (y.m, y.a, y.c) ⟨W8.heap.size, 0, none⟩ (st_add (by rw [hmv]; exact Stc.new W8 _ 51 _ rfl)) (by unfold maxLen; omega) (by omega) (by have := HLL.out.1.fr.size; have := ba.size; omega)
      have hz8 : W8.heap.size = W9.heap.size := by rw [HW8.out]; simp [World.setCell]
      have HAP9 : Hid ((Builtin.append_ #[32, 32] 32 #[.slice oa on oc, .slice (some ⟨W9.heap.size, 0, none⟩) 1 1]).run Try.prog ((W9.setCell ⟨p, 0, none⟩ (.slice (some ⟨g6, 0, none⟩) an3 c6)).alloc (.cells #[.int .u16 (y.m.st : Nat), .int .u16 (y.m.ss : Nat), .int .u32 (y.m.pp : Nat), .bool y.m.fr, .slice y.a yl y.c] 51)) = .ok (.slice (some ⟨g9, 0, none⟩) (on + 1) c9) W10) := by
        rw [HW8.out] at happ9 hz8
        rw [hz8] at happ9
        exact happ9
      have hf10 : Fr (fun g => (Value.slice oa on oc).ownBlock = some g) W8 W10 := (Fr.of_below ba).trans (Fr.grown hgr9 (fun g hg => hg))
      have HL9 := (show Hid _ from And.intro ho9 (And.intro hl9 (And.intro hlt9 hf10)))
      clear ba hmv hz8 happ9 ho9 hgr9 hl9 hlt9 hf10
      go_wp2_with (first
        | (at_builtin; refine app_eq_listT rfl _ _ rfl rfl rfl rfl HAP9.out ?_)
        | fail)
      have HFI : Hid (TeL W0 w p (restQ E xs) Z θ [.int .u16 (x.st : Nat), .int .u16 (ss : Nat), .int .u32 (x.pp : Nat), .bool false, .slice ra fn rc] (some ⟨g9, 0, none⟩) (on + 1) c9 (T ++ [y.m]) (nx'.set x.st n1) (dropY V' (tkey x.st nv)) W10 ∧ slM ((W10.cell? ⟨p, 2, none⟩).getD undef) < slM ((wr.cell? ⟨p, 2, none⟩).getD undef)) := by
        obtain ⟨hL, hN, hnl, hrel2, hR, hoM, hmT, hms, hZo, hZZ, hnv, han⟩ := HLL.out
        obtain ⟨hRn, hs8, hst8, hoM8, hb8, hf6, hf7, hf8, hfd, hyV⟩ := HST.out
        obtain ⟨ho9, hl9, hlt9, hf10⟩ := HL9.out
        have hob := fun g (hg : (Value.slice oa on oc).ownBlock = some g) => hoM.own.lt g hg
        have hwsz := hL.fr.size
        have hW0 := hR.pn
        have hfQ : Fr (fun g => g = p ∨ W5.heap.size ≤ g ∨ (Value.slice oa on oc).ownBlock = some g) W5 W10 :=
          (((hf6.mono (fun g _ h => .inr (.inl h))).trans (hf7.mono (fun g _ h => .inr (.inl (by have h : g = g6 := h; omega))))).trans (hf8.mono (fun g _ h => .inl h))).trans (hf10.mono (fun g _ h => .inr (.inr h)))
        have hobn : ∀ g, (Value.slice oa on oc).ownBlock = some g → ∀ n c, (Value.slice oa n c).ownBlock = some g := fun g h n c => by cases oa <;> exact h
        have hzn : ∀ g, (Z' g ∨ (wr.heap.size ≤ g ∧ g < W5.heap.size)) → ¬ (g = p ∨ W5.heap.size ≤ g ∨ (Value.slice oa on oc).ownBlock = some g) := by
          intro g hg hq
          have hzp := hRn.zp g hg
          rcases hq with hq | hq | hq
          · exact hzp.1 hq
          · omega
          · rcases hg with hg | hg
            · exact hZo g hg on oc hq
            · have := (hob g hq).2; omega
        have hst10 := hst8.fr hf10 (fun e => by have := (hob p e).1; omega)
        have hs10 := hs8.fr hf10 (fun e => by have := (hob g6 e).2; omega)
        have hln : (nx'.set x.st n1).length = an3 := by rw [List.length_set, han]
        have hRf := hRn.turn (nx2 := nx'.set x.st n1) (g6 := g6) (c6 := c6) hfQ hzn (fun g hg => by
          rcases hg with hg | hg | hg
          · omega
          · omega
          · have := (hob g hg).1; omega) ⟨by omega, hs10.lt⟩ (by rw [hln]; exact hst10) hs10 (by rw [hln]; exact HCC.out) (by rw [hln, han]) (getD_set16 _ _ _ hR.nv (by rw [HN1.out]; omega))
        have hg9 : ∀ g, g ≠ W8.heap.size + 1 → (∀ n c, (Value.slice oa n c).ownBlock ≠ some g) → g9 ≠ g := fun g h1 h2 e => by
          rcases hl9 with hl9 | hl9
          · exact h2 on oc (by rw [hl9, e])
          · refine h1 (e.symm.trans (hl9.trans ?_))
            simp
        have hslk : ∀ (a : Option Addr) (n c : Nat) (zs : List Nat), Sl wr a n c zs → (∀ g off, a = some ⟨g, off, none⟩ → Z' g) → Sl W10 a n c zs := fun a n c zs h1 h2 => (h1.frA hfd (fun b off e _ hb => (hR.zp b (h2 b off e)).1 hb)).frA hfQ (fun b off e _ hb => hzn b (.inl (h2 b off e)) hb)
        refine ⟨⟨⟨_, _, ms ++ [(y.m, y.a, y.c)], hRf, ho9, by rw [List.map_append, hmT]; rfl, fun z hz => ?_, fun g hg n c e => ?_, fun g hg => ?_⟩, (hL.fr.trans hfd).fresh2 hfQ (fun g hg => ?_), ((hL.box.fr hfd (by omega)).fr hfQ (fun hq => ?_)), hL.lo, fun n c e => ?_, dropY_nd hL.nd _⟩, ?_⟩
        · rcases List.mem_append.1 hz with hz | hz
          · exact ⟨hslk _ _ _ _ (hms z hz).1 (hms z hz).2, fun g off e => .inl (.inl ((hms z hz).2 g off e))⟩
          · obtain rfl : z = (y.m, y.a, y.c) := by simpa using hz
            exact ⟨hslk _ _ _ _ (hR.sl y hyV).1 (hR.sl y hyV).2, fun g off e => .inl (.inl ((hR.sl y hyV).2 g off e))⟩
        · have e : g9 = g := Option.some.inj e
          refine hg9 g ?_ ?_ e
          · rcases hg with hg | rfl
            · have := (hRn.zp g hg).2; omega
            · have := hs8.lt; omega
          · intro n c e2
            have e3 := hobn g (by cases oa <;> exact e2) n c
            rcases hg with hg | rfl
            · exact hzn g hg (.inr (.inr (by cases oa <;> exact e2)))
            · have := (hob g (by cases oa <;> exact e2)).2; omega
        · rcases hg with (hg | hg) | rfl
          · exact hZZ g hg
          · exact .inr (by omega)
          · exact .inr (by omega)
        · rcases hg with hg | hg | hg
          · exact .inl hg
          · exact .inr (by omega)
          · exact .inr (hob g hg).1
        · rcases hq with hq | hq | hq
          · omega
          · omega
          · exact hL.ne on oc hq
        · have e : g9 = θ := Option.some.inj e
          exact hg9 θ (by omega) (fun n c => hL.ne n c) e
        · rw [hst10.cell 2 _ rfl, hR.st.cell 2 _ rfl]
          exact hdl
      have HRL : Hid (tellV nx (Vs.map RyD.mn) (joinQ xs) k = relV x.st (N - 1) (nx'.set x.st n1, (dropY V' (tkey x.st nv)).map RyD.mn) (T ++ [y.m])) := by
        obtain ⟨hL, hN, hnl, hrel2, hR, hoM, hmT, hms, hZo, hZZ, hnv, han⟩ := HLL.out
        have hlk : lookD ((V'.map RyD.mn).map kvV) (tkey x.st (nx'.getD x.st 0)) = some y.mn := by
          rw [← hnv, findY_look, HFY.out]
          rfl
        obtain ⟨N', rfl⟩ : ∃ N', N = N' + 1 := ⟨N - 1, by omega⟩
        rw [relV_some (q := (nx', V'.map RyD.mn)) hlk] at hrel2
        show _ = relV x.st N' _ _
        rw [hrel2, dropY_mn, ← hnv, HN1.out]
        rfl
      have hNN := HLL.out.2.1
      have hnll : (nx'.set x.st n1).length = nx.length := by rw [List.length_set]; exact HLL.out.2.2.1
      go_roundw
      case rel => exact ⟨_, _, _, _, _, _, _, _, _, _, _, _, _, _, _, _, _, _, _, _, _, _, _, _, _, _, _, _, _, _, _, _, _, _, _, _, _, _, _, _, _, _, _, _, _, _, _, ⟨_, on + 1, c9, T ++ [y.m], nx'.set x.st n1, dropY V' (tkey x.st nv), N - 1, rfl, HFI.out.1, by omega, hnll, by omega, HRL.out⟩, rfl⟩
      case measure => exact HFI.out.2
end Go.Proofs.Ytjaheelgcjafcaa
