/-
  Whatever the input, trunklinelaw13.StreamsOrder answers true and leaves what it was handed as it was.
  (The statement is Rows.StreamsOrderSaid; no condition of our own.)
-/
import Derived.Test.YtjaheelgcjafcaaQ3
import Derived.Test.YtjaheelgcjafcaaRows
import Derived.ProofKit
import Derived.OpenShut
import Derived.ShutString
import Derived.ChangeOld
import Derived.SizedLaws
namespace Go.Proofs.Ytjaheelgcjafcaa
open Go.RowKit Go.MapKept Go.Maps
/-- Rows of messages, one behind the other. -/
theorem MsgsW.appAll {w : World} {B B2 : Nat} {a a2 : Option Addr} {n c n2 c2 : Nat} {T T2 : List Mg} (h : MsgsW w B a n c T) (h2 : MsgsW w B2 a2 n2 c2 T2) (hBB : B ≤ B2) (hB : B ≤ w.heap.size) (hn : n + n2 ≤ 100000) :
    ∃ a' c' w', (Builtin.append_ #[32, 32] 32 #[.slice a n c, .slice a2 n2 c2]).run Try.prog w = .ok (.slice a' (n + n2) c') w' ∧ MsgsW w' B a' (n + n2) c' (T ++ T2) ∧ Fr (fun g => (Value.slice a n c).ownBlock = some g) w w' ∧ (∀ g, (Value.slice a' (n + n2) c').ownBlock = some g → ((Value.slice a n c).ownBlock = some g ∨ g = w.heap.size) ∧ g < w'.heap.size) := by
  obtain ⟨xs, h1, hx, hd⟩ := h.ex
  obtain ⟨ys, k1, ky, kd⟩ := h2.ex
  cases a2 with
  | none =>
    have hn2 : n2 = 0 ∧ c2 = 0 := by
      rcases ky.own.2 with ⟨hv, h0⟩ | ⟨g, cap, cur, hv, _⟩
      · injection hv with _ _ e3; exact ⟨h0, e3⟩
      · injection hv with e1; cases e1
    obtain ⟨rfl, rfl⟩ := hn2
    have hT2 : T2 = [] := List.eq_nil_of_length_eq_zero (by rw [← h2.len])
    subst hT2
    obtain ⟨z, hinfo, hzs⟩ := layM.info
    obtain ⟨i, hi, hz0, hz1, hz2⟩ := info_parts hinfo
    have hr := run_append_owned_none (P := Try.prog) (w := w) B 32 32 51 i 5 layM.under hi (.slice a n c) n (valsG Mq.v xs) hx.own
    refine ⟨a, c, w, hr, by rw [List.append_nil]; exact h, Fr.refl _ _, fun g hg => ⟨.inl hg, (hx.own.lt g hg).2⟩⟩
  | some ad =>
    have had : (∀ j u, (valsG Mq.v ys)[j]? = some u → w.cell? (ad.add j) = some u) := fun j u hj => by
      have hlj : j < n2 * 5 := by
        have := (List.getElem?_eq_some_iff.1 hj).1
        rw [valsG_len (k := 5) (fun _ => rfl), ky.len] at this
        exact this
      have hpos : 0 < n2 := by omega
      obtain ⟨g, e1, _⟩ := OwnG.at_ ky (fun _ => rfl) hpos
      injection e1 with e1
      subst e1
      have := ky.own.cellAt j hlj
      rw [hj] at this
      unfold Addr.add
      split
      · rename_i e; subst e; exact this
      · simpa using this
    obtain ⟨z, hinfo, hzs⟩ := layM.info
    obtain ⟨i, hi, hz0, hz1, hz2⟩ := info_parts hinfo
    obtain ⟨v', w', hr, hown, hg, _, hblk⟩ := run_append_own_at (P := Try.prog) w B 32 32 51 i z 5 40 layM.under hi hz0 hz1 hz2 hzs layM.pos (.slice a n c) n (valsG Mq.v xs) hx.own ad n2 c2 (valsG Mq.v ys) (by rw [valsG_len (k := 5) (fun _ => rfl), ky.len]) had (valsG_one layM.one ys) (by unfold maxLen; omega) (by omega) hB
    obtain ⟨a', c', rfl⟩ : ∃ a' c', v' = .slice a' (n + n2) c' := by
      rcases hown.2 with ⟨hv, h0⟩ | ⟨g, cap, cur, hv, _⟩
      · exact ⟨none, 0, by rw [hv, h0]⟩
      · exact ⟨some ⟨g, 0, none⟩, cap, hv⟩
    rw [← valsG_app] at hown
    have keep : ∀ {B' : Nat} (x : Mq), OwnB w B' x.2.1 x.1.zs.length x.2.2 x.1.zs → OwnB w' B' x.2.1 x.1.zs.length x.2.2 x.1.zs := fun {B'} x hq => by
      refine hq.kept hg ?_
      cases e : (Value.slice x.2.1 x.1.zs.length x.2.2).ownBlock with
      | none => exact .inl rfl
      | some g => exact .inr (fun e2 => ownB_apart hq hx g e (e2 ▸ rfl))
    refine ⟨a', c', w', hr, ⟨xs ++ ys, by rw [List.map_append, h1, k1], ⟨by rw [List.length_append, hx.len, ky.len], hown⟩, fun x hxm => ?_⟩, Fr.grown hg (fun g e => e), fun g hgb => ?_⟩
    · rcases List.mem_append.1 hxm with e | e
      · exact keep x (hd x e)
      · exact (keep x (kd x e)).base hBB
    · refine ⟨?_, (hown.lt g hgb).2⟩
      rcases hblk with e | e
      · exact .inl (e ▸ hgb)
      · rw [e] at hgb
        exact .inr (Option.some.inj hgb).symm
/-- A row of bools in a block of its own. -/
structure RwB (w : World) (g N : Nat) (f : Nat → Bool) : Prop where
  lt : g < w.heap.size
  cell : ∀ i, i < N → w.cell? ⟨g, i, none⟩ = some (.bool (f i))
  free : ∀ i, w.frozen? ⟨g, i, none⟩ = false
theorem RwB.fr {P : Nat → Prop} {w w' : World} {g N : Nat} {f : Nat → Bool} (h : RwB w g N f) (hf : Fr P w w') (hp : ¬ P g) : RwB w' g N f :=
  ⟨Nat.lt_of_lt_of_le h.lt hf.size, fun i hi => (hf.cell ⟨g, i, none⟩ h.lt hp).trans (h.cell i hi), fun i => (hf.frozen ⟨g, i, none⟩ h.lt hp).trans (h.free i)⟩
theorem RwB.below {w w' : World} {g N : Nat} {f : Nat → Bool} (h : RwB w g N f) (hb : Below w.heap.size w w') : RwB w' g N f := h.fr (P := fun _ => False) (Fr.of_below hb) (fun e => e)
theorem RwB.set {w : World} {g N : Nat} {f f' : Nat → Bool} (h : RwB w g N f) (j : Nat) (v : Bool) (hj : j < N) (hf : ∀ i, i < N → f' i = if i = j then v else f i) : RwB (w.setCell ⟨g, j, none⟩ (.bool v)) g N f' := by
  refine ⟨by simp [World.setCell]; exact h.lt, fun i hi => ?_, fun i => by rw [World.frozen?_setCell]; exact h.free i⟩
  rw [hf i hi]
  split
  · rename_i e
    subst e
    exact World.cell?_setCell_same' _ _ _ (by rw [h.cell i hi]; rfl)
  · rename_i e
    rw [World.cell?_setCell_other _ _ _ _ (by intro e2; injection e2 with _ e3; exact e e3.symm)]
    exact h.cell i hi
theorem RwB.made {w w' : World} {N : Nat} {T : TypeId} (hw : w' = w.alloc (.cells (madeCells #[.bool false] N) T)) : RwB w' w.heap.size N (fun _ => false) := by
  have h : Stc w' w.heap.size (madeCells #[.bool false] N).toList := Stc.new w _ T w' (by rw [hw])
  refine ⟨h.lt, fun i hi => h.cell i _ ?_, h.free⟩
  rw [Array.getElem?_toList]
  simp [madeCells, hi, Nat.mod_one]
section
variable {W1 wr : World} {p nb mb wb og first M N i : Nat} {mg : Nat → Mg} {o : Nat → Nat} {pd : Nat → Pd} {f : Nat → Nat} {Z : Nat → Prop} {I : List Nat}
/-- Blocks of Z are turned, and new ones come into it. -/
theorem OdI.grow {w' : World} {Q Z' : Nat → Prop} (h : OdI W1 p nb mb wb og first M N i mg o pd f Z I wr) (hf : Fr Q wr w') (hQ : ∀ g, Q g → Z g ∧ g ≠ og ∧ W1.heap.size ≤ g) (hpl : p < wr.heap.size ∧ nb < wr.heap.size ∧ mb < wr.heap.size ∧ wb < wr.heap.size) (hZ : ∀ g, Z' g → g < w'.heap.size ∧ (Z g ∨ wr.heap.size ≤ g)) (hzo : Z' og) : OdI W1 p nb mb wb og first M N i mg o pd f Z' I w' := by
  obtain ⟨s, A, wr', Y, h1, h2, h3, h4, h5⟩ := h.ex
  refine ⟨⟨s, A, wr', Y, h1.fr hf (fun g _ hg => ⟨h5 g (hQ g hg).1, (h.zl g (hQ g hg).1).2⟩), h2, h3, h4, fun g hg hy => ?_⟩, fun g hg => ?_, hzo, h.rw_.fr hf (fun e => (hQ og e).2.1 rfl), h.bel.trans (hf.below _ h.bel.size (fun g hg => (hQ g hg).2.2)), h.new⟩
  · rcases (hZ g hg).2 with e | e
    · exact h5 g e hy
    · have := h1.yl g hy; omega
  · refine ⟨(hZ g hg).1, ?_⟩
    rcases (hZ g hg).2 with e | e
    · exact (h.zl g e).2
    · exact ⟨by omega, by omega, by omega, by omega⟩
end
theorem look_nil {α : Type} {D : List (Nat × α)} (h : ∀ q x, lookD D q = some x → False) : D = [] := by
  cases D with
  | nil => rfl
  | cons y D =>
    have : lookD (y :: D) y.1 = some y.2 := by simp [lookD]
    exact (h _ _ this).elim
/-- All pieces came. -/
theorem Iv.all {first M N : Nat} {mg : Nat → Mg} {o : Nat → Nat} {pd : Nat → Pd} {A : Nat → Bool} {s : SmS} {I : List Nat} (F : Fm M N mg o pd) (h : Iv first M N mg o pd A s I) (hA : ∀ j, j < N → A j = true) : I.Perm (List.range M) ∧ s.heldN = 0 ∧ s.heldB = 0 := by
  have hc : ∀ i, i < M → cmpA o A i := fun i hi j h1 h2 => hA j (F.lt hi h2)
  have hlt : ∀ i, i < M → (mg i).fr = false → (mg i).ss < s.nx.getD (mg i).st 0 := fun i hi hf => by
    rcases Nat.lt_or_ge (mg i).ss (s.nx.getD (mg i).st 0) with e | e
    · exact e
    · rcases Nat.eq_or_lt_of_le e with e2 | e2
      · exact absurd (hc i hi) (h.n2 i hi hf e2.symm)
      · obtain ⟨i', a1, a2, a3, a4⟩ := F.dn i hi hf _ e2
        exact absurd (hc i' a1) (h.n2 i' a1 a2 (by rw [a3]; exact a4))
  have hD : s.D = [] := look_nil (fun q x e => by
    obtain ⟨i, j, a1, a2, a3, a4, a5, a6⟩ := h.d2 q x e
    exact a6 (hc i a1))
  have hW : s.W = [] := look_nil (fun q x e => by
    obtain ⟨i, a1, a2, a3, a4, a5⟩ := h.w2 q x e
    have := hlt i a1 a2
    omega)
  refine ⟨(List.perm_ext_iff_of_nodup h.t1 List.nodup_range).2 (fun i => ⟨fun hi => List.mem_range.2 (h.t2 i hi).1, fun hi => ?_⟩), ?_, ?_⟩
  · have hi2 := List.mem_range.1 hi
    refine h.t3 i hi2 (hc i hi2) ?_
    cases e : (mg i).fr with
    | true => exact .inl rfl
    | false => exact .inr (hlt i hi2 e)
  · unfold SmS.heldN
    rw [hD, hW]
    rfl
  · unfold SmS.heldB
    rw [hD, hW]
    rfl
/-- How many messages that were not found yet are v. -/
def cU (mg : Nat → Mg) (U : Nat → Bool) (v : Mg) : Nat → Nat
  | 0 => 0
  | n + 1 => cU mg U v n + (if U n = false ∧ mg n = v then 1 else 0)
def cR (mg : Nat → Mg) (v : Mg) : List Nat → Nat
  | [] => 0
  | x :: L => cR mg v L + (if mg x = v then 1 else 0)
theorem cU_find {mg : Nat → Mg} {U : Nat → Bool} {v : Mg} : ∀ n, 0 < cU mg U v n → ∃ k, k < n ∧ U k = false ∧ mg k = v
  | 0, h => (by cases h)
  | n + 1, h => by
    unfold cU at h
    by_cases e : U n = false ∧ mg n = v
    · exact ⟨n, by omega, e⟩
    · rw [if_neg e] at h
      obtain ⟨k, a, b⟩ := cU_find n h
      exact ⟨k, by omega, b⟩
theorem cU_set {mg : Nat → Mg} {U : Nat → Bool} {v : Mg} {k : Nat} (hk : U k = false) : ∀ n, cU mg U v n = cU mg (fun i => if i = k then true else U i) v n + (if k < n ∧ mg k = v then 1 else 0)
  | 0 => by simp [cU]
  | n + 1 => by
    unfold cU
    rw [cU_set hk n]
    by_cases e : n = k
    · subst e
      by_cases e2 : mg n = v
      · simp [hk, e2]
      · simp [e2]
    · by_cases e2 : mg k = v
      · by_cases e3 : k < n
        · simp [e, e2, e3, show k < n + 1 by omega]; omega
        · simp [e, e2, e3, show ¬ k < n + 1 by omega]
      · simp [e, e2]
theorem cR_perm {mg : Nat → Mg} {v : Mg} {L L' : List Nat} (h : L.Perm L') : cR mg v L = cR mg v L' := by
  induction h with
  | nil => rfl
  | cons x _ ih => unfold cR; rw [ih]
  | swap x y l => unfold cR; unfold cR; omega
  | trans _ _ ih1 ih2 => rw [ih1, ih2]
theorem cR_app (mg : Nat → Mg) (v : Mg) (L L' : List Nat) : cR mg v (L ++ L') = cR mg v L + cR mg v L' := by
  induction L with
  | nil => simp [cR]
  | cons x L ih => rw [List.cons_append, cR, cR, ih]; omega
theorem cR_range (mg : Nat → Mg) (v : Mg) : ∀ n, cR mg v (List.range n) = cU mg (fun _ => false) v n
  | 0 => rfl
  | n + 1 => by
    rw [List.range_succ, cR_app, cR_range mg v n]
    simp [cR, cU]
theorem cR_drop {mg : Nat → Mg} {v : Mg} {I : List Nat} {k x : Nat} (h : I[k]? = some x) : cR mg v (I.drop k) = cR mg v (I.drop (k + 1)) + (if mg x = v then 1 else 0) := by
  have hk := (List.getElem?_eq_some_iff.1 h).1
  have h2 : I.drop k = x :: I.drop (k + 1) := by
    rw [List.drop_eq_getElem_cons hk]
    congr 1
    exact (List.getElem?_eq_some_iff.1 h).2
  rw [h2, cR]
end Go.Proofs.Ytjaheelgcjafcaa
namespace Go.Proofs.Ytjaheelgcjafcaa
open Go.RowKit Go.MapKept Go.Maps
theorem nodup_len : ∀ (M : Nat) (L : List Nat), L.Nodup → (∀ x, x ∈ L → x < M) → L.length ≤ M
  | 0, L, _, h => by
    cases L with
    | nil => exact Nat.le_refl _
    | cons x L => have := h x List.mem_cons_self; omega
  | M + 1, L, hn, h => by
    have h1 := nodup_len M (L.erase M) (hn.erase M) (fun x hx => by
      have h2 := h x (List.mem_of_mem_erase hx)
      have h3 : x ≠ M := (hn.mem_erase_iff.1 hx).1
      omega)
    rw [List.length_erase] at h1
    split at h1 <;> omega
theorem bool_info : (Try.prog.info? 4).map (fun i => (i.zero, i.size, i.bytes)) = some (some (.bool false), 1, 1) := by kernel_rfl
theorem mkB (N : Nat) (hc : N ≤ 1000) (w : World) : (Instr.makeSlice 49 (.int .i64 (N : Int)) (.int .i64 (N : Int))).run Try.prog w = .ok (.slice (some ⟨w.heap.size, 0, none⟩) N N) (w.alloc (.cells (madeCells #[.bool false] N) 4)) := by
  obtain ⟨i, hi, hz0, hz1, hz2⟩ := info_parts bool_info
  have := run_make (P := Try.prog) w 49 4 i (.bool false) Try.underlying49 hi hz0 .i64 .i64 (N : Int) (N : Int) (by omega) (by omega) (by rw [hz2]; omega) (by omega)
  rw [hz1, show (Value.bool false).cells = #[.bool false] from rfl] at this
  simpa using this
/-- What stands ahead of the piece i, and what was got. -/
structure OgS (W1 : World) (first M N i : Nat) (mg : Nat → Mg) (o : Nat → Nat) (pd : Nat → Pd) (f : Nat → Nat) (I : List Nat) (ga : Option Addr) (gn gc : Nat) (wr : World) : Prop where
  od : OdI W1 (W1.heap.size + 3) W1.heap.size (W1.heap.size + 1) (W1.heap.size + 2) (W1.heap.size + 4) first M N i mg o pd f (fun g => g = W1.heap.size + 4 ∨ (Value.slice ga gn gc).ownBlock = some g) I wr
  got : MsgsW wr (W1.heap.size + 5) ga gn gc (I.map mg)
  big : W1.heap.size + 5 ≤ wr.heap.size
theorem og_len {W1 : World} {first M N i : Nat} {mg : Nat → Mg} {o : Nat → Nat} {pd : Nat → Pd} {f : Nat → Nat} {Z : Nat → Prop} {p nb mb wb og : Nat} {I : List Nat} {wr : World} (h : OdI W1 p nb mb wb og first M N i mg o pd f Z I wr) : I.length ≤ M := by
  obtain ⟨s, A, _, _, _, hI, _⟩ := h.ex
  exact nodup_len M I hI.t1 (fun x hx => (hI.t2 x hx).1)
/-- The messages that a piece made whole are laid behind. -/
theorem OgS.app {W1 : World} {first M N i B : Nat} {mg : Nat → Mg} {o : Nat → Nat} {pd : Nat → Pd} {f : Nat → Nat} {I J : List Nat} {ga ta : Option Addr} {gn gc tc : Nat} {wr w5 : World} (h : OgS W1 first M N i mg o pd f I ga gn gc wr) (hM : M ≤ 128) (hms : MsgsW w5 B ta J.length tc (J.map mg)) (hB : wr.heap.size ≤ B)
    (hod : OdI W1 (W1.heap.size + 3) W1.heap.size (W1.heap.size + 1) (W1.heap.size + 2) (W1.heap.size + 4) first M N (i + 1) mg o pd f (fun g => g = W1.heap.size + 4 ∨ (Value.slice ga gn gc).ownBlock = some g) (I ++ J) w5) (hfr : Fr (fun g => g = W1.heap.size ∨ g = W1.heap.size + 1 ∨ g = W1.heap.size + 2) wr w5) :
    ∃ a' c' w', (Builtin.append_ #[32, 32] 32 #[.slice ga gn gc, .slice ta J.length tc]).run Try.prog w5 = .ok (.slice a' (gn + J.length) c') w' ∧ OgS W1 first M N (i + 1) mg o pd f (I ++ J) a' (gn + J.length) c' w' := by
  have hg5 : MsgsW w5 (W1.heap.size + 5) ga gn gc (I.map mg) := h.got.fr hfr (fun g h1 _ => by omega)
  have hl := og_len hod
  have hgn := h.got.len
  rw [List.length_map] at hgn
  rw [List.length_append] at hl
  have hbig := h.big
  obtain ⟨a', c', w', hr, hm, hf, hblk⟩ := hg5.appAll hms (by omega) (Nat.le_trans hbig hfr.size) (by omega)
  have hown : ∀ g, (Value.slice ga gn gc).ownBlock = some g → W1.heap.size + 5 ≤ g := fun g hg => by
    obtain ⟨xs, _, h2, _⟩ := h.got.ex
    exact (h2.own.lt g hg).1
  have hsz := hfr.size
  refine ⟨a', c', w', hr, ⟨?_, by rw [List.map_append]; exact hm, Nat.le_trans (Nat.le_trans hbig hfr.size) hf.size⟩⟩
  refine hod.grow hf (fun g hg => ⟨.inr hg, by have := hown g hg; omega, by have := hown g hg; omega⟩) (by omega) (fun g hg => ?_) (.inl rfl)
  rcases hg with e | e
  · exact ⟨by have := hf.size; omega, .inl (.inl e)⟩
  · obtain ⟨b1, b2⟩ := hblk g e
    refine ⟨b2, ?_⟩
    rcases b1 with e2 | e2
    · exact .inl (.inr e2)
    · exact .inr (by omega)
set_option linter.unusedVariables false in
set_option maxRecDepth 100000 in
set_option maxHeartbeats 16000000 in
theorem walk_StreamsOrder (la : Option Addr) (ln lc : Nat) (dd : List SeD) (first : Nat) (pa : Option Addr) (pn pc : Nat) (ps : List Nat) (w : World) (hs : SlSe w la ln lc dd) (hfb : first < 4294967296) (hp : Sl w pa pn pc ps ∧ pc * 1 ≤ 140737488351232) :
    Calls Try.prog 4 #[.slice la ln lc, .int .u32 (first : Nat), .slice pa pn pc] w fun e w' => e = .returned (.bool true) ∧ Below w.heap.size w w' := by
  have HCT := (show Hid _ from cut_any la ln lc dd first 4 w hs hfb (by decide) (by decide) (fun m a c t0 w a1 a2 a3 a4 a5 => pieces_any m a c t0 4 w a1 a2 a3 (by decide) (by decide) a4 a5))
  have HPS := (show Hid _ from hp.1)
  clear hs hp
  go_enter Try.func4, Try.ntmps4
  go_wp2_with fail
  refine Calls.mono HCT.out ?_
  clear HCT
  rintro e W1 hCP
  obtain ⟨M, N, ma, mc, ca, cc, mg, o, pd, rfl, hC⟩ := hCP.ex
  have hN128 := hC.ct.F.n128
  have hMN := hC.ct.F.MN
  have HC := (show Hid _ from hC)
  have HNW := (show Hid _ from snew_ok 8 W1 (by decide) (by decide))
  clear hCP hC
  go_wp2_with fail
  refine Calls.mono HNW.out ?_
  clear HNW
  rintro e w2 ⟨rfl, hw2⟩
  have hsm2 := SmW.new 8 (by decide) (by decide) hw2
  have hb2 : Below W1.heap.size W1 w2 := by rw [hw2]; exact (((((Below.refl _ _).alloc (Nat.le_refl _) _).alloc (by simp) _).alloc (by simp; omega) _).alloc (by simp; omega) _)
  have hz2 : w2.heap.size = W1.heap.size + 4 := by rw [hw2]; simp
  have HSH := (show Hid _ from shuffled_any N pa pn pc ps w2 (HPS.out.below (HC.out.bel.trans (hb2.mono HC.out.bel.size))) (by omega))
  have HM3 := (show Hid _ from And.intro hsm2 (And.intro hb2 hz2))
  clear hsm2 hb2 hw2 hz2
  go_wp2_with fail
  refine Calls.mono HSH.out ?_
  clear HSH
  rintro e w4 hSP
  obtain ⟨f, he, hrw, hpm⟩ := hSP.ex
  have hb4 := hSP.bel
  obtain ⟨hsm3, hb13, hz3⟩ := HM3.out
  rw [hz3] at he hrw
  subst he
  have HF0 : Hid (OgS W1 first M N 0 mg o pd f [] none 0 0 w4) := by
    have h45 : w4.heap.size > W1.heap.size + 4 := by have := hrw.lt; omega
    refine ⟨⟨⟨⟨List.replicate 8 0, [], []⟩, fun _ => false, _, _, hsm3.below hb4, Iv.start HC.out.ct.F first, fun j => ⟨fun e => (by cases e), fun ⟨i', a, _⟩ => (by omega)⟩, Nat.zero_le _, fun g _ e => e⟩, fun g hg => by rcases hg with e | e; (subst e; omega); (cases e), .inl rfl, hrw, hb13.trans (hb4.mono hb13.size), by omega⟩, MsgsW.nil _ _, by omega⟩
  have HPM := (show Hid _ from hpm)
  clear hSP hb4 hsm3 hb13 hz3 hrw hpm HM3
  go_wp2
  go_loopw [11, 13] (fun u11 u13 wr => ∃ (i : Nat) (I : List Nat) (ga : Option Addr) (gn gc : Nat), i ≤ N ∧ u11 = .slice ga gn gc ∧ u13 = .int .i64 (i : Nat) ∧ OgS W1 first M N i mg o pd f I ga gn gc wr) (fun _ u13 _ => N - (intOf u13).toNat)
  case atStart => exact ⟨0, [], none, 0, 0, by omega, rfl, rfl, HF0.out⟩
  case round =>
    obtain ⟨i, I, ga, gn, gc, hiN, rfl, rfl, hF⟩ := hrel
    have HF := (show Hid _ from hF)
    clear hF HF0
    by_cases hlt : i < N
    · have hlt1 : (i : Int) < (N : Int) := by omega
      obtain ⟨cb, ad, hca, hcb, hcN, hrg1, hob⟩ := HC.out.cs.getK (by omega)
      subst hca
      have hr5 := HF.out.od.rw_.cell i hlt
      have hfi := HPM.out.lt hlt
      have hfi1 : (f i : Int) < (N : Int) := by omega
      have hrg : wr.rangeAt cb (f i * 14) (ckJ first pd ad (f i)).cells := fun i' u hu => (HF.out.od.bel.cell (p := ⟨cb, f i * 14 + i', none⟩) hcb).trans (hrg1 (f i) hfi i' u hu)
      have HAD := (show Hid _ from fun v hv => od_add HC.out HF.out.od HPM.out hlt ad hob v hv)
      obtain ⟨cs, hcs⟩ : ∃ cs, cs = (ckJ first pd ad (f i)).cells := ⟨_, rfl⟩
      have hcl : cs.length = 14 := by rw [hcs]; rfl
      rw [← hcs] at hrg
      have HCS : Hid (∀ v, v = .agg cs.toArray → v = (ckJ first pd ad (f i)).val) := fun v hv => ck_val _ v (by rw [hv, hcs])
      clear hcs hrg1 hob
      generalize f i = fi at *
      go_wp2_with (first | (refine wpList_load_mid rfl 47 _ rfl cb (fi * 14) rfl cs _ hrg Try.underlying47 rfl (ch_size _ hcl) ?_) | fail)
      refine (HAD.out _ (HCS.out _ rfl)).mono ?_
      clear HAD HCS hrg hcl hr5 hfi hfi1
      rintro e w5 ⟨ta, tc, B, J, rfl, hms, hB, hod, hfr⟩
      obtain ⟨a9, c9, w9, hr9, hF9⟩ := HF.out.app (by omega) hms hB hod hfr
      have HF9 := (show Hid _ from hF9)
      clear hms hod hfr hB HF hF9
      generalize J.length = jl at *
      go_wp2_with (at_builtin; refine app_eq_list rfl _ _ rfl rfl rfl rfl hr9 ?_)
      clear hr9
      go_wp2
      go_roundw
      case rel => exact ⟨i + 1, I ++ J, _, _, _, by omega, rfl, by go_num, HF9.out⟩
      case measure => simp [intOf]; omega
    · have hlt1 : ¬ (i : Int) < (N : Int) := by omega
      obtain ⟨s, A, wr', Y, hsm, hI, hA, hheld, hYZ⟩ := HF.out.od.ex
      obtain ⟨hperm, hh0, hh1⟩ := hI.all HC.out.ct.F (fun j hj => by
        obtain ⟨i', a1, a2⟩ := HPM.out.all hj
        exact (hA j).2 ⟨i', by omega, a2⟩)
      have hlen : I.length = M := by rw [hperm.length_eq, List.length_range]
      have hgn : gn = M := by rw [HF.out.got.len, List.length_map, hlen]
      subst hgn
      obtain ⟨wz, hwz⟩ : ∃ wz, wz = wr := ⟨_, rfl⟩
      subst hwz
      have HWZ := (show Hid _ from HF.out.od.bel)
      have HGOT := (show Hid _ from HF.out.got)
      have HSM0 : Hid (SmW wz (W1.heap.size + 3) W1.heap.size (W1.heap.size + 1) (W1.heap.size + 2) wr' Y s ∧ s.heldN = 0 ∧ s.heldB = 0) := ⟨hsm, hh0, hh1⟩
      have HI := (show Hid _ from hI)
      have HLEN := (show Hid _ from hlen)
      obtain ⟨w6, hw6⟩ : ∃ w6, w6 = wz.alloc (.cells #[.int .u16 0, .int .u16 0, .int .u16 0, .int .u16 0, .int .u16 0, .int .u16 0, .int .u16 0, .int .u16 0] 48) := ⟨_, rfl⟩
      obtain ⟨w7, hw7⟩ : ∃ w7, w7 = w6.alloc (.cells (madeCells #[.bool false] gn) 4) := ⟨_, rfl⟩
      have hb6 : Below wz.heap.size wz w6 := by rw [hw6]; exact (Below.refl _ _).alloc (Nat.le_refl _) _
      have hb7 : Below w6.heap.size w6 w7 := by rw [hw7]; exact (Below.refl _ _).alloc (Nat.le_refl _) _
      have hz6 : w6.heap.size = wz.heap.size + 1 := by rw [hw6]; simp
      have hst6 := Stc.new wz [.int .u16 0, .int .u16 0, .int .u16 0, .int .u16 0, .int .u16 0, .int .u16 0, .int .u16 0, .int .u16 0] 48 w6 hw6
      have hrb7 := RwB.made hw7
      rw [hz6] at hrb7
      have H7 : Hid (Stc w7 wz.heap.size (ntL .u16 mg (I.take 0)) ∧ RwB w7 (wz.heap.size + 1) gn (fun _ => false) ∧ (∀ v, cU mg (fun _ => false) v gn = cR mg v (I.drop 0)) ∧ Below wz.heap.size wz w7) :=
        ⟨hst6.below hb7, hrb7, fun v => by rw [List.drop_zero, ← cR_range, cR_perm hperm], hb6.trans (hb7.mono hb6.size)⟩
      have hz8 := zero_a8 wz
      have hmk := mkB gn (by omega) w6
      rw [hz6, ← hw7, hw6] at hmk
      clear hb6 hb7 hst6 hrb7 hsm hI hA hheld hYZ hperm hh0 hh1 hlen HF hz6
      go_wp2
      rw [← hw6, ← hw7]
      clear hw6 hw7 hz8 hmk
      go_loopw [18] (fun u18 wr => ∃ (t : Nat) (U : Nat → Bool), t ≤ gn ∧ u18 = .int .i64 (t : Nat) ∧ Stc wr wz.heap.size (ntL .u16 mg (I.take t)) ∧ RwB wr (wz.heap.size + 1) gn U ∧ (∀ v, cU mg U v gn = cR mg v (I.drop t)) ∧ Below wz.heap.size wz wr) (fun u18 _ => gn - (intOf u18).toNat)
      case atStart => exact ⟨0, _, by omega, rfl, H7.out⟩
      case round =>
        obtain ⟨t, U, htM, rfl, hnx, hrb, hcu, hbz⟩ := hrel
        clear H7
        obtain ⟨M, hMg⟩ : ∃ M, M = gn := ⟨_, rfl⟩
        subst hMg
        by_cases ht : t < M
        · have ht1 : (t : Int) < (M : Int) := by omega
          obtain ⟨x, hx⟩ : ∃ x, I[t]? = some x := ⟨_, List.getElem?_eq_getElem (by have := HLEN.out; omega)⟩
          have hxM : x < M := (HI.out.t2 x (List.mem_of_getElem? hx)).1
          have hx8 := HC.out.ct.F.st8 x hxM
          have hxz := (HC.out.mb x hxM).2.2
          have htake : I.take (t + 1) = I.take t ++ [x] := by rw [List.take_add_one, hx]; rfl
          obtain ⟨tg, xa, xc, hga, htg1, htg2, htc, hcell, hsx⟩ := HGOT.out.getK (k := t) (m := mg x) (by rw [List.getElem?_map, hx]; rfl) (by omega)
          subst hga
          obtain ⟨xst, hxst⟩ : ∃ xst, xst = (mg x).st := ⟨_, rfl⟩
          obtain ⟨q, hq⟩ : ∃ q, q = (mg x).ss := ⟨_, rfl⟩
          obtain ⟨xpp, hxpp⟩ : ∃ xpp, xpp = (mg x).pp := ⟨_, rfl⟩
          obtain ⟨xn, hxn⟩ : ∃ xn, xn = (mg x).zs.length := ⟨_, rfl⟩
          obtain ⟨xfr, hxf⟩ : ∃ xfr, xfr = (mg x).fr := ⟨_, rfl⟩
          have e0 := hcell 0 _ rfl
          have e1 := hcell 1 _ rfl
          have e2 := hcell 2 _ rfl
          have e3 := hcell 3 _ rfl
          have e4 := hcell 4 _ rfl
          rw [Nat.add_zero, ← hxst] at e0
          rw [← hq] at e1
          rw [← hxpp] at e2
          rw [← hxf] at e3
          rw [← hxn] at e4
          have HE : Hid (∀ V, Below wz.heap.size wz V → V.cell? ⟨tg, t * 5, none⟩ = some (.int .u16 (xst : Nat)) ∧ V.cell? ⟨tg, t * 5 + 1, none⟩ = some (.int .u16 (q : Nat)) ∧ V.cell? ⟨tg, t * 5 + 2, none⟩ = some (.int .u32 (xpp : Nat)) ∧ V.cell? ⟨tg, t * 5 + 3, none⟩ = some (.bool xfr) ∧ V.cell? ⟨tg, t * 5 + 4, none⟩ = some (.slice xa xn xc)) := fun V hV =>
            ⟨(hV.cell (p := ⟨tg, t * 5, none⟩) htg2).trans e0, (hV.cell (p := ⟨tg, t * 5 + 1, none⟩) htg2).trans e1, (hV.cell (p := ⟨tg, t * 5 + 2, none⟩) htg2).trans e2, (hV.cell (p := ⟨tg, t * 5 + 3, none⟩) htg2).trans e3, (hV.cell (p := ⟨tg, t * 5 + 4, none⟩) htg2).trans e4⟩
          have HSX : Hid (∀ V, Below wz.heap.size wz V → Sl V xa (mg x).zs.length xc (mg x).zs) := fun V hV => hsx.below hV
          have HX : Hid (x < M ∧ xst = (mg x).st ∧ q = (mg x).ss ∧ xpp = (mg x).pp ∧ xn = (mg x).zs.length ∧ (mg x).fr = xfr) := ⟨hxM, hxst, hq, hxpp, hxn, hxf.symm⟩
          have HXI := (show Hid _ from hx)
          have HCU := (show Hid _ from hcu)
          rw [← hxst] at hx8
          clear e0 e1 e2 e3 e4 hcell hsx hcu
          cases xfr with
          | true =>
                obtain ⟨wk, hwk⟩ : ∃ wk, wk = wr := ⟨_, rfl⟩
                subst hwk
                have HNW : Hid (Stc wk wz.heap.size (ntL .u16 mg (I.take (t + 1)))) := by
                  show Stc _ _ _
                  rw [htake, nt_free hxf.symm]
                  exact hnx
                have HUW := (show Hid _ from hrb)
                have HBZ := (show Hid _ from hbz)
                have e3 := (HE.out wk hbz).2.2.2.1
                clear hnx hrb hbz htake hxst hq hxpp hxn hxf hx
                go_wp2
                clear e3
                go_loopw [19, 20] (fun u19 u20 wr => ∃ (k : Nat) (fd : Bool), k ≤ M ∧ u19 = .bool fd ∧ u20 = .int .i64 (k : Nat) ∧ ((fd = false ∧ (∀ k', k' < k → ¬ (U k' = false ∧ mg k' = mg x)) ∧ Below wk.heap.size wk wr) ∨ (fd = true ∧ ∃ kk, kk < M ∧ U kk = false ∧ mg kk = mg x ∧ Stc wr wz.heap.size (ntL .u16 mg (I.take (t + 1))) ∧ RwB wr (wz.heap.size + 1) M (fun i => if i = kk then true else U i) ∧ Below wz.heap.size wz wr))) (fun _ u20 _ => M - (intOf u20).toNat)
                case atStart => exact ⟨0, false, by omega, rfl, rfl, .inl ⟨rfl, fun k' hk' => by omega, Below.refl _ _⟩⟩
                case round =>
                  obtain ⟨k, fd, hkM, rfl, rfl, hR⟩ := hrel
                  rcases hR with ⟨rfl, hno, hbw⟩ | ⟨rfl, kk, hkk, hUkk, hmk, hnx, hrb, hbz⟩
                  · have HBW := (show Hid _ from hbw)
                    have HNO := (show Hid _ from hno)
                    clear hbw hno
                    by_cases hk : k < M
                    · have hk1 : (k : Int) < (M : Int) := by omega
                      obtain ⟨mb, ja, jc, hma, hmb1, hmb2, hmc, hcj, hsj⟩ := HC.out.ms.getK hk
                      subst hma
                      obtain ⟨jst, hjst⟩ : ∃ jst, jst = (mg k).st := ⟨_, rfl⟩
                      obtain ⟨jss, hjss⟩ : ∃ jss, jss = (mg k).ss := ⟨_, rfl⟩
                      obtain ⟨jpp, hjpp⟩ : ∃ jpp, jpp = (mg k).pp := ⟨_, rfl⟩
                      obtain ⟨jn, hjn⟩ : ∃ jn, jn = (mg k).zs.length := ⟨_, rfl⟩
                      obtain ⟨jfr, hjf⟩ : ∃ jfr, jfr = (mg k).fr := ⟨_, rfl⟩
                      have HLT : Hid (jst = (mg k).st ∧ jss = (mg k).ss ∧ jpp = (mg k).pp ∧ jn = (mg k).zs.length ∧ jfr = (mg k).fr) := ⟨hjst, hjss, hjpp, hjn, hjf⟩
                      have HSJ := (show Hid _ from hsj)
                      clear hjst hjss hjpp hjn hjf hsj
                      cases hUk : U k with
                      | true =>
                        have HKC : Hid (∀ V, Below wk.heap.size wk V → V.cell? ⟨mb, k * 5, none⟩ = some (.int .u16 (jst : Nat)) ∧ V.cell? ⟨mb, k * 5 + 1, none⟩ = some (.int .u16 (jss : Nat)) ∧ V.cell? ⟨mb, k * 5 + 2, none⟩ = some (.int .u32 (jpp : Nat)) ∧ V.cell? ⟨mb, k * 5 + 3, none⟩ = some (.bool jfr) ∧ V.cell? ⟨mb, k * 5 + 4, none⟩ = some (.slice ja jn jc) ∧ V.cell? ⟨tg, t * 5, none⟩ = some (.int .u16 (xst : Nat)) ∧ V.cell? ⟨tg, t * 5 + 1, none⟩ = some (.int .u16 (q : Nat)) ∧ V.cell? ⟨tg, t * 5 + 2, none⟩ = some (.int .u32 (xpp : Nat)) ∧ V.cell? ⟨tg, t * 5 + 3, none⟩ = some (.bool true) ∧ V.cell? ⟨tg, t * 5 + 4, none⟩ = some (.slice xa xn xc) ∧ V.cell? ⟨wz.heap.size + 1, k, none⟩ = some (.bool true)) := fun V hV => by
                          have hbz : Below wz.heap.size wz V := HBZ.out.trans (hV.mono HBZ.out.size)
                          have hb1 : Below W1.heap.size W1 V := HWZ.out.trans (hbz.mono HWZ.out.size)
                          have hc := fun i' u hu => (hb1.cell (p := ⟨mb, k * 5 + i', none⟩) hmb2).trans (hcj i' u hu)
                          obtain ⟨l1, l2, l3, l4, l5⟩ := HLT.out
                          have c0 := hc 0 _ rfl
                          have c1 := hc 1 _ rfl
                          have c2 := hc 2 _ rfl
                          have c3 := hc 3 _ rfl
                          have c4 := hc 4 _ rfl
                          rw [Nat.add_zero, ← l1] at c0
                          rw [← l2] at c1
                          rw [← l3] at c2
                          rw [← l5] at c3
                          rw [← l4] at c4
                          obtain ⟨x0, x1, x2, x3, x4⟩ := HE.out V hbz
                          exact ⟨c0, c1, c2, c3, c4, x0, x1, x2, x3, x4, by rw [← hUk]; exact (HUW.out.below hV).cell k hk⟩
                        have HUK := (show Hid _ from hUk)
                        clear hcj hUk
                        go_wp2_with fail
                        refine wp_region_fixW mixedX (fun V => Below wk.heap.size wk V) [(118, .slice (some ⟨(wz.heap.size + 1), 0, none⟩) M M), (119, .int .i64 (k : Nat)), (120, .pointer (some ⟨(wz.heap.size + 1), k, none⟩)), (121, .bool true), (122, .bool false), (123, .bool false), (124, undef), (125, undef), (126, undef), (127, undef), (128, undef), (129, undef), (130, undef), (131, undef), (132, undef), (133, .bool false)] ?Z1 ?hZ1 (by kernel_rfl) (by kernel_rfl) (by kernel_rfl) (by kernel_rfl) ?h01 ?hops1 ?he1
                        case hZ1 => simp only [List.foldl_cons, List.foldl_nil, List.setIfInBounds_toArray, List.set_cons_zero, List.set_cons_succ]; rfl
                        case h01 => exact HBW.out.drew
                        case hops1 =>
                          refine ⟨?_, ?_, ?_, ?_, ?_, ?_, ?_, ?_, ?_, ?_, ?_, ?_, ?_, ?_, ?_, ?_, trivial⟩
                          · exact fix_val (by rfl) (fun W hW => by have hc := HKC.out W hW; obtain ⟨d0, d1, d2, d3, d4, e0, e1, e2, e3, e4, u0⟩ := hc; go_simp; (try with_reducible rfl); (try omega))
                          · exact fix_val (by rfl) (fun W hW => by have hc := HKC.out W hW; obtain ⟨d0, d1, d2, d3, d4, e0, e1, e2, e3, e4, u0⟩ := hc; go_simp; (try with_reducible rfl); (try omega))
                          · exact fix_val (by rfl) (fun W hW => by have hc := HKC.out W hW; obtain ⟨d0, d1, d2, d3, d4, e0, e1, e2, e3, e4, u0⟩ := hc; go_simp; (try with_reducible rfl); (try omega))
                          · exact fix_val (by rfl) (fun W hW => by have hc := HKC.out W hW; obtain ⟨d0, d1, d2, d3, d4, e0, e1, e2, e3, e4, u0⟩ := hc; go_simp; (try with_reducible rfl); (try omega))
                          · exact fix_val (by rfl) (fun W hW => by have hc := HKC.out W hW; obtain ⟨d0, d1, d2, d3, d4, e0, e1, e2, e3, e4, u0⟩ := hc; go_simp; (try with_reducible rfl); (try omega))
                          · exact fix_val (by rfl) (fun W hW => by have hc := HKC.out W hW; obtain ⟨d0, d1, d2, d3, d4, e0, e1, e2, e3, e4, u0⟩ := hc; go_simp; (try with_reducible rfl); (try omega))
                          · exact fix_off (by rfl) (fun d hd => by cases hd; rfl)
                          · exact fix_off (by rfl) (fun d hd => by cases hd; rfl)
                          · exact fix_off (by rfl) (fun d hd => by cases hd; rfl)
                          · exact fix_off (by rfl) (fun d hd => by cases hd; rfl)
                          · exact fix_off (by rfl) (fun d hd => by cases hd; rfl)
                          · exact fix_off (by rfl) (fun d hd => by cases hd; rfl)
                          · exact fix_off (by rfl) (fun d hd => by cases hd; rfl)
                          · exact fix_off (by rfl) (fun d hd => by cases hd; rfl)
                          · exact fix_off (by rfl) (fun d hd => by cases hd; rfl)
                          · exact fix_val (by rfl) (fun W hW => by have hc := HKC.out W hW; obtain ⟨d0, d1, d2, d3, d4, e0, e1, e2, e3, e4, u0⟩ := hc; go_simp; (try with_reducible rfl); (try omega))
                        case he1 =>
                        intro V hV
                        have HV := (show Hid _ from hV)
                        clear hV HKC
                        go_wp2
                        go_roundw
                        case rel => exact ⟨k + 1, false, by omega, rfl, by go_num, .inl ⟨rfl, fun k' hk' => by
                          rcases Nat.lt_or_ge k' k with e | e
                          · exact HNO.out k' e
                          · have e2 : k' = k := by omega
                            subst e2
                            exact fun e3 => (by rw [HUK.out] at e3; cases e3.1), HV.out⟩⟩
                        case measure => simp [intOf]; omega
                      | false =>
                        have HKC : Hid (∀ V, Below wk.heap.size wk V → V.cell? ⟨mb, k * 5, none⟩ = some (.int .u16 (jst : Nat)) ∧ V.cell? ⟨mb, k * 5 + 1, none⟩ = some (.int .u16 (jss : Nat)) ∧ V.cell? ⟨mb, k * 5 + 2, none⟩ = some (.int .u32 (jpp : Nat)) ∧ V.cell? ⟨mb, k * 5 + 3, none⟩ = some (.bool jfr) ∧ V.cell? ⟨mb, k * 5 + 4, none⟩ = some (.slice ja jn jc) ∧ V.cell? ⟨tg, t * 5, none⟩ = some (.int .u16 (xst : Nat)) ∧ V.cell? ⟨tg, t * 5 + 1, none⟩ = some (.int .u16 (q : Nat)) ∧ V.cell? ⟨tg, t * 5 + 2, none⟩ = some (.int .u32 (xpp : Nat)) ∧ V.cell? ⟨tg, t * 5 + 3, none⟩ = some (.bool true) ∧ V.cell? ⟨tg, t * 5 + 4, none⟩ = some (.slice xa xn xc) ∧ V.cell? ⟨wz.heap.size + 1, k, none⟩ = some (.bool false)) := fun V hV => by
                          have hbz : Below wz.heap.size wz V := HBZ.out.trans (hV.mono HBZ.out.size)
                          have hb1 : Below W1.heap.size W1 V := HWZ.out.trans (hbz.mono HWZ.out.size)
                          have hc := fun i' u hu => (hb1.cell (p := ⟨mb, k * 5 + i', none⟩) hmb2).trans (hcj i' u hu)
                          obtain ⟨l1, l2, l3, l4, l5⟩ := HLT.out
                          have c0 := hc 0 _ rfl
                          have c1 := hc 1 _ rfl
                          have c2 := hc 2 _ rfl
                          have c3 := hc 3 _ rfl
                          have c4 := hc 4 _ rfl
                          rw [Nat.add_zero, ← l1] at c0
                          rw [← l2] at c1
                          rw [← l3] at c2
                          rw [← l5] at c3
                          rw [← l4] at c4
                          obtain ⟨x0, x1, x2, x3, x4⟩ := HE.out V hbz
                          exact ⟨c0, c1, c2, c3, c4, x0, x1, x2, x3, x4, by rw [← hUk]; exact (HUW.out.below hV).cell k hk⟩
                        have HUK := (show Hid _ from hUk)
                        clear hcj hUk
                        by_cases hmm : mg k = mg x
                        · have HMM := (show Hid _ from hmm)
                          clear hmm
                          have HSM : Hid (∀ V, Below wk.heap.size wk V → Calls Try.prog 15 #[.agg #[.int .u16 (jst : Nat), .int .u16 (jss : Nat), .int .u32 (jpp : Nat), .bool jfr, .slice ja jn jc], .agg #[.int .u16 (xst : Nat), .int .u16 (q : Nat), .int .u32 (xpp : Nat), .bool true, .slice xa xn xc]] V fun e w' => e = .returned (.bool true) ∧ Below wk.heap.size wk w') := fun V hV => by
                            obtain ⟨l1, l2, l3, l4, l5⟩ := HLT.out
                            obtain ⟨y1, y2, y3, y4, y5, y6⟩ := HX.out
                            have hbz : Below wz.heap.size wz V := HBZ.out.trans (hV.mono HBZ.out.size)
                            have hb1 : Below W1.heap.size W1 V := HWZ.out.trans (hbz.mono HWZ.out.size)
                            have hbV : Below w.heap.size w V := HC.out.bel.trans (hb1.mono HC.out.bel.size)
                            have := samemsg_any (mg k) (mg x) ja xa jc xc V (HSJ.out.below hbV) (HSX.out V hbz) (.agg #[.int .u16 (jst : Nat), .int .u16 (jss : Nat), .int .u32 (jpp : Nat), .bool jfr, .slice ja jn jc]) (.agg #[.int .u16 (xst : Nat), .int .u16 (q : Nat), .int .u32 (xpp : Nat), .bool true, .slice xa xn xc]) (by unfold Mg.v; rw [← l1, ← l2, ← l3, ← l4, ← l5]) (by unfold Mg.v; rw [← y2, ← y3, ← y4, ← y5, y6])
                            rw [decide_eq_true HMM.out] at this
                            refine this.mono ?_
                            rintro e w' ⟨rfl, hb⟩
                            exact ⟨rfl, hV.trans (hb.mono hV.size)⟩
                          go_wp2_with fail
                          refine wp_region_fixW mixedX (fun V => Below wk.heap.size wk V) [(118, .slice (some ⟨(wz.heap.size + 1), 0, none⟩) M M), (119, .int .i64 (k : Nat)), (120, .pointer (some ⟨(wz.heap.size + 1), k, none⟩)), (121, .bool false), (122, .bool true), (123, .bool true), (124, .slice (some ⟨mb, 0, none⟩) M mc), (125, .int .i64 (k : Nat)), (126, .pointer (some ⟨mb, k * 5, none⟩)), (127, .agg #[.int .u16 (jst : Nat), .int .u16 (jss : Nat), .int .u32 (jpp : Nat), .bool jfr, .slice ja jn jc]), (128, .slice (some ⟨tg, 0, none⟩) M gc), (129, .int .i64 (t : Nat)), (130, .pointer (some ⟨tg, t * 5, none⟩)), (131, .agg #[.int .u16 (xst : Nat), .int .u16 (q : Nat), .int .u32 (xpp : Nat), .bool true, .slice xa xn xc]), (132, .bool true), (133, .bool true)] ?Z2 ?hZ2 (by kernel_rfl) (by kernel_rfl) (by kernel_rfl) (by kernel_rfl) ?h02 ?hops2 ?he2
                          case hZ2 => simp only [List.foldl_cons, List.foldl_nil, List.setIfInBounds_toArray, List.set_cons_zero, List.set_cons_succ]; rfl
                          case h02 => exact HBW.out.drew
                          case hops2 =>
                            refine ⟨?_, ?_, ?_, ?_, ?_, ?_, ?_, ?_, ?_, ?_, ?_, ?_, ?_, ?_, ?_, ?_, trivial⟩
                            · exact fix_val (by rfl) (fun W hW => by have hc := HKC.out W hW; obtain ⟨d0, d1, d2, d3, d4, e0, e1, e2, e3, e4, u0⟩ := hc; go_simp; (try with_reducible rfl); (try omega))
                            · exact fix_val (by rfl) (fun W hW => by have hc := HKC.out W hW; obtain ⟨d0, d1, d2, d3, d4, e0, e1, e2, e3, e4, u0⟩ := hc; go_simp; (try with_reducible rfl); (try omega))
                            · exact fix_val (by rfl) (fun W hW => by have hc := HKC.out W hW; obtain ⟨d0, d1, d2, d3, d4, e0, e1, e2, e3, e4, u0⟩ := hc; go_simp; (try with_reducible rfl); (try omega))
                            · exact fix_val (by rfl) (fun W hW => by have hc := HKC.out W hW; obtain ⟨d0, d1, d2, d3, d4, e0, e1, e2, e3, e4, u0⟩ := hc; go_simp; (try with_reducible rfl); (try omega))
                            · exact fix_val (by rfl) (fun W hW => by have hc := HKC.out W hW; obtain ⟨d0, d1, d2, d3, d4, e0, e1, e2, e3, e4, u0⟩ := hc; go_simp; (try with_reducible rfl); (try omega))
                            · exact fix_val (by rfl) (fun W hW => by have hc := HKC.out W hW; obtain ⟨d0, d1, d2, d3, d4, e0, e1, e2, e3, e4, u0⟩ := hc; go_simp; (try with_reducible rfl); (try omega))
                            · exact fix_val (by rfl) (fun W hW => by have hc := HKC.out W hW; obtain ⟨d0, d1, d2, d3, d4, e0, e1, e2, e3, e4, u0⟩ := hc; go_simp; (try with_reducible rfl); (try omega))
                            · exact fix_val (by rfl) (fun W hW => by have hc := HKC.out W hW; obtain ⟨d0, d1, d2, d3, d4, e0, e1, e2, e3, e4, u0⟩ := hc; go_simp; (try with_reducible rfl); (try omega))
                            · exact fix_val (by rfl) (fun W hW => by have hc := HKC.out W hW; obtain ⟨d0, d1, d2, d3, d4, e0, e1, e2, e3, e4, u0⟩ := hc; go_simp; (try with_reducible rfl); (try omega))
                            · exact fix_val (by rfl) (fun W hW => by have hc := HKC.out W hW; obtain ⟨d0, d1, d2, d3, d4, e0, e1, e2, e3, e4, u0⟩ := hc; go_simp; (try with_reducible rfl); (try omega))
                            · exact fix_val (by rfl) (fun W hW => by have hc := HKC.out W hW; obtain ⟨d0, d1, d2, d3, d4, e0, e1, e2, e3, e4, u0⟩ := hc; go_simp; (try with_reducible rfl); (try omega))
                            · exact fix_val (by rfl) (fun W hW => by have hc := HKC.out W hW; obtain ⟨d0, d1, d2, d3, d4, e0, e1, e2, e3, e4, u0⟩ := hc; go_simp; (try with_reducible rfl); (try omega))
                            · exact fix_val (by rfl) (fun W hW => by have hc := HKC.out W hW; obtain ⟨d0, d1, d2, d3, d4, e0, e1, e2, e3, e4, u0⟩ := hc; go_simp; (try with_reducible rfl); (try omega))
                            · exact fix_val (by rfl) (fun W hW => by have hc := HKC.out W hW; obtain ⟨d0, d1, d2, d3, d4, e0, e1, e2, e3, e4, u0⟩ := hc; go_simp; (try with_reducible rfl); (try omega))
                            · exact fix_call (vs := [.agg #[.int .u16 (jst : Nat), .int .u16 (jss : Nat), .int .u32 (jpp : Nat), .bool jfr, .slice ja jn jc], .agg #[.int .u16 (xst : Nat), .int .u16 (q : Nat), .int .u32 (xpp : Nat), .bool true, .slice xa xn xc]]) (by rfl) rfl (by rfl) Try.func15 (by rfl) (by rfl) (fun W hW => by exact HSM.out W hW)
                            · exact fix_val (by rfl) (fun W hW => by have hc := HKC.out W hW; obtain ⟨d0, d1, d2, d3, d4, e0, e1, e2, e3, e4, u0⟩ := hc; go_simp; (try with_reducible rfl); (try omega))
                          case he2 =>
                          intro V hV
                          have u0 := ((HUW.out.below hV).cell k hk)
                          have u0f := ((HUW.out.below hV).free k)
                          have hul := (HUW.out.below hV).lt
                          have HN : Hid (Stc (V.setCell ⟨wz.heap.size + 1, k, none⟩ (.bool true)) wz.heap.size (ntL .u16 mg (I.take (t + 1))) ∧ RwB (V.setCell ⟨wz.heap.size + 1, k, none⟩ (.bool true)) (wz.heap.size + 1) M (fun i => if i = k then true else U i) ∧ Below wz.heap.size wz (V.setCell ⟨wz.heap.size + 1, k, none⟩ (.bool true))) :=
                            ⟨(HNW.out.below hV).fr (Fr.setCell (fun g => g = wz.heap.size + 1) V ⟨wz.heap.size + 1, k, none⟩ (.bool true) rfl) (by omega), (HUW.out.below hV).set k true hk (fun i hi => rfl), (HBZ.out.trans (hV.mono HBZ.out.size)).setCell (p := ⟨wz.heap.size + 1, k, none⟩) (by show _ ≤ wz.heap.size + 1; omega) _⟩
                          clear hV HKC HSM
                          go_wp2
                          go_roundw
                          case rel => exact ⟨k + 1, true, by omega, rfl, by go_num, .inr ⟨rfl, k, hk, HUK.out, HMM.out, HN.out⟩⟩
                          case measure => simp [intOf]; omega
                        · have HMM := (show Hid _ from hmm)
                          clear hmm
                          have HSM : Hid (∀ V, Below wk.heap.size wk V → Calls Try.prog 15 #[.agg #[.int .u16 (jst : Nat), .int .u16 (jss : Nat), .int .u32 (jpp : Nat), .bool jfr, .slice ja jn jc], .agg #[.int .u16 (xst : Nat), .int .u16 (q : Nat), .int .u32 (xpp : Nat), .bool true, .slice xa xn xc]] V fun e w' => e = .returned (.bool false) ∧ Below wk.heap.size wk w') := fun V hV => by
                            obtain ⟨l1, l2, l3, l4, l5⟩ := HLT.out
                            obtain ⟨y1, y2, y3, y4, y5, y6⟩ := HX.out
                            have hbz : Below wz.heap.size wz V := HBZ.out.trans (hV.mono HBZ.out.size)
                            have hb1 : Below W1.heap.size W1 V := HWZ.out.trans (hbz.mono HWZ.out.size)
                            have hbV : Below w.heap.size w V := HC.out.bel.trans (hb1.mono HC.out.bel.size)
                            have := samemsg_any (mg k) (mg x) ja xa jc xc V (HSJ.out.below hbV) (HSX.out V hbz) (.agg #[.int .u16 (jst : Nat), .int .u16 (jss : Nat), .int .u32 (jpp : Nat), .bool jfr, .slice ja jn jc]) (.agg #[.int .u16 (xst : Nat), .int .u16 (q : Nat), .int .u32 (xpp : Nat), .bool true, .slice xa xn xc]) (by unfold Mg.v; rw [← l1, ← l2, ← l3, ← l4, ← l5]) (by unfold Mg.v; rw [← y2, ← y3, ← y4, ← y5, y6])
                            rw [decide_eq_false HMM.out] at this
                            refine this.mono ?_
                            rintro e w' ⟨rfl, hb⟩
                            exact ⟨rfl, hV.trans (hb.mono hV.size)⟩
                          go_wp2_with fail
                          refine wp_region_fixW mixedX (fun V => Below wk.heap.size wk V) [(118, .slice (some ⟨(wz.heap.size + 1), 0, none⟩) M M), (119, .int .i64 (k : Nat)), (120, .pointer (some ⟨(wz.heap.size + 1), k, none⟩)), (121, .bool false), (122, .bool true), (123, .bool true), (124, .slice (some ⟨mb, 0, none⟩) M mc), (125, .int .i64 (k : Nat)), (126, .pointer (some ⟨mb, k * 5, none⟩)), (127, .agg #[.int .u16 (jst : Nat), .int .u16 (jss : Nat), .int .u32 (jpp : Nat), .bool jfr, .slice ja jn jc]), (128, .slice (some ⟨tg, 0, none⟩) M gc), (129, .int .i64 (t : Nat)), (130, .pointer (some ⟨tg, t * 5, none⟩)), (131, .agg #[.int .u16 (xst : Nat), .int .u16 (q : Nat), .int .u32 (xpp : Nat), .bool true, .slice xa xn xc]), (132, .bool false), (133, .bool false)] ?Z3 ?hZ3 (by kernel_rfl) (by kernel_rfl) (by kernel_rfl) (by kernel_rfl) ?h03 ?hops3 ?he3
                          case hZ3 => simp only [List.foldl_cons, List.foldl_nil, List.setIfInBounds_toArray, List.set_cons_zero, List.set_cons_succ]; rfl
                          case h03 => exact HBW.out.drew
                          case hops3 =>
                            refine ⟨?_, ?_, ?_, ?_, ?_, ?_, ?_, ?_, ?_, ?_, ?_, ?_, ?_, ?_, ?_, ?_, trivial⟩
                            · exact fix_val (by rfl) (fun W hW => by have hc := HKC.out W hW; obtain ⟨d0, d1, d2, d3, d4, e0, e1, e2, e3, e4, u0⟩ := hc; go_simp; (try with_reducible rfl); (try omega))
                            · exact fix_val (by rfl) (fun W hW => by have hc := HKC.out W hW; obtain ⟨d0, d1, d2, d3, d4, e0, e1, e2, e3, e4, u0⟩ := hc; go_simp; (try with_reducible rfl); (try omega))
                            · exact fix_val (by rfl) (fun W hW => by have hc := HKC.out W hW; obtain ⟨d0, d1, d2, d3, d4, e0, e1, e2, e3, e4, u0⟩ := hc; go_simp; (try with_reducible rfl); (try omega))
                            · exact fix_val (by rfl) (fun W hW => by have hc := HKC.out W hW; obtain ⟨d0, d1, d2, d3, d4, e0, e1, e2, e3, e4, u0⟩ := hc; go_simp; (try with_reducible rfl); (try omega))
                            · exact fix_val (by rfl) (fun W hW => by have hc := HKC.out W hW; obtain ⟨d0, d1, d2, d3, d4, e0, e1, e2, e3, e4, u0⟩ := hc; go_simp; (try with_reducible rfl); (try omega))
                            · exact fix_val (by rfl) (fun W hW => by have hc := HKC.out W hW; obtain ⟨d0, d1, d2, d3, d4, e0, e1, e2, e3, e4, u0⟩ := hc; go_simp; (try with_reducible rfl); (try omega))
                            · exact fix_val (by rfl) (fun W hW => by have hc := HKC.out W hW; obtain ⟨d0, d1, d2, d3, d4, e0, e1, e2, e3, e4, u0⟩ := hc; go_simp; (try with_reducible rfl); (try omega))
                            · exact fix_val (by rfl) (fun W hW => by have hc := HKC.out W hW; obtain ⟨d0, d1, d2, d3, d4, e0, e1, e2, e3, e4, u0⟩ := hc; go_simp; (try with_reducible rfl); (try omega))
                            · exact fix_val (by rfl) (fun W hW => by have hc := HKC.out W hW; obtain ⟨d0, d1, d2, d3, d4, e0, e1, e2, e3, e4, u0⟩ := hc; go_simp; (try with_reducible rfl); (try omega))
                            · exact fix_val (by rfl) (fun W hW => by have hc := HKC.out W hW; obtain ⟨d0, d1, d2, d3, d4, e0, e1, e2, e3, e4, u0⟩ := hc; go_simp; (try with_reducible rfl); (try omega))
                            · exact fix_val (by rfl) (fun W hW => by have hc := HKC.out W hW; obtain ⟨d0, d1, d2, d3, d4, e0, e1, e2, e3, e4, u0⟩ := hc; go_simp; (try with_reducible rfl); (try omega))
                            · exact fix_val (by rfl) (fun W hW => by have hc := HKC.out W hW; obtain ⟨d0, d1, d2, d3, d4, e0, e1, e2, e3, e4, u0⟩ := hc; go_simp; (try with_reducible rfl); (try omega))
                            · exact fix_val (by rfl) (fun W hW => by have hc := HKC.out W hW; obtain ⟨d0, d1, d2, d3, d4, e0, e1, e2, e3, e4, u0⟩ := hc; go_simp; (try with_reducible rfl); (try omega))
                            · exact fix_val (by rfl) (fun W hW => by have hc := HKC.out W hW; obtain ⟨d0, d1, d2, d3, d4, e0, e1, e2, e3, e4, u0⟩ := hc; go_simp; (try with_reducible rfl); (try omega))
                            · exact fix_call (vs := [.agg #[.int .u16 (jst : Nat), .int .u16 (jss : Nat), .int .u32 (jpp : Nat), .bool jfr, .slice ja jn jc], .agg #[.int .u16 (xst : Nat), .int .u16 (q : Nat), .int .u32 (xpp : Nat), .bool true, .slice xa xn xc]]) (by rfl) rfl (by rfl) Try.func15 (by rfl) (by rfl) (fun W hW => by exact HSM.out W hW)
                            · exact fix_val (by rfl) (fun W hW => by have hc := HKC.out W hW; obtain ⟨d0, d1, d2, d3, d4, e0, e1, e2, e3, e4, u0⟩ := hc; go_simp; (try with_reducible rfl); (try omega))
                          case he3 =>
                          intro V hV
                          have HV := (show Hid _ from hV)
                          clear hV HKC HSM
                          go_wp2
                          go_roundw
                          case rel => exact ⟨k + 1, false, by omega, rfl, by go_num, .inl ⟨rfl, fun k' hk' => by
                            rcases Nat.lt_or_ge k' k with e | e
                            · exact HNO.out k' e
                            · have e2 : k' = k := by omega
                              subst e2
                              exact fun e3 => HMM.out e3.2, HV.out⟩⟩
                          case measure => simp [intOf]; omega
                    · exfalso
                      obtain ⟨k', a1, a2, a3⟩ := cU_find (mg := mg) (U := U) (v := mg x) M (by rw [HCU.out, cR_drop HXI.out, if_pos rfl]; omega)
                      exact HNO.out k' (by omega) ⟨a2, a3⟩
                  · have HN : Hid (Stc wr wz.heap.size (ntL .u16 mg (I.take (t + 1))) ∧ RwB wr (wz.heap.size + 1) M (fun i => if i = kk then true else U i) ∧ (∀ v, cU mg (fun i => if i = kk then true else U i) v M = cR mg v (I.drop (t + 1))) ∧ Below wz.heap.size wz wr) := by
                      refine ⟨hnx, hrb, fun v => ?_, hbz⟩
                      have e1 := HCU.out v
                      rw [cU_set hUkk, cR_drop HXI.out, hmk] at e1
                      by_cases e2 : mg x = v
                      · rw [if_pos ⟨hkk, e2⟩, if_pos e2] at e1; omega
                      · rw [if_neg (fun e => e2 e.2), if_neg e2] at e1; omega
                    clear hnx hrb hbz
                    by_cases hk : k < M
                    · have hk1 : (k : Int) < (M : Int) := by omega
                      go_wp2
                      go_roundw
                      case rel => exact ⟨t + 1, _, by omega, by go_num, HN.out⟩
                      case measure => simp [intOf]; omega
                    · have hk1 : ¬ (k : Int) < (M : Int) := by omega
                      go_wp2
                      go_roundw
                      case rel => exact ⟨t + 1, _, by omega, by go_num, HN.out⟩
                      case measure => simp [intOf]; omega
          | false =>
                have hss : q = tldN mg (I.take t) xst := by
                  have h1 : (mg x).ss = tldN mg ([] ++ I.take t) (mg x).st := tld_next (I := []) (J := I) HI.out hx hxf.symm (by rw [← hxst]; exact hx8)
                  rw [List.nil_append] at h1
                  rw [hq, h1, hxst]
                have hqb : q < 128 := by rw [hq]; exact HC.out.ct.F.sb x hxM
                obtain ⟨wt, hwt⟩ : ∃ wt, wt = wr := ⟨_, rfl⟩
                subst hwt
                have q0 := hnx.cell xst _ (nt_at .u16 mg (I.take t) xst hx8)
                rw [← hss] at q0
                have q0f := hnx.free xst
                have hxl := hnx.lt
                have e3 := (HE.out wt hbz).2.2.2.1
                have HBZ0 := (show Hid _ from hbz)
                have HQ0 : Hid (∀ V, Below wt.heap.size wt V → V.cell? ⟨wz.heap.size, xst, none⟩ = some (.int .u16 (q : Nat))) := fun V hV => (hV.cell (p := ⟨wz.heap.size, xst, none⟩) hxl).trans q0
                have HE0 := (show Hid _ from HE.out)
                have HNX1 : Hid (∀ V, Below wt.heap.size wt V → Stc (V.setCell ⟨wz.heap.size, xst, none⟩ (.int .u16 ((q + 1 : Nat) : Int))) wz.heap.size (ntL .u16 mg (I.take (t + 1))) ∧ RwB (V.setCell ⟨wz.heap.size, xst, none⟩ (.int .u16 ((q + 1 : Nat) : Int))) (wz.heap.size + 1) M U ∧ Below wz.heap.size wz (V.setCell ⟨wz.heap.size, xst, none⟩ (.int .u16 ((q + 1 : Nat) : Int)))) := fun V hV => by
                  refine ⟨?_, (hrb.below hV).fr (Fr.setCell (fun g => g = wz.heap.size) V ⟨wz.heap.size, xst, none⟩ (.int .u16 ((q + 1 : Nat) : Int)) rfl) (by omega), (hbz.trans (hV.mono hbz.size)).setCell (p := ⟨wz.heap.size, xst, none⟩) (Nat.le_refl _) _⟩
                  rw [htake, nt_turn hxf.symm (by rw [← hxst]; exact hx8) (.int .u16 ((q + 1 : Nat) : Int)) (by rw [← hxst, ← hss]), ← hxst]
                  exact (hnx.below hV).set xst _
                clear hnx hrb hbz htake hxst hq hxpp hxn hxf hx hss HE
                have HE : Hid (∀ V, Below wt.heap.size wt V → V.cell? ⟨tg, t * 5, none⟩ = some (.int .u16 (xst : Nat)) ∧ V.cell? ⟨tg, t * 5 + 1, none⟩ = some (.int .u16 (q : Nat)) ∧ V.cell? ⟨tg, t * 5 + 2, none⟩ = some (.int .u32 (xpp : Nat)) ∧ V.cell? ⟨tg, t * 5 + 3, none⟩ = some (.bool false) ∧ V.cell? ⟨tg, t * 5 + 4, none⟩ = some (.slice xa xn xc)) := fun V hV => HE0.out V (HBZ0.out.trans (hV.mono HBZ0.out.size))
                go_wp2_with fail
                refine wp_region_fixW mixedX (fun V => Below wt.heap.size wt V) [(86, .slice (some ⟨tg, 0, none⟩) M gc), (87, .int .i64 (t : Nat)), (88, .pointer (some ⟨tg, t * 5, none⟩)), (89, .pointer (some ⟨tg, t * 5 + 1, none⟩)), (90, .int .u16 (q : Nat)), (91, .slice (some ⟨tg, 0, none⟩) M gc), (92, .int .i64 (t : Nat)), (93, .pointer (some ⟨tg, t * 5, none⟩)), (94, .pointer (some ⟨tg, t * 5, none⟩)), (95, .int .u16 (xst : Nat)), (96, .pointer (some ⟨wz.heap.size, xst, none⟩)), (97, .int .u16 (q : Nat)), (98, .bool false)] ?Z7 ?hZ7 (by kernel_rfl) (by kernel_rfl) (by kernel_rfl) (by kernel_rfl) ?h07 ?hops7 ?he7
                case hZ7 => simp only [List.foldl_cons, List.foldl_nil, List.setIfInBounds_toArray, List.set_cons_zero, List.set_cons_succ]; rfl
                case h07 => exact (Below.refl _ _).drew
                case hops7 =>
                  refine ⟨?_, ?_, ?_, ?_, ?_, ?_, ?_, ?_, ?_, ?_, ?_, ?_, ?_, trivial⟩
                  · exact fix_val (by rfl) (fun W hW => by have hc := HE.out W hW; obtain ⟨e0, e1, e2, e3, e4⟩ := hc; have q0 := HQ0.out W hW; go_simp; (try with_reducible rfl); (try omega))
                  · exact fix_val (by rfl) (fun W hW => by have hc := HE.out W hW; obtain ⟨e0, e1, e2, e3, e4⟩ := hc; have q0 := HQ0.out W hW; go_simp; (try with_reducible rfl); (try omega))
                  · exact fix_val (by rfl) (fun W hW => by have hc := HE.out W hW; obtain ⟨e0, e1, e2, e3, e4⟩ := hc; have q0 := HQ0.out W hW; go_simp; (try with_reducible rfl); (try omega))
                  · exact fix_val (by rfl) (fun W hW => by have hc := HE.out W hW; obtain ⟨e0, e1, e2, e3, e4⟩ := hc; have q0 := HQ0.out W hW; go_simp; (try with_reducible rfl); (try omega))
                  · exact fix_val (by rfl) (fun W hW => by have hc := HE.out W hW; obtain ⟨e0, e1, e2, e3, e4⟩ := hc; have q0 := HQ0.out W hW; go_simp; (try with_reducible rfl); (try omega))
                  · exact fix_val (by rfl) (fun W hW => by have hc := HE.out W hW; obtain ⟨e0, e1, e2, e3, e4⟩ := hc; have q0 := HQ0.out W hW; go_simp; (try with_reducible rfl); (try omega))
                  · exact fix_val (by rfl) (fun W hW => by have hc := HE.out W hW; obtain ⟨e0, e1, e2, e3, e4⟩ := hc; have q0 := HQ0.out W hW; go_simp; (try with_reducible rfl); (try omega))
                  · exact fix_val (by rfl) (fun W hW => by have hc := HE.out W hW; obtain ⟨e0, e1, e2, e3, e4⟩ := hc; have q0 := HQ0.out W hW; go_simp; (try with_reducible rfl); (try omega))
                  · exact fix_val (by rfl) (fun W hW => by have hc := HE.out W hW; obtain ⟨e0, e1, e2, e3, e4⟩ := hc; have q0 := HQ0.out W hW; go_simp; (try with_reducible rfl); (try omega))
                  · exact fix_val (by rfl) (fun W hW => by have hc := HE.out W hW; obtain ⟨e0, e1, e2, e3, e4⟩ := hc; have q0 := HQ0.out W hW; go_simp; (try with_reducible rfl); (try omega))
                  · exact fix_val (by rfl) (fun W hW => by have hc := HE.out W hW; obtain ⟨e0, e1, e2, e3, e4⟩ := hc; have q0 := HQ0.out W hW; go_simp; (try with_reducible rfl); (try omega))
                  · exact fix_val (by rfl) (fun W hW => by have hc := HE.out W hW; obtain ⟨e0, e1, e2, e3, e4⟩ := hc; have q0 := HQ0.out W hW; go_simp; (try with_reducible rfl); (try omega))
                  · exact fix_val (by rfl) (fun W hW => by have hc := HE.out W hW; obtain ⟨e0, e1, e2, e3, e4⟩ := hc; have q0 := HQ0.out W hW; go_simp; (try with_reducible rfl); (try omega))
                case he7 =>
                intro V hV
                clear e3 q0
                have e0 := (HE.out V hV).1
                have q0 := HQ0.out V hV
                have q0f2 : V.frozen? ⟨wz.heap.size, xst, none⟩ = false := ((Fr.of_below (P := fun _ => False) hV).frozen ⟨wz.heap.size, xst, none⟩ hxl (fun e => e)).trans q0f
                have hxl2 : wz.heap.size < V.heap.size := Nat.lt_of_lt_of_le hxl hV.size
                obtain ⟨q2, hq2⟩ : ∃ q2, q2 = q + 1 := ⟨_, rfl⟩
                have hq2I : (q : Int) + 1 = (q2 : Int) := by omega
                obtain ⟨wk, hwk⟩ : ∃ wk, wk = V.setCell ⟨wz.heap.size, xst, none⟩ (.int .u16 (q2 : Nat)) := ⟨_, rfl⟩
                obtain ⟨hn1, hn2, hn3⟩ := HNX1.out V hV
                rw [← hq2, ← hwk] at hn1 hn2 hn3
                have HNW := (show Hid _ from hn1)
                have HUW := (show Hid _ from hn2)
                have HBZ := (show Hid _ from hn3)
                clear hn1 hn2 hn3 hq2 HE HNX1 HQ0 hV
                have HE := (show Hid _ from HE0.out)
                clear HE0
                go_wp2
                rw [← hwk]
                clear hwk e0 q0 q0f q0f2 hq2I
                go_wp2
                go_loopw [19, 20] (fun u19 u20 wr => ∃ (k : Nat) (fd : Bool), k ≤ M ∧ u19 = .bool fd ∧ u20 = .int .i64 (k : Nat) ∧ ((fd = false ∧ (∀ k', k' < k → ¬ (U k' = false ∧ mg k' = mg x)) ∧ Below wk.heap.size wk wr) ∨ (fd = true ∧ ∃ kk, kk < M ∧ U kk = false ∧ mg kk = mg x ∧ Stc wr wz.heap.size (ntL .u16 mg (I.take (t + 1))) ∧ RwB wr (wz.heap.size + 1) M (fun i => if i = kk then true else U i) ∧ Below wz.heap.size wz wr))) (fun _ u20 _ => M - (intOf u20).toNat)
                case atStart => exact ⟨0, false, by omega, rfl, rfl, .inl ⟨rfl, fun k' hk' => by omega, Below.refl _ _⟩⟩
                case round =>
                  obtain ⟨k, fd, hkM, rfl, rfl, hR⟩ := hrel
                  rcases hR with ⟨rfl, hno, hbw⟩ | ⟨rfl, kk, hkk, hUkk, hmk, hnx, hrb, hbz⟩
                  · have HBW := (show Hid _ from hbw)
                    have HNO := (show Hid _ from hno)
                    clear hbw hno
                    by_cases hk : k < M
                    · have hk1 : (k : Int) < (M : Int) := by omega
                      obtain ⟨mb, ja, jc, hma, hmb1, hmb2, hmc, hcj, hsj⟩ := HC.out.ms.getK hk
                      subst hma
                      obtain ⟨jst, hjst⟩ : ∃ jst, jst = (mg k).st := ⟨_, rfl⟩
                      obtain ⟨jss, hjss⟩ : ∃ jss, jss = (mg k).ss := ⟨_, rfl⟩
                      obtain ⟨jpp, hjpp⟩ : ∃ jpp, jpp = (mg k).pp := ⟨_, rfl⟩
                      obtain ⟨jn, hjn⟩ : ∃ jn, jn = (mg k).zs.length := ⟨_, rfl⟩
                      obtain ⟨jfr, hjf⟩ : ∃ jfr, jfr = (mg k).fr := ⟨_, rfl⟩
                      have HLT : Hid (jst = (mg k).st ∧ jss = (mg k).ss ∧ jpp = (mg k).pp ∧ jn = (mg k).zs.length ∧ jfr = (mg k).fr) := ⟨hjst, hjss, hjpp, hjn, hjf⟩
                      have HSJ := (show Hid _ from hsj)
                      clear hjst hjss hjpp hjn hjf hsj
                      cases hUk : U k with
                      | true =>
                        have HKC : Hid (∀ V, Below wk.heap.size wk V → V.cell? ⟨mb, k * 5, none⟩ = some (.int .u16 (jst : Nat)) ∧ V.cell? ⟨mb, k * 5 + 1, none⟩ = some (.int .u16 (jss : Nat)) ∧ V.cell? ⟨mb, k * 5 + 2, none⟩ = some (.int .u32 (jpp : Nat)) ∧ V.cell? ⟨mb, k * 5 + 3, none⟩ = some (.bool jfr) ∧ V.cell? ⟨mb, k * 5 + 4, none⟩ = some (.slice ja jn jc) ∧ V.cell? ⟨tg, t * 5, none⟩ = some (.int .u16 (xst : Nat)) ∧ V.cell? ⟨tg, t * 5 + 1, none⟩ = some (.int .u16 (q : Nat)) ∧ V.cell? ⟨tg, t * 5 + 2, none⟩ = some (.int .u32 (xpp : Nat)) ∧ V.cell? ⟨tg, t * 5 + 3, none⟩ = some (.bool false) ∧ V.cell? ⟨tg, t * 5 + 4, none⟩ = some (.slice xa xn xc) ∧ V.cell? ⟨wz.heap.size + 1, k, none⟩ = some (.bool true)) := fun V hV => by
                          have hbz : Below wz.heap.size wz V := HBZ.out.trans (hV.mono HBZ.out.size)
                          have hb1 : Below W1.heap.size W1 V := HWZ.out.trans (hbz.mono HWZ.out.size)
                          have hc := fun i' u hu => (hb1.cell (p := ⟨mb, k * 5 + i', none⟩) hmb2).trans (hcj i' u hu)
                          obtain ⟨l1, l2, l3, l4, l5⟩ := HLT.out
                          have c0 := hc 0 _ rfl
                          have c1 := hc 1 _ rfl
                          have c2 := hc 2 _ rfl
                          have c3 := hc 3 _ rfl
                          have c4 := hc 4 _ rfl
                          rw [Nat.add_zero, ← l1] at c0
                          rw [← l2] at c1
                          rw [← l3] at c2
                          rw [← l5] at c3
                          rw [← l4] at c4
                          obtain ⟨x0, x1, x2, x3, x4⟩ := HE.out V hbz
                          exact ⟨c0, c1, c2, c3, c4, x0, x1, x2, x3, x4, by rw [← hUk]; exact (HUW.out.below hV).cell k hk⟩
                        have HUK := (show Hid _ from hUk)
                        clear hcj hUk
                        go_wp2_with fail
                        refine wp_region_fixW mixedX (fun V => Below wk.heap.size wk V) [(118, .slice (some ⟨(wz.heap.size + 1), 0, none⟩) M M), (119, .int .i64 (k : Nat)), (120, .pointer (some ⟨(wz.heap.size + 1), k, none⟩)), (121, .bool true), (122, .bool false), (123, .bool false), (124, undef), (125, undef), (126, undef), (127, undef), (128, undef), (129, undef), (130, undef), (131, undef), (132, undef), (133, .bool false)] ?Z4 ?hZ4 (by kernel_rfl) (by kernel_rfl) (by kernel_rfl) (by kernel_rfl) ?h04 ?hops4 ?he4
                        case hZ4 => simp only [List.foldl_cons, List.foldl_nil, List.setIfInBounds_toArray, List.set_cons_zero, List.set_cons_succ]; rfl
                        case h04 => exact HBW.out.drew
                        case hops4 =>
                          refine ⟨?_, ?_, ?_, ?_, ?_, ?_, ?_, ?_, ?_, ?_, ?_, ?_, ?_, ?_, ?_, ?_, trivial⟩
                          · exact fix_val (by rfl) (fun W hW => by have hc := HKC.out W hW; obtain ⟨d0, d1, d2, d3, d4, e0, e1, e2, e3, e4, u0⟩ := hc; go_simp; (try with_reducible rfl); (try omega))
                          · exact fix_val (by rfl) (fun W hW => by have hc := HKC.out W hW; obtain ⟨d0, d1, d2, d3, d4, e0, e1, e2, e3, e4, u0⟩ := hc; go_simp; (try with_reducible rfl); (try omega))
                          · exact fix_val (by rfl) (fun W hW => by have hc := HKC.out W hW; obtain ⟨d0, d1, d2, d3, d4, e0, e1, e2, e3, e4, u0⟩ := hc; go_simp; (try with_reducible rfl); (try omega))
                          · exact fix_val (by rfl) (fun W hW => by have hc := HKC.out W hW; obtain ⟨d0, d1, d2, d3, d4, e0, e1, e2, e3, e4, u0⟩ := hc; go_simp; (try with_reducible rfl); (try omega))
                          · exact fix_val (by rfl) (fun W hW => by have hc := HKC.out W hW; obtain ⟨d0, d1, d2, d3, d4, e0, e1, e2, e3, e4, u0⟩ := hc; go_simp; (try with_reducible rfl); (try omega))
                          · exact fix_val (by rfl) (fun W hW => by have hc := HKC.out W hW; obtain ⟨d0, d1, d2, d3, d4, e0, e1, e2, e3, e4, u0⟩ := hc; go_simp; (try with_reducible rfl); (try omega))
                          · exact fix_off (by rfl) (fun d hd => by cases hd; rfl)
                          · exact fix_off (by rfl) (fun d hd => by cases hd; rfl)
                          · exact fix_off (by rfl) (fun d hd => by cases hd; rfl)
                          · exact fix_off (by rfl) (fun d hd => by cases hd; rfl)
                          · exact fix_off (by rfl) (fun d hd => by cases hd; rfl)
                          · exact fix_off (by rfl) (fun d hd => by cases hd; rfl)
                          · exact fix_off (by rfl) (fun d hd => by cases hd; rfl)
                          · exact fix_off (by rfl) (fun d hd => by cases hd; rfl)
                          · exact fix_off (by rfl) (fun d hd => by cases hd; rfl)
                          · exact fix_val (by rfl) (fun W hW => by have hc := HKC.out W hW; obtain ⟨d0, d1, d2, d3, d4, e0, e1, e2, e3, e4, u0⟩ := hc; go_simp; (try with_reducible rfl); (try omega))
                        case he4 =>
                        intro V hV
                        have HV := (show Hid _ from hV)
                        clear hV HKC
                        go_wp2
                        go_roundw
                        case rel => exact ⟨k + 1, false, by omega, rfl, by go_num, .inl ⟨rfl, fun k' hk' => by
                          rcases Nat.lt_or_ge k' k with e | e
                          · exact HNO.out k' e
                          · have e2 : k' = k := by omega
                            subst e2
                            exact fun e3 => (by rw [HUK.out] at e3; cases e3.1), HV.out⟩⟩
                        case measure => simp [intOf]; omega
                      | false =>
                        have HKC : Hid (∀ V, Below wk.heap.size wk V → V.cell? ⟨mb, k * 5, none⟩ = some (.int .u16 (jst : Nat)) ∧ V.cell? ⟨mb, k * 5 + 1, none⟩ = some (.int .u16 (jss : Nat)) ∧ V.cell? ⟨mb, k * 5 + 2, none⟩ = some (.int .u32 (jpp : Nat)) ∧ V.cell? ⟨mb, k * 5 + 3, none⟩ = some (.bool jfr) ∧ V.cell? ⟨mb, k * 5 + 4, none⟩ = some (.slice ja jn jc) ∧ V.cell? ⟨tg, t * 5, none⟩ = some (.int .u16 (xst : Nat)) ∧ V.cell? ⟨tg, t * 5 + 1, none⟩ = some (.int .u16 (q : Nat)) ∧ V.cell? ⟨tg, t * 5 + 2, none⟩ = some (.int .u32 (xpp : Nat)) ∧ V.cell? ⟨tg, t * 5 + 3, none⟩ = some (.bool false) ∧ V.cell? ⟨tg, t * 5 + 4, none⟩ = some (.slice xa xn xc) ∧ V.cell? ⟨wz.heap.size + 1, k, none⟩ = some (.bool false)) := fun V hV => by
                          have hbz : Below wz.heap.size wz V := HBZ.out.trans (hV.mono HBZ.out.size)
                          have hb1 : Below W1.heap.size W1 V := HWZ.out.trans (hbz.mono HWZ.out.size)
                          have hc := fun i' u hu => (hb1.cell (p := ⟨mb, k * 5 + i', none⟩) hmb2).trans (hcj i' u hu)
                          obtain ⟨l1, l2, l3, l4, l5⟩ := HLT.out
                          have c0 := hc 0 _ rfl
                          have c1 := hc 1 _ rfl
                          have c2 := hc 2 _ rfl
                          have c3 := hc 3 _ rfl
                          have c4 := hc 4 _ rfl
                          rw [Nat.add_zero, ← l1] at c0
                          rw [← l2] at c1
                          rw [← l3] at c2
                          rw [← l5] at c3
                          rw [← l4] at c4
                          obtain ⟨x0, x1, x2, x3, x4⟩ := HE.out V hbz
                          exact ⟨c0, c1, c2, c3, c4, x0, x1, x2, x3, x4, by rw [← hUk]; exact (HUW.out.below hV).cell k hk⟩
                        have HUK := (show Hid _ from hUk)
                        clear hcj hUk
                        by_cases hmm : mg k = mg x
                        · have HMM := (show Hid _ from hmm)
                          clear hmm
                          have HSM : Hid (∀ V, Below wk.heap.size wk V → Calls Try.prog 15 #[.agg #[.int .u16 (jst : Nat), .int .u16 (jss : Nat), .int .u32 (jpp : Nat), .bool jfr, .slice ja jn jc], .agg #[.int .u16 (xst : Nat), .int .u16 (q : Nat), .int .u32 (xpp : Nat), .bool false, .slice xa xn xc]] V fun e w' => e = .returned (.bool true) ∧ Below wk.heap.size wk w') := fun V hV => by
                            obtain ⟨l1, l2, l3, l4, l5⟩ := HLT.out
                            obtain ⟨y1, y2, y3, y4, y5, y6⟩ := HX.out
                            have hbz : Below wz.heap.size wz V := HBZ.out.trans (hV.mono HBZ.out.size)
                            have hb1 : Below W1.heap.size W1 V := HWZ.out.trans (hbz.mono HWZ.out.size)
                            have hbV : Below w.heap.size w V := HC.out.bel.trans (hb1.mono HC.out.bel.size)
                            have := samemsg_any (mg k) (mg x) ja xa jc xc V (HSJ.out.below hbV) (HSX.out V hbz) (.agg #[.int .u16 (jst : Nat), .int .u16 (jss : Nat), .int .u32 (jpp : Nat), .bool jfr, .slice ja jn jc]) (.agg #[.int .u16 (xst : Nat), .int .u16 (q : Nat), .int .u32 (xpp : Nat), .bool false, .slice xa xn xc]) (by unfold Mg.v; rw [← l1, ← l2, ← l3, ← l4, ← l5]) (by unfold Mg.v; rw [← y2, ← y3, ← y4, ← y5, y6])
                            rw [decide_eq_true HMM.out] at this
                            refine this.mono ?_
                            rintro e w' ⟨rfl, hb⟩
                            exact ⟨rfl, hV.trans (hb.mono hV.size)⟩
                          go_wp2_with fail
                          refine wp_region_fixW mixedX (fun V => Below wk.heap.size wk V) [(118, .slice (some ⟨(wz.heap.size + 1), 0, none⟩) M M), (119, .int .i64 (k : Nat)), (120, .pointer (some ⟨(wz.heap.size + 1), k, none⟩)), (121, .bool false), (122, .bool true), (123, .bool true), (124, .slice (some ⟨mb, 0, none⟩) M mc), (125, .int .i64 (k : Nat)), (126, .pointer (some ⟨mb, k * 5, none⟩)), (127, .agg #[.int .u16 (jst : Nat), .int .u16 (jss : Nat), .int .u32 (jpp : Nat), .bool jfr, .slice ja jn jc]), (128, .slice (some ⟨tg, 0, none⟩) M gc), (129, .int .i64 (t : Nat)), (130, .pointer (some ⟨tg, t * 5, none⟩)), (131, .agg #[.int .u16 (xst : Nat), .int .u16 (q : Nat), .int .u32 (xpp : Nat), .bool false, .slice xa xn xc]), (132, .bool true), (133, .bool true)] ?Z5 ?hZ5 (by kernel_rfl) (by kernel_rfl) (by kernel_rfl) (by kernel_rfl) ?h05 ?hops5 ?he5
                          case hZ5 => simp only [List.foldl_cons, List.foldl_nil, List.setIfInBounds_toArray, List.set_cons_zero, List.set_cons_succ]; rfl
                          case h05 => exact HBW.out.drew
                          case hops5 =>
                            refine ⟨?_, ?_, ?_, ?_, ?_, ?_, ?_, ?_, ?_, ?_, ?_, ?_, ?_, ?_, ?_, ?_, trivial⟩
                            · exact fix_val (by rfl) (fun W hW => by have hc := HKC.out W hW; obtain ⟨d0, d1, d2, d3, d4, e0, e1, e2, e3, e4, u0⟩ := hc; go_simp; (try with_reducible rfl); (try omega))
                            · exact fix_val (by rfl) (fun W hW => by have hc := HKC.out W hW; obtain ⟨d0, d1, d2, d3, d4, e0, e1, e2, e3, e4, u0⟩ := hc; go_simp; (try with_reducible rfl); (try omega))
                            · exact fix_val (by rfl) (fun W hW => by have hc := HKC.out W hW; obtain ⟨d0, d1, d2, d3, d4, e0, e1, e2, e3, e4, u0⟩ := hc; go_simp; (try with_reducible rfl); (try omega))
                            · exact fix_val (by rfl) (fun W hW => by have hc := HKC.out W hW; obtain ⟨d0, d1, d2, d3, d4, e0, e1, e2, e3, e4, u0⟩ := hc; go_simp; (try with_reducible rfl); (try omega))
                            · exact fix_val (by rfl) (fun W hW => by have hc := HKC.out W hW; obtain ⟨d0, d1, d2, d3, d4, e0, e1, e2, e3, e4, u0⟩ := hc; go_simp; (try with_reducible rfl); (try omega))
                            · exact fix_val (by rfl) (fun W hW => by have hc := HKC.out W hW; obtain ⟨d0, d1, d2, d3, d4, e0, e1, e2, e3, e4, u0⟩ := hc; go_simp; (try with_reducible rfl); (try omega))
                            · exact fix_val (by rfl) (fun W hW => by have hc := HKC.out W hW; obtain ⟨d0, d1, d2, d3, d4, e0, e1, e2, e3, e4, u0⟩ := hc; go_simp; (try with_reducible rfl); (try omega))
                            · exact fix_val (by rfl) (fun W hW => by have hc := HKC.out W hW; obtain ⟨d0, d1, d2, d3, d4, e0, e1, e2, e3, e4, u0⟩ := hc; go_simp; (try with_reducible rfl); (try omega))
                            · exact fix_val (by rfl) (fun W hW => by have hc := HKC.out W hW; obtain ⟨d0, d1, d2, d3, d4, e0, e1, e2, e3, e4, u0⟩ := hc; go_simp; (try with_reducible rfl); (try omega))
                            · exact fix_val (by rfl) (fun W hW => by have hc := HKC.out W hW; obtain ⟨d0, d1, d2, d3, d4, e0, e1, e2, e3, e4, u0⟩ := hc; go_simp; (try with_reducible rfl); (try omega))
                            · exact fix_val (by rfl) (fun W hW => by have hc := HKC.out W hW; obtain ⟨d0, d1, d2, d3, d4, e0, e1, e2, e3, e4, u0⟩ := hc; go_simp; (try with_reducible rfl); (try omega))
                            · exact fix_val (by rfl) (fun W hW => by have hc := HKC.out W hW; obtain ⟨d0, d1, d2, d3, d4, e0, e1, e2, e3, e4, u0⟩ := hc; go_simp; (try with_reducible rfl); (try omega))
                            · exact fix_val (by rfl) (fun W hW => by have hc := HKC.out W hW; obtain ⟨d0, d1, d2, d3, d4, e0, e1, e2, e3, e4, u0⟩ := hc; go_simp; (try with_reducible rfl); (try omega))
                            · exact fix_val (by rfl) (fun W hW => by have hc := HKC.out W hW; obtain ⟨d0, d1, d2, d3, d4, e0, e1, e2, e3, e4, u0⟩ := hc; go_simp; (try with_reducible rfl); (try omega))
                            · exact fix_call (vs := [.agg #[.int .u16 (jst : Nat), .int .u16 (jss : Nat), .int .u32 (jpp : Nat), .bool jfr, .slice ja jn jc], .agg #[.int .u16 (xst : Nat), .int .u16 (q : Nat), .int .u32 (xpp : Nat), .bool false, .slice xa xn xc]]) (by rfl) rfl (by rfl) Try.func15 (by rfl) (by rfl) (fun W hW => by exact HSM.out W hW)
                            · exact fix_val (by rfl) (fun W hW => by have hc := HKC.out W hW; obtain ⟨d0, d1, d2, d3, d4, e0, e1, e2, e3, e4, u0⟩ := hc; go_simp; (try with_reducible rfl); (try omega))
                          case he5 =>
                          intro V hV
                          have u0 := ((HUW.out.below hV).cell k hk)
                          have u0f := ((HUW.out.below hV).free k)
                          have hul := (HUW.out.below hV).lt
                          have HN : Hid (Stc (V.setCell ⟨wz.heap.size + 1, k, none⟩ (.bool true)) wz.heap.size (ntL .u16 mg (I.take (t + 1))) ∧ RwB (V.setCell ⟨wz.heap.size + 1, k, none⟩ (.bool true)) (wz.heap.size + 1) M (fun i => if i = k then true else U i) ∧ Below wz.heap.size wz (V.setCell ⟨wz.heap.size + 1, k, none⟩ (.bool true))) :=
                            ⟨(HNW.out.below hV).fr (Fr.setCell (fun g => g = wz.heap.size + 1) V ⟨wz.heap.size + 1, k, none⟩ (.bool true) rfl) (by omega), (HUW.out.below hV).set k true hk (fun i hi => rfl), (HBZ.out.trans (hV.mono HBZ.out.size)).setCell (p := ⟨wz.heap.size + 1, k, none⟩) (by show _ ≤ wz.heap.size + 1; omega) _⟩
                          clear hV HKC HSM
                          go_wp2
                          go_roundw
                          case rel => exact ⟨k + 1, true, by omega, rfl, by go_num, .inr ⟨rfl, k, hk, HUK.out, HMM.out, HN.out⟩⟩
                          case measure => simp [intOf]; omega
                        · have HMM := (show Hid _ from hmm)
                          clear hmm
                          have HSM : Hid (∀ V, Below wk.heap.size wk V → Calls Try.prog 15 #[.agg #[.int .u16 (jst : Nat), .int .u16 (jss : Nat), .int .u32 (jpp : Nat), .bool jfr, .slice ja jn jc], .agg #[.int .u16 (xst : Nat), .int .u16 (q : Nat), .int .u32 (xpp : Nat), .bool false, .slice xa xn xc]] V fun e w' => e = .returned (.bool false) ∧ Below wk.heap.size wk w') := fun V hV => by
                            obtain ⟨l1, l2, l3, l4, l5⟩ := HLT.out
                            obtain ⟨y1, y2, y3, y4, y5, y6⟩ := HX.out
                            have hbz : Below wz.heap.size wz V := HBZ.out.trans (hV.mono HBZ.out.size)
                            have hb1 : Below W1.heap.size W1 V := HWZ.out.trans (hbz.mono HWZ.out.size)
                            have hbV : Below w.heap.size w V := HC.out.bel.trans (hb1.mono HC.out.bel.size)
                            have := samemsg_any (mg k) (mg x) ja xa jc xc V (HSJ.out.below hbV) (HSX.out V hbz) (.agg #[.int .u16 (jst : Nat), .int .u16 (jss : Nat), .int .u32 (jpp : Nat), .bool jfr, .slice ja jn jc]) (.agg #[.int .u16 (xst : Nat), .int .u16 (q : Nat), .int .u32 (xpp : Nat), .bool false, .slice xa xn xc]) (by unfold Mg.v; rw [← l1, ← l2, ← l3, ← l4, ← l5]) (by unfold Mg.v; rw [← y2, ← y3, ← y4, ← y5, y6])
                            rw [decide_eq_false HMM.out] at this
                            refine this.mono ?_
                            rintro e w' ⟨rfl, hb⟩
                            exact ⟨rfl, hV.trans (hb.mono hV.size)⟩
                          go_wp2_with fail
                          refine wp_region_fixW mixedX (fun V => Below wk.heap.size wk V) [(118, .slice (some ⟨(wz.heap.size + 1), 0, none⟩) M M), (119, .int .i64 (k : Nat)), (120, .pointer (some ⟨(wz.heap.size + 1), k, none⟩)), (121, .bool false), (122, .bool true), (123, .bool true), (124, .slice (some ⟨mb, 0, none⟩) M mc), (125, .int .i64 (k : Nat)), (126, .pointer (some ⟨mb, k * 5, none⟩)), (127, .agg #[.int .u16 (jst : Nat), .int .u16 (jss : Nat), .int .u32 (jpp : Nat), .bool jfr, .slice ja jn jc]), (128, .slice (some ⟨tg, 0, none⟩) M gc), (129, .int .i64 (t : Nat)), (130, .pointer (some ⟨tg, t * 5, none⟩)), (131, .agg #[.int .u16 (xst : Nat), .int .u16 (q : Nat), .int .u32 (xpp : Nat), .bool false, .slice xa xn xc]), (132, .bool false), (133, .bool false)] ?Z6 ?hZ6 (by kernel_rfl) (by kernel_rfl) (by kernel_rfl) (by kernel_rfl) ?h06 ?hops6 ?he6
                          case hZ6 => simp only [List.foldl_cons, List.foldl_nil, List.setIfInBounds_toArray, List.set_cons_zero, List.set_cons_succ]; rfl
                          case h06 => exact HBW.out.drew
                          case hops6 =>
                            refine ⟨?_, ?_, ?_, ?_, ?_, ?_, ?_, ?_, ?_, ?_, ?_, ?_, ?_, ?_, ?_, ?_, trivial⟩
                            · exact fix_val (by rfl) (fun W hW => by have hc := HKC.out W hW; obtain ⟨d0, d1, d2, d3, d4, e0, e1, e2, e3, e4, u0⟩ := hc; go_simp; (try with_reducible rfl); (try omega))
                            · exact fix_val (by rfl) (fun W hW => by have hc := HKC.out W hW; obtain ⟨d0, d1, d2, d3, d4, e0, e1, e2, e3, e4, u0⟩ := hc; go_simp; (try with_reducible rfl); (try omega))
                            · exact fix_val (by rfl) (fun W hW => by have hc := HKC.out W hW; obtain ⟨d0, d1, d2, d3, d4, e0, e1, e2, e3, e4, u0⟩ := hc; go_simp; (try with_reducible rfl); (try omega))
                            · exact fix_val (by rfl) (fun W hW => by have hc := HKC.out W hW; obtain ⟨d0, d1, d2, d3, d4, e0, e1, e2, e3, e4, u0⟩ := hc; go_simp; (try with_reducible rfl); (try omega))
                            · exact fix_val (by rfl) (fun W hW => by have hc := HKC.out W hW; obtain ⟨d0, d1, d2, d3, d4, e0, e1, e2, e3, e4, u0⟩ := hc; go_simp; (try with_reducible rfl); (try omega))
                            · exact fix_val (by rfl) (fun W hW => by have hc := HKC.out W hW; obtain ⟨d0, d1, d2, d3, d4, e0, e1, e2, e3, e4, u0⟩ := hc; go_simp; (try with_reducible rfl); (try omega))
                            · exact fix_val (by rfl) (fun W hW => by have hc := HKC.out W hW; obtain ⟨d0, d1, d2, d3, d4, e0, e1, e2, e3, e4, u0⟩ := hc; go_simp; (try with_reducible rfl); (try omega))
                            · exact fix_val (by rfl) (fun W hW => by have hc := HKC.out W hW; obtain ⟨d0, d1, d2, d3, d4, e0, e1, e2, e3, e4, u0⟩ := hc; go_simp; (try with_reducible rfl); (try omega))
                            · exact fix_val (by rfl) (fun W hW => by have hc := HKC.out W hW; obtain ⟨d0, d1, d2, d3, d4, e0, e1, e2, e3, e4, u0⟩ := hc; go_simp; (try with_reducible rfl); (try omega))
                            · exact fix_val (by rfl) (fun W hW => by have hc := HKC.out W hW; obtain ⟨d0, d1, d2, d3, d4, e0, e1, e2, e3, e4, u0⟩ := hc; go_simp; (try with_reducible rfl); (try omega))
                            · exact fix_val (by rfl) (fun W hW => by have hc := HKC.out W hW; obtain ⟨d0, d1, d2, d3, d4, e0, e1, e2, e3, e4, u0⟩ := hc; go_simp; (try with_reducible rfl); (try omega))
                            · exact fix_val (by rfl) (fun W hW => by have hc := HKC.out W hW; obtain ⟨d0, d1, d2, d3, d4, e0, e1, e2, e3, e4, u0⟩ := hc; go_simp; (try with_reducible rfl); (try omega))
                            · exact fix_val (by rfl) (fun W hW => by have hc := HKC.out W hW; obtain ⟨d0, d1, d2, d3, d4, e0, e1, e2, e3, e4, u0⟩ := hc; go_simp; (try with_reducible rfl); (try omega))
                            · exact fix_val (by rfl) (fun W hW => by have hc := HKC.out W hW; obtain ⟨d0, d1, d2, d3, d4, e0, e1, e2, e3, e4, u0⟩ := hc; go_simp; (try with_reducible rfl); (try omega))
                            · exact fix_call (vs := [.agg #[.int .u16 (jst : Nat), .int .u16 (jss : Nat), .int .u32 (jpp : Nat), .bool jfr, .slice ja jn jc], .agg #[.int .u16 (xst : Nat), .int .u16 (q : Nat), .int .u32 (xpp : Nat), .bool false, .slice xa xn xc]]) (by rfl) rfl (by rfl) Try.func15 (by rfl) (by rfl) (fun W hW => by exact HSM.out W hW)
                            · exact fix_val (by rfl) (fun W hW => by have hc := HKC.out W hW; obtain ⟨d0, d1, d2, d3, d4, e0, e1, e2, e3, e4, u0⟩ := hc; go_simp; (try with_reducible rfl); (try omega))
                          case he6 =>
                          intro V hV
                          have HV := (show Hid _ from hV)
                          clear hV HKC HSM
                          go_wp2
                          go_roundw
                          case rel => exact ⟨k + 1, false, by omega, rfl, by go_num, .inl ⟨rfl, fun k' hk' => by
                            rcases Nat.lt_or_ge k' k with e | e
                            · exact HNO.out k' e
                            · have e2 : k' = k := by omega
                              subst e2
                              exact fun e3 => HMM.out e3.2, HV.out⟩⟩
                          case measure => simp [intOf]; omega
                    · exfalso
                      obtain ⟨k', a1, a2, a3⟩ := cU_find (mg := mg) (U := U) (v := mg x) M (by rw [HCU.out, cR_drop HXI.out, if_pos rfl]; omega)
                      exact HNO.out k' (by omega) ⟨a2, a3⟩
                  · have HN : Hid (Stc wr wz.heap.size (ntL .u16 mg (I.take (t + 1))) ∧ RwB wr (wz.heap.size + 1) M (fun i => if i = kk then true else U i) ∧ (∀ v, cU mg (fun i => if i = kk then true else U i) v M = cR mg v (I.drop (t + 1))) ∧ Below wz.heap.size wz wr) := by
                      refine ⟨hnx, hrb, fun v => ?_, hbz⟩
                      have e1 := HCU.out v
                      rw [cU_set hUkk, cR_drop HXI.out, hmk] at e1
                      by_cases e2 : mg x = v
                      · rw [if_pos ⟨hkk, e2⟩, if_pos e2] at e1; omega
                      · rw [if_neg (fun e => e2 e.2), if_neg e2] at e1; omega
                    clear hnx hrb hbz
                    by_cases hk : k < M
                    · have hk1 : (k : Int) < (M : Int) := by omega
                      go_wp2
                      go_roundw
                      case rel => exact ⟨t + 1, _, by omega, by go_num, HN.out⟩
                      case measure => simp [intOf]; omega
                    · have hk1 : ¬ (k : Int) < (M : Int) := by omega
                      go_wp2
                      go_roundw
                      case rel => exact ⟨t + 1, _, by omega, by go_num, HN.out⟩
                      case measure => simp [intOf]; omega
        · have ht1 : ¬ (t : Int) < (M : Int) := by omega
          have HHD := (show Hid _ from held_any (HSM0.out.1.below hbz))
          rw [HSM0.out.2.1, HSM0.out.2.2] at HHD
          have HBZ := (show Hid _ from hbz)
          clear hnx hrb hcu hbz
          go_wp2_with fail
          refine Calls.mono HHD.out ?_
          clear HHD
          rintro e w8 ⟨rfl, hb8⟩
          have HB8 : Hid (Below wz.heap.size wz w8) := HBZ.out.trans (hb8.mono HBZ.out.size)
          clear hb8
          go_wp2_with fail
          refine Calls.mono (live13_any w8) ?_
          rintro e w9 ⟨rfl, hb9⟩
          have HF9 : Hid (Below w.heap.size w w9) := by
            have h1 : Below W1.heap.size W1 w8 := HWZ.out.trans (HB8.out.mono HWZ.out.size)
            have h2 : Below w.heap.size w w8 := HC.out.bel.trans (h1.mono HC.out.bel.size)
            exact h2.trans (hb9.mono h2.size)
          clear hb9
          go_wp2
          go_ret
          exact ⟨rfl, HF9.out⟩
end Go.Proofs.Ytjaheelgcjafcaa
namespace Go.Proofs.Ytjaheelgcjafcaa.streamsOrder
open Go.ChangeShapes Go.WideShapes Go.ChangeAt Go.RowKit
open Go.ChangeMaps (open_string shut_string)
set_option linter.unusedVariables false
theorem own : ownKnob Try.prog.godebug = none := by kernel_rfl
theorem laidOut : laidOutB Try.prog = true := by kernel_rfl
theorem bytes_uint8 : Try.prog.bytesOf 5 = 1 := by kernel_rfl

set_option maxRecDepth 100000 in
theorem lifted (os : Os) (started : os.Started) (H : Type) (enc : TypeId × Value → H) :
    ReturnsInHanded {} Try.checked os 4 .any (Rows.streamsOrderSpec.pre6 enc Try.prog Try.f4 Rows.streamsOrderRow.domain false) (Rows.streamsOrderSpec.post enc Try.prog Try.f4 false true false false) := by
  refine returnsInHanded_of_change_sized (C := Try.checked) own started (by kernel_rfl) Try.func4
    (ChangeSpec.witness6 (enc := enc) (C := Try.checked) false ⟨#[], #[.slice none 0 0, .int .u32 0, .slice none 0 0], []⟩ 8 (by kernel_rfl) (by kernel_rfl) (by kernel_rfl) (by kernel_rfl)) ?_
  intro W base args ds gs before hval0 hW hcnd hsz0 _
  have hval : ∀ (j : Nat) t v, Try.f4.params[j]? = some t → args[j]? = some v → Value.okWide Try.prog W .any base t v := hval0
  have hsz : (DataW.weightsEach Try.prog (Try.f4.params.toList ++ Rows.streamsOrderSpec.plain.varTypes Try.prog) (ds ++ gs)).all (· ≤ reachBytes) = true := hsz0
  clear hsz0
  have hW' := hW
  obtain ⟨p, q, hA0, hV, rfl, hfz, hnd⟩ := hW
  have hA : DataW.TrodAll enc Try.prog W 0 (fun _ => true) true Try.f4.params.toList args.toList ds p := hA0
  rw [Try.params4] at hA hval hsz
  obtain ⟨v0, vs0, d0, ds0, p0, q0, hargs, rfl, rfl, h0, r0⟩ := trodAll_cons hA
  obtain ⟨v1, vs1, d1, ds1, p1, q1, rfl, rfl, rfl, h1, r1⟩ := trodAll_cons r0
  obtain ⟨v2, vs2, d2, ds2, p2, q2, rfl, rfl, rfl, h2, r2⟩ := trodAll_cons r1
  obtain ⟨rfl, rfl, rfl⟩ := trodAll_nil r2
  obtain rfl : args = #[v0, v1, v2] := by cases args; simp_all
  obtain ⟨rfl, rfl⟩ := trodVars_none hV
  obtain ⟨a0, len0, cap0, rfl⟩ := okWide_slice Try.underlying29 (hval 0 29 v0 rfl rfl)
  have k0 := h0
  have lt0 : ∀ x ∈ p0, x.block < W.heap.size := by obtain ⟨m, hm⟩ := k0; exact DataW.trod_lt m _ _ _ hm
  obtain ⟨z0, w0⟩ : ∃ dd, SlSe W a0 len0 cap0 dd := by
    clear k0 lt0
    obtain ⟨fuel, hf⟩ := h0
    exact SlSe.open hf (fun q hq => by
      have := List.all_eq_true.1 hsz q (DataW.weights_mem_each (j := 0) (t := 29) (d := d0) rfl rfl q hq)
      simpa using this)
  obtain ⟨x1, rfl, rfl, rfl, w1⟩ := open_int Try.underlying30 (hval 1 30 v1 rfl rfl) h1
  obtain ⟨m1, rfl⟩ : ∃ m : Nat, x1 = (m : Int) := ⟨x1.toNat, by have := bounds_u32 w1; omega⟩
  have b1 : m1 < 4294967296 := by have := bounds_u32 w1; omega
  obtain ⟨a2, len2, cap2, rfl⟩ := okWide_slice Try.underlying31 (hval 2 31 v2 rfl rfl)
  have k2 := h2
  have lt2 : ∀ x ∈ p2, x.block < W.heap.size := by obtain ⟨m, hm⟩ := k2; exact DataW.trod_lt m _ _ _ hm
  obtain ⟨z2, w2⟩ : ∃ zs, SlK .u8 256 W a2 len2 cap2 zs ∧ cap2 * 1 ≤ 140737488351232 := by
    clear k2 lt2
    obtain ⟨fuel, hf⟩ := h2
    rcases open_ints Try.underlying31 Try.underlying5 (by kernel_rfl) hf with ⟨hcs, _⟩ | ⟨x, l, c, zs, hcs, _, hl, hm, hz, hx, hcell, hwz⟩
    · simp [Value.cells] at hcs
      obtain ⟨rfl, rfl, rfl⟩ := hcs
      exact ⟨[], SlK.nil _ _ _ (by omega), by omega⟩
    · simp [Value.cells] at hcs
      obtain ⟨rfl, rfl, rfl⟩ := hcs
      obtain ⟨rfl, rfl⟩ := Prod.mk.inj hx
      have hw := sized_slice hsz (j := 2) (t := 31) (e := 5) rfl rfl Try.underlying31
      have hz' : zs.length = cap2 := by simpa using hz
      rw [bytes_uint8] at hw
      simp only [lits, List.length_map, List.length_take, List.length_drop, reachBytes] at hw
      exact ⟨_, SlK.of_ints (by omega) (fun z hz => by have := bounds_u8 hz; omega) hl hm hz' (by omega) hcell hwz, by omega⟩
  clear hA0 hval0 hsz
  refine (walk_StreamsOrder a0 len0 cap0 z0 m1 a2 len2 cap2 z2 W w0 b1 w2).mono fun e W' ⟨he, bel⟩ => ?_
  subst he
  exact ⟨_, rfl, _, _, _, [], _, [], hW', trodAll_mk1 (shut_bool Try.underlying4 _), (trodAll_cons_mk (Below.trod laidOut (by kernel_rfl) (of_decide_eq_true (by kernel_rfl)) k0 bel lt0) (trodAll_cons_mk (shut_int Try.underlying30 w1) (trodAll_cons_mk (Below.trod laidOut (by kernel_rfl) (of_decide_eq_true (by kernel_rfl)) k2 bel lt2) trodAll_mk0))), rfl, bel.frame _, fun h => by cases h⟩
theorem over : Rows.streamsOrderRow.holds Try.pinned (OpenSpec.ofChange Rows.streamsOrderSpec) :=
  OpenClaim.holds_of_wide 4 Try.f4 rfl rfl rfl rfl rfl rfl rfl ⟨rfl, rfl, rfl, rfl, rfl⟩ rfl rfl rfl rfl rfl (by kernel_rfl) Try.func4 (by kernel_rfl)
    (of_decide_eq_true (by kernel_rfl)) (by unfold Func.isWrapper; first | (rw [if_pos (by decide +kernel)]; kernel_rfl) | (rw [if_neg (by decide +kernel)]; exact ⟨rfl, rfl⟩))
    (fun os started H enc _ => lifted os started H enc)
end Go.Proofs.Ytjaheelgcjafcaa.streamsOrder
namespace Go.Proofs.Ytjaheelgcjafcaa
theorem StreamsOrder_holds : Rows.StreamsOrderSaid := streamsOrder.over
#print axioms StreamsOrder_holds
end Go.Proofs.Ytjaheelgcjafcaa
