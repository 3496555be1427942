/- Streams: rows of messages and of pieces, read; what was told, counted by streams. -/
import Derived.Test.YtjaheelgcjafcaaQ1
import Derived.Test.YtjaheelgcjafcaaSfM
import Derived.Test.YtjaheelgcjafcaaRgC
import Derived.Deep.DeepMust
import Derived.Test.YtjaheelgcjafcaaSfX
import Derived.Test.YtjaheelgcjafcaaProg
import Derived.Test.YtjaheelgcjafcaaBase
import Derived.Deep.Strs
import Derived.RowKit
import Derived.ChangeSlices
import Derived.SizedLaws
import Derived.ProofKit
import Derived.OpenShut
import Derived.ChangeArms
import Derived.WideShapes
import Derived.Test.YtjaheelgcjafcaaSfC
import Derived.Lib.SlBytesConst
import Derived.Lib.Strings
import Derived.Test.YtjaheelgcjafcaaQ2
namespace Go.Proofs.Ytjaheelgcjafcaa
open Go.RowKit
theorem flatMap_cg {α β : Type} {f g : α → List β} : ∀ {l : List α}, (∀ x, x ∈ l → f x = g x) → l.flatMap f = l.flatMap g
  | [], _ => rfl
  | x :: l, h => by
    rw [List.flatMap_cons, List.flatMap_cons, h x List.mem_cons_self, flatMap_cg (fun y hy => h y (List.mem_cons_of_mem _ hy))]
/-- How many of the first i messages are on a stream, and not free. -/
def cntM (mg : Nat → Mg) (st : Nat) : Nat → Nat
  | 0 => 0
  | i + 1 => cntM mg st i + (if (mg i).fr = false ∧ (mg i).st = st then 1 else 0)
theorem cntM_mono (mg : Nat → Mg) (st : Nat) : ∀ d i, cntM mg st i ≤ cntM mg st (i + d)
  | 0, i => Nat.le_refl _
  | d + 1, i => Nat.le_trans (cntM_mono mg st d i) (by rw [← Nat.add_assoc]; exact Nat.le_add_right _ _)
theorem cntM_le (mg : Nat → Mg) (st : Nat) : ∀ i, cntM mg st i ≤ i
  | 0 => Nat.le_refl _
  | i + 1 => by
    have := cntM_le mg st i
    unfold cntM
    split <;> omega
theorem cntM_lt {mg : Nat → Mg} {st i M : Nat} (hi : i < M) (hf : (mg i).fr = false) (hs : (mg i).st = st) : cntM mg st i < cntM mg st M := by
  have h1 := cntM_mono mg st (M - (i + 1)) (i + 1)
  rw [show i + 1 + (M - (i + 1)) = M by omega] at h1
  have h2 : cntM mg st (i + 1) = cntM mg st i + 1 := by
    rw [cntM, if_pos ⟨hf, hs⟩]
  omega
theorem cntM_find {mg : Nat → Mg} {st : Nat} : ∀ M r, r < cntM mg st M → ∃ i, i < M ∧ (mg i).fr = false ∧ (mg i).st = st ∧ cntM mg st i = r
  | 0, r, h => (by cases h)
  | M + 1, r, h => by
    unfold cntM at h
    by_cases e : r < cntM mg st M
    · obtain ⟨i, a1, a2⟩ := cntM_find M r e
      exact ⟨i, by omega, a2⟩
    · split at h
      · rename_i h2
        exact ⟨M, by omega, h2.1, h2.2, by omega⟩
      · omega
theorem cntM_congr {mg mg' : Nat → Mg} {st : Nat} : ∀ M, (∀ i, i < M → mg' i = mg i) → cntM mg' st M = cntM mg st M
  | 0, _ => rfl
  | M + 1, h => by
    rw [cntM, cntM, cntM_congr M (fun i hi => h i (by omega)), h M (by omega)]
theorem cntM_inj {mg : Nat → Mg} {st i i' : Nat} (h1 : (mg i).fr = false) (h2 : (mg i).st = st) (h3 : (mg i').fr = false) (h4 : (mg i').st = st) (e : cntM mg st i = cntM mg st i') : i = i' := by
  rcases Nat.lt_trichotomy i i' with h | h | h
  · have := cntM_lt h h1 h2; omega
  · exact h
  · have := cntM_lt h h3 h4; omega
structure Ct (M N : Nat) (mg : Nat → Mg) (o : Nat → Nat) (pd : Nat → Pd) : Prop where
  F : Fm M N mg o pd
  cn : ∀ i, i < M → (mg i).ss = if (mg i).fr then 0 else cntM mg (mg i).st i
section
variable {M N : Nat} {mg : Nat → Mg} {o : Nat → Nat} {pd : Nat → Pd}
theorem Fm.MN (F : Fm M N mg o pd) : M ≤ N := by
  have : ∀ i, i ≤ M → i ≤ o i := by
    intro i
    induction i with
    | zero => intro _; omega
    | succ i ih => intro h; have := ih (by omega); have := F.os i (by omega); omega
  have := this M (Nat.le_refl _)
  rwa [F.oM] at this
theorem Ct.start (mg : Nat → Mg) (pd : Nat → Pd) : Ct 0 0 mg (fun _ => 0) pd :=
  ⟨⟨rfl, rfl, fun i hi => (by omega), by omega, fun i hi => (by omega), fun i hi => (by omega), fun i hi => (by omega), fun i j hi => (by omega), fun i hi => (by omega), fun i i' hi => (by omega), fun i hi => (by omega)⟩, fun i hi => (by omega)⟩
def mgX (M : Nat) (mg : Nat → Mg) (m : Mg) : Nat → Mg := fun i => if i = M then m else mg i
def oX (M N k : Nat) (o : Nat → Nat) : Nat → Nat := fun i => if i ≤ M then o i else N + k
def pdX (N : Nat) (pd q : Nat → Pd) : Nat → Pd := fun j => if j < N then pd j else q (j - N)
/-- One message more. -/
theorem Ct.more (h : Ct M N mg o pd) (m : Mg) (k : Nat) (q : Nat → Pd) (hk : 1 ≤ k) (hN : N + k ≤ 128) (hst : m.st < 8) (hss : m.ss = if m.fr then 0 else cntM mg m.st M)
    (hq : ∀ j, j < k → (q j).st = m.st ∧ (q j).ss = m.ss ∧ (q j).free = m.fr ∧ (q j).pp = m.pp ∧ (q j).beg = decide (j = 0) ∧ (q j).fin = decide (j + 1 = k)) (hz : ((List.range k).flatMap fun j => (q j).zs) = m.zs) :
    Ct (M + 1) (N + k) (mgX M mg m) (oX M N k o) (pdX N pd q) := by
  have F := h.F
  have hMN := F.MN
  have hm : mgX M mg m M = m := if_pos rfl
  have hmi : ∀ i, i < M → mgX M mg m i = mg i := fun i hi => if_neg (by omega)
  have ho : ∀ i, i ≤ M → oX M N k o i = o i := fun i hi => if_pos hi
  have hoM : oX M N k o M = N := by rw [ho M (Nat.le_refl _)]; exact F.oM
  have hoS : oX M N k o (M + 1) = N + k := if_neg (by omega)
  have hcn : ∀ i, i < M + 1 → (mgX M mg m i).ss = if (mgX M mg m i).fr then 0 else cntM (mgX M mg m) (mgX M mg m i).st i := fun i hi => by
    by_cases e : i = M
    · subst e
      rw [hm, hss, cntM_congr i hmi]
    · rw [hmi i (by omega), h.cn i (by omega), cntM_congr i (fun i' hi' => hmi i' (by omega))]
  refine ⟨⟨by rw [ho 0 (by omega)]; exact F.o0, hoS, fun i hi => ?_, hN, fun i hi => ?_, fun i hi => ?_, fun i hi hf => ?_, fun i j hi h1 h2 => ?_, fun i hi => ?_, fun i i' hi hi' f1 f2 hs e => ?_, fun i hi hf r hr => ?_⟩, hcn⟩
  · by_cases e : i = M
    · subst e; rw [hoM, hoS]; omega
    · rw [ho i (by omega), ho (i + 1) (by omega)]; exact F.os i (by omega)
  · by_cases e : i = M
    · subst e; rw [hm]; exact hst
    · rw [hmi i (by omega)]; exact F.st8 i (by omega)
  · rw [hcn i hi]
    split
    · omega
    · have := cntM_le (mgX M mg m) (mgX M mg m i).st i
      omega
  · rw [hcn i hi, if_pos hf]
  · by_cases e : i = M
    · subst e
      rw [hoM] at h1
      rw [hoS] at h2
      obtain ⟨a1, a2, a3, a4, a5, a6⟩ := hq (j - N) (by omega)
      have hp : pdX N pd q j = q (j - N) := if_neg (by omega)
      rw [hp, hm, hoM, hoS]
      refine ⟨a1, a2, a3, a4, ?_, ?_⟩
      · rw [a5]; exact decide_eq_decide.2 (by omega)
      · rw [a6]; exact decide_eq_decide.2 (by omega)
    · rw [ho i (by omega)] at h1
      rw [ho (i + 1) (by omega)] at h2
      have hj := F.lt (i := i) (by omega) h2
      have hp : pdX N pd q j = pd j := if_pos hj
      rw [hp, hmi i (by omega), ho i (by omega), ho (i + 1) (by omega)]
      exact F.ps i j (by omega) h1 h2
  · by_cases e : i = M
    · subst e
      rw [hoM, hoS, hm, show N + k - N = k by omega, ← hz]
      refine flatMap_cg (fun j hj => ?_)
      have hp : pdX N pd q (N + j) = q j := by unfold pdX; rw [if_neg (by omega), show N + j - N = j by omega]
      rw [hp]
    · rw [ho i (by omega), ho (i + 1) (by omega), hmi i (by omega), ← F.zs i (by omega)]
      refine flatMap_cg (fun j hj => ?_)
      have hj2 := List.mem_range.1 hj
      have hj3 := F.lt (i := i) (j := o i + j) (by omega) (by omega)
      have hp : pdX N pd q (o i + j) = pd (o i + j) := if_pos hj3
      rw [hp]
  · have e1 := hcn i hi
    have e2 := hcn i' hi'
    rw [f1] at e1
    rw [f2] at e2
    exact cntM_inj (st := (mgX M mg m i).st) f1 rfl f2 hs.symm (by rw [hs] at e1 ⊢; simp only [Bool.false_eq_true, if_false] at e1 e2; omega)
  · have e1 := hcn i hi
    rw [hf] at e1
    simp only [Bool.false_eq_true, if_false] at e1
    obtain ⟨i', a1, a2, a3, a4⟩ := cntM_find i r (by rw [← e1]; exact hr)
    refine ⟨i', by omega, a2, a3, ?_⟩
    have e2 := hcn i' (by omega)
    rw [a2, a3] at e2
    simp only [Bool.false_eq_true, if_false] at e2
    omega
end
def pzP (m : Mg) (size k : Nat) : Pd := ⟨pzF m size k, m.st, m.ss, m.pp, pzD m size k⟩
theorem pz_flat (zs : List Nat) (size : Nat) : ∀ k, ((List.range k).flatMap fun j => (zs.drop (j * size)).take size) = zs.take (k * size)
  | 0 => by simp
  | k + 1 => by
    rw [List.range_succ, List.flatMap_append, pz_flat zs size k]
    simp only [List.flatMap_cons, List.flatMap_nil, List.append_nil]
    rw [show (k + 1) * size = k * size + size by rw [Nat.add_mul]; omega, List.take_add]
theorem pz_q (m : Mg) (size k : Nat) (h1 : m.zs.length ≤ k * size) (h2 : (k - 1) * size < m.zs.length) (hk : 1 ≤ k) :
    (∀ j, j < k → (pzP m size j).st = m.st ∧ (pzP m size j).ss = m.ss ∧ (pzP m size j).free = m.fr ∧ (pzP m size j).pp = m.pp ∧ (pzP m size j).beg = decide (j = 0) ∧ (pzP m size j).fin = decide (j + 1 = k)) ∧ ((List.range k).flatMap fun j => (pzP m size j).zs) = m.zs := by
  refine ⟨fun j hj => ?_, ?_⟩
  · have hfin : (m.zs.length ≤ (j + 1) * size) ↔ j + 1 = k := by
      constructor
      · intro h
        rcases Nat.lt_or_ge (j + 1) k with e | e
        · have := Nat.mul_le_mul_right size (show j + 1 ≤ k - 1 by omega)
          omega
        · omega
      · intro e; rw [e]; exact h1
    unfold pzP pzF Pd.free Pd.beg Pd.fin
    dsimp only
    refine ⟨rfl, rfl, ?_, rfl, ?_, ?_⟩
    · cases m.fr <;> simp only [Bool.false_eq_true, if_true, if_false, decide_eq_true_eq, decide_eq_false_iff_not] <;> split <;> split <;> omega
    · refine decide_eq_decide.2 ?_
      split <;> split <;> split <;> omega
    · refine decide_eq_decide.2 ?_
      rw [← hfin]
      split <;> split <;> split <;> omega
  · show ((List.range k).flatMap fun j => (m.zs.drop (j * size)).take size) = m.zs
    rw [pz_flat, List.take_of_length_le h1]
theorem pz_cnt {n k size pc : Nat} (hs : 1 ≤ size) (h1 : n ≤ k * size) (h2 : (k - 1) * size < n) (hk : 1 ≤ k) (hp : pc = (n + size - 1) / size) : k = pc := by
  have e : k * size = (k - 1) * size + size := by
    obtain ⟨d, rfl⟩ : ∃ d, k = d + 1 := ⟨k - 1, by omega⟩
    rw [Nat.add_mul, Nat.add_sub_cancel]
    omega
  rw [hp]
  refine (Nat.div_eq_of_lt_le ?_ ?_).symm
  · omega
  · rw [Nat.add_mul]; omega
end Go.Proofs.Ytjaheelgcjafcaa
namespace Go.Proofs.Ytjaheelgcjafcaa
open Go.RowKit
/-- More than one behind: the run. -/
theorem OwnG.appN {α : Type} {P : Program} {S T : TypeId} {k bytes : Nat} {cf : α → List Value} {w : World} {B : Nat} {a : Option Addr} {n c : Nat} {ps : List α} (L : Lays P S T k bytes cf) (h : OwnG T k cf w B a n c ps) (ty : TypeId) (qs : List α) (ad : Addr) (m c2 : Nat) (hm : qs.length = m) (hc : ∀ j u, (valsG cf qs)[j]? = some u → w.cell? (ad.add j) = some u) (hm1 : 0 < m) (h63 : n + m ≤ maxLen) (hb : (n + m) * bytes ≤ 140737488355328) (hB : B ≤ w.heap.size) :
    ∃ g c' w', (Builtin.append_ #[S, S] ty #[.slice a n c, .slice (some ad) m c2]).run P w = .ok (.slice (some ⟨g, 0, none⟩) (n + m) c') w' ∧ OwnG T k cf w' B (some ⟨g, 0, none⟩) (n + m) c' (ps ++ qs) ∧ w.grownBy w' (Value.slice a n c).ownBlock ∧
      ((Value.slice a n c).ownBlock = some g ∨ g = w.heap.size) ∧ g < w'.heap.size := by
  obtain ⟨z, hinfo, hzs⟩ := L.info
  obtain ⟨i, hi, hz0, hz1, hz2⟩ := info_parts hinfo
  obtain ⟨g, cap, w', hr, hown, hg, hl, hlt⟩ := run_append_lies (P := P) w S ty B T i z k bytes L.under hi hz0 hz1 hz2 hzs L.pos (.slice a n c) n (valsG cf ps) h.own ad m c2 (valsG cf qs) (by rw [valsG_len L.len, hm]) hc (valsG_one L.one qs) hm1 h63 hb hB w.heap.size rfl
  refine ⟨g, cap, w', hr, ⟨by simp [h.len, hm], ?_⟩, hg, hl, hlt⟩
  rw [valsG_app]
  exact hown
/-- Rows of two types do not share a block. -/
theorem ownG_apart {α β : Type} {T T' : TypeId} {k k' : Nat} {cf : α → List Value} {cf' : β → List Value} {w : World} {B B' : Nat} {a a' : Option Addr} {n c n' c' : Nat} {xs : List α} {ys : List β} (hT : T ≠ T') (h : OwnG T k cf w B a n c xs) (h' : OwnG T' k' cf' w B' a' n' c' ys) (g : Nat) (hg : (Value.slice a n c).ownBlock = some g) : (Value.slice a' n' c').ownBlock ≠ some g := by
  intro hg'
  rcases h.own.2 with ⟨hv, _⟩ | ⟨g1, cap, cur, hv, _, hh, _⟩
  · injection hv with e1; subst e1; cases hg
  · injection hv with e1
    subst e1
    obtain rfl : g1 = g := Option.some.inj hg
    rcases h'.own.2 with ⟨hv', _⟩ | ⟨g2, cap2, cur2, hv', _, hh', _⟩
    · injection hv' with e1; subst e1; cases hg'
    · injection hv' with e1
      subst e1
      obtain rfl : g2 = g1 := Option.some.inj hg'
      rw [hh] at hh'
      injection hh' with hh'
      injection hh' with _ e2
      exact hT e2
/-- The messages that are laid. -/
structure MsR (w0 w : World) (B M : Nat) (ma : Option Addr) (mc : Nat) (mg : Nat → Mg) : Prop where
  ex : ∃ ad : Nat → Option Addr × Nat, OwnM w B ma M mc ((List.range M).map fun i => (mg i, ad i)) ∧ ∀ i, i < M → Sl w0 (ad i).1 (mg i).zs.length (ad i).2 (mg i).zs
def ckJ (first : Nat) (pd : Nat → Pd) (ad : Nat → Option Addr × Nat) (j : Nat) : Ck := dataC (pd j).fl (tsnF first j) (pd j).st (pd j).ss (pd j).pp (ad j).1 (pd j).zs.length (ad j).2 (pd j).zs
/-- The pieces that are laid. -/
structure CsR (w : World) (B N : Nat) (ca : Option Addr) (cc first : Nat) (pd : Nat → Pd) : Prop where
  ex : ∃ ad : Nat → Option Addr × Nat, OwnC w B ca N cc ((List.range N).map (ckJ first pd ad)) ∧ ∀ j, j < N → OwnB w B (ad j).1 (pd j).zs.length (ad j).2 (pd j).zs
theorem MsR.fr {w0 w w' : World} {B M : Nat} {ma : Option Addr} {mc : Nat} {mg : Nat → Mg} {Q : Nat → Prop} (h : MsR w0 w B M ma mc mg) (hf : Fr Q w w') (hq : ∀ g, B ≤ g → g < w.heap.size → ¬ Q g) : MsR w0 w' B M ma mc mg := by
  obtain ⟨ad, h1, h2⟩ := h.ex
  exact ⟨ad, OwnG.fr h1 hf (fun g hg => hq g (h1.own.lt g hg).1 (h1.own.lt g hg).2), h2⟩
theorem CsR.fr {w w' : World} {B N : Nat} {ca : Option Addr} {cc first : Nat} {pd : Nat → Pd} {Q : Nat → Prop} (h : CsR w B N ca cc first pd) (hf : Fr Q w w') (hq : ∀ g, B ≤ g → g < w.heap.size → ¬ Q g) : CsR w' B N ca cc first pd := by
  obtain ⟨ad, h1, h2⟩ := h.ex
  exact ⟨ad, OwnG.fr h1 hf (fun g hg => hq g (h1.own.lt g hg).1 (h1.own.lt g hg).2), fun j hj => (h2 j hj).fr hf hq⟩
theorem MsR.below {w0 w w' : World} {B M : Nat} {ma : Option Addr} {mc : Nat} {mg : Nat → Mg} (h : MsR w0 w B M ma mc mg) (hb : Below w.heap.size w w') : MsR w0 w' B M ma mc mg := h.fr (Q := fun _ => False) (Fr.of_below hb) (fun _ _ _ e => e)
theorem CsR.below {w w' : World} {B N : Nat} {ca : Option Addr} {cc first : Nat} {pd : Nat → Pd} (h : CsR w B N ca cc first pd) (hb : Below w.heap.size w w') : CsR w' B N ca cc first pd := h.fr (Q := fun _ => False) (Fr.of_below hb) (fun _ _ _ e => e)
theorem ty_mc : (51 : Nat) ≠ 47 := by decide
theorem ty_cm : (47 : Nat) ≠ 51 := by decide
set_option maxRecDepth 100000 in
/-- A message more. -/
theorem MsR.app {w0 w : World} {B M N : Nat} {ma ca : Option Addr} {mc cc first : Nat} {mg : Nat → Mg} {pd : Nat → Pd} (h : MsR w0 w B M ma mc mg) (hc : CsR w B N ca cc first pd) (hB : B ≤ w.heap.size) (hM : M ≤ 1000) {m : Mg} {xa : Option Addr} {xc : Nat} (hs : Sl w0 xa m.zs.length xc m.zs) {F S : Nat} (hF : F = m.st) (hS : S = m.ss) :
    ∃ g c' w', (Builtin.append_ #[32, 32] 32 #[.slice ma M mc, .slice (some ⟨w.heap.size, 0, none⟩) 1 1]).run Try.prog (w.alloc (.cells #[.int .u16 (F : Nat), .int .u16 (S : Nat), .int .u32 (m.pp : Nat), .bool m.fr, .slice xa m.zs.length xc] 51)) = .ok (.slice (some ⟨g, 0, none⟩) (M + 1) c') w' ∧ MsR w0 w' B (M + 1) (some ⟨g, 0, none⟩) c' (mgX M mg m) ∧ CsR w' B N ca cc first pd ∧ Below B w w' ∧ Fr (fun k => (Value.slice ma M mc).ownBlock = some k) w w' := by
  subst hF hS
  obtain ⟨ad, h1, h2⟩ := h.ex
  obtain ⟨ac, k1, k2⟩ := hc.ex
  have b0 : Below w.heap.size w (w.alloc (.cells (m.v xa xc).toArray 51)) := (Below.refl _ _).alloc (Nat.le_refl _) _
  have st2 := Stc.new w (m.v xa xc) 51 _ rfl
  have h1a := OwnG.below h1 b0
  obtain ⟨g7, c7, w7, hr7, ho7, hgr7, hg7, hg7l⟩ := OwnG.app layM h1a 32 (m, xa, xc) ⟨w.heap.size, 0, none⟩ (fun j u hj => by
    have := st2.cell j u hj
    unfold Addr.add
    split
    · rename_i e; subst e; exact this
    · simpa using this) (by unfold maxLen; omega) (by omega) (Nat.le_trans hB b0.size)
  refine ⟨g7, c7, w7, hr7, ⟨fun i => if i = M then (xa, xc) else ad i, ?_, fun i hi => ?_⟩, ⟨ac, ?_, fun j hj => ?_⟩, (b0.mono hB).trans (h1a.up hgr7 (Nat.le_trans hB b0.size)), (Fr.of_below b0).trans (Fr.grown hgr7 (fun k hk => hk))⟩
  · have e : (List.range (M + 1)).map (fun i => (mgX M mg m i, (if i = M then (xa, xc) else ad i : Option Addr × Nat))) = (List.range M).map (fun i => (mg i, ad i)) ++ [(m, xa, xc)] := by
      rw [List.range_succ, List.map_append]
      congr 1
      · refine List.map_congr_left (fun i hi => ?_)
        have := List.mem_range.1 hi
        unfold mgX
        rw [if_neg (by omega), if_neg (by omega)]
      · unfold mgX
        simp
    rw [e]
    exact ho7
  · unfold mgX
    dsimp only
    by_cases e : i = M
    · simp only [e, if_true]; exact hs
    · simp only [e, if_false]; exact h2 i (by omega)
  · have k1a := OwnG.below k1 b0
    refine OwnG.kept k1a hgr7 ?_
    cases e : (Value.slice ca N cc).ownBlock with
    | none => exact .inl rfl
    | some g => exact .inr (fun e2 => ownG_apart ty_cm k1a h1a g e (e2 ▸ rfl))
  · have hx2 := (k2 j hj).below b0
    refine hx2.kept hgr7 ?_
    cases e : (Value.slice (ac j).1 (pd j).zs.length (ac j).2).ownBlock with
    | none => exact .inl rfl
    | some g => exact .inr (fun e2 => ownB_apart hx2 h1a g e (e2 ▸ rfl))
set_option maxRecDepth 100000 in
/-- The pieces of a message more. -/
theorem CsR.app {w0 w : World} {B M N : Nat} {ma ca : Option Addr} {mc cc first : Nat} {mg : Nat → Mg} {pd : Nat → Pd} (h : CsR w B N ca cc first pd) (hm : MsR w0 w B M ma mc mg) (hB : B ≤ w.heap.size) {m : Mg} {size t0 k rc : Nat} {ra : Option Addr} (hp : PzL w B m size t0 k ra rc) (hk : 1 ≤ k) (hN : N + k ≤ 1000) (ht : t0 = tsnF first N) :
    ∃ g c' w', (Builtin.append_ #[22, 22] 22 #[.slice ca N cc, .slice ra k rc]).run Try.prog w = .ok (.slice (some ⟨g, 0, none⟩) (N + k) c') w' ∧ CsR w' B (N + k) (some ⟨g, 0, none⟩) c' first (pdX N pd (pzP m size)) ∧ MsR w0 w' B M ma mc mg ∧ Below B w w' := by
  obtain ⟨ac, k1, k2⟩ := h.ex
  obtain ⟨am, m1, m2⟩ := hm.ex
  obtain ⟨ap, p1, p2⟩ := hp.ex
  obtain ⟨gp, rfl, hgp1, hgp2, hgp3, _, hcell, _⟩ := OwnG.at_ p1 (fun _ => rfl) (by omega)
  obtain ⟨g7, c7, w7, hr7, ho7, hgr7, hg7, hg7l⟩ := OwnG.appN layC k1 22 ((List.range k).map (pzC m size t0 ap)) ⟨gp, 0, none⟩ k rc (by simp) (fun j u hj => by
    have hlj : j < k * 14 := by
      have := (List.getElem?_eq_some_iff.1 hj).1
      rw [valsG_len (k := 14) (fun _ => rfl)] at this
      simpa using this
    have := p1.own.cellAt j hlj
    rw [hj] at this
    unfold Addr.add
    split
    · rename_i e; subst e; exact this
    · simpa using this) (by omega) (by unfold maxLen; omega) (by omega) hB
  have hpz : ∀ j, j < k → pdX N pd (pzP m size) (N + j) = pzP m size j := fun j hj => by
    unfold pdX
    rw [if_neg (by omega), show N + j - N = j by omega]
  have hold : ∀ j, j < N → pdX N pd (pzP m size) j = pd j := fun j hj => if_pos hj
  have keep : ∀ {B' : Nat} {a : Option Addr} {n c : Nat} {zs : List Nat}, OwnB w B' a n c zs → OwnB w7 B' a n c zs := fun {B' a n c zs} hx => by
    refine hx.kept hgr7 ?_
    cases e : (Value.slice a n c).ownBlock with
    | none => exact .inl rfl
    | some g => exact .inr (fun e2 => ownB_apartC hx k1 g e (e2 ▸ rfl))
  refine ⟨g7, c7, w7, hr7, ⟨fun j => if j < N then ac j else ap (j - N), ?_, fun j hj => ?_⟩, ⟨am, ?_, m2⟩, k1.up hgr7 hB⟩
  · have e : (List.range (N + k)).map (ckJ first (pdX N pd (pzP m size)) (fun j => if j < N then ac j else ap (j - N))) = (List.range N).map (ckJ first pd ac) ++ (List.range k).map (pzC m size t0 ap) := by
      rw [List.range_add, List.map_append, List.map_map]
      congr 1
      · refine List.map_congr_left (fun j hj => ?_)
        have := List.mem_range.1 hj
        unfold ckJ
        rw [hold j this]
        simp [this]
      · refine List.map_congr_left (fun j hj => ?_)
        have hj2 := List.mem_range.1 hj
        show ckJ first (pdX N pd (pzP m size)) _ (N + j) = _
        unfold ckJ pzC
        rw [hpz j hj2]
        have e1 : tsnF first (N + j) = (t0 + j) % 4294967296 := by rw [ht]; unfold tsnF; omega
        rw [e1]
        simp [pzP, show ¬ N + j < N by omega]
    rw [e]
    exact ho7
  · by_cases e : j < N
    · rw [hold j e]
      simp only [e, if_true]
      exact keep (k2 j e)
    · obtain ⟨d, rfl⟩ : ∃ d, j = N + d := ⟨j - N, by omega⟩
      rw [hpz d (by omega)]
      simp only [e, if_false, show N + d - N = d by omega]
      exact keep (p2 d (by omega))
  · refine OwnG.kept m1 hgr7 ?_
    cases e : (Value.slice ma M mc).ownBlock with
    | none => exact .inl rfl
    | some g => exact .inr (fun e2 => ownG_apart ty_mc m1 k1 g e (e2 ▸ rfl))
theorem Stc.lowT {w w' : World} {q B : Nat} {cs : List Value} (h : Stc w q cs) (hb : Below B w w') (hq : q < B) : Stc w' q cs :=
  h.fr (P := fun g => B ≤ g) ⟨hb.os, hb.tape, hb.output, hb.size, fun k _ hn => hb.block k (by omega)⟩ (by omega)
theorem PzL.baseT {w : World} {B B' : Nat} {m : Mg} {size t0 k : Nat} {ra : Option Addr} {rc : Nat} (h : PzL w B m size t0 k ra rc) (hB : B' ≤ B) : PzL w B' m size t0 k ra rc := by
  obtain ⟨ad, h1, h2⟩ := h.ex
  exact ⟨ad, OwnG.base h1 hB, fun i hi => (h2 i hi).base hB⟩
def nxL (mg : Nat → Mg) (M : Nat) : List Value := (List.range 8).map fun st => Value.int .u16 (cntM mg st M : Nat)
theorem cnt_next (mg : Nat → Mg) (M st : Nat) (m : Mg) : cntM (mgX M mg m) st (M + 1) = cntM mg st M + (if m.fr = false ∧ m.st = st then 1 else 0) := by
  have e : mgX M mg m M = m := if_pos rfl
  have e2 : cntM (mgX M mg m) st M = cntM mg st M := cntM_congr M (fun i hi => if_neg (by omega))
  rw [cntM, e2, e]
theorem nx_free (mg : Nat → Mg) (M : Nat) (m : Mg) (h : m.fr = true) : nxL (mgX M mg m) (M + 1) = nxL mg M := by
  unfold nxL
  refine List.map_congr_left (fun st _ => ?_)
  rw [cnt_next, h]
  simp
theorem nx_turn (mg : Nat → Mg) (M : Nat) (m : Mg) (h : m.fr = false) (h8 : m.st < 8) (v : Value) (hv : v = .int .u16 ((cntM mg m.st M + 1 : Nat) : Int)) : nxL (mgX M mg m) (M + 1) = (nxL mg M).set m.st v := by
  subst hv
  unfold nxL
  refine List.ext_getElem? (fun i => ?_)
  rw [List.getElem?_set, List.length_map, List.length_range, List.getElem?_map, List.getElem?_map]
  by_cases hi : i < 8
  · rw [List.getElem?_range hi]
    by_cases e : m.st = i
    · subst e
      simp [h8, cnt_next, h]
    · simp [e, cnt_next]
  · rw [List.getElem?_eq_none (by simpa using hi), if_neg (by omega)]
    rfl
theorem nx_at (mg : Nat → Mg) (M st : Nat) (h : st < 8) : (nxL mg M)[st]? = some (.int .u16 (cntM mg st M : Nat)) := by
  unfold nxL
  rw [List.getElem?_map, List.getElem?_range h]
  rfl
/-- What stands between the messages. -/
structure CtW (w0 w : World) (M N : Nat) (ma : Option Addr) (mc : Nat) (ca : Option Addr) (cc first : Nat) (mg : Nat → Mg) (o : Nat → Nat) (pd : Nat → Pd) : Prop where
  ct : Ct M N mg o pd
  bel : Below w0.heap.size w0 w
  nx : Stc w w0.heap.size (nxL mg M)
  ms : MsR w0 w (w0.heap.size + 1) M ma mc mg
  cs : CsR w (w0.heap.size + 1) N ca cc first pd
  mb : ∀ i, i < M → (mg i).pp < 4294967296 ∧ 1 ≤ (mg i).zs.length ∧ (mg i).zs.length ≤ 60
  pb : ∀ j, j < N → (pd j).fl < 256 ∧ (pd j).pp < 4294967296 ∧ 1 ≤ (pd j).zs.length ∧ (pd j).zs.length ≤ 60
section
variable {w0 w w' : World} {M N : Nat} {ma : Option Addr} {mc : Nat} {ca : Option Addr} {cc first : Nat} {mg : Nat → Mg} {o : Nat → Nat} {pd : Nat → Pd}
theorem CtW.below (h : CtW w0 w M N ma mc ca cc first mg o pd) (hb : Below w.heap.size w w') : CtW w0 w' M N ma mc ca cc first mg o pd :=
  ⟨h.ct, h.bel.trans (hb.mono h.bel.size), h.nx.below hb, h.ms.below hb, h.cs.below hb, h.mb, h.pb⟩
/-- The rows stay, where next's row alone, and younger blocks, are turned. -/
theorem CtW.rows (h : CtW w0 w M N ma mc ca cc first mg o pd) (hf : Fr (fun g => g = w0.heap.size ∨ w.heap.size ≤ g) w w') : MsR w0 w' (w0.heap.size + 1) M ma mc mg ∧ CsR w' (w0.heap.size + 1) N ca cc first pd :=
  ⟨h.ms.fr hf (fun g h1 h2 => by omega), h.cs.fr hf (fun g h1 h2 => by omega)⟩
theorem CtW.fin (h : CtW w0 w M N ma mc ca cc first mg o pd) {m : Mg} {k size : Nat} {ma' ca' : Option Addr} {mc' cc' : Nat} (hms : MsR w0 w' (w0.heap.size + 1) (M + 1) ma' mc' (mgX M mg m)) (hcs : CsR w' (w0.heap.size + 1) (N + k) ca' cc' first (pdX N pd (pzP m size)))
    (hnx : Stc w' w0.heap.size (nxL (mgX M mg m) (M + 1))) (hb : Below w0.heap.size w0 w') (hk : 1 ≤ k) (h1 : m.zs.length ≤ k * size) (h2 : (k - 1) * size < m.zs.length) (hsz : 1 ≤ size) (hN : N + k ≤ 128) (hst : m.st < 8) (hss : m.ss = if m.fr then 0 else cntM mg m.st M) (hpp : m.pp < 4294967296) (h60 : m.zs.length ≤ 60) :
    CtW w0 w' (M + 1) (N + k) ma' mc' ca' cc' first (mgX M mg m) (oX M N k o) (pdX N pd (pzP m size)) := by
  obtain ⟨q1, q2⟩ := pz_q m size k h1 h2 hk
  refine ⟨h.ct.more m k (pzP m size) hk hN hst hss q1 q2, hb, hnx, hms, hcs, fun i hi => ?_, fun j hj => ?_⟩
  · unfold mgX
    split
    · exact ⟨hpp, by omega, h60⟩
    · exact h.mb i (by omega)
  · unfold pdX
    split
    · rename_i e; exact h.pb j e
    · rename_i e
      have hle : (j - N) * size < m.zs.length := Nat.lt_of_le_of_lt (Nat.mul_le_mul_right size (show j - N ≤ k - 1 by omega)) h2
      refine ⟨?_, hpp, ?_, ?_⟩
      · show pzF m size (j - N) < 256
        unfold pzF
        split <;> split <;> split <;> omega
      · show 1 ≤ (pzD m size (j - N)).length
        unfold pzD
        simp
        omega
      · show (pzD m size (j - N)).length ≤ 60
        unfold pzD
        simp
        omega
end
end Go.Proofs.Ytjaheelgcjafcaa
namespace Go.Proofs.Ytjaheelgcjafcaa
open Go.RowKit
/-- A row of ints in a block of its own. -/
structure RwI (w : World) (g N : Nat) (f : Nat → Nat) : Prop where
  lt : g < w.heap.size
  cell : ∀ i, i < N → w.cell? ⟨g, i, none⟩ = some (.int .i64 (f i : Nat))
  free : ∀ i, w.frozen? ⟨g, i, none⟩ = false
theorem RwI.fr {P : Nat → Prop} {w w' : World} {g N : Nat} {f : Nat → Nat} (h : RwI w g N f) (hf : Fr P w w') (hp : ¬ P g) : RwI w' g N f :=
  ⟨Nat.lt_of_lt_of_le h.lt hf.size, fun i hi => (hf.cell ⟨g, i, none⟩ h.lt hp).trans (h.cell i hi), fun i => (hf.frozen ⟨g, i, none⟩ h.lt hp).trans (h.free i)⟩
theorem RwI.set {w : World} {g N : Nat} {f f' : Nat → Nat} (h : RwI w g N f) (j v : Nat) (hj : j < N) (hf : ∀ i, i < N → f' i = if i = j then v else f i) : RwI (w.setCell ⟨g, j, none⟩ (.int .i64 (v : Nat))) g N f' := by
  refine ⟨by simp [World.setCell]; exact h.lt, fun i hi => ?_, fun i => by rw [World.frozen?_setCell]; exact h.free i⟩
  rw [hf i hi]
  split
  · rename_i e
    subst e
    exact World.cell?_setCell_same' _ _ _ (by rw [h.cell i hi]; rfl)
  · rename_i e
    rw [World.cell?_setCell_other _ _ _ _ (by intro e2; injection e2 with _ e3; exact e e3.symm)]
    exact h.cell i hi
/-- f goes through the numbers below N, each once. -/
structure PmF (N : Nat) (f : Nat → Nat) : Prop where
  ex : ∃ b : Nat → Nat, (∀ i, i < N → f i < N ∧ b (f i) = i) ∧ ∀ j, j < N → b j < N ∧ f (b j) = j
def swF (f : Nat → Nat) (i k : Nat) : Nat → Nat := fun x => if x = k then f i else if x = i then f k else f x
theorem PmF.swap {N : Nat} {f : Nat → Nat} (h : PmF N f) {i k : Nat} (hi : i < N) (hk : k < N) : PmF N (swF f i k) := by
  obtain ⟨b, h1, h2⟩ := h.ex
  have e1 : ∀ x, x < N → ∀ y, y < N → f x = f y → x = y := fun x hx y hy e => by rw [← (h1 x hx).2, ← (h1 y hy).2, e]
  refine ⟨fun y => if b y = i then k else if b y = k then i else b y, fun x hx => ?_, fun j hj => ?_⟩
  · unfold swF
    have a := h1 x hx
    have ai := h1 i hi
    have ak := h1 k hk
    refine ⟨by split; exact ai.1; split; exact ak.1; exact a.1, ?_⟩
    dsimp only
    split
    · rename_i e; rw [ai.2, if_pos rfl]; exact e.symm
    · rename_i e
      split
      · rename_i e2
        rw [ak.2]
        split
        · rename_i e3; omega
        · rw [if_pos rfl]; exact e2.symm
      · rename_i e2
        rw [a.2, if_neg e2, if_neg e]
  · have a := h2 j hj
    unfold swF
    dsimp only
    split
    · rename_i e
      refine ⟨hk, ?_⟩
      rw [if_pos rfl, ← e]; exact a.2
    · rename_i e
      split
      · rename_i e2
        refine ⟨hi, ?_⟩
        split
        · rename_i e3; exact absurd (e2.trans e3.symm) e
        · rw [if_pos rfl, ← e2]; exact a.2
      · rename_i e2
        exact ⟨a.1, a.2⟩
theorem PmF.id (N : Nat) : PmF N (fun i => i) := ⟨fun i => i, fun _ h => ⟨h, rfl⟩, fun _ h => ⟨h, rfl⟩⟩
theorem PmF.inj {N : Nat} {f : Nat → Nat} (h : PmF N f) {i k : Nat} (hi : i < N) (hk : k < N) (e : f i = f k) : i = k := by
  obtain ⟨b, h1, _⟩ := h.ex
  rw [← (h1 i hi).2, ← (h1 k hk).2, e]
theorem PmF.lt {N : Nat} {f : Nat → Nat} (h : PmF N f) {i : Nat} (hi : i < N) : f i < N := by
  obtain ⟨b, h1, _⟩ := h.ex
  exact (h1 i hi).1
theorem PmF.all {N : Nat} {f : Nat → Nat} (h : PmF N f) {j : Nat} (hj : j < N) : ∃ i, i < N ∧ f i = j := by
  obtain ⟨b, _, h2⟩ := h.ex
  exact ⟨b j, h2 j hj⟩
structure ShP (w : World) (N : Nat) (e : Ending) (w' : World) : Prop where
  ex : ∃ f, e = .returned (.slice (some ⟨w.heap.size, 0, none⟩) N N) ∧ RwI w' w.heap.size N f ∧ PmF N f
  bel : Below w.heap.size w w'
theorem int_info : (Try.prog.info? 3).map (fun i => (i.zero, i.size, i.bytes)) = some (some (.int .i64 0), 1, 8) := by kernel_rfl
theorem mkI (N : Nat) (hc : N ≤ 1000) (w : World) : (Instr.makeSlice 38 (.int .i64 (N : Int)) (.int .i64 (N : Int))).run Try.prog w = .ok (.slice (some ⟨w.heap.size, 0, none⟩) N N) (w.alloc (.cells (madeCells #[.int .i64 0] N) 3)) := by
  obtain ⟨i, hi, hz0, hz1, hz2⟩ := info_parts int_info
  have := run_make (P := Try.prog) w 38 3 i (.int .i64 0) Try.underlying38 hi hz0 .i64 .i64 (N : Int) (N : Int) (by omega) (by omega) (by rw [hz2]; omega) (by omega)
  rw [hz1, show (Value.int .i64 0).cells = #[.int .i64 0] from rfl] at this
  simpa using this
theorem RwI.made {w w' : World} {N : Nat} (hw : w' = w.alloc (.cells (madeCells #[.int .i64 0] N) 3)) : RwI w' w.heap.size N (fun _ => 0) := by
  have h : Stc w' w.heap.size (madeCells #[.int .i64 0] N).toList := Stc.new w _ 3 w' (by rw [hw])
  refine ⟨h.lt, fun i hi => h.cell i _ ?_, h.free⟩
  rw [Array.getElem?_toList]
  simp [madeCells, hi, Nat.mod_one]
set_option linter.unusedVariables false in
set_option maxRecDepth 100000 in
set_option maxHeartbeats 4000000 in
theorem shuffled_any (N : Nat) (pa : Option Addr) (pn pc : Nat) (ps : List Nat) (w : World) (hs : Sl w pa pn pc ps) (hN : N ≤ 1000) :
    Calls Try.prog 13 #[.int .i64 (N : Nat), .slice pa pn pc] w (ShP w N) := by
  have hmk := mkI N hN w
  obtain ⟨W1, hW1⟩ : ∃ W1, W1 = w.alloc (.cells (madeCells #[.int .i64 0] N) 3) := ⟨_, rfl⟩
  have HR0 := (show Hid _ from RwI.made hW1)
  have HB0 : Hid (Below w.heap.size w W1) := by show Below _ _ _; rw [hW1]; exact (Below.refl _ _).alloc (Nat.le_refl _) _
  have HSL := (show Hid _ from hs)
  have hcap := hs.cap
  have hsml := hs.small
  clear hs
  rw [← hW1] at hmk
  go_enter Try.func13, Try.ntmps13
  go_wp2
  rw [← hW1]
  clear hmk hW1
  go_loopw [6] (fun u6 wr => ∃ i : Nat, i ≤ N ∧ u6 = .int .i64 (i : Nat) ∧ RwI wr w.heap.size N (fun j => if j < i then j else 0) ∧ Below w.heap.size w wr) (fun u6 _ => N - (intOf u6).toNat)
  case atStart => exact ⟨0, by omega, rfl, by simpa using HR0.out, HB0.out⟩
  case round =>
    obtain ⟨i, hi, rfl, hrw, hb⟩ := hrel
    by_cases hlt : i < N
    · have hlt1 : (i : Int) < (N : Int) := by omega
      have hc := hrw.cell i hlt
      have hf := hrw.free i
      have hgl := hrw.lt
      have HN : Hid (RwI (wr.setCell ⟨w.heap.size, i, none⟩ (.int .i64 (i : Nat))) w.heap.size N (fun j => if j < i + 1 then j else 0) ∧ Below w.heap.size w (wr.setCell ⟨w.heap.size, i, none⟩ (.int .i64 (i : Nat)))) :=
        ⟨hrw.set i i hlt (fun j hj => by rcases Nat.lt_trichotomy j i with e | e | e; (rw [if_pos (by omega), if_neg (by omega), if_pos e]); (subst e; rw [if_pos (by omega), if_pos rfl]); (rw [if_neg (by omega), if_neg (by omega), if_neg (by omega)])), hb.setCell (p := ⟨w.heap.size, i, none⟩) (Nat.le_refl _) _⟩
      clear hrw hb HR0 HB0
      go_wp2
      go_roundw
      case rel => exact ⟨i + 1, by omega, by go_num, HN.out⟩
      case measure => simp [intOf]; omega
    · have hlt1 : ¬ (i : Int) < (N : Int) := by omega
      have HR1 : Hid (RwI wr w.heap.size N (fun j => j) ∧ Below w.heap.size w wr) := ⟨⟨hrw.lt, fun j hj => by rw [hrw.cell j hj, if_pos (by omega)], hrw.free⟩, hb⟩
      clear hrw hb HR0 HB0
      go_wp2
      clear hlt1 hlt
      go_loopw [7] (fun u7 wr => ∃ (i : Nat) (f : Nat → Nat), i ≤ N ∧ u7 = .int .i64 (i : Nat) ∧ RwI wr w.heap.size N f ∧ PmF N f ∧ Below w.heap.size w wr) (fun u7 _ => N - (intOf u7).toNat)
      case atStart => exact ⟨0, _, by omega, rfl, HR1.out.1, PmF.id N, HR1.out.2⟩
      case round =>
        obtain ⟨i, f, hi, rfl, hrw, hpm, hb⟩ := hrel
        have HEND : Hid (ShP w N (.returned (.slice (some ⟨w.heap.size, 0, none⟩) N N)) wr) := ⟨⟨f, rfl, hrw, hpm⟩, hb⟩
        by_cases hlt : i < N
        · have hlt1 : (i : Int) < (N : Int) := by omega
          by_cases hp : i < pn
          · have hp1 : (i : Int) < (pn : Int) := by omega
            obtain ⟨b, off, rfl, hbl, hcell⟩ : ∃ b off, pa = some ⟨b, off, none⟩ ∧ b < w.heap.size ∧ ∀ j, j < pn → w.cell? ⟨b, off + j, none⟩ = some (.int .u8 (ps.getD j 0 : Nat)) := by
              rcases HSL.out.at_ with h0 | ⟨b, off, e1, e2, e3⟩
              · omega
              · exact ⟨b, off, e1, e2, e3⟩
            have hx := (hb.cell (p := ⟨b, off + i, none⟩) hbl).trans (hcell i hp)
            have hxb := HSL.out.bnd i
            generalize ps.getD i 0 = x at hx hxb
            obtain ⟨d, hd⟩ : ∃ d : Nat, (N : Int) - (i : Int) = (d : Int) := ⟨N - i, by omega⟩
            have hd1 : ¬ (d : Int) = 0 := by omega
            have hmod := Nat.mod_lt x (show 0 < d by omega)
            obtain ⟨k, hk⟩ : ∃ k, k = i + x % d := ⟨_, rfl⟩
            have hkN : k < N := by omega
            have hki : (i : Int) + (x : Int) % (d : Int) = (k : Int) := by rw [hk]; push_cast; rfl
            have hci := hrw.cell i hlt
            have hck := hrw.cell k hkN
            have hfi := hrw.free i
            have hfk := hrw.free k
            have hgl := hrw.lt
            have hk1 : (k : Int) < (N : Int) := by omega
            by_cases hik : i = k
            · have HN : Hid (RwI ((wr.setCell ⟨w.heap.size, i, none⟩ (.int .i64 (f i : Nat))).setCell ⟨w.heap.size, i, none⟩ (.int .i64 (f i : Nat))) w.heap.size N f ∧ PmF N f ∧ Below w.heap.size w ((wr.setCell ⟨w.heap.size, i, none⟩ (.int .i64 (f i : Nat))).setCell ⟨w.heap.size, i, none⟩ (.int .i64 (f i : Nat)))) :=
                ⟨(hrw.set i (f i) hlt (f' := f) (fun j hj => by split; (rename_i e; rw [e]); rfl)).set i (f i) hlt (fun j hj => by split; (rename_i e; rw [e]); rfl), hpm, (hb.setCell (p := ⟨w.heap.size, i, none⟩) (Nat.le_refl _) _).setCell (p := ⟨w.heap.size, i, none⟩) (Nat.le_refl _) _⟩
              rw [← hik] at hki
              clear hrw hpm hb HR1 hk hik hck hfk hmod hcell HEND
              generalize f i = fi at *
              go_wp2_with fail
              go_region
              go_wp2
              go_roundw
              case rel => exact ⟨i + 1, f, by omega, by go_num, HN.out.1.fr (P := fun _ => False) (Fr.of_below (Below.refl _ _).drew) (fun e => e), HN.out.2.1, HN.out.2.2.drew⟩
              case measure => simp [intOf]; omega
            · have HN : Hid (RwI ((wr.setCell ⟨w.heap.size, i, none⟩ (.int .i64 (f k : Nat))).setCell ⟨w.heap.size, k, none⟩ (.int .i64 (f i : Nat))) w.heap.size N (swF f i k) ∧ PmF N (swF f i k) ∧ Below w.heap.size w ((wr.setCell ⟨w.heap.size, i, none⟩ (.int .i64 (f k : Nat))).setCell ⟨w.heap.size, k, none⟩ (.int .i64 (f i : Nat)))) :=
                ⟨(hrw.set i (f k) hlt (f' := fun x => if x = i then f k else f x) (fun j hj => rfl)).set k (f i) hkN (fun j hj => rfl), hpm.swap hlt hkN, (hb.setCell (p := ⟨w.heap.size, i, none⟩) (Nat.le_refl _) _).setCell (p := ⟨w.heap.size, k, none⟩) (Nat.le_refl _) _⟩
              have hki2 : ¬ k = i := fun e => hik e.symm
              clear hrw hpm hb HR1 hk hmod hcell HEND
              generalize f i = fi at *
              generalize f k = fk at *
              go_wp2_with fail
              go_region
              go_wp2
              go_roundw
              case rel => exact ⟨i + 1, _, by omega, by go_num, HN.out.1.fr (P := fun _ => False) (Fr.of_below (Below.refl _ _).drew) (fun e => e), HN.out.2.1, HN.out.2.2.drew⟩
              case measure => simp [intOf]; omega
          · have hp1 : ¬ (i : Int) < (pn : Int) := by omega
            clear hrw hpm hb HR1
            go_wp2
            go_ret
            exact HEND.out
        · have hlt1 : ¬ (i : Int) < (N : Int) := by omega
          clear hrw hpm hb HR1
          go_wp2
          go_ret
          exact HEND.out
end Go.Proofs.Ytjaheelgcjafcaa
namespace Go.Proofs.Ytjaheelgcjafcaa
open Go.RowKit Go.MapKept Go.Maps
structure OdI (W1 : World) (p nb mb wb og first M N i : Nat) (mg : Nat → Mg) (o : Nat → Nat) (pd : Nat → Pd) (f : Nat → Nat) (Z : Nat → Prop) (I : List Nat) (wr : World) : Prop where
  ex : ∃ s A wr' Y, SmW wr p nb mb wb wr' Y s ∧ Iv first M N mg o pd A s I ∧ (∀ j, A j = true ↔ ∃ i', i' < i ∧ f i' = j) ∧ s.heldN ≤ i ∧ ∀ g, Z g → ¬ Y g
  zl : ∀ g, Z g → g < wr.heap.size ∧ g ≠ p ∧ g ≠ nb ∧ g ≠ mb ∧ g ≠ wb
  zo : Z og
  rw_ : RwI wr og N f
  bel : Below W1.heap.size W1 wr
  new : W1.heap.size ≤ nb ∧ W1.heap.size ≤ mb ∧ W1.heap.size ≤ wb
section
variable {W1 wr : World} {p nb mb wb og first M N i : Nat} {mg : Nat → Mg} {o : Nat → Nat} {pd : Nat → Pd} {f : Nat → Nat} {Z : Nat → Prop} {I : List Nat}
theorem OdI.below {w' : World} (h : OdI W1 p nb mb wb og first M N i mg o pd f Z I wr) (hb : Below wr.heap.size wr w') : OdI W1 p nb mb wb og first M N i mg o pd f Z I w' := by
  obtain ⟨s, A, wr', Y, h1, h2, h3, h4, h5⟩ := h.ex
  exact ⟨⟨s, A, wr', Y, h1.below hb, h2, h3, h4, h5⟩, fun g hg => ⟨Nat.lt_of_lt_of_le (h.zl g hg).1 hb.size, (h.zl g hg).2⟩, h.zo, h.rw_.fr (P := fun _ => False) (Fr.of_below hb) (fun e => e), h.bel.trans (hb.mono h.bel.size), h.new⟩
/-- A block of Z other than the order's is turned. -/
theorem OdI.turn {w' : World} {x : Nat} (h : OdI W1 p nb mb wb og first M N i mg o pd f Z I wr) (hx : Z x) (hxo : x ≠ og) (hW : W1.heap.size ≤ x) (hf : Fr (fun g => g = x) wr w') : OdI W1 p nb mb wb og first M N i mg o pd f Z I w' := by
  obtain ⟨s, A, wr', Y, h1, h2, h3, h4, h5⟩ := h.ex
  have hz := h.zl x hx
  exact ⟨⟨s, A, wr', Y, h1.fr hf (fun g _ hg => by subst hg; exact ⟨h5 g hx, hz.2⟩), h2, h3, h4, h5⟩, fun g hg => ⟨Nat.lt_of_lt_of_le (h.zl g hg).1 hf.size, (h.zl g hg).2⟩, h.zo, h.rw_.fr hf (fun e => hxo e.symm), h.bel.trans (hf.below _ h.bel.size (fun g hg => by rw [hg]; exact hW)), h.new⟩
/-- The next piece. -/
theorem od_add {w0 : World} {ma ca : Option Addr} {mc cc : Nat} (hC : CtW w0 W1 M N ma mc ca cc first mg o pd) (h : OdI W1 p nb mb wb og first M N i mg o pd f Z I wr) (hp : PmF N f) (hi : i < N) (ad : Nat → Option Addr × Nat) (had : ∀ j, j < N → OwnB W1 (w0.heap.size + 1) (ad j).1 (pd j).zs.length (ad j).2 (pd j).zs) (v : Value) (hv : v = (ckJ first pd ad (f i)).val) :
    Calls Try.prog 14 #[.pointer (some ⟨p, 0, none⟩), v] wr fun e w' => ∃ (ta : Option Addr) (tc B : Nat) (J : List Nat), e = .returned (.tuple #[.slice ta J.length tc, .int .i64 0]) ∧ MsgsW w' B ta J.length tc (J.map mg) ∧ wr.heap.size ≤ B ∧ OdI W1 p nb mb wb og first M N (i + 1) mg o pd f Z (I ++ J) w' ∧ Fr (fun g => g = nb ∨ g = mb ∨ g = wb) wr w' := by
  obtain ⟨s, A, wr', Y, h1, h2, h3, h4, h5⟩ := h.ex
  obtain ⟨j, hj⟩ : ∃ j, j = f i := ⟨_, rfl⟩
  have hjN : j < N := by rw [hj]; exact hp.lt hi
  have hA : A j = false := by
    cases e : A j with
    | false => rfl
    | true =>
      obtain ⟨i', a1, a2⟩ := (h3 j).1 e
      have := hp.inj (by omega) hi (a2.trans hj)
      omega
  obtain ⟨b1, b2, b3, b4⟩ := hC.pb j hjN
  have hfm := hC.ct.F
  obtain ⟨im, m1, m2, m3⟩ := hfm.find hjN
  obtain ⟨q1, q2, q3, q4, q5, q6⟩ := hfm.ps im j m1 m2 m3
  have hst8 := hfm.st8 im m1
  have hsb := hfm.sb im m1
  have hsl : Sl wr (ad j).1 (pd j).zs.length (ad j).2 (pd j).zs := ((had j hjN).sl (by omega)).below h.bel
  have hck : CkW wr (ckJ first pd ad j) := dataC_W b1 (Nat.mod_lt _ (by decide)) (by omega) (by omega) b2 hsl
  rw [← hj] at hv
  refine (sadd_ck h1 (ckJ first pd ad j) hck v hv).mono ?_
  have hn128 := hfm.n128
  have hlook : lookD s.D (tsnF first j) = none := by
    cases e : lookD s.D (tsnF first j) with
    | none => rfl
    | some x =>
      obtain ⟨i1, j1, c1, c2, c3, c4, c5, _⟩ := h2.d2 _ _ e
      have := hfm.tsn (first := first) hjN (hfm.lt c1 c3) c4
      rw [this] at hA
      rw [hA] at c5
      cases c5
  have hhold : holdN s 0 (tsnF first j) (pd j).st (chkOf (ckJ first pd ad j)) = 0 := by
    have hc0 : chkOf (ckJ first pd ad j) = 0 := dataC_ok (by omega) (by omega)
    unfold holdN
    rw [hc0, if_neg (by decide), if_neg (by decide), if_neg (by rw [h2.nl]; omega), hlook, if_neg (by decide), if_neg (by omega)]
  intro e w' hR
  cases hR with
  | bad hz _ _ => exact absurd hhold hz
  | ok da dc ta tn tc B wr2 Y2 hz he hms hsm hfr hB hY =>
    obtain ⟨J, e1, e2⟩ := h2.step hfm hjN hA ⟨(pd j).fl, (pd j).st, (pd j).ss, (pd j).pp, da, (pd j).zs.length, dc, (pd j).zs⟩ rfl
    have htn := hms.len
    have e1' : (s.add (tsnF first j) ⟨(pd j).fl, (pd j).st, (pd j).ss, (pd j).pp, da, (pd j).zs.length, dc, (pd j).zs⟩).2 = J.map mg := e1
    have hms' : MsgsW w' B ta tn tc (J.map mg) := by rw [← e1']; exact hms
    have htn' : tn = J.length := by rw [hms'.len, List.length_map]
    subst htn'
    refine ⟨ta, tc, B, J, he, hms', hB, ⟨⟨_, addA A j, wr2, Y2, hsm, e2, fun j' => ?_, ?_, fun g hg hy => ?_⟩, fun g hg => ⟨Nat.lt_of_lt_of_le (h.zl g hg).1 hfr.size, (h.zl g hg).2⟩, h.zo, h.rw_.fr hfr (fun e => by have := (h.zl og h.zo).2; omega), h.bel.trans (hfr.below _ h.bel.size (fun g hg => by have := h.new; omega)), h.new⟩, hfr⟩
    · unfold addA
      by_cases e : j' = j
      · rw [if_pos e]
        exact ⟨fun _ => ⟨i, by omega, by rw [e, hj]⟩, fun _ => rfl⟩
      · rw [if_neg e, h3 j']
        constructor
        · rintro ⟨i', a1, a2⟩; exact ⟨i', by omega, a2⟩
        · rintro ⟨i', a1, a2⟩
          refine ⟨i', ?_, a2⟩
          rcases Nat.lt_or_ge i' i with e3 | e3
          · exact e3
          · have : i' = i := by omega
            subst this
            exact absurd (a2.symm.trans hj.symm) e
    · have := add_held s ⟨(pd j).fl, (pd j).st, (pd j).ss, (pd j).pp, da, (pd j).zs.length, dc, (pd j).zs⟩ h1.sd h1.sw (by have := h1.lenDle; omega) (show tsnF first j < 4294967296 from Nat.mod_lt _ (by decide))
      exact Nat.le_trans this (by omega)
    · rcases (hY g hy).1 with e3 | e3
      · exact h5 g hg e3
      · have := (h.zl g hg).1; omega
end
/-- Of a stream's messages, in the order in which they were told, each is the next one. -/
theorem told_next {mg : Nat → Mg} {st n : Nat} {L L1 L2 : List Nat} {x : Nat} (h : (L.filter fun i => !(mg i).fr && ((mg i).st == st)).map (fun i => (mg i).ss) = List.range n) (hL : L = L1 ++ x :: L2) (hf : (mg x).fr = false) (hs : (mg x).st = st) : (mg x).ss = (L1.filter fun i => !(mg i).fr && ((mg i).st == st)).length := by
  subst hL
  rw [List.filter_append, List.filter_cons, hf, hs] at h
  simp only [Bool.not_false, beq_self_eq_true, Bool.and_self, if_true, List.map_append, List.map_cons] at h
  have h2 := congrArg (fun l => l[(L1.filter fun i => !(mg i).fr && ((mg i).st == st)).length]?) h
  rw [List.getElem?_append_right (by simp), List.length_map, Nat.sub_self, List.getElem?_cons_zero] at h2
  have hlt := (List.getElem?_eq_some_iff.1 h2.symm)
  obtain ⟨hl, he⟩ := hlt
  rw [List.getElem_range] at he
  exact he.symm
end Go.Proofs.Ytjaheelgcjafcaa
namespace Go.Proofs.Ytjaheelgcjafcaa
open Go.RowKit Go.ChangeShapes Go.WideShapes Go.ChangeAt
structure SeD where
  st : Nat
  fr : Bool
  pp : Nat
  zsA : Option Addr
  zsN : Nat
  zsC : Nat
  zsZ : List Nat
instance : Inhabited SeD := ⟨⟨0, false, 0, none, 0, 0, []⟩⟩
def SeD.vals (x : SeD) : List Value := [.int .u8 (x.st : Nat), .bool x.fr, .int .u32 (x.pp : Nat), .slice x.zsA x.zsN x.zsC]
def SeD.Wf (w : World) (x : SeD) : Prop := x.st < 256 ∧ x.pp < 4294967296 ∧ (Sl w x.zsA x.zsN x.zsC x.zsZ ∧ x.zsC ≤ 140737488351232)
structure SlSe (w : World) (a : Option Addr) (n c : Nat) (dd : List SeD) : Prop where
  len : dd.length = n
  cap : n ≤ c
  small : n ≤ 281474976710656
  at_ : n = 0 ∨ ∃ b off, a = some ⟨b, off, none⟩ ∧ b < w.heap.size ∧ ∀ i x, dd[i]? = some x → ∀ j v, x.vals[j]? = some v → w.cell? ⟨b, off + i * 4 + j, none⟩ = some v
  wf : ∀ x ∈ dd, x.Wf w
theorem SlSe.below {w w' : World} {a : Option Addr} {n c : Nat} {dd : List SeD} (h : SlSe w a n c dd) (hb : Below w.heap.size w w') : SlSe w' a n c dd := by
  refine ⟨h.len, h.cap, h.small, ?_, fun x hx => ?_⟩
  · rcases h.at_ with h0 | ⟨b, off, rfl, hlt, hc⟩
    · exact .inl h0
    · exact .inr ⟨b, off, rfl, Nat.lt_of_lt_of_le hlt hb.size, fun i x hx j v hv => (hb.cell (p := ⟨b, off + i * 4 + j, none⟩) hlt).trans (hc i x hx j v hv)⟩
  · have hh := h.wf x hx
    unfold SeD.Wf at hh ⊢
    obtain ⟨h0, h1, h2⟩ := hh
    exact ⟨h0, h1, ⟨h2.1.below hb, h2.2⟩⟩
theorem SlSe.wAll_mem {H : Type} {P : Program} {e : TypeId} : ∀ {ds : List (DataW H)} {d : DataW H}, d ∈ ds → ∀ n ∈ d.weights P e, n ∈ DataW.weightsAll P e ds
  | x :: ds, d, hd, n, hn => by
    unfold DataW.weightsAll
    rcases List.mem_cons.1 hd with rfl | h
    · exact List.mem_append_left _ hn
    · exact List.mem_append_right _ (SlSe.wAll_mem h n hn)
theorem SlSe.cells_uint8 : Try.prog.cellsOf 5 = 1 := by kernel_rfl
theorem SlSe.cells_bool : Try.prog.cellsOf 4 = 1 := by kernel_rfl
theorem SlSe.cells_uint32 : Try.prog.cellsOf 30 = 1 := by kernel_rfl
theorem SlSe.cells___uint8 : Try.prog.cellsOf 31 = 1 := by kernel_rfl
theorem SlSe.bytes_u8 : Try.prog.bytesOf 5 = 1 := by kernel_rfl
theorem SlSe.open_bytes {H : Type} {enc : TypeId × Value → H} {w : World} {base : Nat} {held : Bool} {fuel : Nat} {v : Value} {y : DataW H × List MemPlace}
    (h : DataW.trod enc Try.prog w base (fun _ => true) held fuel 31 [v] = some y) (hw : ∀ n ∈ y.1.weights Try.prog 31, n ≤ reachBytes) : ∃ a n c zs, v = .slice a n c ∧ Sl w a n c zs ∧ c ≤ 140737488351232 := by
  rcases open_ints Try.underlying31 Try.underlying5 (by kernel_rfl) h with ⟨hcs, _⟩ | ⟨x, l, c, zs, hcs, _, hl, hm, hz, hx, hcell, hwz⟩
  · simp at hcs
    exact ⟨none, 0, 0, [], hcs, SlK.nil _ _ _ (by omega), by omega⟩
  · simp at hcs
    have hz' : zs.length = c := by simpa using hz
    have hb : (lits (H := H) .u8 (zs.take l)).length + (lits (H := H) .u8 (zs.drop l)).length ≤ reachBytes := by
      have := hw (((lits (H := H) .u8 (zs.take l)).length + (lits (H := H) .u8 (zs.drop l)).length) * Try.prog.bytesOf 5) (by
        rw [hx]
        unfold DataW.weights
        rw [Try.underlying31]
        simp)
      rwa [SlSe.bytes_u8, Nat.mul_one] at this
    simp only [lits, List.length_map, List.length_take, List.length_drop, reachBytes] at hb
    exact ⟨_, _, _, _, hcs, SlK.of_ints (by omega) (fun z hz => by simp [Lit.wf, IntKind.min, IntKind.max, IntKind.signed, IntKind.bits] at hz; omega) hl hm hz' (by omega) hcell hwz, by omega⟩
theorem SlSe.open_all_fields : ∃ f0 f1 f2 f3 : Field, Try.prog.underlying 70 = some (.struct #[f0, f1, f2, f3]) ∧ f0.offset = 0 ∧ f1.offset = 1 ∧ f2.offset = 2 ∧ f3.offset = 3 ∧ f0.type = 5 ∧ f1.type = 4 ∧ f2.type = 30 ∧ f3.type = 31 := ⟨_, _, _, _, Try.underlying70, rfl, rfl, rfl, rfl, rfl, rfl, rfl, rfl⟩
set_option linter.unusedVariables false in
set_option maxRecDepth 100000 in
theorem SlSe.open_all {H : Type} {enc : TypeId × Value → H} {w : World} {base : Nat} {held : Bool} {fuel : Nat} {cl : List Value} {y : DataW H × List MemPlace} (hl : cl.length = 4)
    (h : DataW.trod enc Try.prog w base (fun _ => true) held fuel 70 cl = some y) (hw : ∀ n ∈ y.1.weights Try.prog 70, n ≤ reachBytes) :
    ∃ (st : Nat) (fr : Bool) (pp : Nat) (zsA : Option Addr) (zsN zsC : Nat) (zsZ : List Nat), cl = [.int .u8 (st : Nat), .bool fr, .int .u32 (pp : Nat), .slice zsA zsN zsC] ∧ st < 256 ∧ pp < 4294967296 ∧ (Sl w zsA zsN zsC zsZ ∧ zsC ≤ 140737488351232) := by
  obtain ⟨f0, f1, f2, f3, he, o0, o1, o2, o3, t0, t1, t2, t3⟩ := SlSe.open_all_fields
  obtain ⟨xs, m, _, hx, _, hlen, hfs⟩ := DataW.trod_struct he h
  have hlen2 : xs.length = 4 := hlen
  match cl, hl, xs, hlen2 with
  | [v0, v1, v2, v3], _, [y0, y1, y2, y3], _ =>
    have hd := congrArg Prod.fst hx
    simp only [List.map_cons, List.map_nil] at hd
    have g0 := hfs 0 f0 rfl
    simp [o0, t0, SlSe.cells_uint8] at g0
    have g1 := hfs 1 f1 rfl
    simp [o1, t1, SlSe.cells_bool] at g1
    have g2 := hfs 2 f2 rfl
    simp [o2, t2, SlSe.cells_uint32] at g2
    have g3 := hfs 3 f3 rfl
    simp [o3, t3, SlSe.cells___uint8] at g3
    obtain ⟨stz, e0, _, w0⟩ := DataW.trod_int Try.underlying5 g0
    simp at e0
    subst e0
    obtain ⟨st, rfl⟩ : ∃ m : Nat, stz = (m : Int) := ⟨stz.toNat, by have := bounds_u8 w0; omega⟩
    have b0 : st < 256 := by have := bounds_u8 w0; omega
    obtain ⟨fr, e1, _⟩ := DataW.trod_bool Try.underlying4 g1
    simp at e1
    subst e1
    obtain ⟨ppz, e2, _, w2⟩ := DataW.trod_int Try.underlying30 g2
    simp at e2
    subst e2
    obtain ⟨pp, rfl⟩ : ∃ m : Nat, ppz = (m : Int) := ⟨ppz.toNat, by have := bounds_u32 w2; omega⟩
    have b2 : pp < 4294967296 := by have := bounds_u32 w2; omega
    obtain ⟨zsA, zsN, zsC, zsZ, rfl, s3, b3⟩ := SlSe.open_bytes g3 (fun q hq => hw q (by
      rw [hd]
      unfold DataW.weights
      rw [he]
      exact DataW.weights_mem_each (j := 3) (t := f3.type) (d := y3.1) rfl rfl q (by rw [t3]; exact hq)))
    exact ⟨st, fr, pp, zsA, zsN, zsC, zsZ, rfl, b0, b2, ⟨s3, b3⟩⟩
theorem SlSe.cellsAll : Try.prog.cellsOf 70 = 4 := by kernel_rfl
theorem SlSe.bytesAll : Try.prog.bytesOf 70 = 32 := by kernel_rfl
theorem SlSe.open {H : Type} {enc : TypeId × Value → H} {w : World} {base : Nat} {held : Bool} {fuel : Nat} {a : Option Addr} {n c : Nat} {y : DataW H × List MemPlace}
    (h : DataW.trod enc Try.prog w base (fun _ => true) held fuel 29 [.slice a n c] = some y) (hw : ∀ n ∈ y.1.weights Try.prog 29, n ≤ reachBytes) : ∃ dd, SlSe w a n c dd := by
  rcases Go.Deep.open_slice Try.underlying29 h with ⟨hcs, _⟩ | ⟨x, l, k, m, fn, D, Pl, hcs, hb, hl, hm, hmm, hx, hc⟩
  · simp at hcs
    obtain ⟨rfl, rfl, rfl⟩ := hcs
    exact ⟨[], rfl, Nat.le_refl _, by omega, .inl rfl, fun x hx => (by cases hx)⟩
  · simp at hcs
    obtain ⟨rfl, rfl, rfl⟩ := hcs
    have hmc : m = c := by simpa using hmm
    subst hmc
    subst hx
    have hsz : m * 32 ≤ reachBytes := by
      have := hw ((((List.range n).map D).length + ((List.range (m - n)).map fun j => D (n + j)).length) * Try.prog.bytesOf 70) (by
        unfold DataW.weights
        rw [Try.underlying29]
        simp)
      rw [SlSe.bytesAll] at this
      simp at this
      omega
    simp only [reachBytes] at hsz
    rw [SlSe.cellsAll] at hc
    have hwi : ∀ i, i < n → ∀ q ∈ (D i).weights Try.prog 70, q ≤ reachBytes := by
      intro i hi q hq
      refine hw q ?_
      unfold DataW.weights
      rw [Try.underlying29]
      simp only [List.mem_cons, List.mem_append]
      exact .inr (.inl (SlSe.wAll_mem (List.mem_map.2 ⟨i, List.mem_range.2 hi, rfl⟩) q hq))
    have each : ∀ i, i < n → ∃ q : SeD, (∀ j v, q.vals[j]? = some v → w.cell? (x.add (i * 4 + j)) = some v) ∧ q.Wf w := by
      intro i hi
      obtain ⟨cs', h1, h2⟩ := hc i (by omega)
      obtain ⟨_, hlen, hcell⟩ := World.cells?_some h1
      obtain ⟨st, fr, pp, zsA, zsN, zsC, zsZ, rfl, Hst, Hpp, Hzs⟩ := SlSe.open_all hlen h2 (hwi i hi)
      refine ⟨⟨st, fr, pp, zsA, zsN, zsC, zsZ⟩, fun j v hv => ?_, ⟨Hst, Hpp, Hzs⟩⟩
      have hj : j < 4 := (List.getElem?_eq_some_iff.1 hv).1
      have e := hcell j hj
      rw [Go.Deep.add_add] at e
      rw [e]
      exact hv
    obtain ⟨q, hq⟩ := Go.Deep.choose_lt each
    have hget : ∀ i z, ((List.range n).map q)[i]? = some z → i < n ∧ z = q i := fun i z hz => by
      have hi := (List.getElem?_eq_some_iff.1 hz).1
      simp at hi
      rw [List.getElem?_map, List.getElem?_range hi] at hz
      simp at hz
      exact ⟨hi, hz.symm⟩
    refine ⟨(List.range n).map q, by simp, hl, by omega, ?_, fun z hz => ?_⟩
    · by_cases h0 : n = 0
      · exact .inl h0
      · obtain ⟨b, off, spot⟩ := x
        have hc0 := (hq 0 (by omega)).1 0 _ rfl
        have hspot : spot = none := by simpa [Addr.add] using World.cell?_spot hc0
        subst hspot
        have hlt : b < w.heap.size := by
          have := hc0
          simp only [Addr.add, World.cell?] at this
          rcases Nat.lt_or_ge b w.heap.size with h9 | h9
          · exact h9
          · simp [h9] at this
        refine .inr ⟨b, off, rfl, hlt, fun i z hz j v hv => ?_⟩
        obtain ⟨hi, rfl⟩ := hget i z hz
        have h1 := (hq i hi).1 j v hv
        have ea : ∀ j, (⟨b, off, none⟩ : Addr).add j = ⟨b, off + j, none⟩ := by
          intro j
          unfold Addr.add
          split
          · subst_vars; rfl
          · rfl
        rw [ea] at h1
        rw [Nat.add_assoc]
        exact h1
    · obtain ⟨i, hi⟩ := List.getElem?_of_mem hz
      obtain ⟨hin, rfl⟩ := hget i z hi
      exact (hq i hin).2
set_option maxRecDepth 100000 in
/-- One, by value, as a parameter. -/
theorem SlSe.openV {H : Type} {enc : TypeId × Value → H} {w : World} {b0 base : Nat} {held : Bool} {v : Value} {d : DataW H} {p : List MemPlace}
    (hv : Value.okWide Try.prog w .any b0 70 v) (h : DataW.Trod enc Try.prog w base (fun _ => true) held 70 v d p) (hw : ∀ n ∈ d.weights Try.prog 70, n ≤ reachBytes) : ∃ x : SeD, v = .agg x.vals.toArray ∧ x.Wf w := by
  obtain ⟨f0, f1, f2, f3, he, _⟩ := SlSe.open_all_fields
  obtain ⟨cs, rfl, hsz⟩ := okWide_struct he hv
  rw [SlSe.cellsAll] at hsz
  obtain ⟨cl⟩ := cs
  obtain ⟨fuel, hf⟩ := h
  have hf2 : DataW.trod enc Try.prog w base (fun _ => true) held fuel 70 cl = some (d, p) := hf
  obtain ⟨st, fr, pp, zsA, zsN, zsC, zsZ, rfl, Hst, Hpp, Hzs⟩ := SlSe.open_all hsz hf2 hw
  exact ⟨⟨st, fr, pp, zsA, zsN, zsC, zsZ⟩, rfl, ⟨Hst, Hpp, Hzs⟩⟩
end Go.Proofs.Ytjaheelgcjafcaa
namespace Go.Proofs.Ytjaheelgcjafcaa
open Go.RowKit
theorem zero_a8 (w : World) : (zeroValue 48).run Try.prog w = .ok (.agg #[.int .u16 0, .int .u16 0, .int .u16 0, .int .u16 0, .int .u16 0, .int .u16 0, .int .u16 0, .int .u16 0]) w := by kernel_rfl
/-- What cut answers. -/
structure CtP (w : World) (first : Nat) (e : Ending) (w' : World) : Prop where
  ex : ∃ (M N : Nat) (ma : Option Addr) (mc : Nat) (ca : Option Addr) (cc : Nat) (mg : Nat → Mg) (o : Nat → Nat) (pd : Nat → Pd), e = .returned (.tuple #[.slice ma M mc, .slice ca N cc]) ∧ CtW w w' M N ma mc ca cc first mg o pd
set_option linter.unusedVariables false in
set_option maxRecDepth 100000 in
set_option maxHeartbeats 16000000 in
theorem cut_any (la : Option Addr) (ln lc : Nat) (dd : List SeD) (first size : Nat) (w : World) (hs : SlSe w la ln lc dd) (hf : first < 4294967296) (hz1 : 1 ≤ size) (hz9 : size ≤ 100)
    (hpz : ∀ (m : Mg) (a : Option Addr) (c t0 : Nat) (w : World), Sl w a m.zs.length c m.zs → 1 ≤ m.zs.length → m.zs.length ≤ 60 → t0 < 4294967296 → (m.fr = true → m.ss = 0) → Calls Try.prog 23 #[.agg (m.v a c).toArray, .int .u32 (t0 : Nat), .int .i64 (size : Nat)] w (PzP w m size t0)) :
    Calls Try.prog 11 #[.slice la ln lc, .int .u32 (first : Nat), .int .i64 (size : Nat)] w (CtP w first) := by
  have HSL := (show Hid _ from hs)
  have HPZ := (show Hid _ from hpz)
  clear hpz
  have hlen := hs.len
  have hcap := hs.cap
  have hsml := hs.small
  clear hs
  obtain ⟨W1, hW1⟩ : ∃ W1, W1 = w.alloc (.cells #[.int .u16 0, .int .u16 0, .int .u16 0, .int .u16 0, .int .u16 0, .int .u16 0, .int .u16 0, .int .u16 0] 48) := ⟨_, rfl⟩
  have hz8 := zero_a8 w
  have HC0 : Hid (CtW w W1 0 0 none 0 none 0 first (fun _ => ⟨0, 0, 0, false, []⟩) (fun _ => 0) (fun _ => ⟨0, 0, 0, 0, []⟩)) := by
    have st := Stc.new w [.int .u16 0, .int .u16 0, .int .u16 0, .int .u16 0, .int .u16 0, .int .u16 0, .int .u16 0, .int .u16 0] 48 W1 hW1
    exact ⟨Ct.start _ _, by rw [hW1]; exact (Below.refl _ _).alloc (Nat.le_refl _) _, st, ⟨fun _ => (none, 0), OwnG.nil _ _, fun i hi => (by omega)⟩, ⟨fun _ => (none, 0), OwnG.nil _ _, fun i hi => (by omega)⟩, fun i hi => (by omega), fun i hi => (by omega)⟩
  go_enter Try.func11, Try.ntmps11
  go_wp2
  rw [← hW1]
  clear hW1 hz8
  go_loopw [8, 9, 11] (fun u8 u9 u11 wr => ∃ (i M N : Nat) (ma : Option Addr) (mc : Nat) (ca : Option Addr) (cc : Nat) (mg : Nat → Mg) (o : Nat → Nat) (pd : Nat → Pd), i ≤ 30 ∧ i ≤ ln ∧ M ≤ i ∧ u8 = .slice ma M mc ∧ u9 = .slice ca N cc ∧ u11 = .int .i64 (i : Nat) ∧ CtW w wr M N ma mc ca cc first mg o pd) (fun _ _ u11 _ => 30 - (intOf u11).toNat)
  case atStart => exact ⟨0, 0, 0, none, 0, none, 0, _, _, _, by omega, by omega, by omega, rfl, rfl, rfl, HC0.out⟩
  case round =>
    obtain ⟨i, M, N, ma, mc, ca, cc, mg, o, pd, hi30, hil, hMi, rfl, rfl, rfl, hC⟩ := hrel
    have HC := (show Hid _ from hC)
    have hN128 := hC.ct.F.n128
    have hbw := hC.bel.size
    have hnl := hC.nx.lt
    clear HC0
    by_cases hlt : i < ln
    · have hlt1 : (i : Int) < (ln : Int) := by omega
      by_cases h30 : i < 30
      · have h301 : (i : Int) < 30 := by omega
        obtain ⟨x, hx⟩ : ∃ x, dd[i]? = some x := ⟨_, List.getElem?_eq_getElem (by omega)⟩
        have hxw := HSL.out.wf x (List.mem_of_getElem? hx)
        obtain ⟨b, off, rfl, hbl, hcell⟩ : ∃ b off, la = some ⟨b, off, none⟩ ∧ b < w.heap.size ∧ ∀ j v, x.vals[j]? = some v → w.cell? ⟨b, off + i * 4 + j, none⟩ = some v := by
          rcases HSL.out.at_ with h0 | ⟨b, off, e1, e2, e3⟩
          · omega
          · exact ⟨b, off, e1, e2, fun j v hv => e3 i x hx j v hv⟩
        obtain ⟨st, fr, pp, xa, n, xc, zs⟩ := x
        obtain ⟨hstb, hppb, hsx, hxcb⟩ := hxw
        dsimp only at hstb hppb hsx hxcb
        have hnz := hsx.len
        have hxc := hsx.cap
        have hnb : n ≤ 140737488351232 := by omega
        have HSX := (show Hid _ from hsx)
        have HNZ := (show Hid _ from hnz)
        obtain ⟨s8, hs8⟩ : ∃ s8, s8 = st % 8 := ⟨_, rfl⟩
        have HS8 : Hid ((st : Int).tmod 8 = (s8 : Int) ∧ IntKind.u16.wrap (s8 : Int) = (s8 : Int)) := ⟨by rw [Int.tmod_eq_emod_of_nonneg (by omega)]; omega, by rw [IntKind.wrap_u16]; omega⟩
        have hs8b : s8 < 8 := by omega
        have HKC : Hid (∀ V, Below wr.heap.size wr V → V.cell? ⟨b, off + i * 4, none⟩ = some (.int .u8 (st : Nat)) ∧ V.cell? ⟨b, off + i * 4 + 1, none⟩ = some (.bool fr) ∧ V.cell? ⟨b, off + i * 4 + 2, none⟩ = some (.int .u32 (pp : Nat)) ∧ V.cell? ⟨b, off + i * 4 + 3, none⟩ = some (.slice xa n xc)) := fun V hV => by
          have hbV : Below w.heap.size w V := hC.bel.trans (hV.mono hC.bel.size)
          have hc := fun j v hv => (hbV.cell (p := ⟨b, off + i * 4 + j, none⟩) hbl).trans (hcell j v hv)
          exact ⟨by simpa using hc 0 _ rfl, hc 1 _ rfl, hc 2 _ rfl, hc 3 _ rfl⟩
        clear hsx hnz hcell hx hs8 hC
        go_wp2_with fail
        refine wp_region_parW mixedX (fun θ : Nat => [(24, .slice (some ⟨b, off, none⟩) ln lc), (25, .int .i64 (i : Nat)), (26, .pointer (some ⟨b, off + i * 4, none⟩)), (27, .pointer (some ⟨b, off + i * 4, none⟩)), (28, .int .u8 (st : Nat)), (29, .int .u8 (s8 : Nat)), (30, .int .u16 (s8 : Nat)), (31, .slice (some ⟨b, off, none⟩) ln lc), (32, .int .i64 (i : Nat)), (33, .pointer (some ⟨b, off + i * 4, none⟩)), (34, .pointer (some ⟨b, off + i * 4 + 2, none⟩)), (35, .int .u32 (pp : Nat)), (36, .slice (some ⟨b, off, none⟩) ln lc), (37, .int .i64 (i : Nat)), (38, .pointer (some ⟨b, off + i * 4, none⟩)), (39, .pointer (some ⟨b, off + i * 4 + 1, none⟩)), (40, .bool fr), (41, .slice (some ⟨b, off, none⟩) ln lc), (42, .int .i64 (i : Nat)), (43, .pointer (some ⟨b, off + i * 4, none⟩)), (44, .pointer (some ⟨b, off + i * 4 + 3, none⟩)), (45, .slice xa n xc), (46, .agg #[.int .u16 (s8 : Nat), .int .u16 0, .int .u32 (pp : Nat), .bool fr, .slice xa n xc]), (12, .pointer (some ⟨θ, 0, none⟩))]) (fun θ l V => RgC 23 24 wr [.int .u16 0, .int .u16 0, .int .u32 0, .bool false, .slice none 0 0] [.int .u16 (s8 : Nat), .int .u16 0, .int .u32 (pp : Nat), .bool fr, .slice xa n xc] θ l V) 0 ?Z1 ?hZ1 (by kernel_rfl) (by kernel_rfl) (fun θ => by kernel_rfl) (by kernel_rfl) ?h01 ?hops1 ?he1
        case hZ1 => intro θ; simp only [List.foldl_cons, List.foldl_nil, List.setIfInBounds_toArray, List.set_cons_zero, List.set_cons_succ]; rfl
        case h01 => exact RgC.start (Below.refl _ _).drew
        case hops1 =>
          refine ⟨?_, ?_, ?_, ?_, ?_, ?_, ?_, ?_, ?_, ?_, ?_, ?_, ?_, ?_, ?_, ?_, ?_, ?_, ?_, ?_, ?_, ?_, ?_, ?_, ?_, trivial⟩
          · exact par_val (fun θ => by rfl) (fun θ l V hg => hg.other 0 (by decide) (by decide)) (fun θ l V hl hc hd hg => by have hB := hg.a4; obtain ⟨e0, e1, e2, e3⟩ := HKC.out V hB; obtain ⟨h8, h8w⟩ := HS8.out; go_simp; (try with_reducible rfl); (try omega))
          · exact par_val (fun θ => by rfl) (fun θ l V hg => hg.other 1 (by decide) (by decide)) (fun θ l V hl hc hd hg => by have hB := hg.a4; obtain ⟨e0, e1, e2, e3⟩ := HKC.out V hB; obtain ⟨h8, h8w⟩ := HS8.out; go_simp; (try with_reducible rfl); (try omega))
          · exact par_val (fun θ => by rfl) (fun θ l V hg => hg.other 2 (by decide) (by decide)) (fun θ l V hl hc hd hg => by have hB := hg.a4; obtain ⟨e0, e1, e2, e3⟩ := HKC.out V hB; obtain ⟨h8, h8w⟩ := HS8.out; go_simp; (try with_reducible rfl); (try omega))
          · exact par_val (fun θ => by rfl) (fun θ l V hg => hg.other 3 (by decide) (by decide)) (fun θ l V hl hc hd hg => by have hB := hg.a4; obtain ⟨e0, e1, e2, e3⟩ := HKC.out V hB; obtain ⟨h8, h8w⟩ := HS8.out; go_simp; (try with_reducible rfl); (try omega))
          · exact par_val (fun θ => by rfl) (fun θ l V hg => hg.other 4 (by decide) (by decide)) (fun θ l V hl hc hd hg => by have hB := hg.a4; obtain ⟨e0, e1, e2, e3⟩ := HKC.out V hB; obtain ⟨h8, h8w⟩ := HS8.out; go_simp; (try with_reducible rfl); (try omega))
          · exact par_val (fun θ => by rfl) (fun θ l V hg => hg.other 5 (by decide) (by decide)) (fun θ l V hl hc hd hg => by have hB := hg.a4; obtain ⟨e0, e1, e2, e3⟩ := HKC.out V hB; obtain ⟨h8, h8w⟩ := HS8.out; go_simp; (try with_reducible rfl); (try omega))
          · exact par_val (fun θ => by rfl) (fun θ l V hg => hg.other 6 (by decide) (by decide)) (fun θ l V hl hc hd hg => by have hB := hg.a4; obtain ⟨e0, e1, e2, e3⟩ := HKC.out V hB; obtain ⟨h8, h8w⟩ := HS8.out; go_simp; (try with_reducible rfl); (try omega))
          · exact par_val (fun θ => by rfl) (fun θ l V hg => hg.other 7 (by decide) (by decide)) (fun θ l V hl hc hd hg => by have hB := hg.a4; obtain ⟨e0, e1, e2, e3⟩ := HKC.out V hB; obtain ⟨h8, h8w⟩ := HS8.out; go_simp; (try with_reducible rfl); (try omega))
          · exact par_val (fun θ => by rfl) (fun θ l V hg => hg.other 8 (by decide) (by decide)) (fun θ l V hl hc hd hg => by have hB := hg.a4; obtain ⟨e0, e1, e2, e3⟩ := HKC.out V hB; obtain ⟨h8, h8w⟩ := HS8.out; go_simp; (try with_reducible rfl); (try omega))
          · exact par_val (fun θ => by rfl) (fun θ l V hg => hg.other 9 (by decide) (by decide)) (fun θ l V hl hc hd hg => by have hB := hg.a4; obtain ⟨e0, e1, e2, e3⟩ := HKC.out V hB; obtain ⟨h8, h8w⟩ := HS8.out; go_simp; (try with_reducible rfl); (try omega))
          · exact par_val (fun θ => by rfl) (fun θ l V hg => hg.other 10 (by decide) (by decide)) (fun θ l V hl hc hd hg => by have hB := hg.a4; obtain ⟨e0, e1, e2, e3⟩ := HKC.out V hB; obtain ⟨h8, h8w⟩ := HS8.out; go_simp; (try with_reducible rfl); (try omega))
          · exact par_val (fun θ => by rfl) (fun θ l V hg => hg.other 11 (by decide) (by decide)) (fun θ l V hl hc hd hg => by have hB := hg.a4; obtain ⟨e0, e1, e2, e3⟩ := HKC.out V hB; obtain ⟨h8, h8w⟩ := HS8.out; go_simp; (try with_reducible rfl); (try omega))
          · exact par_val (fun θ => by rfl) (fun θ l V hg => hg.other 12 (by decide) (by decide)) (fun θ l V hl hc hd hg => by have hB := hg.a4; obtain ⟨e0, e1, e2, e3⟩ := HKC.out V hB; obtain ⟨h8, h8w⟩ := HS8.out; go_simp; (try with_reducible rfl); (try omega))
          · exact par_val (fun θ => by rfl) (fun θ l V hg => hg.other 13 (by decide) (by decide)) (fun θ l V hl hc hd hg => by have hB := hg.a4; obtain ⟨e0, e1, e2, e3⟩ := HKC.out V hB; obtain ⟨h8, h8w⟩ := HS8.out; go_simp; (try with_reducible rfl); (try omega))
          · exact par_val (fun θ => by rfl) (fun θ l V hg => hg.other 14 (by decide) (by decide)) (fun θ l V hl hc hd hg => by have hB := hg.a4; obtain ⟨e0, e1, e2, e3⟩ := HKC.out V hB; obtain ⟨h8, h8w⟩ := HS8.out; go_simp; (try with_reducible rfl); (try omega))
          · exact par_val (fun θ => by rfl) (fun θ l V hg => hg.other 15 (by decide) (by decide)) (fun θ l V hl hc hd hg => by have hB := hg.a4; obtain ⟨e0, e1, e2, e3⟩ := HKC.out V hB; obtain ⟨h8, h8w⟩ := HS8.out; go_simp; (try with_reducible rfl); (try omega))
          · exact par_val (fun θ => by rfl) (fun θ l V hg => hg.other 16 (by decide) (by decide)) (fun θ l V hl hc hd hg => by have hB := hg.a4; obtain ⟨e0, e1, e2, e3⟩ := HKC.out V hB; obtain ⟨h8, h8w⟩ := HS8.out; go_simp; (try with_reducible rfl); (try omega))
          · exact par_val (fun θ => by rfl) (fun θ l V hg => hg.other 17 (by decide) (by decide)) (fun θ l V hl hc hd hg => by have hB := hg.a4; obtain ⟨e0, e1, e2, e3⟩ := HKC.out V hB; obtain ⟨h8, h8w⟩ := HS8.out; go_simp; (try with_reducible rfl); (try omega))
          · exact par_val (fun θ => by rfl) (fun θ l V hg => hg.other 18 (by decide) (by decide)) (fun θ l V hl hc hd hg => by have hB := hg.a4; obtain ⟨e0, e1, e2, e3⟩ := HKC.out V hB; obtain ⟨h8, h8w⟩ := HS8.out; go_simp; (try with_reducible rfl); (try omega))
          · exact par_val (fun θ => by rfl) (fun θ l V hg => hg.other 19 (by decide) (by decide)) (fun θ l V hl hc hd hg => by have hB := hg.a4; obtain ⟨e0, e1, e2, e3⟩ := HKC.out V hB; obtain ⟨h8, h8w⟩ := HS8.out; go_simp; (try with_reducible rfl); (try omega))
          · exact par_val (fun θ => by rfl) (fun θ l V hg => hg.other 20 (by decide) (by decide)) (fun θ l V hl hc hd hg => by have hB := hg.a4; obtain ⟨e0, e1, e2, e3⟩ := HKC.out V hB; obtain ⟨h8, h8w⟩ := HS8.out; go_simp; (try with_reducible rfl); (try omega))
          · exact par_val (fun θ => by rfl) (fun θ l V hg => hg.other 21 (by decide) (by decide)) (fun θ l V hl hc hd hg => by have hB := hg.a4; obtain ⟨e0, e1, e2, e3⟩ := HKC.out V hB; obtain ⟨h8, h8w⟩ := HS8.out; go_simp; (try with_reducible rfl); (try omega))
          · exact par_val (fun θ => by rfl) (fun θ l V hg => hg.other 22 (by decide) (by decide)) (fun θ l V hl hc hd hg => by have hB := hg.a4; obtain ⟨e0, e1, e2, e3⟩ := HKC.out V hB; obtain ⟨h8, h8w⟩ := HS8.out; go_simp; (try with_reducible rfl); (try omega))
          · exact par_run (fun θ => by rfl) (fun θ l V hl hc hd hg => by
              have hs : l 24 = false := (by cases h : l 24 with | false => rfl | true => exact absurd (hc 24 23 (by kernel_rfl) h) (by rw [hl]; decide))
              exact ⟨_, _, run_allocX rfl zero_msg, next_set (by kernel_rfl) V.heap.size [(12, .pointer (some ⟨V.heap.size, 0, none⟩), 23)] (by simp only [List.foldl_cons, List.foldl_nil, List.setIfInBounds_toArray, List.set_cons_zero, List.set_cons_succ]) (by kernel_rfl) (fun y hy => by simp at hy; subst hy; exact hl) (fun d hd => by cases hd; rfl) (hg.alloc hs (by decide) _ _ rfl)⟩)
          · exact par_skip (fun θ => by rfl) (fun θ l V hl hc hd hg => by
              have ha : l 23 = true := hd 23 (by kernel_rfl)
              obtain ⟨hth, hst⟩ := hg.store ha hl rfl
              exact ⟨_, run_storeX rfl (b := θ) (k := 0) (by rfl) (cs := [.int .u16 (s8 : Nat), .int .u16 0, .int .u32 (pp : Nat), .bool fr, .slice xa n xc]) (by rfl) hth (by kernel_rfl) (by intro v hv; simp at hv; rcases hv with rfl | rfl | rfl | rfl | rfl <;> rfl), ⟨θ, fun _ _ _ _ _ _ => rfl, fun d hd => (by cases hd), hst⟩⟩)
        case he1 =>
        intro θ l V hall hg
        have hSt := hg.a1 (hall 24 (by decide))
        have hTh := hg.a3 (hall 23 (by decide))
        have hBl := hg.a4
        clear hall hg
        have HST := (show Hid _ from hSt)
        have HTH := (show Hid _ from And.intro hTh hBl)
        have hθ := hTh.2
        have hθw := hTh.1
        have hθn : ¬ θ = w.heap.size := by omega
        have hθn2 : ¬ w.heap.size = θ := by omega
        have c4 := hSt.cell 4 _ rfl
        have HSK : Hid (CtW w V M N ma mc ca cc first mg o pd) := HC.out.below hBl
        clear hSt hTh hBl
        obtain ⟨pc, hpc⟩ : ∃ pc, pc = (n + size - 1) / size := ⟨_, rfl⟩
        have hpcI : ((n : Int) + (size : Int) - 1) / (size : Int) = (pc : Int) := by
          rw [show (n : Int) + (size : Int) - 1 = ((n + size - 1 : Nat) : Int) by omega, hpc]
          rfl
        have HPC := (show Hid _ from hpc)
        have hpcb : pc ≤ n + size := by rw [hpc]; exact Nat.le_trans (Nat.div_le_self _ _) (by omega)
        clear hpc
        by_cases hn0 : n = 0
        · have g0 : (n : Int) = 0 := by omega
          clear hn0 hpcI
          go_wp2
          go_roundw
          case rel => exact ⟨i + 1, M, N, ma, mc, ca, cc, mg, o, pd, by omega, by omega, by omega, rfl, rfl, by go_num, HSK.out⟩
          case measure => simp [intOf]; omega
        · have g0 : ¬ (n : Int) = 0 := by omega
          by_cases hn60 : 60 < n
          · have g60 : (60 : Int) < (n : Int) := by omega
            clear hpcI
            go_wp2
            go_roundw
            case rel => exact ⟨i + 1, M, N, ma, mc, ca, cc, mg, o, pd, by omega, by omega, by omega, rfl, rfl, by go_num, HSK.out⟩
            case measure => simp [intOf]; omega
          · have g60 : ¬ (60 : Int) < (n : Int) := by omega
            by_cases hpN : 128 < N + pc
            · have gpN : (128 : Int) < (N : Int) + (pc : Int) := by omega
              go_wp2
              go_roundw
              case rel => exact ⟨i + 1, M, N, ma, mc, ca, cc, mg, o, pd, by omega, by omega, by omega, rfl, rfl, by go_num, HSK.out⟩
              case measure => simp [intOf]; omega
            · have gpN : ¬ (128 : Int) < (N : Int) + (pc : Int) := by omega
              obtain ⟨t0, ht0⟩ : ∃ t0, t0 = tsnF first N := ⟨_, rfl⟩
              have ht0b : t0 < 4294967296 := by rw [ht0]; exact Nat.mod_lt _ (by decide)
              have HT0 := (show Hid _ from ht0)
              have ht0I : ((first : Int) + (N : Int)) % 4294967296 = (t0 : Int) := by rw [ht0]; unfold tsnF; omega
              clear ht0
              have c0 := HST.out.cell 0 _ rfl
              have c1 := HST.out.cell 1 _ rfl
              have c2 := HST.out.cell 2 _ rfl
              have c3 := HST.out.cell 3 _ rfl
              have f1 := HST.out.free 1
              cases fr with
              | false =>
                obtain ⟨q, hq⟩ : ∃ q, q = cntM mg s8 M := ⟨_, rfl⟩
                have hqb : q ≤ 30 := by rw [hq]; exact Nat.le_trans (cntM_le mg s8 M) (by omega)
                obtain ⟨q2, hq2⟩ : ∃ q2, q2 = q + 1 := ⟨_, rfl⟩
                have hq2I : ((q : Int) + 1) = (q2 : Int) := by omega
                have n8 := HSK.out.nx.cell s8 _ (nx_at mg M s8 hs8b)
                rw [← hq] at n8
                have nf := HSK.out.nx.free s8
                have HQ := (show Hid _ from And.intro hq hq2)
                clear hq hq2
                have HV2 : Hid (Fr (fun g => g = w.heap.size ∨ wr.heap.size ≤ g) wr ((V.setCell ⟨θ, 1, none⟩ (.int .u16 (q : Nat))).setCell ⟨w.heap.size, s8, none⟩ (.int .u16 (q2 : Nat))) ∧ Stc ((V.setCell ⟨θ, 1, none⟩ (.int .u16 (q : Nat))).setCell ⟨w.heap.size, s8, none⟩ (.int .u16 (q2 : Nat))) w.heap.size (nxL (mgX M mg (⟨s8, q, pp, false, zs⟩ : Mg)) (M + 1))) := by
                  have hf1 := Fr.setCell (fun g => g = w.heap.size ∨ wr.heap.size ≤ g) V ⟨θ, 1, none⟩ (.int .u16 (q : Nat)) (.inr hθw)
                  have hf2 := Fr.setCell (fun g => g = w.heap.size ∨ wr.heap.size ≤ g) (V.setCell ⟨θ, 1, none⟩ (.int .u16 (q : Nat))) ⟨w.heap.size, s8, none⟩ (.int .u16 (q2 : Nat)) (.inl rfl)
                  refine ⟨(Fr.of_below HTH.out.2).trans (hf1.trans hf2), ?_⟩
                  rw [nx_turn mg M (⟨s8, q, pp, false, zs⟩ : Mg) rfl hs8b (.int .u16 (q2 : Nat)) (by rw [HQ.out.2, HQ.out.1])]
                  exact (HSK.out.nx.fr (Fr.setCell (fun g => g = θ) V ⟨θ, 1, none⟩ (.int .u16 (q : Nat)) rfl) (fun e => hθn2 e)).set s8 _
                obtain ⟨V2, hV2⟩ : ∃ V2, V2 = ((V.setCell ⟨θ, 1, none⟩ (.int .u16 (q : Nat))).setCell ⟨w.heap.size, s8, none⟩ (.int .u16 (q2 : Nat))) := ⟨_, rfl⟩
                rw [← hV2] at HV2
                have hzV : V2.heap.size = V.heap.size := by rw [hV2]; simp [World.setCell]
                obtain ⟨hMs2, hCs2⟩ := HC.out.rows HV2.out.1
                have hBV2 : w.heap.size + 1 ≤ V2.heap.size := by have := HTH.out.2.size; omega
                obtain ⟨g7, c7, w7, hr7, hms7, hcs7, hb7, hf7⟩ := hMs2.app hCs2 hBV2 (by omega) (m := (⟨s8, q, pp, false, zs⟩ : Mg)) (xa := xa) (xc := xc) (by dsimp only; rw [HNZ.out]; exact HSX.out) (F := s8) (S := q) rfl rfl
                have hownlt : ∀ g, (Value.slice ma M mc).ownBlock = some g → g < wr.heap.size := fun g hg => by
                  obtain ⟨ad, h1, _⟩ := HC.out.ms.ex
                  exact (h1.own.lt g hg).2
                have st7 : Stc w7 θ [.int .u16 (s8 : Nat), .int .u16 (q : Nat), .int .u32 (pp : Nat), .bool false, .slice xa n xc] := (show Stc V2 θ [.int .u16 (s8 : Nat), .int .u16 (q : Nat), .int .u32 (pp : Nat), .bool false, .slice xa n xc] from (by rw [hV2]; exact (HST.out.set 1 (.int .u16 (q : Nat))).fr (Fr.setCell (fun g => g = w.heap.size) _ ⟨w.heap.size, s8, none⟩ (.int .u16 (q2 : Nat)) rfl) hθn)).fr hf7 (fun e => by have := hownlt θ e; omega)
                have k0 := st7.cell 0 _ rfl
                have k1 := st7.cell 1 _ rfl
                have k2 := st7.cell 2 _ rfl
                have k3 := st7.cell 3 _ rfl
                have k4 := st7.cell 4 _ rfl
                have hbw7 : Below w.heap.size w w7 := (HC.out.bel.trans (HV2.out.1.below _ HC.out.bel.size (fun k hk => by rcases hk with e | e <;> omega))).trans (hb7.mono (by omega))
                have HPC7 : Hid (Calls Try.prog 23 #[.agg #[.int .u16 (s8 : Nat), .int .u16 (q : Nat), .int .u32 (pp : Nat), .bool false, .slice xa n xc], .int .u32 (t0 : Nat), .int .i64 (size : Nat)] w7 (PzP w7 (⟨s8, q, pp, false, zs⟩ : Mg) size t0)) := by
                  have hl := HNZ.out
                  have := HPZ.out (⟨s8, q, pp, false, zs⟩ : Mg) xa xc t0 w7 (by dsimp only; rw [hl]; exact HSX.out.below hbw7) (by dsimp only; omega) (by dsimp only; omega) ht0b (fun e => (by cases e))
                  unfold Mg.v at this
                  dsimp only at this
                  rw [hl] at this
                  exact this
                have HM7 := (show Hid _ from And.intro hms7 (And.intro hcs7 (And.intro hbw7 ((HV2.out.2).lowT hb7 (by omega)))))
                have hw7s : w.heap.size + 1 ≤ w7.heap.size := Nat.le_trans hBV2 hb7.size
                have hl := HNZ.out
                dsimp only at hr7
                rw [hl, hzV] at hr7
                clear hms7 hcs7 hbw7 st7 hMs2 hCs2 hb7 hf7 hownlt hBV2 hl hzV
                rw [hV2] at hr7
                clear hV2
                go_wp2_with (at_builtin; refine app_eq_list rfl _ _ rfl rfl rfl rfl hr7 ?_)
                refine Calls.mono HPC7.out ?_
                clear hr7 HPC7 c0 c1 c2 c3 c4 f1
                rintro e W8 hPP
                obtain ⟨k, ra, rc, rfl, hPz, hp1, hp2, hp3⟩ := hPP.ex
                have hb8 := hPP.bel
                obtain ⟨hms7, hcs7, hbw7, hnx7⟩ := HM7.out
                have hl := HNZ.out
                dsimp only at hp1 hp2
                have hkpc : k = pc := pz_cnt hz1 (by omega) (by omega) hp3 (by rw [HPC.out, hl])
                have hkb : N + k ≤ 128 := by omega
                obtain ⟨g9, c9, w9, hr9, hcs9, hms9, hb9⟩ := CsR.app (hcs7.below hb8) (hms7.below hb8) (Nat.le_trans hw7s hb8.size) (hPz.baseT (by omega)) hp3 (by omega) HT0.out
                have HN9 : Hid (CtW w w9 (M + 1) (N + k) (some ⟨g7, 0, none⟩) c7 (some ⟨g9, 0, none⟩) c9 first (mgX M mg (⟨s8, q, pp, false, zs⟩ : Mg)) (oX M N k o) (pdX N pd (pzP (⟨s8, q, pp, false, zs⟩ : Mg) size))) :=
                  HC.out.fin hms9 hcs9 ((hnx7.below hb8).lowT hb9 (by omega)) ((hbw7.trans (hb8.mono (by omega))).trans (hb9.mono (by omega))) hp3 hp1 hp2 hz1 (by omega) hs8b HQ.out.1 hppb (by dsimp only; omega)
                clear hms7 hcs7 hbw7 hnx7 hPz hb8 hcs9 hms9 hb9 hPP hp1 hp2 HM7 hkpc hl k0 k1 k2 k3 k4
                go_wp2_with (at_builtin; refine app_eq_list rfl _ _ rfl rfl rfl rfl hr9 ?_)
                clear hr9
                go_wp2
                go_roundw
                case rel => exact ⟨i + 1, M + 1, N + k, _, _, _, _, _, _, _, by omega, by omega, by omega, rfl, rfl, by go_num, HN9.out⟩
                case measure => simp [intOf]; omega
              | true =>
                have HV2 : Hid (Fr (fun g => g = w.heap.size ∨ wr.heap.size ≤ g) wr V ∧ Stc V w.heap.size (nxL (mgX M mg (⟨s8, 0, pp, true, zs⟩ : Mg)) (M + 1))) := ⟨Fr.of_below HTH.out.2, by rw [nx_free mg M (⟨s8, 0, pp, true, zs⟩ : Mg) rfl]; exact HSK.out.nx⟩
                obtain ⟨V2, hV2⟩ : ∃ V2, V2 = V := ⟨_, rfl⟩
                rw [← hV2] at HV2
                have hzV : V2.heap.size = V.heap.size := by rw [hV2]
                obtain ⟨hMs2, hCs2⟩ := HC.out.rows HV2.out.1
                have hBV2 : w.heap.size + 1 ≤ V2.heap.size := by have := HTH.out.2.size; omega
                obtain ⟨g7, c7, w7, hr7, hms7, hcs7, hb7, hf7⟩ := hMs2.app hCs2 hBV2 (by omega) (m := (⟨s8, 0, pp, true, zs⟩ : Mg)) (xa := xa) (xc := xc) (by dsimp only; rw [HNZ.out]; exact HSX.out) (F := s8) (S := 0) rfl rfl
                have hownlt : ∀ g, (Value.slice ma M mc).ownBlock = some g → g < wr.heap.size := fun g hg => by
                  obtain ⟨ad, h1, _⟩ := HC.out.ms.ex
                  exact (h1.own.lt g hg).2
                have st7 : Stc w7 θ [.int .u16 (s8 : Nat), .int .u16 0, .int .u32 (pp : Nat), .bool true, .slice xa n xc] := (show Stc V2 θ _ from hV2 ▸ HST.out).fr hf7 (fun e => by have := hownlt θ e; omega)
                have k0 := st7.cell 0 _ rfl
                have k1 := st7.cell 1 _ rfl
                have k2 := st7.cell 2 _ rfl
                have k3 := st7.cell 3 _ rfl
                have k4 := st7.cell 4 _ rfl
                have hbw7 : Below w.heap.size w w7 := (HC.out.bel.trans (HV2.out.1.below _ HC.out.bel.size (fun k hk => by rcases hk with e | e <;> omega))).trans (hb7.mono (by omega))
                have HPC7 : Hid (Calls Try.prog 23 #[.agg #[.int .u16 (s8 : Nat), .int .u16 0, .int .u32 (pp : Nat), .bool true, .slice xa n xc], .int .u32 (t0 : Nat), .int .i64 (size : Nat)] w7 (PzP w7 (⟨s8, 0, pp, true, zs⟩ : Mg) size t0)) := by
                  have hl := HNZ.out
                  have := HPZ.out (⟨s8, 0, pp, true, zs⟩ : Mg) xa xc t0 w7 (by dsimp only; rw [hl]; exact HSX.out.below hbw7) (by dsimp only; omega) (by dsimp only; omega) ht0b (fun e => rfl)
                  unfold Mg.v at this
                  dsimp only at this
                  rw [hl] at this
                  exact this
                have HM7 := (show Hid _ from And.intro hms7 (And.intro hcs7 (And.intro hbw7 ((HV2.out.2).lowT hb7 (by omega)))))
                have hw7s : w.heap.size + 1 ≤ w7.heap.size := Nat.le_trans hBV2 hb7.size
                have hl := HNZ.out
                dsimp only at hr7
                rw [hl, hzV] at hr7
                clear hms7 hcs7 hbw7 st7 hMs2 hCs2 hb7 hf7 hownlt hBV2 hl hzV
                rw [hV2] at hr7
                clear hV2
                go_wp2_with (at_builtin; refine app_eq_list rfl _ _ rfl rfl rfl rfl hr7 ?_)
                refine Calls.mono HPC7.out ?_
                clear hr7 HPC7 c0 c1 c2 c3 c4 f1
                rintro e W8 hPP
                obtain ⟨k, ra, rc, rfl, hPz, hp1, hp2, hp3⟩ := hPP.ex
                have hb8 := hPP.bel
                obtain ⟨hms7, hcs7, hbw7, hnx7⟩ := HM7.out
                have hl := HNZ.out
                dsimp only at hp1 hp2
                have hkpc : k = pc := pz_cnt hz1 (by omega) (by omega) hp3 (by rw [HPC.out, hl])
                have hkb : N + k ≤ 128 := by omega
                obtain ⟨g9, c9, w9, hr9, hcs9, hms9, hb9⟩ := CsR.app (hcs7.below hb8) (hms7.below hb8) (Nat.le_trans hw7s hb8.size) (hPz.baseT (by omega)) hp3 (by omega) HT0.out
                have HN9 : Hid (CtW w w9 (M + 1) (N + k) (some ⟨g7, 0, none⟩) c7 (some ⟨g9, 0, none⟩) c9 first (mgX M mg (⟨s8, 0, pp, true, zs⟩ : Mg)) (oX M N k o) (pdX N pd (pzP (⟨s8, 0, pp, true, zs⟩ : Mg) size))) :=
                  HC.out.fin hms9 hcs9 ((hnx7.below hb8).lowT hb9 (by omega)) ((hbw7.trans (hb8.mono (by omega))).trans (hb9.mono (by omega))) hp3 hp1 hp2 hz1 (by omega) hs8b rfl hppb (by dsimp only; omega)
                clear hms7 hcs7 hbw7 hnx7 hPz hb8 hcs9 hms9 hb9 hPP hp1 hp2 HM7 hkpc hl k0 k1 k2 k3 k4
                go_wp2_with (at_builtin; refine app_eq_list rfl _ _ rfl rfl rfl rfl hr9 ?_)
                clear hr9
                go_wp2
                go_roundw
                case rel => exact ⟨i + 1, M + 1, N + k, _, _, _, _, _, _, _, by omega, by omega, by omega, rfl, rfl, by go_num, HN9.out⟩
                case measure => simp [intOf]; omega
      · have h301 : ¬ (i : Int) < 30 := by omega
        go_wp2
        go_ret2
        exact ⟨M, N, ma, mc, ca, cc, mg, o, pd, rfl, HC.out⟩
    · have hlt1 : ¬ (i : Int) < (ln : Int) := by omega
      go_wp2
      go_ret2
      exact ⟨M, N, ma, mc, ca, cc, mg, o, pd, rfl, HC.out⟩
end Go.Proofs.Ytjaheelgcjafcaa
namespace Go.Proofs.Ytjaheelgcjafcaa
open Go.RowKit
instance : DecidableEq Mg := fun a b => by
  cases a; cases b
  rw [Mg.mk.injEq]
  exact inferInstance
theorem strOf_neV {A B : List Nat} (hA : ∀ i, A.getD i 0 < 256) (hB : ∀ i, B.getD i 0 < 256) (h : ¬ A = B) : ((strOf A).toList == (strOf B).toList) = false := by
  have inj : ∀ (A B : List Nat), (∀ i, A.getD i 0 < 256) → (∀ i, B.getD i 0 < 256) → A.map UInt8.ofNat = B.map UInt8.ofNat → A = B := by
    intro A
    induction A with
    | nil => intro B _ _ h; cases B; rfl; cases h
    | cons x A ih =>
      intro B hA hB h
      cases B with
      | nil => cases h
      | cons y B =>
        injection h with h1 h2
        have hx := hA 0
        have hy := hB 0
        simp only [List.getD_cons_zero] at hx hy
        have e := congrArg UInt8.toNat h1
        rw [UInt8.toNat_ofNat', UInt8.toNat_ofNat', Nat.mod_eq_of_lt hx, Nat.mod_eq_of_lt hy] at e
        rw [e, ih B (fun i => hA (i + 1)) (fun i => hB (i + 1)) h2]
  cases e : ((strOf A).toList == (strOf B).toList) with
  | false => rfl
  | true =>
    have e1 := eq_of_beq e
    rw [Lib.toList_data, Lib.toList_data] at e1
    exact absurd (inj A B hA hB (by simpa [strOf] using e1)) h
set_option linter.unusedVariables false in
set_option maxRecDepth 100000 in
set_option maxHeartbeats 4000000 in
theorem samemsg_any (m m' : Mg) (a a' : Option Addr) (c c' : Nat) (w : World) (h1 : Sl w a m.zs.length c m.zs) (h2 : Sl w a' m'.zs.length c' m'.zs) (u v : Value) (hu : u = .agg (m.v a c).toArray) (hv : v = .agg (m'.v a' c').toArray) :
    Calls Try.prog 15 #[u, v] w fun e w' => e = .returned (.bool (decide (m = m'))) ∧ Below w.heap.size w w' := by
  subst hu hv
  have hz := h1.bnd
  have hz' := h2.bnd
  obtain ⟨st, ss, pp, fr, zs⟩ := m
  obtain ⟨st', ss', pp', fr', zs'⟩ := m'
  unfold Mg.v
  dsimp only at h1 h2 hz hz' ⊢
  obtain ⟨W, hW⟩ : ∃ W, W = ((w.alloc (.cells #[.int .u16 (st : Nat), .int .u16 (ss : Nat), .int .u32 (pp : Nat), .bool fr, .slice a zs.length c] 51)).alloc (.cells #[.int .u16 (st' : Nat), .int .u16 (ss' : Nat), .int .u32 (pp' : Nat), .bool fr', .slice a' zs'.length c'] 51)) := ⟨_, rfl⟩
  have hb : Below w.heap.size w W := by rw [hW]; exact ((Below.refl _ _).alloc (Nat.le_refl _) _).alloc (by simp) _
  have c1 := conv_str (h1.below hb)
  have c2 := conv_str (h2.below hb)
  have HB := (show Hid _ from hb)
  have HZ := (show Hid _ from fun (e : ¬ zs = zs') => strOf_neV hz hz' e)
  rw [hW] at c1 c2 HB
  clear hb hz hz' h1 h2 hW
  generalize zs.length = n at *
  generalize zs'.length = n' at *
  by_cases e1 : st = st'
  · subst e1
    by_cases e2 : ss = ss'
    · subst e2
      by_cases e3 : pp = pp'
      · subst e3
        by_cases e4 : fr = fr'
        · subst e4
          by_cases e5 : zs = zs'
          · have hd : decide ((⟨st, ss, pp, fr, zs⟩ : Mg) = ⟨st, ss, pp, fr, zs'⟩) = true := decide_eq_true (by rw [e5])
            rw [hd]
            rw [← e5] at c2
            clear e5 hd HZ
            cases fr <;>
            · go_enter Try.func15, Try.ntmps15
              go_wp2
              go_ret
              exact ⟨rfl, HB.out⟩
          · have hd : decide ((⟨st, ss, pp, fr, zs⟩ : Mg) = ⟨st, ss, pp, fr, zs'⟩) = false := decide_eq_false (fun e => e5 (by injection e))
            rw [hd]
            have hne := HZ.out e5
            generalize strOf zs = s1 at *
            generalize strOf zs' = s2 at *
            clear hd HZ
            cases fr <;>
            · go_enter Try.func15, Try.ntmps15
              go_wp2
              go_ret
              exact ⟨rfl, HB.out⟩
        · have hd : decide ((⟨st, ss, pp, fr, zs⟩ : Mg) = ⟨st, ss, pp, fr', zs'⟩) = false := decide_eq_false (fun e => e4 (by injection e))
          rw [hd]
          clear hd HZ
          cases fr <;> cases fr' <;> first | exact absurd rfl e4 | skip
          all_goals
            go_enter Try.func15, Try.ntmps15
            go_wp2
            go_ret
            exact ⟨rfl, HB.out⟩
      · have hd : decide ((⟨st, ss, pp, fr, zs⟩ : Mg) = ⟨st, ss, pp', fr', zs'⟩) = false := decide_eq_false (fun e => e3 (by injection e))
        rw [hd]
        have g : ¬ (pp : Int) = (pp' : Int) := by omega
        clear hd HZ
        go_enter Try.func15, Try.ntmps15
        go_wp2
        go_ret
        exact ⟨rfl, HB.out⟩
    · have hd : decide ((⟨st, ss, pp, fr, zs⟩ : Mg) = ⟨st, ss', pp', fr', zs'⟩) = false := decide_eq_false (fun e => e2 (by injection e))
      rw [hd]
      have g : ¬ (ss : Int) = (ss' : Int) := by omega
      clear hd HZ
      go_enter Try.func15, Try.ntmps15
      go_wp2
      go_ret
      exact ⟨rfl, HB.out⟩
  · have hd : decide ((⟨st, ss, pp, fr, zs⟩ : Mg) = ⟨st', ss', pp', fr', zs'⟩) = false := decide_eq_false (fun e => e1 (by injection e))
    rw [hd]
    have g : ¬ (st : Int) = (st' : Int) := by omega
    clear hd HZ
    go_enter Try.func15, Try.ntmps15
    go_wp2
    go_ret
    exact ⟨rfl, HB.out⟩
end Go.Proofs.Ytjaheelgcjafcaa
namespace Go.Proofs.Ytjaheelgcjafcaa
open Go.RowKit Go.MapKept Go.Maps
theorem MsgsW.getK {w : World} {B : Nat} {a : Option Addr} {n c : Nat} {T : List Mg} (h : MsgsW w B a n c T) {k : Nat} {m : Mg} (hm : T[k]? = some m) (hz : m.zs.length ≤ 281474976710656) : ∃ g ma mc, a = some ⟨g, 0, none⟩ ∧ B ≤ g ∧ g < w.heap.size ∧ n ≤ c ∧ (∀ i u, (m.v ma mc)[i]? = some u → w.cell? ⟨g, k * 5 + i, none⟩ = some u) ∧ Sl w ma m.zs.length mc m.zs := by
  have hn := h.len
  obtain ⟨xs, h1, h2, h3⟩ := h.ex
  have hk := (List.getElem?_eq_some_iff.1 hm).1
  rw [← h1, List.getElem?_map] at hm
  obtain ⟨x, hx, e⟩ := Option.map_eq_some_iff.1 hm
  obtain ⟨g, e1, hB, hg, hc, _, hcell, _⟩ := OwnG.at_ h2 (fun _ => rfl) (by omega)
  subst e
  exact ⟨g, x.2.1, x.2.2, e1, hB, hg, hc, fun i u hu => hcell k x hx i u hu, (h3 x (List.mem_of_getElem? hx)).sl hz⟩
theorem MsR.getK {w0 w : World} {B M : Nat} {ma : Option Addr} {mc : Nat} {mg : Nat → Mg} (h : MsR w0 w B M ma mc mg) {j : Nat} (hj : j < M) : ∃ g xa xc, ma = some ⟨g, 0, none⟩ ∧ B ≤ g ∧ g < w.heap.size ∧ M ≤ mc ∧ (∀ i u, ((mg j).v xa xc)[i]? = some u → w.cell? ⟨g, j * 5 + i, none⟩ = some u) ∧ Sl w0 xa (mg j).zs.length xc (mg j).zs := by
  obtain ⟨ad, h1, h2⟩ := h.ex
  obtain ⟨g, e1, hB, hg, hc, _, hcell, _⟩ := OwnG.at_ h1 (fun _ => rfl) (by omega)
  exact ⟨g, (ad j).1, (ad j).2, e1, hB, hg, hc, fun i u hu => hcell j (mg j, ad j) (by rw [List.getElem?_map, List.getElem?_range hj]; rfl) i u hu, h2 j hj⟩
theorem CsR.getK {w : World} {B N : Nat} {ca : Option Addr} {cc first : Nat} {pd : Nat → Pd} (h : CsR w B N ca cc first pd) (hN : 0 < N) : ∃ g ad, ca = some ⟨g, 0, none⟩ ∧ g < w.heap.size ∧ N ≤ cc ∧ (∀ j, j < N → w.rangeAt g (j * 14) (ckJ first pd ad j).cells) ∧ ∀ j, j < N → OwnB w B (ad j).1 (pd j).zs.length (ad j).2 (pd j).zs := by
  obtain ⟨ad, h1, h2⟩ := h.ex
  obtain ⟨g, e1, hB, hg, hc, _, hcell, _⟩ := OwnG.at_ h1 (fun _ => rfl) hN
  exact ⟨g, ad, e1, hg, hc, fun j hj i u hu => hcell j (ckJ first pd ad j) (by rw [List.getElem?_map, List.getElem?_range hj]; rfl) i u hu, h2⟩
theorem ck_val (c : Ck) (v : Value) (h : v = .agg c.cells.toArray) : v = c.val := by
  subst h
  rfl
/-- How many were told of a stream that are not free. -/
def tldN (mg : Nat → Mg) (L : List Nat) (st : Nat) : Nat := (L.filter fun i => !(mg i).fr && ((mg i).st == st)).length
theorem tldN_app (mg : Nat → Mg) (L : List Nat) (x st : Nat) : tldN mg (L ++ [x]) st = tldN mg L st + (if (mg x).fr = false ∧ (mg x).st = st then 1 else 0) := by
  unfold tldN
  rw [List.filter_append, List.length_append]
  congr 1
  cases e : (mg x).fr <;> by_cases e2 : (mg x).st = st <;> simp [e, e2]
def ntL (k : IntKind) (mg : Nat → Mg) (L : List Nat) : List Value := (List.range 8).map fun st => Value.int k (tldN mg L st : Nat)
theorem nt_free {k : IntKind} {mg : Nat → Mg} {L : List Nat} {x : Nat} (h : (mg x).fr = true) : ntL k mg (L ++ [x]) = ntL k mg L := by
  unfold ntL
  refine List.map_congr_left (fun st _ => ?_)
  rw [tldN_app, h]
  simp
theorem nt_turn {k : IntKind} {mg : Nat → Mg} {L : List Nat} {x : Nat} (h : (mg x).fr = false) (h8 : (mg x).st < 8) (v : Value) (hv : v = .int k ((tldN mg L (mg x).st + 1 : Nat) : Int)) : ntL k mg (L ++ [x]) = (ntL k mg L).set (mg x).st v := by
  subst hv
  unfold ntL
  refine List.ext_getElem? (fun i => ?_)
  rw [List.getElem?_set, List.length_map, List.length_range, List.getElem?_map, List.getElem?_map]
  by_cases hi : i < 8
  · rw [List.getElem?_range hi]
    by_cases e : (mg x).st = i
    · subst e
      simp [h8, tldN_app, h]
    · simp [e, tldN_app]
  · rw [List.getElem?_eq_none (by simpa using hi), if_neg (by omega)]
    rfl
theorem nt_at (k : IntKind) (mg : Nat → Mg) (L : List Nat) (st : Nat) (h : st < 8) : (ntL k mg L)[st]? = some (.int k (tldN mg L st : Nat)) := by
  unfold ntL
  rw [List.getElem?_map, List.getElem?_range h]
  rfl
/-- The next message of a stream. -/
theorem tld_next {first M N : Nat} {mg : Nat → Mg} {o : Nat → Nat} {pd : Nat → Pd} {A : Nat → Bool} {s : SmS} {I J : List Nat} (h : Iv first M N mg o pd A s (I ++ J)) {k x : Nat} (hx : J[k]? = some x) (hf : (mg x).fr = false) (h8 : (mg x).st < 8) : (mg x).ss = tldN mg (I ++ J.take k) (mg x).st := by
  have hk := (List.getElem?_eq_some_iff.1 hx).1
  have e : I ++ J = (I ++ J.take k) ++ x :: J.drop (k + 1) := by
    rw [List.append_assoc]
    congr 1
    have h2 : J.drop k = x :: J.drop (k + 1) := by
      rw [List.drop_eq_getElem_cons hk]
      congr 1
      exact (List.getElem?_eq_some_iff.1 hx).2
    rw [← h2, List.take_append_drop]
  exact told_next (h.t4 (mg x).st h8) e hf rfl
theorem tldN_le (mg : Nat → Mg) (L : List Nat) (st : Nat) : tldN mg L st ≤ L.length := List.length_filter_le _ _
end Go.Proofs.Ytjaheelgcjafcaa
