/- A slice of pairs ([2]uint16) that the call itself has made: append, a store into its last pair, its cells. -/
import Derived.Test.YtlgpabdadnfbeaaProg
import Derived.Test.YtlgpabdadnfbeaaBase
import Derived.OwnWalk
import Derived.Laws.AppendOwnNone
import Derived.Laws.OwnMore
import Derived.ArgAppend
namespace Go.Proofs.Ytlgpabdadnfbeaa
open Go.RowKit
def valsQ (ps : List (Nat × Nat)) : List Value := ps.flatMap fun p => [Value.int .u16 (p.1 : Nat), Value.int .u16 (p.2 : Nat)]
theorem valsQ_nil : valsQ [] = [] := rfl
theorem valsQ_cons (p : Nat × Nat) (ps : List (Nat × Nat)) : valsQ (p :: ps) = Value.int .u16 (p.1 : Nat) :: Value.int .u16 (p.2 : Nat) :: valsQ ps := rfl
theorem valsQ_app (ps qs : List (Nat × Nat)) : valsQ (ps ++ qs) = valsQ ps ++ valsQ qs := by simp [valsQ]
theorem valsQ_len (ps : List (Nat × Nat)) : (valsQ ps).length = ps.length * 2 := by
  induction ps with
  | nil => rfl
  | cons p ps ih => rw [valsQ_cons, List.length_cons, List.length_cons, ih, List.length_cons]; omega
theorem valsQ_one (ps : List (Nat × Nat)) : ∀ u ∈ valsQ ps, u.oneCell' = true := by
  induction ps with
  | nil => intro u hu; simp [valsQ] at hu
  | cons p ps ih =>
    intro u hu
    rw [valsQ_cons] at hu
    rcases List.mem_cons.1 hu with rfl | hu
    · rfl
    · rcases List.mem_cons.1 hu with rfl | hu
      · rfl
      · exact ih u hu
theorem valsQ_at (ps : List (Nat × Nat)) : ∀ j, j < ps.length → (valsQ ps)[2 * j]? = some (.int .u16 ((ps.getD j (0, 0)).1 : Nat)) ∧ (valsQ ps)[2 * j + 1]? = some (.int .u16 ((ps.getD j (0, 0)).2 : Nat)) := by
  induction ps with
  | nil => intro j h; simp at h
  | cons p ps ih =>
    intro j h
    rw [valsQ_cons]
    cases j with
    | zero => simp
    | succ j =>
      have := ih j (by simpa using h)
      rw [show 2 * (j + 1) = 2 * j + 1 + 1 from by omega]
      simpa using this
theorem valsQ_set (ps : List (Nat × Nat)) (y : Nat) : ∀ j, (valsQ ps).set (2 * j + 1) (.int .u16 (y : Nat)) = valsQ (ps.set j ((ps.getD j (0, 0)).1, y)) := by
  induction ps with
  | nil => intro j; simp [valsQ]
  | cons p ps ih =>
    intro j
    cases j with
    | zero => rw [valsQ_cons]; simp [valsQ_cons]
    | succ j =>
      have := ih j
      rw [valsQ_cons, show 2 * (j + 1) + 1 = (2 * j + 1) + 1 + 1 from by omega, List.set_cons_succ, List.set_cons_succ, this]
      simp [valsQ_cons]
structure OwnQ (w : World) (B : Nat) (a : Option Addr) (n c : Nat) (ps : List (Nat × Nat)) : Prop where
  len : ps.length = n
  own : w.ownsRow B 33 2 (.slice a n c) n (valsQ ps)
  bnd : ∀ p ∈ ps, p.1 < 65536 ∧ p.2 < 65536
theorem OwnQ.nil (w : World) (B : Nat) : OwnQ w B none 0 0 [] := ⟨rfl, World.ownsRow_nil w B _ _, fun p hp => by simp at hp⟩
theorem ownQ_empty (w : World) : OwnQ (w.alloc (.cells #[] 33)) w.heap.size (some ⟨w.heap.size, 0, none⟩) 0 0 [] := by
  refine ⟨rfl, ⟨rfl, .inr ⟨w.heap.size, 0, #[], rfl, Nat.le_refl _, ?_, Nat.le_refl _, by unfold maxLen; omega, rfl, rfl⟩⟩, fun p hp => by simp at hp⟩
  show (w.heap.push _)[w.heap.size]? = _
  simp
theorem OwnQ.kept {w w' : World} {B : Nat} {a : Option Addr} {n c : Nat} {ps : List (Nat × Nat)} {row : Option Nat} (h : OwnQ w B a n c ps) (hg : w.grownBy w' row) (hne : (Value.slice a n c).ownBlock = none ∨ (Value.slice a n c).ownBlock ≠ row) : OwnQ w' B a n c ps :=
  ⟨h.len, h.own.kept hg hne, h.bnd⟩
theorem OwnQ.base {w : World} {B B' : Nat} {a : Option Addr} {n c : Nat} {ps : List (Nat × Nat)} (h : OwnQ w B a n c ps) (hB : B' ≤ B) : OwnQ w B' a n c ps := by
  obtain ⟨h1, ⟨h2, h3⟩, h4⟩ := h
  refine ⟨h1, ⟨h2, ?_⟩, h4⟩
  rcases h3 with h3 | ⟨g, cap, cur, hv, hb, hr⟩
  · exact .inl h3
  · exact .inr ⟨g, cap, cur, hv, Nat.le_trans hB hb, hr⟩
theorem OwnQ.below {w w' : World} {B : Nat} {a : Option Addr} {n c : Nat} {ps : List (Nat × Nat)} (h : OwnQ w B a n c ps) (hb : Below w.heap.size w w') : OwnQ w' B a n c ps :=
  h.kept (row := none) ⟨hb.os, hb.tape, hb.output, hb.size, fun k hk _ => hb.block k hk⟩ (by cases (Value.slice a n c).ownBlock <;> simp)
theorem OwnQ.alloc {w : World} {B : Nat} {a : Option Addr} {n c : Nat} {ps : List (Nat × Nat)} (h : OwnQ w B a n c ps) (o : Obj) : OwnQ (w.alloc o) B a n c ps :=
  h.below ((Below.refl _ _).alloc (Nat.le_refl _) _)
theorem OwnQ.up {w w' : World} {B : Nat} {a : Option Addr} {n c : Nat} {ps : List (Nat × Nat)} (h : OwnQ w B a n c ps) (hg : w.grownBy w' (Value.slice a n c).ownBlock) (hB : B ≤ w.heap.size) : Below B w w' :=
  (Below.refl B w).grown hg hB (fun k hk => (h.own.lt k hk).1)
/-- Where it lies, if it has a pair. -/
theorem OwnQ.at_ {w : World} {B : Nat} {a : Option Addr} {n c : Nat} {ps : List (Nat × Nat)} (h : OwnQ w B a n c ps) (hn : 0 < n) : ∃ g, a = some ⟨g, 0, none⟩ ∧ B ≤ g ∧ g < w.heap.size ∧ n ≤ c ∧ c ≤ maxLen ∧
    (∀ i, i < n → w.cell? ⟨g, i * 2, none⟩ = some (.int .u16 ((ps.getD i (0, 0)).1 : Nat)) ∧ w.cell? ⟨g, i * 2 + 1, none⟩ = some (.int .u16 ((ps.getD i (0, 0)).2 : Nat))) ∧ (∀ o, w.frozen? ⟨g, o, none⟩ = false) := by
  have hl := h.len
  have ho := h.own
  rcases h.own.2 with ⟨_, h0⟩ | ⟨g, cap, cur, hv, hBg, hh, hnc, hcm, hcs, htake⟩
  · omega
  · injection hv with e1 e2 e3
    subst e1 e3
    refine ⟨g, rfl, hBg, (ho.lt g rfl).2, hnc, hcm, fun i hi => ?_, fun o => ?_⟩
    · have hv := valsQ_at ps i (by omega)
      rw [Nat.mul_comm 2 i] at hv
      exact ⟨by rw [ho.cellAt (i * 2) (by omega), hv.1], by rw [ho.cellAt (i * 2 + 1) (by omega), hv.2]⟩
    · simp [World.frozen?, hh]
theorem own_infoQ : (Try.prog.info? 33).map (fun i => (i.zero, i.size, i.bytes)) = some (some (.agg #[.int .u16 0, .int .u16 0]), 2, 4) := by kernel_rfl
/-- One pair more. -/
theorem app_wpQ {o : Oper} {a : Act} {w : World} {K : Act → World → Prop} {Q : Exit → Act → World → Prop} (s x : Operand)
    (ho : o.op = .call { callee := .builtin .append, args := #[s, x], argTypes := #[30, 30] })
    (B : Nat) (ad : Option Addr) (n c : Nat) (ps : List (Nat × Nat)) (hs : a.eval s = .slice ad n c) (hown : OwnQ w B ad n c ps)
    (g y z : Nat) (hx : a.eval x = .slice (some ⟨g, 0, none⟩) 1 1) (hc0 : w.cell? ⟨g, 0, none⟩ = some (.int .u16 (y : Nat))) (hc1 : w.cell? ⟨g, 1, none⟩ = some (.int .u16 (z : Nat))) (hy : y < 65536) (hz : z < 65536) (hb : (n + 1) * 4 ≤ 140737488355328) (hB : B ≤ w.heap.size)
    (h : ∀ a' c' w', OwnQ w' B a' (n + 1) c' (ps ++ [(y, z)]) → w.grownBy w' (Value.slice ad n c).ownBlock → K (a.put o.dst (.slice a' (n + 1) c')) w') : o.wp Try.prog a w K Q := by
  obtain ⟨i, hi, hz0, hz1, hz2⟩ := info_parts own_infoQ
  have hnews : ∀ j u, (valsQ [(y, z)])[j]? = some u → w.cell? ((⟨g, 0, none⟩ : Addr).add j) = some u := by
    intro j u hj
    have hv : valsQ [(y, z)] = [.int .u16 (y : Nat), .int .u16 (z : Nat)] := rfl
    rw [hv] at hj
    rcases j with _ | _ | j
    · simp at hj; subst hj; simpa [Addr.add] using hc0
    · simp at hj; subst hj; simpa [Addr.add] using hc1
    · simp at hj
  obtain ⟨v', w', hr, hown', hg', _⟩ := run_append_own (P := Try.prog) w B 30 o.type 33 i (.agg #[.int .u16 0, .int .u16 0]) 2 4 Try.underlying30 hi hz0 hz1 hz2 rfl (by decide) (.slice ad n c) n (valsQ ps) hown.own ⟨g, 0, none⟩ 1 1 (valsQ [(y, z)]) rfl hnews (valsQ_one _) (by unfold maxLen; omega) hb hB
  rw [← valsQ_app] at hown'
  have hex : ∃ a' c', v' = .slice a' (n + 1) c' := by
    rcases hown'.2 with ⟨_, e⟩ | ⟨g, cap, cur, rfl, _⟩
    · omega
    · exact ⟨_, _, rfl⟩
  obtain ⟨a', c', rfl⟩ := hex
  have := h a' c' w' ⟨by simp [hown.len], hown', fun p hp => by
    rcases List.mem_append.1 hp with hp | hp
    · exact hown.bnd p hp
    · simp at hp; subst hp; exact ⟨hy, hz⟩⟩ hg'
  unfold Oper.wp
  simp [execOp, ho, resolve, invoke, builtin, hs, hx, hr, Result.andThen]
  exact this
theorem app_listQ {ops : Array Oper} {rest : List Oper} {o : Oper} {a : Act} {w : World} {Q : Exit → Act → World → Prop} (hgd : Region.wanted o (yielded ops a.tmps) = true) (s x : Operand)
    (ho : o.op = .call { callee := .builtin .append, args := #[s, x], argTypes := #[30, 30] })
    (B : Nat) (ad : Option Addr) (n c : Nat) (ps : List (Nat × Nat)) (hs : a.eval s = .slice ad n c) (hown : OwnQ w B ad n c ps)
    (g y z : Nat) (hx : a.eval x = .slice (some ⟨g, 0, none⟩) 1 1) (hc0 : w.cell? ⟨g, 0, none⟩ = some (.int .u16 (y : Nat))) (hc1 : w.cell? ⟨g, 1, none⟩ = some (.int .u16 (z : Nat))) (hy : y < 65536) (hz : z < 65536) (hb : (n + 1) * 4 ≤ 140737488355328) (hB : B ≤ w.heap.size)
    (h : ∀ a' c' w', OwnQ w' B a' (n + 1) c' (ps ++ [(y, z)]) → w.grownBy w' (Value.slice ad n c).ownBlock → wpList Try.prog ops Q rest (a.put o.dst (.slice a' (n + 1) c')) w') : wpList Try.prog ops Q (o :: rest) a w :=
  wpList_step fun K hK => by
    rw [if_pos hgd]
    exact app_wpQ s x ho B ad n c ps hs hown g y z hx hc0 hc1 hy hz hb hB fun a' c' w' h1 h2 => hK _ _ (h a' c' w' h1 h2)
/-- The law for a region that draws its order. -/
theorem app_stepQ {ops : Array Oper} {o : Oper} {a : Act} {w : World} {K : Act → World → Prop} {Q : Exit → Act → World → Prop} {E : Prop} (hgd : o.guard = none) (s x : Operand)
    (ho : o.op = .call { callee := .builtin .append, args := #[s, x], argTypes := #[30, 30] })
    (B : Nat) (ad : Option Addr) (n c : Nat) (ps : List (Nat × Nat)) (hs : a.eval s = .slice ad n c) (hown : OwnQ w B ad n c ps)
    (g y z : Nat) (hx : a.eval x = .slice (some ⟨g, 0, none⟩) 1 1) (hc0 : w.cell? ⟨g, 0, none⟩ = some (.int .u16 (y : Nat))) (hc1 : w.cell? ⟨g, 1, none⟩ = some (.int .u16 (z : Nat))) (hy : y < 65536) (hz : z < 65536) (hb : (n + 1) * 4 ≤ 140737488355328) (hB : B ≤ w.heap.size)
    (h : ∀ a' c' w', OwnQ w' B a' (n + 1) c' (ps ++ [(y, z)]) → w.grownBy w' (Value.slice ad n c).ownBlock → K (a.put o.dst (.slice a' (n + 1) c')) w') :
    if Region.wanted o (yielded ops a.tmps) = true then Oper.wp Try.prog o a w K Q else E := by
  have hw : Region.wanted o (yielded ops a.tmps) = true := by simp [Region.wanted, hgd]
  rw [if_pos hw]
  exact app_wpQ s x ho B ad n c ps hs hown g y z hx hc0 hc1 hy hz hb hB h
/-- A store into the second number of a pair. -/
theorem OwnQ.store {w : World} {B g n c : Nat} {ps : List (Nat × Nat)} (h : OwnQ w B (some ⟨g, 0, none⟩) n c ps) (j y : Nat) (hj : j < n) (hy : y < 65536) :
    OwnQ (w.setCell ⟨g, j * 2 + 1, none⟩ (.int .u16 (y : Nat))) B (some ⟨g, 0, none⟩) n c (ps.set j ((ps.getD j (0, 0)).1, y)) := by
  have hl := h.len
  rw [Nat.mul_comm j 2]
  have hs := (h.own.stored (2 * j + 1) (.int .u16 (y : Nat))).1
  rw [valsQ_set] at hs
  refine ⟨by simp [hl], hs, fun p hp => ?_⟩
  rcases List.mem_or_eq_of_mem_set hp with hp | rfl
  · exact h.bnd p hp
  · refine ⟨?_, hy⟩
    have : ps.getD j (0, 0) ∈ ps := by
      rw [List.getD_eq_getElem?_getD, List.getElem?_eq_getElem (by omega)]
      exact List.getElem_mem _
    exact (h.bnd _ this).1
end Go.Proofs.Ytlgpabdadnfbeaa
