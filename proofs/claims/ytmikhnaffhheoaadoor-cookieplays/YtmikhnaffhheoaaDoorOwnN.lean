/- A slice of pairs (number) that the call itself has made: append, its cells. -/
import Derived.Test.YtmikhnaffhheoaaDoorProg
import Derived.Test.YtmikhnaffhheoaaDoorBase
import Derived.OwnWalk
import Derived.Laws.AppendOwnNone
import Derived.Laws.OwnMore
import Derived.ArgAppend
namespace Go.Proofs.YtmikhnaffhheoaaDoor
open Go.RowKit
def valsN (ps : List (Nat × Nat)) : List Value := ps.flatMap fun p => [Value.int .u64 (p.1 : Nat), Value.int .i64 (p.2 : Nat)]
theorem valsN_nil : valsN [] = [] := rfl
theorem valsN_cons (p : Nat × Nat) (ps : List (Nat × Nat)) : valsN (p :: ps) = Value.int .u64 (p.1 : Nat) :: Value.int .i64 (p.2 : Nat) :: valsN ps := rfl
theorem valsN_app (ps qs : List (Nat × Nat)) : valsN (ps ++ qs) = valsN ps ++ valsN qs := by simp [valsN]
theorem valsN_len (ps : List (Nat × Nat)) : (valsN ps).length = ps.length * 2 := by
  induction ps with
  | nil => rfl
  | cons p ps ih => rw [valsN_cons, List.length_cons, List.length_cons, ih, List.length_cons]; omega
theorem valsN_one (ps : List (Nat × Nat)) : ∀ u ∈ valsN ps, u.oneCell' = true := by
  induction ps with
  | nil => intro u hu; simp [valsN] at hu
  | cons p ps ih =>
    intro u hu
    rw [valsN_cons] at hu
    rcases List.mem_cons.1 hu with rfl | hu
    · rfl
    · rcases List.mem_cons.1 hu with rfl | hu
      · rfl
      · exact ih u hu
theorem valsN_at (ps : List (Nat × Nat)) : ∀ j, j < ps.length → (valsN ps)[2 * j]? = some (.int .u64 ((ps.getD j (0, 0)).1 : Nat)) ∧ (valsN ps)[2 * j + 1]? = some (.int .i64 ((ps.getD j (0, 0)).2 : Nat)) := by
  induction ps with
  | nil => intro j h; simp at h
  | cons p ps ih =>
    intro j h
    rw [valsN_cons]
    cases j with
    | zero => simp
    | succ j =>
      have := ih j (by simpa using h)
      rw [show 2 * (j + 1) = 2 * j + 1 + 1 from by omega]
      simpa using this
structure OwnN (w : World) (B : Nat) (a : Option Addr) (n c : Nat) (ps : List (Nat × Nat)) : Prop where
  len : ps.length = n
  own : w.ownsRow B 63 2 (.slice a n c) n (valsN ps)
  bnd : ∀ p ∈ ps, p.1 < 18446744073709551616 ∧ p.2 ≤ 8
theorem OwnN.nil (w : World) (B : Nat) : OwnN w B none 0 0 [] := ⟨rfl, World.ownsRow_nil w B _ _, fun p hp => by simp at hp⟩
theorem ownN_empty (w : World) : OwnN (w.alloc (.cells #[] 63)) w.heap.size (some ⟨w.heap.size, 0, none⟩) 0 0 [] := by
  refine ⟨rfl, ⟨rfl, .inr ⟨w.heap.size, 0, #[], rfl, Nat.le_refl _, ?_, Nat.le_refl _, by unfold maxLen; omega, rfl, rfl⟩⟩, fun p hp => by simp at hp⟩
  show (w.heap.push _)[w.heap.size]? = _
  simp
theorem OwnN.kept {w w' : World} {B : Nat} {a : Option Addr} {n c : Nat} {ps : List (Nat × Nat)} {row : Option Nat} (h : OwnN w B a n c ps) (hg : w.grownBy w' row) (hne : (Value.slice a n c).ownBlock = none ∨ (Value.slice a n c).ownBlock ≠ row) : OwnN w' B a n c ps :=
  ⟨h.len, h.own.kept hg hne, h.bnd⟩
theorem OwnN.base {w : World} {B B' : Nat} {a : Option Addr} {n c : Nat} {ps : List (Nat × Nat)} (h : OwnN w B a n c ps) (hB : B' ≤ B) : OwnN w B' a n c ps := by
  obtain ⟨h1, ⟨h2, h3⟩, h4⟩ := h
  refine ⟨h1, ⟨h2, ?_⟩, h4⟩
  rcases h3 with h3 | ⟨g, cap, cur, hv, hb, hr⟩
  · exact .inl h3
  · exact .inr ⟨g, cap, cur, hv, Nat.le_trans hB hb, hr⟩
theorem OwnN.below {w w' : World} {B : Nat} {a : Option Addr} {n c : Nat} {ps : List (Nat × Nat)} (h : OwnN w B a n c ps) (hb : Below w.heap.size w w') : OwnN w' B a n c ps :=
  h.kept (row := none) ⟨hb.os, hb.tape, hb.output, hb.size, fun k hk _ => hb.block k hk⟩ (by cases (Value.slice a n c).ownBlock <;> simp)
theorem OwnN.alloc {w : World} {B : Nat} {a : Option Addr} {n c : Nat} {ps : List (Nat × Nat)} (h : OwnN w B a n c ps) (o : Obj) : OwnN (w.alloc o) B a n c ps :=
  h.below ((Below.refl _ _).alloc (Nat.le_refl _) _)
theorem OwnN.up {w w' : World} {B : Nat} {a : Option Addr} {n c : Nat} {ps : List (Nat × Nat)} (h : OwnN w B a n c ps) (hg : w.grownBy w' (Value.slice a n c).ownBlock) (hB : B ≤ w.heap.size) : Below B w w' :=
  (Below.refl B w).grown hg hB (fun k hk => (h.own.lt k hk).1)
/-- Where it lies, if it has a pair. -/
theorem OwnN.at_ {w : World} {B : Nat} {a : Option Addr} {n c : Nat} {ps : List (Nat × Nat)} (h : OwnN w B a n c ps) (hn : 0 < n) : ∃ g, a = some ⟨g, 0, none⟩ ∧ B ≤ g ∧ g < w.heap.size ∧ n ≤ c ∧ c ≤ maxLen ∧
    (∀ i, i < n → w.cell? ⟨g, i * 2, none⟩ = some (.int .u64 ((ps.getD i (0, 0)).1 : Nat)) ∧ w.cell? ⟨g, i * 2 + 1, none⟩ = some (.int .i64 ((ps.getD i (0, 0)).2 : Nat))) ∧ (∀ o, w.frozen? ⟨g, o, none⟩ = false) := by
  have hl := h.len
  have ho := h.own
  rcases h.own.2 with ⟨_, h0⟩ | ⟨g, cap, cur, hv, hBg, hh, hnc, hcm, hcs, htake⟩
  · omega
  · injection hv with e1 e2 e3
    subst e1 e3
    refine ⟨g, rfl, hBg, (ho.lt g rfl).2, hnc, hcm, fun i hi => ?_, fun o => ?_⟩
    · have hv := valsN_at ps i (by omega)
      rw [Nat.mul_comm 2 i] at hv
      exact ⟨by rw [ho.cellAt (i * 2) (by omega), hv.1], by rw [ho.cellAt (i * 2 + 1) (by omega), hv.2]⟩
    · simp [World.frozen?, hh]
theorem own_infoN : (Tryd.prog.info? 63).map (fun i => (i.zero, i.size, i.bytes)) = some (some (.agg #[.int .u64 0, .int .i64 0]), 2, 16) := by kernel_rfl
/-- One pair more. -/
theorem app_wpN {o : Oper} {a : Act} {w : World} {K : Act → World → Prop} {Q : Exit → Act → World → Prop} (s x : Operand)
    (ho : o.op = .call { callee := .builtin .append, args := #[s, x], argTypes := #[58, 58] })
    (B : Nat) (ad : Option Addr) (n c : Nat) (ps : List (Nat × Nat)) (hs : a.eval s = .slice ad n c) (hown : OwnN w B ad n c ps)
    (g y z : Nat) (hx : a.eval x = .slice (some ⟨g, 0, none⟩) 1 1) (hc0 : w.cell? ⟨g, 0, none⟩ = some (.int .u64 (y : Nat))) (hc1 : w.cell? ⟨g, 1, none⟩ = some (.int .i64 (z : Nat))) (hy : y < 18446744073709551616) (hz : z ≤ 8) (hb : (n + 1) * 16 ≤ 140737488355328) (hB : B ≤ w.heap.size)
    (h : ∀ a' c' w', OwnN w' B a' (n + 1) c' (ps ++ [(y, z)]) → w.grownBy w' (Value.slice ad n c).ownBlock → K (a.put o.dst (.slice a' (n + 1) c')) w') : o.wp Tryd.prog a w K Q := by
  obtain ⟨i, hi, hz0, hz1, hz2⟩ := info_parts own_infoN
  have hnews : ∀ j u, (valsN [(y, z)])[j]? = some u → w.cell? ((⟨g, 0, none⟩ : Addr).add j) = some u := by
    intro j u hj
    have hv : valsN [(y, z)] = [.int .u64 (y : Nat), .int .i64 (z : Nat)] := rfl
    rw [hv] at hj
    rcases j with _ | _ | j
    · simp at hj; subst hj; simpa [Addr.add] using hc0
    · simp at hj; subst hj; simpa [Addr.add] using hc1
    · simp at hj
  obtain ⟨v', w', hr, hown', hg', _⟩ := run_append_own (P := Tryd.prog) w B 58 o.type 63 i (.agg #[.int .u64 0, .int .i64 0]) 2 16 Tryd.underlying58 hi hz0 hz1 hz2 rfl (by decide) (.slice ad n c) n (valsN ps) hown.own ⟨g, 0, none⟩ 1 1 (valsN [(y, z)]) rfl hnews (valsN_one _) (by unfold maxLen; omega) hb hB
  rw [← valsN_app] at hown'
  have hex : ∃ a' c', v' = .slice a' (n + 1) c' := by
    rcases hown'.2 with ⟨_, e⟩ | ⟨g, cap, cur, rfl, _⟩
    · omega
    · exact ⟨_, _, rfl⟩
  obtain ⟨a', c', rfl⟩ := hex
  have := h a' c' w' ⟨by simp [hown.len], hown', fun p hp => by
    rcases List.mem_append.1 hp with hp | hp
    · exact hown.bnd p hp
    · simp at hp; subst hp; exact ⟨hy, hz⟩⟩ hg'
  unfold Oper.wp
  simp [execOp, ho, resolve, invoke, builtin, hs, hx, hr, Result.andThen]
  exact this
theorem app_listN {ops : Array Oper} {rest : List Oper} {o : Oper} {a : Act} {w : World} {Q : Exit → Act → World → Prop} (hgd : Region.wanted o (yielded ops a.tmps) = true) (s x : Operand)
    (ho : o.op = .call { callee := .builtin .append, args := #[s, x], argTypes := #[58, 58] })
    (B : Nat) (ad : Option Addr) (n c : Nat) (ps : List (Nat × Nat)) (hs : a.eval s = .slice ad n c) (hown : OwnN w B ad n c ps)
    (g y z : Nat) (hx : a.eval x = .slice (some ⟨g, 0, none⟩) 1 1) (hc0 : w.cell? ⟨g, 0, none⟩ = some (.int .u64 (y : Nat))) (hc1 : w.cell? ⟨g, 1, none⟩ = some (.int .i64 (z : Nat))) (hy : y < 18446744073709551616) (hz : z ≤ 8) (hb : (n + 1) * 16 ≤ 140737488355328) (hB : B ≤ w.heap.size)
    (h : ∀ a' c' w', OwnN w' B a' (n + 1) c' (ps ++ [(y, z)]) → w.grownBy w' (Value.slice ad n c).ownBlock → wpList Tryd.prog ops Q rest (a.put o.dst (.slice a' (n + 1) c')) w') : wpList Tryd.prog ops Q (o :: rest) a w :=
  wpList_step fun K hK => by
    rw [if_pos hgd]
    exact app_wpN s x ho B ad n c ps hs hown g y z hx hc0 hc1 hy hz hb hB fun a' c' w' h1 h2 => hK _ _ (h a' c' w' h1 h2)
/-- The law for a region that draws its order. -/
theorem app_stepN {ops : Array Oper} {o : Oper} {a : Act} {w : World} {K : Act → World → Prop} {Q : Exit → Act → World → Prop} {E : Prop} (hgd : o.guard = none) (s x : Operand)
    (ho : o.op = .call { callee := .builtin .append, args := #[s, x], argTypes := #[58, 58] })
    (B : Nat) (ad : Option Addr) (n c : Nat) (ps : List (Nat × Nat)) (hs : a.eval s = .slice ad n c) (hown : OwnN w B ad n c ps)
    (g y z : Nat) (hx : a.eval x = .slice (some ⟨g, 0, none⟩) 1 1) (hc0 : w.cell? ⟨g, 0, none⟩ = some (.int .u64 (y : Nat))) (hc1 : w.cell? ⟨g, 1, none⟩ = some (.int .i64 (z : Nat))) (hy : y < 18446744073709551616) (hz : z ≤ 8) (hb : (n + 1) * 16 ≤ 140737488355328) (hB : B ≤ w.heap.size)
    (h : ∀ a' c' w', OwnN w' B a' (n + 1) c' (ps ++ [(y, z)]) → w.grownBy w' (Value.slice ad n c).ownBlock → K (a.put o.dst (.slice a' (n + 1) c')) w') :
    if Region.wanted o (yielded ops a.tmps) = true then Oper.wp Tryd.prog o a w K Q else E := by
  have hw : Region.wanted o (yielded ops a.tmps) = true := by simp [Region.wanted, hgd]
  rw [if_pos hw]
  exact app_wpN s x ho B ad n c ps hs hown g y z hx hc0 hc1 hy hz hb hB h
end Go.Proofs.YtmikhnaffhheoaaDoor
