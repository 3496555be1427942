/- judge: what a book's maps become: a free message counted, a row grown, a number told. -/
import Derived.Test.YtpdnkbhgobdniaaJd2
namespace Go.Proofs.Ytpdnkbhgobdniaa
open Go.RowKit Go.MapKept Go.Maps
section
variable {w0 w w' : World} {own own' : Ow} {q : Sd} {r l t n : Nat} {p : Bp}
theorem BkOk.ne (h : BkOk w0 w own q r l t p n) : r ≠ l ∧ r ≠ t ∧ l ≠ t := by
  refine ⟨fun e => ?_, fun e => ?_, fun e => ?_⟩
  · have := h.hr; rw [e, h.hl] at this; simp at this
  · have := h.hr; rw [e, h.ht] at this; simp at this
  · have := h.hl; rw [e, h.ht] at this; simp at this
theorem rowNe {b i : Nat} (hb : own b = some (q, i)) (hi : i < 3) {s g : Nat} (hg : own g = some (q, 3 + s)) : g ≠ b := fun e => by
  rw [e, hb] at hg
  simp at hg
  omega
/-- m.loose[k] = v, by way of its entry. -/
theorem BkOk.entry (h : BkOk w0 w own q r l t p n) (k : Cn) (hk : CnK k) (v : Int) (hv : 0 ≤ v ∧ v ≤ (n + 1 : Nat)) :
    (Instr.lookup 51 (.map (some l)) (cnV k) false).run Try.prog w = .ok (.int .i64 (p.loose k)) w ∧
    ∃ w5 st w6, (Instr.mapEntry 51 (.map (some l)) (cnV k)).run Try.prog w = .ok (.tuple #[.int .i64 (p.loose k), st]) w5 ∧
      (Instr.lookup 51 (.map (some l)) (cnV k) false).run Try.prog w5 = .ok (.int .i64 (p.loose k)) w5 ∧
      (Instr.entryStore 51 (.map (some l)) st (.int .i64 v)).run Try.prog w5 = .ok () w6 ∧
      BkOk w0 w6 own q r l t { p with loose := fun k' => if k' = k then v else p.loose k' } (n + 1) ∧ Fr (· = l) w w5 ∧ Fr (· = l) w w6 := by
  have hmono := h.mono (Nat.le_add_right n 1)
  obtain ⟨n1, n2, n3⟩ := h.ne
  obtain ⟨gl, m1, m2⟩ := h.ml
  have hlk := m1.look cnKE false Try.underlying51 (zero_int _) hk
  rw [if_neg (by simp), m2 k hk] at hlk
  obtain ⟨w5, st, e1, e2, e3, e4, e5⟩ := m1.entry cnKE Try.underlying51 (zero_int _) hk
  obtain ⟨w6, f1, f2, f3, f4⟩ := e5 (.int .i64 v) w5 rfl
  have hlk5 := e2.look cnKE false Try.underlying51 (zero_int _) hk
  rw [if_neg (by simp)] at hlk5
  have hx : (mset gl k ((gl k).getD (.int .i64 0)) k).getD (.int .i64 0) = .int .i64 (p.loose k) := by
    unfold mset
    rw [if_pos rfl, m2 k hk]
    rfl
  rw [hx] at hlk5
  rw [m2 k hk] at e1
  have hfr := e3.trans f3
  refine ⟨hlk, w5, st, w6, e1, hlk5, f1, ?_, e3, hfr⟩
  refine ⟨h.hr, h.hl, h.ht, ?_, ⟨_, f2, fun k' hk' => ?_⟩, ?_, h.ok, hmono.b1, fun k' => ?_, hmono.b3, hmono.b4⟩
  · obtain ⟨g, a1, a2⟩ := hmono.mr
    refine ⟨g, a1.fr hfr n1, fun s hs => ?_⟩
    obtain ⟨a, m, c, b1, b2, b3⟩ := a2 s hs
    exact ⟨a, m, c, b1, b2.fr hfr (fun g hg => rowNe h.hl (by omega) (b3 g hg)), b3⟩
  · unfold mset
    dsimp only
    split
    · rfl
    · exact m2 k' hk'
  · obtain ⟨g, a1, a2⟩ := hmono.mt
    exact ⟨g, a1.fr hfr (Ne.symm n3), a2⟩
  · dsimp only
    split
    · exact hv
    · exact hmono.b2 k'
/-- m.told[s] = v. -/
theorem BkOk.tell (h : BkOk w0 w own q r l t p n) (s : Nat) (hs : StK s) (v : Int) (hv : 0 ≤ v ∧ v ≤ (n + 1 : Nat)) :
    (Instr.lookup 52 (.map (some t)) (stV s) false).run Try.prog w = .ok (.int .i64 (p.told s)) w ∧
    ∃ w6, (Instr.mapUpdate 52 (.map (some t)) (stV s) (.int .i64 v)).run Try.prog w = .ok () w6 ∧
      BkOk w0 w6 own q r l t { p with told := fun s' => if s' = s then v else p.told s' } (n + 1) ∧ Fr (· = t) w w6 := by
  have hmono := h.mono (Nat.le_add_right n 1)
  obtain ⟨n1, n2, n3⟩ := h.ne
  obtain ⟨gt, m1, m2⟩ := h.mt
  have hlk := m1.look stKE false Try.underlying52 (zero_int _) hs
  rw [if_neg (by simp), m2 s hs] at hlk
  obtain ⟨w6, f1, f2, hfr, f4⟩ := m1.upd stKE Try.underlying52 hs (.int .i64 v)
  refine ⟨hlk, w6, f1, ?_, hfr⟩
  refine ⟨h.hr, h.hl, h.ht, ?_, ?_, ⟨_, f2, fun k' hk' => ?_⟩, h.ok, hmono.b1, hmono.b2, fun k' => ?_, hmono.b4⟩
  · obtain ⟨g, a1, a2⟩ := hmono.mr
    refine ⟨g, a1.fr hfr n2, fun s hs => ?_⟩
    obtain ⟨a, m, c, b1, b2, b3⟩ := a2 s hs
    exact ⟨a, m, c, b1, b2.fr hfr (fun g hg => rowNe h.ht (by omega) (b3 g hg)), b3⟩
  · obtain ⟨g, a1, a2⟩ := hmono.ml
    exact ⟨g, a1.fr hfr n3, a2⟩
  · unfold mset
    dsimp only
    split
    · rfl
    · exact m2 k' hk'
  · dsimp only
    split
    · exact hv
    · exact hmono.b3 k'
theorem BkOk.lookRow (h : BkOk w0 w own q r l t p n) (s : Nat) (hs : StK s) : ∃ a m c, (∀ W, W.heap[r]? = w.heap[r]? → (Instr.lookup 50 (.map (some r)) (stV s) false).run Try.prog W = .ok (.slice a m c) W) ∧ OwnG 41 5 Mg.cells w w0.heap.size a m c (p.rows s) ∧ (∀ g, (Value.slice a m c).ownBlock = some g → own g = some (q, 3 + s)) := by
  obtain ⟨gr, m1, m2⟩ := h.mr
  obtain ⟨a, m, c, b1, b2, b3⟩ := m2 s hs
  refine ⟨a, m, c, fun W hW => ?_, b2, b3⟩
  have hlk := (m1.same hW).look stKE false Try.underlying50 (zero_row _) hs
  rw [if_neg (by simp), b1] at hlk
  exact hlk
/-- m.rows[s] = append(m.rows[s], y): what lies in w1 from ad on is y. -/
theorem BkOk.row (h : BkOk w0 w own q r l t p n) (hown : ∀ g o, own g = some o → g < w.heap.size) (hB : w0.heap.size ≤ w.heap.size) (hn : n ≤ 100000) (y : Mg) (hy : y.Ok w0) (ty : TypeId) (w1 : World) (hw1 : Below w.heap.size w w1) (ad : Addr) (hc : ∀ j u, y.cells[j]? = some u → w1.cell? (ad.add j) = some u) (a : Option Addr) (m c : Nat) (hrow : OwnG 41 5 Mg.cells w w0.heap.size a m c (p.rows y.st)) (hro : ∀ g, (Value.slice a m c).ownBlock = some g → own g = some (q, 3 + y.st)) :
    ∃ g c' w2 w3 own', (Builtin.append_ #[33, 33] ty #[.slice a m c, .slice (some ad) 1 1]).run Try.prog w1 = .ok (.slice (some ⟨g, 0, none⟩) (m + 1) c') w2 ∧
      (Instr.mapUpdate 50 (.map (some r)) (stV y.st) (.slice (some ⟨g, 0, none⟩) (m + 1) c')).run Try.prog w2 = .ok () w3 ∧
      BkOk w0 w3 own' q r l t { p with rows := fun s' => if s' = y.st then p.rows s' ++ [y] else p.rows s' } (n + 1) ∧ Fr (fun b => b = r ∨ (Value.slice a m c).ownBlock = some b) w1 w3 ∧ Fr (fun b => (Value.slice a m c).ownBlock = some b) w1 w2 ∧
      (∀ g o, own g = some o → own' g = some o) ∧ (∀ g o, own' g = some o → own g = some o ∨ (w.heap.size ≤ g ∧ g < w3.heap.size ∧ o.1 = q)) := by
  have hmono := (h.mono (Nat.le_add_right n 1)).below hw1
  have hs : StK y.st := hy.st
  have hml : m ≤ n := by have := h.b1 y.st; rw [hrow.len] at this; exact this
  obtain ⟨g, c', w2, e1, e2, e3, e4, e5⟩ := (hrow.below hw1).app mgLays ty y ad hc (by unfold maxLen; omega) (by omega) (Nat.le_trans hB hw1.size)
  have hfr2 : Fr (fun b => (Value.slice a m c).ownBlock = some b) w1 w2 := Fr.grown e3 (fun k hk => hk)
  have hg2 : (Value.slice a m c).ownBlock = some g ∨ g = w1.heap.size := e4
  have hgown : own g = some (q, 3 + y.st) ∨ w1.heap.size ≤ g := by
    rcases hg2 with h1 | h1
    · exact .inl (hro g h1)
    · exact .inr (by omega)
  have hsz := hw1.size
  have how : ∀ b i, own b = some (q, i) → i ≠ 3 + y.st → ¬ (Value.slice a m c).ownBlock = some b := fun b i hb hi h1 => by
    have := hro b h1
    rw [hb] at this
    simp at this
    exact hi this
  have hgne : ∀ b i, own b = some (q, i) → i ≠ 3 + y.st → b ≠ g := fun b i hb hi e => by
    subst e
    rcases hgown with h1 | h1
    · rw [hb] at h1
      simp at h1
      exact hi h1
    · have := hown b _ hb
      omega
  obtain ⟨gr, m1, m2⟩ := (h.below hw1).mr
  have m12 := m1.fr hfr2 (how r 0 h.hr (by omega))
  obtain ⟨w3, f1, f2, f3, f4⟩ := m12.upd stKE Try.underlying50 hs (.slice (some ⟨g, 0, none⟩) (m + 1) c')
  have hfr3 : Fr (fun b => b = r ∨ (Value.slice a m c).ownBlock = some b) w1 w3 := (hfr2.mono (fun k _ hk => .inr hk)).trans (f3.mono (fun k _ hk => .inl hk))
  refine ⟨g, c', w2, w3, fun b => if b = g then some (q, 3 + y.st) else own b, e1, f1, ?_, hfr3, hfr2, fun b o hb => ?_, fun b o hb => ?_⟩
  · obtain ⟨n1, n2, n3⟩ := h.ne
    refine ⟨by rw [if_neg (hgne r 0 h.hr (by omega))]; exact h.hr, by rw [if_neg (hgne l 1 h.hl (by omega))]; exact h.hl, by rw [if_neg (hgne t 2 h.ht (by omega))]; exact h.ht, ⟨_, f2, fun s hs => ?_⟩, ?_, ?_, fun s z hz => ?_, fun s => ?_, hmono.b2, hmono.b3, hmono.b4⟩
    · dsimp only
      by_cases es : s = y.st
      · subst es
        refine ⟨some ⟨g, 0, none⟩, m + 1, c', by simp [mset], ?_, fun b hb => ?_⟩
        · rw [if_pos rfl]
          refine e2.fr f3 (fun b hb => ?_)
          have hbg : b = g := by simp [Value.ownBlock] at hb; exact hb.symm
          rw [hbg]
          exact (hgne r 0 h.hr (by omega)).symm
        · have hbg : b = g := by simp [Value.ownBlock] at hb; exact hb.symm
          rw [if_pos hbg]
      · obtain ⟨a', m', c1, b1, b2, b3⟩ := m2 s hs
        refine ⟨a', m', c1, by unfold mset; rw [if_neg es]; exact b1, ?_, fun b hb => ?_⟩
        · rw [if_neg es]
          have hh := b2.fr hfr2 (fun b hb => how b _ (b3 b hb) (by omega))
          exact hh.fr f3 (fun b hb e => by have := b3 b hb; rw [e, h.hr] at this; simp at this; omega)
        · rw [if_neg (hgne b _ (b3 b hb) (by omega))]
          exact b3 b hb
    · obtain ⟨gl, a1, a2⟩ := hmono.ml
      exact ⟨gl, a1.fr hfr3 (fun e => by rcases e with e | e; exact n1 e.symm; exact how l 1 h.hl (by omega) e), a2⟩
    · obtain ⟨gt, a1, a2⟩ := hmono.mt
      exact ⟨gt, a1.fr hfr3 (fun e => by rcases e with e | e; exact n2 e.symm; exact how t 2 h.ht (by omega) e), a2⟩
    · dsimp only at hz
      split at hz
      · rcases List.mem_append.1 hz with h1 | h1
        · exact h.ok s z h1
        · simp at h1; rw [h1]; exact hy
      · exact h.ok s z hz
    · dsimp only
      have := h.b1 s
      split
      · simp; exact this
      · omega
  · dsimp only
    by_cases hbg : b = g
    · subst hbg
      rcases hgown with h1 | h1
      · rw [if_pos rfl, ← hb, h1]
      · have := hown b o hb
        omega
    · rw [if_neg hbg]
      exact hb
  · dsimp only at hb
    by_cases hbg : b = g
    · rw [if_pos hbg] at hb
      injection hb with hb
      rcases hgown with h1 | h1
      · exact .inl (by rw [hbg, h1, hb])
      · exact .inr ⟨by omega, by rw [hbg, f4]; exact e5, by rw [← hb]⟩
    · rw [if_neg hbg] at hb
      exact .inl hb
end
end Go.Proofs.Ytpdnkbhgobdniaa
