/- A row of packets of the call's own. -/
import Derived.Test.YtnbagloifbllbaaSt
import Derived.OwnWalk
import Derived.Laws.AppendOwnNone
import Derived.Laws.OwnMore
import Derived.ArgAppend
namespace Go.Proofs.Ytnbagloifbllbaa
open Go.RowKit
/-- A packet as it lies: its body's place too. -/
structure Pk where
  sr : Nat
  ds : Nat
  pr : Nat
  tt : Nat
  id : Nat
  dn : Bool
  mo : Bool
  of : Int
  a : Option Addr
  n : Nat
  c : Nat
def Pk.cells (x : Pk) : List Value := [.int .u32 (x.sr : Nat), .int .u32 (x.ds : Nat), .int .u8 (x.pr : Nat), .int .u8 (x.tt : Nat), .int .u16 (x.id : Nat), .bool x.dn, .bool x.mo, .int .i64 x.of, .slice x.a x.n x.c]
def valsK (ps : List Pk) : List Value := ps.flatMap Pk.cells
theorem valsK_app (ps qs : List Pk) : valsK (ps ++ qs) = valsK ps ++ valsK qs := by simp [valsK]
theorem Pk.cells_len (x : Pk) : x.cells.length = 9 := rfl
theorem valsK_len (ps : List Pk) : (valsK ps).length = ps.length * 9 := by
  induction ps with
  | nil => rfl
  | cons p ps ih => show (p.cells ++ valsK ps).length = _; rw [List.length_append, ih, Pk.cells_len, List.length_cons]; omega
theorem valsK_one (ps : List Pk) : ∀ u ∈ valsK ps, u.oneCell' = true := by
  intro u hu
  obtain ⟨p, _, hp⟩ := List.mem_flatMap.1 hu
  simp [Pk.cells] at hp
  rcases hp with rfl | rfl | rfl | rfl | rfl | rfl | rfl | rfl | rfl <;> rfl
theorem valsK_at (ps : List Pk) : ∀ (j : Nat) (x : Pk), ps[j]? = some x → ∀ (i : Nat) u, x.cells[i]? = some u → (valsK ps)[j * 9 + i]? = some u := by
  induction ps with
  | nil => intro j x h; simp at h
  | cons p ps ih =>
    intro j x h i u hu
    have hi : i < 9 := by have := (List.getElem?_eq_some_iff.1 hu).1; rwa [Pk.cells_len] at this
    show (p.cells ++ valsK ps)[j * 9 + i]? = some u
    cases j with
    | zero =>
      simp at h
      subst h
      rw [List.getElem?_append_left (by rw [Pk.cells_len]; omega)]
      simpa using hu
    | succ j =>
      rw [List.getElem?_append_right (by rw [Pk.cells_len]; omega), Pk.cells_len, show (j + 1) * 9 + i - 9 = j * 9 + i by omega]
      exact ih j x (by simpa using h) i u hu
structure OwnK (w : World) (B : Nat) (a : Option Addr) (n c : Nat) (ps : List Pk) : Prop where
  len : ps.length = n
  own : w.ownsRow B 26 9 (.slice a n c) n (valsK ps)
theorem OwnK.nil (w : World) (B : Nat) : OwnK w B none 0 0 [] := ⟨rfl, World.ownsRow_nil w B _ _⟩
theorem OwnK.kept {w w' : World} {B : Nat} {a : Option Addr} {n c : Nat} {ps : List Pk} {row : Option Nat} (h : OwnK w B a n c ps) (hg : w.grownBy w' row) (hne : (Value.slice a n c).ownBlock = none ∨ (Value.slice a n c).ownBlock ≠ row) : OwnK w' B a n c ps :=
  ⟨h.len, h.own.kept hg hne⟩
theorem OwnK.base {w : World} {B B' : Nat} {a : Option Addr} {n c : Nat} {ps : List Pk} (h : OwnK w B a n c ps) (hB : B' ≤ B) : OwnK w B' a n c ps := by
  obtain ⟨h1, ⟨h2, h3⟩⟩ := h
  refine ⟨h1, ⟨h2, ?_⟩⟩
  rcases h3 with h3 | ⟨g, cap, cur, hv, hb, hr⟩
  · exact .inl h3
  · exact .inr ⟨g, cap, cur, hv, Nat.le_trans hB hb, hr⟩
theorem OwnK.below {w w' : World} {B : Nat} {a : Option Addr} {n c : Nat} {ps : List Pk} (h : OwnK w B a n c ps) (hb : Below w.heap.size w w') : OwnK w' B a n c ps :=
  h.kept (row := none) ⟨hb.os, hb.tape, hb.output, hb.size, fun k hk _ => hb.block k hk⟩ (by cases (Value.slice a n c).ownBlock <;> simp)
theorem OwnK.up {w w' : World} {B : Nat} {a : Option Addr} {n c : Nat} {ps : List Pk} (h : OwnK w B a n c ps) (hg : w.grownBy w' (Value.slice a n c).ownBlock) (hB : B ≤ w.heap.size) : Below B w w' :=
  (Below.refl B w).grown hg hB (fun k hk => (h.own.lt k hk).1)
/-- Where it lies, if it has a packet. -/
theorem OwnK.at_ {w : World} {B : Nat} {a : Option Addr} {n c : Nat} {ps : List Pk} (h : OwnK w B a n c ps) (hn : 0 < n) : ∃ g, a = some ⟨g, 0, none⟩ ∧ B ≤ g ∧ g < w.heap.size ∧ n ≤ c ∧ c ≤ maxLen ∧
    (∀ (j : Nat) (x : Pk), ps[j]? = some x → ∀ (i : Nat) u, x.cells[i]? = some u → w.cell? ⟨g, j * 9 + i, none⟩ = some u) := by
  have hl := h.len
  have ho := h.own
  rcases h.own.2 with ⟨_, h0⟩ | ⟨g, cap, cur, hv, hBg, hh, hnc, hcm, hcs, htake⟩
  · omega
  · injection hv with e1 e2 e3
    subst e1 e3
    refine ⟨g, rfl, hBg, (ho.lt g rfl).2, hnc, hcm, fun j x hx i u hu => ?_⟩
    have hj := (List.getElem?_eq_some_iff.1 hx).1
    have hi : i < 9 := by have := (List.getElem?_eq_some_iff.1 hu).1; rwa [Pk.cells_len] at this
    rw [ho.cellAt (j * 9 + i) (by omega), valsK_at ps j x hx i u hu]
theorem own_infoK : (Try.prog.info? 26).map (fun i => (i.zero, i.size, i.bytes)) = some (some (.agg #[.int .u32 0, .int .u32 0, .int .u8 0, .int .u8 0, .int .u16 0, .bool false, .bool false, .int .i64 0, .slice none 0 0]), 9, 48) := by kernel_rfl
set_option maxRecDepth 100000 in
/-- One packet more. -/
theorem app_wpK {o : Oper} {a : Act} {w : World} {K : Act → World → Prop} {Q : Exit → Act → World → Prop} (s x : Operand)
    (ho : o.op = .call { callee := .builtin .append, args := #[s, x], argTypes := #[28, 28] })
    (B : Nat) (ad : Option Addr) (n c : Nat) (ps : List Pk) (hs : a.eval s = .slice ad n c) (hown : OwnK w B ad n c ps)
    (g : Nat) (y : Pk) (hx : a.eval x = .slice (some ⟨g, 0, none⟩) 1 1) (hcy : Stc w g y.cells) (hb : (n + 1) * 48 ≤ 140737488355328) (hB : B ≤ w.heap.size)
    (h : ∀ a' c' w', OwnK w' B a' (n + 1) c' (ps ++ [y]) → w.grownBy w' (Value.slice ad n c).ownBlock → K (a.put o.dst (.slice a' (n + 1) c')) w') : o.wp Try.prog a w K Q := by
  obtain ⟨i, hi, hz0, hz1, hz2⟩ := info_parts own_infoK
  have hv : valsK [y] = y.cells := by simp [valsK]
  have hnews : ∀ j u, (valsK [y])[j]? = some u → w.cell? ((⟨g, 0, none⟩ : Addr).add j) = some u := by
    intro j u hj
    rw [hv] at hj
    have e : (⟨g, 0, none⟩ : Addr).add j = ⟨g, j, none⟩ := by
      unfold Addr.add
      split
      · subst_vars; rfl
      · simp
    rw [e]
    exact hcy.cell j u hj
  obtain ⟨v', w', hr, hown', hg', _⟩ := run_append_own (P := Try.prog) w B 28 o.type 26 i _ 9 48 Try.underlying28 hi hz0 hz1 hz2 rfl (by decide) (.slice ad n c) n (valsK ps) hown.own ⟨g, 0, none⟩ 1 1 (valsK [y]) (by rw [hv]; rfl) hnews (valsK_one _) (by unfold maxLen; omega) hb hB
  rw [← valsK_app] at hown'
  have hex : ∃ a' c', v' = .slice a' (n + 1) c' := by
    rcases hown'.2 with ⟨_, e⟩ | ⟨g, cap, cur, rfl, _⟩
    · omega
    · exact ⟨_, _, rfl⟩
  obtain ⟨a', c', rfl⟩ := hex
  have := h a' c' w' ⟨by simp [hown.len], hown'⟩ hg'
  unfold Oper.wp
  simp [execOp, ho, resolve, invoke, builtin, hs, hx, hr, Result.andThen]
  exact this
theorem app_listK {ops : Array Oper} {rest : List Oper} {o : Oper} {a : Act} {w : World} {Q : Exit → Act → World → Prop} (hgd : Region.wanted o (yielded ops a.tmps) = true) (s x : Operand)
    (ho : o.op = .call { callee := .builtin .append, args := #[s, x], argTypes := #[28, 28] })
    (B : Nat) (ad : Option Addr) (n c : Nat) (ps : List Pk) (hs : a.eval s = .slice ad n c) (hown : OwnK w B ad n c ps)
    (g : Nat) (y : Pk) (hx : a.eval x = .slice (some ⟨g, 0, none⟩) 1 1) (hcy : Stc w g y.cells) (hb : (n + 1) * 48 ≤ 140737488355328) (hB : B ≤ w.heap.size)
    (h : ∀ a' c' w', OwnK w' B a' (n + 1) c' (ps ++ [y]) → w.grownBy w' (Value.slice ad n c).ownBlock → wpList Try.prog ops Q rest (a.put o.dst (.slice a' (n + 1) c')) w') : wpList Try.prog ops Q (o :: rest) a w :=
  wpList_step fun K hK => by
    rw [if_pos hgd]
    exact app_wpK s x ho B ad n c ps hs hown g y hx hcy hb hB fun a' c' w' h1 h2 => hK _ _ (h a' c' w' h1 h2)
/-- A row of one packet, written out. -/
theorem ownK_lit (w : World) (x : Pk) (W : World) (hW : W = w.alloc (.cells x.cells.toArray 26)) : OwnK W w.heap.size (some ⟨w.heap.size, 0, none⟩) 1 1 [x] := by
  subst hW
  refine ⟨rfl, ⟨by rw [valsK_len]; rfl, .inr ⟨w.heap.size, 1, x.cells.toArray, rfl, Nat.le_refl _, ?_, Nat.le_refl _, by unfold maxLen; omega, rfl, ?_⟩⟩⟩
  · show (w.heap.push _)[w.heap.size]? = _
    simp
  · have hv : valsK [x] = x.cells := by simp [valsK]
    rw [hv]; rfl
end Go.Proofs.Ytnbagloifbllbaa
