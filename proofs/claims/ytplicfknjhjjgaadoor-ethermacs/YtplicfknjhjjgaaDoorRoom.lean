/- append to a row of the call's own in which there is room: the row stays where it is, whatever its size. -/
import Derived.Test.YtplicfknjhjjgaaDoorOwn
namespace Go.Proofs.YtplicfknjhjjgaaDoor
open Go.RowKit
set_option maxRecDepth 100000 in
theorem room_run (w : World) (ty : TypeId) (B g n c : Nat) (zs : List Nat) (hown : OwnB w B (some ⟨g, 0, none⟩) n c zs) (p : Addr) (m sc : Nat) (ys : List Nat) (hsrc : Sl w (some p) m sc ys) (hroom : n + m ≤ c) :
    ∃ w', (Builtin.append_ #[30, 30] ty #[.slice (some ⟨g, 0, none⟩) n c, .slice (some p) m sc]).run Tryd.prog w = .ok (.slice (some ⟨g, 0, none⟩) (n + m) c) w' ∧ OwnB w' B (some ⟨g, 0, none⟩) (n + m) c (zs ++ ys) ∧ w.grownBy w' (some g) := by
  obtain ⟨i, hi, hz0, hz1, hz2⟩ := info_parts own_info
  obtain ⟨hl2, hcap2, hroom2, hsm2, hnz2, hb2, hat2⟩ := hsrc
  have hnews : ∀ j u, (vals ys)[j]? = some u → w.cell? (p.add j) = some u := by
    intro j u hj
    have hjl : j < ys.length := by
      have := (List.getElem?_eq_some_iff.1 hj).1
      simpa [vals] using this
    rcases hat2 with h0 | ⟨b, off, hp, _, hcell⟩
    · omega
    · injection hp with hp
      subst hp
      have ea : (⟨b, off, none⟩ : Addr).add j = ⟨b, off + j, none⟩ := by
        unfold Addr.add
        split
        · subst_vars; rfl
        · rfl
      rw [ea, hcell j (by omega), ← hj, vals_at ys j hjl]
  have hnl : (vals ys).length = m * 1 := by simp [vals, hl2]
  rcases hown.own.2 with ⟨hv0, _⟩ | ⟨g0, cap, cur, hv0, hBg, hh, hnc, hcm, hcs, htake⟩
  · cases hv0
  · injection hv0 with e1 e2 e3
    injection e1 with e1
    injection e1 with e1
    subst e1 e3
    have hr := run_append_room (P := Tryd.prog) w 30 ty 5 i Tryd.underlying30 hi g n c cur hh p m sc (vals ys) (by rw [hz1]; exact hnl) hnews (vals_one ys) hroom (by rw [hz1, hnl, hcs]; omega)
    rw [hz1] at hr
    have hxl : (vals zs).length = n := by simp [vals, hown.len]
    refine ⟨_, hr, ⟨by simp [hown.len, hl2], ⟨by simp [vals, hown.len, hl2], .inr ⟨g, c, _, rfl, hBg, setRow_heap w g cur _ _ _ hh, hroom, hcm, ?_, ?_⟩⟩, ?_⟩, ⟨rfl, rfl, rfl, by simp, fun k _ hk => setRow_other w g k _ (fun e => hk (by rw [e]))⟩⟩
    · simp only [List.size_toArray, List.length_append, List.length_take, List.length_drop, Array.length_toList, hnl]
      omega
    · rw [htake, show vals (zs ++ ys) = vals zs ++ vals ys from by simp [vals], show (n + m) * 1 = (vals zs ++ vals ys).length from by rw [List.length_append, hxl, hnl]; omega]
      exact List.take_left
    · intro j
      rw [getD_app]
      split
      · exact hown.bnd j
      · exact hb2 _
set_option maxRecDepth 100000 in
theorem room_step {ops : Array Oper} {o : Oper} {a : Act} {w : World} {K : Act → World → Prop} {Q : Exit → Act → World → Prop} {E : Prop} (hgd : o.guard = none) (s x : Operand)
    (ho : o.op = .call { callee := .builtin .append, args := #[s, x], argTypes := #[30, 30] })
    (B g n c : Nat) (zs : List Nat) (hs : a.eval s = .slice (some ⟨g, 0, none⟩) n c) (hown : OwnB w B (some ⟨g, 0, none⟩) n c zs)
    (p : Addr) (m sc : Nat) (ys : List Nat) (hx : a.eval x = .slice (some p) m sc) (hsrc : Sl w (some p) m sc ys) (hroom : n + m ≤ c)
    (h : ∀ w', OwnB w' B (some ⟨g, 0, none⟩) (n + m) c (zs ++ ys) → w.grownBy w' (some g) → K (a.put o.dst (.slice (some ⟨g, 0, none⟩) (n + m) c)) w') :
    if Region.wanted o (yielded ops a.tmps) = true then Oper.wp Tryd.prog o a w K Q else E := by
  have hw : Region.wanted o (yielded ops a.tmps) = true := by simp [Region.wanted, hgd]
  rw [if_pos hw]
  obtain ⟨w', hr, h1, h2⟩ := room_run w o.type B g n c zs hown p m sc ys hsrc hroom
  have := h w' h1 h2
  unfold Oper.wp
  simp [execOp, ho, resolve, invoke, builtin, hs, hx, hr, Result.andThen]
  exact this
end Go.Proofs.YtplicfknjhjjgaaDoor
