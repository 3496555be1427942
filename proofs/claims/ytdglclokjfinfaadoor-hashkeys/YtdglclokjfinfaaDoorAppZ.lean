/- append(x, make([]byte, m)...): a row of bytes of the call's own, with m zeros behind it. -/
import Derived.Test.YtdglclokjfinfaaDoorOwn
import Derived.Lib.AppendZerosOnto
namespace Go.Proofs.YtdglclokjfinfaaDoor
open Go.RowKit
theorem zeroC (m : Nat) : Builtin.zeroCells (Value.int .u8 0).cells m = (vals (List.replicate m 0)).toArray := by
  apply Array.ext'
  simp [Builtin.zeroCells, vals, Value.cells]
  rw [List.eq_replicate_iff]
  refine ⟨by simp, fun x hx => ?_⟩
  obtain ⟨i, _, rfl⟩ := List.mem_map.1 hx
  rw [Nat.mod_one]; rfl
set_option maxRecDepth 100000 in
theorem zeros_run (w : World) (ty : TypeId) (B : Nat) (ad : Option Addr) (n c : Nat) (zs : List Nat) (hown : OwnB w B ad n c zs) (m : Nat) (hb : n + m ≤ 140737488355328) (hB : B ≤ w.heap.size) :
    ∃ a' c' w', (Builtin.append_ #[22, 3] ty #[.slice ad n c, .int .i64 (m : Nat)]).run Tryd.prog w = .ok (.slice a' (n + m) c') w' ∧ OwnB w' B a' (n + m) c' (zs ++ List.replicate m 0) ∧ w.grownBy w' (Value.slice ad n c).ownBlock := by
  obtain ⟨i, hi, hz0, hz1, hz2⟩ := info_parts own_info
  have hu := Tryd.underlying22
  have hn := Tryd.underlying3
  have hbnd : ∀ j, (zs ++ List.replicate m 0).getD j 0 < 256 := by
    intro j
    rw [getD_app]
    split
    · exact hown.bnd j
    · rw [List.getD_eq_getElem?_getD, List.getElem?_replicate]; split <;> simp
  have hlen : (zs ++ List.replicate m 0).length = n + m := by simp [hown.len]
  have hvl : (vals (zs ++ List.replicate m 0)) = vals zs ++ vals (List.replicate m 0) := by simp [vals]
  have hxl : (vals zs).length = n := by simp [vals, hown.len]
  have hnl : (vals (List.replicate m 0)).length = m := by simp [vals]
  have hw : IntKind.i64.wrap (m : Int) = m := by rw [IntKind.wrap_i64]; omega
  have hneg : ¬ ((m : Int) < 0) := by omega
  have h48i : ¬ (281474976710656 < (m : Int) * (i.bytes : Int)) := by rw [hz2]; omega
  by_cases hm : m = 0
  · subst hm
    refine ⟨ad, c, w, ?_, by simpa using hown, World.grownBy.refl w _⟩
    have hcap : n ≤ c := (hown.sl (by omega)).cap
    cases ad with
    | none => simp [Builtin.append_, run_underlying hu, run_underlying hn, sizeOf, typeInfo, hi, asInt, asIntOf, IntKind.wrap_i64, hcap]
    | some p => simp [Builtin.append_, run_underlying hu, run_underlying hn, sizeOf, typeInfo, hi, asInt, asIntOf, IntKind.wrap_i64, hcap, storeCells]
  · rcases hown.own.2 with ⟨hv0, hn0⟩ | ⟨g, cap, cur, hv0, hBg, hh, hnc, hcm, hcs, htake⟩
    · injection hv0 with e1 e2 e3
      subst e1 e3 hn0
      obtain rfl : zs = [] := List.eq_nil_of_length_eq_zero hown.len
      have hr := Lib.run_append_nil_zeros (P := Tryd.prog) w 22 3 ty 5 i (.int .u8 0) .i64 .i64 hu hn hi hz0 m (by omega) (by omega) (by omega) (by rw [hz2]; omega)
      have hge := grownCap_ge w m 0 5
      have hcm := grownCap_le_maxLen w m 0 5 (by unfold maxLen; omega)
      rw [zeroC, zeroC] at hr
      refine ⟨_, _, _, by rw [Nat.zero_add]; exact hr, ⟨hlen, ⟨by rw [Nat.zero_add, Nat.mul_one, hvl]; simp [vals], .inr ⟨w.heap.size, _, _, rfl, hB, heap_alloc_new w.drew _, by rw [Nat.zero_add]; exact hge, hcm, ?_, ?_⟩⟩, hbnd⟩, ⟨rfl, rfl, rfl, by simp, fun k hk _ => Below.heap_alloc w.drew _ k hk⟩⟩
      · simp [vals]; omega
      · simp [vals]
    · injection hv0 with e1 e2 e3
      subst e1 e3
      by_cases hroom : n + m ≤ c
      · have hst := run_storeCells_at Tryd.prog g (n * i.size) 5 (vals (List.replicate m 0)) 0 cur w hh (by simp [hz1, hnl, hcs]; omega) (vals_one _)
        simp only [Nat.add_zero] at hst
        have hns : ¬ (m * i.size = 0) := by rw [hz1]; omega
        have hr : (Builtin.append_ #[22, 3] ty #[.slice (some ⟨g, 0, none⟩) n c, .int .i64 (m : Nat)]).run Tryd.prog w = .ok (.slice (some ⟨g, 0, none⟩) (n + m) c) (w.setRow g (cur.toList.take (n * i.size) ++ vals (List.replicate m 0) ++ cur.toList.drop (n * i.size + (vals (List.replicate m 0)).length)).toArray) := by
          simp [Builtin.append_, run_underlying hu, run_underlying hn, sizeOf, typeInfo, zeroValue, hi, hz0, asInt, asIntOf, hw, hneg, hns, h48i, hroom, Addr.add_lit, zeroC, hst]
        rw [hz1] at hr
        refine ⟨_, _, _, hr, ⟨hlen, ⟨by rw [hvl]; simp [hxl, hnl], .inr ⟨g, c, _, rfl, hBg, setRow_heap w g cur _ _ _ hh, hroom, hcm, ?_, ?_⟩⟩, hbnd⟩, ⟨rfl, rfl, rfl, by simp, fun k _ hk => setRow_other w g k _ (fun e => hk (by simp [Value.ownBlock, e]))⟩⟩
        · simp only [List.size_toArray, List.length_append, List.length_take, List.length_drop, Array.length_toList, hnl]
          omega
        · rw [htake, hvl, show (n + m) * 1 = (vals zs ++ vals (List.replicate m 0)).length from by rw [List.length_append, hxl, hnl]; omega]
          exact List.take_left
      · have holds : ∀ j u, (vals zs)[j]? = some u → w.cell? ((⟨g, 0, none⟩ : Addr).add j) = some u := hown.own.cells (g := g) rfl
        have hold := run_firstCells_some (P := Tryd.prog) w.drew i.size n ⟨g, 0, none⟩ n c (vals zs) (by rw [hz1, hxl]; omega) (by simpa using holds)
        have hr := Lib.run_append_grow_zeros (P := Tryd.prog) w 22 3 ty 5 i (.int .u8 0) .i64 .i64 hu hn hi hz0 (some ⟨g, 0, none⟩) n c (vals zs) hold m (by omega) (by omega) (by omega) (by omega) (by rw [hz2]; omega) (growslice_fits (by omega) (by rw [hz2]; omega))
        have hge := grownCap_ge w (n + m) c 5
        have hcm2 := grownCap_le_maxLen w (n + m) c 5 (by unfold maxLen; omega)
        rw [zeroC, zeroC] at hr
        refine ⟨_, _, _, hr, ⟨hlen, ⟨by rw [hvl]; simp [hxl, hnl], .inr ⟨w.heap.size, _, _, rfl, hB, heap_alloc_new w.drew _, hge, hcm2, ?_, ?_⟩⟩, hbnd⟩, ⟨rfl, rfl, rfl, by simp, fun k hk _ => Below.heap_alloc w.drew _ k hk⟩⟩
        · simp [vals, hown.len]; omega
        · simp only [Array.toList_append, List.append_assoc]
          rw [← List.append_assoc, ← hvl, show (n + m) * 1 = (vals (zs ++ List.replicate m 0)).length from by rw [hvl, List.length_append, hxl, hnl]; omega]
          exact List.take_left
theorem zeros_list {ops : Array Oper} {rest : List Oper} {o : Oper} {a : Act} {w : World} {Q : Exit → Act → World → Prop} (hgd : Region.wanted o (yielded ops a.tmps) = true) (s x : Operand)
    (ho : o.op = .call { callee := .builtin .append, args := #[s, x], argTypes := #[22, 3] })
    (B : Nat) (ad : Option Addr) (n c : Nat) (zs : List Nat) (hs : a.eval s = .slice ad n c) (hown : OwnB w B ad n c zs) (m : Nat) (hx : a.eval x = .int .i64 (m : Nat)) (hb : n + m ≤ 140737488355328) (hB : B ≤ w.heap.size)
    (h : ∀ a' c' w', OwnB w' B a' (n + m) c' (zs ++ List.replicate m 0) → w.grownBy w' (Value.slice ad n c).ownBlock → wpList Tryd.prog ops Q rest (a.put o.dst (.slice a' (n + m) c')) w') : wpList Tryd.prog ops Q (o :: rest) a w :=
  wpList_step fun K hK => by
    rw [if_pos hgd]
    obtain ⟨a', c', w', hr, h1, h2⟩ := zeros_run w o.type B ad n c zs hown m hb hB
    have := hK _ _ (h a' c' w' h1 h2)
    unfold Oper.wp
    simp [execOp, ho, resolve, invoke, builtin, hs, hx, hr, Result.andThen]
    exact this
end Go.Proofs.YtdglclokjfinfaaDoor
