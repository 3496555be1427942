/- outq: slices.Delete of the first pieces. -/
import Derived.Test.YtconfmjgoipejaaOqJ
import Derived.Test.YtconfmjgoipejaaOwnGS
import Derived.Test.YtconfmjgoipejaaRgW
namespace Go.Proofs.Ytconfmjgoipejaa.Del
open Go.RowKit Go.Shelf
theorem elQ : Try.prog.elem 69 = 82 := by simp [Program.elem, Try.underlying69]
theorem cellsQ : Try.prog.cellsOf 82 = 17 := by kernel_rfl
theorem undQ : Try.prog.underlying 69 = some (.slice (Try.prog.elem 69)) := by rw [elQ]; exact Try.underlying69
theorem sizeQ (w : World) : (sizeOf (Try.prog.elem 69)).run Try.prog w = .ok 17 w := by
  obtain ⟨z, hinfo, _⟩ := layQ.info
  obtain ⟨i, hi, hz0, hz1, hz2⟩ := info_parts hinfo
  rw [elQ, run_sizeOf w hi, cellsQ]
theorem slice_to (a : Option Addr) (n c j : Nat) (h : j ≤ c) (w : World) : (Instr.slice 69 (.slice a n c) none (some (.int .i64 (j : Int))) none).run Try.prog w = .ok (.slice a j c) w := by
  rw [run_slice_h w 69 _ n c undQ .i64 j (by omega) (by omega), sizeQ]
  cases a <;> simp [Result.andThen, sliced, Addr.add]
theorem slice_from (g n c l : Nat) (hl : l ≤ n) (w : World) : (Instr.slice 69 (.slice (some ⟨g, 0, none⟩) n c) (some (.int .i64 (l : Int))) none none).run Try.prog w = .ok (.slice (some ⟨g, if c = l then 0 else l * 17, none⟩) (n - l) (c - l)) w := by
  rw [run_slice_l w 69 _ n c undQ .i64 l (by omega) (by omega), sizeQ]
  simp only [Result.andThen, sliced, Int.toNat_natCast]
  by_cases h : c = l
  · rw [if_pos h, if_pos h]
  · rw [if_neg h, if_neg h]
    simp [Addr.add_mid]
theorem slice_mid (g n c l h : Nat) (hl : l ≤ h) (hc : h ≤ c) (hlc : l < c) (w : World) : (Instr.slice 69 (.slice (some ⟨g, 0, none⟩) n c) (some (.int .i64 (l : Int))) (some (.int .i64 (h : Int))) none).run Try.prog w = .ok (.slice (some ⟨g, l * 17, none⟩) (h - l) (c - l)) w := by
  rw [run_slice_lh w 69 _ n c undQ .i64 .i64 l h (by omega) (by omega) (by omega), sizeQ]
  simp only [Result.andThen, sliced, Int.toNat_natCast]
  rw [if_neg (by omega)]
  simp [Addr.add_mid]
theorem slice_all2 (a : Option Addr) (n c j : Nat) (hj : j ≤ n) (hc : n ≤ c) : ∃ v, ∀ w, (Instr.slice 69 (.slice a n c) (some (.int .i64 0)) (some (.int .i64 (j : Int))) (some (.int .i64 (n : Int)))).run Try.prog w = .ok v w := by
  refine ⟨sliced a (0 : Int).toNat (j : Int).toNat (n : Int).toNat 17, fun w => ?_⟩
  rw [run_slice_lhm w 69 _ n c undQ .i64 .i64 .i64 0 j n (by omega) (by omega) (by omega) (by omega), sizeQ]
  rfl
theorem clear_many {P : Program} (w : World) (t e ty : TypeId) (z : Value) (ht : P.underlying t = some (.slice e)) (hv : ∀ w, (zeroValue e).run P w = .ok z w) (m b o c : Nat) (hm : 0 < m) (h1 : ∀ v ∈ (Builtin.zeroCells z.cells m).toList, v.oneCell' = true) (hth : w.there b o (Builtin.zeroCells z.cells m).toList.length) :
    (Builtin.clear_ #[t] ty #[.slice (some ⟨b, o, none⟩) m c]).run P w = .ok (.tuple #[]) (w.setCells b o (Builtin.zeroCells z.cells m).toList) := by
  have hst := run_storeCells_cells (P := P) b o (Builtin.zeroCells z.cells m).toList 0 w (fun j hj => by simpa using (hth j hj).1) (fun j hj => by simpa using (hth j hj).2) h1
  simp only [Nat.add_zero] at hst
  obtain ⟨m, rfl⟩ : ∃ k, m = k + 1 := ⟨m - 1, by omega⟩
  simp [Builtin.clear_, run_underlying ht, hv, hst]
def zQ : Value := .agg #[.int .u8 0, .int .u8 0, .int .u32 0, .int .u16 0, .int .u16 0, .int .u32 0, .int .u32 0, .int .u32 0, .int .u16 0, .int .u16 0, .slice none 0 0, .slice none 0 0, .slice none 0 0, .slice none 0 0, .int .i64 0, .int .i64 0, .int .i64 0]
theorem zeroQ : ∀ w, (zeroValue 82).run Try.prog w = .ok zQ w := fun w => by kernel_rfl
theorem zq_cells : zQ.cells.toList.length = 17 ∧ ∀ v ∈ zQ.cells.toList, v.oneCell' = true := by
  refine ⟨by kernel_rfl, fun v hv => ?_⟩
  have h : (zQ.cells.toList.all fun v => v.oneCell') = true := by kernel_rfl
  exact List.all_eq_true.1 h v hv
theorem zcells (m : Nat) : (Builtin.zeroCells zQ.cells m).toList.length = m * 17 ∧ ∀ v ∈ (Builtin.zeroCells zQ.cells m).toList, v.oneCell' = true := by
  have hs : zQ.cells.size = 17 := by kernel_rfl
  have hl : (Builtin.zeroCells zQ.cells m).toList.length = m * 17 := by simp [Builtin.zeroCells, hs]
  refine ⟨hl, fun v hv => ?_⟩
  obtain ⟨i, hi, rfl⟩ := List.getElem_of_mem hv
  have : (Builtin.zeroCells zQ.cells m).toList[i] ∈ zQ.cells.toList := by
    simp [Builtin.zeroCells, hs]
    have hlt : i % 17 < zQ.cells.size := by rw [hs]; exact Nat.mod_lt _ (by decide)
    rw [getElem!_pos zQ.cells (i % 17) hlt]
    exact Array.getElem_mem hlt
  exact zq_cells.2 _ this
theorem owns_cut {B T k g n c : Nat} {w : World} {xs : List Value} (h : w.ownsRow B T k (.slice (some ⟨g, 0, none⟩) n c) n xs) (m : Nat) (hm : m ≤ n) : w.ownsRow B T k (.slice (some ⟨g, 0, none⟩) m c) m (xs.take (m * k)) := by
  obtain ⟨h1, h2⟩ := h
  refine ⟨?_, ?_⟩
  · rw [List.length_take, h1, Nat.min_eq_left (Nat.mul_le_mul_right k hm)]
  · rcases h2 with ⟨hv, _⟩ | ⟨g', cap, cur, hv, hb, hh, hnc, hcm, hcs, htake⟩
    · cases hv
    · injection hv with e1 e2 e3
      injection e1 with e1
      injection e1 with e1
      subst e1 e3
      refine .inr ⟨g, c, cur, rfl, hb, hh, by omega, hcm, hcs, ?_⟩
      rw [← htake, List.take_take, Nat.min_eq_left (Nat.mul_le_mul_right k hm)]
theorem valsG_drop {α : Type} {cf : α → List Value} {k : Nat} (hk : ∀ x, (cf x).length = k) (ps : List α) (m : Nat) (hm : m ≤ ps.length) : valsG cf (ps.drop m) = (valsG cf ps).drop (m * k) := by
  have hl : (valsG cf (ps.take m)).length = m * k := by rw [valsG_len hk, List.length_take, Nat.min_eq_left hm]
  have e : valsG cf ps = valsG cf (ps.take m) ++ valsG cf (ps.drop m) := by rw [← valsG_app, List.take_append_drop]
  rw [e, ← hl, List.drop_left']
  rfl
theorem fr_setCellsQ (g : Nat) : ∀ (vs : List Value) (o : Nat) (w : World), Fr (fun k => k = g) w (w.setCells g o vs)
  | [], _, w => Fr.refl _ w
  | v :: vs, o, w => (Fr.setCell (fun k => k = g) w ⟨g, o, none⟩ v rfl).trans (fr_setCellsQ g vs (o + 1) _)
theorem seq_runQ {P : Program} {ops : Array Oper} {F Z : Array Value} {G : (Nat → Bool) → World → Prop} {i : Nat} {o : Oper} (hw : Region.wanted o (yielded ops F) = true)
    (h : ∀ l w, l i = false → (∀ k j, ancD ops 12 k j = true → l k = true → l j = true) → G l w → ∃ w', (execOp (Act.eval ⟨F, []⟩) o).run P w = .ok (.value ((o.dst.map (fun d => Z.getD d undef)).getD undef)) w' ∧ G (updL l i) w') : SeqOp P ops F Z G i o := by
  intro l w hl hd hc hg
  obtain ⟨w', h1, h2⟩ := h l w hl hc hg
  refine .inl ⟨hw, ?_⟩
  unfold GivesP
  rw [h1]
  exact ⟨fun d hd' => by rw [hd']; rfl, h2⟩
structure DelQ (w : World) (B : Nat) (pa : Option Addr) (n cap : Nat) (L : List PcA) (j : Nat) (e : Ending) (w' : World) : Prop where
  ex : e = .returned (.slice pa (n - j) cap)
  row : OwnQ w' B pa (n - j) cap (L.drop j)
  fr : Fr (fun b => (Value.slice pa n cap).ownBlock = some b) w w'
set_option maxRecDepth 100000 in
set_option maxHeartbeats 2000000 in
theorem delete_any {w : World} {B : Nat} {pa : Option Addr} {n cap : Nat} {L : List PcA} (ho : OwnQ w B pa n cap L) (j : Nat) (hj : j ≤ n) (hn : n ≤ 100000) :
    Calls Try.prog 49 #[.slice pa n cap, .int .i64 0, .int .i64 (j : Nat)] w (DelQ w B pa n cap L j) := by
  have hlen := ho.len
  have hcap := ho.cap
  obtain ⟨v1, hs1⟩ := slice_all2 pa n cap j hj hcap.1
  by_cases h0 : j = 0
  · subst h0
    have HF : Hid (DelQ w B pa n cap L 0 (.returned (.slice pa n cap)) w) := ⟨rfl, by simpa using ho, Fr.refl _ _⟩
    have hc1 := hcap.1
    have hs1 : ∀ w, (Instr.slice 69 (.slice pa n cap) (some (.int .i64 0)) (some (.int .i64 0)) (some (.int .i64 (n : Int)))).run Try.prog w = .ok v1 w := hs1
    clear ho hlen hcap
    go_enter Try.func49, Try.ntmps49
    go_wp2
    go_ret
    exact HF.out
  · obtain ⟨g, rfl, hBg, hgl, hnc, _, hcell, hfree⟩ := ho.at_ pcV_len (by omega)
    obtain ⟨z, hinfo, hzs⟩ := layQ.info
    obtain ⟨i0, hi, hz0, hz1, hz2⟩ := info_parts hinfo
    have hdl : (valsG pcV (L.drop j)).length = (n - j) * 17 := by rw [valsG_len pcV_len, List.length_drop, hlen]
    have hval : (valsG pcV L).length = n * 17 := by rw [valsG_len pcV_len, hlen]
    have hap : ∀ W : World, W.ownsRow B 82 17 (.slice (some ⟨g, 0, none⟩) n cap) n (valsG pcV L) → (Builtin.append_ #[69, 69] 69 #[.slice (some ⟨g, 0, none⟩) 0 cap, .slice (some ⟨g, if cap = j then 0 else j * 17, none⟩) (n - j) (cap - j)]).run Try.prog W = .ok (.slice (some ⟨g, 0, none⟩) (n - j) cap) (W.setCells g 0 (valsG pcV (L.drop j))) := fun W hW => by
      have := run_append_room_cells (P := Try.prog) (w := W) 69 69 82 i0 Try.underlying69 hi g 0 0 cap ⟨g, if cap = j then 0 else j * 17, none⟩ (n - j) (cap - j) (valsG pcV (L.drop j)) (by rw [hz1]; exact hdl) (fun q u hq => by
        have hql := (List.getElem?_eq_some_iff.1 hq).1
        rw [hdl] at hql
        have hcj : ¬ cap = j := by intro e; rw [show n - j = 0 by omega] at hql; omega
        rw [if_neg hcj]
        have e : (⟨g, j * 17, none⟩ : Addr).add q = ⟨g, j * 17 + q, none⟩ := by
          unfold Addr.add
          split
          · subst_vars; rfl
          · rfl
        rw [e, hW.cellAt (j * 17 + q) (by have : (n - j) * 17 = n * 17 - j * 17 := Nat.sub_mul _ _ _; omega)]
        rw [valsG_drop pcV_len L j (by omega), List.getElem?_drop] at hq
        exact hq) (valsG_one layQ.one _) (by omega) (fun q hq => by
        rw [hdl] at hq
        have hq2 : q < n * 17 := by have : (n - j) * 17 = n * 17 - j * 17 := Nat.sub_mul _ _ _; omega
        rw [show 0 + 0 * i0.size + q = q by omega, hW.cellAt q hq2, List.getElem?_eq_getElem (by omega)]
        rfl) (fun q hq => by
        rw [show 0 + 0 * i0.size + q = q by omega]
        exact hW.frozenAt q)
      rw [show 0 + 0 * i0.size = 0 by omega, Nat.zero_add] at this
      exact this
    have hs2 := fun W => slice_to (some ⟨g, 0, none⟩) n cap 0 (by omega) W
    have hs3 := fun W => slice_from g n cap j hj W
    have hs4 := fun W => slice_mid g (n - j) cap (n - j) n (by omega) hnc (by omega) W
    rw [show n - (n - j) = j by omega] at hs4
    obtain ⟨w2, hw2⟩ : ∃ w2, w2 = w.drew.setCells g 0 (valsG pcV (L.drop j)) := ⟨_, rfl⟩
    have ow : w.drew.ownsRow B 82 17 (.slice (some ⟨g, 0, none⟩) n cap) n (valsG pcV L) := (OwnG.below ho (Below.refl _ _).drew).own
    have hap2 := hap w.drew ow
    rw [← hw2] at hap2
    have o2 := owns_setCells rfl (valsG pcV (L.drop j)) 0 w.drew _ ow
    rw [← hw2] at o2
    have hzl := (zcells j).1
    have hcl := clear_many (P := Try.prog) w2 69 82 0 zQ Try.underlying69 zeroQ j g ((n - j) * 17) (cap - (n - j)) (by omega) (zcells j).2 (fun q hq => by
      rw [hzl] at hq
      have h1 : (n - j) * 17 + q < n * 17 := by have : (n - j) * 17 = n * 17 - j * 17 := Nat.sub_mul _ _ _; omega
      refine ⟨?_, o2.frozenAt _⟩
      rw [o2.cellAt _ h1, List.getElem?_eq_getElem (by rw [o2.1]; exact h1)]
      rfl)
    have o3 := owns_cut (owns_setCells rfl (Builtin.zeroCells zQ.cells j).toList ((n - j) * 17) w2 _ o2) (n - j) (by omega)
    have hfin : (setL (setL (valsG pcV L) 0 (valsG pcV (L.drop j))) ((n - j) * 17) (Builtin.zeroCells zQ.cells j).toList).take ((n - j) * 17) = valsG pcV (L.drop j) := by
      have e1 : setL (valsG pcV L) 0 (valsG pcV (L.drop j)) = valsG pcV (L.drop j) ++ (valsG pcV L).drop ((n - j) * 17) := by
        have := setL_app (valsG pcV (L.drop j)) ((valsG pcV L).take ((n - j) * 17)) [] ((valsG pcV L).drop ((n - j) * 17)) (by rw [List.length_take, hval, hdl]; have : (n - j) * 17 ≤ n * 17 := Nat.mul_le_mul_right 17 (by omega); omega)
        simpa using this
      rw [e1]
      have hjl : ((valsG pcV L).drop ((n - j) * 17)).length = (Builtin.zeroCells zQ.cells j).toList.length := by
        rw [List.length_drop, hval, hzl]
        have : (n - j) * 17 = n * 17 - j * 17 := Nat.sub_mul _ _ _
        have : j * 17 ≤ n * 17 := Nat.mul_le_mul_right 17 hj
        omega
      have := setL_app (Builtin.zeroCells zQ.cells j).toList ((valsG pcV L).drop ((n - j) * 17)) (valsG pcV (L.drop j)) [] hjl
      rw [hdl, List.append_nil] at this
      rw [this, List.take_left' hdl]
    rw [hfin] at o3
    obtain ⟨w3, hw3⟩ : ∃ w3, w3 = w2.setCells g ((n - j) * 17) (Builtin.zeroCells zQ.cells j).toList := ⟨_, rfl⟩
    rw [← hw3] at hcl o3
    have f2 : Fr (fun b => (Value.slice (some ⟨g, 0, none⟩) n cap).ownBlock = some b) w w2 := (Fr.of_below (Below.refl _ _).drew).trans (by rw [hw2]; exact (fr_setCellsQ g _ 0 w.drew).mono (fun k _ hk => by subst hk; rfl))
    have f3 : Fr (fun b => (Value.slice (some ⟨g, 0, none⟩) n cap).ownBlock = some b) w2 w3 := by rw [hw3]; exact (fr_setCellsQ g _ _ w2).mono (fun k _ hk => by subst hk; rfl)
    have HF : Hid (DelQ w B (some ⟨g, 0, none⟩) n cap L j (.returned (.slice (some ⟨g, 0, none⟩) (n - j) cap)) w3) := ⟨rfl, ⟨by rw [List.length_drop, hlen], o3⟩, f2.trans f3⟩
    obtain ⟨o3x, ho3⟩ : ∃ o3x, o3x = if cap = j then 0 else j * 17 := ⟨_, rfl⟩
    rw [← ho3] at hap2 hs3
    clear ho3
    have hj0 : ((0 : Int) == (j : Int)) = false := by simp; omega
    clear ho hlen hcap hap hcell hfree hw2 hw3 ow o2 o3 hfin f2 f3 hdl hval hzl
    go_enter Try.func49, Try.ntmps49
    go_wp2_with fail
    refine wp_region_seq mixedX [true, false, false, true, false, false, false, false] (fun l W => (l 6 = false → W = w.drew) ∧ (l 6 = true → W = w2)) [(20, .slice (some ⟨g, 0, none⟩) n cap), (21, .int .i64 0), (22, .slice (some ⟨g, 0, none⟩) 0 cap), (23, .slice (some ⟨g, 0, none⟩) n cap), (24, .int .i64 (j : Nat)), (25, .slice (some ⟨g, o3x, none⟩) (n - j) (cap - j)), (26, .slice (some ⟨g, 0, none⟩) (n - j) cap), (0, .slice (some ⟨g, 0, none⟩) (n - j) cap)] ?Z1 ?hZ1 (by kernel_rfl) (by kernel_rfl) (by kernel_rfl) (by kernel_rfl) ?h01 ?hops1 ?he1
    case hZ1 => simp only [List.foldl_cons, List.foldl_nil, List.setIfInBounds_toArray, List.set_cons_zero, List.set_cons_succ]; rfl
    case h01 => exact ⟨fun _ => rfl, fun e => (by cases e)⟩
    case hops1 =>
      refine ⟨?_, ?_, ?_, ?_, ?_, ?_, ?_, ?_, trivial⟩
      · exact seq_val (by rfl) (fun l V hg => by exact ⟨fun e => hg.1 (by simpa [updL] using e), fun e => hg.2 (by simpa [updL] using e)⟩) (fun l V hl hc hg => by clear hg; go_simp; (try with_reducible rfl); (try omega))
      · exact seq_val (by rfl) (fun l V hg => by exact ⟨fun e => hg.1 (by simpa [updL] using e), fun e => hg.2 (by simpa [updL] using e)⟩) (fun l V hl hc hg => by clear hg; go_simp; (try with_reducible rfl); (try omega))
      · exact seq_val (by rfl) (fun l V hg => by exact ⟨fun e => hg.1 (by simpa [updL] using e), fun e => hg.2 (by simpa [updL] using e)⟩) (fun l V hl hc hg => by clear hg; go_simp; (try with_reducible rfl); (try omega))
      · exact seq_val (by rfl) (fun l V hg => by exact ⟨fun e => hg.1 (by simpa [updL] using e), fun e => hg.2 (by simpa [updL] using e)⟩) (fun l V hl hc hg => by clear hg; go_simp; (try with_reducible rfl); (try omega))
      · exact seq_val (by rfl) (fun l V hg => by exact ⟨fun e => hg.1 (by simpa [updL] using e), fun e => hg.2 (by simpa [updL] using e)⟩) (fun l V hl hc hg => by clear hg; go_simp; (try with_reducible rfl); (try omega))
      · exact seq_val (by rfl) (fun l V hg => by exact ⟨fun e => hg.1 (by simpa [updL] using e), fun e => hg.2 (by simpa [updL] using e)⟩) (fun l V hl hc hg => by clear hg; go_simp; (try with_reducible rfl); (try omega))
      · exact seq_runQ (by rfl) (fun l V hl hc hg => by obtain rfl := hg.1 hl; exact ⟨w2, run_appX rfl rfl rfl rfl hap2, fun e => (by simp [updL] at e), fun _ => rfl⟩)
      · exact seq_val (by rfl) (fun l V hg => by exact ⟨fun e => hg.1 (by simpa [updL] using e), fun e => hg.2 (by simpa [updL] using e)⟩) (fun l V hl hc hg => by clear hg; go_simp; (try with_reducible rfl); (try omega))
    case he1 =>
    intro l W hall hg
    have hW : W = w2 := hg.2 (hall 6 (by decide))
    subst hW
    clear hg hall
    clear hap2 hs3 hs2 hs1
    go_wp2
    go_ret
    exact HF.out
end Go.Proofs.Ytconfmjgoipejaa.Del
