/- What once of package serial answers: the numbers, each where it is met first, in a row of its own. -/
import Derived.Test.YtpnfghchllipnabOwnU
import Derived.Test.YtpnfghchllipnabSortM
import Derived.Test.YtpnfghchllipnabSer1
import Derived.Laws.MakeOwn
import Derived.Maps.OwnSet
import Derived.Maps.AppendAt
import Derived.Outline
import Derived.WalkLawsBesides
import Derived.WalkSpells
namespace Go.Proofs.Ytpnfghchllipnab
open Go.RowKit Go.Maps
def Sd (zs : List Nat) (k : Nat) : DataW Unit := setOf (.agg []) ((onceV zs k).map fun z => Lit.int .u32 (z : Nat))
theorem Sd_zero (zs : List Nat) : Sd zs 0 = .map [] := by simp [Sd, onceV, setOf]
theorem any_u32 (x : Nat) : ∀ l : List Nat, l.any ((fun y : Lit => y.sameKey (.int .u32 (x : Nat))) ∘ fun z : Nat => Lit.int .u32 (z : Nat)) = l.contains x
  | [] => rfl
  | a :: r => by
    rw [List.any_cons, List.contains_cons, any_u32 x r]
    congr 1
    show decide (IntKind.u32 = IntKind.u32 ∧ (a : Int) = (x : Int)) = (x == a)
    by_cases e : a = x
    · subst e; simp
    · have e' : ¬ x = a := fun h => e h.symm
      have e2 : ¬ (a : Int) = (x : Int) := by omega
      simp [e2, e']
theorem has_Sd (zs : List Nat) (k x : Nat) : Maps.has (Sd zs k) (.int .u32 (x : Nat)) = (onceV zs k).contains x := by
  unfold Sd
  rw [has_setOf _ _ _ (fun y hy => by obtain ⟨_, _, rfl⟩ := List.mem_map.1 hy; trivial), List.any_map]
  exact any_u32 x _
theorem once_old (zs : List Nat) (k : Nat) (hk : k < zs.length) (h : (onceV zs k).contains (zs.getD k 0) = true) : onceV zs (k + 1) = onceV zs k := by
  rw [onceV_succ zs k hk, addOnce, if_pos h]
theorem once_new (zs : List Nat) (k : Nat) (hk : k < zs.length) (h : (onceV zs k).contains (zs.getD k 0) = false) : onceV zs (k + 1) = onceV zs k ++ [zs.getD k 0] := by
  rw [onceV_succ zs k hk, addOnce, if_neg (by rw [h]; exact Bool.false_ne_true)]
theorem Sd_new (zs : List Nat) (k : Nat) (hk : k < zs.length) (h : (onceV zs k).contains (zs.getD k 0) = false) : Sd zs (k + 1) = (Sd zs k).put (.int .u32 (zs.getD k 0 : Nat)) (.agg []) := by
  unfold Sd
  rw [once_new zs k hk h, List.map_append, List.map_singleton, setOf_snoc]
theorem Sd_old (zs : List Nat) (k : Nat) (hk : k < zs.length) (h : (onceV zs k).contains (zs.getD k 0) = true) : Sd zs (k + 1) = Sd zs k := by
  unfold Sd; rw [once_old zs k hk h]
theorem key_law : Keyed Try.prog 22 := int_keyed Try.underlying22
theorem zero_unit (w : World) : (zeroValue 87).run Try.prog w = .ok (.agg #[]) w := by kernel_rfl
theorem run_mkmap (n : Nat) (w : World) : (Instr.makeMap 86 (some (.int .i64 n))).run Try.prog w = .ok (.map (some w.heap.size)) (w.alloc (.map #[] 0)) := by
  simp [Instr.makeMap, run_underlying Try.underlying86, asInt, asIntOf, newObj]
  rfl
theorem wf32 (x : Nat) (hx : x < 4294967296) : (Lit.int .u32 (x : Nat)).wf = true := by
  have h1 : IntKind.u32.min = 0 := rfl
  have h2 : IntKind.u32.max = 4294967295 := rfl
  simp [Lit.wf, h1, h2]; omega
set_option maxHeartbeats 2000000 in
set_option maxRecDepth 100000 in
theorem once_any (a : Option Addr) (n c : Nat) (zs : List Nat) (w : World) (hs : SlU w a n c zs) (hn : n * 4 ≤ 140737488355328) :
    Calls Try.prog 25 #[.slice a n c] w fun e w' => ∃ a' c', e = .returned (.slice a' (onceV zs n).length c') ∧ OwnU w' w.heap.size a' (onceV zs n).length c' (onceV zs n) ∧ Below w.heap.size w w' ∧ (∃ g, a' = some ⟨g, 0, none⟩) := by
  have hmm := run_mkmap n
  have hl := hs.len
  have hsm := hs.small
  obtain ⟨i0, hi, hz0, hz1, hz2⟩ := info_parts own_infoU
  obtain ⟨w2, hmk, how, hgr⟩ := run_make_own (P := Try.prog) (w.alloc (.map #[] 0)) (w.heap.size + 1) 23 22 i0 (.int .u32 0) 1 Try.underlying23 hi hz0 hz1 .i64 .i64 n (by rw [hz2]; omega) (by unfold maxLen; omega) (by simp)
  have hown0 : w2.ownsMap Try.prog 22 (unitElem (H := Unit)) w.heap.size 0 (Sd zs 0) := by
    rw [Sd_zero]
    exact (World.ownsMap_made _ _ _ _).kept hgr (by simp)
  have hrow0 : OwnU w2 (w.heap.size + 1) (some ⟨w.heap.size + 1, 0, none⟩) 0 n [] := ⟨rfl, by simpa [valsU] using how, fun i => by simp⟩
  have hb0 : Below w.heap.size w w2 := ((Below.refl _ _).alloc (Nat.le_refl _) _).grown hgr (by simp) (fun k hk => by cases hk)
  have hz0' : w.heap.size + 2 ≤ w2.heap.size := by
    have := hrow0.own.lt (w.heap.size + 1) rfl
    omega
  clear how hgr
  go_enter Try.func25, Try.ntmps25
  go_wp2
  go_loopw [4, 17] (fun v i wr => ∃ (k : Nat) (a1 : Option Addr) (c1 : Nat), k ≤ n ∧ i = .int .i64 k ∧ v = .slice a1 (onceV zs k).length c1 ∧ wr.ownsMap Try.prog 22 (unitElem (H := Unit)) w.heap.size k (Sd zs k) ∧ OwnU wr (w.heap.size + 1) a1 (onceV zs k).length c1 (onceV zs k) ∧
      Below w.heap.size w wr ∧ w.heap.size + 2 ≤ wr.heap.size ∧ (∃ g, a1 = some ⟨g, 0, none⟩))
    (fun _ i _ => n - (intOf i).toNat)
  case atStart => exact ⟨0, _, n, Nat.zero_le _, rfl, rfl, hown0, hrow0, hb0, hz0', _, rfl⟩
  case round =>
    obtain ⟨k, a1, c1, hk, rfl, rfl, hown, hrow, hnx, hws, g1, rfl⟩ := hrel
    clear hown0 hrow0 hb0 hz0' hmk
    by_cases hkn : k < n
    · rcases hs.at_ with h0 | ⟨b, off, rfl, hlt, hcell⟩
      · omega
      have hcx : wr.cell? ⟨b, off + k, none⟩ = some (.int .u32 (zs.getD k 0 : Nat)) := (hnx.cell (p := ⟨b, off + k, none⟩) hlt).trans (hcell k hkn)
      have hx := hs.bnd k
      have hkey : keyOf Try.prog 22 (.int .u32 (zs.getD k 0 : Nat)) = some (.int .u32 (zs.getD k 0 : Nat)) := keyOf_int_mk Try.underlying22 (wf32 _ hx)
      have hal := onceV_le zs k
      have hkz : k < zs.length := by omega
      have H1 : Hid ((onceV zs k).contains (zs.getD k 0) = true → Sd zs (k + 1) = Sd zs k ∧ onceV zs (k + 1) = onceV zs k) := fun h => ⟨Sd_old zs k hkz h, once_old zs k hkz h⟩
      have H2 : Hid ((onceV zs k).contains (zs.getD k 0) = false → Sd zs (k + 1) = (Sd zs k).put (.int .u32 (zs.getD k 0 : Nat)) (.agg []) ∧ onceV zs (k + 1) = onceV zs k ++ [zs.getD k 0]) := fun h => ⟨Sd_new zs k hkz h, once_new zs k hkz h⟩
      have HH := (show Hid _ from has_Sd zs k (zs.getD k 0))
      generalize zs.getD k 0 = x at *
      clear hcell hkz
      generalize Sd zs k = SD at *
      generalize onceV zs k = L at *
      cases hcon : L.contains x with
      | true =>
        rw [hcon] at HH
        have hhas := HH.out
        have H3 := (show Hid _ from H1.out hcon)
        clear H1 H2 HH hcon
        go_wp2_with (at_lookup; refine wpList_lookup_own_unit _ rfl _ _ 86 rfl 22 87 key_law Try.underlying86 (zero_unit _) w.heap.size k _ rfl hown _ _ rfl hkey ?_)
        go_roundw
        case rel =>
          refine ⟨k + 1, _, c1, by omega, by go_num, by rw [H3.out.2], ?_, by rw [H3.out.2]; exact hrow.alloc _, hnx.alloc hnx.size _, by simp; omega, g1, rfl⟩
          rw [H3.out.1]
          exact (hown.alloc _).mono (Nat.le_succ _)
        case measure => simp [intOf]; omega
      | false =>
        rw [hcon] at HH
        have hhas := HH.out
        have H3 := (show Hid _ from H2.out hcon)
        clear H1 H2 HH hcon
        have hg1 := hrow.own.lt g1 rfl
        go_wp2_with (first
          | (at_lookup; refine wpList_lookup_own_unit _ rfl _ _ 86 rfl 22 87 key_law Try.underlying86 (zero_unit _) w.heap.size k _ rfl hown _ _ rfl hkey ?_)
          | (at_mapUpdate; refine wpList_mapUpdate_own _ rfl _ _ _ 86 rfl 22 87 key_law Try.underlying86 (unitElem (H := Unit)) w.heap.size k _ rfl (hown.alloc _) (by unfold maxLen; omega) _ _ _ rfl rfl hkey _ [] unitElem_mk ?_; intro w1 hown1 hgrow1)
          | (at_builtin; go_must (refine app_listU rfl _ _ rfl (w.heap.size + 1) _ L.length c1 L rfl (((hrow.alloc _).kept hgrow1 (.inr (by simp [Value.ownBlock]; omega))).alloc _) _ 1 1 [x] rfl (u32_one _ _ x hx) (by omega) (by have := hgrow1.size; simp at this ⊢; omega) ?_)))
        intro a2 c2 w3 ho3 hg3
        have hr1 : OwnU w1 (w.heap.size + 1) (some ⟨g1, 0, none⟩) L.length c1 L := (hrow.alloc _).kept hgrow1 (.inr (by simp [Value.ownBlock]; omega))
        have s1 := hgrow1.size
        have s2 := hg3.size
        simp at s1 s2
        have hb1 : Below w.heap.size w w1 := (hnx.alloc hnx.size _).grown hgrow1 (by simp; omega) (fun j hj => by cases hj; exact Nat.le_refl _)
        have hb2 : Below w.heap.size w w3 := (hb1.alloc (by omega) _).grown hg3 (by simp; omega) (fun j hj => Nat.le_trans (Nat.le_succ _) (hr1.own.lt j hj).1)
        have hm2 := (hown1.alloc (.cells #[.int .u32 (x : Nat)] 22)).kept hg3 (by simp [Value.ownBlock]; omega)
        have hex : ∃ g, a2 = some ⟨g, 0, none⟩ := by
          rcases ho3.own.2 with ⟨_, h0⟩ | ⟨g, cap, cur, hv, _⟩
          · omega
          · injection hv with e1
            exact ⟨g, e1⟩
        clear hown1 hgrow1 hown hrow hg3 hr1 hb1
        go_wp2
        go_roundw
        case rel =>
          exact ⟨k + 1, a2, c2, by omega, by go_num, by rw [H3.out.2]; simp, by rw [H3.out.1]; exact hm2, by rw [H3.out.2]; simpa using ho3, hb2, by omega, hex⟩
        case measure => simp [intOf]; omega
    · obtain rfl : k = n := by omega
      go_wp2
      go_ret
      exact ⟨_, c1, rfl, hrow.base (Nat.le_succ _), hnx, g1, rfl⟩
end Go.Proofs.Ytpnfghchllipnab
