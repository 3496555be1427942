/- judge: hear, Judge, Owed. -/
import Derived.Test.YtpdnkbhgobdniaaJd9
namespace Go.Proofs.Ytpdnkbhgobdniaa
open Go.RowKit Go.MapKept Go.Maps
def zmk : List Value := [.int .i64 0, .int .i64 0, .int .u32 0, .int .u32 0, .int .u16 0, .int .u16 0, .int .u32 0, .bool false, .slice none 0 0, .int .i64 0]
theorem mark_size : (Try.prog.info? 44).map (·.size) = some 10 := by kernel_rfl
structure HrP (w0 : World) (cb m : Nat) (r : Nat × Int × Cp) (e : Ending) (w' : World) : Prop where
  out : e = .returned (.tuple #[.int .i64 (r.1 : Nat), .int .i64 r.2.1])
  ct : ∃ own', Ct w0 w' cb own' m r.2.2 (fun _ => False)
theorem hear_step (dd : List Mk) (j : Nat) (x : Mk) (hx : dd[j]? = some x) (cpj : Cp) :
    (takeJ cpj x).2 = 0 → hearJ cpj (dd.drop j) = ((hearJ (takeJ cpj x).1 (dd.drop (j + 1))).1 + 1, (hearJ (takeJ cpj x).1 (dd.drop (j + 1))).2) := by
  intro h
  have hj := (List.getElem?_eq_some_iff.1 hx).1
  have e : dd.drop j = x :: dd.drop (j + 1) := by rw [List.drop_eq_getElem_cons hj, (List.getElem?_eq_some_iff.1 hx).2]
  rw [e, hearJ, if_pos h]
theorem hear_stop (dd : List Mk) (j : Nat) (x : Mk) (hx : dd[j]? = some x) (cpj : Cp) :
    ¬ (takeJ cpj x).2 = 0 → hearJ cpj (dd.drop j) = (0, (takeJ cpj x).2, (takeJ cpj x).1) := by
  intro h
  have hj := (List.getElem?_eq_some_iff.1 hx).1
  have e : dd.drop j = x :: dd.drop (j + 1) := by rw [List.drop_eq_getElem_cons hj, (List.getElem?_eq_some_iff.1 hx).2]
  rw [e, hearJ, if_neg h]
set_option maxRecDepth 100000 in
set_option maxHeartbeats 4000000 in
theorem hear_any (w0 : World) (cb : Nat) (own : Ow) (n : Nat) (cp : Cp) (a : Option Addr) (ln c : Nat) (dd : List Mk) (w : World) (h : Ct w0 w cb own n cp (fun _ => False)) (hl : SlM w0 a ln c dd) (hn : n + 3 * ln ≤ 100000) :
    Calls Try.prog 18 #[.map (some cb), .slice a ln c] w (HrP w0 cb (n + 3 * ln) (hearJ cp dd)) := by
  have hlen := hl.len
  go_enter Try.func18, Try.ntmps18
  go_wp2
  go_loopw [11] (fun iv wr => ∃ (j : Nat) (ownj : Ow) (cpj : Cp), iv = .int .i64 (j : Nat) ∧ j ≤ ln ∧ Ct w0 wr cb ownj (n + 3 * j) cpj (fun _ => False) ∧ hearJ cp dd = ((hearJ cpj (dd.drop j)).1 + j, (hearJ cpj (dd.drop j)).2)) (fun iv _ => ln - (intOf iv).toNat)
  case atStart => exact ⟨0, own, cp, rfl, by omega, h, by simp⟩
  case round =>
    obtain ⟨j, ownj, cpj, rfl, hjn, hct, heq⟩ := hrel
    clear h
    have HE := (show Hid _ from heq)
    clear heq
    by_cases hjl : j < ln
    · obtain ⟨x, hx⟩ : ∃ x, dd[j]? = some x := ⟨_, List.getElem?_eq_getElem (by omega)⟩
      have hwf := hl.wf x (List.mem_of_getElem? hx)
      rcases hl.at_ with h0 | ⟨lb, off, rfl, hlt, hcell⟩
      · omega
      obtain ⟨cs, hcs⟩ : ∃ cs, cs = x.vals := ⟨_, rfl⟩
      have hbel := hct.bel
      have hrg : wr.rangeAt lb (off + j * 10) cs := fun i v hv => by
        rw [hcs] at hv
        exact (hbel.cell (p := ⟨lb, off + j * 10 + i, none⟩) hlt).trans (hcell j x hx i v hv)
      have hcl : cs.length = 10 := by rw [hcs]; rfl
      have hi10 : (Try.prog.info? 44).map (·.size) = some cs.length := by rw [hcl]; exact mark_size
      have hi10b : (Try.prog.info? 44).map (·.size) = some cs.toArray.size := by rw [List.size_toArray, hcl]; exact mark_size
      have hone : ∀ v ∈ cs, v.oneCell' = true := by rw [hcs]; simp [Mk.vals, Value.oneCell']
      have hth : (wr.alloc (.cells zmk.toArray 44)).there wr.heap.size 0 cs.toArray.size := by simp only [List.size_toArray, hcl]; exact there_new wr zmk 44 _ rfl
      have hrg2 : ((wr.alloc (.cells zmk.toArray 44)).setCells wr.heap.size 0 cs).rangeAt wr.heap.size 0 cs := World.rangeAt_setCells_same _ _ _ _ (by simpa using hth)
      have HB : Hid (Below wr.heap.size wr ((wr.alloc (.cells zmk.toArray 44)).setCells wr.heap.size 0 cs)) := ((Below.refl _ _).alloc (Nat.le_refl _) _).trans ((fr_setCells wr.heap.size cs 0 _).below wr.heap.size (by simp) (fun k hk => by omega))
      have HT : Hid (∀ W v, Below wr.heap.size wr W → v = .agg cs.toArray → Calls Try.prog 21 #[.map (some cb), v] W (TkP w0 cb (n + 3 * j + 1) (takeJ cpj x))) := fun W v hW hv => take_any w0 cb ownj (n + 3 * j) cpj x W (hct.below hW) hwf (by omega) v (by rw [hv, hcs])
      have HS := (show Hid _ from And.intro (hear_step dd j x hx cpj) (hear_stop dd j x hx cpj))
      have hj1 : (j : Int) < (ln : Int) := by omega
      obtain ⟨E, hE⟩ : ∃ E, E = (takeJ cpj x).2 := ⟨_, rfl⟩
      have HEE := (show Hid _ from hE)
      clear hcell hwf hct hcs hx hbel hE hcl
      by_cases hE0 : E = 0
      · subst hE0
        go_wp2_with (first
          | (refine wpList_load_mid rfl 44 _ rfl lb (off + j * 10) rfl cs _ hrg Try.underlying44 rfl hi10 ?_)
          | (refine wpList_store_mid rfl 44 _ _ rfl wr.heap.size 0 cs.toArray rfl rfl hth hi10b (all_oneCell_toArray hone) ?_; change wpList _ _ _ _ _ ((wr.alloc (.cells zmk.toArray 44)).setCells wr.heap.size 0 cs))
          | (refine wpList_load_mid rfl 44 _ rfl wr.heap.size 0 rfl cs _ hrg2 Try.underlying44 rfl hi10 ?_)
          | (go_at_call 21; refine (HT.out _ _ HB.out rfl).mono ?_; rintro e w2 ⟨he, own2, hct2⟩; obtain rfl : e = .returned (.int .i64 0) := (by rw [HEE.out]; exact he); have HC := (show Hid _ from hct2); clear he hct2)
          | fail)
        go_roundw
        case rel => exact ⟨j + 1, own2, (takeJ cpj x).1, by go_num, by omega, HC.out.mono (show n + 3 * j + 1 + 2 ≤ n + 3 * (j + 1) by omega), by rw [HE.out, HS.out.1 HEE.out.symm]; dsimp only; congr 1; omega⟩
        case measure => simp [intOf]; omega
      · go_wp2_with (first
          | (refine wpList_load_mid rfl 44 _ rfl lb (off + j * 10) rfl cs _ hrg Try.underlying44 rfl hi10 ?_)
          | (refine wpList_store_mid rfl 44 _ _ rfl wr.heap.size 0 cs.toArray rfl rfl hth hi10b (all_oneCell_toArray hone) ?_; change wpList _ _ _ _ _ ((wr.alloc (.cells zmk.toArray 44)).setCells wr.heap.size 0 cs))
          | (refine wpList_load_mid rfl 44 _ rfl wr.heap.size 0 rfl cs _ hrg2 Try.underlying44 rfl hi10 ?_)
          | (go_at_call 21; refine (HT.out _ _ HB.out rfl).mono ?_; rintro e w2 ⟨he, own2, hct2⟩; obtain rfl : e = .returned (.int .i64 E) := (by rw [HEE.out]; exact he); have HC := (show Hid _ from hct2); clear he hct2)
          | fail)
        go_ret2
        rw [HE.out, HS.out.2 (fun e => hE0 (HEE.out.trans e))]
        exact ⟨by rw [← HEE.out]; simp, own2, HC.out.mono (by omega)⟩
    · have hj : j = ln := by omega
      subst hj
      have hj1 : ¬ (j : Int) < (j : Int) := by omega
      have HC := (show Hid _ from hct)
      clear hct
      go_wp2
      go_ret2
      rw [HE.out, List.drop_eq_nil_of_le (by omega)]
      exact ⟨by simp [hearJ], _, HC.out⟩
/-- What Judge answers, as mathematics. -/
def jdg (dd : List Mk) : Nat × Int × Cp := hearJ (fun _ => Bp.empty) dd
theorem ct_new (w : World) (W : World) (hW : W = w.alloc (.map #[] 0)) : Ct w W w.heap.size (fun _ => none) 0 (fun _ => Bp.empty) (fun _ => False) := by
  refine ⟨by rw [hW]; exact (Below.refl _ _).alloc (Nat.le_refl _) _, Nat.le_refl _, (fun g o h => (by cases h)), _, Mp.made w W hW, fun q _ _ => .inl ⟨rfl, rfl⟩⟩
set_option maxHeartbeats 1000000 in
theorem judge_any (a : Option Addr) (ln c : Nat) (dd : List Mk) (w : World) (hl : SlM w a ln c dd) (hn : ln ≤ 1000) (v : Value) (hv : v = .slice a ln c) :
    Calls Try.prog 10 #[v] w fun e w' => e = .returned (.tuple #[.int .i64 ((jdg dd).1 : Nat), .int .i64 (jdg dd).2.1]) ∧ Below w.heap.size w w' := by
  subst hv
  have hmm := @run_makeMap Try.prog
  go_enter Try.func10, Try.ntmps10
  go_wp2_with (first | (go_at_call 18; refine (hear_any w w.heap.size _ 0 _ a ln c dd _ (ct_new w _ rfl) hl (by omega)).mono ?_; rintro e w2 ⟨rfl, own2, hct⟩; have HC := (show Hid _ from hct.bel); clear hct) | fail)
  go_ret2
  exact ⟨rfl, HC.out⟩
theorem bkf3 (a b c o d e f : Value) (w : World) : (Instr.field 54 (.agg #[a, b, c, o, d, e, f]) 3).run Try.prog w = .ok o w := by
  simp only [Instr.field, asAgg, Sem.run_bind, Result.andThen_ok, run_underlying Try.underlying54]
  simp only [List.getElem?_toArray, List.getElem?_cons_zero, List.getElem?_cons_succ, Sem.run_bind, Sem.run_pure, Result.andThen_ok, part, isAgg, run_underlying Try.underlying3]
  rfl
/-- What Owed answers. -/
def owd (dd : List Mk) (q : Sd) : Int × Bool := if (jdg dd).2.1 = 0 then (((jdg dd).2.2 q).owed, true) else (0, false)
set_option maxHeartbeats 1000000 in
theorem owed_any (a : Option Addr) (ln c : Nat) (dd : List Mk) (q : Sd) (hk : SdK q) (w : World) (hl : SlM w a ln c dd) (hn : ln ≤ 1000) (v : Value) (hv : v = .slice a ln c) :
    Calls Try.prog 13 #[v, .int .i64 q.1, .int .u32 (q.2.1 : Nat), .int .u32 (q.2.2 : Nat)] w fun e w' => e = .returned (.tuple #[.int .i64 (owd dd q).1, .bool (owd dd q).2]) ∧ Below w.heap.size w w' := by
  subst hv
  have hmm := @run_makeMap Try.prog
  have hfld := bkf3
  obtain ⟨E, hE⟩ : ∃ E, E = (jdg dd).2.1 := ⟨_, rfl⟩
  have HE := (show Hid _ from hE)
  unfold owd
  rw [← hE]
  clear hE
  by_cases h0 : E = 0
  · subst h0
    rw [if_pos rfl]
    go_enter Try.func13, Try.ntmps13
    go_wp2_with (first
      | (go_at_call 18; refine (hear_any w w.heap.size _ 0 _ a ln c dd _ (ct_new w _ rfl) hl (by omega)).mono ?_; rintro e w2 ⟨he, own2, hct⟩; obtain rfl : e = .returned (.tuple #[.int .i64 ((jdg dd).1 : Nat), .int .i64 0]) := (by rw [HE.out]; exact he); clear he; have HC := (show Hid _ from hct); clear hct)
      | (go_at_call 20; refine (of2 w w.heap.size own2 (0 + 3 * ln) (jdg dd).2.2 q _ HC.out hk _ (by rfl)).mono ?_; rintro e w3 ⟨⟨r, l, t, own3, rfl, hct3, _, _, _⟩, _⟩; have HD := (show Hid _ from hct3.bel); clear hct3; unfold bval)
      | fail)
    go_ret2
    exact ⟨rfl, HD.out⟩
  · rw [if_neg h0]
    go_enter Try.func13, Try.ntmps13
    go_wp2_with (first
      | (go_at_call 18; refine (hear_any w w.heap.size _ 0 _ a ln c dd _ (ct_new w _ rfl) hl (by omega)).mono ?_; rintro e w2 ⟨he, own2, hct⟩; obtain rfl : e = .returned (.tuple #[.int .i64 ((jdg dd).1 : Nat), .int .i64 E]) := (by rw [HE.out]; exact he); clear he; have HC := (show Hid _ from hct.bel); clear hct)
      | fail)
    go_ret2
    exact ⟨rfl, HC.out⟩
end Go.Proofs.Ytpdnkbhgobdniaa
