/- ref19.One whole, ref19.Judge. -/
import Derived.Test.YtpdnkbhgobdniaaJdN
import Derived.Test.YtpdnkbhgobdniaaJdLive
namespace Go.Proofs.Ytpdnkbhgobdniaa
open Go.RowKit Go.MapKept Go.Maps
set_option maxRecDepth 100000 in
set_option maxHeartbeats 8000000 in
theorem one_bad (a : Option Addr) (m c : Nat) (x : Mk) (w : World) (g0 : (x.host != 0) = true) (g1 : (x.host != 1) = true) :
    Calls Try.prog 19 #[.slice a m c, .agg #[.int .i64 x.is, .int .i64 x.host, .int .u32 (x.own : Nat), .int .u32 (x.peer : Nat), .int .u16 (x.mst : Nat), .int .u16 (x.mssn : Nat), .int .u32 (x.mpp : Nat), .bool x.mfree, .slice x.mdA x.mdN x.mdC, .int .i64 x.note]] w fun e w' => e = .returned (.int .i64 2) ∧ Below w.heap.size w w' := by
  go_enter Try.func19, Try.ntmps19
  go_wp2_with fail
  go_ret
  exact ⟨rfl, (Below.refl _ _).alloc (Nat.le_refl _) _⟩
theorem one_any (a : Option Addr) (m c : Nat) (ds : List Mk) (x : Mk) (w : World) (hS : SlM w a m c ds) (hm : m ≤ 1000) (hxw : x.Wf w) (v u : Value) (hv : v = .slice a m c) (hu : u = .agg #[.int .i64 x.is, .int .i64 x.host, .int .u32 (x.own : Nat), .int .u32 (x.peer : Nat), .int .u16 (x.mst : Nat), .int .u16 (x.mssn : Nat), .int .u32 (x.mpp : Nat), .bool x.mfree, .slice x.mdA x.mdN x.mdC, .int .i64 x.note]) :
    Calls Try.prog 19 #[v, u] w fun e w' => e = .returned (.int .i64 (oneJ ds x)) ∧ Below w.heap.size w w' := by
  subst hv hu
  unfold oneJ
  by_cases h01 : x.host = 0 ∨ x.host = 1
  · rw [if_neg (by omega)]
    by_cases h1 : x.is = 1
    · rw [if_pos h1]
      exact one_sent a m c ds x w hS hm h01 (by simpa using h1)
    · rw [if_neg h1]
      by_cases h2 : x.is = 2
      · rw [if_pos h2]
        exact one_got a m c ds x w hS hm h01 (by simpa using h1) (by simpa using h2) hxw
      · rw [if_neg h2]
        by_cases h3 : x.is = 3
        · rw [if_pos h3]
          exact one_told a m c ds x w hS hm h01 (by simpa using h1) (by simpa using h2) (by simpa using h3)
        · rw [if_neg h3]
          by_cases h4 : x.is = 4
          · rw [if_pos h4]
            exact one_shut a m c ds x w hS hm h01 (by simpa using h1) (by simpa using h2) (by simpa using h3) (by simpa using h4)
          · rw [if_neg h4]
            exact one_else a m c ds x w hS hm h01 (by simpa using h1) (by simpa using h2) (by simpa using h3) (by simpa using h4)
  · rw [if_pos (by omega)]
    have e0 : x.host ≠ 0 := fun h => h01 (.inl h)
    have e1 : x.host ≠ 1 := fun h => h01 (.inr h)
    exact one_bad a m c x w (by simpa using e0) (by simpa using e1)
/-- The reference's judgement: marks behind those that stood. -/
def judF (pre : List Mk) : List Mk → Nat × Int
  | [] => (pre.length, 0)
  | x :: t => if oneJ pre x = 0 then judF (pre ++ [x]) t else (pre.length, oneJ pre x)
theorem judF_at (dd : List Mk) (i : Nat) (x : Mk) (hx : dd[i]? = some x) : judF (dd.take i) (dd.drop i) = if oneJ (dd.take i) x = 0 then judF (dd.take (i + 1)) (dd.drop (i + 1)) else (i, oneJ (dd.take i) x) := by
  obtain ⟨hi, e⟩ := List.getElem?_eq_some_iff.1 hx
  rw [List.drop_eq_getElem_cons hi, e, judF]
  have h1 : dd.take i ++ [x] = dd.take (i + 1) := by rw [List.take_add_one, hx]; rfl
  have h2 : (dd.take i).length = i := by rw [List.length_take]; omega
  rw [h1, h2]
set_option maxRecDepth 100000 in
set_option maxHeartbeats 8000000 in
theorem rjudge_any (a : Option Addr) (ln c : Nat) (dd : List Mk) (w : World) (hl : SlM w a ln c dd) (hn : ln ≤ 1000) (v : Value) (hv : v = .slice a ln c) :
    Calls Try.prog 11 #[v] w fun e w' => e = .returned (.tuple #[.int .i64 ((judF [] dd).1 : Nat), .int .i64 (judF [] dd).2]) ∧ Below w.heap.size w w' := by
  subst hv
  have hcap := hl.cap
  have hsm := hl.small
  have HA := (show Hid _ from hl.at_)
  have HLN : Hid (dd.length = ln) := hl.len
  have HS := (show Hid _ from hl)
  clear hl
  go_enter Try.func11, Try.ntmps11
  go_wp2_with fail
  go_loopw [4] (fun kv wr => ∃ i : Nat, kv = .int .i64 (i : Nat) ∧ i ≤ ln ∧ judF [] dd = judF (dd.take i) (dd.drop i) ∧ Below w.heap.size w wr) (fun kv _ => ln - (intOf kv).toNat)
  case atStart => exact ⟨0, rfl, by omega, rfl, Below.refl _ _⟩
  case round =>
    obtain ⟨i, rfl, hil, hj, hbk⟩ := hrel
    have HJ := (show Hid _ from hj)
    clear hj
    by_cases hin : i < ln
    · have hi1 : (i : Int) < (ln : Int) := by omega
      have hi0 : (0 : Int) ≤ (i : Int) := by omega
      have hi2 : (i : Int) ≤ (c : Int) := by omega
      obtain ⟨x, hx⟩ : ∃ x, dd[i]? = some x := ⟨_, List.getElem?_eq_getElem (by have := HLN.out; omega)⟩
      rcases HA.out with h0 | ⟨lb, off, rfl, hlt, hM⟩
      · omega
      have HM0 := (show Hid _ from And.intro hlt (hM i x hx))
      have HXW : Hid (∀ V, Below w.heap.size w V → x.Wf V) := fun V hV => (HS.out.below hV).wf x (List.mem_of_getElem? hx)
      have HT := (show Hid _ from HS.out.take i hil)
      have HJA := (show Hid _ from judF_at dd i x hx)
      obtain ⟨E, HE⟩ : ∃ E, Hid (E = oneJ (dd.take i) x) := ⟨_, rfl⟩
      have HALL : Hid (∀ V, Below w.heap.size w V → V.cell? ⟨lb, off + i * 10, none⟩ = some (.int .i64 x.is) ∧ V.cell? ⟨lb, off + i * 10 + 1, none⟩ = some (.int .i64 x.host) ∧ V.cell? ⟨lb, off + i * 10 + 2, none⟩ = some (.int .u32 (x.own : Nat)) ∧ V.cell? ⟨lb, off + i * 10 + 3, none⟩ = some (.int .u32 (x.peer : Nat)) ∧ V.cell? ⟨lb, off + i * 10 + 4, none⟩ = some (.int .u16 (x.mst : Nat)) ∧ V.cell? ⟨lb, off + i * 10 + 5, none⟩ = some (.int .u16 (x.mssn : Nat)) ∧ V.cell? ⟨lb, off + i * 10 + 6, none⟩ = some (.int .u32 (x.mpp : Nat)) ∧ V.cell? ⟨lb, off + i * 10 + 7, none⟩ = some (.bool x.mfree) ∧ V.cell? ⟨lb, off + i * 10 + 8, none⟩ = some (.slice x.mdA x.mdN x.mdC) ∧ V.cell? ⟨lb, off + i * 10 + 9, none⟩ = some (.int .i64 x.note) ∧ Below w.heap.size w V) := fun V hV => ⟨range_below HM0.out.2 hV HM0.out.1 0 _ rfl, range_below HM0.out.2 hV HM0.out.1 1 _ rfl, range_below HM0.out.2 hV HM0.out.1 2 _ rfl, range_below HM0.out.2 hV HM0.out.1 3 _ rfl, range_below HM0.out.2 hV HM0.out.1 4 _ rfl, range_below HM0.out.2 hV HM0.out.1 5 _ rfl, range_below HM0.out.2 hV HM0.out.1 6 _ rfl, range_below HM0.out.2 hV HM0.out.1 7 _ rfl, range_below HM0.out.2 hV HM0.out.1 8 _ rfl, range_below HM0.out.2 hV HM0.out.1 9 _ rfl, hV⟩
      have hbD : Below w.heap.size w wr.drew := hbk.drew
      clear hM hx
      obtain ⟨x0, x1, x2, x3, x4, x5, x6, x7, x8, x9, _⟩ := HALL.out _ hbk
      go_wp2_with fail
      go_region_held3 (fun V => V.cell? ⟨lb, off + i * 10, none⟩ = some (.int .i64 x.is) ∧ V.cell? ⟨lb, off + i * 10 + 1, none⟩ = some (.int .i64 x.host) ∧ V.cell? ⟨lb, off + i * 10 + 2, none⟩ = some (.int .u32 (x.own : Nat)) ∧ V.cell? ⟨lb, off + i * 10 + 3, none⟩ = some (.int .u32 (x.peer : Nat)) ∧ V.cell? ⟨lb, off + i * 10 + 4, none⟩ = some (.int .u16 (x.mst : Nat)) ∧ V.cell? ⟨lb, off + i * 10 + 5, none⟩ = some (.int .u16 (x.mssn : Nat)) ∧ V.cell? ⟨lb, off + i * 10 + 6, none⟩ = some (.int .u32 (x.mpp : Nat)) ∧ V.cell? ⟨lb, off + i * 10 + 7, none⟩ = some (.bool x.mfree) ∧ V.cell? ⟨lb, off + i * 10 + 8, none⟩ = some (.slice x.mdA x.mdN x.mdC) ∧ V.cell? ⟨lb, off + i * 10 + 9, none⟩ = some (.int .i64 x.note) ∧ Below w.heap.size w V) (first | exact HALL.out _ (by assumption)) (first
        | (go_at_call 19; refine (one_any _ i c (dd.take i) x _ (HT.out.below hbD) (by omega) (HXW.out _ hbD) _ _ (by rfl) (by rfl)).mono ?_; rintro e w6 ⟨he, hb6⟩; obtain rfl : e = .returned (.int .i64 E) := (by rw [HE.out]; exact he); clear he; have hb36 := hbD.trans (hb6.mono hbD.size))
        | fail)
      all_goals
        clear HALL hbD hb6
        simp only [Exit.then]
        by_cases hE : E = 0
        · have qE : (E != 0) = false := by simp [hE]
          have HEZ := (show Hid _ from hE)
          clear hE
          go_wp2
          go_roundw
          case rel => exact ⟨i + 1, by go_num, by omega, by rw [HJ.out, HJA.out, ← HE.out, if_pos HEZ.out], hb36⟩
          case measure => simp [intOf]; omega
        · have qE : (E != 0) = true := by simpa using hE
          have HEZ := (show Hid _ from hE)
          clear hE
          go_wp2
          go_ret2
          refine ⟨?_, hb36⟩
          rw [HJ.out, HJA.out, ← HE.out, if_neg HEZ.out]
          rfl
    · obtain rfl : i = ln := by omega
      have hi1 : ¬ (i : Int) < (i : Int) := by omega
      go_wp2
      go_ret2
      refine ⟨?_, hbk⟩
      rw [HJ.out, List.drop_eq_nil_of_le (by have := HLN.out; omega), judF, List.length_take, HLN.out, Nat.min_self]
      rfl
end Go.Proofs.Ytpdnkbhgobdniaa
