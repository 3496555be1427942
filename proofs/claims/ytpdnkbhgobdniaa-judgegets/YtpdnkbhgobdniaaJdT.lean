/- ref19.stands. -/
import Derived.Test.YtpdnkbhgobdniaaJdS
namespace Go.Proofs.Ytpdnkbhgobdniaa
open Go.RowKit Go.MapKept Go.Maps
def endJ (ds : List Mk) (q : Sd) : Bool := ds.any fun x => ofJ x q && (decide (x.is = 3) && decide (¬ x.note = 1))
def camJ (ds : List Mk) (q : Sd) : Bool := ds.any fun x => ofJ x q && (decide (x.is = 3) && decide (x.note = 1))
def shuJ (ds : List Mk) (q : Sd) : Bool := ds.any fun x => ofJ x q && decide (x.is = 4)
theorem endJ_snoc (ds : List Mk) (x : Mk) (q : Sd) : endJ (ds ++ [x]) q = (endJ ds q || (ofJ x q && (decide (x.is = 3) && decide (¬ x.note = 1)))) := by unfold endJ; simp
theorem camJ_snoc (ds : List Mk) (x : Mk) (q : Sd) : camJ (ds ++ [x]) q = (camJ ds q || (ofJ x q && (decide (x.is = 3) && decide (x.note = 1)))) := by unfold camJ; simp
theorem shuJ_snoc (ds : List Mk) (x : Mk) (q : Sd) : shuJ (ds ++ [x]) q = (shuJ ds q || (ofJ x q && decide (x.is = 4))) := by unfold shuJ; simp
set_option maxRecDepth 100000 in
set_option maxHeartbeats 8000000 in
theorem stands19_any (a : Option Addr) (m c : Nat) (ds : List Mk) (y : Mk) (w : World) (hS : SlM w a m c ds) (hm : m ≤ 1000) (v u : Value) (hv : v = .slice a m c) (hu : u = .agg y.vals.toArray) :
    Calls Try.prog 22 #[v, u] w fun e w' => e = .returned (.tuple #[.bool (endJ ds y.sd), .bool (camJ ds y.sd), .bool (shuJ ds y.sd)]) ∧ Below w.heap.size w w' := by
  subst hv hu
  have hlen := hS.len
  have HA : Hid (m = 0 ∨ ∃ lb off, a = some ⟨lb, off, none⟩ ∧ lb < w.heap.size ∧ ∀ i x, ds[i]? = some x → w.rangeAt lb (off + i * 10) x.vals) := by
    rcases hS.at_ with h0 | ⟨lb, off, e, hlt, hc⟩
    · exact .inl h0
    · exact .inr ⟨lb, off, e, hlt, fun i x hx j v hv => hc i x hx j v hv⟩
  clear hS
  unfold Mk.vals
  go_enter Try.func22, Try.ntmps22
  go_wp2_with fail
  obtain ⟨w2, HW2⟩ : ∃ w2, Hid (w2 = w.alloc (.cells #[.int .i64 y.is, .int .i64 y.host, .int .u32 (y.own : Nat), .int .u32 (y.peer : Nat), .int .u16 (y.mst : Nat), .int .u16 (y.mssn : Nat), .int .u32 (y.mpp : Nat), .bool y.mfree, .slice y.mdA y.mdN y.mdC, .int .i64 y.note] 44)) := ⟨_, rfl⟩
  have HY := (show Hid _ from range_new w y.vals 44 w2 HW2.out)
  have HZ : Hid (w2.heap.size = w.heap.size + 1) := by show _ = _; rw [HW2.out]; simp
  have HBW : Hid (∀ V, Below (w.heap.size + 1) w2 V → Below w.heap.size w V) := fun V hV => ((by rw [HW2.out]; exact (Below.refl _ _).alloc (Nat.le_refl _) _ : Below w.heap.size w w2)).trans (hV.mono (by omega))
  rw [← HW2.out]
  go_loopw [7, 8, 9, 10] (fun ev cv sv iv wr => ∃ (i : Nat) (be bc bs : Bool), ev = .bool be ∧ cv = .bool bc ∧ sv = .bool bs ∧ iv = .int .i64 (i : Nat) ∧ i ≤ m ∧ be = endJ (ds.take i) y.sd ∧ bc = camJ (ds.take i) y.sd ∧ bs = shuJ (ds.take i) y.sd ∧ Below (w.heap.size + 1) w2 wr) (fun _ _ _ iv _ => m - (intOf iv).toNat)
  case atStart => exact ⟨0, false, false, false, rfl, rfl, rfl, rfl, by omega, rfl, rfl, rfl, Below.refl _ _⟩
  case round =>
    obtain ⟨i, be, bc, bs, rfl, rfl, rfl, rfl, him, hbe, hbc, hbs, hbel⟩ := hrel
    have HF := (show Hid _ from And.intro hbe (And.intro hbc hbs))
    clear hbe hbc hbs
    by_cases hil : i < m
    · have hi1 : (i : Int) < (m : Int) := by omega
      have hi0 : (0 : Int) ≤ (i : Int) := by omega
      obtain ⟨x, hx⟩ : ∃ x, ds[i]? = some x := ⟨_, List.getElem?_eq_getElem (by omega)⟩
      rcases HA.out with h0 | ⟨lb, off, rfl, hlt, hM⟩
      · omega
      have hrx := hM i x hx
      have HN : Hid (endJ (ds.take (i + 1)) y.sd = (be || (ofJ x y.sd && (decide (x.is = 3) && decide (¬ x.note = 1)))) ∧ camJ (ds.take (i + 1)) y.sd = (bc || (ofJ x y.sd && (decide (x.is = 3) && decide (x.note = 1)))) ∧ shuJ (ds.take (i + 1)) y.sd = (bs || (ofJ x y.sd && decide (x.is = 4)))) := by
        have hj := (List.getElem?_eq_some_iff.1 hx).1
        rw [List.take_succ_eq_append_getElem hj, (List.getElem?_eq_some_iff.1 hx).2, endJ_snoc, camJ_snoc, shuJ_snoc, ← HF.out.1, ← HF.out.2.1, ← HF.out.2.2]
        exact ⟨rfl, rfl, rfl⟩
      obtain ⟨B, HB⟩ : ∃ B, Hid (B = ofJ x y.sd) := ⟨_, rfl⟩
      have HALL : Hid (∀ V, Below (w.heap.size + 1) w2 V → V.cell? ⟨lb, off + i * 10, none⟩ = some (.int .i64 x.is) ∧ V.cell? ⟨lb, off + i * 10 + 1, none⟩ = some (.int .i64 x.host) ∧ V.cell? ⟨lb, off + i * 10 + 2, none⟩ = some (.int .u32 (x.own : Nat)) ∧ V.cell? ⟨lb, off + i * 10 + 3, none⟩ = some (.int .u32 (x.peer : Nat)) ∧ V.cell? ⟨lb, off + i * 10 + 4, none⟩ = some (.int .u16 (x.mst : Nat)) ∧ V.cell? ⟨lb, off + i * 10 + 5, none⟩ = some (.int .u16 (x.mssn : Nat)) ∧ V.cell? ⟨lb, off + i * 10 + 6, none⟩ = some (.int .u32 (x.mpp : Nat)) ∧ V.cell? ⟨lb, off + i * 10 + 7, none⟩ = some (.bool x.mfree) ∧ V.cell? ⟨lb, off + i * 10 + 8, none⟩ = some (.slice x.mdA x.mdN x.mdC) ∧ V.cell? ⟨lb, off + i * 10 + 9, none⟩ = some (.int .i64 x.note) ∧ V.cell? ⟨w.heap.size, 1, none⟩ = some (.int .i64 y.host) ∧ V.cell? ⟨w.heap.size, 2, none⟩ = some (.int .u32 (y.own : Nat)) ∧ V.cell? ⟨w.heap.size, 3, none⟩ = some (.int .u32 (y.peer : Nat)) ∧ Below (w.heap.size + 1) w2 V) := fun V hV =>
        have hw := HBW.out V hV
        have hy : ∀ k u, y.vals[k]? = some u → V.cell? ⟨w.heap.size, 0 + k, none⟩ = some u := fun k u hk => (hV.cell (p := ⟨w.heap.size, 0 + k, none⟩) (Nat.lt_succ_self _)).trans (HY.out k u hk)
        ⟨range_below hrx hw hlt 0 _ rfl, range_below hrx hw hlt 1 _ rfl, range_below hrx hw hlt 2 _ rfl, range_below hrx hw hlt 3 _ rfl, range_below hrx hw hlt 4 _ rfl, range_below hrx hw hlt 5 _ rfl, range_below hrx hw hlt 6 _ rfl, range_below hrx hw hlt 7 _ rfl, range_below hrx hw hlt 8 _ rfl, range_below hrx hw hlt 9 _ rfl, hy 1 _ rfl, hy 2 _ rfl, hy 3 _ rfl, hV⟩
      have hbD : Below (w.heap.size + 1) w2 wr.drew := hbel.drew
      have HRX := (show Hid _ from And.intro hlt hrx)
      clear hM hx hrx
      go_wp2_with fail
      go_region_held3 (fun V => V.cell? ⟨lb, off + i * 10, none⟩ = some (.int .i64 x.is) ∧ V.cell? ⟨lb, off + i * 10 + 1, none⟩ = some (.int .i64 x.host) ∧ V.cell? ⟨lb, off + i * 10 + 2, none⟩ = some (.int .u32 (x.own : Nat)) ∧ V.cell? ⟨lb, off + i * 10 + 3, none⟩ = some (.int .u32 (x.peer : Nat)) ∧ V.cell? ⟨lb, off + i * 10 + 4, none⟩ = some (.int .u16 (x.mst : Nat)) ∧ V.cell? ⟨lb, off + i * 10 + 5, none⟩ = some (.int .u16 (x.mssn : Nat)) ∧ V.cell? ⟨lb, off + i * 10 + 6, none⟩ = some (.int .u32 (x.mpp : Nat)) ∧ V.cell? ⟨lb, off + i * 10 + 7, none⟩ = some (.bool x.mfree) ∧ V.cell? ⟨lb, off + i * 10 + 8, none⟩ = some (.slice x.mdA x.mdN x.mdC) ∧ V.cell? ⟨lb, off + i * 10 + 9, none⟩ = some (.int .i64 x.note) ∧ V.cell? ⟨w.heap.size, 1, none⟩ = some (.int .i64 y.host) ∧ V.cell? ⟨w.heap.size, 2, none⟩ = some (.int .u32 (y.own : Nat)) ∧ V.cell? ⟨w.heap.size, 3, none⟩ = some (.int .u32 (y.peer : Nat)) ∧ Below (w.heap.size + 1) w2 V) (first | exact HALL.out _ (by assumption)) (first
        | (go_at_call 16; refine (of19_any x y.host y.own y.peer _ _ (by rfl)).mono ?_; rintro e w5 ⟨he, hb5⟩; obtain rfl : e = .returned (.bool B) := (by rw [HB.out]; exact he); clear he; have hb05 := hbD.trans (hb5.mono (by have h1 := hbD.size; have h2 := HZ.out; omega)))
        | fail)
      all_goals
        have hr := range_below HRX.out.2 (HBW.out _ hb05) HRX.out.1
        have x0 := hr 0 _ rfl
        have x9 := hr 9 _ rfl
        clear HALL hbD hb5 hbel hr
        cases B
        · have HE : Hid (endJ (ds.take (i + 1)) y.sd = be ∧ camJ (ds.take (i + 1)) y.sd = bc ∧ shuJ (ds.take (i + 1)) y.sd = bs) := by
            show _ ∧ _ ∧ _
            rw [HN.out.1, HN.out.2.1, HN.out.2.2, ← HB.out]
            simp
          simp only [Exit.then]
          go_wp2
          go_roundw
          case rel => exact ⟨i + 1, be, bc, bs, rfl, rfl, rfl, by go_num, by omega, HE.out.1.symm, HE.out.2.1.symm, HE.out.2.2.symm, hb05⟩
          case measure => simp [intOf]; omega
        · by_cases c3 : x.is = 3
          · by_cases c1 : x.note = 1
            · skip
              have p3 : (x.is == 3) = true := by simpa using c3
              have p4 : (x.is == 4) = false := by simpa using (show ¬ x.is = 4 by omega)
              have p1 : (x.note == 1) = true := by simpa using c1
              have p1n : (x.note != 1) = false := by simpa using c1
              have HE : Hid (endJ (ds.take (i + 1)) y.sd = be ∧ camJ (ds.take (i + 1)) y.sd = true ∧ shuJ (ds.take (i + 1)) y.sd = bs) := by
                show _ ∧ _ ∧ _
                rw [HN.out.1, HN.out.2.1, HN.out.2.2, ← HB.out]
                simp [c3, c1]
              clear c3 c1
              simp only [Exit.then]
              go_wp2
              go_roundw
              case rel => exact ⟨i + 1, be, true, bs, rfl, rfl, rfl, by go_num, by omega, HE.out.1.symm, HE.out.2.1.symm, HE.out.2.2.symm, hb05⟩
              case measure => simp [intOf]; omega
            · skip
              have p3 : (x.is == 3) = true := by simpa using c3
              have p4 : (x.is == 4) = false := by simpa using (show ¬ x.is = 4 by omega)
              have p1 : (x.note == 1) = false := by simpa using c1
              have p1n : (x.note != 1) = true := by simpa using c1
              have HE : Hid (endJ (ds.take (i + 1)) y.sd = true ∧ camJ (ds.take (i + 1)) y.sd = bc ∧ shuJ (ds.take (i + 1)) y.sd = bs) := by
                show _ ∧ _ ∧ _
                rw [HN.out.1, HN.out.2.1, HN.out.2.2, ← HB.out]
                simp [c3, c1]
              clear c3 c1
              simp only [Exit.then]
              go_wp2
              go_roundw
              case rel => exact ⟨i + 1, true, bc, bs, rfl, rfl, rfl, by go_num, by omega, HE.out.1.symm, HE.out.2.1.symm, HE.out.2.2.symm, hb05⟩
              case measure => simp [intOf]; omega
          · by_cases c4 : x.is = 4
            · skip
              have p3 : (x.is == 3) = false := by simpa using c3
              have p4 : (x.is == 4) = true := by simpa using c4
              have HE : Hid (endJ (ds.take (i + 1)) y.sd = be ∧ camJ (ds.take (i + 1)) y.sd = bc ∧ shuJ (ds.take (i + 1)) y.sd = true) := by
                show _ ∧ _ ∧ _
                rw [HN.out.1, HN.out.2.1, HN.out.2.2, ← HB.out]
                simp [c4]
              clear c3 c4
              simp only [Exit.then]
              go_wp2
              go_roundw
              case rel => exact ⟨i + 1, be, bc, true, rfl, rfl, rfl, by go_num, by omega, HE.out.1.symm, HE.out.2.1.symm, HE.out.2.2.symm, hb05⟩
              case measure => simp [intOf]; omega
            · skip
              have p3 : (x.is == 3) = false := by simpa using c3
              have p4 : (x.is == 4) = false := by simpa using c4
              have HE : Hid (endJ (ds.take (i + 1)) y.sd = be ∧ camJ (ds.take (i + 1)) y.sd = bc ∧ shuJ (ds.take (i + 1)) y.sd = bs) := by
                show _ ∧ _ ∧ _
                rw [HN.out.1, HN.out.2.1, HN.out.2.2, ← HB.out]
                simp [c3, c4]
              clear c3 c4
              simp only [Exit.then]
              go_wp2
              go_roundw
              case rel => exact ⟨i + 1, be, bc, bs, rfl, rfl, rfl, by go_num, by omega, HE.out.1.symm, HE.out.2.1.symm, HE.out.2.2.symm, hb05⟩
              case measure => simp [intOf]; omega
    · obtain rfl : i = m := by omega
      have hi1 : ¬ (i : Int) < (i : Int) := by omega
      have hh := HF.out
      rw [List.take_of_length_le (by omega)] at hh
      obtain ⟨e1, e2, e3⟩ := hh
      subst e1 e2 e3
      clear HF
      go_wp2
      go_ret3
      exact ⟨rfl, HBW.out _ hbel⟩
end Go.Proofs.Ytpdnkbhgobdniaa
