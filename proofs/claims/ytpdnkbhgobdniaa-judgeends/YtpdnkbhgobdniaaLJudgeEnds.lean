/- Whatever marks: the walk of law19.JudgeEnds ends with true. -/
import Derived.Test.YtpdnkbhgobdniaaJdEM
namespace Go.Proofs.Ytpdnkbhgobdniaa
open Go.RowKit Go.MapKept Go.Maps
/-- Where the marks lie. -/
structure MkAt (w : World) (lb off m : Nat) (ds : List Mk) : Prop where
  lt : lb < w.heap.size
  at_ : ∀ i x, ds[i]? = some x → w.rangeAt lb (off + i * 10) x.vals
theorem MkAt.below {w w' : World} {lb off m : Nat} {ds : List Mk} (h : MkAt w lb off m ds) (hb : Below w.heap.size w w') : MkAt w' lb off m ds :=
  ⟨Nat.lt_of_lt_of_le h.lt hb.size, fun i x hx => range_below (h.at_ i x hx) hb h.lt⟩
theorem MkAt.c {w : World} {lb off m : Nat} {ds : List Mk} (h : MkAt w lb off m ds) {i : Nat} {x : Mk} (hx : ds[i]? = some x) : w.cell? ⟨lb, off + i * 10, none⟩ = some (.int .i64 x.is) ∧ w.cell? ⟨lb, off + i * 10 + 1, none⟩ = some (.int .i64 x.host) ∧ w.cell? ⟨lb, off + i * 10 + 2, none⟩ = some (.int .u32 (x.own : Nat)) ∧ w.cell? ⟨lb, off + i * 10 + 3, none⟩ = some (.int .u32 (x.peer : Nat)) ∧ w.cell? ⟨lb, off + i * 10 + 9, none⟩ = some (.int .i64 x.note) :=
  ⟨h.at_ i x hx 0 _ rfl, h.at_ i x hx 1 _ rfl, h.at_ i x hx 2 _ rfl, h.at_ i x hx 3 _ rfl, h.at_ i x hx 9 _ rfl⟩
set_option maxRecDepth 100000 in
set_option maxHeartbeats 8000000 in
theorem walk_JudgeEnds (a : Option Addr) (ln c : Nat) (dd : List Mk) (w : World) (hl : SlM w a ln c dd) :
    Calls Try.prog 7 #[.slice a ln c] w fun e w' => e = .returned (.bool true) ∧ Below w.heap.size w w' := by
  go_enter Try.func7, Try.ntmps7
  go_wp2_with fail
  refine (short_any a ln c dd w hl).mono ?_
  rintro e w1 ⟨⟨m, rfl, hm1, hm2, hS⟩, rfl⟩
  clear hl
  generalize dd.take m = ds at hS
  clear dd hm2
  obtain ⟨E, hE⟩ : ∃ E, E = (jdg ds).2.1 := ⟨_, rfl⟩
  go_wp2_with fail
  refine (judge_any a m c ds _ hS (by omega) _ rfl).mono ?_
  rintro e w2 ⟨rfl, hb2⟩
  rw [← hE]
  by_cases hE0 : E = 0
  rotate_left
  · go_wp2_with (first | (go_at_call 12; refine (live19_any _).mono ?_; rintro e w4 ⟨rfl, hb4⟩) | fail)
    go_ret
    exact ⟨rfl, hb2.trans (hb4.mono hb2.size)⟩
  · subst hE0
    have HM : Hid (∀ (i k : Nat) (x y : Mk), ds[i]? = some x → ds[k]? = some y → i < k → overJ x = true → ofJ y x.sd = true → ¬ y.is = 1 ∧ ¬ y.is = 4 ∧ (x.is = 3 → ¬ y.is = 3)) := fun i k x y hx hy hik ho hs => ends_math hE.symm hx hy hik ho hs
    have hlen := hS.len
    have HA : Hid (m = 0 ∨ ∃ lb off, a = some ⟨lb, off, none⟩ ∧ MkAt w1 lb off m ds) := by
      rcases hS.at_ with h0 | ⟨lb, off, e, hlt, hc⟩
      · exact .inl h0
      · exact .inr ⟨lb, off, e, hlt, fun i x hx j v hv => hc i x hx j v hv⟩
    clear hE hS
    go_wp2_with fail
    go_loopw [5] (fun iv wr => ∃ i : Nat, iv = .int .i64 (i : Nat) ∧ i ≤ m ∧ Below w1.heap.size w1 wr) (fun iv _ => m - (intOf iv).toNat)
    case atStart => exact ⟨0, rfl, by omega, hb2⟩
    case round =>
      obtain ⟨i, rfl, him, hbel⟩ := hrel
      clear hb2
      by_cases hil : i < m
      rotate_left
      · have hi1 : ¬ (i : Int) < (m : Int) := by omega
        go_wp2_with (first | (go_at_call 12; refine (live19_any _).mono ?_; rintro e w4 ⟨rfl, hb4⟩) | fail)
        go_ret
        exact ⟨rfl, hbel.trans (hb4.mono hbel.size)⟩
      · have hi1 : (i : Int) < (m : Int) := by omega
        have hi0 : (0 : Int) ≤ (i : Int) := by omega
        obtain ⟨x, hx⟩ : ∃ x, ds[i]? = some x := ⟨_, List.getElem?_eq_getElem (by omega)⟩
        rcases HA.out with h0 | ⟨lb, off, rfl, hM0⟩
        · omega
        have HM0 := (show Hid _ from hM0)
        have HX := (show Hid _ from hx)
        clear hM0 hx
        obtain ⟨x0, x1, x2, x3, x9⟩ := (HM0.out.below hbel).c HX.out
        by_cases hx4 : x.is = 4
        · have HO : Hid (overJ x = true) := by show overJ x = true; simp [overJ, hx4]
          go_wp2_with fail
          go_loopw [7] (fun kv wr => ∃ k : Nat, kv = .int .i64 (k : Nat) ∧ i < k ∧ k ≤ m ∧ Below w1.heap.size w1 wr) (fun kv _ => m - (intOf kv).toNat)
          case atStart => exact ⟨i + 1, by go_num, by omega, by omega, hbel⟩
          case round =>
            obtain ⟨k, rfl, hik, hkm, hbk⟩ := hrel
            clear hbel x0 x1 x2 x3 x9
            by_cases hkl : k < m
            rotate_left
            · have hk1 : ¬ (k : Int) < (m : Int) := by omega
              go_wp2
              go_roundw
              case rel => exact ⟨i + 1, by go_num, by omega, hbk⟩
              case measure => simp [intOf]; omega
            · have hk1 : (k : Int) < (m : Int) := by omega
              have hk0 : (0 : Int) ≤ (k : Int) := by omega
              obtain ⟨y, hy⟩ : ∃ y, ds[k]? = some y := ⟨_, List.getElem?_eq_getElem (by omega)⟩
              have HY := (show Hid _ from hy)
              obtain ⟨B, HB⟩ : ∃ B, Hid (B = ofJ y x.sd) := ⟨_, rfl⟩
              have HALL : Hid (∀ V, Below w1.heap.size w1 V → V.cell? ⟨lb, off + k * 10, none⟩ = some (.int .i64 y.is) ∧ V.cell? ⟨lb, off + k * 10 + 1, none⟩ = some (.int .i64 y.host) ∧ V.cell? ⟨lb, off + k * 10 + 2, none⟩ = some (.int .u32 (y.own : Nat)) ∧ V.cell? ⟨lb, off + k * 10 + 3, none⟩ = some (.int .u32 (y.peer : Nat)) ∧ V.cell? ⟨lb, off + k * 10 + 4, none⟩ = some (.int .u16 (y.mst : Nat)) ∧ V.cell? ⟨lb, off + k * 10 + 5, none⟩ = some (.int .u16 (y.mssn : Nat)) ∧ V.cell? ⟨lb, off + k * 10 + 6, none⟩ = some (.int .u32 (y.mpp : Nat)) ∧ V.cell? ⟨lb, off + k * 10 + 7, none⟩ = some (.bool y.mfree) ∧ V.cell? ⟨lb, off + k * 10 + 8, none⟩ = some (.slice y.mdA y.mdN y.mdC) ∧ V.cell? ⟨lb, off + k * 10 + 9, none⟩ = some (.int .i64 y.note) ∧ V.cell? ⟨lb, off + i * 10 + 1, none⟩ = some (.int .i64 x.host) ∧ V.cell? ⟨lb, off + i * 10 + 2, none⟩ = some (.int .u32 (x.own : Nat)) ∧ V.cell? ⟨lb, off + i * 10 + 3, none⟩ = some (.int .u32 (x.peer : Nat)) ∧ Below w1.heap.size w1 V) := fun V hV => ⟨(HM0.out.below hV).at_ k y HY.out 0 _ rfl, (HM0.out.below hV).at_ k y HY.out 1 _ rfl, (HM0.out.below hV).at_ k y HY.out 2 _ rfl, (HM0.out.below hV).at_ k y HY.out 3 _ rfl, (HM0.out.below hV).at_ k y HY.out 4 _ rfl, (HM0.out.below hV).at_ k y HY.out 5 _ rfl, (HM0.out.below hV).at_ k y HY.out 6 _ rfl, (HM0.out.below hV).at_ k y HY.out 7 _ rfl, (HM0.out.below hV).at_ k y HY.out 8 _ rfl, (HM0.out.below hV).at_ k y HY.out 9 _ rfl, ((HM0.out.below hV).c HX.out).2.1, ((HM0.out.below hV).c HX.out).2.2.1, ((HM0.out.below hV).c HX.out).2.2.2.1, hV⟩
              have HCA : Hid (∀ W v, v = .agg y.vals.toArray → Calls Try.prog 16 #[v, .int .i64 x.host, .int .u32 (x.own : Nat), .int .u32 (x.peer : Nat)] W fun e w' => e = .returned (.bool B) ∧ Below W.heap.size W w') := fun W v hv => (of19_any y x.host x.own x.peer W v hv).mono fun e w' h => ⟨by rw [HB.out]; exact h.1, h.2⟩
              have hbd : Below w1.heap.size w1 wr.drew := hbk.drew
              clear hy
              go_wp2_with fail
              go_region_held3 (fun V => V.cell? ⟨lb, off + k * 10, none⟩ = some (.int .i64 y.is) ∧ V.cell? ⟨lb, off + k * 10 + 1, none⟩ = some (.int .i64 y.host) ∧ V.cell? ⟨lb, off + k * 10 + 2, none⟩ = some (.int .u32 (y.own : Nat)) ∧ V.cell? ⟨lb, off + k * 10 + 3, none⟩ = some (.int .u32 (y.peer : Nat)) ∧ V.cell? ⟨lb, off + k * 10 + 4, none⟩ = some (.int .u16 (y.mst : Nat)) ∧ V.cell? ⟨lb, off + k * 10 + 5, none⟩ = some (.int .u16 (y.mssn : Nat)) ∧ V.cell? ⟨lb, off + k * 10 + 6, none⟩ = some (.int .u32 (y.mpp : Nat)) ∧ V.cell? ⟨lb, off + k * 10 + 7, none⟩ = some (.bool y.mfree) ∧ V.cell? ⟨lb, off + k * 10 + 8, none⟩ = some (.slice y.mdA y.mdN y.mdC) ∧ V.cell? ⟨lb, off + k * 10 + 9, none⟩ = some (.int .i64 y.note) ∧ V.cell? ⟨lb, off + i * 10 + 1, none⟩ = some (.int .i64 x.host) ∧ V.cell? ⟨lb, off + i * 10 + 2, none⟩ = some (.int .u32 (x.own : Nat)) ∧ V.cell? ⟨lb, off + i * 10 + 3, none⟩ = some (.int .u32 (x.peer : Nat)) ∧ Below w1.heap.size w1 V) (first | exact HALL.out _ (by assumption)) (first
                | (go_at_call 16; refine (HCA.out _ _ (by rfl)).mono ?_; rintro e w5 ⟨rfl, hb5⟩; have hb05 := hbd.trans (hb5.mono hbd.size))
                | fail)
              all_goals
                obtain ⟨y0, _, _, _, _⟩ := (HM0.out.below hb05).c HY.out
                obtain ⟨x0, _, _, _, _⟩ := (HM0.out.below hb05).c HX.out
                clear HALL HCA hbd hb5 hbk
                cases B
                · simp only [Exit.then]
                  go_wp2
                  go_roundw
                  case rel => exact ⟨k + 1, by go_num, by omega, by omega, hb05⟩
                  case measure => simp [intOf]; omega
                · obtain ⟨n1, n4, n3⟩ := HM.out i k x y HX.out HY.out hik HO.out HB.out.symm
                  clear n3
                  have q1 : (y.is == 1) = false := by simpa using n1
                  have q4 : (y.is == 4) = false := by simpa using n4
                  simp only [Exit.then]
                  go_wp2
                  go_roundw
                  case rel => exact ⟨k + 1, by go_num, by omega, by omega, hb05⟩
                  case measure => simp [intOf]; omega
        by_cases hx3 : x.is = 3
        rotate_left
        · skip
          have q4 : (x.is == 4) = false := by simpa using hx4
          have q3 : (x.is == 3) = false := by simpa using hx3
          go_wp2_with fail
          go_loopw [7] (fun kv wr => kv = .int .i64 ((i : Int) + 1) ∧ Below w1.heap.size w1 wr) (fun _ _ => 0)
          case atStart => exact ⟨by first | rfl | go_num, hbel⟩
          case round =>
            obtain ⟨rfl, hbk⟩ := hrel
            clear hbel x0 x1 x2 x3 x9
            go_wp2
            go_roundw
            case rel => exact ⟨i + 1, by go_num, by omega, hbk⟩
            case measure => simp [intOf]; omega
        by_cases hxn : x.note = 1
        · skip
          have q1 : (x.note != 1) = false := by simpa using hxn
          go_wp2_with fail
          go_loopw [7] (fun kv wr => kv = .int .i64 ((i : Int) + 1) ∧ Below w1.heap.size w1 wr) (fun _ _ => 0)
          case atStart => exact ⟨by first | rfl | go_num, hbel⟩
          case round =>
            obtain ⟨rfl, hbk⟩ := hrel
            clear hbel x0 x1 x2 x3 x9
            go_wp2
            go_roundw
            case rel => exact ⟨i + 1, by go_num, by omega, hbk⟩
            case measure => simp [intOf]; omega
        · have HO : Hid (overJ x = true) := by show overJ x = true; simp [overJ, hx3, hxn]
          have hxn2 : (x.note != 1) = true := by simpa using hxn
          go_wp2_with fail
          go_loopw [7] (fun kv wr => ∃ k : Nat, kv = .int .i64 (k : Nat) ∧ i < k ∧ k ≤ m ∧ Below w1.heap.size w1 wr) (fun kv _ => m - (intOf kv).toNat)
          case atStart => exact ⟨i + 1, by go_num, by omega, by omega, hbel⟩
          case round =>
            obtain ⟨k, rfl, hik, hkm, hbk⟩ := hrel
            clear hbel x0 x1 x2 x3 x9
            by_cases hkl : k < m
            rotate_left
            · have hk1 : ¬ (k : Int) < (m : Int) := by omega
              go_wp2
              go_roundw
              case rel => exact ⟨i + 1, by go_num, by omega, hbk⟩
              case measure => simp [intOf]; omega
            · have hk1 : (k : Int) < (m : Int) := by omega
              have hk0 : (0 : Int) ≤ (k : Int) := by omega
              obtain ⟨y, hy⟩ : ∃ y, ds[k]? = some y := ⟨_, List.getElem?_eq_getElem (by omega)⟩
              have HY := (show Hid _ from hy)
              obtain ⟨B, HB⟩ : ∃ B, Hid (B = ofJ y x.sd) := ⟨_, rfl⟩
              have HALL : Hid (∀ V, Below w1.heap.size w1 V → V.cell? ⟨lb, off + k * 10, none⟩ = some (.int .i64 y.is) ∧ V.cell? ⟨lb, off + k * 10 + 1, none⟩ = some (.int .i64 y.host) ∧ V.cell? ⟨lb, off + k * 10 + 2, none⟩ = some (.int .u32 (y.own : Nat)) ∧ V.cell? ⟨lb, off + k * 10 + 3, none⟩ = some (.int .u32 (y.peer : Nat)) ∧ V.cell? ⟨lb, off + k * 10 + 4, none⟩ = some (.int .u16 (y.mst : Nat)) ∧ V.cell? ⟨lb, off + k * 10 + 5, none⟩ = some (.int .u16 (y.mssn : Nat)) ∧ V.cell? ⟨lb, off + k * 10 + 6, none⟩ = some (.int .u32 (y.mpp : Nat)) ∧ V.cell? ⟨lb, off + k * 10 + 7, none⟩ = some (.bool y.mfree) ∧ V.cell? ⟨lb, off + k * 10 + 8, none⟩ = some (.slice y.mdA y.mdN y.mdC) ∧ V.cell? ⟨lb, off + k * 10 + 9, none⟩ = some (.int .i64 y.note) ∧ V.cell? ⟨lb, off + i * 10 + 1, none⟩ = some (.int .i64 x.host) ∧ V.cell? ⟨lb, off + i * 10 + 2, none⟩ = some (.int .u32 (x.own : Nat)) ∧ V.cell? ⟨lb, off + i * 10 + 3, none⟩ = some (.int .u32 (x.peer : Nat)) ∧ Below w1.heap.size w1 V) := fun V hV => ⟨(HM0.out.below hV).at_ k y HY.out 0 _ rfl, (HM0.out.below hV).at_ k y HY.out 1 _ rfl, (HM0.out.below hV).at_ k y HY.out 2 _ rfl, (HM0.out.below hV).at_ k y HY.out 3 _ rfl, (HM0.out.below hV).at_ k y HY.out 4 _ rfl, (HM0.out.below hV).at_ k y HY.out 5 _ rfl, (HM0.out.below hV).at_ k y HY.out 6 _ rfl, (HM0.out.below hV).at_ k y HY.out 7 _ rfl, (HM0.out.below hV).at_ k y HY.out 8 _ rfl, (HM0.out.below hV).at_ k y HY.out 9 _ rfl, ((HM0.out.below hV).c HX.out).2.1, ((HM0.out.below hV).c HX.out).2.2.1, ((HM0.out.below hV).c HX.out).2.2.2.1, hV⟩
              have HCA : Hid (∀ W v, v = .agg y.vals.toArray → Calls Try.prog 16 #[v, .int .i64 x.host, .int .u32 (x.own : Nat), .int .u32 (x.peer : Nat)] W fun e w' => e = .returned (.bool B) ∧ Below W.heap.size W w') := fun W v hv => (of19_any y x.host x.own x.peer W v hv).mono fun e w' h => ⟨by rw [HB.out]; exact h.1, h.2⟩
              have hbd : Below w1.heap.size w1 wr.drew := hbk.drew
              clear hy
              go_wp2_with fail
              go_region_held3 (fun V => V.cell? ⟨lb, off + k * 10, none⟩ = some (.int .i64 y.is) ∧ V.cell? ⟨lb, off + k * 10 + 1, none⟩ = some (.int .i64 y.host) ∧ V.cell? ⟨lb, off + k * 10 + 2, none⟩ = some (.int .u32 (y.own : Nat)) ∧ V.cell? ⟨lb, off + k * 10 + 3, none⟩ = some (.int .u32 (y.peer : Nat)) ∧ V.cell? ⟨lb, off + k * 10 + 4, none⟩ = some (.int .u16 (y.mst : Nat)) ∧ V.cell? ⟨lb, off + k * 10 + 5, none⟩ = some (.int .u16 (y.mssn : Nat)) ∧ V.cell? ⟨lb, off + k * 10 + 6, none⟩ = some (.int .u32 (y.mpp : Nat)) ∧ V.cell? ⟨lb, off + k * 10 + 7, none⟩ = some (.bool y.mfree) ∧ V.cell? ⟨lb, off + k * 10 + 8, none⟩ = some (.slice y.mdA y.mdN y.mdC) ∧ V.cell? ⟨lb, off + k * 10 + 9, none⟩ = some (.int .i64 y.note) ∧ V.cell? ⟨lb, off + i * 10 + 1, none⟩ = some (.int .i64 x.host) ∧ V.cell? ⟨lb, off + i * 10 + 2, none⟩ = some (.int .u32 (x.own : Nat)) ∧ V.cell? ⟨lb, off + i * 10 + 3, none⟩ = some (.int .u32 (x.peer : Nat)) ∧ Below w1.heap.size w1 V) (first | exact HALL.out _ (by assumption)) (first
                | (go_at_call 16; refine (HCA.out _ _ (by rfl)).mono ?_; rintro e w5 ⟨rfl, hb5⟩; have hb05 := hbd.trans (hb5.mono hbd.size))
                | fail)
              all_goals
                obtain ⟨y0, _, _, _, _⟩ := (HM0.out.below hb05).c HY.out
                obtain ⟨x0, _, _, _, _⟩ := (HM0.out.below hb05).c HX.out
                clear HALL HCA hbd hb5 hbk
                cases B
                · simp only [Exit.then]
                  go_wp2
                  go_roundw
                  case rel => exact ⟨k + 1, by go_num, by omega, by omega, hb05⟩
                  case measure => simp [intOf]; omega
                · obtain ⟨n1, n4, n3⟩ := HM.out i k x y HX.out HY.out hik HO.out HB.out.symm
                  have n3 := n3 hx3
                  have q3 : (y.is == 3) = false := by simpa using n3
                  have q1 : (y.is == 1) = false := by simpa using n1
                  have q4 : (y.is == 4) = false := by simpa using n4
                  simp only [Exit.then]
                  go_wp2
                  go_roundw
                  case rel => exact ⟨k + 1, by go_num, by omega, by omega, hb05⟩
                  case measure => simp [intOf]; omega
end Go.Proofs.Ytpdnkbhgobdniaa
