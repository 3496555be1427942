/- What octet.Unhex answers, letter by letter. -/
import Derived.Test.YtplicfknjhjjgaaDoorOwn
import Derived.Test.YtplicfknjhjjgaaDoorDecE
import Derived.Deep.OwnRows
namespace Go.Proofs.YtplicfknjhjjgaaDoor
open Go.RowKit
def hexv (r : Nat) : Option Nat := if 48 ≤ r ∧ r ≤ 57 then some (r - 48) else if 97 ≤ r ∧ r ≤ 102 then some (r - 87) else if 65 ≤ r ∧ r ≤ 70 then some (r - 55) else none
theorem hexv_lt {r v : Nat} (h : hexv r = some v) : v < 16 := by
  unfold hexv at h
  split at h
  · injection h with h; omega
  · split at h
    · injection h with h; omega
    · split at h
      · injection h with h; omega
      · cases h
set_option maxHeartbeats 1000000 in
theorem hexv_yes (r v : Nat) (w : World) (h : hexv r = some v) :
    Calls Tryd.prog 38 #[.int .i32 (r : Nat)] w fun e w' => e = .returned (.tuple #[.int .u8 (v : Nat), .bool true]) ∧ w' = w := by
  unfold hexv at h
  by_cases h1 : 48 ≤ r ∧ r ≤ 57
  · rw [if_pos h1] at h
    injection h with h
    have H := (show Hid _ from h)
    clear h
    obtain ⟨h2, h3⟩ := h1
    go_enter Tryd.func38, Tryd.ntmps38
    go_wp2
    go_ret2
    exact ⟨by rw [← H.out]; go_num, rfl⟩
  · rw [if_neg h1] at h
    by_cases h2 : 97 ≤ r ∧ r ≤ 102
    · rw [if_pos h2] at h
      injection h with h
      have H := (show Hid _ from h)
      clear h h1
      obtain ⟨h2, h3⟩ := h2
      go_enter Tryd.func38, Tryd.ntmps38
      go_wp2
      go_ret2
      exact ⟨by rw [← H.out]; go_num, rfl⟩
    · rw [if_neg h2] at h
      by_cases h3 : 65 ≤ r ∧ r ≤ 70
      · rw [if_pos h3] at h
        injection h with h
        have H := (show Hid _ from h)
        clear h h1 h2
        obtain ⟨h2, h3⟩ := h3
        go_enter Tryd.func38, Tryd.ntmps38
        go_wp2
        go_ret2
        exact ⟨by rw [← H.out]; go_num, rfl⟩
      · rw [if_neg h3] at h; cases h
set_option maxHeartbeats 1000000 in
theorem hexv_no (r : Nat) (w : World) (h : hexv r = none) :
    Calls Tryd.prog 38 #[.int .i32 (r : Nat)] w fun e w' => e = .returned (.tuple #[.int .u8 0, .bool false]) ∧ w' = w := by
  unfold hexv at h
  by_cases h1 : 48 ≤ r ∧ r ≤ 57
  · rw [if_pos h1] at h; cases h
  · rw [if_neg h1] at h
    by_cases h2 : 97 ≤ r ∧ r ≤ 102
    · rw [if_pos h2] at h; cases h
    · rw [if_neg h2] at h
      by_cases h3 : 65 ≤ r ∧ r ≤ 70
      · rw [if_pos h3] at h; cases h
      · clear h
        have hcase : r < 48 ∨ (57 < r ∧ r < 65) ∨ (70 < r ∧ r < 97) ∨ 102 < r := by omega
        clear h1 h2 h3
        rcases hcase with h | ⟨h, h'⟩ | ⟨h, h'⟩ | h
        all_goals
          go_enter Tryd.func38, Tryd.ntmps38
          go_wp2
          go_ret2
          exact ⟨rfl, rfl⟩
/-- A text read from a place on: the bytes, the place of the letter, the error. -/
def uhRun (s : ByteArray) : Nat → Nat → Nat → Nat → List Nat → List Nat × Nat × Nat
  | 0, _, _, _, _ => ([], 0, 0)
  | f + 1, pos, place, high, out =>
    if pos < s.size then
      match hexv (Utf8.decode s pos).1 with
      | none => ([], place, 4)
      | some v => if place % 2 = 0 then uhRun s f (pos + (Utf8.decode s pos).2) (place + 1) v out else uhRun s f (pos + (Utf8.decode s pos).2) (place + 1) high (out ++ [high * 16 + v])
    else if place % 2 = 0 then (out, 0, 0) else ([], place, 3)
def uhOf (s : ByteArray) : List Nat × Nat × Nat := if 4096 < s.size then ([], 0, 6) else uhRun s (s.size + 1) 0 0 0 []
theorem or4 (h v : Nat) (hh : h < 16) (hv : v < 16) : bits .or .u8 ((h : Int) * 16) (v : Int) = ((h * 16 + v : Nat) : Int) := by
  have h1 := u8_or_nat (h * 16) v (by omega) (by omega)
  rw [nat_join 4 (h * 16) v (by omega) (by omega)] at h1
  rw [show ((h * 16 : Nat) : Int) = (h : Int) * 16 from by omega] at h1
  exact h1
theorem own_made (w : World) (c : Nat) (hc : c ≤ 140737488355328) : OwnB (w.alloc (.cells (madeCells #[.int .u8 0] c) 5)) w.heap.size (some ⟨w.heap.size, 0, none⟩) 0 c [] :=
  ⟨rfl, World.ownsRow_made w _ c (Nat.le_refl _) (by unfold maxLen; omega) (by rw [size_madeCells]; omega), fun i => by simp⟩
theorem own_iter {w : World} {B k : Nat} {a : Option Addr} {n c pos : Nat} {zs : List Nat} {s : ByteArray} (h : OwnB w B a n c zs) (hk : w.heap[k]? = some (.stringIter s pos)) : (Value.slice a n c).ownBlock ≠ some k := by
  intro e
  rcases h.own.2 with ⟨hv, _⟩ | ⟨g, cap, cur, hv, _, hh, _⟩
  · rw [hv] at e; cases e
  · rw [hv] at e
    injection e with e
    simp only at e
    rw [e, hk] at hh
    cases hh
theorem grown_iterAt (w : World) (k : Nat) (s : ByteArray) (pos : Nat) : w.grownBy (w.iterAt k s pos) (some k) :=
  ⟨rfl, rfl, rfl, by rw [Lib.iterAt_size]; exact Nat.le_refl _, fun j _ hne => Lib.iterAt_other w k j s pos (fun e => hne (by rw [e]))⟩
theorem mk0 (c : Nat) (hc : c ≤ 140737488355328) (w : World) : (Instr.makeSlice 30 (.int .i64 0) (.int .i64 (c : Int))).run Tryd.prog w = .ok (.slice (some ⟨w.heap.size, 0, none⟩) 0 c) (w.alloc (.cells (madeCells #[.int .u8 0] c) 5)) := by
  obtain ⟨i, hi, hz0, hz1, hz2⟩ := info_parts own_info
  have := run_make (P := Tryd.prog) w 30 5 i (.int .u8 0) Tryd.underlying30 hi hz0 .i64 .i64 0 (c : Int) (by omega) (by omega) (by rw [hz2]; omega) (by omega)
  rw [hz1, show (Value.int .u8 0).cells = #[.int .u8 0] from rfl] at this
  simpa using this
set_option maxHeartbeats 2000000 in
theorem unhex_any (s : ByteArray) (w : World) (hs : s.size ≤ 281474976710656) :
    Calls Tryd.prog 33 #[.string s] w fun e w' => ∃ a c, e = .returned (.tuple #[.slice a (uhOf s).1.length c, .int .i64 ((uhOf s).2.1 : Nat), .int .i64 ((uhOf s).2.2 : Nat)]) ∧ OwnB w' w.heap.size a (uhOf s).1.length c (uhOf s).1 ∧ Below w.heap.size w w' := by
  by_cases hbig : 4096 < s.size
  · have HE : Hid (uhOf s = ([], 0, 6)) := by show _ = _; unfold uhOf; rw [if_pos hbig]
    go_enter Tryd.func33, Tryd.ntmps33
    go_wp2
    go_ret3
    rw [HE.out]
    exact ⟨none, 0, rfl, OwnB.nil _ _, Below.refl _ _⟩
  · have HU : Hid (uhOf s = uhRun s (s.size + 1) 0 0 0 []) := by show _ = _; unfold uhOf; rw [if_neg hbig]
    have hmk : ∀ w, (Instr.makeSlice 30 (.int .i64 0) (.int .i64 ((s.size : Int) / 2))).run Tryd.prog w = .ok (.slice (some ⟨w.heap.size, 0, none⟩) 0 (s.size / 2)) (w.alloc (.cells (madeCells #[.int .u8 0] (s.size / 2)) 5)) := by
      intro w
      rw [show ((s.size : Int) / 2) = ((s.size / 2 : Nat) : Int) from by omega]
      exact mk0 (s.size / 2) (by omega) w
    go_enter Tryd.func33, Tryd.ntmps33
    go_wp2
    go_loopw [5, 6, 7] (fun vo i vh wr => ∃ (pos place f high n c : Nat) (a : Option Addr) (out : List Nat), i = .int .i64 place ∧ vh = .int .u8 high ∧ vo = .slice a n c ∧ wr.heap[w.heap.size + 1]? = some (.stringIter s pos) ∧ OwnB wr w.heap.size a n c out ∧ high < 16 ∧ Hid (uhRun s f pos place high out = uhOf s) ∧ place + f = s.size + 1 ∧ 1 ≤ f ∧ s.size + 1 ≤ pos + f ∧ n ≤ place ∧ Below w.heap.size w wr) (fun _ i _ _ => s.size + 1 - (intOf i).toNat)
    case atStart =>
      refine ⟨0, 0, s.size + 1, 0, 0, s.size / 2, _, [], rfl, rfl, rfl, ?_, (own_made w (s.size / 2) (by omega)).alloc _, by omega, HU.out.symm, by omega, by omega, by omega, by omega, ?_⟩
      · have := World.iter_heap (w.alloc (Obj.cells (madeCells #[.int .u8 0] (s.size / 2)) 5)) s 0
        simpa using this
      · exact ((Below.refl _ _).alloc (Nat.le_refl _) _).alloc (by simp) _
    case round =>
      obtain ⟨pos, place, f, high, n, c, a, out, rfl, rfl, rfl, hit, hown, hhi, HR, hpf, hf1, hf2, hnp, hbel⟩ := hrel
      have hsz : w.heap.size + 1 < wr.heap.size := (Array.getElem?_eq_some_iff.1 hit).1
      obtain ⟨f, rfl⟩ : ∃ g, f = g + 1 := ⟨f - 1, by omega⟩
      by_cases hp : pos < s.size
      · have hnx : ∀ ty, (Instr.next (.pointer (some ⟨w.heap.size + 1, 0, none⟩)) true ty).run Tryd.prog wr = _ := fun ty => Lib.run_next_any_at wr (w.heap.size + 1) s pos ty hit hp
        have hr := decode_le s pos
        have hwd := width_pos s pos hp
        have hit2 := Lib.iterAt_heap wr (w.heap.size + 1) s pos (pos + (Utf8.decode s pos).2) hit
        have hown2 := hown.kept (grown_iterAt wr (w.heap.size + 1) s (pos + (Utf8.decode s pos).2)) (.inr (own_iter hown hit))
        have hb2 := Lib.below_iterAt hbel (k := w.heap.size + 1) (by omega) s (pos + (Utf8.decode s pos).2)
        have hz2 := Lib.iterAt_size wr (w.heap.size + 1) s (pos + (Utf8.decode s pos).2)
        cases htk : hexv (Utf8.decode s pos).1 with
        | none =>
          have HE : Hid (uhOf s = ([], place, 4)) := by show _ = _; rw [← HR.out]; simp [uhRun, hp, htk]
          have HT := (show Hid _ from htk)
          clear htk hit hown HR hmk
          generalize (Utf8.decode s pos).1 = r at *
          generalize (Utf8.decode s pos).2 = l at *
          go_wp2_with fail
          refine (hexv_no r _ HT.out).mono ?_
          rintro e w2 ⟨rfl, hw2⟩
          subst hw2
          go_wp2
          go_ret3
          rw [HE.out]
          exact ⟨none, 0, rfl, OwnB.nil _ _, hb2⟩
        | some v =>
          have hv := hexv_lt htk
          have HT := (show Hid _ from htk)
          by_cases hev : place % 2 = 0
          · have HE : Hid (uhRun s f (pos + (Utf8.decode s pos).2) (place + 1) v out = uhOf s) := by
              show _ = _
              rw [← HR.out]
              simp [uhRun, hp, htk, hev]
            have hev' : ((place : Int) % 2 == 0) = true := by simp; omega
            clear htk hit hown HR hmk
            generalize (Utf8.decode s pos).1 = r at *
            generalize (Utf8.decode s pos).2 = l at *
            go_wp2_with fail
            refine (hexv_yes r v _ HT.out).mono ?_
            rintro e w2 ⟨rfl, hw2⟩
            subst hw2
            go_wp2
            go_roundw
            case rel => exact ⟨pos + l, place + 1, f, v, n, c, a, out, by go_num, rfl, rfl, hit2, hown2, hv, HE, by omega, by omega, by omega, by omega, hb2⟩
            case measure => simp [intOf]; omega
          · have HE : Hid (uhRun s f (pos + (Utf8.decode s pos).2) (place + 1) high (out ++ [high * 16 + v]) = uhOf s) := by
              show _ = _
              rw [← HR.out]
              simp [uhRun, hp, htk, hev]
            have hev' : ((place : Int) % 2 == 0) = false := by simp; omega
            have hor := or4 high v hhi hv
            clear htk hit hown HR hmk
            generalize (Utf8.decode s pos).1 = r at *
            generalize (Utf8.decode s pos).2 = l at *
            go_wp2_with fail
            refine (hexv_yes r v _ HT.out).mono ?_
            rintro e w2 ⟨rfl, hw2⟩
            subst hw2
            have hsl : Sl ((wr.iterAt (w.heap.size + 1) s (pos + l)).alloc (.cells #[.int .u8 ((high : Int) * 16 + (v : Int))] 5)) (some ⟨wr.heap.size, 0, none⟩) 1 1 [high * 16 + v] := by
              have := sl_one (wr.iterAt (w.heap.size + 1) s (pos + l)) 5 ((high : Int) * 16 + (v : Int)) (high * 16 + v) (by omega) (by omega)
              rw [hz2] at this
              exact this
            go_wp2_with (at_builtin; go_must (refine app_list rfl _ _ rfl w.heap.size _ n c out rfl (hown2.alloc _) _ 1 1 [high * 16 + v] rfl hsl (by omega) (by simp; omega) ?_))
            intro a3 c3 w3 hown3 hg3
            have hit3 := (hg3.block (w.heap.size + 1) (by simp; omega) (fun e => own_iter hown2 hit2 e.symm)).trans ((Below.heap_alloc _ _ _ (by rw [hz2]; omega)).trans hit2)
            have hb3 : Below w.heap.size w w3 := (hb2.alloc (by rw [hz2]; omega) _).trans ((hown2.alloc _).up hg3 (by simp; omega))
            clear hsl hown2 hit2 hg3 hb2 hz2 hnx hbel hsz hor HT
            go_wp2
            go_roundw
            case rel => exact ⟨pos + l, place + 1, f, high, n + 1, c3, a3, out ++ [high * 16 + v], by go_num, rfl, rfl, hit3, hown3, hhi, HE, by omega, by omega, by omega, by omega, hb3⟩
            case measure => simp [intOf]; omega
      · have hnx : ∀ ty, (Instr.next (.pointer (some ⟨w.heap.size + 1, 0, none⟩)) true ty).run Tryd.prog wr = _ := fun ty => Lib.run_next_end_at wr (w.heap.size + 1) s pos ty hit hp
        have hlen := hown.len
        by_cases hev : place % 2 = 0
        · have HE : Hid (uhOf s = (out, 0, 0)) := by
            show _ = _
            rw [← HR.out]
            simp [uhRun, hp, hev]
          have hev' : ((place : Int) % 2 != 0) = false := by simp; omega
          clear HR hmk
          go_wp2
          go_ret3
          rw [HE.out]
          exact ⟨a, c, by simp only [hlen]; rfl, by simp only [hlen]; exact hown, hbel⟩
        · have HE : Hid (uhOf s = ([], place, 3)) := by
            show _ = _
            rw [← HR.out]
            simp [uhRun, hp, hev]
          have hev' : ((place : Int) % 2 != 0) = true := by simp; omega
          clear HR hmk
          go_wp2
          go_ret3
          rw [HE.out]
          exact ⟨none, 0, rfl, OwnB.nil _ _, hbel⟩
end Go.Proofs.YtplicfknjhjjgaaDoor
