/- law19.short, law19.live. -/
import Derived.Test.YtpdnkbhgobdniaaJd10
import Derived.Lib.SlBytesConst
namespace Go.Proofs.Ytpdnkbhgobdniaa
open Go.RowKit Go.MapKept Go.Maps
theorem SlM.take {w : World} {a : Option Addr} {n c : Nat} {dd : List Mk} (h : SlM w a n c dd) (k : Nat) (hk : k ≤ n) : SlM w a k c (dd.take k) := by
  refine ⟨by rw [List.length_take, h.len]; omega, Nat.le_trans hk h.cap, Nat.le_trans hk h.small, ?_, fun x hx => h.wf x (List.mem_of_mem_take hx)⟩
  rcases h.at_ with h0 | ⟨b, off, e, hlt, hc⟩
  · exact .inl (by omega)
  · refine .inr ⟨b, off, e, hlt, fun i x hx j v hv => hc i x ?_ j v hv⟩
    rw [List.getElem?_take] at hx
    split at hx
    · exact hx
    · cases hx
theorem SlM.lit {w : World} {B n : Nat} {T : TypeId} {dd : List Mk} (hn : dd.length = n) (hs : n ≤ 1000) (hb : w.heap[B]? = some (.cells (valsG Mk.vals dd).toArray T)) (hw : ∀ x ∈ dd, x.Wf w) : SlM w (some ⟨B, 0, none⟩) n n dd := by
  refine ⟨hn, Nat.le_refl _, by omega, .inr ⟨B, 0, rfl, (Array.getElem?_eq_some_iff.1 hb).1, fun i x hx j v hv => ?_⟩, hw⟩
  have h1 := valsG_at (cf := Mk.vals) (k := 10) (fun x => rfl) dd i x hx j v hv
  rw [cell_of_row w B (0 + i * 10 + j) _ T _ hb]
  rw [Nat.zero_add]
  simpa using h1
set_option maxHeartbeats 1000000 in
theorem short_any (a : Option Addr) (ln c : Nat) (dd : List Mk) (w : World) (hl : SlM w a ln c dd) : Calls Try.prog 9 #[.slice a ln c] w fun e w' => (∃ k, e = .returned (.slice a k c) ∧ k ≤ 60 ∧ k ≤ ln ∧ SlM w a k c (dd.take k)) ∧ w' = w := by
  have hcap := hl.cap
  have hsm := hl.small
  by_cases h : 60 < ln
  · have h1 : (60 : Int) < (ln : Int) := by omega
    have h2 : (60 : Int) ≤ (c : Int) := by omega
    have hat := hl.at_
    rcases hat with h0 | ⟨b, off, rfl, _, _⟩
    · omega
    have HT := (show Hid _ from hl.take 60 (by omega))
    clear hl
    go_enter Try.func9, Try.ntmps9
    go_wp2
    go_ret
    exact ⟨⟨60, rfl, by omega, by omega, HT.out⟩, rfl⟩
  · have h1 : ¬ (60 : Int) < (ln : Int) := by omega
    have HT := (show Hid _ from hl.take ln (by omega))
    clear hl
    go_enter Try.func9, Try.ntmps9
    go_wp2
    go_ret
    exact ⟨⟨ln, rfl, by omega, by omega, HT.out⟩, rfl⟩
def lvA (b : Nat) : Mk := ⟨1, 0, 3, 4, 1, 0, 0, false, some ⟨b, 0, none⟩, 1, 1, [120], 0⟩
def lvB (b : Nat) : Mk := ⟨2, 1, 4, 3, 1, 0, 0, false, some ⟨b, 0, none⟩, 1, 1, [120], 0⟩
theorem lv2 (b : Nat) : (jdg [lvA b, lvB b]).1 = 2 ∧ (jdg [lvA b, lvB b]).2.1 = 0 := ⟨rfl, rfl⟩
theorem lv3 (b : Nat) : (jdg [lvA b, lvB b, lvB b]).1 = 2 ∧ (jdg [lvA b, lvB b, lvB b]).2.1 = 16 := ⟨rfl, rfl⟩
theorem lv1 (b : Nat) : owd [lvA b] (0, 3, 4) = (1, true) := rfl
set_option maxRecDepth 100000 in
set_option maxHeartbeats 4000000 in
theorem live19_any (w : World) : Calls Try.prog 12 #[] w fun e w' => e = .returned (.bool true) ∧ Below w.heap.size w w' := by
  have kc := fun (w : World) (C : Array Value) (n c : Nat) => Lib.run_convert_bytes_const (P := Try.prog) w 39 5 C n c Try.underlying39 Try.underlying5
  go_enter Try.func12, Try.ntmps12
  go_wp2_with fail
  obtain ⟨w1, e1⟩ : ∃ w1, w1 = w.alloc (.cells #[.int .u8 120] 5 (1, 2)) := ⟨_, rfl⟩
  rw [← e1]
  obtain ⟨w2, e2⟩ : ∃ w2, w2 = w1.alloc (.cells #[.int .u16 1, .int .u16 0, .int .u32 0, .bool false, .slice (some ⟨w.heap.size, 0, none⟩) 1 1] 41) := ⟨_, rfl⟩
  rw [← e2]
  obtain ⟨w3, e3⟩ : ∃ w3, w3 = w2.alloc (.cells #[.int .i64 1, .int .i64 0, .int .u32 3, .int .u32 4, .int .u16 1, .int .u16 0, .int .u32 0, .bool false, .slice (some ⟨w.heap.size, 0, none⟩) 1 1, .int .i64 0, .int .i64 2, .int .i64 1, .int .u32 4, .int .u32 3, .int .u16 1, .int .u16 0, .int .u32 0, .bool false, .slice (some ⟨w.heap.size, 0, none⟩) 1 1, .int .i64 0, .int .i64 2, .int .i64 1, .int .u32 4, .int .u32 3, .int .u16 1, .int .u16 0, .int .u32 0, .bool false, .slice (some ⟨w.heap.size, 0, none⟩) 1 1, .int .i64 0] 44) := ⟨_, rfl⟩
  rw [← e3]
  have hs1 : w1.heap.size = w.heap.size + 1 := by rw [e1]; simp
  have hs2 : w2.heap.size = w.heap.size + 1 + 1 := by rw [e2]; simp [hs1]
  have b1 : Below w.heap.size w w1 := by rw [e1]; exact (Below.refl _ _).alloc (Nat.le_refl _) _
  have b2 : Below w1.heap.size w1 w2 := by rw [e2]; exact (Below.refl _ _).alloc (Nat.le_refl _) _
  have b3 : Below w2.heap.size w2 w3 := by rw [e3]; exact (Below.refl _ _).alloc (Nat.le_refl _) _
  have b03 : Below w.heap.size w w3 := b1.trans ((b2.trans (b3.mono (by omega))).mono (by omega))
  have hsl : Sl w3 (some ⟨w.heap.size, 0, none⟩) 1 1 [120] := by
    have h1 : Sl w1 (some ⟨w.heap.size, 0, none⟩) 1 1 [120] := by rw [e1]; exact sl_new w 5 (1, 2) [120] (by decide) (by simp) _ rfl
    exact (h1.below b2).below b3
  have hwf : ∀ x ∈ [lvA w.heap.size, lvB w.heap.size, lvB w.heap.size], x.Wf w3 := by
    intro x hx
    simp at hx
    rcases hx with rfl | rfl
    · exact ⟨rfl, rfl, (by simp only [lvA]; decide), (by simp only [lvA]; decide), (by simp only [lvA]; decide), (by simp only [lvA]; decide), (by simp only [lvA]; decide), ⟨hsl, (by simp only [lvA]; decide)⟩, rfl⟩
    · exact ⟨rfl, rfl, (by simp only [lvB]; decide), (by simp only [lvB]; decide), (by simp only [lvB]; decide), (by simp only [lvB]; decide), (by simp only [lvB]; decide), ⟨hsl, (by simp only [lvB]; decide)⟩, rfl⟩
  have hM : SlM w3 (some ⟨w.heap.size + 1 + 1, 0, none⟩) 3 3 [lvA w.heap.size, lvB w.heap.size, lvB w.heap.size] := by
    refine SlM.lit rfl (by omega) (T := 44) ?_ hwf
    rw [e3, ← hs2]
    exact (heap_alloc w2 _).1
  clear e1 e2 e3 hwf hsl b1 b2 b3 kc
  obtain ⟨l21, l22⟩ := lv2 w.heap.size
  obtain ⟨l31, l32⟩ := lv3 w.heap.size
  have l1 := lv1 w.heap.size
  refine (judge_any _ 2 3 [lvA w.heap.size, lvB w.heap.size] w3 (hM.take 2 (by omega)) (by omega) _ rfl).mono ?_
  rintro e w4 ⟨rfl, hb4⟩
  rw [l21, l22]
  have hM4 := hM.below hb4
  have b04 := b03.trans (hb4.mono b03.size)
  clear hM b03 hb4
  go_wp2_with fail
  refine (judge_any _ 3 3 [lvA w.heap.size, lvB w.heap.size, lvB w.heap.size] w4 hM4 (by omega) _ rfl).mono ?_
  rintro e w5 ⟨rfl, hb5⟩
  rw [l31, l32]
  have hM5 := hM4.below hb5
  have b05 := b04.trans (hb5.mono b04.size)
  clear hM4 b04 hb5
  go_wp2_with fail
  refine (owed_any _ 1 3 [lvA w.heap.size] (0, 3, 4) ⟨rfl, by decide, by decide⟩ w5 (hM5.take 1 (by omega)) (by omega) _ rfl).mono ?_
  rintro e w6 ⟨rfl, hb6⟩
  rw [l1]
  have b06 := b05.trans (hb6.mono b05.size)
  clear hM5 b05 hb6
  go_wp2
  go_ret
  exact ⟨rfl, b06⟩
end Go.Proofs.Ytpdnkbhgobdniaa
