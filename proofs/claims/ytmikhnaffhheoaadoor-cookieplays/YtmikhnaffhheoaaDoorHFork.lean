/- What Fork of a hash answers. -/
import Derived.Test.YtmikhnaffhheoaaDoorHNew
namespace Go.Proofs.YtmikhnaffhheoaaDoor
open Go.RowKit
def z73 : Array Value := #[.int .u32 0, .int .u32 0, .int .u32 0, .int .u32 0, .int .u32 0, .int .u32 0, .int .u32 0, .int .u32 0, .int .u8 0, .int .u8 0, .int .u8 0, .int .u8 0, .int .u8 0, .int .u8 0, .int .u8 0, .int .u8 0, .int .u8 0, .int .u8 0, .int .u8 0, .int .u8 0, .int .u8 0, .int .u8 0, .int .u8 0, .int .u8 0, .int .u8 0, .int .u8 0, .int .u8 0, .int .u8 0, .int .u8 0, .int .u8 0, .int .u8 0, .int .u8 0, .int .u8 0, .int .u8 0, .int .u8 0, .int .u8 0, .int .u8 0, .int .u8 0, .int .u8 0, .int .u8 0, .int .u8 0, .int .u8 0, .int .u8 0, .int .u8 0, .int .u8 0, .int .u8 0, .int .u8 0, .int .u8 0, .int .u8 0, .int .u8 0, .int .u8 0, .int .u8 0, .int .u8 0, .int .u8 0, .int .u8 0, .int .u8 0, .int .u8 0, .int .u8 0, .int .u8 0, .int .u8 0, .int .u8 0, .int .u8 0, .int .u8 0, .int .u8 0, .int .u8 0, .int .u8 0, .int .u8 0, .int .u8 0, .int .u8 0, .int .u8 0, .int .u8 0, .int .u8 0, .int .i64 0]
theorem z73_size : z73.size = 73 := rfl
/-- The 73 cells of a hash. -/
def cellsH (v b : List Nat) (n : Nat) : List Value := wordsV v ++ (b.map (fun z => Value.int .u8 (z : Nat)) ++ [.int .i64 (n : Nat)])
theorem cellsH_len (v b : List Nat) (n : Nat) (hv : v.length = 8) (hb : b.length = 64) : (cellsH v b n).length = 73 := by simp [cellsH, wordsV, hv, hb]
theorem cellsH_one (v b : List Nat) (n : Nat) : ∀ x ∈ cellsH v b n, x.oneCell' = true := by
  intro x hx
  rcases List.mem_append.1 hx with h | h
  · exact words_one v x h
  · rcases List.mem_append.1 h with h | h
    · obtain ⟨z, _, rfl⟩ := List.mem_map.1 h; rfl
    · simp at h; subst h; rfl
theorem cellsH_v (v b : List Nat) (n i : Nat) (hv : v.length = 8) (hi : i < 8) : (cellsH v b n)[i]? = some (.int .u32 (v.getD i 0 : Nat)) := by
  unfold cellsH
  rw [List.getElem?_append_left (by simp [wordsV]; omega)]
  simp [wordsV, List.getD_eq_getElem?_getD, show i < v.length by omega]
theorem cellsH_b (v b : List Nat) (n i : Nat) (hv : v.length = 8) (hb : b.length = 64) (hi : i < 64) : (cellsH v b n)[8 + i]? = some (.int .u8 (b.getD i 0 : Nat)) := by
  unfold cellsH
  have hw : (wordsV v).length = 8 := by simp [wordsV, hv]
  rw [List.getElem?_append_right (by omega), hw, show 8 + i - 8 = i from by omega, List.getElem?_append_left (by simp; omega)]
  simp [List.getD_eq_getElem?_getD, show i < b.length by omega]
theorem cellsH_n (v b : List Nat) (n : Nat) (hv : v.length = 8) (hb : b.length = 64) : (cellsH v b n)[72]? = some (.int .i64 (n : Nat)) := by
  unfold cellsH
  have hw : (wordsV v).length = 8 := by simp [wordsV, hv]
  rw [List.getElem?_append_right (by omega), hw, List.getElem?_append_right (by simp; omega)]
  simp [hb]
theorem HAt.range {w : World} {B p : Nat} {v b : List Nat} {n : Nat} (h : HAt w B p v b n) : w.rangeAt p 0 (cellsH v b n) := by
  intro j x hx
  have hj := (List.getElem?_eq_some_iff.1 hx).1
  rw [cellsH_len v b n h.vlen h.blen] at hj
  rw [Nat.zero_add, ← hx]
  by_cases h1 : j < 8
  · rw [h.vc j h1, cellsH_v v b n j h.vlen h1]
  · by_cases h2 : j < 72
    · obtain ⟨i, rfl⟩ : ∃ i, j = 8 + i := ⟨j - 8, by omega⟩
      rw [h.bc i (by omega), cellsH_b v b n i h.vlen h.blen (by omega)]
    · obtain rfl : j = 72 := by omega
      rw [h.nc, cellsH_n v b n h.vlen h.blen]
theorem HAt.of_range {w : World} {B p : Nat} {v b : List Nat} {n : Nat} (hB : B ≤ p) (hlt : p < w.heap.size) (hv : v.length = 8) (hvb : ∀ i, v.getD i 0 < 4294967296) (hb : b.length = 64) (hbb : ∀ i, b.getD i 0 < 256) (hr : w.rangeAt p 0 (cellsH v b n)) (hf : ∀ i, w.frozen? ⟨p, i, none⟩ = false) : HAt w B p v b n := by
  refine ⟨hB, hlt, hv, hvb, hb, hbb, fun i hi => ?_, fun i hi => ?_, ?_, hf⟩
  · have := hr i _ (cellsH_v v b n i hv hi); rwa [Nat.zero_add] at this
  · have := hr (8 + i) _ (cellsH_b v b n i hv hb hi); rwa [Nat.zero_add] at this
  · have := hr 72 _ (cellsH_n v b n hv hb); rwa [Nat.zero_add] at this
set_option maxRecDepth 100000 in
set_option maxHeartbeats 2000000 in
theorem hfork_any (B p : Nat) (v b : List Nat) (n : Nat) (w : World) (h : HAt w B p v b n) :
    Calls Tryd.prog 58 #[.pointer (some ⟨p, 0, none⟩)] w fun e w' => ∃ q, e = .returned (.pointer (some ⟨q, 0, none⟩)) ∧ HAt w' w.heap.size q v b n ∧ Below w.heap.size w w' := by
  have hz73 := zero73
  have hr := h.range
  have hl := cellsH_len v b n h.vlen h.blen
  have hone := cellsH_one v b n
  have hv := h.vlen
  have hvb := h.vbnd
  have hb := h.blen
  have hbb := h.bbnd
  obtain ⟨cs, hcs⟩ : ∃ cs, cs = cellsH v b n := ⟨_, rfl⟩
  rw [← hcs] at hr hl hone
  have HCS := (show Hid _ from hcs)
  have hi73 : (Tryd.prog.info? 104).map (·.size) = some cs.length := by rw [hl]; kernel_rfl
  have hth : (w.alloc (.cells z73 104)).there w.heap.size 0 cs.toArray.size := by
    intro j hj
    rw [show cs.toArray.size = 73 from hl] at hj
    rw [Nat.zero_add]
    refine ⟨?_, ?_⟩
    · rw [World.cell?_alloc_mark, Array.getElem?_eq_getElem (by rw [z73_size]; exact hj)]; rfl
    · have hh : (w.alloc (.cells z73 104)).heap[w.heap.size]? = some (.cells z73 104) := by
        show (w.heap.push _)[w.heap.size]? = _
        simp
      unfold World.frozen?
      dsimp only
      rw [hh]
      simp
  have hi732 : (Tryd.prog.info? 104).map (·.size) = some cs.toArray.size := hi73
  obtain ⟨W, hW⟩ : ∃ W, W = (w.alloc (.cells z73 104)).setCells w.heap.size 0 cs := ⟨_, rfl⟩
  have HBW : Hid (Below w.heap.size w W) := by
    show Below _ _ _
    rw [hW]; exact Below.setCells ((Below.refl _ _).alloc (Nat.le_refl _) _) _ _ _ (Nat.le_refl _)
  have HHW : Hid (HAt W w.heap.size w.heap.size v b n) := by
    show HAt _ _ _ _ _ _
    rw [hW]
    refine HAt.of_range (Nat.le_refl _) ?_ hv hvb hb hbb ?_ (fun i => ?_)
    · exact Nat.lt_of_lt_of_le (by simp) (Below.setCells (Below.refl 0 _) _ _ _ (Nat.zero_le _)).size
    · rw [← HCS.out]; exact World.rangeAt_setCells_same _ _ _ _ (by rw [hl]; rw [show cs.toArray.size = 73 from hl] at hth; exact hth)
    · rw [World.frozen?_setCells]
      have hh : (w.alloc (.cells z73 104)).heap[w.heap.size]? = some (.cells z73 104) := by
        show (w.heap.push _)[w.heap.size]? = _
        simp
      unfold World.frozen?
      dsimp only
      rw [hh]
      simp
  clear hcs h hv hvb hb hbb
  go_enter Tryd.func58, Tryd.ntmps58
  go_wp2_with (first | refine wpList_load_mid rfl 104 _ rfl p 0 rfl cs _ hr Tryd.underlying104 rfl hi73 ?_ | (refine wpList_store_mid rfl 104 _ _ rfl w.heap.size 0 cs.toArray rfl rfl hth hi732 (all_oneCell_toArray hone) ?_; change wpList _ _ _ _ _ ((w.alloc (.cells z73 104)).setCells w.heap.size 0 cs); rw [← hW]; clear hW))
  go_ret
  exact ⟨w.heap.size, rfl, HHW.out, HBW.out⟩
end Go.Proofs.YtmikhnaffhheoaaDoor
