/- law09's bodies: how many frames carry a body. -/
import Derived.Test.YtpmnjfkcffddgaaArL
import Derived.Test.YtpmnjfkcffddgaaArM
namespace Go.Proofs.Ytpmnjfkcffddgaa
open Go.RowKit
theorem cntF_take {fs : List (List Nat)} {i : Nat} {L : List Nat} (h : fs[i]? = some L) : cntF (fs.take (i + 1)) = cntF (fs.take i) + (if tkN L 12 2 = 2048 then 1 else 0) := by
  rw [List.take_add_one, h, cntF_app]
  congr 1
  unfold cntF
  show ([L].filter _).length = _
  rw [List.filter_cons]
  by_cases e : tkN L 12 2 = 2048
  · rw [if_pos (by rw [e]; rfl), if_pos e]; rfl
  · rw [if_neg (by simpa using e), if_neg e]; rfl
theorem cntF_le (fs : List (List Nat)) : cntF fs ≤ fs.length := List.length_filter_le _ _
set_option maxRecDepth 100000 in
set_option maxHeartbeats 4000000 in
theorem bodies_any {w : World} {kd : Nat → RoleA} {B : Nat} {a : Option Addr} {n c : Nat} {fs : List (List Nat)} (h : FrsW w kd B a n c fs) (hk : okFs 5 fs) (hn : n ≤ 1000) :
    Calls Try.prog 14 #[.slice a n c, .int .u64 5] w fun e w' => e = .returned (.tuple #[.int .i64 (cntF fs : Nat), .bool true]) ∧ Below w.heap.size w w' := by
  have hl := h.len
  obtain ⟨bs, h1, h2, h3, h4⟩ := h.ex
  have hcap := h2.cap.1
  have HN := (show Hid _ from hl)
  have HH := (show Hid _ from And.intro h1 (And.intro h2 (And.intro h4 hk)))
  clear h hl h1 h2 h3 h4 hk
  go_enter Try.func14, Try.ntmps14
  go_wp2
  go_loopw [6, 7] (fun u6 u7 wr => ∃ i : Nat, i ≤ n ∧ u7 = .int .i64 (i : Nat) ∧ u6 = .int .i64 (cntF (fs.take i) : Nat) ∧ Below w.heap.size w wr) (fun _ u7 _ => n - (intOf u7).toNat)
  case atStart => exact ⟨0, by omega, rfl, rfl, Below.refl _ _⟩
  case round =>
    obtain ⟨i, hi, rfl, rfl, hbw⟩ := hrel
    have hle : cntF (fs.take i) ≤ 1000 := by have := cntF_le (fs.take i); have := List.length_take_le i fs; omega
    by_cases hlt : i < n
    · have hlt1 : (i : Int) < (n : Int) := by omega
      obtain ⟨h1, h2, h4, hk⟩ := HH.out
      obtain ⟨b, hb⟩ : ∃ b, bs[i]? = some b := ⟨_, List.getElem?_eq_getElem (by have := h2.len; omega)⟩
      have hbm := List.mem_of_getElem? hb
      have hfi : fs[i]? = some b.zs := by rw [← h1, List.getElem?_map, hb]; rfl
      obtain ⟨k1, k2⟩ := hk b.zs (List.mem_of_getElem? hfi)
      obtain ⟨g, rfl, _, hgl, hnc, _, hcl, _⟩ := OwnG.at_ h2 (fun _ => rfl) (by omega)
      have cb := hcl i b hb 0 _ rfl
      rw [Nat.mul_one, Nat.add_zero] at cb
      have cb2 := (hbw.cell (p := ⟨g, i, none⟩) hgl).trans cb
      have HTK := (show Hid _ from take_any _ _ _ _ wr ((h4 b hbm).1.below hbw))
      have HCT := (show Hid _ from cntF_take hfi)
      have HB := (show Hid _ from hbw)
      have HK := (show Hid _ from And.intro k1 k2)
      obtain ⟨c0, hc0⟩ : ∃ c0, c0 = cntF (fs.take i) := ⟨_, rfl⟩
      rw [← hc0] at HCT hle ⊢
      obtain ⟨ba, bn, bc, bz⟩ := b
      dsimp only at *
      clear h1 h2 h4 hk hb hbm hfi k1 k2 hcl cb hbw hc0
      go_wp2_with fail
      refine Calls.mono HTK.out ?_
      rintro e w2 ⟨⟨a2, c2, rfl, hs2⟩, hb2⟩
      have HB2 := (show Hid _ from HB.out.trans (hb2.mono HB.out.size))
      rw [HK.out.1, HK.out.2]
      obtain ⟨N0, hN0⟩ : ∃ N0, N0 = tkN bz 0 6 := ⟨_, rfl⟩
      obtain ⟨N2, hN2⟩ : ∃ N2, N2 = tkN bz 12 2 := ⟨_, rfl⟩
      rw [← hN0, ← hN2]
      rw [← hN2] at HCT
      clear hs2 hb2 hN0 hN2 HTK HK cb2
      by_cases h8 : N2 = 2048
      · subst h8
        go_wp2
        go_roundw
        case rel => exact ⟨i + 1, by omega, by go_num, by rw [HCT.out]; simp, HB2.out.trans (((Below.refl _ _).alloc (Nat.le_refl _) _).mono HB2.out.size)⟩
        case measure => simp [intOf]; omega
      · have h81 : ((N2 : Int) == 2048) = false := by simp; omega
        have h82 : ¬ (N2 : Int) = 2048 := by omega
        go_wp2
        go_roundw
        case rel => exact ⟨i + 1, by omega, by go_num, by rw [HCT.out, if_neg h8]; rfl, HB2.out.trans (((Below.refl _ _).alloc (Nat.le_refl _) _).mono HB2.out.size)⟩
        case measure => simp [intOf]; omega
    · obtain rfl : i = n := by omega
      have ht : fs.take i = fs := List.take_of_length_le (by have := HN.out; omega)
      rw [ht]
      have HB := (show Hid _ from hbw)
      clear hbw
      go_wp2
      go_ret2
      exact ⟨rfl, HB.out⟩
end Go.Proofs.Ytpmnjfkcffddgaa
