/- What cookie.isSeal and sealed answer. -/
import Derived.Test.YtmikhnaffhheoaaDoorCkSl
namespace Go.Proofs.YtmikhnaffhheoaaDoor
open Go.RowKit
set_option maxRecDepth 100000 in
set_option maxHeartbeats 2000000 in
theorem isSeal_any (a1 : Option Addr) (n1 c1 : Nat) (ks : List Nat) (a2 : Option Addr) (n2 c2 : Nat) (bs : List Nat) (a3 : Option Addr) (n3 c3 : Nat) (ss : List Nat) (w : World) (h1 : SlB w a1 n1 c1 ks) (h2 : SlB w a2 n2 c2 bs) (h3 : Sl w a3 n3 c3 ss) (hkw : KW w) (hn1 : n1 ≤ 140737488355328) (hn2 : n2 ≤ 140737488355328) :
    Calls Tryd.prog 37 #[.slice a1 n1 c1, .slice a2 n2 c2, .slice a3 n3 c3] w fun e w' => e = .returned (.bool (decide (macN ks bs = ss))) ∧ Below w.heap.size w w' := by
  have hmac := mac_any a1 n1 c1 ks a2 n2 c2 bs w h1 h2 hkw (by omega) (by omega)
  obtain ⟨M, hM⟩ : ∃ M, M = macN ks bs := ⟨_, rfl⟩
  rw [← hM] at hmac ⊢
  have hMl : M.length = 32 := by rw [hM]; exact macN_len _ _
  have hMb : ∀ i, M.getD i 0 < 256 := by rw [hM]; exact macN_bnd _ _
  clear hM
  obtain ⟨D, hD⟩ : ∃ D, D = decide (M = ss) := ⟨_, rfl⟩
  rw [← hD]
  have HD := (show Hid _ from hD)
  clear hD
  go_enter Tryd.func37, Tryd.ntmps37
  go_wp2_with fail
  refine hmac.mono ?_
  rintro e w5 ⟨rfl, hkw5, b5⟩
  obtain ⟨mc, hmc⟩ : ∃ mc, mc = vals M := ⟨_, rfl⟩
  rw [← hmc]
  have hmcl : mc.length = 32 := by rw [hmc]; simp [vals, hMl]
  have hone : ∀ u ∈ mc, u.oneCell' = true := by rw [hmc]; exact vals_one _
  have hbB : Below w5.heap.size w5 (w5.alloc (.cells z32 66)) := (Below.refl _ _).alloc (Nat.le_refl _) _
  have hTB := arr32_new w5 [] (w5.alloc (.cells z32 66)) rfl
  have hthB : (w5.alloc (.cells z32 66)).there w5.heap.size 0 mc.toArray.size := by rw [show mc.toArray.size = 32 from hmcl]; exact hTB.there
  have hi32 : (Tryd.prog.info? 66).map (·.size) = some mc.toArray.size := by rw [show mc.toArray.size = 32 from hmcl]; kernel_rfl
  obtain ⟨w6, hw6⟩ : ∃ w6, w6 = (w5.alloc (.cells z32 66)).setCells w5.heap.size 0 mc := ⟨_, rfl⟩
  have hM6 : Arr8 w6 w5.heap.size w5.heap.size 32 M := by
    rw [hw6, hmc]
    have := hTB.copied 0 M hMb (by rw [hMl]; omega)
    rwa [lay_full _ _ (by rw [outL_len, hMl])] at this
  have b56 : Below w5.heap.size w5 w6 := by rw [hw6]; exact Below.setCells hbB _ _ _ (Nat.le_refl _)
  have b06 : Below w.heap.size w w6 := b5.trans (b56.mono b5.size)
  have sM6 := (hM6.slB (by omega)).1
  have h36 := h3.below b06
  clear hmc hTB hbB hkw5 b5 b56 hM6 hMb hmac h1 h2 h3 hkw
  go_wp2_with (refine wpList_store_mid rfl 66 _ _ rfl w5.heap.size 0 mc.toArray rfl rfl hthB hi32 (all_oneCell_toArray hone) ?_; change wpList _ _ _ _ _ ((w5.alloc (.cells z32 66)).setCells w5.heap.size 0 mc); rw [← hw6]; clear hw6)
  refine (hsame_any _ 32 32 M a3 n3 c3 ss w6 sM6 h36).mono ?_
  rintro e w7 ⟨rfl, q7, rfl⟩
  rw [← HD.out]
  have b07 : Below w.heap.size w (w6.drewN q7) := below_drewN b06 q7
  clear hthB hi32 hone
  go_wp2
  go_ret
  exact ⟨rfl, b07⟩
def sealedV (cur : List Nat) (fm : Option (List Nat)) (bs ss : List Nat) : Bool := decide (macN cur bs = ss) || (fm.isSome && decide (macN (fm.getD []) bs = ss))
set_option maxRecDepth 100000 in
set_option maxHeartbeats 2000000 in
theorem sealed_any (kp : Nat) (cur : List Nat) (fm : Option (List Nat)) (a2 : Option Addr) (n2 c2 : Nat) (bs : List Nat) (a3 : Option Addr) (n3 c3 : Nat) (ss : List Nat) (w : World) (hk : Ky w kp cur fm) (h2 : SlB w a2 n2 c2 bs) (h3 : Sl w a3 n3 c3 ss) (hkw : KW w) (hn2 : n2 ≤ 140737488355328) :
    Calls Tryd.prog 24 #[.pointer (some ⟨kp, 0, none⟩), .slice a2 n2 c2, .slice a3 n3 c3] w fun e w' => e = .returned (.bool (sealedV cur fm bs ss)) ∧ Below w.heap.size w w' := by
  obtain ⟨p1, m1, d1, p2, m2, d2, k1, k2, k3, k4, k5, k6, k7⟩ := hk.ex
  have x0 := k1.cell 0 _ rfl
  have h := isSeal_any p1 m1 d1 cur a2 n2 c2 bs a3 n3 c3 ss w k2 h2 h3 hkw k4 hn2
  by_cases hc : macN cur bs = ss
  · have HE : Hid (sealedV cur fm bs ss = true) := by show _ = _; unfold sealedV; rw [decide_eq_true hc]; rfl
    rw [decide_eq_true hc] at h
    clear hc
    go_enter Tryd.func24, Tryd.ntmps24
    go_wp2_with fail
    refine h.mono ?_
    rintro e w1 ⟨rfl, b1⟩
    go_wp2
    go_ret
    exact ⟨by rw [HE.out]; rfl, b1⟩
  · rw [decide_eq_false hc] at h
    have HS : Hid (sealedV cur fm bs ss = (fm.isSome && decide (macN (fm.getD []) bs = ss))) := by show _ = _; unfold sealedV; rw [decide_eq_false hc]; rfl
    clear hc
    go_enter Tryd.func24, Tryd.ntmps24
    go_wp2_with fail
    refine h.mono ?_
    rintro e w1 ⟨rfl, b1⟩
    have k11 := k1.below b1
    have y2 := k11.cell 2 _ rfl
    have y1 := k11.cell 1 _ rfl
    have h' := isSeal_any p2 m2 d2 (fm.getD []) a2 n2 c2 bs a3 n3 c3 ss w1 (k3.below b1) (h2.below b1) (h3.below b1) (hkw.next b1) k5 hn2
    cases hf : fm.isSome
    · have HE : Hid (sealedV cur fm bs ss = false) := by show _ = _; rw [HS.out, hf]; rfl
      rw [hf] at y2
      clear hf
      go_wp2
      go_ret
      exact ⟨by rw [HE.out]; rfl, b1⟩
    · have HE : Hid (sealedV cur fm bs ss = decide (macN (fm.getD []) bs = ss)) := by show _ = _; rw [HS.out, hf]; rfl
      rw [hf] at y2
      obtain ⟨D, hD⟩ : ∃ D, D = decide (macN (fm.getD []) bs = ss) := ⟨_, rfl⟩
      rw [← hD] at h' HE
      clear hf hD
      go_wp2_with fail
      refine h'.mono ?_
      rintro e w2 ⟨rfl, b2⟩
      have b02 := b1.trans (b2.mono b1.size)
      go_wp2
      go_ret
      exact ⟨by rw [HE.out]; rfl, b02⟩
end Go.Proofs.YtmikhnaffhheoaaDoor
