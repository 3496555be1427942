/- What law05's live answers: true. -/
import Derived.Test.YtdglclokjfinfaaDoorHSame
import Derived.Test.YtdglclokjfinfaaDoorStr
import Derived.Lib.SlBytesConst
namespace Go.Proofs.YtdglclokjfinfaaDoor
open Go.RowKit
theorem slB_new (w : World) (t : TypeId) (fr : Nat × Nat) (zs : List Nat) (hb : zs.all (· < 256) = true) (hn : zs.length ≤ 1000) :
    SlB (w.alloc (.cells (zs.map fun z => Value.int .u8 (z : Nat)).toArray t fr)) (some ⟨w.heap.size, 0, none⟩) zs.length zs.length zs :=
  ⟨sl_new w t fr zs hb hn _ rfl, fun k hk => by rw [← blk_of hk]; simp⟩
/-- What stands while live looks at the two sums. -/
structure LvC (w0 : World) (gA gM : Nat) (A M : List Nat) (W : World) : Prop where
  sA : SlB W (some ⟨gA, 0, none⟩) 32 32 A
  sM : SlB W (some ⟨gM, 0, none⟩) 32 32 M
  kw : KW W
  bel : Below w0.heap.size w0 W
theorem LvC.next {w0 : World} {gA gM : Nat} {A M : List Nat} {W W' : World} (h : LvC w0 gA gM A M W) (hb : Below W.heap.size W W') : LvC w0 gA gM A M W' :=
  ⟨h.sA.below hb, h.sM.below hb, h.kw.below (Nat.le_refl _) hb, h.bel.trans (hb.mono h.bel.size)⟩
theorem sl_four {W : World} {g : Nat} {L : List Nat} (h : Sl W (some ⟨g, 0, none⟩) 32 32 L) : Sl W (some ⟨g, 0, none⟩) 4 32 (L.take 4) := by
  have hl := h.len
  refine ⟨by rw [List.length_take, hl]; rfl, by omega, by unfold maxLen; omega, by omega, fun e => (by cases e), fun i => ?_, .inr ?_⟩
  · by_cases hi : i < 4
    · have := h.bnd i
      rwa [List.getD_eq_getElem?_getD, List.getElem?_take_of_lt hi, ← List.getD_eq_getElem?_getD]
    · rw [List.getD_eq_getElem?_getD, List.getElem?_eq_none (by rw [List.length_take]; omega)]; decide
  · rcases h.at_ with h1 | ⟨b, o, hbo, hlt, hc⟩
    · omega
    refine ⟨b, o, hbo, hlt, fun i hi => ?_⟩
    rw [hc i (by omega), List.getD_eq_getElem?_getD, List.getD_eq_getElem?_getD, List.getElem?_take_of_lt hi]
theorem LvC.all {w0 : World} {gA gM : Nat} {A M : List Nat} {W : World} (h : LvC w0 gA gM A M W) (hA4 : A.take 4 = [186, 120, 22, 191]) (hM4 : M.take 4 = [91, 220, 193, 70]) :
    (convert 22 9 (.slice (some ⟨gA, 0, none⟩) 4 32)).run Tryd.prog W = .ok (.string ⟨#[186, 120, 22, 191]⟩) W ∧ (convert 22 9 (.slice (some ⟨gM, 0, none⟩) 4 32)).run Tryd.prog W = .ok (.string ⟨#[91, 220, 193, 70]⟩) W ∧ LvC w0 gA gM A M W := by
  have cvA := conv_str (sl_four h.sA.1)
  have cvM := conv_str (sl_four h.sM.1)
  rw [hA4, show strOf [186, 120, 22, 191] = ⟨#[186, 120, 22, 191]⟩ by decide +kernel] at cvA
  rw [hM4, show strOf [91, 220, 193, 70] = ⟨#[91, 220, 193, 70]⟩ by decide +kernel] at cvM
  exact ⟨cvA, cvM, h⟩
theorem below_drewN {B : Nat} {a w : World} (h : Below B a w) (q : Nat) : Below B a (w.drewN q) := ⟨h.os, h.tape, h.output, h.size, h.block⟩
theorem same_self (a : Option Addr) (n c : Nat) (zs : List Nat) (w : World) (h : Sl w a n c zs) :
    Calls Tryd.prog 14 #[.slice a n c, .slice a n c] w fun e w' => e = .returned (.bool true) ∧ Below w.heap.size w w' :=
  (hsame_any a n c zs a n c zs w h h).mono fun e w' ⟨h1, q, h2⟩ => ⟨by rw [h1]; simp, by rw [h2]; exact below_drewN (Below.refl _ _) q⟩
def wnt : List Nat := [119, 104, 97, 116, 32, 100, 111, 32, 121, 97, 32, 119, 97, 110, 116, 32, 102, 111, 114, 32, 110, 111, 116, 104, 105, 110, 103, 63]
set_option maxRecDepth 100000 in
set_option maxHeartbeats 4000000 in
theorem live5_any (w : World) (hk : KW w) : Calls Tryd.prog 9 #[] w fun e w' => e = .returned (.bool true) ∧ KW w' ∧ Below w.heap.size w w' := by
  have hk0 := hk.1
  have kc := fun (w : World) (C : Array Value) (n c : Nat) => Lib.run_convert_bytes_const (P := Tryd.prog) w 22 5 C n c Tryd.underlying22 Tryd.underlying5
  go_enter Tryd.func9, Tryd.ntmps9
  go_wp2_with fail
  obtain ⟨w1, hw1⟩ : ∃ w1, w1 = w.alloc (.cells #[.int .u8 97, .int .u8 98, .int .u8 99] 5 (3, 4)) := ⟨_, rfl⟩
  have hb1 : Below w.heap.size w w1 := by rw [hw1]; exact (Below.refl _ _).alloc (Nat.le_refl _) _
  have hs1 : SlB w1 (some ⟨w.heap.size, 0, none⟩) 3 3 [97, 98, 99] := by rw [hw1]; exact slB_new w 5 (3, 4) [97, 98, 99] rfl (by decide)
  rw [← hw1]
  clear hw1
  refine (hashSum_any _ 3 3 _ w1 hs1 (hk.below (Nat.le_refl _) hb1) (by omega)).mono ?_
  rintro e w2 ⟨rfl, hk2, hb12⟩
  have hb2 : Below w.heap.size w w2 := hb1.trans (hb12.mono hb1.size)
  clear hs1 hb12 hb1 hk
  obtain ⟨A, hA⟩ : ∃ A, A = shaN [97, 98, 99] := ⟨_, rfl⟩
  have hAl : A.length = 32 := by rw [hA]; exact shaN_len _
  have hAb : ∀ i, A.getD i 0 < 256 := by rw [hA]; exact shaN_bnd _
  have hA4 : A.take 4 = [186, 120, 22, 191] := by rw [hA]; exact sha_abc
  rw [← hA]
  clear hA
  obtain ⟨ac, hac⟩ : ∃ ac, ac = vals A := ⟨_, rfl⟩
  have kc2 : ∀ (o : Obj) (C : Array Value) (n c : Nat), (convert 22 22 (.slice (some ⟨w2.heap.size + 1, 0, none⟩) n c)).run Tryd.prog ((w2.alloc o).alloc (.cells C 5)) = .ok (.slice (some ⟨w2.heap.size + 1, 0, none⟩) n c) ((w2.alloc o).alloc (.cells C 5 (C.size, C.size + 1))) := by
    intro o C n c
    have := kc (w2.alloc o) C n c
    rwa [show (w2.alloc o).heap.size = w2.heap.size + 1 by simp] at this
  have hj : SlB (w2.alloc (.cells #[.int .u8 74, .int .u8 101, .int .u8 102, .int .u8 101] 5 (4, 5))) (some ⟨w2.heap.size, 0, none⟩) 4 4 [74, 101, 102, 101] := slB_new w2 5 (4, 5) [74, 101, 102, 101] rfl (by decide)
  obtain ⟨w3, hw3⟩ : ∃ w3, w3 = w2.alloc (.cells #[.int .u8 74, .int .u8 101, .int .u8 102, .int .u8 101] 5 (4, 5)) := ⟨_, rfl⟩
  rw [← hw3] at hj
  have hb23 : Below w2.heap.size w2 w3 := by rw [hw3]; exact (Below.refl _ _).alloc (Nat.le_refl _) _
  have hz3 : w3.heap.size = w2.heap.size + 1 := by rw [hw3]; simp
  obtain ⟨w4, hw4⟩ : ∃ w4, w4 = w3.alloc (.cells (wnt.map fun z => Value.int .u8 (z : Nat)).toArray 5 (28, 29)) := ⟨_, rfl⟩
  have hb34 : Below w3.heap.size w3 w4 := by rw [hw4]; exact (Below.refl _ _).alloc (Nat.le_refl _) _
  have hs4 : SlB w4 (some ⟨w2.heap.size + 1, 0, none⟩) 28 28 wnt := by rw [hw4, ← hz3]; exact slB_new w3 5 (28, 29) wnt rfl (by decide)
  have hb24 : Below w2.heap.size w2 w4 := hb23.trans (hb34.mono hb23.size)
  have hj4 := hj.below hb34
  have hb4 : Below w.heap.size w w4 := hb2.trans (hb24.mono hb2.size)
  have hk4 := hk2.below (Nat.le_refl _) hb24
  go_wp2_with fail
  change Calls _ _ _ ((w2.alloc (.cells #[.int .u8 74, .int .u8 101, .int .u8 102, .int .u8 101] 5 (4, 5))).alloc (.cells (wnt.map fun z => Value.int .u8 (z : Nat)).toArray 5 (28, 29))) _
  rw [← hw3, ← hw4]
  clear hw3 hw4 kc2
  refine (mac_any _ 4 4 _ _ 28 28 _ w4 hj4 hs4 hk4 (by omega) (by omega)).mono ?_
  rintro e w5 ⟨rfl, hk5, hb45⟩
  have hb5 : Below w.heap.size w w5 := hb4.trans (hb45.mono hb4.size)
  obtain ⟨M, hM⟩ : ∃ M, M = macN [74, 101, 102, 101] wnt := ⟨_, rfl⟩
  have hMl : M.length = 32 := by rw [hM]; exact shaN_len _
  have hMb : ∀ i, M.getD i 0 < 256 := by rw [hM]; exact shaN_bnd _
  have hM4 : M.take 4 = [91, 220, 193, 70] := by rw [hM]; exact mac_jefe
  rw [← hM]
  clear hM hj hj4 hs4 hb23 hb34 hb24 hb45 hk4 hb2 hk2 hb4
  obtain ⟨mc, hmc⟩ : ∃ mc, mc = vals M := ⟨_, rfl⟩
  rw [← hmc]
  rw [← hac]
  have hacl : ac.length = 32 := by rw [hac]; simp [vals, hAl]
  have hmcl : mc.length = 32 := by rw [hmc]; simp [vals, hMl]
  have hone1 : ∀ u ∈ ac, u.oneCell' = true := by rw [hac]; exact vals_one _
  have hone2 : ∀ u ∈ mc, u.oneCell' = true := by rw [hmc]; exact vals_one _
  obtain ⟨w6, hw6⟩ : ∃ w6, w6 = w5.alloc (.cells z32 24) := ⟨_, rfl⟩
  have hz6 : w6.heap.size = w5.heap.size + 1 := by rw [hw6]; simp
  have hb56 : Below w5.heap.size w5 w6 := by rw [hw6]; exact (Below.refl _ _).alloc (Nat.le_refl _) _
  have hT6 := arr32_new w5 [] w6 hw6
  obtain ⟨w7, hw7⟩ : ∃ w7, w7 = w6.alloc (.cells z32 24) := ⟨_, rfl⟩
  have hb67 : Below w6.heap.size w6 w7 := by rw [hw7]; exact (Below.refl _ _).alloc (Nat.le_refl _) _
  have hU7 := arr32_new w6 [] w7 hw7
  have hT7 := hT6.below hb67
  have hthA : w7.there w5.heap.size 0 ac.toArray.size := by rw [show ac.toArray.size = 32 from hacl]; exact hT7.there
  have hiA : (Tryd.prog.info? 24).map (·.size) = some ac.toArray.size := by rw [show ac.toArray.size = 32 from hacl]; kernel_rfl
  have hiM : (Tryd.prog.info? 24).map (·.size) = some mc.toArray.size := by rw [show mc.toArray.size = 32 from hmcl]; kernel_rfl
  obtain ⟨w8, hw8⟩ : ∃ w8, w8 = w7.setCells w5.heap.size 0 ac := ⟨_, rfl⟩
  have hA8 : Arr8 w8 w5.heap.size w5.heap.size 32 A := by
    rw [hw8, hac]
    have := hT7.copied 0 A hAb (by rw [hAl]; omega)
    rwa [lay_full _ _ (by rw [outL_len, hAl])] at this
  have hU8 : Arr8 w8 w6.heap.size w6.heap.size 32 (outL [] 0) := by rw [hw8]; exact hU7.fr (Fr.setCells _ _ _ _) (by omega)
  have hthM : w8.there (w5.heap.size + 1) 0 mc.toArray.size := by rw [show mc.toArray.size = 32 from hmcl, ← hz6]; exact hU8.there
  obtain ⟨w9, hw9⟩ : ∃ w9, w9 = w8.setCells (w5.heap.size + 1) 0 mc := ⟨_, rfl⟩
  have hM9 : Arr8 w9 w6.heap.size w6.heap.size 32 M := by
    rw [hw9, hmc, ← hz6]
    have := hU8.copied 0 M hMb (by rw [hMl]; omega)
    rwa [lay_full _ _ (by rw [outL_len, hMl])] at this
  have hA9 : Arr8 w9 w5.heap.size w5.heap.size 32 A := by rw [hw9]; exact hA8.fr (Fr.setCells _ _ _ _) (by omega)
  have hb57 : Below w5.heap.size w5 w7 := hb56.trans (hb67.mono hb56.size)
  have hb58 : Below w5.heap.size w5 w8 := by rw [hw8]; exact Below.setCells hb57 _ _ _ (Nat.le_refl _)
  have hb59 : Below w5.heap.size w5 w9 := by rw [hw9]; exact Below.setCells hb58 _ _ _ (by omega)
  have hk9 := hk5.below (Nat.le_refl _) hb59
  have hb9 : Below w.heap.size w w9 := hb5.trans (hb59.mono hb5.size)
  have hsA := hA9.slB (by omega)
  have hsM := hM9.slB (by omega)
  rw [hz6] at hsM
  have hC : LvC w w5.heap.size (w5.heap.size + 1) A M w9 := ⟨hsA, hsM, hk9, hb9⟩
  have HALL : Hid (∀ w', LvC w w5.heap.size (w5.heap.size + 1) A M w' → _) := fun w' h => LvC.all h hA4 hM4
  have hthA' : ((w5.alloc (.cells z32 24)).alloc (.cells z32 24)).there w5.heap.size 0 ac.toArray.size := by rw [← hw6, ← hw7]; exact hthA
  clear hac hmc hT6 hT7 hU7 hU8 hA8 hM9 hb56 hb67 hb57 hb58 hb59 hA4 hM4 hAb hMb hk5 hb5 hA9 hthA hsA hsM hk9 hb9 hAl hMl
  go_wp2_with (first | (refine wpList_store_mid rfl 24 _ _ rfl w5.heap.size 0 ac.toArray rfl rfl hthA' hiA (all_oneCell_toArray hone1) ?_; change wpList _ _ _ _ _ (((w5.alloc (.cells z32 24)).alloc (.cells z32 24)).setCells w5.heap.size 0 ac); rw [← hw6, ← hw7, ← hw8]; clear hw6 hw7 hw8) | (refine wpList_store_mid rfl 24 _ _ rfl (w5.heap.size + 1) 0 mc.toArray rfl rfl hthM hiM (all_oneCell_toArray hone2) ?_; change wpList _ _ _ _ _ (w8.setCells (w5.heap.size + 1) 0 mc); rw [← hw9]; clear hw9))
  have hC1 : LvC w w5.heap.size (w5.heap.size + 1) A M w9.drew := hC.next (Below.refl _ _).drew
  obtain ⟨cv1, cv2, hC'⟩ := HALL.out _ hC1
  clear hC hC1 hthM hthA' hiA hiM hone1 hone2 hacl hmcl
  go_region_held3 (fun w' => (convert 22 9 (.slice (some ⟨w5.heap.size, 0, none⟩) 4 32)).run Tryd.prog w' = .ok (.string ⟨#[186, 120, 22, 191]⟩) w' ∧ (convert 22 9 (.slice (some ⟨w5.heap.size + 1, 0, none⟩) 4 32)).run Tryd.prog w' = .ok (.string ⟨#[91, 220, 193, 70]⟩) w' ∧ LvC w w5.heap.size (w5.heap.size + 1) A M w') (first | assumption | exact HALL.out _ (by assumption) | exact HALL.out _ (LvC.next (by assumption) (by assumption))) (first | (go_at_call 14; refine (same_self _ 32 32 A _ hC'.sA.1).mono ?_; rintro e wS ⟨rfl, hbS⟩))
  all_goals
    go_wp2
    go_ret
    exact ⟨rfl, (hC'.next hbS).kw, (hC'.next hbS).bel⟩
end Go.Proofs.YtdglclokjfinfaaDoor
