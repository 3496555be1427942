/- Keys in memory; what cookie.mayBe and Seal answer. -/
import Derived.Test.YtmikhnaffhheoaaDoorCkEa
import Derived.Test.YtmikhnaffhheoaaDoorCkLy
import Derived.Test.YtmikhnaffhheoaaDoorHSame
namespace Go.Proofs.YtmikhnaffhheoaaDoor
open Go.RowKit
/-- A row and an error are answered. -/
structure RowC (w : World) (L : List Nat) (er : Nat) (e : Ending) (w' : World) : Prop where
  row : ∃ a c, e = .returned (.tuple #[.slice a L.length c, .int .i64 (er : Nat)]) ∧ OwnB w' w.heap.size a L.length c L
  bel : Below w.heap.size w w'
/-- Keys in a block: the current secret, and the former one, if there is one. -/
structure Ky (w : World) (kp : Nat) (cur : List Nat) (fm : Option (List Nat)) : Prop where
  ex : ∃ a1 n1 c1 a2 n2 c2, Stc w kp [.slice a1 n1 c1, .slice a2 n2 c2, .bool fm.isSome] ∧ SlB w a1 n1 c1 cur ∧ SlB w a2 n2 c2 (fm.getD []) ∧ n1 ≤ 140737488355328 ∧ n2 ≤ 140737488355328 ∧ (∀ k, blkOf a1 n1 = some k → k ≠ kp) ∧ (∀ k, blkOf a2 n2 = some k → k ≠ kp)
theorem Ky.below {w w' : World} {kp : Nat} {cur : List Nat} {fm : Option (List Nat)} (h : Ky w kp cur fm) (hb : Below w.heap.size w w') : Ky w' kp cur fm := by
  obtain ⟨a1, n1, c1, a2, n2, c2, h1, h2, h3, h4⟩ := h.ex
  exact ⟨a1, n1, c1, a2, n2, c2, h1.below hb, h2.below hb, h3.below hb, h4⟩
theorem KW.next {w w' : World} (h : KW w) (hb : Below w.heap.size w w') : KW w' := h.below (Nat.le_refl _) hb
/-- May a cookie's times be? -/
def ckMay (made life : Int) : Bool := decide (0 ≤ made ∧ made ≤ 1099511627776 ∧ 0 ≤ life ∧ life ≤ 600)
set_option maxRecDepth 100000 in
set_option maxHeartbeats 1000000 in
theorem ckMay_any (made life : Int) (c : Ck) (w : World) :
    Calls Tryd.prog 18 #[.agg #[.int .i64 made, .int .i64 life, .int .u16 (c.port : Nat), .int .u16 (c.pport : Nat), .int .u32 (c.tag : Nat), .int .u32 (c.ptag : Nat), .int .u32 (c.tsn : Nat), .int .u32 (c.ptsn : Nat), .int .u32 (c.room : Nat), .int .u16 (c.outs : Nat), .int .u16 (c.ins : Nat), .int .u32 (c.addr : Nat), .int .u32 (c.other : Nat)]] w fun e w' => e = .returned (.bool (ckMay made life)) ∧ Below w.heap.size w w' := by
  have hb : Below w.heap.size w (w.alloc (.cells #[.int .i64 made, .int .i64 life, .int .u16 (c.port : Nat), .int .u16 (c.pport : Nat), .int .u32 (c.tag : Nat), .int .u32 (c.ptag : Nat), .int .u32 (c.tsn : Nat), .int .u32 (c.ptsn : Nat), .int .u32 (c.room : Nat), .int .u16 (c.outs : Nat), .int .u16 (c.ins : Nat), .int .u32 (c.addr : Nat), .int .u32 (c.other : Nat)] 39)) := (Below.refl _ _).alloc (Nat.le_refl _) _
  rcases (show made < 0 ∨ (0 ≤ made ∧ 1099511627776 < made) ∨ (0 ≤ made ∧ made ≤ 1099511627776 ∧ life < 0) ∨ (0 ≤ made ∧ made ≤ 1099511627776 ∧ 0 ≤ life ∧ 600 < life) ∨ (0 ≤ made ∧ made ≤ 1099511627776 ∧ 0 ≤ life ∧ life ≤ 600) by omega) with h | ⟨h, h2⟩ | ⟨h, h2, h3⟩ | ⟨h, h2, h3, h4⟩ | ⟨h, h2, h3, h4⟩
  · have HE : Hid (ckMay made life = false) := by show _ = _; unfold ckMay; exact decide_eq_false (by omega)
    go_enter Tryd.func18, Tryd.ntmps18
    go_wp2
    go_ret
    exact ⟨by rw [HE.out]; rfl, hb⟩
  · have HE : Hid (ckMay made life = false) := by show _ = _; unfold ckMay; exact decide_eq_false (by omega)
    go_enter Tryd.func18, Tryd.ntmps18
    go_wp2
    go_ret
    exact ⟨by rw [HE.out]; rfl, hb⟩
  · have HE : Hid (ckMay made life = false) := by show _ = _; unfold ckMay; exact decide_eq_false (by omega)
    go_enter Tryd.func18, Tryd.ntmps18
    go_wp2
    go_ret
    exact ⟨by rw [HE.out]; rfl, hb⟩
  · have HE : Hid (ckMay made life = false) := by show _ = _; unfold ckMay; exact decide_eq_false (by omega)
    have h5 : ¬ life ≤ 600 := by omega
    go_enter Tryd.func18, Tryd.ntmps18
    go_wp2
    go_ret
    exact ⟨by rw [HE.out]; first | rfl | simp [h5], hb⟩
  · have HE : Hid (ckMay made life = true) := by show _ = _; unfold ckMay; exact decide_eq_true ⟨h, h2, h3, h4⟩
    go_enter Tryd.func18, Tryd.ntmps18
    go_wp2
    go_ret
    exact ⟨by rw [HE.out]; first | rfl | simp [h4], hb⟩
theorem ps_len (c : Ck) : (lyB c.ps).length = 52 := by
  simp [lyB, Ck.ps, bytesB_len]
theorem ps_ok (c : Ck) (hc : c.ok) : ∀ p ∈ c.ps, p.1 < 256 ^ p.2 ∧ 1 ≤ p.2 := by
  obtain ⟨h0, h1, h2, h3, h4, h5, h6, h7, h8, h9, h10, h11, h12⟩ := hc
  intro p hp
  simp only [Ck.ps, List.mem_cons, List.not_mem_nil, or_false] at hp
  rcases hp with rfl | rfl | rfl | rfl | rfl | rfl | rfl | rfl | rfl | rfl | rfl | rfl | rfl | rfl <;> (refine ⟨?_, by simp⟩; simp only [Nat.reducePow]; omega)
/-- A sealed cookie's bytes. -/
def sealV (ks : List Nat) (c : Ck) : List Nat := lyB c.ps ++ macN ks (lyB c.ps)
theorem macN_len (k b : List Nat) : (macN k b).length = 32 := by unfold macN; exact shaN_len _
theorem macN_bnd (k b : List Nat) : ∀ i, (macN k b).getD i 0 < 256 := by unfold macN; exact shaN_bnd _
theorem sealV_len (ks : List Nat) (c : Ck) : (sealV ks c).length = 84 := by unfold sealV; rw [List.length_append, ps_len, macN_len]
set_option maxRecDepth 100000 in
set_option maxHeartbeats 2000000 in
theorem seal_no (kp : Nat) (made life : Int) (c : Ck) (w : World) (hno : ckMay made life = false) :
    Calls Tryd.prog 10 #[.pointer (some ⟨kp, 0, none⟩), .agg #[.int .i64 made, .int .i64 life, .int .u16 (c.port : Nat), .int .u16 (c.pport : Nat), .int .u32 (c.tag : Nat), .int .u32 (c.ptag : Nat), .int .u32 (c.tsn : Nat), .int .u32 (c.ptsn : Nat), .int .u32 (c.room : Nat), .int .u16 (c.outs : Nat), .int .u16 (c.ins : Nat), .int .u32 (c.addr : Nat), .int .u32 (c.other : Nat)]] w fun e w' => RowC w [] 6 e w' := by
  obtain ⟨W, hW⟩ : ∃ W, W = w.alloc (.cells #[.int .i64 made, .int .i64 life, .int .u16 (c.port : Nat), .int .u16 (c.pport : Nat), .int .u32 (c.tag : Nat), .int .u32 (c.ptag : Nat), .int .u32 (c.tsn : Nat), .int .u32 (c.ptsn : Nat), .int .u32 (c.room : Nat), .int .u16 (c.outs : Nat), .int .u16 (c.ins : Nat), .int .u32 (c.addr : Nat), .int .u32 (c.other : Nat)] 39) := ⟨_, rfl⟩
  have bW : Below w.heap.size w W := by rw [hW]; exact (Below.refl _ _).alloc (Nat.le_refl _) _
  have sP := Stc.new w [.int .i64 made, .int .i64 life, .int .u16 (c.port : Nat), .int .u16 (c.pport : Nat), .int .u32 (c.tag : Nat), .int .u32 (c.ptag : Nat), .int .u32 (c.tsn : Nat), .int .u32 (c.ptsn : Nat), .int .u32 (c.room : Nat), .int .u16 (c.outs : Nat), .int .u16 (c.ins : Nat), .int .u32 (c.addr : Nat), .int .u32 (c.other : Nat)] 39 W hW
  have hmy := ckMay_any made life c W
  rw [hno] at hmy
  have x0 := sP.cell 0 _ rfl
  have x1 := sP.cell 1 _ rfl
  have x2 := sP.cell 2 _ rfl
  have x3 := sP.cell 3 _ rfl
  have x4 := sP.cell 4 _ rfl
  have x5 := sP.cell 5 _ rfl
  have x6 := sP.cell 6 _ rfl
  have x7 := sP.cell 7 _ rfl
  have x8 := sP.cell 8 _ rfl
  have x9 := sP.cell 9 _ rfl
  have x10 := sP.cell 10 _ rfl
  have x11 := sP.cell 11 _ rfl
  have x12 := sP.cell 12 _ rfl
  go_enter Tryd.func10, Tryd.ntmps10
  go_wp2_with fail
  rw [← hW]
  clear hW
  refine hmy.mono ?_
  rintro e w1 ⟨rfl, b1⟩
  have b01 := bW.trans (b1.mono bW.size)
  clear x0 x1 x2 x3 x4 x5 x6 x7 x8 x9 x10 x11 x12 sP
  go_wp2
  go_ret2
  exact ⟨⟨none, 0, rfl, OwnB.nil _ _⟩, b01⟩
set_option maxRecDepth 100000 in
set_option maxHeartbeats 4000000 in
theorem seal_ok (kp : Nat) (cur : List Nat) (fm : Option (List Nat)) (c : Ck) (hc : c.ok) (w : World) (hk : Ky w kp cur fm) (hkw : KW w) :
    Calls Tryd.prog 10 #[.pointer (some ⟨kp, 0, none⟩), .agg #[.int .i64 (c.made : Nat), .int .i64 (c.life : Nat), .int .u16 (c.port : Nat), .int .u16 (c.pport : Nat), .int .u32 (c.tag : Nat), .int .u32 (c.ptag : Nat), .int .u32 (c.tsn : Nat), .int .u32 (c.ptsn : Nat), .int .u32 (c.room : Nat), .int .u16 (c.outs : Nat), .int .u16 (c.ins : Nat), .int .u32 (c.addr : Nat), .int .u32 (c.other : Nat)]] w fun e w' => RowC w (sealV cur c) 0 e w' := by
  obtain ⟨W, hW⟩ : ∃ W, W = w.alloc (.cells #[.int .i64 (c.made : Nat), .int .i64 (c.life : Nat), .int .u16 (c.port : Nat), .int .u16 (c.pport : Nat), .int .u32 (c.tag : Nat), .int .u32 (c.ptag : Nat), .int .u32 (c.tsn : Nat), .int .u32 (c.ptsn : Nat), .int .u32 (c.room : Nat), .int .u16 (c.outs : Nat), .int .u16 (c.ins : Nat), .int .u32 (c.addr : Nat), .int .u32 (c.other : Nat)] 39) := ⟨_, rfl⟩
  have bW : Below w.heap.size w W := by rw [hW]; exact (Below.refl _ _).alloc (Nat.le_refl _) _
  have sP := Stc.new w [.int .i64 (c.made : Nat), .int .i64 (c.life : Nat), .int .u16 (c.port : Nat), .int .u16 (c.pport : Nat), .int .u32 (c.tag : Nat), .int .u32 (c.ptag : Nat), .int .u32 (c.tsn : Nat), .int .u32 (c.ptsn : Nat), .int .u32 (c.room : Nat), .int .u16 (c.outs : Nat), .int .u16 (c.ins : Nat), .int .u32 (c.addr : Nat), .int .u32 (c.other : Nat)] 39 W hW
  have hmy := ckMay_any (c.made : Int) (c.life : Int) c W
  rw [show ckMay (c.made : Int) (c.life : Int) = true from decide_eq_true ⟨by omega, by have := hc.made; omega, by omega, by have := hc.life; omega⟩] at hmy
  have HPS := (show Hid _ from ps_len c)
  have HOK := (show Hid _ from ps_ok c hc)
  have HSV : Hid (sealV cur c = lyB c.ps ++ macN cur (lyB c.ps)) := rfl
  have hea := fun nb W h1 h2 h3 => eachL_any c hc nb W h1 h2 h3
  have hm := hmf
  have x0 := sP.cell 0 _ rfl
  have x1 := sP.cell 1 _ rfl
  have x2 := sP.cell 2 _ rfl
  have x3 := sP.cell 3 _ rfl
  have x4 := sP.cell 4 _ rfl
  have x5 := sP.cell 5 _ rfl
  have x6 := sP.cell 6 _ rfl
  have x7 := sP.cell 7 _ rfl
  have x8 := sP.cell 8 _ rfl
  have x9 := sP.cell 9 _ rfl
  have x10 := sP.cell 10 _ rfl
  have x11 := sP.cell 11 _ rfl
  have x12 := sP.cell 12 _ rfl
  go_enter Tryd.func10, Tryd.ntmps10
  go_wp2_with fail
  rw [← hW]
  clear hW
  refine hmy.mono ?_
  rintro e w1 ⟨rfl, b1⟩
  have sP1 := sP.below b1
  have b01 := bW.trans (b1.mono bW.size)
  clear x0 x1 x2 x3 x4 x5 x6 x7 x8 x9 x10 x11 x12 sP bW b1 hmy
  obtain ⟨w2, hw2⟩ : ∃ W, W = w1.alloc (.cells #[.slice none 0 0] 58) := ⟨_, rfl⟩
  have b12 : Below w1.heap.size w1 w2 := by rw [hw2]; exact (Below.refl _ _).alloc (Nat.le_refl _) _
  have sN := Stc.new w1 [.slice none 0 0] 58 w2 hw2
  have hlq : w.heap.size < w1.heap.size := sP1.lt
  have x0 := sP1.cell 0 _ rfl
  have x1 := sP1.cell 1 _ rfl
  have x2 := sP1.cell 2 _ rfl
  have x3 := sP1.cell 3 _ rfl
  have x4 := sP1.cell 4 _ rfl
  have x5 := sP1.cell 5 _ rfl
  have x6 := sP1.cell 6 _ rfl
  have x7 := sP1.cell 7 _ rfl
  have x8 := sP1.cell 8 _ rfl
  have x9 := sP1.cell 9 _ rfl
  have x10 := sP1.cell 10 _ rfl
  have x11 := sP1.cell 11 _ rfl
  have x12 := sP1.cell 12 _ rfl
  have b02 := b01.trans (b12.mono b01.size)
  have he2 := hea w1.heap.size w2 sN.lt (sN.cell 0 _ rfl) (sN.free 0)
  clear hea sN b12
  go_wp2_with fail
  rw [← hw2]
  clear hw2 x0 x1 x2 x3 x4 x5 x6 x7 x8 x9 x10 x11 x12 sP1
  refine he2.mono ?_
  rintro e w3 ⟨⟨v3, rfl⟩, ⟨a3, c3, hc3, o3⟩, hf3, fr3⟩
  have b03 : Below w.heap.size w w3 := b02.trans (fr3.below w.heap.size b02.size (fun k e => by rcases e with e | e; omega; have := b02.size; omega))
  have HPL : Hid (c.ps.length = 14) := rfl
  rw [HPL.out] at hc3 o3
  have hly := layC_any w2.heap.size a3 14 c3 c.ps w3 o3 HOK.out (by omega)
  rw [HPS.out] at hly
  obtain ⟨BD, hBD⟩ : ∃ L, L = lyB c.ps := ⟨_, rfl⟩
  rw [← hBD] at hly HSV HPS
  clear hBD fr3 hf3 he2 o3 HOK b01 b02
  go_wp2_with fail
  refine hly.mono ?_
  rintro e w4 ⟨a4, c4, rfl, o4, b4⟩
  have b04 : Below w.heap.size w w4 := b03.trans (b4.mono b03.size)
  have z34 := b4.size
  have z03 := b03.size
  obtain ⟨a1, n1, c1, a2, n2, c2, k1, k2, _, k4, _⟩ := (hk.below b04).ex
  have kc := k1.cell 0 _ rfl
  have hkw4 := hkw.next b04
  have hmac := mac_any a1 n1 c1 cur a4 52 c4 BD w4 k2 (slB_of (o4.sl (by omega))) hkw4 (by omega) (by omega)
  obtain ⟨M, hM⟩ : ∃ M, M = macN cur BD := ⟨_, rfl⟩
  rw [← hM] at hmac HSV
  have hMl : M.length = 32 := by rw [hM]; exact macN_len _ _
  have hMb : ∀ i, M.getD i 0 < 256 := by rw [hM]; exact macN_bnd _ _
  clear hM hly hc3 b4 b03 hk hkw
  go_wp2_with fail
  refine hmac.mono ?_
  rintro e w5 ⟨rfl, hkw5, b5⟩
  obtain ⟨mc, hmc⟩ : ∃ mc, mc = vals M := ⟨_, rfl⟩
  rw [← hmc]
  have hmcl : mc.length = 32 := by rw [hmc]; simp [vals, hMl]
  have hone : ∀ u ∈ mc, u.oneCell' = true := by rw [hmc]; exact vals_one _
  have hbB : Below w5.heap.size w5 (w5.alloc (.cells z32 66)) := (Below.refl _ _).alloc (Nat.le_refl _) _
  have hTB := arr32_new w5 [] (w5.alloc (.cells z32 66)) rfl
  have hthB : (w5.alloc (.cells z32 66)).there w5.heap.size 0 mc.toArray.size := by rw [show mc.toArray.size = 32 from hmcl]; exact hTB.there
  have hi32 : (Tryd.prog.info? 66).map (·.size) = some mc.toArray.size := by rw [show mc.toArray.size = 32 from hmcl]; kernel_rfl
  obtain ⟨w6, hw6⟩ : ∃ w6, w6 = (w5.alloc (.cells z32 66)).setCells w5.heap.size 0 mc := ⟨_, rfl⟩
  have hM6 : Arr8 w6 w5.heap.size w5.heap.size 32 M := by
    rw [hw6, hmc]
    have := hTB.copied 0 M hMb (by rw [hMl]; omega)
    rwa [lay_full _ _ (by rw [outL_len, hMl])] at this
  have b56 : Below w5.heap.size w5 w6 := by rw [hw6]; exact Below.setCells hbB _ _ _ (Nat.le_refl _)
  have b46 : Below w4.heap.size w4 w6 := b5.trans (b56.mono b5.size)
  have o6 := o4.below b46
  have b06 : Below w.heap.size w w6 := b04.trans (b46.mono b04.size)
  have sM6 := (hM6.slB (by omega)).1
  have z46 := b46.size
  have HB6 := (show Hid _ from b06)
  have hBB : w3.heap.size ≤ w6.heap.size := by omega
  clear hmc hTB hbB hkw5 b5 b56 b46 b06 b04 o4 kc k1 k2 k4 hM6 hMb hkw4 hmac
  go_wp2_with (first
    | (refine wpList_store_mid rfl 66 _ _ rfl w5.heap.size 0 mc.toArray rfl rfl hthB hi32 (all_oneCell_toArray hone) ?_; change wpList _ _ _ _ _ ((w5.alloc (.cells z32 66)).setCells w5.heap.size 0 mc); rw [← hw6]; clear hw6)
    | (at_builtin; go_must (refine app_list rfl _ _ rfl w3.heap.size a4 52 c4 BD rfl o6 _ 32 32 M rfl sM6 (by omega) hBB ?_)))
  intro a7 c7 w7 o7 g7
  have HB7 := (show Hid _ from HB6.out.trans ((o6.up g7 hBB).mono z03))
  have o8 := o7.base z03
  clear o6 sM6 g7 o7 hthB hi32 hone
  go_wp2
  go_ret2
  have hL : (BD ++ M).length = 52 + 32 := by rw [List.length_append, HPS.out, hMl]
  refine ⟨⟨a7, c7, ?_, ?_⟩, HB7.out⟩
  · rw [HSV.out, hL]; rfl
  · rw [HSV.out, hL]; exact o8
end Go.Proofs.YtmikhnaffhheoaaDoor
