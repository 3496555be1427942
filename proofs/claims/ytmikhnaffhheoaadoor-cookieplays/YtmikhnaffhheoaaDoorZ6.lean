/- What law06's pair.open answers: true. -/
import Derived.Test.YtmikhnaffhheoaaDoorZ1
import Derived.Test.YtmikhnaffhheoaaDoorZ2
import Derived.Test.YtmikhnaffhheoaaDoorCkOp
import Derived.Test.YtmikhnaffhheoaaDoorZ3
import Derived.Test.YtmikhnaffhheoaaDoorZ5
import Derived.Deep.RegionHeld3
namespace Go.Proofs.YtmikhnaffhheoaaDoor
open Go.RowKit
/-- Has one of the last two secrets of a list sealed it? -/
def goodV (L : List (List Nat)) (m : Nat) (bs ss : List Nat) : Nat → Bool
  | 0 => false
  | i + 1 => goodV L m bs ss i || (decide (m ≤ i + 2) && decide (macN (L.getD i []) bs = ss))
theorem numV_take (zs : List Nat) (p k n : Nat) (h : p + k ≤ n) (hn : n ≤ zs.length) : numV (zs.take n) (p : Int) (k : Int) = numV zs (p : Int) (k : Int) := by
  have hl : (zs.take n).length = n := by rw [List.length_take]; omega
  have e1 : nspanE n (p : Int) (k : Int) = nspanE zs.length (p : Int) (k : Int) := by
    have e2 : spanE n (p : Int) (k : Int) = spanE zs.length (p : Int) (k : Int) := by unfold spanE; rw [if_neg (by omega), if_neg (by omega), if_neg (by omega), if_neg (by omega)]
    unfold nspanE; rw [e2]
  unfold numV
  rw [hl, e1, Int.toNat_natCast, Int.toNat_natCast]
  have e3 : ((zs.take n).drop p).take k = (zs.drop p).take k := by rw [List.drop_take, List.take_take, Nat.min_eq_left (by omega)]
  rw [e3]
theorem strOf_neC {A B : List Nat} (hA : ∀ i, A.getD i 0 < 256) (hB : ∀ i, B.getD i 0 < 256) (h : ¬ A = B) : ((strOf A).toList == (strOf B).toList) = false := by
  have inj : ∀ (A B : List Nat), (∀ i, A.getD i 0 < 256) → (∀ i, B.getD i 0 < 256) → A.map UInt8.ofNat = B.map UInt8.ofNat → A = B := by
    intro A
    induction A with
    | nil => intro B _ _ h; cases B; rfl; cases h
    | cons x A ih =>
      intro B hA hB h
      cases B with
      | nil => cases h
      | cons y B =>
        injection h with h1 h2
        have hx := hA 0
        have hy := hB 0
        simp only [List.getD_cons_zero] at hx hy
        have e := congrArg UInt8.toNat h1
        rw [UInt8.toNat_ofNat', UInt8.toNat_ofNat', Nat.mod_eq_of_lt hx, Nat.mod_eq_of_lt hy] at e
        rw [e, ih B (fun i => hA (i + 1)) (fun i => hB (i + 1)) h2]
  cases e : ((strOf A).toList == (strOf B).toList) with
  | false => rfl
  | true =>
    have e1 := eq_of_beq e
    rw [Lib.toList_data, Lib.toList_data] at e1
    exact absurd (inj A B hA hB (by simpa [strOf] using e1)) h
set_option maxRecDepth 100000 in
set_option maxHeartbeats 40000000 in
theorem ropen_any (kp : Nat) (rs : List Sec) (cur : List Nat) (fm : Option (List Nat)) (a : Option Addr) (n c : Nat) (zs : List Nat) (now : Int) (w : World) (hk : RKy w kp rs) (hs : Sl w a n c zs) (hgd : Hid (∀ bs ss, goodV (rs.map (·.zs)) rs.length bs ss rs.length = sealedV cur fm bs ss)) :
    Calls Tryd.prog 29 #[.pointer (some ⟨kp, 0, none⟩), .slice a n c, .int .i64 now] w fun e w' => OpP (opE cur fm zs now) (zs.take 52) w e w' := by
  have hl := hs.len
  have hb0 : Below w.heap.size w (w.alloc (.cells #[.int .i64 0, .int .i64 0, .int .u16 0, .int .u16 0, .int .u32 0, .int .u32 0, .int .u32 0, .int .u32 0, .int .u32 0, .int .u16 0, .int .u16 0, .int .u32 0, .int .u32 0] 39)) := (Below.refl _ _).alloc (Nat.le_refl _) _
  have hR0 := Stc.new w [.int .i64 0, .int .i64 0, .int .u16 0, .int .u16 0, .int .u32 0, .int .u32 0, .int .u32 0, .int .u32 0, .int .u32 0, .int .u16 0, .int .u16 0, .int .u32 0, .int .u32 0] 39 (w.alloc (.cells #[.int .i64 0, .int .i64 0, .int .u16 0, .int .u16 0, .int .u32 0, .int .u32 0, .int .u32 0, .int .u32 0, .int .u32 0, .int .u16 0, .int .u16 0, .int .u32 0, .int .u32 0] 39)) rfl
  by_cases h1 : now < 0 ∨ 1099511627776 < now
  · have HE : Hid (opE cur fm zs now = 2) := by show _ = _; unfold opE; rw [if_pos h1]
    have HRG := (show Hid _ from hR0.range)
    have HBB := (show Hid _ from hb0)
    clear hR0 hb0
    rcases (show now < 0 ∨ (¬ now < 0 ∧ 1099511627776 < now) by omega) with h2 | ⟨h2, h3⟩
    all_goals
      clear h1
      go_enter Tryd.func29, Tryd.ntmps29
      go_wp2
      try simp only [Exit.inBlock, Exit.then]
      refine bodyPost_ret (results_cellE2 rfl _ _ w.heap.size 0 [.int .i64 0, .int .i64 0, .int .u16 0, .int .u16 0, .int .u32 0, .int .u32 0, .int .u32 0, .int .u32 0, .int .u32 0, .int .u16 0, .int .u16 0, .int .u32 0, .int .u32 0] _ rfl HRG.out Tryd.underlying39 rfl (by kernel_rfl)) rfl ?_
      exact ⟨.inr ⟨by rw [HE.out]; decide, by rw [HE.out]; rfl⟩, HBB.out⟩
  have hn1 : ¬ now < 0 := by omega
  have hn2 : ¬ 1099511627776 < now := by omega
  have HE1 : Hid (opE cur fm zs now = if zs.length ≠ 84 then 4 else opB cur fm zs now) := by show _ = _; unfold opE; rw [if_neg h1]
  clear h1
  by_cases h84 : n = 84
  case neg =>
    have HE : Hid (opE cur fm zs now = 4) := by show _ = _; rw [HE1.out, if_pos (by omega)]
    have h84b : ((n : Int) != 84) = true := by simp; omega
    have HRG := (show Hid _ from hR0.range)
    have HBB := (show Hid _ from hb0)
    clear hR0 hb0
    go_enter Tryd.func29, Tryd.ntmps29
    go_wp2
    try simp only [Exit.inBlock, Exit.then]
    refine bodyPost_ret (results_cellE2 rfl _ _ w.heap.size 0 [.int .i64 0, .int .i64 0, .int .u16 0, .int .u16 0, .int .u32 0, .int .u32 0, .int .u32 0, .int .u32 0, .int .u32 0, .int .u16 0, .int .u16 0, .int .u32 0, .int .u32 0] _ rfl HRG.out Tryd.underlying39 rfl (by kernel_rfl)) rfl ?_
    exact ⟨.inr ⟨by rw [HE.out]; decide, by rw [HE.out]; rfl⟩, HBB.out⟩
  case pos =>
  subst h84
  clear hb0 hR0
  have HE2 : Hid (opE cur fm zs now = opB cur fm zs now) := by show _ = _; rw [HE1.out, if_neg (by omega)]
  clear HE1
  obtain ⟨g, m, d, s1, hlen, hm, hg, hd, hcells⟩ := hk.at_
  have y0 := s1.cell 0 _ rfl
  have hkl := s1.lt
  have HEACH := (show Hid _ from hk.each)
  have HCS := (show Hid _ from hcells)
  have HS0 := (show Hid _ from hs)
  have hcap := hs.cap
  rcases hs.at_ with h00 | ⟨gb, off, rfl, hltb, hcellw⟩
  · omega
  clear hcellw
  have hst := fun w => slice_to (some ⟨gb, off, none⟩) 84 c 52 (by omega) w
  obtain ⟨bs, hbs⟩ : ∃ bs, bs = zs.take 52 := ⟨_, rfl⟩
  obtain ⟨ss, hss⟩ : ∃ ss, ss = zs.drop 52 := ⟨_, rfl⟩
  have HBS := (show Hid _ from hbs)
  have HSS := (show Hid _ from hss)
  obtain ⟨L, hL⟩ : ∃ L, L = rs.map (·.zs) := ⟨_, rfl⟩
  have HL := (show Hid _ from hL)
  clear hbs hss hL hcells
  have hT : ∀ W, Below w.heap.size w W → Sl W (some ⟨gb, off, none⟩) 52 c bs := fun W hb => by rw [HBS.out]; exact (HS0.out.below hb).takeE 52 (by omega) (by omega)
  have hD : ∀ W, Below w.heap.size w W → Sl W (some ⟨gb, off + 52, none⟩) 32 (c - 52) ss := fun W hb => by rw [HSS.out]; exact (HS0.out.below hb).dropE 52 (by omega) _ (fun _ => rfl)
  have HT := (show Hid _ from hT)
  have HDD := (show Hid _ from hD)
  clear hT hD
  obtain ⟨W0, hW0⟩ : ∃ W0, W0 = w.alloc (.cells #[.int .i64 0, .int .i64 0, .int .u16 0, .int .u16 0, .int .u32 0, .int .u32 0, .int .u32 0, .int .u32 0, .int .u32 0, .int .u16 0, .int .u16 0, .int .u32 0, .int .u32 0] 39) := ⟨_, rfl⟩
  have hb0 : Below w.heap.size w W0 := by rw [hW0]; exact (Below.refl _ _).alloc (Nat.le_refl _) _
  have hR0 := Stc.new w [.int .i64 0, .int .i64 0, .int .u16 0, .int .u16 0, .int .u32 0, .int .u32 0, .int .u32 0, .int .u32 0, .int .u32 0, .int .u16 0, .int .u16 0, .int .u32 0, .int .u32 0] 39 W0 hW0
  have HR0 := (show Hid _ from hR0)
  have y0W := (hb0.cell (p := ⟨kp, 0, none⟩) hkl).trans y0
  have hz0 := hb0.size
  clear hR0 hs
  go_enter Tryd.func29, Tryd.ntmps29
  go_wp2_with fail
  rw [← hW0]
  clear hW0 y0W
  go_loopw [8, 9] (fun gv iv wr => ∃ (i : Nat) (G : Bool), i ≤ m ∧ iv = .int .i64 i ∧ gv = .bool G ∧ Hid (G = goodV L m bs ss i) ∧ Below W0.heap.size W0 wr) (fun _ iv _ => m - (intOf iv).toNat)
  case atStart => exact ⟨0, false, by omega, rfl, rfl, rfl, Below.refl _ _⟩
  case round =>
    obtain ⟨i, G, hi, rfl, rfl, HG, hbel⟩ := hrel
    have b0r : Below w.heap.size w wr := hb0.trans (hbel.mono hb0.size)
    have yr := (b0r.cell (p := ⟨kp, 0, none⟩) hkl).trans y0
    by_cases him : i < m
    · obtain ⟨x, hx⟩ : ∃ x, rs[i]? = some x := ⟨_, List.getElem?_eq_getElem (by omega)⟩
      have hxm := List.mem_of_getElem? hx
      have hcx := HCS.out i x hx
      have hxe := HEACH.out x hxm
      have hLx : Hid (L.getD i [] = x.zs) := by show _ = _; rw [HL.out]; simp [hx]
      have hGs : Hid (goodV L m bs ss (i + 1) = (goodV L m bs ss i || (decide (m ≤ i + 2) && decide (macN x.zs bs = ss)))) := by show _ = _; rw [← hLx.out]; rfl
      have bd : Below wr.heap.size wr wr.drew := (Below.refl _ _).drew
      have bwd : Below w.heap.size w wr.drew := b0r.trans (bd.mono b0r.size)
      have hgr : g < wr.heap.size := Nat.lt_of_lt_of_le hg b0r.size
      have hkr : kp < wr.heap.size := Nat.lt_of_lt_of_le hkl b0r.size
      have cgr := (b0r.cell (p := ⟨g, i, none⟩) hg).trans hcx
      have HSW : Hid (∀ w', Below wr.heap.size wr w' → w'.cell? ⟨kp, 0, none⟩ = some (.slice (some ⟨g, 0, none⟩) m d) ∧ w'.cell? ⟨g, i, none⟩ = some (.slice x.a x.n x.c)) := fun w' hb => ⟨(hb.cell (p := ⟨kp, 0, none⟩) hkr).trans yr, (hb.cell (p := ⟨g, i, none⟩) hgr).trans cgr⟩
      have hmac0 := fun W (hb : Below w.heap.size w W) => rmac_any x.a x.n x.c x.zs (some ⟨gb, off, none⟩) 52 c bs W (hxe.1.below hb) (HT.out W hb) (by have := hxe.2.1; omega) (by omega)
      obtain ⟨M, hM⟩ : ∃ M, M = macN x.zs bs := ⟨_, rfl⟩
      rw [← hM] at hmac0 hGs
      have hMl : M.length = 32 := by rw [hM]; exact macN_len _ _
      have hMb : ∀ i, M.getD i 0 < 256 := by rw [hM]; exact macN_bnd _ _
      obtain ⟨mc, hmc⟩ : ∃ mc, mc = vals M := ⟨_, rfl⟩
      rw [← hmc] at hmac0
      have hmcl : mc.length = 32 := by rw [hmc]; simp [vals, hMl]
      have hone : ∀ u ∈ mc, u.oneCell' = true := by rw [hmc]; exact vals_one _
      have HMC := (show Hid _ from hmc)
      have HMA := (show Hid _ from hmac0)
      have hi32 : (Tryd.prog.info? 66).map (·.size) = some mc.toArray.size := by rw [show mc.toArray.size = 32 from hmcl]; kernel_rfl
      have hmac := hmac0 wr.drew bwd
      have ii2 : (i : Int) < (m : Int) := by omega
      have ij0 : (0 : Int) ≤ (i : Int) := by omega
      have hc52 : (52 : Int) ≤ (c : Int) := by omega
      have hc52' : 52 ≤ c := by omega
      have hcne : ¬ c = 52 := by omega
      clear hM hmc hmac0 hx hxm hcx cgr hLx
      go_wp2_with fail
      refine wp_region_held_drew (S := (fun w' => w'.cell? ⟨kp, 0, none⟩ = some (.slice (some ⟨g, 0, none⟩) m d) ∧ w'.cell? ⟨g, i, none⟩ = some (.slice x.a x.n x.c))) (by kernel_rfl) ?rhS (fun hHeld => ?_)
      case rhS => (first | with_reducible exact HSW.out _ bd)
      refine wpAnyH_take (i := 0) (v := ?rv0) (by simp only [List.getElem?_toArray, List.getElem?_cons_zero]; rfl) (by kernel_rfl) (by kernel_rfl) (by kernel_rfl) (by exact fun _ _ _ h => h) (Or.inl ⟨by rfl, ?rhy0⟩) (by assumption) ?rrest0
      case rhy0 => (intro w hSw; (try dsimp only at hSw); go_simp; try with_reducible rfl)
      try simp only [Act.put, List.setIfInBounds_toArray, List.set_cons_zero, List.set_cons_succ]
      refine wpAnyH_take (i := 1) (v := ?rv1) (by simp only [List.getElem?_toArray, List.getElem?_cons_succ, List.getElem?_cons_zero]; rfl) (by kernel_rfl) (by kernel_rfl) (by kernel_rfl) (by exact fun _ _ _ h => h) (Or.inl ⟨by rfl, ?rhy1⟩) (by assumption) ?rrest1
      case rhy1 => (intro w hSw; (try dsimp only at hSw); go_simp; try with_reducible rfl)
      try simp only [Act.put, List.setIfInBounds_toArray, List.set_cons_zero, List.set_cons_succ]
      refine wpAnyH_take (i := 2) (v := ?rv2) (by simp only [List.getElem?_toArray, List.getElem?_cons_succ, List.getElem?_cons_zero]; rfl) (by kernel_rfl) (by kernel_rfl) (by kernel_rfl) (by exact fun _ _ _ h => h) (Or.inl ⟨by rfl, ?rhy2⟩) (by assumption) ?rrest2
      case rhy2 => (intro w hSw; (try dsimp only at hSw); go_simp; try with_reducible rfl)
      try simp only [Act.put, List.setIfInBounds_toArray, List.set_cons_zero, List.set_cons_succ]
      refine wpAnyH_take (i := 3) (v := ?rv3) (by simp only [List.getElem?_toArray, List.getElem?_cons_succ, List.getElem?_cons_zero]; rfl) (by kernel_rfl) (by kernel_rfl) (by kernel_rfl) (by exact fun _ _ _ h => h) (Or.inl ⟨by rfl, ?rhy3⟩) (by assumption) ?rrest3
      case rhy3 => (intro w hSw; (try dsimp only at hSw); go_simp; try with_reducible rfl)
      try simp only [Act.put, List.setIfInBounds_toArray, List.set_cons_zero, List.set_cons_succ]
      refine wpAnyH_take (i := 4) (v := ?rv4) (by simp only [List.getElem?_toArray, List.getElem?_cons_succ, List.getElem?_cons_zero]; rfl) (by kernel_rfl) (by kernel_rfl) (by kernel_rfl) (by exact fun _ _ _ h => h) (Or.inl ⟨by rfl, ?rhy4⟩) (by assumption) ?rrest4
      case rhy4 => (intro w hSw; (try dsimp only at hSw); go_simp; try with_reducible rfl)
      try simp only [Act.put, List.setIfInBounds_toArray, List.set_cons_zero, List.set_cons_succ]
      refine wpAnyH_take (i := 5) (v := ?rv5) (by simp only [List.getElem?_toArray, List.getElem?_cons_succ, List.getElem?_cons_zero]; rfl) (by kernel_rfl) (by kernel_rfl) (by kernel_rfl) (by exact fun _ _ _ h => h) (Or.inl ⟨by rfl, ?rhy5⟩) (by assumption) ?rrest5
      case rhy5 => (intro w hSw; (try dsimp only at hSw); go_simp; try with_reducible rfl)
      try simp only [Act.put, List.setIfInBounds_toArray, List.set_cons_zero, List.set_cons_succ]
      refine wpAnyH_take (i := 6) (v := ?rv6) (by simp only [List.getElem?_toArray, List.getElem?_cons_succ, List.getElem?_cons_zero]; rfl) (by kernel_rfl) (by kernel_rfl) (by kernel_rfl) (by exact fun _ _ _ h => h) (Or.inl ⟨by rfl, ?rhy6⟩) (by assumption) ?rrest6
      case rhy6 => (intro w hSw; (try dsimp only at hSw); go_simp; try with_reducible rfl)
      try simp only [Act.put, List.setIfInBounds_toArray, List.set_cons_zero, List.set_cons_succ]
      refine wpAnyH_take (i := 7) (v := ?rv7) (by simp only [List.getElem?_toArray, List.getElem?_cons_succ, List.getElem?_cons_zero]; rfl) (by kernel_rfl) (by kernel_rfl) (by kernel_rfl) (by exact fun _ _ _ h => h) (Or.inl ⟨by rfl, ?rhy7⟩) (by assumption) ?rrest7
      case rhy7 => (intro w hSw; (try dsimp only at hSw); go_simp; try with_reducible rfl)
      try simp only [Act.put, List.setIfInBounds_toArray, List.set_cons_zero, List.set_cons_succ]
      refine wpAnyH_take (i := 8) (v := ?rv8) (by simp only [List.getElem?_toArray, List.getElem?_cons_succ, List.getElem?_cons_zero]; rfl) (by kernel_rfl) (by kernel_rfl) (by kernel_rfl) (by exact fun _ _ _ h => h) (Or.inl ⟨by rfl, ?rhy8⟩) (by assumption) ?rrest8
      case rhy8 => (intro w hSw; (try dsimp only at hSw); go_simp; try with_reducible rfl)
      try simp only [Act.put, List.setIfInBounds_toArray, List.set_cons_zero, List.set_cons_succ]
      refine wpAnyH_ready (rs := [9, 10]) (by kernel_rfl) (by simp) ?_
      refine AllReadyH.cons rfl (fun K hK => ?wayA) (AllReadyH.cons rfl (fun K hK => ?wayB) AllReadyH.nil)
      case wayA =>
        go_simp
        refine hmac.mono ?_
        rintro e w3 ⟨rfl, b3'⟩
        have b3 : Below wr.heap.size wr w3 := bd.trans b3'
        have hTB := arr32_new w3 [] (w3.alloc (.cells z32 66)) rfl
        have hthB : (w3.alloc (.cells z32 66)).there w3.heap.size 0 mc.toArray.size := by rw [show mc.toArray.size = 32 from hmcl]; exact hTB.there
        have bA : Below wr.heap.size wr (w3.alloc (.cells z32 66)) := b3.alloc b3.size _
        obtain ⟨w6, hw6⟩ : ∃ w6, w6 = (w3.alloc (.cells z32 66)).setCells w3.heap.size 0 mc := ⟨_, rfl⟩
        have hM6 : Arr8 w6 w3.heap.size w3.heap.size 32 M := by
          rw [hw6, HMC.out]
          have := hTB.copied 0 M hMb (by rw [hMl]; omega)
          rwa [lay_full _ _ (by rw [outL_len, hMl])] at this
        have b26 : Below wr.heap.size wr w6 := by rw [hw6]; exact Below.setCells bA _ _ _ b3.size
        try go_wp2_with fail
        refine hK.out _ _ (HSW.out _ b3) (fun hHeld2 => ?_)
        clear hK K
        refine wpAnyH_ready (rs := [10]) (by kernel_rfl) (by simp) ?_
        refine AllReadyH.cons rfl (fun K hK => ?_) AllReadyH.nil
        go_simp
        change K _ (w3.alloc (.cells z32 66))
        refine hK.out _ _ (HSW.out _ bA) (fun hHeld3 => ?_)
        clear hK K
        refine wpAnyH_ready (rs := [11]) (by kernel_rfl) (by simp) ?_
        refine AllReadyH.cons rfl (fun K hK => ?_) AllReadyH.nil
        rw [if_pos (by kernel_rfl)]
        refine wp_store_mid 66 (.tmp 10) (.tmp 44) rfl w3.heap.size 0 mc.toArray rfl rfl hthB hi32 (all_oneCell_toArray hone) ?_
        change K (Act.put _ none undef) ((w3.alloc (.cells z32 66)).setCells w3.heap.size 0 mc)
        simp only [Act.put]
        rw [← hw6]
        clear hw6
        refine hK.out _ _ (HSW.out _ b26) (fun hHeld4 => ?_)
        clear hK K
        refine wpAnyH_done (by kernel_rfl) ?_ _
        obtain ⟨ab, hab⟩ : ∃ ab, ab = w3.heap.size := ⟨_, rfl⟩
        rw [← hab] at hM6 ⊢
        have habl : wr.heap.size ≤ ab := by rw [hab]; exact b3.size
        have sM6 := (hM6.slB (by omega)).1
        clear hTB bA b3 b3' hHeld hHeld2 hHeld3 hHeld4 hM6 hMb hmac HMC HMA hab hthB hi32 hone
        have b06 : Below w.heap.size w w6 := b0r.trans (b26.mono b0r.size)
        have bW6 : Below W0.heap.size W0 w6 := hbel.trans (b26.mono hbel.size)
        have hsS := HDD.out w6 b06
        obtain ⟨X1, hX1⟩ : ∃ X, X = strOf M := ⟨_, rfl⟩
        obtain ⟨X2, hX2⟩ : ∃ X, X = strOf ss := ⟨_, rfl⟩
        have b6d : Below w6.heap.size w6 w6.drew := (Below.refl _ _).drew
        have HALL : Hid (∀ w', Below w6.heap.size w6 w' → w'.cell? ⟨kp, 0, none⟩ = some (.slice (some ⟨g, 0, none⟩) m d) ∧ (convert 22 9 (.slice (some ⟨ab, 0, none⟩) 32 32)).run Tryd.prog w' = .ok (.string X1) w' ∧ (convert 22 9 (.slice (some ⟨gb, off + 52, none⟩) 32 (c - 52))).run Tryd.prog w' = .ok (.string X2) w') := fun w' hb => ⟨(HSW.out w' (b26.trans (hb.mono b26.size))).1, by rw [hX1]; exact conv_str (sM6.below hb), by rw [hX2]; exact conv_str (hsS.below hb)⟩
        obtain ⟨D, hD⟩ : ∃ D, D = decide (M = ss) := ⟨_, rfl⟩
        have hXD : (X1.toList == X2.toList) = D := by
          rw [hD, hX1, hX2]
          by_cases h : M = ss
          · rw [h]; simp
          · rw [decide_eq_false h]; exact strOf_neC sM6.bnd hsS.bnd h
        rw [← hD] at hGs
        have wmi : IntKind.i64.wrap ((m : Int) - (i : Int)) = (m : Int) - (i : Int) := by rw [IntKind.wrap_i64]; omega
        have HMI : Hid (i < m) := him
        have bW7 : Below W0.heap.size W0 w6.drew := bW6.trans (b6d.mono bW6.size)
        clear hX1 hX2 hD sM6 hsS b06
        go_wp2_with fail
        cases G
        · by_cases hle : (m : Int) - (i : Int) ≤ 2
          · have HG2 : Hid (D = goodV L m bs ss (i + 1)) := by show _ = _; rw [hGs.out, ← HG.out, decide_eq_true (by omega)]; simp
            clear hGs HG
            refine wp_region_held_drew (S := (fun w' => w'.cell? ⟨kp, 0, none⟩ = some (.slice (some ⟨g, 0, none⟩) m d) ∧ (convert 22 9 (.slice (some ⟨ab, 0, none⟩) 32 32)).run Tryd.prog w' = .ok (.string X1) w' ∧ (convert 22 9 (.slice (some ⟨gb, off + 52, none⟩) 32 (c - 52))).run Tryd.prog w' = .ok (.string X2) w')) (by kernel_rfl) ?pchS (fun hHeld => ?_)
            case pchS => (first | with_reducible exact HALL.out _ b6d)
            refine wpAnyH_take (i := 0) (v := ?pcv0) (by simp only [List.getElem?_toArray, List.getElem?_cons_zero]; rfl) (by kernel_rfl) (by kernel_rfl) (by kernel_rfl) (by exact fun _ _ _ h => h) (Or.inl ⟨by rfl, ?pchy0⟩) (by assumption) ?pcrest0
            case pchy0 => (intro w hSw; (try dsimp only at hSw); go_simp; try with_reducible rfl)
            try simp only [Act.put, List.setIfInBounds_toArray, List.set_cons_zero, List.set_cons_succ]
            refine wpAnyH_take (i := 1) (v := ?pcv1) (by simp only [List.getElem?_toArray, List.getElem?_cons_succ, List.getElem?_cons_zero]; rfl) (by kernel_rfl) (by kernel_rfl) (by kernel_rfl) (by exact fun _ _ _ h => h) (Or.inl ⟨by rfl, ?pchy1⟩) (by assumption) ?pcrest1
            case pchy1 => (intro w hSw; (try dsimp only at hSw); go_simp; try with_reducible rfl)
            try simp only [Act.put, List.setIfInBounds_toArray, List.set_cons_zero, List.set_cons_succ]
            refine wpAnyH_take (i := 2) (v := ?pcv2) (by simp only [List.getElem?_toArray, List.getElem?_cons_succ, List.getElem?_cons_zero]; rfl) (by kernel_rfl) (by kernel_rfl) (by kernel_rfl) (by exact fun _ _ _ h => h) (Or.inl ⟨by rfl, ?pchy2⟩) (by assumption) ?pcrest2
            case pchy2 => (intro w hSw; (try dsimp only at hSw); go_simp; try with_reducible rfl)
            try simp only [Act.put, List.setIfInBounds_toArray, List.set_cons_zero, List.set_cons_succ]
            refine wpAnyH_take (i := 3) (v := ?pcv3) (by simp only [List.getElem?_toArray, List.getElem?_cons_succ, List.getElem?_cons_zero]; rfl) (by kernel_rfl) (by kernel_rfl) (by kernel_rfl) (by exact fun _ _ _ h => h) (Or.inl ⟨by rfl, ?pchy3⟩) (by assumption) ?pcrest3
            case pchy3 => (intro w hSw; (try dsimp only at hSw); go_simp; try with_reducible rfl)
            try simp only [Act.put, List.setIfInBounds_toArray, List.set_cons_zero, List.set_cons_succ]
            refine wpAnyH_take (i := 4) (v := ?pcv4) (by simp only [List.getElem?_toArray, List.getElem?_cons_succ, List.getElem?_cons_zero]; rfl) (by kernel_rfl) (by kernel_rfl) (by kernel_rfl) (by exact fun _ _ _ h => h) (Or.inl ⟨by rfl, ?pchy4⟩) (by assumption) ?pcrest4
            case pchy4 => (intro w hSw; (try dsimp only at hSw); go_simp; try with_reducible rfl)
            try simp only [Act.put, List.setIfInBounds_toArray, List.set_cons_zero, List.set_cons_succ]
            refine wpAnyH_take (i := 5) (v := ?pcv5) (by simp only [List.getElem?_toArray, List.getElem?_cons_succ, List.getElem?_cons_zero]; rfl) (by kernel_rfl) (by kernel_rfl) (by kernel_rfl) (by exact fun _ _ _ h => h) (Or.inl ⟨by rfl, ?pchy5⟩) (by assumption) ?pcrest5
            case pchy5 => (intro w hSw; (try dsimp only at hSw); go_simp; try with_reducible rfl)
            try simp only [Act.put, List.setIfInBounds_toArray, List.set_cons_zero, List.set_cons_succ]
            refine wpAnyH_take (i := 6) (v := ?pcv6) (by simp only [List.getElem?_toArray, List.getElem?_cons_succ, List.getElem?_cons_zero]; rfl) (by kernel_rfl) (by kernel_rfl) (by kernel_rfl) (by exact fun _ _ _ h => h) (Or.inl ⟨by rfl, ?pchy6⟩) (by assumption) ?pcrest6
            case pchy6 => (intro w hSw; (try dsimp only at hSw); go_simp; try with_reducible rfl)
            try simp only [Act.put, List.setIfInBounds_toArray, List.set_cons_zero, List.set_cons_succ]
            refine wpAnyH_take (i := 7) (v := ?pcv7) (by simp only [List.getElem?_toArray, List.getElem?_cons_succ, List.getElem?_cons_zero]; rfl) (by kernel_rfl) (by kernel_rfl) (by kernel_rfl) (by exact fun _ _ _ h => h) (Or.inl ⟨by rfl, ?pchy7⟩) (by assumption) ?pcrest7
            case pchy7 => (intro w hSw; (try dsimp only at hSw); go_simp; try with_reducible rfl)
            try simp only [Act.put, List.setIfInBounds_toArray, List.set_cons_zero, List.set_cons_succ]
            refine wpAnyH_take (i := 8) (v := ?pcv8) (by simp only [List.getElem?_toArray, List.getElem?_cons_succ, List.getElem?_cons_zero]; rfl) (by kernel_rfl) (by kernel_rfl) (by kernel_rfl) (by exact fun _ _ _ h => h) (Or.inl ⟨by rfl, ?pchy8⟩) (by assumption) ?pcrest8
            case pchy8 => (intro w hSw; (try dsimp only at hSw); go_simp; try with_reducible rfl)
            try simp only [Act.put, List.setIfInBounds_toArray, List.set_cons_zero, List.set_cons_succ]
            refine wpAnyH_take (i := 9) (v := ?pcv9) (by simp only [List.getElem?_toArray, List.getElem?_cons_succ, List.getElem?_cons_zero]; rfl) (by kernel_rfl) (by kernel_rfl) (by kernel_rfl) (by exact fun _ _ _ h => h) (Or.inl ⟨by rfl, ?pchy9⟩) (by assumption) ?pcrest9
            case pchy9 => (intro w hSw; (try dsimp only at hSw); go_simp; try with_reducible rfl)
            try simp only [Act.put, List.setIfInBounds_toArray, List.set_cons_zero, List.set_cons_succ]
            refine wpAnyH_take (i := 10) (v := ?pcv10) (by simp only [List.getElem?_toArray, List.getElem?_cons_succ, List.getElem?_cons_zero]; rfl) (by kernel_rfl) (by kernel_rfl) (by kernel_rfl) (by exact fun _ _ _ h => h) (Or.inl ⟨by rfl, ?pchy10⟩) (by assumption) ?pcrest10
            case pchy10 => (intro w hSw; (try dsimp only at hSw); go_simp; try with_reducible rfl)
            try simp only [Act.put, List.setIfInBounds_toArray, List.set_cons_zero, List.set_cons_succ]
            refine wpAnyH_take (i := 11) (v := ?pcv11) (by simp only [List.getElem?_toArray, List.getElem?_cons_succ, List.getElem?_cons_zero]; rfl) (by kernel_rfl) (by kernel_rfl) (by kernel_rfl) (by exact fun _ _ _ h => h) (Or.inl ⟨by rfl, ?pchy11⟩) (by assumption) ?pcrest11
            case pchy11 => (intro w hSw; (try dsimp only at hSw); go_simp; try with_reducible rfl)
            try simp only [Act.put, List.setIfInBounds_toArray, List.set_cons_zero, List.set_cons_succ]
            refine wpAnyH_take (i := 12) (v := ?pcv12) (by simp only [List.getElem?_toArray, List.getElem?_cons_succ, List.getElem?_cons_zero]; rfl) (by kernel_rfl) (by kernel_rfl) (by kernel_rfl) (by exact fun _ _ _ h => h) (Or.inl ⟨by rfl, ?pchy12⟩) (by assumption) ?pcrest12
            case pchy12 => (intro w hSw; (try dsimp only at hSw); go_simp; try with_reducible rfl)
            try simp only [Act.put, List.setIfInBounds_toArray, List.set_cons_zero, List.set_cons_succ]
            refine wpAnyH_take (i := 13) (v := ?pcv13) (by simp only [List.getElem?_toArray, List.getElem?_cons_succ, List.getElem?_cons_zero]; rfl) (by kernel_rfl) (by kernel_rfl) (by kernel_rfl) (by exact fun _ _ _ h => h) (Or.inl ⟨by rfl, ?pchy13⟩) (by assumption) ?pcrest13
            case pchy13 => (intro w hSw; (try dsimp only at hSw); go_simp; try with_reducible rfl)
            try simp only [Act.put, List.setIfInBounds_toArray, List.set_cons_zero, List.set_cons_succ]
            refine wpAnyH_take (i := 14) (v := ?pcv14) (by simp only [List.getElem?_toArray, List.getElem?_cons_succ, List.getElem?_cons_zero]; rfl) (by kernel_rfl) (by kernel_rfl) (by kernel_rfl) (by exact fun _ _ _ h => h) (Or.inl ⟨by rfl, ?pchy14⟩) (by assumption) ?pcrest14
            case pchy14 => (intro w hSw; (try dsimp only at hSw); go_simp; try with_reducible rfl)
            try simp only [Act.put, List.setIfInBounds_toArray, List.set_cons_zero, List.set_cons_succ]
            refine wpAnyH_take (i := 15) (v := ?pcv15) (by simp only [List.getElem?_toArray, List.getElem?_cons_succ, List.getElem?_cons_zero]; rfl) (by kernel_rfl) (by kernel_rfl) (by kernel_rfl) (by exact fun _ _ _ h => h) (Or.inl ⟨by rfl, ?pchy15⟩) (by assumption) ?pcrest15
            case pchy15 => (intro w hSw; (try dsimp only at hSw); go_simp; try with_reducible rfl)
            try simp only [Act.put, List.setIfInBounds_toArray, List.set_cons_zero, List.set_cons_succ]
            refine wpAnyH_take (i := 16) (v := ?pcv16) (by simp only [List.getElem?_toArray, List.getElem?_cons_succ, List.getElem?_cons_zero]; rfl) (by kernel_rfl) (by kernel_rfl) (by kernel_rfl) (by exact fun _ _ _ h => h) (Or.inl ⟨by rfl, ?pchy16⟩) (by assumption) ?pcrest16
            case pchy16 => (intro w hSw; (try dsimp only at hSw); go_simp; try with_reducible rfl)
            try simp only [Act.put, List.setIfInBounds_toArray, List.set_cons_zero, List.set_cons_succ]
            refine wpAnyH_take (i := 17) (v := ?pcv17) (by simp only [List.getElem?_toArray, List.getElem?_cons_succ, List.getElem?_cons_zero]; rfl) (by kernel_rfl) (by kernel_rfl) (by kernel_rfl) (by exact fun _ _ _ h => h) (Or.inl ⟨by rfl, ?pchy17⟩) (by assumption) ?pcrest17
            case pchy17 => (intro w hSw; (try dsimp only at hSw); go_simp; try with_reducible rfl)
            try simp only [Act.put, List.setIfInBounds_toArray, List.set_cons_zero, List.set_cons_succ]
            refine wpAnyH_take (i := 18) (v := ?pcv18) (by simp only [List.getElem?_toArray, List.getElem?_cons_succ, List.getElem?_cons_zero]; rfl) (by kernel_rfl) (by kernel_rfl) (by kernel_rfl) (by exact fun _ _ _ h => h) (Or.inl ⟨by rfl, ?pchy18⟩) (by assumption) ?pcrest18
            case pchy18 => (intro w hSw; (try dsimp only at hSw); go_simp; try with_reducible rfl)
            try simp only [Act.put, List.setIfInBounds_toArray, List.set_cons_zero, List.set_cons_succ]
            refine wpAnyH_take (i := 19) (v := ?pcv19) (by simp only [List.getElem?_toArray, List.getElem?_cons_succ, List.getElem?_cons_zero]; rfl) (by kernel_rfl) (by kernel_rfl) (by kernel_rfl) (by exact fun _ _ _ h => h) (Or.inl ⟨by rfl, ?pchy19⟩) (by assumption) ?pcrest19
            case pchy19 => (intro w hSw; (try dsimp only at hSw); go_simp; try with_reducible rfl)
            try simp only [Act.put, List.setIfInBounds_toArray, List.set_cons_zero, List.set_cons_succ]
            refine wpAnyH_done (by kernel_rfl) ?_ _
            go_wp2
            go_roundw
            case rel => exact ⟨i + 1, _, by omega, by go_num, rfl, HG2, bW7⟩
            case measure => simp [intOf]; omega
          · have HG2 : Hid (false = goodV L m bs ss (i + 1)) := by show _ = _; rw [hGs.out, ← HG.out, decide_eq_false (show ¬ m ≤ i + 2 by omega)]; simp
            have hle2 : 2 < (m : Int) - (i : Int) := by omega
            clear hGs HG
            refine wp_region_held_drew (S := (fun w' => w'.cell? ⟨kp, 0, none⟩ = some (.slice (some ⟨g, 0, none⟩) m d) ∧ (convert 22 9 (.slice (some ⟨ab, 0, none⟩) 32 32)).run Tryd.prog w' = .ok (.string X1) w' ∧ (convert 22 9 (.slice (some ⟨gb, off + 52, none⟩) 32 (c - 52))).run Tryd.prog w' = .ok (.string X2) w')) (by kernel_rfl) ?pbhS (fun hHeld => ?_)
            case pbhS => (first | with_reducible exact HALL.out _ b6d)
            refine wpAnyH_take (i := 0) (v := ?pbv0) (by simp only [List.getElem?_toArray, List.getElem?_cons_zero]; rfl) (by kernel_rfl) (by kernel_rfl) (by kernel_rfl) (by exact fun _ _ _ h => h) (Or.inl ⟨by rfl, ?pbhy0⟩) (by assumption) ?pbrest0
            case pbhy0 => (intro w hSw; (try dsimp only at hSw); go_simp; try with_reducible rfl)
            try simp only [Act.put, List.setIfInBounds_toArray, List.set_cons_zero, List.set_cons_succ]
            refine wpAnyH_take (i := 1) (v := ?pbv1) (by simp only [List.getElem?_toArray, List.getElem?_cons_succ, List.getElem?_cons_zero]; rfl) (by kernel_rfl) (by kernel_rfl) (by kernel_rfl) (by exact fun _ _ _ h => h) (Or.inl ⟨by rfl, ?pbhy1⟩) (by assumption) ?pbrest1
            case pbhy1 => (intro w hSw; (try dsimp only at hSw); go_simp; try with_reducible rfl)
            try simp only [Act.put, List.setIfInBounds_toArray, List.set_cons_zero, List.set_cons_succ]
            refine wpAnyH_take (i := 2) (v := ?pbv2) (by simp only [List.getElem?_toArray, List.getElem?_cons_succ, List.getElem?_cons_zero]; rfl) (by kernel_rfl) (by kernel_rfl) (by kernel_rfl) (by exact fun _ _ _ h => h) (Or.inl ⟨by rfl, ?pbhy2⟩) (by assumption) ?pbrest2
            case pbhy2 => (intro w hSw; (try dsimp only at hSw); go_simp; try with_reducible rfl)
            try simp only [Act.put, List.setIfInBounds_toArray, List.set_cons_zero, List.set_cons_succ]
            refine wpAnyH_take (i := 3) (v := ?pbv3) (by simp only [List.getElem?_toArray, List.getElem?_cons_succ, List.getElem?_cons_zero]; rfl) (by kernel_rfl) (by kernel_rfl) (by kernel_rfl) (by exact fun _ _ _ h => h) (Or.inl ⟨by rfl, ?pbhy3⟩) (by assumption) ?pbrest3
            case pbhy3 => (intro w hSw; (try dsimp only at hSw); go_simp; try with_reducible rfl)
            try simp only [Act.put, List.setIfInBounds_toArray, List.set_cons_zero, List.set_cons_succ]
            refine wpAnyH_take (i := 4) (v := ?pbv4) (by simp only [List.getElem?_toArray, List.getElem?_cons_succ, List.getElem?_cons_zero]; rfl) (by kernel_rfl) (by kernel_rfl) (by kernel_rfl) (by exact fun _ _ _ h => h) (Or.inl ⟨by rfl, ?pbhy4⟩) (by assumption) ?pbrest4
            case pbhy4 => (intro w hSw; (try dsimp only at hSw); go_simp; try with_reducible rfl)
            try simp only [Act.put, List.setIfInBounds_toArray, List.set_cons_zero, List.set_cons_succ]
            refine wpAnyH_take (i := 5) (v := ?pbv5) (by simp only [List.getElem?_toArray, List.getElem?_cons_succ, List.getElem?_cons_zero]; rfl) (by kernel_rfl) (by kernel_rfl) (by kernel_rfl) (by exact fun _ _ _ h => h) (Or.inl ⟨by rfl, ?pbhy5⟩) (by assumption) ?pbrest5
            case pbhy5 => (intro w hSw; (try dsimp only at hSw); go_simp; try with_reducible rfl)
            try simp only [Act.put, List.setIfInBounds_toArray, List.set_cons_zero, List.set_cons_succ]
            refine wpAnyH_take (i := 6) (v := ?pbv6) (by simp only [List.getElem?_toArray, List.getElem?_cons_succ, List.getElem?_cons_zero]; rfl) (by kernel_rfl) (by kernel_rfl) (by kernel_rfl) (by exact fun _ _ _ h => h) (Or.inl ⟨by rfl, ?pbhy6⟩) (by assumption) ?pbrest6
            case pbhy6 => (intro w hSw; (try dsimp only at hSw); go_simp; try with_reducible rfl)
            try simp only [Act.put, List.setIfInBounds_toArray, List.set_cons_zero, List.set_cons_succ]
            refine wpAnyH_take (i := 7) (v := ?pbv7) (by simp only [List.getElem?_toArray, List.getElem?_cons_succ, List.getElem?_cons_zero]; rfl) (by kernel_rfl) (by kernel_rfl) (by kernel_rfl) (by exact fun _ _ _ h => h) (Or.inl ⟨by rfl, ?pbhy7⟩) (by assumption) ?pbrest7
            case pbhy7 => (intro w hSw; (try dsimp only at hSw); go_simp; try with_reducible rfl)
            try simp only [Act.put, List.setIfInBounds_toArray, List.set_cons_zero, List.set_cons_succ]
            refine wpAnyH_take (i := 8) (v := ?pbv8) (by simp only [List.getElem?_toArray, List.getElem?_cons_succ, List.getElem?_cons_zero]; rfl) (by kernel_rfl) (by kernel_rfl) (by kernel_rfl) (by exact fun _ _ _ h => h) (Or.inl ⟨by rfl, ?pbhy8⟩) (by assumption) ?pbrest8
            case pbhy8 => (intro w hSw; (try dsimp only at hSw); go_simp; try with_reducible rfl)
            try simp only [Act.put, List.setIfInBounds_toArray, List.set_cons_zero, List.set_cons_succ]
            refine wpAnyH_take (i := 9) (v := ?pbv9) (by simp only [List.getElem?_toArray, List.getElem?_cons_succ, List.getElem?_cons_zero]; rfl) (by kernel_rfl) (by kernel_rfl) (by kernel_rfl) (by exact fun _ _ _ h => h) (Or.inl ⟨by rfl, ?pbhy9⟩) (by assumption) ?pbrest9
            case pbhy9 => (intro w hSw; (try dsimp only at hSw); go_simp; try with_reducible rfl)
            try simp only [Act.put, List.setIfInBounds_toArray, List.set_cons_zero, List.set_cons_succ]
            refine wpAnyH_take (i := 10) (v := ?pbv10) (by simp only [List.getElem?_toArray, List.getElem?_cons_succ, List.getElem?_cons_zero]; rfl) (by kernel_rfl) (by kernel_rfl) (by kernel_rfl) (by exact fun _ _ _ h => h) (Or.inl ⟨by rfl, ?pbhy10⟩) (by assumption) ?pbrest10
            case pbhy10 => (intro w hSw; (try dsimp only at hSw); go_simp; try with_reducible rfl)
            try simp only [Act.put, List.setIfInBounds_toArray, List.set_cons_zero, List.set_cons_succ]
            refine wpAnyH_take (i := 11) (v := undef) (by simp only [List.getElem?_toArray, List.getElem?_cons_succ, List.getElem?_cons_zero]; rfl) (by kernel_rfl) (by kernel_rfl) (by kernel_rfl) (by exact fun _ _ _ h => h) (Or.inr ⟨by rfl, rfl⟩) (by assumption) ?_
            try simp only [Act.put, List.setIfInBounds_toArray, List.set_cons_zero, List.set_cons_succ]
            refine wpAnyH_take (i := 12) (v := undef) (by simp only [List.getElem?_toArray, List.getElem?_cons_succ, List.getElem?_cons_zero]; rfl) (by kernel_rfl) (by kernel_rfl) (by kernel_rfl) (by exact fun _ _ _ h => h) (Or.inr ⟨by rfl, rfl⟩) (by assumption) ?_
            try simp only [Act.put, List.setIfInBounds_toArray, List.set_cons_zero, List.set_cons_succ]
            refine wpAnyH_take (i := 13) (v := undef) (by simp only [List.getElem?_toArray, List.getElem?_cons_succ, List.getElem?_cons_zero]; rfl) (by kernel_rfl) (by kernel_rfl) (by kernel_rfl) (by exact fun _ _ _ h => h) (Or.inr ⟨by rfl, rfl⟩) (by assumption) ?_
            try simp only [Act.put, List.setIfInBounds_toArray, List.set_cons_zero, List.set_cons_succ]
            refine wpAnyH_take (i := 14) (v := undef) (by simp only [List.getElem?_toArray, List.getElem?_cons_succ, List.getElem?_cons_zero]; rfl) (by kernel_rfl) (by kernel_rfl) (by kernel_rfl) (by exact fun _ _ _ h => h) (Or.inr ⟨by rfl, rfl⟩) (by assumption) ?_
            try simp only [Act.put, List.setIfInBounds_toArray, List.set_cons_zero, List.set_cons_succ]
            refine wpAnyH_take (i := 15) (v := undef) (by simp only [List.getElem?_toArray, List.getElem?_cons_succ, List.getElem?_cons_zero]; rfl) (by kernel_rfl) (by kernel_rfl) (by kernel_rfl) (by exact fun _ _ _ h => h) (Or.inr ⟨by rfl, rfl⟩) (by assumption) ?_
            try simp only [Act.put, List.setIfInBounds_toArray, List.set_cons_zero, List.set_cons_succ]
            refine wpAnyH_take (i := 16) (v := undef) (by simp only [List.getElem?_toArray, List.getElem?_cons_succ, List.getElem?_cons_zero]; rfl) (by kernel_rfl) (by kernel_rfl) (by kernel_rfl) (by exact fun _ _ _ h => h) (Or.inr ⟨by rfl, rfl⟩) (by assumption) ?_
            try simp only [Act.put, List.setIfInBounds_toArray, List.set_cons_zero, List.set_cons_succ]
            refine wpAnyH_take (i := 17) (v := ?pbv17) (by simp only [List.getElem?_toArray, List.getElem?_cons_succ, List.getElem?_cons_zero]; rfl) (by kernel_rfl) (by kernel_rfl) (by kernel_rfl) (by exact fun _ _ _ h => h) (Or.inl ⟨by rfl, ?pbhy17⟩) (by assumption) ?pbrest17
            case pbhy17 => (intro w hSw; (try dsimp only at hSw); go_simp; try with_reducible rfl)
            try simp only [Act.put, List.setIfInBounds_toArray, List.set_cons_zero, List.set_cons_succ]
            refine wpAnyH_take (i := 18) (v := ?pbv18) (by simp only [List.getElem?_toArray, List.getElem?_cons_succ, List.getElem?_cons_zero]; rfl) (by kernel_rfl) (by kernel_rfl) (by kernel_rfl) (by exact fun _ _ _ h => h) (Or.inl ⟨by rfl, ?pbhy18⟩) (by assumption) ?pbrest18
            case pbhy18 => (intro w hSw; (try dsimp only at hSw); go_simp; try with_reducible rfl)
            try simp only [Act.put, List.setIfInBounds_toArray, List.set_cons_zero, List.set_cons_succ]
            refine wpAnyH_take (i := 19) (v := ?pbv19) (by simp only [List.getElem?_toArray, List.getElem?_cons_succ, List.getElem?_cons_zero]; rfl) (by kernel_rfl) (by kernel_rfl) (by kernel_rfl) (by exact fun _ _ _ h => h) (Or.inl ⟨by rfl, ?pbhy19⟩) (by assumption) ?pbrest19
            case pbhy19 => (intro w hSw; (try dsimp only at hSw); go_simp; try with_reducible rfl)
            try simp only [Act.put, List.setIfInBounds_toArray, List.set_cons_zero, List.set_cons_succ]
            refine wpAnyH_done (by kernel_rfl) ?_ _
            go_wp2
            go_roundw
            case rel => exact ⟨i + 1, _, by omega, by go_num, rfl, HG2, bW7⟩
            case measure => simp [intOf]; omega
        · have HG2 : Hid (true = goodV L m bs ss (i + 1)) := by show _ = _; rw [hGs.out, ← HG.out]; simp
          clear hGs HG
          refine wp_region_held_drew (S := (fun w' => w'.cell? ⟨kp, 0, none⟩ = some (.slice (some ⟨g, 0, none⟩) m d) ∧ (convert 22 9 (.slice (some ⟨ab, 0, none⟩) 32 32)).run Tryd.prog w' = .ok (.string X1) w' ∧ (convert 22 9 (.slice (some ⟨gb, off + 52, none⟩) 32 (c - 52))).run Tryd.prog w' = .ok (.string X2) w')) (by kernel_rfl) ?pahS (fun hHeld => ?_)
          case pahS => (first | with_reducible exact HALL.out _ b6d)
          refine wpAnyH_take (i := 0) (v := ?pav0) (by simp only [List.getElem?_toArray, List.getElem?_cons_zero]; rfl) (by kernel_rfl) (by kernel_rfl) (by kernel_rfl) (by exact fun _ _ _ h => h) (Or.inl ⟨by rfl, ?pahy0⟩) (by assumption) ?parest0
          case pahy0 => (intro w hSw; (try dsimp only at hSw); go_simp; try with_reducible rfl)
          try simp only [Act.put, List.setIfInBounds_toArray, List.set_cons_zero, List.set_cons_succ]
          refine wpAnyH_take (i := 1) (v := ?pav1) (by simp only [List.getElem?_toArray, List.getElem?_cons_succ, List.getElem?_cons_zero]; rfl) (by kernel_rfl) (by kernel_rfl) (by kernel_rfl) (by exact fun _ _ _ h => h) (Or.inl ⟨by rfl, ?pahy1⟩) (by assumption) ?parest1
          case pahy1 => (intro w hSw; (try dsimp only at hSw); go_simp; try with_reducible rfl)
          try simp only [Act.put, List.setIfInBounds_toArray, List.set_cons_zero, List.set_cons_succ]
          refine wpAnyH_take (i := 2) (v := undef) (by simp only [List.getElem?_toArray, List.getElem?_cons_succ, List.getElem?_cons_zero]; rfl) (by kernel_rfl) (by kernel_rfl) (by kernel_rfl) (by exact fun _ _ _ h => h) (Or.inr ⟨by rfl, rfl⟩) (by assumption) ?_
          try simp only [Act.put, List.setIfInBounds_toArray, List.set_cons_zero, List.set_cons_succ]
          refine wpAnyH_take (i := 3) (v := undef) (by simp only [List.getElem?_toArray, List.getElem?_cons_succ, List.getElem?_cons_zero]; rfl) (by kernel_rfl) (by kernel_rfl) (by kernel_rfl) (by exact fun _ _ _ h => h) (Or.inr ⟨by rfl, rfl⟩) (by assumption) ?_
          try simp only [Act.put, List.setIfInBounds_toArray, List.set_cons_zero, List.set_cons_succ]
          refine wpAnyH_take (i := 4) (v := undef) (by simp only [List.getElem?_toArray, List.getElem?_cons_succ, List.getElem?_cons_zero]; rfl) (by kernel_rfl) (by kernel_rfl) (by kernel_rfl) (by exact fun _ _ _ h => h) (Or.inr ⟨by rfl, rfl⟩) (by assumption) ?_
          try simp only [Act.put, List.setIfInBounds_toArray, List.set_cons_zero, List.set_cons_succ]
          refine wpAnyH_take (i := 5) (v := undef) (by simp only [List.getElem?_toArray, List.getElem?_cons_succ, List.getElem?_cons_zero]; rfl) (by kernel_rfl) (by kernel_rfl) (by kernel_rfl) (by exact fun _ _ _ h => h) (Or.inr ⟨by rfl, rfl⟩) (by assumption) ?_
          try simp only [Act.put, List.setIfInBounds_toArray, List.set_cons_zero, List.set_cons_succ]
          refine wpAnyH_take (i := 6) (v := undef) (by simp only [List.getElem?_toArray, List.getElem?_cons_succ, List.getElem?_cons_zero]; rfl) (by kernel_rfl) (by kernel_rfl) (by kernel_rfl) (by exact fun _ _ _ h => h) (Or.inr ⟨by rfl, rfl⟩) (by assumption) ?_
          try simp only [Act.put, List.setIfInBounds_toArray, List.set_cons_zero, List.set_cons_succ]
          refine wpAnyH_take (i := 7) (v := undef) (by simp only [List.getElem?_toArray, List.getElem?_cons_succ, List.getElem?_cons_zero]; rfl) (by kernel_rfl) (by kernel_rfl) (by kernel_rfl) (by exact fun _ _ _ h => h) (Or.inr ⟨by rfl, rfl⟩) (by assumption) ?_
          try simp only [Act.put, List.setIfInBounds_toArray, List.set_cons_zero, List.set_cons_succ]
          refine wpAnyH_take (i := 8) (v := undef) (by simp only [List.getElem?_toArray, List.getElem?_cons_succ, List.getElem?_cons_zero]; rfl) (by kernel_rfl) (by kernel_rfl) (by kernel_rfl) (by exact fun _ _ _ h => h) (Or.inr ⟨by rfl, rfl⟩) (by assumption) ?_
          try simp only [Act.put, List.setIfInBounds_toArray, List.set_cons_zero, List.set_cons_succ]
          refine wpAnyH_take (i := 9) (v := undef) (by simp only [List.getElem?_toArray, List.getElem?_cons_succ, List.getElem?_cons_zero]; rfl) (by kernel_rfl) (by kernel_rfl) (by kernel_rfl) (by exact fun _ _ _ h => h) (Or.inr ⟨by rfl, rfl⟩) (by assumption) ?_
          try simp only [Act.put, List.setIfInBounds_toArray, List.set_cons_zero, List.set_cons_succ]
          refine wpAnyH_take (i := 10) (v := undef) (by simp only [List.getElem?_toArray, List.getElem?_cons_succ, List.getElem?_cons_zero]; rfl) (by kernel_rfl) (by kernel_rfl) (by kernel_rfl) (by exact fun _ _ _ h => h) (Or.inr ⟨by rfl, rfl⟩) (by assumption) ?_
          try simp only [Act.put, List.setIfInBounds_toArray, List.set_cons_zero, List.set_cons_succ]
          refine wpAnyH_take (i := 11) (v := undef) (by simp only [List.getElem?_toArray, List.getElem?_cons_succ, List.getElem?_cons_zero]; rfl) (by kernel_rfl) (by kernel_rfl) (by kernel_rfl) (by exact fun _ _ _ h => h) (Or.inr ⟨by rfl, rfl⟩) (by assumption) ?_
          try simp only [Act.put, List.setIfInBounds_toArray, List.set_cons_zero, List.set_cons_succ]
          refine wpAnyH_take (i := 12) (v := undef) (by simp only [List.getElem?_toArray, List.getElem?_cons_succ, List.getElem?_cons_zero]; rfl) (by kernel_rfl) (by kernel_rfl) (by kernel_rfl) (by exact fun _ _ _ h => h) (Or.inr ⟨by rfl, rfl⟩) (by assumption) ?_
          try simp only [Act.put, List.setIfInBounds_toArray, List.set_cons_zero, List.set_cons_succ]
          refine wpAnyH_take (i := 13) (v := undef) (by simp only [List.getElem?_toArray, List.getElem?_cons_succ, List.getElem?_cons_zero]; rfl) (by kernel_rfl) (by kernel_rfl) (by kernel_rfl) (by exact fun _ _ _ h => h) (Or.inr ⟨by rfl, rfl⟩) (by assumption) ?_
          try simp only [Act.put, List.setIfInBounds_toArray, List.set_cons_zero, List.set_cons_succ]
          refine wpAnyH_take (i := 14) (v := undef) (by simp only [List.getElem?_toArray, List.getElem?_cons_succ, List.getElem?_cons_zero]; rfl) (by kernel_rfl) (by kernel_rfl) (by kernel_rfl) (by exact fun _ _ _ h => h) (Or.inr ⟨by rfl, rfl⟩) (by assumption) ?_
          try simp only [Act.put, List.setIfInBounds_toArray, List.set_cons_zero, List.set_cons_succ]
          refine wpAnyH_take (i := 15) (v := undef) (by simp only [List.getElem?_toArray, List.getElem?_cons_succ, List.getElem?_cons_zero]; rfl) (by kernel_rfl) (by kernel_rfl) (by kernel_rfl) (by exact fun _ _ _ h => h) (Or.inr ⟨by rfl, rfl⟩) (by assumption) ?_
          try simp only [Act.put, List.setIfInBounds_toArray, List.set_cons_zero, List.set_cons_succ]
          refine wpAnyH_take (i := 16) (v := undef) (by simp only [List.getElem?_toArray, List.getElem?_cons_succ, List.getElem?_cons_zero]; rfl) (by kernel_rfl) (by kernel_rfl) (by kernel_rfl) (by exact fun _ _ _ h => h) (Or.inr ⟨by rfl, rfl⟩) (by assumption) ?_
          try simp only [Act.put, List.setIfInBounds_toArray, List.set_cons_zero, List.set_cons_succ]
          refine wpAnyH_take (i := 17) (v := undef) (by simp only [List.getElem?_toArray, List.getElem?_cons_succ, List.getElem?_cons_zero]; rfl) (by kernel_rfl) (by kernel_rfl) (by kernel_rfl) (by exact fun _ _ _ h => h) (Or.inr ⟨by rfl, rfl⟩) (by assumption) ?_
          try simp only [Act.put, List.setIfInBounds_toArray, List.set_cons_zero, List.set_cons_succ]
          refine wpAnyH_take (i := 18) (v := ?pav18) (by simp only [List.getElem?_toArray, List.getElem?_cons_succ, List.getElem?_cons_zero]; rfl) (by kernel_rfl) (by kernel_rfl) (by kernel_rfl) (by exact fun _ _ _ h => h) (Or.inl ⟨by rfl, ?pahy18⟩) (by assumption) ?parest18
          case pahy18 => (intro w hSw; (try dsimp only at hSw); go_simp; try with_reducible rfl)
          try simp only [Act.put, List.setIfInBounds_toArray, List.set_cons_zero, List.set_cons_succ]
          refine wpAnyH_take (i := 19) (v := ?pav19) (by simp only [List.getElem?_toArray, List.getElem?_cons_succ, List.getElem?_cons_zero]; rfl) (by kernel_rfl) (by kernel_rfl) (by kernel_rfl) (by exact fun _ _ _ h => h) (Or.inl ⟨by rfl, ?pahy19⟩) (by assumption) ?parest19
          case pahy19 => (intro w hSw; (try dsimp only at hSw); go_simp; try with_reducible rfl)
          try simp only [Act.put, List.setIfInBounds_toArray, List.set_cons_zero, List.set_cons_succ]
          refine wpAnyH_done (by kernel_rfl) ?_ _
          go_wp2
          go_roundw
          case rel => exact ⟨i + 1, _, by omega, by go_num, rfl, HG2, bW7⟩
          case measure => simp [intOf]; omega
      case wayB =>
        have hTB : Arr8 (wr.drew.alloc (.cells z32 66)) wr.heap.size wr.heap.size 32 (outL [] 0) := arr32_new wr.drew [] (wr.drew.alloc (.cells z32 66)) rfl
        have bB : Below wr.heap.size wr (wr.drew.alloc (.cells z32 66)) := bd.alloc bd.size _
        have hmac := HMA.out _ (b0r.trans (bB.mono b0r.size))
        go_simp
        change K _ (wr.drew.alloc (.cells z32 66))
        refine hK.out _ _ (HSW.out _ bB) (fun hHeld2 => ?_)
        clear hK K
        obtain ⟨w5, hw5⟩ : ∃ w5, w5 = wr.drew.alloc (.cells z32 66) := ⟨_, rfl⟩
        rw [← hw5] at hmac hTB bB ⊢
        clear hw5
        refine wpAnyH_ready (rs := [9]) (by kernel_rfl) (by simp) ?_
        refine AllReadyH.cons rfl (fun K hK => ?_) AllReadyH.nil
        go_simp
        refine hmac.mono ?_
        rintro e w3 ⟨rfl, b3'⟩
        have b3 : Below wr.heap.size wr w3 := bB.trans (b3'.mono bB.size)
        have hTC := hTB.below b3'
        have hthB : w3.there wr.heap.size 0 mc.toArray.size := by rw [show mc.toArray.size = 32 from hmcl]; exact hTC.there
        obtain ⟨w6, hw6⟩ : ∃ w6, w6 = w3.setCells wr.heap.size 0 mc := ⟨_, rfl⟩
        have hM6 : Arr8 w6 wr.heap.size wr.heap.size 32 M := by
          rw [hw6, HMC.out]
          have := hTC.copied 0 M hMb (by rw [hMl]; omega)
          rwa [lay_full _ _ (by rw [outL_len, hMl])] at this
        have b26 : Below wr.heap.size wr w6 := by rw [hw6]; exact Below.setCells b3 _ _ _ (Nat.le_refl _)
        try go_wp2_with fail
        refine hK.out _ _ (HSW.out _ b3) (fun hHeld3 => ?_)
        clear hK K
        refine wpAnyH_ready (rs := [11]) (by kernel_rfl) (by simp) ?_
        refine AllReadyH.cons rfl (fun K hK => ?_) AllReadyH.nil
        rw [if_pos (by kernel_rfl)]
        refine wp_store_mid 66 (.tmp 10) (.tmp 44) rfl wr.heap.size 0 mc.toArray rfl rfl hthB hi32 (all_oneCell_toArray hone) ?_
        change K (Act.put _ none undef) ((w3).setCells wr.heap.size 0 mc)
        simp only [Act.put]
        rw [← hw6]
        clear hw6
        refine hK.out _ _ (HSW.out _ b26) (fun hHeld4 => ?_)
        clear hK K
        refine wpAnyH_done (by kernel_rfl) ?_ _
        obtain ⟨ab, hab⟩ : ∃ ab, ab = wr.heap.size := ⟨_, rfl⟩
        rw [← hab] at hM6 ⊢
        have habl : wr.heap.size ≤ ab := by rw [hab]; exact Nat.le_refl _
        have sM6 := (hM6.slB (by omega)).1
        clear hTB hTC bB b3 b3' hHeld hHeld2 hHeld3 hHeld4 hM6 hMb hmac HMC HMA hab hthB hi32 hone
        have b06 : Below w.heap.size w w6 := b0r.trans (b26.mono b0r.size)
        have bW6 : Below W0.heap.size W0 w6 := hbel.trans (b26.mono hbel.size)
        have hsS := HDD.out w6 b06
        obtain ⟨X1, hX1⟩ : ∃ X, X = strOf M := ⟨_, rfl⟩
        obtain ⟨X2, hX2⟩ : ∃ X, X = strOf ss := ⟨_, rfl⟩
        have b6d : Below w6.heap.size w6 w6.drew := (Below.refl _ _).drew
        have HALL : Hid (∀ w', Below w6.heap.size w6 w' → w'.cell? ⟨kp, 0, none⟩ = some (.slice (some ⟨g, 0, none⟩) m d) ∧ (convert 22 9 (.slice (some ⟨ab, 0, none⟩) 32 32)).run Tryd.prog w' = .ok (.string X1) w' ∧ (convert 22 9 (.slice (some ⟨gb, off + 52, none⟩) 32 (c - 52))).run Tryd.prog w' = .ok (.string X2) w') := fun w' hb => ⟨(HSW.out w' (b26.trans (hb.mono b26.size))).1, by rw [hX1]; exact conv_str (sM6.below hb), by rw [hX2]; exact conv_str (hsS.below hb)⟩
        obtain ⟨D, hD⟩ : ∃ D, D = decide (M = ss) := ⟨_, rfl⟩
        have hXD : (X1.toList == X2.toList) = D := by
          rw [hD, hX1, hX2]
          by_cases h : M = ss
          · rw [h]; simp
          · rw [decide_eq_false h]; exact strOf_neC sM6.bnd hsS.bnd h
        rw [← hD] at hGs
        have wmi : IntKind.i64.wrap ((m : Int) - (i : Int)) = (m : Int) - (i : Int) := by rw [IntKind.wrap_i64]; omega
        have HMI : Hid (i < m) := him
        have bW7 : Below W0.heap.size W0 w6.drew := bW6.trans (b6d.mono bW6.size)
        clear hX1 hX2 hD sM6 hsS b06
        go_wp2_with fail
        cases G
        · by_cases hle : (m : Int) - (i : Int) ≤ 2
          · have HG2 : Hid (D = goodV L m bs ss (i + 1)) := by show _ = _; rw [hGs.out, ← HG.out, decide_eq_true (by omega)]; simp
            clear hGs HG
            refine wp_region_held_drew (S := (fun w' => w'.cell? ⟨kp, 0, none⟩ = some (.slice (some ⟨g, 0, none⟩) m d) ∧ (convert 22 9 (.slice (some ⟨ab, 0, none⟩) 32 32)).run Tryd.prog w' = .ok (.string X1) w' ∧ (convert 22 9 (.slice (some ⟨gb, off + 52, none⟩) 32 (c - 52))).run Tryd.prog w' = .ok (.string X2) w')) (by kernel_rfl) ?qchS (fun hHeld => ?_)
            case qchS => (first | with_reducible exact HALL.out _ b6d)
            refine wpAnyH_take (i := 0) (v := ?qcv0) (by simp only [List.getElem?_toArray, List.getElem?_cons_zero]; rfl) (by kernel_rfl) (by kernel_rfl) (by kernel_rfl) (by exact fun _ _ _ h => h) (Or.inl ⟨by rfl, ?qchy0⟩) (by assumption) ?qcrest0
            case qchy0 => (intro w hSw; (try dsimp only at hSw); go_simp; try with_reducible rfl)
            try simp only [Act.put, List.setIfInBounds_toArray, List.set_cons_zero, List.set_cons_succ]
            refine wpAnyH_take (i := 1) (v := ?qcv1) (by simp only [List.getElem?_toArray, List.getElem?_cons_succ, List.getElem?_cons_zero]; rfl) (by kernel_rfl) (by kernel_rfl) (by kernel_rfl) (by exact fun _ _ _ h => h) (Or.inl ⟨by rfl, ?qchy1⟩) (by assumption) ?qcrest1
            case qchy1 => (intro w hSw; (try dsimp only at hSw); go_simp; try with_reducible rfl)
            try simp only [Act.put, List.setIfInBounds_toArray, List.set_cons_zero, List.set_cons_succ]
            refine wpAnyH_take (i := 2) (v := ?qcv2) (by simp only [List.getElem?_toArray, List.getElem?_cons_succ, List.getElem?_cons_zero]; rfl) (by kernel_rfl) (by kernel_rfl) (by kernel_rfl) (by exact fun _ _ _ h => h) (Or.inl ⟨by rfl, ?qchy2⟩) (by assumption) ?qcrest2
            case qchy2 => (intro w hSw; (try dsimp only at hSw); go_simp; try with_reducible rfl)
            try simp only [Act.put, List.setIfInBounds_toArray, List.set_cons_zero, List.set_cons_succ]
            refine wpAnyH_take (i := 3) (v := ?qcv3) (by simp only [List.getElem?_toArray, List.getElem?_cons_succ, List.getElem?_cons_zero]; rfl) (by kernel_rfl) (by kernel_rfl) (by kernel_rfl) (by exact fun _ _ _ h => h) (Or.inl ⟨by rfl, ?qchy3⟩) (by assumption) ?qcrest3
            case qchy3 => (intro w hSw; (try dsimp only at hSw); go_simp; try with_reducible rfl)
            try simp only [Act.put, List.setIfInBounds_toArray, List.set_cons_zero, List.set_cons_succ]
            refine wpAnyH_take (i := 4) (v := ?qcv4) (by simp only [List.getElem?_toArray, List.getElem?_cons_succ, List.getElem?_cons_zero]; rfl) (by kernel_rfl) (by kernel_rfl) (by kernel_rfl) (by exact fun _ _ _ h => h) (Or.inl ⟨by rfl, ?qchy4⟩) (by assumption) ?qcrest4
            case qchy4 => (intro w hSw; (try dsimp only at hSw); go_simp; try with_reducible rfl)
            try simp only [Act.put, List.setIfInBounds_toArray, List.set_cons_zero, List.set_cons_succ]
            refine wpAnyH_take (i := 5) (v := ?qcv5) (by simp only [List.getElem?_toArray, List.getElem?_cons_succ, List.getElem?_cons_zero]; rfl) (by kernel_rfl) (by kernel_rfl) (by kernel_rfl) (by exact fun _ _ _ h => h) (Or.inl ⟨by rfl, ?qchy5⟩) (by assumption) ?qcrest5
            case qchy5 => (intro w hSw; (try dsimp only at hSw); go_simp; try with_reducible rfl)
            try simp only [Act.put, List.setIfInBounds_toArray, List.set_cons_zero, List.set_cons_succ]
            refine wpAnyH_take (i := 6) (v := ?qcv6) (by simp only [List.getElem?_toArray, List.getElem?_cons_succ, List.getElem?_cons_zero]; rfl) (by kernel_rfl) (by kernel_rfl) (by kernel_rfl) (by exact fun _ _ _ h => h) (Or.inl ⟨by rfl, ?qchy6⟩) (by assumption) ?qcrest6
            case qchy6 => (intro w hSw; (try dsimp only at hSw); go_simp; try with_reducible rfl)
            try simp only [Act.put, List.setIfInBounds_toArray, List.set_cons_zero, List.set_cons_succ]
            refine wpAnyH_take (i := 7) (v := ?qcv7) (by simp only [List.getElem?_toArray, List.getElem?_cons_succ, List.getElem?_cons_zero]; rfl) (by kernel_rfl) (by kernel_rfl) (by kernel_rfl) (by exact fun _ _ _ h => h) (Or.inl ⟨by rfl, ?qchy7⟩) (by assumption) ?qcrest7
            case qchy7 => (intro w hSw; (try dsimp only at hSw); go_simp; try with_reducible rfl)
            try simp only [Act.put, List.setIfInBounds_toArray, List.set_cons_zero, List.set_cons_succ]
            refine wpAnyH_take (i := 8) (v := ?qcv8) (by simp only [List.getElem?_toArray, List.getElem?_cons_succ, List.getElem?_cons_zero]; rfl) (by kernel_rfl) (by kernel_rfl) (by kernel_rfl) (by exact fun _ _ _ h => h) (Or.inl ⟨by rfl, ?qchy8⟩) (by assumption) ?qcrest8
            case qchy8 => (intro w hSw; (try dsimp only at hSw); go_simp; try with_reducible rfl)
            try simp only [Act.put, List.setIfInBounds_toArray, List.set_cons_zero, List.set_cons_succ]
            refine wpAnyH_take (i := 9) (v := ?qcv9) (by simp only [List.getElem?_toArray, List.getElem?_cons_succ, List.getElem?_cons_zero]; rfl) (by kernel_rfl) (by kernel_rfl) (by kernel_rfl) (by exact fun _ _ _ h => h) (Or.inl ⟨by rfl, ?qchy9⟩) (by assumption) ?qcrest9
            case qchy9 => (intro w hSw; (try dsimp only at hSw); go_simp; try with_reducible rfl)
            try simp only [Act.put, List.setIfInBounds_toArray, List.set_cons_zero, List.set_cons_succ]
            refine wpAnyH_take (i := 10) (v := ?qcv10) (by simp only [List.getElem?_toArray, List.getElem?_cons_succ, List.getElem?_cons_zero]; rfl) (by kernel_rfl) (by kernel_rfl) (by kernel_rfl) (by exact fun _ _ _ h => h) (Or.inl ⟨by rfl, ?qchy10⟩) (by assumption) ?qcrest10
            case qchy10 => (intro w hSw; (try dsimp only at hSw); go_simp; try with_reducible rfl)
            try simp only [Act.put, List.setIfInBounds_toArray, List.set_cons_zero, List.set_cons_succ]
            refine wpAnyH_take (i := 11) (v := ?qcv11) (by simp only [List.getElem?_toArray, List.getElem?_cons_succ, List.getElem?_cons_zero]; rfl) (by kernel_rfl) (by kernel_rfl) (by kernel_rfl) (by exact fun _ _ _ h => h) (Or.inl ⟨by rfl, ?qchy11⟩) (by assumption) ?qcrest11
            case qchy11 => (intro w hSw; (try dsimp only at hSw); go_simp; try with_reducible rfl)
            try simp only [Act.put, List.setIfInBounds_toArray, List.set_cons_zero, List.set_cons_succ]
            refine wpAnyH_take (i := 12) (v := ?qcv12) (by simp only [List.getElem?_toArray, List.getElem?_cons_succ, List.getElem?_cons_zero]; rfl) (by kernel_rfl) (by kernel_rfl) (by kernel_rfl) (by exact fun _ _ _ h => h) (Or.inl ⟨by rfl, ?qchy12⟩) (by assumption) ?qcrest12
            case qchy12 => (intro w hSw; (try dsimp only at hSw); go_simp; try with_reducible rfl)
            try simp only [Act.put, List.setIfInBounds_toArray, List.set_cons_zero, List.set_cons_succ]
            refine wpAnyH_take (i := 13) (v := ?qcv13) (by simp only [List.getElem?_toArray, List.getElem?_cons_succ, List.getElem?_cons_zero]; rfl) (by kernel_rfl) (by kernel_rfl) (by kernel_rfl) (by exact fun _ _ _ h => h) (Or.inl ⟨by rfl, ?qchy13⟩) (by assumption) ?qcrest13
            case qchy13 => (intro w hSw; (try dsimp only at hSw); go_simp; try with_reducible rfl)
            try simp only [Act.put, List.setIfInBounds_toArray, List.set_cons_zero, List.set_cons_succ]
            refine wpAnyH_take (i := 14) (v := ?qcv14) (by simp only [List.getElem?_toArray, List.getElem?_cons_succ, List.getElem?_cons_zero]; rfl) (by kernel_rfl) (by kernel_rfl) (by kernel_rfl) (by exact fun _ _ _ h => h) (Or.inl ⟨by rfl, ?qchy14⟩) (by assumption) ?qcrest14
            case qchy14 => (intro w hSw; (try dsimp only at hSw); go_simp; try with_reducible rfl)
            try simp only [Act.put, List.setIfInBounds_toArray, List.set_cons_zero, List.set_cons_succ]
            refine wpAnyH_take (i := 15) (v := ?qcv15) (by simp only [List.getElem?_toArray, List.getElem?_cons_succ, List.getElem?_cons_zero]; rfl) (by kernel_rfl) (by kernel_rfl) (by kernel_rfl) (by exact fun _ _ _ h => h) (Or.inl ⟨by rfl, ?qchy15⟩) (by assumption) ?qcrest15
            case qchy15 => (intro w hSw; (try dsimp only at hSw); go_simp; try with_reducible rfl)
            try simp only [Act.put, List.setIfInBounds_toArray, List.set_cons_zero, List.set_cons_succ]
            refine wpAnyH_take (i := 16) (v := ?qcv16) (by simp only [List.getElem?_toArray, List.getElem?_cons_succ, List.getElem?_cons_zero]; rfl) (by kernel_rfl) (by kernel_rfl) (by kernel_rfl) (by exact fun _ _ _ h => h) (Or.inl ⟨by rfl, ?qchy16⟩) (by assumption) ?qcrest16
            case qchy16 => (intro w hSw; (try dsimp only at hSw); go_simp; try with_reducible rfl)
            try simp only [Act.put, List.setIfInBounds_toArray, List.set_cons_zero, List.set_cons_succ]
            refine wpAnyH_take (i := 17) (v := ?qcv17) (by simp only [List.getElem?_toArray, List.getElem?_cons_succ, List.getElem?_cons_zero]; rfl) (by kernel_rfl) (by kernel_rfl) (by kernel_rfl) (by exact fun _ _ _ h => h) (Or.inl ⟨by rfl, ?qchy17⟩) (by assumption) ?qcrest17
            case qchy17 => (intro w hSw; (try dsimp only at hSw); go_simp; try with_reducible rfl)
            try simp only [Act.put, List.setIfInBounds_toArray, List.set_cons_zero, List.set_cons_succ]
            refine wpAnyH_take (i := 18) (v := ?qcv18) (by simp only [List.getElem?_toArray, List.getElem?_cons_succ, List.getElem?_cons_zero]; rfl) (by kernel_rfl) (by kernel_rfl) (by kernel_rfl) (by exact fun _ _ _ h => h) (Or.inl ⟨by rfl, ?qchy18⟩) (by assumption) ?qcrest18
            case qchy18 => (intro w hSw; (try dsimp only at hSw); go_simp; try with_reducible rfl)
            try simp only [Act.put, List.setIfInBounds_toArray, List.set_cons_zero, List.set_cons_succ]
            refine wpAnyH_take (i := 19) (v := ?qcv19) (by simp only [List.getElem?_toArray, List.getElem?_cons_succ, List.getElem?_cons_zero]; rfl) (by kernel_rfl) (by kernel_rfl) (by kernel_rfl) (by exact fun _ _ _ h => h) (Or.inl ⟨by rfl, ?qchy19⟩) (by assumption) ?qcrest19
            case qchy19 => (intro w hSw; (try dsimp only at hSw); go_simp; try with_reducible rfl)
            try simp only [Act.put, List.setIfInBounds_toArray, List.set_cons_zero, List.set_cons_succ]
            refine wpAnyH_done (by kernel_rfl) ?_ _
            go_wp2
            go_roundw
            case rel => exact ⟨i + 1, _, by omega, by go_num, rfl, HG2, bW7⟩
            case measure => simp [intOf]; omega
          · have HG2 : Hid (false = goodV L m bs ss (i + 1)) := by show _ = _; rw [hGs.out, ← HG.out, decide_eq_false (show ¬ m ≤ i + 2 by omega)]; simp
            have hle2 : 2 < (m : Int) - (i : Int) := by omega
            clear hGs HG
            refine wp_region_held_drew (S := (fun w' => w'.cell? ⟨kp, 0, none⟩ = some (.slice (some ⟨g, 0, none⟩) m d) ∧ (convert 22 9 (.slice (some ⟨ab, 0, none⟩) 32 32)).run Tryd.prog w' = .ok (.string X1) w' ∧ (convert 22 9 (.slice (some ⟨gb, off + 52, none⟩) 32 (c - 52))).run Tryd.prog w' = .ok (.string X2) w')) (by kernel_rfl) ?qbhS (fun hHeld => ?_)
            case qbhS => (first | with_reducible exact HALL.out _ b6d)
            refine wpAnyH_take (i := 0) (v := ?qbv0) (by simp only [List.getElem?_toArray, List.getElem?_cons_zero]; rfl) (by kernel_rfl) (by kernel_rfl) (by kernel_rfl) (by exact fun _ _ _ h => h) (Or.inl ⟨by rfl, ?qbhy0⟩) (by assumption) ?qbrest0
            case qbhy0 => (intro w hSw; (try dsimp only at hSw); go_simp; try with_reducible rfl)
            try simp only [Act.put, List.setIfInBounds_toArray, List.set_cons_zero, List.set_cons_succ]
            refine wpAnyH_take (i := 1) (v := ?qbv1) (by simp only [List.getElem?_toArray, List.getElem?_cons_succ, List.getElem?_cons_zero]; rfl) (by kernel_rfl) (by kernel_rfl) (by kernel_rfl) (by exact fun _ _ _ h => h) (Or.inl ⟨by rfl, ?qbhy1⟩) (by assumption) ?qbrest1
            case qbhy1 => (intro w hSw; (try dsimp only at hSw); go_simp; try with_reducible rfl)
            try simp only [Act.put, List.setIfInBounds_toArray, List.set_cons_zero, List.set_cons_succ]
            refine wpAnyH_take (i := 2) (v := ?qbv2) (by simp only [List.getElem?_toArray, List.getElem?_cons_succ, List.getElem?_cons_zero]; rfl) (by kernel_rfl) (by kernel_rfl) (by kernel_rfl) (by exact fun _ _ _ h => h) (Or.inl ⟨by rfl, ?qbhy2⟩) (by assumption) ?qbrest2
            case qbhy2 => (intro w hSw; (try dsimp only at hSw); go_simp; try with_reducible rfl)
            try simp only [Act.put, List.setIfInBounds_toArray, List.set_cons_zero, List.set_cons_succ]
            refine wpAnyH_take (i := 3) (v := ?qbv3) (by simp only [List.getElem?_toArray, List.getElem?_cons_succ, List.getElem?_cons_zero]; rfl) (by kernel_rfl) (by kernel_rfl) (by kernel_rfl) (by exact fun _ _ _ h => h) (Or.inl ⟨by rfl, ?qbhy3⟩) (by assumption) ?qbrest3
            case qbhy3 => (intro w hSw; (try dsimp only at hSw); go_simp; try with_reducible rfl)
            try simp only [Act.put, List.setIfInBounds_toArray, List.set_cons_zero, List.set_cons_succ]
            refine wpAnyH_take (i := 4) (v := ?qbv4) (by simp only [List.getElem?_toArray, List.getElem?_cons_succ, List.getElem?_cons_zero]; rfl) (by kernel_rfl) (by kernel_rfl) (by kernel_rfl) (by exact fun _ _ _ h => h) (Or.inl ⟨by rfl, ?qbhy4⟩) (by assumption) ?qbrest4
            case qbhy4 => (intro w hSw; (try dsimp only at hSw); go_simp; try with_reducible rfl)
            try simp only [Act.put, List.setIfInBounds_toArray, List.set_cons_zero, List.set_cons_succ]
            refine wpAnyH_take (i := 5) (v := ?qbv5) (by simp only [List.getElem?_toArray, List.getElem?_cons_succ, List.getElem?_cons_zero]; rfl) (by kernel_rfl) (by kernel_rfl) (by kernel_rfl) (by exact fun _ _ _ h => h) (Or.inl ⟨by rfl, ?qbhy5⟩) (by assumption) ?qbrest5
            case qbhy5 => (intro w hSw; (try dsimp only at hSw); go_simp; try with_reducible rfl)
            try simp only [Act.put, List.setIfInBounds_toArray, List.set_cons_zero, List.set_cons_succ]
            refine wpAnyH_take (i := 6) (v := ?qbv6) (by simp only [List.getElem?_toArray, List.getElem?_cons_succ, List.getElem?_cons_zero]; rfl) (by kernel_rfl) (by kernel_rfl) (by kernel_rfl) (by exact fun _ _ _ h => h) (Or.inl ⟨by rfl, ?qbhy6⟩) (by assumption) ?qbrest6
            case qbhy6 => (intro w hSw; (try dsimp only at hSw); go_simp; try with_reducible rfl)
            try simp only [Act.put, List.setIfInBounds_toArray, List.set_cons_zero, List.set_cons_succ]
            refine wpAnyH_take (i := 7) (v := ?qbv7) (by simp only [List.getElem?_toArray, List.getElem?_cons_succ, List.getElem?_cons_zero]; rfl) (by kernel_rfl) (by kernel_rfl) (by kernel_rfl) (by exact fun _ _ _ h => h) (Or.inl ⟨by rfl, ?qbhy7⟩) (by assumption) ?qbrest7
            case qbhy7 => (intro w hSw; (try dsimp only at hSw); go_simp; try with_reducible rfl)
            try simp only [Act.put, List.setIfInBounds_toArray, List.set_cons_zero, List.set_cons_succ]
            refine wpAnyH_take (i := 8) (v := ?qbv8) (by simp only [List.getElem?_toArray, List.getElem?_cons_succ, List.getElem?_cons_zero]; rfl) (by kernel_rfl) (by kernel_rfl) (by kernel_rfl) (by exact fun _ _ _ h => h) (Or.inl ⟨by rfl, ?qbhy8⟩) (by assumption) ?qbrest8
            case qbhy8 => (intro w hSw; (try dsimp only at hSw); go_simp; try with_reducible rfl)
            try simp only [Act.put, List.setIfInBounds_toArray, List.set_cons_zero, List.set_cons_succ]
            refine wpAnyH_take (i := 9) (v := ?qbv9) (by simp only [List.getElem?_toArray, List.getElem?_cons_succ, List.getElem?_cons_zero]; rfl) (by kernel_rfl) (by kernel_rfl) (by kernel_rfl) (by exact fun _ _ _ h => h) (Or.inl ⟨by rfl, ?qbhy9⟩) (by assumption) ?qbrest9
            case qbhy9 => (intro w hSw; (try dsimp only at hSw); go_simp; try with_reducible rfl)
            try simp only [Act.put, List.setIfInBounds_toArray, List.set_cons_zero, List.set_cons_succ]
            refine wpAnyH_take (i := 10) (v := ?qbv10) (by simp only [List.getElem?_toArray, List.getElem?_cons_succ, List.getElem?_cons_zero]; rfl) (by kernel_rfl) (by kernel_rfl) (by kernel_rfl) (by exact fun _ _ _ h => h) (Or.inl ⟨by rfl, ?qbhy10⟩) (by assumption) ?qbrest10
            case qbhy10 => (intro w hSw; (try dsimp only at hSw); go_simp; try with_reducible rfl)
            try simp only [Act.put, List.setIfInBounds_toArray, List.set_cons_zero, List.set_cons_succ]
            refine wpAnyH_take (i := 11) (v := undef) (by simp only [List.getElem?_toArray, List.getElem?_cons_succ, List.getElem?_cons_zero]; rfl) (by kernel_rfl) (by kernel_rfl) (by kernel_rfl) (by exact fun _ _ _ h => h) (Or.inr ⟨by rfl, rfl⟩) (by assumption) ?_
            try simp only [Act.put, List.setIfInBounds_toArray, List.set_cons_zero, List.set_cons_succ]
            refine wpAnyH_take (i := 12) (v := undef) (by simp only [List.getElem?_toArray, List.getElem?_cons_succ, List.getElem?_cons_zero]; rfl) (by kernel_rfl) (by kernel_rfl) (by kernel_rfl) (by exact fun _ _ _ h => h) (Or.inr ⟨by rfl, rfl⟩) (by assumption) ?_
            try simp only [Act.put, List.setIfInBounds_toArray, List.set_cons_zero, List.set_cons_succ]
            refine wpAnyH_take (i := 13) (v := undef) (by simp only [List.getElem?_toArray, List.getElem?_cons_succ, List.getElem?_cons_zero]; rfl) (by kernel_rfl) (by kernel_rfl) (by kernel_rfl) (by exact fun _ _ _ h => h) (Or.inr ⟨by rfl, rfl⟩) (by assumption) ?_
            try simp only [Act.put, List.setIfInBounds_toArray, List.set_cons_zero, List.set_cons_succ]
            refine wpAnyH_take (i := 14) (v := undef) (by simp only [List.getElem?_toArray, List.getElem?_cons_succ, List.getElem?_cons_zero]; rfl) (by kernel_rfl) (by kernel_rfl) (by kernel_rfl) (by exact fun _ _ _ h => h) (Or.inr ⟨by rfl, rfl⟩) (by assumption) ?_
            try simp only [Act.put, List.setIfInBounds_toArray, List.set_cons_zero, List.set_cons_succ]
            refine wpAnyH_take (i := 15) (v := undef) (by simp only [List.getElem?_toArray, List.getElem?_cons_succ, List.getElem?_cons_zero]; rfl) (by kernel_rfl) (by kernel_rfl) (by kernel_rfl) (by exact fun _ _ _ h => h) (Or.inr ⟨by rfl, rfl⟩) (by assumption) ?_
            try simp only [Act.put, List.setIfInBounds_toArray, List.set_cons_zero, List.set_cons_succ]
            refine wpAnyH_take (i := 16) (v := undef) (by simp only [List.getElem?_toArray, List.getElem?_cons_succ, List.getElem?_cons_zero]; rfl) (by kernel_rfl) (by kernel_rfl) (by kernel_rfl) (by exact fun _ _ _ h => h) (Or.inr ⟨by rfl, rfl⟩) (by assumption) ?_
            try simp only [Act.put, List.setIfInBounds_toArray, List.set_cons_zero, List.set_cons_succ]
            refine wpAnyH_take (i := 17) (v := ?qbv17) (by simp only [List.getElem?_toArray, List.getElem?_cons_succ, List.getElem?_cons_zero]; rfl) (by kernel_rfl) (by kernel_rfl) (by kernel_rfl) (by exact fun _ _ _ h => h) (Or.inl ⟨by rfl, ?qbhy17⟩) (by assumption) ?qbrest17
            case qbhy17 => (intro w hSw; (try dsimp only at hSw); go_simp; try with_reducible rfl)
            try simp only [Act.put, List.setIfInBounds_toArray, List.set_cons_zero, List.set_cons_succ]
            refine wpAnyH_take (i := 18) (v := ?qbv18) (by simp only [List.getElem?_toArray, List.getElem?_cons_succ, List.getElem?_cons_zero]; rfl) (by kernel_rfl) (by kernel_rfl) (by kernel_rfl) (by exact fun _ _ _ h => h) (Or.inl ⟨by rfl, ?qbhy18⟩) (by assumption) ?qbrest18
            case qbhy18 => (intro w hSw; (try dsimp only at hSw); go_simp; try with_reducible rfl)
            try simp only [Act.put, List.setIfInBounds_toArray, List.set_cons_zero, List.set_cons_succ]
            refine wpAnyH_take (i := 19) (v := ?qbv19) (by simp only [List.getElem?_toArray, List.getElem?_cons_succ, List.getElem?_cons_zero]; rfl) (by kernel_rfl) (by kernel_rfl) (by kernel_rfl) (by exact fun _ _ _ h => h) (Or.inl ⟨by rfl, ?qbhy19⟩) (by assumption) ?qbrest19
            case qbhy19 => (intro w hSw; (try dsimp only at hSw); go_simp; try with_reducible rfl)
            try simp only [Act.put, List.setIfInBounds_toArray, List.set_cons_zero, List.set_cons_succ]
            refine wpAnyH_done (by kernel_rfl) ?_ _
            go_wp2
            go_roundw
            case rel => exact ⟨i + 1, _, by omega, by go_num, rfl, HG2, bW7⟩
            case measure => simp [intOf]; omega
        · have HG2 : Hid (true = goodV L m bs ss (i + 1)) := by show _ = _; rw [hGs.out, ← HG.out]; simp
          clear hGs HG
          refine wp_region_held_drew (S := (fun w' => w'.cell? ⟨kp, 0, none⟩ = some (.slice (some ⟨g, 0, none⟩) m d) ∧ (convert 22 9 (.slice (some ⟨ab, 0, none⟩) 32 32)).run Tryd.prog w' = .ok (.string X1) w' ∧ (convert 22 9 (.slice (some ⟨gb, off + 52, none⟩) 32 (c - 52))).run Tryd.prog w' = .ok (.string X2) w')) (by kernel_rfl) ?qahS (fun hHeld => ?_)
          case qahS => (first | with_reducible exact HALL.out _ b6d)
          refine wpAnyH_take (i := 0) (v := ?qav0) (by simp only [List.getElem?_toArray, List.getElem?_cons_zero]; rfl) (by kernel_rfl) (by kernel_rfl) (by kernel_rfl) (by exact fun _ _ _ h => h) (Or.inl ⟨by rfl, ?qahy0⟩) (by assumption) ?qarest0
          case qahy0 => (intro w hSw; (try dsimp only at hSw); go_simp; try with_reducible rfl)
          try simp only [Act.put, List.setIfInBounds_toArray, List.set_cons_zero, List.set_cons_succ]
          refine wpAnyH_take (i := 1) (v := ?qav1) (by simp only [List.getElem?_toArray, List.getElem?_cons_succ, List.getElem?_cons_zero]; rfl) (by kernel_rfl) (by kernel_rfl) (by kernel_rfl) (by exact fun _ _ _ h => h) (Or.inl ⟨by rfl, ?qahy1⟩) (by assumption) ?qarest1
          case qahy1 => (intro w hSw; (try dsimp only at hSw); go_simp; try with_reducible rfl)
          try simp only [Act.put, List.setIfInBounds_toArray, List.set_cons_zero, List.set_cons_succ]
          refine wpAnyH_take (i := 2) (v := undef) (by simp only [List.getElem?_toArray, List.getElem?_cons_succ, List.getElem?_cons_zero]; rfl) (by kernel_rfl) (by kernel_rfl) (by kernel_rfl) (by exact fun _ _ _ h => h) (Or.inr ⟨by rfl, rfl⟩) (by assumption) ?_
          try simp only [Act.put, List.setIfInBounds_toArray, List.set_cons_zero, List.set_cons_succ]
          refine wpAnyH_take (i := 3) (v := undef) (by simp only [List.getElem?_toArray, List.getElem?_cons_succ, List.getElem?_cons_zero]; rfl) (by kernel_rfl) (by kernel_rfl) (by kernel_rfl) (by exact fun _ _ _ h => h) (Or.inr ⟨by rfl, rfl⟩) (by assumption) ?_
          try simp only [Act.put, List.setIfInBounds_toArray, List.set_cons_zero, List.set_cons_succ]
          refine wpAnyH_take (i := 4) (v := undef) (by simp only [List.getElem?_toArray, List.getElem?_cons_succ, List.getElem?_cons_zero]; rfl) (by kernel_rfl) (by kernel_rfl) (by kernel_rfl) (by exact fun _ _ _ h => h) (Or.inr ⟨by rfl, rfl⟩) (by assumption) ?_
          try simp only [Act.put, List.setIfInBounds_toArray, List.set_cons_zero, List.set_cons_succ]
          refine wpAnyH_take (i := 5) (v := undef) (by simp only [List.getElem?_toArray, List.getElem?_cons_succ, List.getElem?_cons_zero]; rfl) (by kernel_rfl) (by kernel_rfl) (by kernel_rfl) (by exact fun _ _ _ h => h) (Or.inr ⟨by rfl, rfl⟩) (by assumption) ?_
          try simp only [Act.put, List.setIfInBounds_toArray, List.set_cons_zero, List.set_cons_succ]
          refine wpAnyH_take (i := 6) (v := undef) (by simp only [List.getElem?_toArray, List.getElem?_cons_succ, List.getElem?_cons_zero]; rfl) (by kernel_rfl) (by kernel_rfl) (by kernel_rfl) (by exact fun _ _ _ h => h) (Or.inr ⟨by rfl, rfl⟩) (by assumption) ?_
          try simp only [Act.put, List.setIfInBounds_toArray, List.set_cons_zero, List.set_cons_succ]
          refine wpAnyH_take (i := 7) (v := undef) (by simp only [List.getElem?_toArray, List.getElem?_cons_succ, List.getElem?_cons_zero]; rfl) (by kernel_rfl) (by kernel_rfl) (by kernel_rfl) (by exact fun _ _ _ h => h) (Or.inr ⟨by rfl, rfl⟩) (by assumption) ?_
          try simp only [Act.put, List.setIfInBounds_toArray, List.set_cons_zero, List.set_cons_succ]
          refine wpAnyH_take (i := 8) (v := undef) (by simp only [List.getElem?_toArray, List.getElem?_cons_succ, List.getElem?_cons_zero]; rfl) (by kernel_rfl) (by kernel_rfl) (by kernel_rfl) (by exact fun _ _ _ h => h) (Or.inr ⟨by rfl, rfl⟩) (by assumption) ?_
          try simp only [Act.put, List.setIfInBounds_toArray, List.set_cons_zero, List.set_cons_succ]
          refine wpAnyH_take (i := 9) (v := undef) (by simp only [List.getElem?_toArray, List.getElem?_cons_succ, List.getElem?_cons_zero]; rfl) (by kernel_rfl) (by kernel_rfl) (by kernel_rfl) (by exact fun _ _ _ h => h) (Or.inr ⟨by rfl, rfl⟩) (by assumption) ?_
          try simp only [Act.put, List.setIfInBounds_toArray, List.set_cons_zero, List.set_cons_succ]
          refine wpAnyH_take (i := 10) (v := undef) (by simp only [List.getElem?_toArray, List.getElem?_cons_succ, List.getElem?_cons_zero]; rfl) (by kernel_rfl) (by kernel_rfl) (by kernel_rfl) (by exact fun _ _ _ h => h) (Or.inr ⟨by rfl, rfl⟩) (by assumption) ?_
          try simp only [Act.put, List.setIfInBounds_toArray, List.set_cons_zero, List.set_cons_succ]
          refine wpAnyH_take (i := 11) (v := undef) (by simp only [List.getElem?_toArray, List.getElem?_cons_succ, List.getElem?_cons_zero]; rfl) (by kernel_rfl) (by kernel_rfl) (by kernel_rfl) (by exact fun _ _ _ h => h) (Or.inr ⟨by rfl, rfl⟩) (by assumption) ?_
          try simp only [Act.put, List.setIfInBounds_toArray, List.set_cons_zero, List.set_cons_succ]
          refine wpAnyH_take (i := 12) (v := undef) (by simp only [List.getElem?_toArray, List.getElem?_cons_succ, List.getElem?_cons_zero]; rfl) (by kernel_rfl) (by kernel_rfl) (by kernel_rfl) (by exact fun _ _ _ h => h) (Or.inr ⟨by rfl, rfl⟩) (by assumption) ?_
          try simp only [Act.put, List.setIfInBounds_toArray, List.set_cons_zero, List.set_cons_succ]
          refine wpAnyH_take (i := 13) (v := undef) (by simp only [List.getElem?_toArray, List.getElem?_cons_succ, List.getElem?_cons_zero]; rfl) (by kernel_rfl) (by kernel_rfl) (by kernel_rfl) (by exact fun _ _ _ h => h) (Or.inr ⟨by rfl, rfl⟩) (by assumption) ?_
          try simp only [Act.put, List.setIfInBounds_toArray, List.set_cons_zero, List.set_cons_succ]
          refine wpAnyH_take (i := 14) (v := undef) (by simp only [List.getElem?_toArray, List.getElem?_cons_succ, List.getElem?_cons_zero]; rfl) (by kernel_rfl) (by kernel_rfl) (by kernel_rfl) (by exact fun _ _ _ h => h) (Or.inr ⟨by rfl, rfl⟩) (by assumption) ?_
          try simp only [Act.put, List.setIfInBounds_toArray, List.set_cons_zero, List.set_cons_succ]
          refine wpAnyH_take (i := 15) (v := undef) (by simp only [List.getElem?_toArray, List.getElem?_cons_succ, List.getElem?_cons_zero]; rfl) (by kernel_rfl) (by kernel_rfl) (by kernel_rfl) (by exact fun _ _ _ h => h) (Or.inr ⟨by rfl, rfl⟩) (by assumption) ?_
          try simp only [Act.put, List.setIfInBounds_toArray, List.set_cons_zero, List.set_cons_succ]
          refine wpAnyH_take (i := 16) (v := undef) (by simp only [List.getElem?_toArray, List.getElem?_cons_succ, List.getElem?_cons_zero]; rfl) (by kernel_rfl) (by kernel_rfl) (by kernel_rfl) (by exact fun _ _ _ h => h) (Or.inr ⟨by rfl, rfl⟩) (by assumption) ?_
          try simp only [Act.put, List.setIfInBounds_toArray, List.set_cons_zero, List.set_cons_succ]
          refine wpAnyH_take (i := 17) (v := undef) (by simp only [List.getElem?_toArray, List.getElem?_cons_succ, List.getElem?_cons_zero]; rfl) (by kernel_rfl) (by kernel_rfl) (by kernel_rfl) (by exact fun _ _ _ h => h) (Or.inr ⟨by rfl, rfl⟩) (by assumption) ?_
          try simp only [Act.put, List.setIfInBounds_toArray, List.set_cons_zero, List.set_cons_succ]
          refine wpAnyH_take (i := 18) (v := ?qav18) (by simp only [List.getElem?_toArray, List.getElem?_cons_succ, List.getElem?_cons_zero]; rfl) (by kernel_rfl) (by kernel_rfl) (by kernel_rfl) (by exact fun _ _ _ h => h) (Or.inl ⟨by rfl, ?qahy18⟩) (by assumption) ?qarest18
          case qahy18 => (intro w hSw; (try dsimp only at hSw); go_simp; try with_reducible rfl)
          try simp only [Act.put, List.setIfInBounds_toArray, List.set_cons_zero, List.set_cons_succ]
          refine wpAnyH_take (i := 19) (v := ?qav19) (by simp only [List.getElem?_toArray, List.getElem?_cons_succ, List.getElem?_cons_zero]; rfl) (by kernel_rfl) (by kernel_rfl) (by kernel_rfl) (by exact fun _ _ _ h => h) (Or.inl ⟨by rfl, ?qahy19⟩) (by assumption) ?qarest19
          case qahy19 => (intro w hSw; (try dsimp only at hSw); go_simp; try with_reducible rfl)
          try simp only [Act.put, List.setIfInBounds_toArray, List.set_cons_zero, List.set_cons_succ]
          refine wpAnyH_done (by kernel_rfl) ?_ _
          go_wp2
          go_roundw
          case rel => exact ⟨i + 1, _, by omega, by go_num, rfl, HG2, bW7⟩
          case measure => simp [intOf]; omega
    · obtain rfl : i = m := by omega
      have HGs : Hid (G = sealedV cur fm bs ss) := by show _ = _; rw [HG.out, ← hgd.out bs ss, hlen, HL.out]
      have HR := HR0.out.below hbel
      have hii : ¬ (i : Int) < (i : Int) := by omega
      have hsr := HS0.out.below b0r
      have hbz := hsr.bnd
      have HNM : Hid (∀ p k : Nat, p + k ≤ 52 → numV bs (p : Int) (k : Int) = numV zs (p : Int) (k : Int)) := fun p k h => by rw [HBS.out]; exact numV_take zs p k 52 h (by omega)
      obtain ⟨SP, hSP⟩ : ∃ V, V = numV zs ((48 : Nat) : Int) ((4 : Nat) : Int) := ⟨_, rfl⟩
      obtain ⟨V0, hV0⟩ : ∃ V, V = numV zs ((0 : Nat) : Int) ((8 : Nat) : Int) := ⟨_, rfl⟩
      obtain ⟨V1, hV1⟩ : ∃ V, V = numV zs ((8 : Nat) : Int) ((4 : Nat) : Int) := ⟨_, rfl⟩
      have v0b : V0 < 18446744073709551616 := by rw [hV0]; exact numV_lt zs 0 8 hbz
      have v1b : V1 < 4294967296 := by rw [hV1]; exact numV_lt zs 8 4 hbz
      have HOB : Hid (opE cur fm zs now = if G = false then 5 else if SP ≠ 0 then 4 else if ckMay (IntKind.i64.wrap (V0 : Int)) (IntKind.i64.wrap (V1 : Int)) = false then 6 else if now < IntKind.i64.wrap (V0 : Int) ∨ IntKind.i64.wrap (V0 : Int) + IntKind.i64.wrap (V1 : Int) < now then 8 else 0) := by
        show _ = _
        rw [HE2.out, HGs.out, hSP, hV0, hV1, ← HNM.out 48 4 (by omega), ← HNM.out 0 8 (by omega), ← HNM.out 8 4 (by omega), HBS.out, HSS.out]
        rfl
      have HSP := (show Hid _ from hSP)
      have HV0 := (show Hid _ from hV0)
      have HV1 := (show Hid _ from hV1)
      have nsp := rnumber_any (some ⟨gb, off, none⟩) 84 c zs ((48 : Nat) : Int) ((4 : Nat) : Int) wr hsr
      have n0 := rnumber_any (some ⟨gb, off, none⟩) 84 c zs ((0 : Nat) : Int) ((8 : Nat) : Int) wr hsr
      have n1 := rnumber_any (some ⟨gb, off, none⟩) 84 c zs ((8 : Nat) : Int) ((4 : Nat) : Int) wr hsr
      rw [← hSP] at nsp
      rw [← hV0] at n0
      rw [← hV1] at n1
      clear hSP hV0 hV1
      clear HG HSS HDD HT hst HCS HEACH HL hgd him hi HE2 HGs
      cases G
      case false =>
        have HE : Hid (opE cur fm zs now = 5) := by show _ = _; rw [HOB.out, if_pos rfl]
        have y0 := HR.cell 0 _ rfl
        have y1 := HR.cell 1 _ rfl
        have y2 := HR.cell 2 _ rfl
        have y3 := HR.cell 3 _ rfl
        have y4 := HR.cell 4 _ rfl
        have y5 := HR.cell 5 _ rfl
        have y6 := HR.cell 6 _ rfl
        have y7 := HR.cell 7 _ rfl
        have y8 := HR.cell 8 _ rfl
        have y9 := HR.cell 9 _ rfl
        have y10 := HR.cell 10 _ rfl
        have y11 := HR.cell 11 _ rfl
        have y12 := HR.cell 12 _ rfl
        have y0f := HR.free 0
        have y1f := HR.free 1
        have y2f := HR.free 2
        have y3f := HR.free 3
        have y4f := HR.free 4
        have y5f := HR.free 5
        have y6f := HR.free 6
        have y7f := HR.free 7
        have y8f := HR.free 8
        have y9f := HR.free 9
        have y10f := HR.free 10
        have y11f := HR.free 11
        have y12f := HR.free 12
        have hR9 := (((((((((((((HR.set 0 (.int .i64 0)).set 1 (.int .i64 0)).set 2 (.int .u16 0)).set 3 (.int .u16 0)).set 4 (.int .u32 0)).set 5 (.int .u32 0)).set 6 (.int .u32 0)).set 7 (.int .u32 0)).set 8 (.int .u32 0)).set 9 (.int .u16 0)).set 10 (.int .u16 0)).set 11 (.int .u32 0)).set 12 (.int .u32 0))
        have hb9 := (((((((((((((b0r.setCell (p := ⟨w.heap.size, 0, none⟩) (Nat.le_refl _) (.int .i64 0)).setCell (p := ⟨w.heap.size, 1, none⟩) (Nat.le_refl _) (.int .i64 0)).setCell (p := ⟨w.heap.size, 2, none⟩) (Nat.le_refl _) (.int .u16 0)).setCell (p := ⟨w.heap.size, 3, none⟩) (Nat.le_refl _) (.int .u16 0)).setCell (p := ⟨w.heap.size, 4, none⟩) (Nat.le_refl _) (.int .u32 0)).setCell (p := ⟨w.heap.size, 5, none⟩) (Nat.le_refl _) (.int .u32 0)).setCell (p := ⟨w.heap.size, 6, none⟩) (Nat.le_refl _) (.int .u32 0)).setCell (p := ⟨w.heap.size, 7, none⟩) (Nat.le_refl _) (.int .u32 0)).setCell (p := ⟨w.heap.size, 8, none⟩) (Nat.le_refl _) (.int .u32 0)).setCell (p := ⟨w.heap.size, 9, none⟩) (Nat.le_refl _) (.int .u16 0)).setCell (p := ⟨w.heap.size, 10, none⟩) (Nat.le_refl _) (.int .u16 0)).setCell (p := ⟨w.heap.size, 11, none⟩) (Nat.le_refl _) (.int .u32 0)).setCell (p := ⟨w.heap.size, 12, none⟩) (Nat.le_refl _) (.int .u32 0))
        have HRG := (show Hid _ from hR9.range)
        have HBB := (show Hid _ from hb9)
        clear hR9 hb9 HR b0r
        go_wp2
        try simp only [Exit.inBlock, Exit.then]
        refine bodyPost_ret (results_cellE2 rfl _ _ w.heap.size 0 [.int .i64 0, .int .i64 0, .int .u16 0, .int .u16 0, .int .u32 0, .int .u32 0, .int .u32 0, .int .u32 0, .int .u32 0, .int .u16 0, .int .u16 0, .int .u32 0, .int .u32 0] _ rfl HRG.out Tryd.underlying39 rfl (by kernel_rfl)) rfl ?_
        exact ⟨.inr ⟨by rw [HE.out]; decide, by rw [HE.out]; rfl⟩, HBB.out⟩
      case true =>
      go_wp2_with fail
      refine nsp.mono ?_
      rintro e w1 ⟨rfl, rfl⟩
      by_cases hsp : SP = 0
      case neg =>
        have hspb : ((SP : Int) != 0) = true := by simp; omega
        have HE : Hid (opE cur fm zs now = 4) := by show _ = _; rw [HOB.out, if_neg (by decide), if_pos hsp]
        have y0 := HR.cell 0 _ rfl
        have y1 := HR.cell 1 _ rfl
        have y2 := HR.cell 2 _ rfl
        have y3 := HR.cell 3 _ rfl
        have y4 := HR.cell 4 _ rfl
        have y5 := HR.cell 5 _ rfl
        have y6 := HR.cell 6 _ rfl
        have y7 := HR.cell 7 _ rfl
        have y8 := HR.cell 8 _ rfl
        have y9 := HR.cell 9 _ rfl
        have y10 := HR.cell 10 _ rfl
        have y11 := HR.cell 11 _ rfl
        have y12 := HR.cell 12 _ rfl
        have y0f := HR.free 0
        have y1f := HR.free 1
        have y2f := HR.free 2
        have y3f := HR.free 3
        have y4f := HR.free 4
        have y5f := HR.free 5
        have y6f := HR.free 6
        have y7f := HR.free 7
        have y8f := HR.free 8
        have y9f := HR.free 9
        have y10f := HR.free 10
        have y11f := HR.free 11
        have y12f := HR.free 12
        have hR9 := (((((((((((((HR.set 0 (.int .i64 0)).set 1 (.int .i64 0)).set 2 (.int .u16 0)).set 3 (.int .u16 0)).set 4 (.int .u32 0)).set 5 (.int .u32 0)).set 6 (.int .u32 0)).set 7 (.int .u32 0)).set 8 (.int .u32 0)).set 9 (.int .u16 0)).set 10 (.int .u16 0)).set 11 (.int .u32 0)).set 12 (.int .u32 0))
        have hb9 := (((((((((((((b0r.setCell (p := ⟨w.heap.size, 0, none⟩) (Nat.le_refl _) (.int .i64 0)).setCell (p := ⟨w.heap.size, 1, none⟩) (Nat.le_refl _) (.int .i64 0)).setCell (p := ⟨w.heap.size, 2, none⟩) (Nat.le_refl _) (.int .u16 0)).setCell (p := ⟨w.heap.size, 3, none⟩) (Nat.le_refl _) (.int .u16 0)).setCell (p := ⟨w.heap.size, 4, none⟩) (Nat.le_refl _) (.int .u32 0)).setCell (p := ⟨w.heap.size, 5, none⟩) (Nat.le_refl _) (.int .u32 0)).setCell (p := ⟨w.heap.size, 6, none⟩) (Nat.le_refl _) (.int .u32 0)).setCell (p := ⟨w.heap.size, 7, none⟩) (Nat.le_refl _) (.int .u32 0)).setCell (p := ⟨w.heap.size, 8, none⟩) (Nat.le_refl _) (.int .u32 0)).setCell (p := ⟨w.heap.size, 9, none⟩) (Nat.le_refl _) (.int .u16 0)).setCell (p := ⟨w.heap.size, 10, none⟩) (Nat.le_refl _) (.int .u16 0)).setCell (p := ⟨w.heap.size, 11, none⟩) (Nat.le_refl _) (.int .u32 0)).setCell (p := ⟨w.heap.size, 12, none⟩) (Nat.le_refl _) (.int .u32 0))
        have HRG := (show Hid _ from hR9.range)
        have HBB := (show Hid _ from hb9)
        clear hR9 hb9 HR b0r
        go_wp2
        try simp only [Exit.inBlock, Exit.then]
        refine bodyPost_ret (results_cellE2 rfl _ _ w.heap.size 0 [.int .i64 0, .int .i64 0, .int .u16 0, .int .u16 0, .int .u32 0, .int .u32 0, .int .u32 0, .int .u32 0, .int .u32 0, .int .u16 0, .int .u16 0, .int .u32 0, .int .u32 0] _ rfl HRG.out Tryd.underlying39 rfl (by kernel_rfl)) rfl ?_
        exact ⟨.inr ⟨by rw [HE.out]; decide, by rw [HE.out]; rfl⟩, HBB.out⟩
      case pos =>
      have hspb : ((SP : Int) != 0) = false := by simp; omega
      have HOB2 : Hid (opE cur fm zs now = if ckMay (IntKind.i64.wrap (V0 : Int)) (IntKind.i64.wrap (V1 : Int)) = false then 6 else if now < IntKind.i64.wrap (V0 : Int) ∨ IntKind.i64.wrap (V0 : Int) + IntKind.i64.wrap (V1 : Int) < now then 8 else 0) := by show _ = _; rw [HOB.out, if_neg (by decide), if_neg (by simpa using hsp)]
      clear hsp HOB
      go_wp2_with fail
      refine n0.mono ?_
      rintro e w1 ⟨rfl, rfl⟩
      by_cases h40 : 1099511627776 < V0
      case pos =>
        have h40i : (1099511627776 : Int) < (V0 : Int) := by omega
        have hmy : ckMay (IntKind.i64.wrap (V0 : Int)) (IntKind.i64.wrap (V1 : Int)) = false := decide_eq_false (by rw [IntKind.wrap_i64, IntKind.wrap_i64]; omega)
        have HE : Hid (opE cur fm zs now = 6) := by show _ = _; rw [HOB2.out, if_pos hmy]
        have y0 := HR.cell 0 _ rfl
        have y1 := HR.cell 1 _ rfl
        have y2 := HR.cell 2 _ rfl
        have y3 := HR.cell 3 _ rfl
        have y4 := HR.cell 4 _ rfl
        have y5 := HR.cell 5 _ rfl
        have y6 := HR.cell 6 _ rfl
        have y7 := HR.cell 7 _ rfl
        have y8 := HR.cell 8 _ rfl
        have y9 := HR.cell 9 _ rfl
        have y10 := HR.cell 10 _ rfl
        have y11 := HR.cell 11 _ rfl
        have y12 := HR.cell 12 _ rfl
        have y0f := HR.free 0
        have y1f := HR.free 1
        have y2f := HR.free 2
        have y3f := HR.free 3
        have y4f := HR.free 4
        have y5f := HR.free 5
        have y6f := HR.free 6
        have y7f := HR.free 7
        have y8f := HR.free 8
        have y9f := HR.free 9
        have y10f := HR.free 10
        have y11f := HR.free 11
        have y12f := HR.free 12
        have hR9 := (((((((((((((HR.set 0 (.int .i64 0)).set 1 (.int .i64 0)).set 2 (.int .u16 0)).set 3 (.int .u16 0)).set 4 (.int .u32 0)).set 5 (.int .u32 0)).set 6 (.int .u32 0)).set 7 (.int .u32 0)).set 8 (.int .u32 0)).set 9 (.int .u16 0)).set 10 (.int .u16 0)).set 11 (.int .u32 0)).set 12 (.int .u32 0))
        have hb9 := (((((((((((((b0r.setCell (p := ⟨w.heap.size, 0, none⟩) (Nat.le_refl _) (.int .i64 0)).setCell (p := ⟨w.heap.size, 1, none⟩) (Nat.le_refl _) (.int .i64 0)).setCell (p := ⟨w.heap.size, 2, none⟩) (Nat.le_refl _) (.int .u16 0)).setCell (p := ⟨w.heap.size, 3, none⟩) (Nat.le_refl _) (.int .u16 0)).setCell (p := ⟨w.heap.size, 4, none⟩) (Nat.le_refl _) (.int .u32 0)).setCell (p := ⟨w.heap.size, 5, none⟩) (Nat.le_refl _) (.int .u32 0)).setCell (p := ⟨w.heap.size, 6, none⟩) (Nat.le_refl _) (.int .u32 0)).setCell (p := ⟨w.heap.size, 7, none⟩) (Nat.le_refl _) (.int .u32 0)).setCell (p := ⟨w.heap.size, 8, none⟩) (Nat.le_refl _) (.int .u32 0)).setCell (p := ⟨w.heap.size, 9, none⟩) (Nat.le_refl _) (.int .u16 0)).setCell (p := ⟨w.heap.size, 10, none⟩) (Nat.le_refl _) (.int .u16 0)).setCell (p := ⟨w.heap.size, 11, none⟩) (Nat.le_refl _) (.int .u32 0)).setCell (p := ⟨w.heap.size, 12, none⟩) (Nat.le_refl _) (.int .u32 0))
        have HRG := (show Hid _ from hR9.range)
        have HBB := (show Hid _ from hb9)
        clear hR9 hb9 HR b0r
        go_wp2
        try simp only [Exit.inBlock, Exit.then]
        refine bodyPost_ret (results_cellE2 rfl _ _ w.heap.size 0 [.int .i64 0, .int .i64 0, .int .u16 0, .int .u16 0, .int .u32 0, .int .u32 0, .int .u32 0, .int .u32 0, .int .u32 0, .int .u16 0, .int .u16 0, .int .u32 0, .int .u32 0] _ rfl HRG.out Tryd.underlying39 rfl (by kernel_rfl)) rfl ?_
        exact ⟨.inr ⟨by rw [HE.out]; decide, by rw [HE.out]; rfl⟩, HBB.out⟩
      case neg =>
      have h40i : ¬ (1099511627776 : Int) < (V0 : Int) := by omega
      go_wp2_with fail
      refine n1.mono ?_
      rintro e w1 ⟨rfl, rfl⟩
      by_cases h600 : 600 < V1
      case pos =>
        have h600i : (600 : Int) < (V1 : Int) := by omega
        have hmy : ckMay (IntKind.i64.wrap (V0 : Int)) (IntKind.i64.wrap (V1 : Int)) = false := decide_eq_false (by rw [IntKind.wrap_i64, IntKind.wrap_i64]; omega)
        have HE : Hid (opE cur fm zs now = 6) := by show _ = _; rw [HOB2.out, if_pos hmy]
        have y0 := HR.cell 0 _ rfl
        have y1 := HR.cell 1 _ rfl
        have y2 := HR.cell 2 _ rfl
        have y3 := HR.cell 3 _ rfl
        have y4 := HR.cell 4 _ rfl
        have y5 := HR.cell 5 _ rfl
        have y6 := HR.cell 6 _ rfl
        have y7 := HR.cell 7 _ rfl
        have y8 := HR.cell 8 _ rfl
        have y9 := HR.cell 9 _ rfl
        have y10 := HR.cell 10 _ rfl
        have y11 := HR.cell 11 _ rfl
        have y12 := HR.cell 12 _ rfl
        have y0f := HR.free 0
        have y1f := HR.free 1
        have y2f := HR.free 2
        have y3f := HR.free 3
        have y4f := HR.free 4
        have y5f := HR.free 5
        have y6f := HR.free 6
        have y7f := HR.free 7
        have y8f := HR.free 8
        have y9f := HR.free 9
        have y10f := HR.free 10
        have y11f := HR.free 11
        have y12f := HR.free 12
        have hR9 := (((((((((((((HR.set 0 (.int .i64 0)).set 1 (.int .i64 0)).set 2 (.int .u16 0)).set 3 (.int .u16 0)).set 4 (.int .u32 0)).set 5 (.int .u32 0)).set 6 (.int .u32 0)).set 7 (.int .u32 0)).set 8 (.int .u32 0)).set 9 (.int .u16 0)).set 10 (.int .u16 0)).set 11 (.int .u32 0)).set 12 (.int .u32 0))
        have hb9 := (((((((((((((b0r.setCell (p := ⟨w.heap.size, 0, none⟩) (Nat.le_refl _) (.int .i64 0)).setCell (p := ⟨w.heap.size, 1, none⟩) (Nat.le_refl _) (.int .i64 0)).setCell (p := ⟨w.heap.size, 2, none⟩) (Nat.le_refl _) (.int .u16 0)).setCell (p := ⟨w.heap.size, 3, none⟩) (Nat.le_refl _) (.int .u16 0)).setCell (p := ⟨w.heap.size, 4, none⟩) (Nat.le_refl _) (.int .u32 0)).setCell (p := ⟨w.heap.size, 5, none⟩) (Nat.le_refl _) (.int .u32 0)).setCell (p := ⟨w.heap.size, 6, none⟩) (Nat.le_refl _) (.int .u32 0)).setCell (p := ⟨w.heap.size, 7, none⟩) (Nat.le_refl _) (.int .u32 0)).setCell (p := ⟨w.heap.size, 8, none⟩) (Nat.le_refl _) (.int .u32 0)).setCell (p := ⟨w.heap.size, 9, none⟩) (Nat.le_refl _) (.int .u16 0)).setCell (p := ⟨w.heap.size, 10, none⟩) (Nat.le_refl _) (.int .u16 0)).setCell (p := ⟨w.heap.size, 11, none⟩) (Nat.le_refl _) (.int .u32 0)).setCell (p := ⟨w.heap.size, 12, none⟩) (Nat.le_refl _) (.int .u32 0))
        have HRG := (show Hid _ from hR9.range)
        have HBB := (show Hid _ from hb9)
        clear hR9 hb9 HR b0r
        go_wp2
        try simp only [Exit.inBlock, Exit.then]
        refine bodyPost_ret (results_cellE2 rfl _ _ w.heap.size 0 [.int .i64 0, .int .i64 0, .int .u16 0, .int .u16 0, .int .u32 0, .int .u32 0, .int .u32 0, .int .u32 0, .int .u32 0, .int .u16 0, .int .u16 0, .int .u32 0, .int .u32 0] _ rfl HRG.out Tryd.underlying39 rfl (by kernel_rfl)) rfl ?_
        exact ⟨.inr ⟨by rw [HE.out]; decide, by rw [HE.out]; rfl⟩, HBB.out⟩
      case neg =>
      have h600i : ¬ (600 : Int) < (V1 : Int) := by omega
      have wv0 : IntKind.i64.wrap (V0 : Int) = (V0 : Int) := by rw [IntKind.wrap_i64]; omega
      have wv1 : IntKind.i64.wrap (V1 : Int) = (V1 : Int) := by rw [IntKind.wrap_i64]; omega
      have HOB3 : Hid (opE cur fm zs now = if now < (V0 : Int) ∨ (V0 : Int) + (V1 : Int) < now then 8 else 0) := by
        show _ = _
        rw [HOB2.out, if_neg, wv0, wv1]
        rw [wv0, wv1, show ckMay (V0 : Int) (V1 : Int) = true from decide_eq_true (by omega)]; decide
      clear HOB2
      obtain ⟨V2, hV2⟩ : ∃ V, V = numV zs ((12 : Nat) : Int) ((2 : Nat) : Int) := ⟨_, rfl⟩
      have n2 := fun o => rnumber_any (some ⟨gb, off, none⟩) 84 c zs ((12 : Nat) : Int) ((2 : Nat) : Int) _ (hsr.below ((Below.refl _ _).alloc (Nat.le_refl _) o))
      rw [← hV2] at n2
      have wu2 : IntKind.u16.wrap (V2 : Int) = (V2 : Int) := by have := numV_lt zs 12 2 hbz; rw [← hV2] at this; rw [IntKind.wrap_u16]; omega
      have HV2 := (show Hid _ from hV2)
      clear hV2
      obtain ⟨V3, hV3⟩ : ∃ V, V = numV zs ((14 : Nat) : Int) ((2 : Nat) : Int) := ⟨_, rfl⟩
      have n3 := fun o => rnumber_any (some ⟨gb, off, none⟩) 84 c zs ((14 : Nat) : Int) ((2 : Nat) : Int) _ (hsr.below ((Below.refl _ _).alloc (Nat.le_refl _) o))
      rw [← hV3] at n3
      have wu3 : IntKind.u16.wrap (V3 : Int) = (V3 : Int) := by have := numV_lt zs 14 2 hbz; rw [← hV3] at this; rw [IntKind.wrap_u16]; omega
      have HV3 := (show Hid _ from hV3)
      clear hV3
      obtain ⟨V4, hV4⟩ : ∃ V, V = numV zs ((16 : Nat) : Int) ((4 : Nat) : Int) := ⟨_, rfl⟩
      have n4 := fun o => rnumber_any (some ⟨gb, off, none⟩) 84 c zs ((16 : Nat) : Int) ((4 : Nat) : Int) _ (hsr.below ((Below.refl _ _).alloc (Nat.le_refl _) o))
      rw [← hV4] at n4
      have wu4 : IntKind.u32.wrap (V4 : Int) = (V4 : Int) := by have := numV_lt zs 16 4 hbz; rw [← hV4] at this; rw [IntKind.wrap_u32]; omega
      have HV4 := (show Hid _ from hV4)
      clear hV4
      obtain ⟨V5, hV5⟩ : ∃ V, V = numV zs ((20 : Nat) : Int) ((4 : Nat) : Int) := ⟨_, rfl⟩
      have n5 := fun o => rnumber_any (some ⟨gb, off, none⟩) 84 c zs ((20 : Nat) : Int) ((4 : Nat) : Int) _ (hsr.below ((Below.refl _ _).alloc (Nat.le_refl _) o))
      rw [← hV5] at n5
      have wu5 : IntKind.u32.wrap (V5 : Int) = (V5 : Int) := by have := numV_lt zs 20 4 hbz; rw [← hV5] at this; rw [IntKind.wrap_u32]; omega
      have HV5 := (show Hid _ from hV5)
      clear hV5
      obtain ⟨V6, hV6⟩ : ∃ V, V = numV zs ((24 : Nat) : Int) ((4 : Nat) : Int) := ⟨_, rfl⟩
      have n6 := fun o => rnumber_any (some ⟨gb, off, none⟩) 84 c zs ((24 : Nat) : Int) ((4 : Nat) : Int) _ (hsr.below ((Below.refl _ _).alloc (Nat.le_refl _) o))
      rw [← hV6] at n6
      have wu6 : IntKind.u32.wrap (V6 : Int) = (V6 : Int) := by have := numV_lt zs 24 4 hbz; rw [← hV6] at this; rw [IntKind.wrap_u32]; omega
      have HV6 := (show Hid _ from hV6)
      clear hV6
      obtain ⟨V7, hV7⟩ : ∃ V, V = numV zs ((28 : Nat) : Int) ((4 : Nat) : Int) := ⟨_, rfl⟩
      have n7 := fun o => rnumber_any (some ⟨gb, off, none⟩) 84 c zs ((28 : Nat) : Int) ((4 : Nat) : Int) _ (hsr.below ((Below.refl _ _).alloc (Nat.le_refl _) o))
      rw [← hV7] at n7
      have wu7 : IntKind.u32.wrap (V7 : Int) = (V7 : Int) := by have := numV_lt zs 28 4 hbz; rw [← hV7] at this; rw [IntKind.wrap_u32]; omega
      have HV7 := (show Hid _ from hV7)
      clear hV7
      obtain ⟨V8, hV8⟩ : ∃ V, V = numV zs ((32 : Nat) : Int) ((4 : Nat) : Int) := ⟨_, rfl⟩
      have n8 := fun o => rnumber_any (some ⟨gb, off, none⟩) 84 c zs ((32 : Nat) : Int) ((4 : Nat) : Int) _ (hsr.below ((Below.refl _ _).alloc (Nat.le_refl _) o))
      rw [← hV8] at n8
      have wu8 : IntKind.u32.wrap (V8 : Int) = (V8 : Int) := by have := numV_lt zs 32 4 hbz; rw [← hV8] at this; rw [IntKind.wrap_u32]; omega
      have HV8 := (show Hid _ from hV8)
      clear hV8
      obtain ⟨V9, hV9⟩ : ∃ V, V = numV zs ((36 : Nat) : Int) ((2 : Nat) : Int) := ⟨_, rfl⟩
      have n9 := fun o => rnumber_any (some ⟨gb, off, none⟩) 84 c zs ((36 : Nat) : Int) ((2 : Nat) : Int) _ (hsr.below ((Below.refl _ _).alloc (Nat.le_refl _) o))
      rw [← hV9] at n9
      have wu9 : IntKind.u16.wrap (V9 : Int) = (V9 : Int) := by have := numV_lt zs 36 2 hbz; rw [← hV9] at this; rw [IntKind.wrap_u16]; omega
      have HV9 := (show Hid _ from hV9)
      clear hV9
      obtain ⟨V10, hV10⟩ : ∃ V, V = numV zs ((38 : Nat) : Int) ((2 : Nat) : Int) := ⟨_, rfl⟩
      have n10 := fun o => rnumber_any (some ⟨gb, off, none⟩) 84 c zs ((38 : Nat) : Int) ((2 : Nat) : Int) _ (hsr.below ((Below.refl _ _).alloc (Nat.le_refl _) o))
      rw [← hV10] at n10
      have wu10 : IntKind.u16.wrap (V10 : Int) = (V10 : Int) := by have := numV_lt zs 38 2 hbz; rw [← hV10] at this; rw [IntKind.wrap_u16]; omega
      have HV10 := (show Hid _ from hV10)
      clear hV10
      obtain ⟨V11, hV11⟩ : ∃ V, V = numV zs ((40 : Nat) : Int) ((4 : Nat) : Int) := ⟨_, rfl⟩
      have n11 := fun o => rnumber_any (some ⟨gb, off, none⟩) 84 c zs ((40 : Nat) : Int) ((4 : Nat) : Int) _ (hsr.below ((Below.refl _ _).alloc (Nat.le_refl _) o))
      rw [← hV11] at n11
      have wu11 : IntKind.u32.wrap (V11 : Int) = (V11 : Int) := by have := numV_lt zs 40 4 hbz; rw [← hV11] at this; rw [IntKind.wrap_u32]; omega
      have HV11 := (show Hid _ from hV11)
      clear hV11
      obtain ⟨V12, hV12⟩ : ∃ V, V = numV zs ((44 : Nat) : Int) ((4 : Nat) : Int) := ⟨_, rfl⟩
      have n12 := fun o => rnumber_any (some ⟨gb, off, none⟩) 84 c zs ((44 : Nat) : Int) ((4 : Nat) : Int) _ (hsr.below ((Below.refl _ _).alloc (Nat.le_refl _) o))
      rw [← hV12] at n12
      have wu12 : IntKind.u32.wrap (V12 : Int) = (V12 : Int) := by have := numV_lt zs 44 4 hbz; rw [← hV12] at this; rw [IntKind.wrap_u32]; omega
      have HV12 := (show Hid _ from hV12)
      clear hV12
      go_wp2_with fail
      refine n0.mono ?_
      rintro e w1 ⟨rfl, rfl⟩
      go_wp2_with fail
      refine n1.mono ?_
      rintro e wz ⟨rfl, rfl⟩
      go_wp2_with fail
      refine (n2 _).mono ?_
      rintro e w2 ⟨rfl, rfl⟩
      go_wp2_with fail
      refine (n3 _).mono ?_
      rintro e w2 ⟨rfl, rfl⟩
      go_wp2_with fail
      refine (n4 _).mono ?_
      rintro e w2 ⟨rfl, rfl⟩
      go_wp2_with fail
      refine (n5 _).mono ?_
      rintro e w2 ⟨rfl, rfl⟩
      go_wp2_with fail
      refine (n6 _).mono ?_
      rintro e w2 ⟨rfl, rfl⟩
      go_wp2_with fail
      refine (n7 _).mono ?_
      rintro e w2 ⟨rfl, rfl⟩
      go_wp2_with fail
      refine (n8 _).mono ?_
      rintro e w2 ⟨rfl, rfl⟩
      go_wp2_with fail
      refine (n9 _).mono ?_
      rintro e w2 ⟨rfl, rfl⟩
      go_wp2_with fail
      refine (n10 _).mono ?_
      rintro e w2 ⟨rfl, rfl⟩
      go_wp2_with fail
      refine (n11 _).mono ?_
      rintro e w2 ⟨rfl, rfl⟩
      go_wp2_with fail
      refine (n12 _).mono ?_
      rintro e w2 ⟨rfl, rfl⟩
      have h13 : w.heap.size < wz.heap.size := HR.lt
      have y0 := HR.cell 0 _ rfl
      have y1 := HR.cell 1 _ rfl
      have y2 := HR.cell 2 _ rfl
      have y3 := HR.cell 3 _ rfl
      have y4 := HR.cell 4 _ rfl
      have y5 := HR.cell 5 _ rfl
      have y6 := HR.cell 6 _ rfl
      have y7 := HR.cell 7 _ rfl
      have y8 := HR.cell 8 _ rfl
      have y9 := HR.cell 9 _ rfl
      have y10 := HR.cell 10 _ rfl
      have y11 := HR.cell 11 _ rfl
      have y12 := HR.cell 12 _ rfl
      have y0f := HR.free 0
      have y1f := HR.free 1
      have y2f := HR.free 2
      have y3f := HR.free 3
      have y4f := HR.free 4
      have y5f := HR.free 5
      have y6f := HR.free 6
      have y7f := HR.free 7
      have y8f := HR.free 8
      have y9f := HR.free 9
      have y10f := HR.free 10
      have y11f := HR.free 11
      have y12f := HR.free 12
      by_cases hst8 : now < (V0 : Int) ∨ (V0 : Int) + (V1 : Int) < now
      case pos =>
        have HE : Hid (opE cur fm zs now = 8) := by show _ = _; rw [HOB3.out, if_pos hst8]
        have hR9 := (((((((((((((HR.set 0 (.int .i64 0)).set 1 (.int .i64 0)).set 2 (.int .u16 0)).set 3 (.int .u16 0)).set 4 (.int .u32 0)).set 5 (.int .u32 0)).set 6 (.int .u32 0)).set 7 (.int .u32 0)).set 8 (.int .u32 0)).set 9 (.int .u16 0)).set 10 (.int .u16 0)).set 11 (.int .u32 0)).set 12 (.int .u32 0))
        have hb9 := (((((((((((((b0r.setCell (p := ⟨w.heap.size, 0, none⟩) (Nat.le_refl _) (.int .i64 0)).setCell (p := ⟨w.heap.size, 1, none⟩) (Nat.le_refl _) (.int .i64 0)).setCell (p := ⟨w.heap.size, 2, none⟩) (Nat.le_refl _) (.int .u16 0)).setCell (p := ⟨w.heap.size, 3, none⟩) (Nat.le_refl _) (.int .u16 0)).setCell (p := ⟨w.heap.size, 4, none⟩) (Nat.le_refl _) (.int .u32 0)).setCell (p := ⟨w.heap.size, 5, none⟩) (Nat.le_refl _) (.int .u32 0)).setCell (p := ⟨w.heap.size, 6, none⟩) (Nat.le_refl _) (.int .u32 0)).setCell (p := ⟨w.heap.size, 7, none⟩) (Nat.le_refl _) (.int .u32 0)).setCell (p := ⟨w.heap.size, 8, none⟩) (Nat.le_refl _) (.int .u32 0)).setCell (p := ⟨w.heap.size, 9, none⟩) (Nat.le_refl _) (.int .u16 0)).setCell (p := ⟨w.heap.size, 10, none⟩) (Nat.le_refl _) (.int .u16 0)).setCell (p := ⟨w.heap.size, 11, none⟩) (Nat.le_refl _) (.int .u32 0)).setCell (p := ⟨w.heap.size, 12, none⟩) (Nat.le_refl _) (.int .u32 0))
        have HRG : Hid (∀ o, _) := fun o => (hR9.below ((Below.refl _ _).alloc (Nat.le_refl _) o)).range
        have HBB : Hid (∀ o, _) := fun o => hb9.alloc hb9.size o
        clear hR9 hb9 HR b0r
        rcases (show now < (V0 : Int) ∨ (¬ now < (V0 : Int) ∧ (V0 : Int) + (V1 : Int) < now) by omega) with h5 | ⟨h5, h6⟩
        · clear hst8
          go_wp2
          try simp only [Exit.inBlock, Exit.then]
          refine bodyPost_ret (results_cellE2 rfl _ _ w.heap.size 0 [.int .i64 0, .int .i64 0, .int .u16 0, .int .u16 0, .int .u32 0, .int .u32 0, .int .u32 0, .int .u32 0, .int .u32 0, .int .u16 0, .int .u16 0, .int .u32 0, .int .u32 0] _ rfl (HRG.out _) Tryd.underlying39 rfl (by kernel_rfl)) rfl ?_
          exact ⟨.inr ⟨by rw [HE.out]; decide, by rw [HE.out]; rfl⟩, HBB.out _⟩
        · clear hst8
          have wnv : IntKind.i64.wrap (now - (V0 : Int)) = now - (V0 : Int) := by rw [IntKind.wrap_i64]; omega
          have h7 : (V1 : Int) < now - (V0 : Int) := by omega
          go_wp2
          try simp only [Exit.inBlock, Exit.then]
          refine bodyPost_ret (results_cellE2 rfl _ _ w.heap.size 0 [.int .i64 0, .int .i64 0, .int .u16 0, .int .u16 0, .int .u32 0, .int .u32 0, .int .u32 0, .int .u32 0, .int .u32 0, .int .u16 0, .int .u16 0, .int .u32 0, .int .u32 0] _ rfl (HRG.out _) Tryd.underlying39 rfl (by kernel_rfl)) rfl ?_
          exact ⟨.inr ⟨by rw [HE.out]; decide, by rw [HE.out]; rfl⟩, HBB.out _⟩
      case neg =>
      have HE : Hid (opE cur fm zs now = 0) := by show _ = _; rw [HOB3.out, if_neg hst8]
      have h5 : ¬ now < (V0 : Int) := by omega
      have wnv : IntKind.i64.wrap (now - (V0 : Int)) = now - (V0 : Int) := by rw [IntKind.wrap_i64]; omega
      have h7 : ¬ (V1 : Int) < now - (V0 : Int) := by omega
      have HW0 := (show Hid _ from wv0)
      have HW1 := (show Hid _ from wv1)
      clear hst8
      have hR9 := (((((((((((((HR.set 0 (.int .i64 (V0 : Nat))).set 1 (.int .i64 (V1 : Nat))).set 2 (.int .u16 (V2 : Nat))).set 3 (.int .u16 (V3 : Nat))).set 4 (.int .u32 (V4 : Nat))).set 5 (.int .u32 (V5 : Nat))).set 6 (.int .u32 (V6 : Nat))).set 7 (.int .u32 (V7 : Nat))).set 8 (.int .u32 (V8 : Nat))).set 9 (.int .u16 (V9 : Nat))).set 10 (.int .u16 (V10 : Nat))).set 11 (.int .u32 (V11 : Nat))).set 12 (.int .u32 (V12 : Nat)))
      have hb9 := (((((((((((((b0r.setCell (p := ⟨w.heap.size, 0, none⟩) (Nat.le_refl _) (.int .i64 (V0 : Nat))).setCell (p := ⟨w.heap.size, 1, none⟩) (Nat.le_refl _) (.int .i64 (V1 : Nat))).setCell (p := ⟨w.heap.size, 2, none⟩) (Nat.le_refl _) (.int .u16 (V2 : Nat))).setCell (p := ⟨w.heap.size, 3, none⟩) (Nat.le_refl _) (.int .u16 (V3 : Nat))).setCell (p := ⟨w.heap.size, 4, none⟩) (Nat.le_refl _) (.int .u32 (V4 : Nat))).setCell (p := ⟨w.heap.size, 5, none⟩) (Nat.le_refl _) (.int .u32 (V5 : Nat))).setCell (p := ⟨w.heap.size, 6, none⟩) (Nat.le_refl _) (.int .u32 (V6 : Nat))).setCell (p := ⟨w.heap.size, 7, none⟩) (Nat.le_refl _) (.int .u32 (V7 : Nat))).setCell (p := ⟨w.heap.size, 8, none⟩) (Nat.le_refl _) (.int .u32 (V8 : Nat))).setCell (p := ⟨w.heap.size, 9, none⟩) (Nat.le_refl _) (.int .u16 (V9 : Nat))).setCell (p := ⟨w.heap.size, 10, none⟩) (Nat.le_refl _) (.int .u16 (V10 : Nat))).setCell (p := ⟨w.heap.size, 11, none⟩) (Nat.le_refl _) (.int .u32 (V11 : Nat))).setCell (p := ⟨w.heap.size, 12, none⟩) (Nat.le_refl _) (.int .u32 (V12 : Nat)))
      have HRG : Hid (∀ o, _) := fun o => (hR9.below ((Below.refl _ _).alloc (Nat.le_refl _) o)).range
      have HBB : Hid (∀ o, _) := fun o => hb9.alloc hb9.size o
      clear hR9 hb9 HR b0r
      go_wp2
      try simp only [Exit.inBlock, Exit.then]
      refine bodyPost_ret (results_cellE2 rfl _ _ w.heap.size 0 [.int .i64 (V0 : Nat), .int .i64 (V1 : Nat), .int .u16 (V2 : Nat), .int .u16 (V3 : Nat), .int .u32 (V4 : Nat), .int .u32 (V5 : Nat), .int .u32 (V6 : Nat), .int .u32 (V7 : Nat), .int .u32 (V8 : Nat), .int .u16 (V9 : Nat), .int .u16 (V10 : Nat), .int .u32 (V11 : Nat), .int .u32 (V12 : Nat)] _ rfl (HRG.out _) Tryd.underlying39 rfl (by kernel_rfl)) rfl ?_
      refine ⟨.inl ⟨HE.out, ?_⟩, HBB.out _⟩
      rw [← HBS.out]
      rw [HNM.out 0 8 (by omega), HNM.out 8 4 (by omega), HNM.out 12 2 (by omega), HNM.out 14 2 (by omega), HNM.out 16 4 (by omega), HNM.out 20 4 (by omega), HNM.out 24 4 (by omega), HNM.out 28 4 (by omega), HNM.out 32 4 (by omega), HNM.out 36 2 (by omega), HNM.out 38 2 (by omega), HNM.out 40 4 (by omega), HNM.out 44 4 (by omega)]
      rw [← HV0.out, ← HV1.out, ← HV2.out, ← HV3.out, ← HV4.out, ← HV5.out, ← HV6.out, ← HV7.out, ← HV8.out, ← HV9.out, ← HV10.out, ← HV11.out, ← HV12.out, HW0.out, HW1.out]
      rfl
end Go.Proofs.YtmikhnaffhheoaaDoor
namespace Go.Proofs.YtmikhnaffhheoaaDoor
open Go.RowKit
/-- The secrets of the reference, and those two that the program holds. -/
def CkL (L : List (List Nat)) (cur : List Nat) (fm : Option (List Nat)) : Prop := (L = [cur] ∧ fm = none) ∨ ∃ pre f, L = pre ++ [f, cur] ∧ fm = some f
theorem CkL.turn {L : List (List Nat)} {cur : List Nat} {fm : Option (List Nat)} (h : CkL L cur fm) (s : List Nat) : CkL (L ++ [s]) s (some cur) := by
  rcases h with ⟨rfl, _⟩ | ⟨pre, f, rfl, _⟩
  · exact .inr ⟨[], cur, rfl, rfl⟩
  · exact .inr ⟨pre ++ [f], cur, by simp, rfl⟩
theorem goodV_none (L : List (List Nat)) (m : Nat) (bs ss : List Nat) : ∀ i, i + 2 ≤ m → goodV L m bs ss i = false := by
  intro i
  induction i with
  | zero => intro _; rfl
  | succ i ih =>
    intro h
    show (goodV L m bs ss i || (decide (m ≤ i + 2) && _)) = false
    rw [ih (by omega), decide_eq_false (by omega)]
    rfl
theorem CkL.good {L : List (List Nat)} {cur : List Nat} {fm : Option (List Nat)} (h : CkL L cur fm) (bs ss : List Nat) : goodV L L.length bs ss L.length = sealedV cur fm bs ss := by
  rcases h with ⟨rfl, rfl⟩ | ⟨pre, f, rfl, rfl⟩
  · simp [goodV, sealedV]
  · have hl : (pre ++ [f, cur]).length = pre.length + 1 + 1 := by simp
    rw [hl]
    show ((goodV _ _ bs ss pre.length || (decide (pre.length + 1 + 1 ≤ pre.length + 2) && decide (macN ((pre ++ [f, cur]).getD pre.length []) bs = ss))) || (decide (pre.length + 1 + 1 ≤ pre.length + 1 + 2) && decide (macN ((pre ++ [f, cur]).getD (pre.length + 1) []) bs = ss))) = _
    rw [goodV_none _ _ bs ss pre.length (by omega), decide_eq_true (show pre.length + 1 + 1 ≤ pre.length + 2 by omega), decide_eq_true (show pre.length + 1 + 1 ≤ pre.length + 1 + 2 by omega)]
    have e1 : (pre ++ [f, cur]).getD pre.length [] = f := by simp
    have e2 : (pre ++ [f, cur]).getD (pre.length + 1) [] = cur := by simp
    rw [e1, e2]
    simp [sealedV, Bool.or_comm]
set_option maxRecDepth 100000 in
set_option maxHeartbeats 8000000 in
theorem popen_any (pp kx ky : Nat) (la : Value) (cur : List Nat) (fm : Option (List Nat)) (rs : List Sec) (a : Option Addr) (n c : Nat) (zs : List Nat) (now : Int) (w : World) (hp : Stc w pp [.pointer (some ⟨kx, 0, none⟩), .pointer (some ⟨ky, 0, none⟩), la]) (hx : Ky w kx cur fm) (hy : RKy w ky rs) (hL : CkL (rs.map (·.zs)) cur fm) (hs : Sl w a n c zs) (hn : n ≤ 140737488354000) (hkw : KW w) :
    Calls Tryd.prog 17 #[.pointer (some ⟨pp, 0, none⟩), .slice a n c, .int .i64 now] w fun e w' => e = .returned (.bool true) ∧ Below w.heap.size w w' := by
  have HGD : Hid (∀ bs ss, goodV (rs.map (·.zs)) rs.length bs ss rs.length = sealedV cur fm bs ss) := fun bs ss => by have := hL.good bs ss; rwa [List.length_map] at this
  have oE := own_empty w
  have sE := hs.alloc (.cells #[] 5)
  go_enter Tryd.func17, Tryd.ntmps17
  go_wp2_with (at_builtin; go_must (refine app_list rfl _ _ rfl w.heap.size _ 0 0 [] rfl oE _ n c zs rfl sE (by omega) (by simp) ?_))
  intro a1 c1 w1 o1 g1
  have b1 : Below w.heap.size w w1 := ((Below.refl _ _).alloc (Nat.le_refl _) _).trans (oE.up g1 (by simp))
  have o1' : OwnB w1 w.heap.size a1 n c1 zs := by simpa using o1
  have s1 := o1'.sl (by omega)
  have hp1 := hp.below b1
  have x0 := hp1.cell 0 _ rfl
  have hop := open_any kx cur fm a1 n c1 zs now w1 (hx.below b1) s1 (hkw.next b1)
  obtain ⟨E, hE⟩ : ∃ E, E = opE cur fm zs now := ⟨_, rfl⟩
  have HE := (show Hid _ from hE)
  rw [← hE] at hop
  clear o1 o1' oE sE g1 hE
  go_wp2_with fail
  refine hop.mono ?_
  rintro e w2 ⟨hans, b2⟩
  have b02 := b1.trans (b2.mono b1.size)
  have hp2 := hp.below b02
  have y1 := hp2.cell 1 _ rfl
  have hro := fun W (hb : Below w.heap.size w W) => ropen_any ky rs cur fm a n c zs now W (hy.below hb) (hs.below hb) HGD
  rw [← HE.out] at hro
  have s2 := s1.below b2
  have hpl := hp2.lt
  clear x0 hp1 hop s1
  rcases hans with ⟨hE0, rfl⟩ | ⟨hE0, rfl⟩
  case inl =>
    obtain ⟨V0, hV0⟩ : ∃ V, V = IntKind.i64.wrap (numV (zs.take 52) ((0 : Nat) : Int) ((8 : Nat) : Int) : Nat) := ⟨_, rfl⟩
    obtain ⟨V1, hV1⟩ : ∃ V, V = IntKind.i64.wrap (numV (zs.take 52) ((8 : Nat) : Int) ((4 : Nat) : Int) : Nat) := ⟨_, rfl⟩
    obtain ⟨V2, hV2⟩ : ∃ V, V = numV (zs.take 52) ((12 : Nat) : Int) ((2 : Nat) : Int) := ⟨_, rfl⟩
    obtain ⟨V3, hV3⟩ : ∃ V, V = numV (zs.take 52) ((14 : Nat) : Int) ((2 : Nat) : Int) := ⟨_, rfl⟩
    obtain ⟨V4, hV4⟩ : ∃ V, V = numV (zs.take 52) ((16 : Nat) : Int) ((4 : Nat) : Int) := ⟨_, rfl⟩
    obtain ⟨V5, hV5⟩ : ∃ V, V = numV (zs.take 52) ((20 : Nat) : Int) ((4 : Nat) : Int) := ⟨_, rfl⟩
    obtain ⟨V6, hV6⟩ : ∃ V, V = numV (zs.take 52) ((24 : Nat) : Int) ((4 : Nat) : Int) := ⟨_, rfl⟩
    obtain ⟨V7, hV7⟩ : ∃ V, V = numV (zs.take 52) ((28 : Nat) : Int) ((4 : Nat) : Int) := ⟨_, rfl⟩
    obtain ⟨V8, hV8⟩ : ∃ V, V = numV (zs.take 52) ((32 : Nat) : Int) ((4 : Nat) : Int) := ⟨_, rfl⟩
    obtain ⟨V9, hV9⟩ : ∃ V, V = numV (zs.take 52) ((36 : Nat) : Int) ((2 : Nat) : Int) := ⟨_, rfl⟩
    obtain ⟨V10, hV10⟩ : ∃ V, V = numV (zs.take 52) ((38 : Nat) : Int) ((2 : Nat) : Int) := ⟨_, rfl⟩
    obtain ⟨V11, hV11⟩ : ∃ V, V = numV (zs.take 52) ((40 : Nat) : Int) ((4 : Nat) : Int) := ⟨_, rfl⟩
    obtain ⟨V12, hV12⟩ : ∃ V, V = numV (zs.take 52) ((44 : Nat) : Int) ((4 : Nat) : Int) := ⟨_, rfl⟩
    have hro2 := fun W hb => (hro W hb).mono (fun e w' h => (show _ ∧ _ from ⟨(h.ans.resolve_right (fun q => q.1 hE0)).2, h.bel⟩))
    rw [← hV0, ← hV1, ← hV2, ← hV3, ← hV4, ← hV5, ← hV6, ← hV7, ← hV8, ← hV9, ← hV10, ← hV11, ← hV12] at hro2 ⊢
    clear hV0 hV1 hV2 hV3 hV4 hV5 hV6 hV7 hV8 hV9 hV10 hV11 hV12
    clear hro hE0 HE HGD
    obtain ⟨W3, hW3⟩ : ∃ W, W = w2.alloc (.cells #[.int .i64 V0, .int .i64 V1, .int .u16 (V2 : Nat), .int .u16 (V3 : Nat), .int .u32 (V4 : Nat), .int .u32 (V5 : Nat), .int .u32 (V6 : Nat), .int .u32 (V7 : Nat), .int .u32 (V8 : Nat), .int .u16 (V9 : Nat), .int .u16 (V10 : Nat), .int .u32 (V11 : Nat), .int .u32 (V12 : Nat)] 39) := ⟨_, rfl⟩
    have b23 : Below w2.heap.size w2 W3 := by rw [hW3]; exact (Below.refl _ _).alloc (Nat.le_refl _) _
    have sC := Stc.new w2 [.int .i64 V0, .int .i64 V1, .int .u16 (V2 : Nat), .int .u16 (V3 : Nat), .int .u32 (V4 : Nat), .int .u32 (V5 : Nat), .int .u32 (V6 : Nat), .int .u32 (V7 : Nat), .int .u32 (V8 : Nat), .int .u16 (V9 : Nat), .int .u16 (V10 : Nat), .int .u32 (V11 : Nat), .int .u32 (V12 : Nat)] 39 W3 hW3
    have b0W := b02.trans (b23.mono b02.size)
    have hro3 := hro2 W3 b0W
    clear hro2
    go_wp2_with fail
    rw [← hW3]
    clear hW3
    refine hro3.mono ?_
    rintro e w3 ⟨rfl, b3⟩
    have b03 := b0W.trans (b3.mono b0W.size)
    have sC3 := sC.below b3
    have b23' := b23.trans (b3.mono b23.size)
    obtain ⟨W4, hW4⟩ : ∃ W, W = w3.alloc (.cells #[.int .i64 V0, .int .i64 V1, .int .u16 (V2 : Nat), .int .u16 (V3 : Nat), .int .u32 (V4 : Nat), .int .u32 (V5 : Nat), .int .u32 (V6 : Nat), .int .u32 (V7 : Nat), .int .u32 (V8 : Nat), .int .u16 (V9 : Nat), .int .u16 (V10 : Nat), .int .u32 (V11 : Nat), .int .u32 (V12 : Nat)] 39) := ⟨_, rfl⟩
    have b34 : Below w3.heap.size w3 W4 := by rw [hW4]; exact (Below.refl _ _).alloc (Nat.le_refl _) _
    have sD := Stc.new w3 [.int .i64 V0, .int .i64 V1, .int .u16 (V2 : Nat), .int .u16 (V3 : Nat), .int .u32 (V4 : Nat), .int .u32 (V5 : Nat), .int .u32 (V6 : Nat), .int .u32 (V7 : Nat), .int .u32 (V8 : Nat), .int .u16 (V9 : Nat), .int .u16 (V10 : Nat), .int .u32 (V11 : Nat), .int .u32 (V12 : Nat)] 39 W4 hW4
    have sC4 := sC3.below b34
    have hcl := sC3.lt
    have k1 := conv_str ((s2.below b23').below b34)
    have k2 := conv_str ((hs.below b03).below b34)
    have b04 := b03.trans (b34.mono b03.size)
    have HB4 := (show Hid _ from b04)
    rw [hW4] at k1 k2 HB4
    obtain ⟨X, hX⟩ : ∃ X, X = strOf zs := ⟨_, rfl⟩
    rw [← hX] at k1 k2
    have y0 := sC3.cell 0 _ rfl
    have y1 := sC3.cell 1 _ rfl
    have y2 := sC3.cell 2 _ rfl
    have y3 := sC3.cell 3 _ rfl
    have y4 := sC3.cell 4 _ rfl
    have y5 := sC3.cell 5 _ rfl
    have y6 := sC3.cell 6 _ rfl
    have y7 := sC3.cell 7 _ rfl
    have y8 := sC3.cell 8 _ rfl
    have y9 := sC3.cell 9 _ rfl
    have y10 := sC3.cell 10 _ rfl
    have y11 := sC3.cell 11 _ rfl
    have y12 := sC3.cell 12 _ rfl
    clear hX hW4 b34 sD sC4 sC3 sC b04 b03 b23' b0W b3 hro3 s2
    go_wp2
    go_ret
    exact ⟨rfl, HB4.out⟩
  case inr =>
    have hro2 := fun W hb => (hro W hb).mono (fun e w' h => (show _ ∧ _ from ⟨(h.ans.resolve_left (fun q => hE0 q.1)).2, h.bel⟩))
    clear hro hE0 HE HGD
    obtain ⟨W3, hW3⟩ : ∃ W, W = w2.alloc (.cells #[.int .i64 0, .int .i64 0, .int .u16 0, .int .u16 0, .int .u32 0, .int .u32 0, .int .u32 0, .int .u32 0, .int .u32 0, .int .u16 0, .int .u16 0, .int .u32 0, .int .u32 0] 39) := ⟨_, rfl⟩
    have b23 : Below w2.heap.size w2 W3 := by rw [hW3]; exact (Below.refl _ _).alloc (Nat.le_refl _) _
    have sC := Stc.new w2 [.int .i64 0, .int .i64 0, .int .u16 0, .int .u16 0, .int .u32 0, .int .u32 0, .int .u32 0, .int .u32 0, .int .u32 0, .int .u16 0, .int .u16 0, .int .u32 0, .int .u32 0] 39 W3 hW3
    have b0W := b02.trans (b23.mono b02.size)
    have hro3 := hro2 W3 b0W
    clear hro2
    go_wp2_with fail
    rw [← hW3]
    clear hW3
    refine hro3.mono ?_
    rintro e w3 ⟨rfl, b3⟩
    have b03 := b0W.trans (b3.mono b0W.size)
    have sC3 := sC.below b3
    have b23' := b23.trans (b3.mono b23.size)
    obtain ⟨W4, hW4⟩ : ∃ W, W = w3.alloc (.cells #[.int .i64 0, .int .i64 0, .int .u16 0, .int .u16 0, .int .u32 0, .int .u32 0, .int .u32 0, .int .u32 0, .int .u32 0, .int .u16 0, .int .u16 0, .int .u32 0, .int .u32 0] 39) := ⟨_, rfl⟩
    have b34 : Below w3.heap.size w3 W4 := by rw [hW4]; exact (Below.refl _ _).alloc (Nat.le_refl _) _
    have sD := Stc.new w3 [.int .i64 0, .int .i64 0, .int .u16 0, .int .u16 0, .int .u32 0, .int .u32 0, .int .u32 0, .int .u32 0, .int .u32 0, .int .u16 0, .int .u16 0, .int .u32 0, .int .u32 0] 39 W4 hW4
    have sC4 := sC3.below b34
    have hcl := sC3.lt
    have k1 := conv_str ((s2.below b23').below b34)
    have k2 := conv_str ((hs.below b03).below b34)
    have b04 := b03.trans (b34.mono b03.size)
    have HB4 := (show Hid _ from b04)
    rw [hW4] at k1 k2 HB4
    obtain ⟨X, hX⟩ : ∃ X, X = strOf zs := ⟨_, rfl⟩
    rw [← hX] at k1 k2
    have y0 := sC3.cell 0 _ rfl
    have y1 := sC3.cell 1 _ rfl
    have y2 := sC3.cell 2 _ rfl
    have y3 := sC3.cell 3 _ rfl
    have y4 := sC3.cell 4 _ rfl
    have y5 := sC3.cell 5 _ rfl
    have y6 := sC3.cell 6 _ rfl
    have y7 := sC3.cell 7 _ rfl
    have y8 := sC3.cell 8 _ rfl
    have y9 := sC3.cell 9 _ rfl
    have y10 := sC3.cell 10 _ rfl
    have y11 := sC3.cell 11 _ rfl
    have y12 := sC3.cell 12 _ rfl
    clear hX hW4 b34 sD sC4 sC3 sC b04 b03 b23' b0W b3 hro3 s2
    go_wp2
    go_ret
    exact ⟨rfl, HB4.out⟩
end Go.Proofs.YtmikhnaffhheoaaDoor
