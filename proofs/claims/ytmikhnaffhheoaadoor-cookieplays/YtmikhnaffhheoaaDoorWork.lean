/- What hash.work does: a block is worked into the words. -/
import Derived.Test.YtmikhnaffhheoaaDoorSpread
import Derived.Test.YtmikhnaffhheoaaDoorFrM
import Derived.Test.YtmikhnaffhheoaaDoorIdx8
namespace Go.Proofs.YtmikhnaffhheoaaDoor
open Go.RowKit
/-- The words of the rounds, as the program's text lays them. -/
def KW (w : World) : Prop := 0 < w.heap.size ∧ ∀ i, i < 64 → w.cell? ⟨0, i, none⟩ = some (.int .u32 (kW.getD i 0 : Nat))
theorem KW.below {w w' : World} {B : Nat} (h : KW w) (hB : w.heap.size ≤ B) (hb : Below B w w') : KW w' :=
  ⟨Nat.lt_of_lt_of_le h.1 hb.size, fun i hi => (hb.cell (p := ⟨0, i, none⟩) (Nat.lt_of_lt_of_le h.1 hB)).trans (h.2 i hi)⟩
/-- A hash as it lies in memory: eight words, a block, and how many bytes came. -/
structure HAt (w : World) (B p : Nat) (v b : List Nat) (n : Nat) : Prop where
  base : B ≤ p
  lt : p < w.heap.size
  vlen : v.length = 8
  vbnd : ∀ i, v.getD i 0 < 4294967296
  blen : b.length = 64
  bbnd : ∀ i, b.getD i 0 < 256
  vc : ∀ i, i < 8 → w.cell? ⟨p, i, none⟩ = some (.int .u32 (v.getD i 0 : Nat))
  bc : ∀ i, i < 64 → w.cell? ⟨p, 8 + i, none⟩ = some (.int .u8 (b.getD i 0 : Nat))
  nc : w.cell? ⟨p, 72, none⟩ = some (.int .i64 (n : Nat))
  free : ∀ i, w.frozen? ⟨p, i, none⟩ = false
theorem HAt.blk {w : World} {B p : Nat} {v b : List Nat} {n : Nat} (h : HAt w B p v b n) : Blk w p 8 b := ⟨h.blen, h.bbnd, h.lt, h.bc⟩
theorem HAt.below {w w' : World} {B p : Nat} {v b : List Nat} {n : Nat} (h : HAt w B p v b n) (hb : Below w.heap.size w w') : HAt w' B p v b n :=
  ⟨h.base, Nat.lt_of_lt_of_le h.lt hb.size, h.vlen, h.vbnd, h.blen, h.bbnd, fun i hi => (hb.cell (p := ⟨p, i, none⟩) h.lt).trans (h.vc i hi), fun i hi => (hb.cell (p := ⟨p, 8 + i, none⟩) h.lt).trans (h.bc i hi), (hb.cell (p := ⟨p, 72, none⟩) h.lt).trans h.nc, fun i => (hb.frozen (p := ⟨p, i, none⟩) h.lt).trans (h.free i)⟩
def mixL (v R : List Nat) (i : Nat) : List Nat := (List.range 8).map fun j => if j < i then (v.getD j 0 + R.getD j 0) % 4294967296 else v.getD j 0
theorem mixL_get (v R : List Nat) (i j : Nat) (hj : j < 8) : (mixL v R i).getD j 0 = if j < i then (v.getD j 0 + R.getD j 0) % 4294967296 else v.getD j 0 := by
  simp [mixL, List.getD_eq_getElem?_getD, hj]
theorem mixL_zero (v R : List Nat) (hv : v.length = 8) : mixL v R 0 = v := by
  apply List.ext_getElem
  · simp [mixL, hv]
  · intro j h1 h2
    simp [mixL, List.getD_eq_getElem?_getD, h2]
theorem mixL_all (v R : List Nat) : mixL v R 8 = addL v R := by
  unfold mixL addL
  apply List.map_congr_left
  intro j hj
  have := List.mem_range.1 hj
  rw [if_pos this]
theorem HAt.setV {w : World} {B p : Nat} {v b : List Nat} {n : Nat} (h : HAt w B p v b n) (i x : Nat) (hi : i < 8) (hx : x < 4294967296) (v2 : List Nat) (hl : v2.length = 8) (hv : ∀ j, v2.getD j 0 = if j = i then x else v.getD j 0) :
    HAt (w.setCell ⟨p, i, none⟩ (.int .u32 (x : Nat))) B p v2 b n := by
  refine ⟨h.base, by simp [World.setCell]; exact h.lt, hl, fun j => ?_, h.blen, h.bbnd, fun j hj => ?_, fun j hj => ?_, ?_, fun j => by rw [World.frozen?_setCell]; exact h.free j⟩
  · rw [hv]; split
    · exact hx
    · exact h.vbnd j
  · rw [hv]
    by_cases e : j = i
    · subst e
      rw [if_pos rfl]
      exact World.cell?_setCell_same' _ _ _ (by rw [h.vc j hi]; rfl)
    · rw [if_neg e, World.cell?_setCell_other _ _ _ _ (by intro e2; injection e2 with _ e3; omega)]
      exact h.vc j hj
  · rw [World.cell?_setCell_other _ _ _ _ (by intro e2; injection e2 with _ e3; omega)]
    exact h.bc j hj
  · rw [World.cell?_setCell_other _ _ _ _ (by intro e2; injection e2 with _ e3; omega)]
    exact h.nc
theorem schedTo_bnd (b : List Nat) (hb : ∀ i, b.getD i 0 < 256) : ∀ k i, (schedTo b k).getD i 0 < 4294967296 := by
  intro k
  induction k with
  | zero => intro i; simp [schedTo]
  | succ k ih =>
    intro i
    have hl := schedTo_len b k
    show (schedTo b k ++ [_]).getD i 0 < _
    by_cases h : i < k
    · rw [List.getD_eq_getElem?_getD, List.getElem?_append_left (by omega), ← List.getD_eq_getElem?_getD]; exact ih i
    · by_cases h2 : i = k
      · subst h2
        rw [List.getD_eq_getElem?_getD, List.getElem?_append_right (by omega), hl, Nat.sub_self]
        show (if _ then _ else _) < _
        split
        · exact be4_lt b hb i
        · exact nextW_lt _ _
      · rw [List.getD_eq_getElem?_getD, List.getElem?_eq_none (by simp; omega)]; simp
theorem kW_lt (i : Nat) : kW.getD i 0 < 4294967296 := by
  by_cases h : i < 64
  · have : ∀ j : Fin 64, kW.getD j.1 0 < 4294967296 := by decide +kernel
    exact this ⟨i, h⟩
  · rw [List.getD_eq_getElem?_getD, List.getElem?_eq_none (by show kW.length ≤ i; rw [show kW.length = 64 from rfl]; omega)]; simp
theorem getD8 (a b c d e f g h : Nat) (i : Nat) (ha : a < 4294967296) (hb : b < 4294967296) (hc : c < 4294967296) (hd : d < 4294967296) (he : e < 4294967296) (hf : f < 4294967296) (hg : g < 4294967296) (hh : h < 4294967296) : ([a, b, c, d, e, f, g, h] : List Nat).getD i 0 < 4294967296 := by
  rcases i with _ | _ | _ | _ | _ | _ | _ | _ | i <;> simp <;> assumption
theorem rndTo_bnd (v ws : List Nat) (hv : ∀ i, v.getD i 0 < 4294967296) : ∀ k i, (rndTo v ws k).getD i 0 < 4294967296 := by
  intro k
  induction k with
  | zero => exact hv
  | succ k ih =>
    intro i
    exact getD8 _ _ _ _ _ _ _ _ i (Nat.mod_lt _ (by omega)) (ih 0) (ih 1) (ih 2) (Nat.mod_lt _ (by omega)) (ih 4) (ih 5) (ih 6)
theorem rndTo_len (v ws : List Nat) (hv : v.length = 8) : ∀ k, (rndTo v ws k).length = 8 := by
  intro k
  cases k with
  | zero => exact hv
  | succ k => rfl
theorem turned_at (x m : Nat) (w : World) (hx : x < 4294967296) (h1 : 1 ≤ m) (h2 : m ≤ 31) (v1 v2 : Value) (e1 : v1 = .int .u32 (x : Nat)) (e2 : v2 = .int .i64 (m : Nat)) :
    Calls Tryd.prog 63 #[v1, v2] w fun e w' => e = .returned (.int .u32 (rotN x m : Nat)) ∧ w' = w := by
  subst e1 e2; exact turned_any x m w hx h1 h2
set_option maxRecDepth 100000 in
set_option maxHeartbeats 8000000 in
theorem work_any (B p : Nat) (v b : List Nat) (n : Nat) (w : World) (h : HAt w B p v b n) (hk : KW w) :
    Calls Tryd.prog 57 #[.pointer (some ⟨p, 0, none⟩), .pointer (some ⟨p, 8, none⟩)] w fun e w' => e = .returned (.tuple #[]) ∧ HAt w' B p (comp v b) b n ∧ Fr (fun k => k = p) w w' := by
  have hsp := spread_any p 8 b w h.blk
  obtain ⟨ws, hws⟩ : ∃ ws, ws = schedTo b 64 := ⟨_, rfl⟩
  have hwl : ws.length = 64 := by rw [hws]; exact schedTo_len b 64
  rw [← hws] at hsp
  have HWS := (show Hid _ from hws)
  have HWB : Hid (∀ i, ws.getD i 0 < 4294967296) := by
    intro i
    rw [hws]
    exact schedTo_bnd b h.bbnd 64 i
  clear hws
  obtain ⟨cs, hcs⟩ : ∃ cs, cs = wordsV ws := ⟨_, rfl⟩
  rw [← hcs] at hsp
  have HCS := (show Hid _ from hcs)
  have hone : ∀ v ∈ cs, v.oneCell' = true := by rw [hcs]; exact words_one ws
  have hcl : cs.length = 64 := by rw [hcs]; simp [wordsV, hwl]
  clear hcs
  have h0 := h.vc 0 (by omega)
  have h1 := h.vc 1 (by omega)
  have h2 := h.vc 2 (by omega)
  have h3 := h.vc 3 (by omega)
  have h4 := h.vc 4 (by omega)
  have h5 := h.vc 5 (by omega)
  have h6 := h.vc 6 (by omega)
  have h7 := h.vc 7 (by omega)
  have hlt := h.lt
  go_enter Tryd.func57, Tryd.ntmps57
  go_wp2_with fail
  refine hsp.mono ?_
  rintro e w1 ⟨rfl, hb1⟩
  have hh1 := h.below hb1
  have hk1 := hk.below (Nat.le_refl _) hb1
  have hbA : Below w1.heap.size w1 (w1.alloc (.cells z64 109)) := (Below.refl _ _).alloc (Nat.le_refl _) _
  have hTA := wds_new w1 [] (w1.alloc (.cells z64 109)) rfl
  have hth : (w1.alloc (.cells z64 109)).there w1.heap.size 0 cs.toArray.size := by rw [show cs.toArray.size = 64 from hcl]; exact hTA.there
  have hi64 : (Tryd.prog.info? 109).map (·.size) = some cs.toArray.size := by rw [show cs.toArray.size = 64 from hcl]; kernel_rfl
  obtain ⟨W, hW⟩ : ∃ W, W = (w1.alloc (.cells z64 109)).setCells w1.heap.size 0 cs := ⟨_, rfl⟩
  have hbW1 : Below w1.heap.size w1 W := by rw [hW]; exact Below.setCells hbA _ _ _ (Nat.le_refl _)
  have hTW : W.rangeAt w1.heap.size 0 cs := by rw [hW]; exact World.rangeAt_setCells_same _ _ _ _ (by rw [hcl]; exact hTA.there)
  have hhW := hh1.below hbW1
  have hkW := hk1.below (Nat.le_refl _) hbW1
  have hbW : Below w.heap.size w W := hb1.trans (hbW1.mono hb1.size)
  have htb : w.heap.size ≤ w1.heap.size := hb1.size
  have htW : w1.heap.size < W.heap.size := by
    have := hTA.lt
    rw [hW]
    exact Nat.lt_of_lt_of_le this (Below.setCells (Below.refl 0 _) _ _ _ (Nat.zero_le _)).size
  clear hsp h0 h1 h2 h3 h4 h5 h6 h7
  go_wp2_with (refine wpList_store_mid rfl 109 _ _ rfl w1.heap.size 0 cs.toArray rfl rfl hth hi64 (all_oneCell_toArray hone) ?_; change wpList _ _ _ _ _ ((w1.alloc (.cells z64 109)).setCells w1.heap.size 0 cs); rw [← hW]; clear hW)
  have c0 := hhW.vc 0 (by omega)
  have c1 := hhW.vc 1 (by omega)
  have c2 := hhW.vc 2 (by omega)
  have c3 := hhW.vc 3 (by omega)
  have c4 := hhW.vc 4 (by omega)
  have c5 := hhW.vc 5 (by omega)
  have c6 := hhW.vc 6 (by omega)
  have c7 := hhW.vc 7 (by omega)
  clear hth hi64 hTA hbA hbW1 hh1 hk1 hb1 hk
  go_quiet (fail)
  all_goals
    obtain ⟨w3, hw3⟩ : ∃ w3, w3 = W.drewN nq := ⟨_, rfl⟩
    rw [← hw3]
    have hb3 : Below W.heap.size W w3 := by rw [hw3]; simp only [World.drewN]; exact ⟨rfl, rfl, rfl, Nat.le_refl _, fun k _ => rfl⟩
    have hT3 : w3.rangeAt w1.heap.size 0 cs := fun j x hx => (hb3.cell (p := ⟨w1.heap.size, 0 + j, none⟩) htW).trans (hTW j x hx)
    clear hw3
    have hh3 := hhW.below hb3
    have hk3 := hkW.below (Nat.le_refl _) hb3
    have hbel3 : Below w.heap.size w w3 := hbW.trans (hb3.mono hbW.size)
    have ht3 : w1.heap.size < w3.heap.size := Nat.lt_of_lt_of_le htW hb3.size
    clear c0 c1 c2 c3 c4 c5 c6 c7 hb3 hTW hhW hkW hbW htW
    go_wp2
    go_loopw [5, 6, 7, 8, 9, 10, 11, 12, 52] (fun av bv cv dv ev fv gv hv iv wr => ∃ (i q : Nat), i ≤ 64 ∧ iv = .int .i64 i ∧ wr = w3.drewN q ∧ av = .int .u32 ((rndTo v ws i).getD 0 0 : Nat) ∧ bv = .int .u32 ((rndTo v ws i).getD 1 0 : Nat) ∧ cv = .int .u32 ((rndTo v ws i).getD 2 0 : Nat) ∧ dv = .int .u32 ((rndTo v ws i).getD 3 0 : Nat) ∧ ev = .int .u32 ((rndTo v ws i).getD 4 0 : Nat) ∧ fv = .int .u32 ((rndTo v ws i).getD 5 0 : Nat) ∧ gv = .int .u32 ((rndTo v ws i).getD 6 0 : Nat) ∧ hv = .int .u32 ((rndTo v ws i).getD 7 0 : Nat)) (fun _ _ _ _ _ _ _ _ iv _ => 64 - (intOf iv).toNat)
    case atStart => exact ⟨0, 0, by omega, rfl, rfl, rfl, rfl, rfl, rfl, rfl, rfl, rfl, rfl⟩
    case round =>
      obtain ⟨i, q, hi, rfl, hwr, rfl, rfl, rfl, rfl, rfl, rfl, rfl, rfl⟩ := hrel
      have HWR := (show Hid _ from hwr)
      have hbw : Below w3.heap.size w3 wr := by rw [hwr]; simp only [World.drewN]; exact ⟨rfl, rfl, rfl, Nat.le_refl _, fun k _ => rfl⟩
      clear hwr
      by_cases hi64 : i < 64
      · have hck : wr.cell? ⟨0, i, none⟩ = some (.int .u32 (kW.getD i 0 : Nat)) := (hbw.cell (p := ⟨0, i, none⟩) hk3.1).trans (hk3.2 i hi64)
        have hcw : wr.cell? ⟨w1.heap.size, i, none⟩ = some (.int .u32 (ws.getD i 0 : Nat)) := by
          refine (hbw.cell (p := ⟨w1.heap.size, i, none⟩) ht3).trans ?_
          have := hT3 i (.int .u32 (ws.getD i 0 : Nat)) (by rw [HCS.out]; simp [wordsV, List.getD_eq_getElem?_getD, hwl, hi64])
          rwa [Nat.zero_add] at this
        have hkl := kW_lt i
        have hxl := HWB.out i
        have HRN : Hid (rndTo v ws (i + 1) = rndN (rndTo v ws i) (kW.getD i 0) (ws.getD i 0)) := rfl
        have hb0 := rndTo_bnd v ws h.vbnd i 0
        have hb1 := rndTo_bnd v ws h.vbnd i 1
        have hb2 := rndTo_bnd v ws h.vbnd i 2
        have hb3 := rndTo_bnd v ws h.vbnd i 3
        have hb4 := rndTo_bnd v ws h.vbnd i 4
        have hb5 := rndTo_bnd v ws h.vbnd i 5
        have hb6 := rndTo_bnd v ws h.vbnd i 6
        have hb7 := rndTo_bnd v ws h.vbnd i 7
        generalize rndTo v ws i = R at *
        generalize kW.getD i 0 = K at *
        generalize ws.getD i 0 = X at *
        obtain ⟨T, hT⟩ : ∃ T, T = tN R K X := ⟨_, rfl⟩
        obtain ⟨U, hU⟩ : ∃ U, U = uN R := ⟨_, rfl⟩
        have HRR : Hid (rndN R K X = [(T + U) % 4294967296, R.getD 0 0, R.getD 1 0, R.getD 2 0, (R.getD 3 0 + T) % 4294967296, R.getD 4 0, R.getD 5 0, R.getD 6 0]) := by show _ = _; rw [hT, hU]; rfl
        unfold tN at hT
        unfold uN at hU
        obtain ⟨a0, ha0⟩ : ∃ x, x = R.getD 0 0 := ⟨_, rfl⟩
        obtain ⟨b0, hb0'⟩ : ∃ x, x = R.getD 1 0 := ⟨_, rfl⟩
        obtain ⟨c0, hc0⟩ : ∃ x, x = R.getD 2 0 := ⟨_, rfl⟩
        obtain ⟨d0, hd0⟩ : ∃ x, x = R.getD 3 0 := ⟨_, rfl⟩
        obtain ⟨e0, he0⟩ : ∃ x, x = R.getD 4 0 := ⟨_, rfl⟩
        obtain ⟨f0, hf0⟩ : ∃ x, x = R.getD 5 0 := ⟨_, rfl⟩
        obtain ⟨g0, hg0⟩ : ∃ x, x = R.getD 6 0 := ⟨_, rfl⟩
        obtain ⟨h0, hh0⟩ : ∃ x, x = R.getD 7 0 := ⟨_, rfl⟩
        rw [← ha0, ← hb0', ← hc0] at hU
        rw [← he0, ← hf0, ← hg0, ← hh0] at hT
        rw [← ha0, ← hb0', ← hc0, ← hd0, ← he0, ← hf0, ← hg0] at HRR
        rw [← ha0] at hb0
        rw [← hb0'] at hb1
        rw [← hc0] at hb2
        rw [← hd0] at hb3
        rw [← he0] at hb4
        rw [← hf0] at hb5
        rw [← hg0] at hb6
        rw [← hh0] at hb7
        rw [← ha0, ← hb0', ← hc0, ← hd0, ← he0, ← hf0, ← hg0, ← hh0]
        clear ha0 hb0' hc0 hd0 he0 hf0 hg0 hh0
        have hr6 := fun W => turned_at e0 6 W hb4 (by omega) (by omega)
        have hr11 := fun W => turned_at e0 11 W hb4 (by omega) (by omega)
        have hr25 := fun W => turned_at e0 25 W hb4 (by omega) (by omega)
        have hr2 := fun W => turned_at a0 2 W hb0 (by omega) (by omega)
        have hr13 := fun W => turned_at a0 13 W hb0 (by omega) (by omega)
        have hr22 := fun W => turned_at a0 22 W hb0 (by omega) (by omega)
        have l6 := rotN_lt e0 6 hb4
        have l11 := rotN_lt e0 11 hb4
        have l25 := rotN_lt e0 25 hb4
        have l2 := rotN_lt a0 2 hb0
        have l13 := rotN_lt a0 13 hb0
        have l22 := rotN_lt a0 22 hb0
        unfold b1N at hT
        unfold b0N at hU
        generalize rotN e0 6 = r6 at *
        generalize rotN e0 11 = r11 at *
        generalize rotN e0 25 = r25 at *
        generalize rotN a0 2 = r2 at *
        generalize rotN a0 13 = r13 at *
        generalize rotN a0 22 = r22 at *
        have x1 := u32_xor_nat r6 r11 l6 l11
        have lx1 := xor_lt32 r6 r11 l6 l11
        generalize r6 ^^^ r11 = X1 at *
        have x2 := u32_xor_nat X1 r25 lx1 l25
        have lx2 := xor_lt32 X1 r25 lx1 l25
        generalize X1 ^^^ r25 = X2 at *
        have n1 := u32_and_nat e0 f0 hb4 hb5
        have ln1 := and_lt32 e0 f0 hb5
        generalize e0 &&& f0 = N1 at *
        have nt := not32 e0 hb4
        have n2 := u32_and_nat (4294967295 - e0) g0 (by omega) hb6
        have ln2 := and_lt32 (4294967295 - e0) g0 hb6
        generalize (4294967295 - e0) &&& g0 = N2 at *
        have n3 := u32_xor_nat N1 N2 ln1 ln2
        have ln3 := xor_lt32 N1 N2 ln1 ln2
        generalize N1 ^^^ N2 = N3 at *
        obtain ⟨ne, hne⟩ : ∃ ne, ne = 4294967295 - e0 := ⟨_, rfl⟩
        rw [← hne] at nt n2
        clear hne
        have y1 := u32_xor_nat r2 r13 l2 l13
        have ly1 := xor_lt32 r2 r13 l2 l13
        generalize r2 ^^^ r13 = Y1 at *
        have y2 := u32_xor_nat Y1 r22 ly1 l22
        have ly2 := xor_lt32 Y1 r22 ly1 l22
        generalize Y1 ^^^ r22 = Y2 at *
        have m1 := u32_and_nat a0 b0 hb0 hb1
        have lm1 := and_lt32 a0 b0 hb1
        generalize a0 &&& b0 = M1 at *
        have m2 := u32_and_nat a0 c0 hb0 hb2
        have lm2 := and_lt32 a0 c0 hb2
        generalize a0 &&& c0 = M2 at *
        have m3 := u32_and_nat b0 c0 hb1 hb2
        have lm3 := and_lt32 b0 c0 hb2
        generalize b0 &&& c0 = M3 at *
        have m4 := u32_xor_nat M1 M2 lm1 lm2
        have lm4 := xor_lt32 M1 M2 lm1 lm2
        generalize M1 ^^^ M2 = M4 at *
        have m5 := u32_xor_nat M4 M3 lm4 lm3
        have lm5 := xor_lt32 M4 M3 lm4 lm3
        generalize M4 ^^^ M3 = M5 at *
        obtain ⟨s1, hs1⟩ : ∃ s1 : Nat, IntKind.u32.wrap ((h0 : Int) + X2) = (s1 : Int) := ⟨(h0 + X2) % 4294967296, by rw [IntKind.wrap_u32]; omega⟩
        obtain ⟨s2, hs2⟩ : ∃ s2 : Nat, IntKind.u32.wrap ((s1 : Int) + N3) = (s2 : Int) := ⟨(s1 + N3) % 4294967296, by rw [IntKind.wrap_u32]; omega⟩
        obtain ⟨s3, hs3⟩ : ∃ s3 : Nat, IntKind.u32.wrap ((s2 : Int) + K) = (s3 : Int) := ⟨(s2 + K) % 4294967296, by rw [IntKind.wrap_u32]; omega⟩
        have hs4 : IntKind.u32.wrap ((s3 : Int) + X) = (T : Int) := by
          have e1 := hs1
          have e2 := hs2
          have e3 := hs3
          rw [IntKind.wrap_u32] at e1 e2 e3 ⊢
          omega
        have hu1 : IntKind.u32.wrap ((Y2 : Int) + M5) = (U : Int) := by rw [IntKind.wrap_u32]; omega
        obtain ⟨NE, hNE⟩ : ∃ NE : Nat, NE = (d0 + T) % 4294967296 := ⟨_, rfl⟩
        obtain ⟨NA, hNA⟩ : ∃ NA : Nat, NA = (T + U) % 4294967296 := ⟨_, rfl⟩
        rw [← hNE, ← hNA] at HRR
        have hu2 : IntKind.u32.wrap ((d0 : Int) + T) = (NE : Int) := by rw [IntKind.wrap_u32]; omega
        have hu3 : IntKind.u32.wrap ((T : Int) + U) = (NA : Int) := by rw [IntKind.wrap_u32]; omega
        have HTe : Hid (((s1 : Int) + N3 + K + X) % 4294967296 = (T : Int)) := by
          show _ = _
          have e2 := hs2
          have e3 := hs3
          have e4 := hs4
          rw [IntKind.wrap_u32] at e2 e3 e4
          omega
        have HNAe : Hid (((T : Int) + U) % 4294967296 = (NA : Int)) := by show _ = _; omega
        have HNEe : Hid (((d0 : Int) + T) % 4294967296 = (NE : Int)) := by show _ = _; omega
        clear hT hU hNE hNA
        have hi1 : (i : Int) < 64 := by omega
        go_wp2_with fail
        go_quiet ((go_at_call 63; first | exact Calls.quiet_of_same (hr6 _ _ _ (by rfl) (by rfl)) | exact Calls.quiet_of_same (hr11 _ _ _ (by rfl) (by rfl)) | exact Calls.quiet_of_same (hr25 _ _ _ (by rfl) (by rfl))))
        all_goals
          obtain ⟨w5, hw5⟩ : ∃ w5, w5 = wr.drewN nq := ⟨_, rfl⟩
          rw [← hw5]
          have HW5 : Hid (w5 = w3.drewN (q + nq)) := by show _ = _; rw [hw5, HWR.out]; exact World.drewN_drewN _ _ _
          clear hw5 hr6 hr11 hr25 hck hcw
          go_wp2_with fail
          refine (hr2 _ _ _ (by rfl) (by rfl)).mono ?_
          rintro e w' ⟨rfl, hw'⟩
          subst w'
          go_wp2_with fail
          refine (hr13 _ _ _ (by rfl) (by rfl)).mono ?_
          rintro e w' ⟨rfl, hw'⟩
          subst w'
          go_wp2_with fail
          refine (hr22 _ _ _ (by rfl) (by rfl)).mono ?_
          rintro e w' ⟨rfl, hw'⟩
          subst w'
          go_wp2_with fail
          go_roundw
          case rel => exact ⟨i + 1, q + nq, by omega, by go_num, HW5.out, by rw [HRN.out, HRR.out, HTe.out, HNAe.out]; rfl, by rw [HRN.out, HRR.out]; rfl, by rw [HRN.out, HRR.out]; rfl, by rw [HRN.out, HRR.out]; rfl, by rw [HRN.out, HRR.out, HTe.out, HNEe.out]; rfl, by rw [HRN.out, HRR.out]; rfl, by rw [HRN.out, HRR.out]; rfl, by rw [HRN.out, HRR.out]; rfl⟩
          case measure => simp [intOf]; omega
      · have e64 : i = 64 := by omega
        have hi1 : ¬ (i : Int) < 64 := by omega
        have hrb := rndTo_bnd v ws h.vbnd 64
        rw [e64]
        have hh5 := hh3.below hbw
        have hbel5 : Below w.heap.size w wr := hbel3.trans (hbw.mono hbel3.size)
        have HRl := (show Hid _ from rndTo_len v ws h.vlen 64)
        obtain ⟨R, hR⟩ : ∃ R, R = rndTo v ws 64 := ⟨_, rfl⟩
        rw [← hR] at hrb HRl
        have HCO : Hid (comp v b = addL v R) := by show _ = _; rw [hR, HWS.out]; rfl
        rw [← hR]
        clear hR hT3 hk3 hh3 hbel3 hbw e64
        have hH0 : HAt wr B p (mixL v R 0) b n := by rw [mixL_zero v R h.vlen]; exact hh5
        have HM8 : Hid (mixL v R 8 = addL v R) := mixL_all v R
        have HF5 : Hid (Fr (fun k => k = p) w wr) := Fr.of_below hbel5
        go_wp2
        go_loopw [124] (fun iv wr => ∃ i : Nat, i ≤ 8 ∧ iv = .int .i64 i ∧ HAt wr B p (mixL v R i) b n ∧ Fr (fun k => k = p) w wr) (fun iv _ => 8 - (intOf iv).toNat)
        case atStart => exact ⟨0, by omega, rfl, hH0, HF5.out⟩
        case round =>
          obtain ⟨j, hj, rfl, hH, hF⟩ := hrel
          clear hH0 HF5 hh5 hbel5
          by_cases hj8 : j < 8
          · have hcj := hH.vc j hj8
            have hfj := hH.free j
            have hvj : (mixL v R j).getD j 0 = v.getD j 0 := by rw [mixL_get v R j j hj8, if_neg (by omega)]
            rw [hvj] at hcj
            have hb1 := h.vbnd j
            have hb2 := hrb j
            have HNX : Hid (∀ x, x = (v.getD j 0 + R.getD j 0) % 4294967296 → HAt (wr.setCell ⟨p, j, none⟩ (.int .u32 (x : Nat))) B p (mixL v R (j + 1)) b n) := fun x hx => hH.setV j x hj8 (by rw [hx]; exact Nat.mod_lt _ (by omega)) _ (by simp [mixL]) (fun i => by
              by_cases hi8 : i < 8
              · rw [mixL_get v R (j + 1) i hi8]
                by_cases e : i = j
                · subst e; rw [if_pos (by omega), if_pos rfl, hx]
                · rw [if_neg e, mixL_get v R j i hi8]
                  by_cases e2 : i < j
                  · rw [if_pos (by omega), if_pos e2]
                  · rw [if_neg (by omega), if_neg e2]
              · have hn8 : ∀ k, (mixL v R k).getD i 0 = 0 := fun k => by rw [List.getD_eq_getElem?_getD, List.getElem?_eq_none (by simp [mixL]; omega)]; rfl
                rw [hn8, hn8]
                split
                · omega
                · rfl)
            have HFX : Hid (∀ x : Value, Fr (fun k => k = p) w (wr.setCell ⟨p, j, none⟩ x)) := fun x => hF.trans (Fr.setCell _ _ _ _ rfl)
            clear hH hF hvj
            have hj1 : (j : Int) < 8 := by omega
            have hidx := fun W => idx8 (R.getD 0 0) (R.getD 1 0) (R.getD 2 0) (R.getD 3 0) (R.getD 4 0) (R.getD 5 0) (R.getD 6 0) (R.getD 7 0) j hj8 W
            rw [get8 R j hj8] at hidx
            obtain ⟨x, hx⟩ : ∃ x, x = (v.getD j 0 + R.getD j 0) % 4294967296 := ⟨_, rfl⟩
            have HN2 := (show Hid _ from HNX.out x hx)
            have HF2 := (show Hid _ from HFX.out (.int .u32 (x : Nat)))
            have hwx : IntKind.u32.wrap (((v.getD j 0 : Nat) : Int) + (R.getD j 0 : Nat)) = (x : Int) := by rw [IntKind.wrap_u32]; omega
            have hwx2 : (((v.getD j 0 : Nat) : Int) + (R.getD j 0 : Nat)) % 4294967296 = (x : Int) := by omega
            simp only [List.getD_eq_getElem?_getD] at hcj hidx hwx hwx2
            generalize v[j]?.getD 0 = V at *
            generalize R[j]?.getD 0 = RJ at *
            clear hx HNX HFX hb1 hb2
            go_wp2_with fail
            go_region
            all_goals
              go_wp2
              go_roundw
              case rel => exact ⟨j + 1, by omega, by go_num, by first | exact HN2.out.below (Below.refl _ _).drew | exact HN2.out, by first | exact HF2.out.trans (Fr.of_below (Below.refl _ _).drew) | exact HF2.out⟩
              case measure => simp [intOf]; omega
          · have e8 : j = 8 := by omega
            have hj1 : ¬ (j : Int) < 8 := by omega
            rw [e8, HM8.out, ← HCO.out] at hH
            clear e8
            go_wp2
            go_end0
            exact ⟨rfl, hH, hF⟩
end Go.Proofs.YtmikhnaffhheoaaDoor
