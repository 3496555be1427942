/- streams: how many pieces, how many bytes are held. -/
import Derived.Test.YtjaheelgcjafcaaKB
import Derived.Deep.DeepMust
import Derived.Test.YtjaheelgcjafcaaCopy
namespace Go.Proofs.Ytjaheelgcjafcaa
open Go.RowKit
theorem zero_msg (w : World) : (zeroValue 51).run Try.prog w = .ok (.agg #[.int .u16 0, .int .u16 0, .int .u32 0, .bool false, .slice none 0 0]) w := by kernel_rfl
theorem mkc (c : Nat) (hc : c ≤ 281474976710656) (w : World) : (Instr.makeSlice 31 (.int .i64 0) (.int .i64 (c : Int))).run Try.prog w = .ok (.slice (some ⟨w.heap.size, 0, none⟩) 0 c) (w.alloc (.cells (madeCells #[.int .u8 0] c) 5)) := by
  obtain ⟨i, hi, hz0, hz1, hz2⟩ := info_parts own_info
  have := run_make (P := Try.prog) w 31 5 i (.int .u8 0) Try.underlying31 hi hz0 .i64 .i64 0 (c : Int) (by omega) (by omega) (by rw [hz2]; omega) (by omega)
  rw [hz1, show (Value.int .u8 0).cells = #[.int .u8 0] from rfl] at this
  simpa using this
theorem own_made2 (w : World) (c : Nat) (hc : c ≤ 281474976710656) : OwnB (w.alloc (.cells (madeCells #[.int .u8 0] c) 5)) w.heap.size (some ⟨w.heap.size, 0, none⟩) 0 c [] :=
  ⟨rfl, World.ownsRow_made w _ c (Nat.le_refl _) (by unfold maxLen; omega) (by rw [size_madeCells]; omega), fun i => by simp⟩
theorem OwnB.fr {w w' : World} {B : Nat} {a : Option Addr} {n c : Nat} {zs : List Nat} {Q : Nat → Prop} (h : OwnB w B a n c zs) (hf : Fr Q w w') (hq : ∀ g, B ≤ g → g < w.heap.size → ¬ Q g) : OwnB w' B a n c zs := by
  obtain ⟨h1, ⟨h2, h3⟩, h4⟩ := h
  refine ⟨h1, ⟨h2, ?_⟩, h4⟩
  rcases h3 with h3 | ⟨g, cap, cur, hv, hb, hh, hr⟩
  · exact .inl h3
  · have hl := (Array.getElem?_eq_some_iff.1 hh).1
    exact .inr ⟨g, cap, cur, hv, hb, (hf.block g hl (hq g hb hl)).trans hh, hr⟩
def Mg.v (m : Mg) (a : Option Addr) (c : Nat) : List Value := [.int .u16 (m.st : Nat), .int .u16 (m.ss : Nat), .int .u32 (m.pp : Nat), .bool m.fr, .slice a m.zs.length c]
theorem flat_len : ∀ (ps : List Pc), (ps.flatMap (·.zs)).length = byP ps
  | [] => rfl
  | x :: ps => by
    rw [List.flatMap_cons, List.length_append, flat_len ps]
    unfold byP
    simp
/-- How far joined has come: m lies in the block θ. -/
structure JnS (w : World) (θ B : Nat) (cs : List Value) (ps : List Pc) (i : Nat) (wr : World) : Prop where
  bel : Below w.heap.size w wr
  res : Stc wr w.heap.size [.int .u16 0, .int .u16 0, .int .u32 0, .bool false, .slice none 0 0]
  big : B ≤ wr.heap.size
  row : ∃ a1 c1, Stc wr θ (cs ++ [.slice a1 (byP (ps.take i)) c1]) ∧ OwnB wr B a1 (byP (ps.take i)) c1 ((ps.take i).flatMap (·.zs))
/-- What joined answers. -/
structure JnP (w : World) (ps : List Pc) (e : Ending) (w' : World) : Prop where
  ex : ∃ a c, e = .returned (.agg ((joinM ps).v a c).toArray) ∧ OwnB w' w.heap.size a (joinM ps).zs.length c (joinM ps).zs
  bel : Below w.heap.size w w'
set_option linter.unusedVariables false in
set_option maxRecDepth 100000 in
set_option maxHeartbeats 4000000 in
theorem joined_any {Y : Nat → Prop} {w : World} {a : Option Addr} {c : Nat} {ps : List Pc} (h : RowW Y w a c ps) :
    Calls Try.prog 44 #[.slice a ps.length c] w (JnP w ps) := by
  have HBY : Hid (∀ V, Below w.heap.size w V → Calls Try.prog 29 #[.slice a ps.length c] V fun e w' => e = .returned (.int .i64 (byP ps : Nat)) ∧ Below V.heap.size V w') := fun V hV => bytesOf_any (h.fr (Q := fun _ => False) (Fr.of_below hV) (fun _ _ e => e.elim))
  have hsm := byP_take_le h.small
  have hbyle := byP_le _ h.small
  have hle := h.le
  have hpos := h.pos
  have hcap := h.cap
  obtain ⟨x, hx0⟩ : ∃ x, ps[0]? = some x := ⟨_, List.getElem?_eq_getElem hpos⟩
  have hxw := h.each x (List.mem_of_getElem? hx0)
  have hhd : ps.headD zeroPc = x := by
    cases ps with
    | nil => cases hx0
    | cons y ps => simp at hx0; subst hx0; rfl
  have HJ : Hid (joinM ps = ⟨x.st, if x.free then 0 else x.ss, x.pp, x.free, ps.flatMap (·.zs)⟩) := by show _ = _; unfold joinM; rw [hhd]
  obtain ⟨g, rfl, hg, _, hcell⟩ := h.at_
  have HE := (show Hid _ from h.each)
  have HC := (show Hid _ from hcell)
  have HFR0 := (show Hid _ from fun V => free_any x.fl (.int .u16 (x.st : Nat)) (.int .u16 (x.ss : Nat)) (.int .u32 (x.pp : Nat)) (.slice x.a x.n x.c) V hxw.ok.fl _ rfl)
  have hcx := fun k u (hu : x.v[k]? = some u) => hcell 0 x hx0 k u hu
  have e0 := hcx 0 _ rfl
  have e1 := hcx 1 _ rfl
  have e2 := hcx 2 _ rfl
  have e3 := hcx 3 _ rfl
  have e4 := hcx 4 _ rfl
  simp only [Nat.zero_mul, Nat.zero_add] at e0 e1 e2 e3 e4
  obtain ⟨n, hn⟩ : ∃ n, n = ps.length := ⟨_, rfl⟩
  obtain ⟨bs, hbs⟩ : ∃ bs, bs = byP ps := ⟨_, rfl⟩
  rw [← hn] at hsm hbyle hle hpos hcap HBY ⊢
  rw [← hbs] at hbyle HBY
  have HN := (show Hid _ from And.intro hn hbs)
  have hmk := mkc bs (by omega)
  clear hcell h hn hbs hcx hxw hx0 hhd
  obtain ⟨fl1, st1, ss1, pp1, a1, n1, c1, z1⟩ := x
  unfold Pc.free at HJ
  dsimp only at e0 e1 e2 e3 e4 HJ HFR0
  generalize decide (fl1 / 4 % 2 = 1) = fr at *
  have HFR : Hid (∀ V, Calls Try.prog 43 #[.agg #[.int .u8 (fl1 : Nat), .int .u16 (st1 : Nat), .int .u16 (ss1 : Nat), .int .u32 (pp1 : Nat), .slice a1 n1 c1]] V fun e w' => e = .returned (.bool fr) ∧ Below V.heap.size V w') := HFR0.out
  clear HFR0
  obtain ⟨W1, hW1⟩ : ∃ W1, W1 = (w.alloc (.cells #[.int .u16 0, .int .u16 0, .int .u32 0, .bool false, .slice none 0 0] 51)).alloc (.cells #[.int .u8 (fl1 : Nat), .int .u16 (st1 : Nat), .int .u16 (ss1 : Nat), .int .u32 (pp1 : Nat), .slice a1 n1 c1] 79) := ⟨_, rfl⟩
  have hb0 : Below w.heap.size w (w.alloc (.cells #[.int .u16 0, .int .u16 0, .int .u32 0, .bool false, .slice none 0 0] 51)) := (Below.refl _ _).alloc (Nat.le_refl _) _
  have hb1 : Below (w.alloc (.cells #[.int .u16 0, .int .u16 0, .int .u32 0, .bool false, .slice none 0 0] 51)).heap.size (w.alloc (.cells #[.int .u16 0, .int .u16 0, .int .u32 0, .bool false, .slice none 0 0] 51)) W1 := by rw [hW1]; exact (Below.refl _ _).alloc (Nat.le_refl _) _
  have HB1 : Hid (Below w.heap.size w W1 ∧ w.heap.size + 2 ≤ W1.heap.size) := ⟨hb0.trans (hb1.mono hb0.size), by rw [hW1]; simp⟩
  have HR : Hid (Stc W1 w.heap.size [.int .u16 0, .int .u16 0, .int .u32 0, .bool false, .slice none 0 0]) := (Stc.new w [.int .u16 0, .int .u16 0, .int .u32 0, .bool false, .slice none 0 0] 51 _ rfl).below hb1
  have HX : Hid (Stc W1 (w.heap.size + 1) [.int .u8 (fl1 : Nat), .int .u16 (st1 : Nat), .int .u16 (ss1 : Nat), .int .u32 (pp1 : Nat), .slice a1 n1 c1]) := by
    have := Stc.new (w.alloc (.cells #[.int .u16 0, .int .u16 0, .int .u32 0, .bool false, .slice none 0 0] 51)) [.int .u8 (fl1 : Nat), .int .u16 (st1 : Nat), .int .u16 (ss1 : Nat), .int .u32 (pp1 : Nat), .slice a1 n1 c1] 79 W1 hW1
    rw [show (w.alloc (.cells #[.int .u16 0, .int .u16 0, .int .u32 0, .bool false, .slice none 0 0] 51)).heap.size = w.heap.size + 1 by simp] at this
    exact this
  have HKC : Hid (∀ V, Below W1.heap.size W1 V → V.cell? ⟨w.heap.size + 1, 0, none⟩ = some (.int .u8 (fl1 : Nat)) ∧ V.cell? ⟨w.heap.size + 1, 1, none⟩ = some (.int .u16 (st1 : Nat)) ∧ V.cell? ⟨w.heap.size + 1, 2, none⟩ = some (.int .u16 (ss1 : Nat)) ∧ V.cell? ⟨w.heap.size + 1, 3, none⟩ = some (.int .u32 (pp1 : Nat)) ∧ V.cell? ⟨w.heap.size + 1, 4, none⟩ = some (.slice a1 n1 c1)) := fun V hV => by
    have s := HX.out.below hV
    exact ⟨s.cell 0 _ rfl, s.cell 1 _ rfl, s.cell 2 _ rfl, s.cell 3 _ rfl, s.cell 4 _ rfl⟩
  clear hb0 hb1
  go_enter Try.func44, Try.ntmps44
  go_wp2_with fail
  rw [← hW1]
  clear hW1
  refine wp_region_parW mixedX (fun θ : Nat => [(10, .pointer (some ⟨w.heap.size + 1, 1, none⟩)), (11, .int .u16 (st1 : Nat)), (12, .pointer (some ⟨w.heap.size + 1, 3, none⟩)), (13, .int .u32 (pp1 : Nat)), (14, .agg #[.int .u8 (fl1 : Nat), .int .u16 (st1 : Nat), .int .u16 (ss1 : Nat), .int .u32 (pp1 : Nat), .slice a1 n1 c1]), (15, .bool fr), (16, .agg #[.int .u16 (st1 : Nat), .int .u16 0, .int .u32 (pp1 : Nat), .bool fr, .slice none 0 0]), (4, .pointer (some ⟨θ, 0, none⟩))]) (fun θ l V => RgC 7 8 W1 [.int .u16 0, .int .u16 0, .int .u32 0, .bool false, .slice none 0 0] [.int .u16 (st1 : Nat), .int .u16 0, .int .u32 (pp1 : Nat), .bool fr, .slice none 0 0] θ l V) 0 ?Z1 ?hZ1 (by kernel_rfl) (by kernel_rfl) (fun θ => by kernel_rfl) (by kernel_rfl) ?h01 ?hops1 ?he1
  case hZ1 => intro θ; simp only [List.foldl_cons, List.foldl_nil, List.setIfInBounds_toArray, List.set_cons_zero, List.set_cons_succ]; rfl
  case h01 => exact RgC.start (Below.refl _ _).drew
  case hops1 =>
    refine ⟨?_, ?_, ?_, ?_, ?_, ?_, ?_, ?_, ?_, trivial⟩
    · exact par_val (fun θ => by rfl) (fun θ l V hg => hg.other 0 (by decide) (by decide)) (fun θ l V hl hc hd hg => by have hB := hg.a4; obtain ⟨d0, d1, d2, d3, d4⟩ := HKC.out V hB; go_simp; (try with_reducible rfl); (try omega))
    · exact par_val (fun θ => by rfl) (fun θ l V hg => hg.other 1 (by decide) (by decide)) (fun θ l V hl hc hd hg => by have hB := hg.a4; obtain ⟨d0, d1, d2, d3, d4⟩ := HKC.out V hB; go_simp; (try with_reducible rfl); (try omega))
    · exact par_val (fun θ => by rfl) (fun θ l V hg => hg.other 2 (by decide) (by decide)) (fun θ l V hl hc hd hg => by have hB := hg.a4; obtain ⟨d0, d1, d2, d3, d4⟩ := HKC.out V hB; go_simp; (try with_reducible rfl); (try omega))
    · exact par_val (fun θ => by rfl) (fun θ l V hg => hg.other 3 (by decide) (by decide)) (fun θ l V hl hc hd hg => by have hB := hg.a4; obtain ⟨d0, d1, d2, d3, d4⟩ := HKC.out V hB; go_simp; (try with_reducible rfl); (try omega))
    · exact par_val (fun θ => by rfl) (fun θ l V hg => hg.other 4 (by decide) (by decide)) (fun θ l V hl hc hd hg => by have hB := hg.a4; obtain ⟨d0, d1, d2, d3, d4⟩ := HKC.out V hB; go_simp; (try with_reducible rfl); (try omega))
    · exact par_call (fun θ => by rfl) rfl (vs := fun _ => [.agg #[.int .u8 (fl1 : Nat), .int .u16 (st1 : Nat), .int .u16 (ss1 : Nat), .int .u32 (pp1 : Nat), .slice a1 n1 c1]]) (fun θ => by rfl) Try.func43 (by rfl) (by rfl) (fun θ l V hl hc hd hg => by
        have hB := hg.a4
        refine Calls.mono (HFR.out V) ?_
        rintro e V2 ⟨rfl, hb⟩
        exact ⟨_, rfl, θ, fun _ _ _ _ _ _ => rfl, fun d hd => (by cases hd; rfl), hg.call hb 5 (by decide) (by decide)⟩)
    · exact par_val (fun θ => by rfl) (fun θ l V hg => hg.other 6 (by decide) (by decide)) (fun θ l V hl hc hd hg => by have hB := hg.a4; obtain ⟨d0, d1, d2, d3, d4⟩ := HKC.out V hB; go_simp; (try with_reducible rfl); (try omega))
    · exact par_run (fun θ => by rfl) (fun θ l V hl hc hd hg => by
        have hs : l 8 = false := (by cases h : l 8 with | false => rfl | true => exact absurd (hc 8 7 (by kernel_rfl) h) (by rw [hl]; decide))
        exact ⟨_, _, run_allocX rfl zero_msg, next_set (by kernel_rfl) V.heap.size [(4, .pointer (some ⟨V.heap.size, 0, none⟩), 7)] (by simp only [List.foldl_cons, List.foldl_nil, List.setIfInBounds_toArray, List.set_cons_zero, List.set_cons_succ]) (by kernel_rfl) (fun y hy => by simp at hy; subst hy; exact hl) (fun d hd => by cases hd; rfl) (hg.alloc hs (by decide) _ _ rfl)⟩)
    · exact par_skip (fun θ => by rfl) (fun θ l V hl hc hd hg => by
        have ha : l 7 = true := hd 7 (by kernel_rfl)
        obtain ⟨hth, hst⟩ := hg.store ha hl rfl
        exact ⟨_, run_storeX rfl (b := θ) (k := 0) (by rfl) (cs := [.int .u16 (st1 : Nat), .int .u16 0, .int .u32 (pp1 : Nat), .bool fr, .slice none 0 0]) (by rfl) hth (by kernel_rfl) (by intro v hv; simp at hv; rcases hv with rfl | rfl | rfl | rfl | rfl <;> rfl), ⟨θ, fun _ _ _ _ _ _ => rfl, fun d hd => (by cases hd), hst⟩⟩)
  case he1 =>
  intro θ l V hall hg
  have hSt := hg.a1 (hall 8 (by decide))
  have hTh := hg.a3 (hall 7 (by decide))
  have hBl := hg.a4
  clear hall hg
  obtain ⟨q, hq⟩ : ∃ q, q = W1.heap.size := ⟨_, rfl⟩
  have HST : Hid (Stc V θ [.int .u16 (st1 : Nat), .int .u16 0, .int .u32 (pp1 : Nat), .bool fr, .slice none 0 0]) := hSt
  have HXV := (show Hid _ from HX.out.below hBl)
  have HRV := (show Hid _ from HR.out.below hBl)
  have HV : Hid (Below w.heap.size w V ∧ W1.heap.size ≤ V.heap.size) := ⟨HB1.out.1.trans (hBl.mono HB1.out.1.size), hBl.size⟩
  have hθ1 := hTh.1
  have hθ2 := hTh.2
  have hW1s := HB1.out.2
  clear HX HR HKC HFR hSt hTh hBl hq e0 e1 e2 e3 e4
  have f3 := HST.out.cell 3 _ rfl
  have f1f := HST.out.free 1
  have f1 := HST.out.cell 1 _ rfl
  have g2 := HXV.out.cell 2 _ rfl
  cases fr with
  | true =>
    have HSM : Hid (Stc V θ [.int .u16 (st1 : Nat), .int .u16 0, .int .u32 (pp1 : Nat), .bool true, .slice none 0 0] ∧ Stc V w.heap.size [.int .u16 0, .int .u16 0, .int .u32 0, .bool false, .slice none 0 0] ∧ Below w.heap.size w V ∧ θ < V.heap.size) := ⟨HST.out, HRV.out, HV.out.1, hθ2⟩
    clear g2 f1 f1f HXV HRV HST HV
    go_wp2_with fail
    clear f3
    refine (HBY.out _ HSM.out.2.2.1).mono ?_
    rintro e V3 ⟨rfl, hb3⟩
    obtain ⟨hs3, hr3, hl3, ht3⟩ := HSM.out
    replace hs3 := hs3.below hb3
    replace hr3 := hr3.below hb3
    replace hl3 : Below w.heap.size w V3 := hl3.trans (hb3.mono hl3.size)
    have ht3' : θ < V3.heap.size := Nat.lt_of_lt_of_le ht3 hb3.size
    have k4 := hs3.cell 4 _ rfl
    have k4f := hs3.free 4
    have HST3 : Hid (JnS w θ (θ + 1) [.int .u16 (st1 : Nat), .int .u16 0, .int .u32 (pp1 : Nat), .bool true] ps 0 ((V3.setCell ⟨θ, 4, none⟩ (.slice (some ⟨V3.heap.size, 0, none⟩) 0 bs)).alloc (.cells (madeCells #[.int .u8 0] bs) 5))) := by
      have hf := Fr.setCell (fun k => k = θ) V3 ⟨θ, 4, none⟩ (.slice (some ⟨V3.heap.size, 0, none⟩) 0 bs) rfl
      have hsz : (V3.setCell ⟨θ, 4, none⟩ (.slice (some ⟨V3.heap.size, 0, none⟩) 0 bs)).heap.size = V3.heap.size := by simp [World.setCell]
      have ho := own_made2 (V3.setCell ⟨θ, 4, none⟩ (.slice (some ⟨V3.heap.size, 0, none⟩) 0 bs)) bs (by omega)
      have hb : ∀ o, Below (V3.setCell ⟨θ, 4, none⟩ (.slice (some ⟨V3.heap.size, 0, none⟩) 0 bs)).heap.size (V3.setCell ⟨θ, 4, none⟩ (.slice (some ⟨V3.heap.size, 0, none⟩) 0 bs)) ((V3.setCell ⟨θ, 4, none⟩ (.slice (some ⟨V3.heap.size, 0, none⟩) 0 bs)).alloc o) := fun o => (Below.refl _ _).alloc (Nat.le_refl _) _
      rw [hsz] at ho
      have hl4 : Below w.heap.size w (V3.setCell ⟨θ, 4, none⟩ (.slice (some ⟨V3.heap.size, 0, none⟩) 0 bs)) := hl3.setCell (p := ⟨θ, 4, none⟩) (by show _ ≤ θ; omega) _
      exact ⟨hl4.trans ((hb _).mono hl4.size), (hr3.fr hf (by omega)).below (hb _), by simp [World.setCell]; omega, some ⟨V3.heap.size, 0, none⟩, bs, (hs3.set 4 _).below (hb _), ho.base (by omega)⟩
    clear hs3 hr3 hl3 hb3 HSM HBY
    go_wp2
    clear k4 k4f hmk
    go_loopw [29] (fun u29 wr => ∃ i : Nat, i ≤ n ∧ u29 = .int .i64 (i : Nat) ∧ JnS w θ (θ + 1) [.int .u16 (st1 : Nat), .int .u16 0, .int .u32 (pp1 : Nat), .bool true] ps i wr) (fun u29 _ => n - (intOf u29).toNat)
    case atStart => exact ⟨0, by omega, rfl, HST3.out⟩
    case round =>
      obtain ⟨i, hi, rfl, hJ⟩ := hrel
      have hsi := hsm i
      obtain ⟨hbl, hres, hBs, ra, rc, hth, hown⟩ := hJ
      have hθw : θ < wr.heap.size := by omega
      have hθn : ¬ θ = wr.heap.size := by omega
      by_cases hlt : i < n
      · have hlt1 : (i : Int) < (n : Int) := by omega
        obtain ⟨x, hx⟩ : ∃ x, ps[i]? = some x := ⟨_, List.getElem?_eq_getElem (by have := HN.out.1; omega)⟩
        have hxw := HE.out x (List.mem_of_getElem? hx)
        have hn1 := hxw.ok.n1
        have HT : Hid (byP (ps.take (i + 1)) = byP (ps.take i) + x.n ∧ (ps.take (i + 1)).flatMap (·.zs) = (ps.take i).flatMap (·.zs) ++ x.zs) := ⟨by rw [byP_take hx, hxw.len], by rw [List.take_add_one, hx, List.flatMap_append]; simp⟩
        have hc := fun k u (hu : x.v[k]? = some u) => (hbl.cell (p := ⟨g, i * 5 + k, none⟩) hg).trans (HC.out i x hx k u hu)
        have h0 := hc 0 _ rfl
        have h1 := hc 1 _ rfl
        have h2 := hc 2 _ rfl
        have h3 := hc 3 _ rfl
        have h4 := hc 4 _ rfl
        rw [Nat.add_zero] at h0
        have hsl := (hxw.fr (Q := fun _ => False) (Fr.of_below hbl) (fun _ _ e => e.elim)).sl
        clear hc hxw hx
        obtain ⟨fl, st, ss, pp, xa, xn, xc, zs⟩ := x
        dsimp only at h0 h1 h2 h3 h4 HT hn1 hsl
        generalize byP (ps.take i) = m at *
        generalize (ps.take i).flatMap (·.zs) = L at *
        have t4 := hth.cell 4 _ rfl
        have t4f := hth.free 4
        have hho := hown.alloc (.cells #[.int .u8 (fl : Nat), .int .u16 (st : Nat), .int .u16 (ss : Nat), .int .u32 (pp : Nat), .slice xa xn xc] 79)
        have hhs := hsl.alloc (.cells #[.int .u8 (fl : Nat), .int .u16 (st : Nat), .int .u16 (ss : Nat), .int .u32 (pp : Nat), .slice xa xn xc] 79)
        have HJ := (show Hid _ from And.intro hbl (And.intro hres (And.intro hth hown)))
        clear hbl hres hth hown hsl
        go_wp2_with (at_builtin; go_must (refine app_list rfl _ _ rfl (θ + 1) _ m rc L rfl hho _ xn xc zs rfl hhs (by omega) (by simp; omega) ?_))
        intro a2 c2 w2 ho2 hg2
        obtain ⟨hbl, hres, hth, hown⟩ := HJ.out
        have hba : Below wr.heap.size wr (wr.alloc (.cells #[.int .u8 (fl : Nat), .int .u16 (st : Nat), .int .u16 (ss : Nat), .int .u32 (pp : Nat), .slice xa xn xc] 79)) := (Below.refl _ _).alloc (Nat.le_refl _) _
        have hf2 : Fr (fun k => θ + 1 ≤ k) wr w2 := (Fr.of_below hba).trans (Fr.grown hg2 (fun k hk => (hho.own.lt k hk).1))
        have hth2 := hth.fr hf2 (by omega)
        have hres2 := hres.fr hf2 (by omega)
        have hbl2 : Below w.heap.size w w2 := hbl.trans (hf2.below w.heap.size hbl.size (fun k hk => by omega))
        have u4 := hth2.cell 4 _ rfl
        have u4f := hth2.free 4
        have HF : Hid (JnS w θ (θ + 1) [.int .u16 (st1 : Nat), .int .u16 0, .int .u32 (pp1 : Nat), .bool true] ps (i + 1) (w2.setCell ⟨θ, 4, none⟩ (.slice a2 (m + xn) c2))) := by
          have hf := Fr.setCell (fun k => k = θ) w2 ⟨θ, 4, none⟩ (.slice a2 (m + xn) c2) rfl
          refine ⟨hbl2.setCell (p := ⟨θ, 4, none⟩) (by show _ ≤ θ; omega) _, hres2.fr hf (by omega), Nat.le_trans (Nat.le_trans hBs hf2.size) hf.size, a2, c2, ?_, ?_⟩
          · rw [HT.out.1]
            exact hth2.set 4 _
          · rw [HT.out.1, HT.out.2]
            exact ho2.fr hf (fun k hk _ e => by omega)
        clear hba hf2 hth2 hres2 hbl2 hbl hres hth hown HJ ho2 hg2 hho hhs t4 t4f h0 h1 h2 h3 h4
        go_wp2
        go_roundw
        case rel => exact ⟨i + 1, by omega, by go_num, HF.out⟩
        case measure => simp [intOf]; omega
      · obtain rfl : i = n := by omega
        have et : ps.take i = ps := List.take_of_length_le (by have := HN.out.1; omega)
        rw [et] at hth hown hsi
        have hfl := flat_len ps
        rw [← HN.out.2] at hth hown hsi hfl
        have hm0 := hth.cell 0 _ rfl
        have hm1 := hth.cell 1 _ rfl
        have hm2 := hth.cell 2 _ rfl
        have hm3 := hth.cell 3 _ rfl
        have hm4 := hth.cell 4 _ rfl
        have hq0 := hres.cell 0 _ rfl
        have hq1 := hres.cell 1 _ rfl
        have hq2 := hres.cell 2 _ rfl
        have hq3 := hres.cell 3 _ rfl
        have hq4 := hres.cell 4 _ rfl
        have hy0 := hres.free 0
        have hy1 := hres.free 1
        have hy2 := hres.free 2
        have hy3 := hres.free 3
        have hy4 := hres.free 4
        have HFin := (show Hid _ from And.intro hbl (And.intro hres hown))
        have HFL := (show Hid _ from hfl)
        clear hbl hres hth hown hfl et
        go_wp2
        try simp only [Exit.inBlock, Exit.then]
        obtain ⟨hbl, hres, hown⟩ := HFin.out
        have hput := hres.put [.int .u16 (st1 : Nat), .int .u16 0, .int .u32 (pp1 : Nat), .bool true, .slice ra bs rc] rfl
        have hff := fr_setCellsX w.heap.size [.int .u16 (st1 : Nat), .int .u16 0, .int .u32 (pp1 : Nat), .bool true, .slice ra bs rc] 0 wr
        refine bodyPost_ret (results_cellE rfl _ _ w.heap.size 0 [.int .u16 (st1 : Nat), .int .u16 0, .int .u32 (pp1 : Nat), .bool true, .slice ra bs rc] _ rfl hput.range Try.underlying51 rfl (by kernel_rfl)) rfl ?_
        refine ⟨⟨ra, rc, ?_, ?_⟩, hbl.trans (hff.below _ hbl.size (fun k hk => Nat.le_of_eq (Eq.symm hk)))⟩
        · rw [HJ.out]
          unfold Mg.v
          dsimp only
          rw [HFL.out]
          rfl
        · rw [HJ.out]
          dsimp only
          rw [HFL.out]
          exact (hown.fr hff (fun k hk _ e => by have e2 : k = w.heap.size := e; omega)).base (by omega)
  | false =>
    obtain ⟨V2, hV2⟩ : ∃ V2, V2 = V.setCell ⟨θ, 1, none⟩ (.int .u16 (ss1 : Nat)) := ⟨_, rfl⟩
    have HSM : Hid (Stc V2 θ [.int .u16 (st1 : Nat), .int .u16 (ss1 : Nat), .int .u32 (pp1 : Nat), .bool false, .slice none 0 0] ∧ Stc V2 w.heap.size [.int .u16 0, .int .u16 0, .int .u32 0, .bool false, .slice none 0 0] ∧ Below w.heap.size w V2 ∧ θ < V2.heap.size) := by
      have hf := Fr.setCell (fun k => k = θ) V ⟨θ, 1, none⟩ (.int .u16 (ss1 : Nat)) rfl
      rw [hV2]
      exact ⟨HST.out.set 1 _, HRV.out.fr hf (by omega), HV.out.1.setCell (p := ⟨θ, 1, none⟩) (by show _ ≤ θ; omega) _, Nat.lt_of_lt_of_le hθ2 hf.size⟩
    clear HXV HRV HST HV
    go_wp2_with fail
    rw [← hV2]
    clear f1 f3 f1f g2 hV2 hθ2
    refine (HBY.out _ HSM.out.2.2.1).mono ?_
    rintro e V3 ⟨rfl, hb3⟩
    obtain ⟨hs3, hr3, hl3, ht3⟩ := HSM.out
    replace hs3 := hs3.below hb3
    replace hr3 := hr3.below hb3
    replace hl3 : Below w.heap.size w V3 := hl3.trans (hb3.mono hl3.size)
    have ht3' : θ < V3.heap.size := Nat.lt_of_lt_of_le ht3 hb3.size
    have k4 := hs3.cell 4 _ rfl
    have k4f := hs3.free 4
    have HST3 : Hid (JnS w θ (θ + 1) [.int .u16 (st1 : Nat), .int .u16 (ss1 : Nat), .int .u32 (pp1 : Nat), .bool false] ps 0 ((V3.setCell ⟨θ, 4, none⟩ (.slice (some ⟨V3.heap.size, 0, none⟩) 0 bs)).alloc (.cells (madeCells #[.int .u8 0] bs) 5))) := by
      have hf := Fr.setCell (fun k => k = θ) V3 ⟨θ, 4, none⟩ (.slice (some ⟨V3.heap.size, 0, none⟩) 0 bs) rfl
      have hsz : (V3.setCell ⟨θ, 4, none⟩ (.slice (some ⟨V3.heap.size, 0, none⟩) 0 bs)).heap.size = V3.heap.size := by simp [World.setCell]
      have ho := own_made2 (V3.setCell ⟨θ, 4, none⟩ (.slice (some ⟨V3.heap.size, 0, none⟩) 0 bs)) bs (by omega)
      have hb : ∀ o, Below (V3.setCell ⟨θ, 4, none⟩ (.slice (some ⟨V3.heap.size, 0, none⟩) 0 bs)).heap.size (V3.setCell ⟨θ, 4, none⟩ (.slice (some ⟨V3.heap.size, 0, none⟩) 0 bs)) ((V3.setCell ⟨θ, 4, none⟩ (.slice (some ⟨V3.heap.size, 0, none⟩) 0 bs)).alloc o) := fun o => (Below.refl _ _).alloc (Nat.le_refl _) _
      rw [hsz] at ho
      have hl4 : Below w.heap.size w (V3.setCell ⟨θ, 4, none⟩ (.slice (some ⟨V3.heap.size, 0, none⟩) 0 bs)) := hl3.setCell (p := ⟨θ, 4, none⟩) (by show _ ≤ θ; omega) _
      exact ⟨hl4.trans ((hb _).mono hl4.size), (hr3.fr hf (by omega)).below (hb _), by simp [World.setCell]; omega, some ⟨V3.heap.size, 0, none⟩, bs, (hs3.set 4 _).below (hb _), ho.base (by omega)⟩
    clear hs3 hr3 hl3 hb3 HSM HBY
    go_wp2
    clear k4 k4f hmk
    go_loopw [29] (fun u29 wr => ∃ i : Nat, i ≤ n ∧ u29 = .int .i64 (i : Nat) ∧ JnS w θ (θ + 1) [.int .u16 (st1 : Nat), .int .u16 (ss1 : Nat), .int .u32 (pp1 : Nat), .bool false] ps i wr) (fun u29 _ => n - (intOf u29).toNat)
    case atStart => exact ⟨0, by omega, rfl, HST3.out⟩
    case round =>
      obtain ⟨i, hi, rfl, hJ⟩ := hrel
      have hsi := hsm i
      obtain ⟨hbl, hres, hBs, ra, rc, hth, hown⟩ := hJ
      have hθw : θ < wr.heap.size := by omega
      have hθn : ¬ θ = wr.heap.size := by omega
      by_cases hlt : i < n
      · have hlt1 : (i : Int) < (n : Int) := by omega
        obtain ⟨x, hx⟩ : ∃ x, ps[i]? = some x := ⟨_, List.getElem?_eq_getElem (by have := HN.out.1; omega)⟩
        have hxw := HE.out x (List.mem_of_getElem? hx)
        have hn1 := hxw.ok.n1
        have HT : Hid (byP (ps.take (i + 1)) = byP (ps.take i) + x.n ∧ (ps.take (i + 1)).flatMap (·.zs) = (ps.take i).flatMap (·.zs) ++ x.zs) := ⟨by rw [byP_take hx, hxw.len], by rw [List.take_add_one, hx, List.flatMap_append]; simp⟩
        have hc := fun k u (hu : x.v[k]? = some u) => (hbl.cell (p := ⟨g, i * 5 + k, none⟩) hg).trans (HC.out i x hx k u hu)
        have h0 := hc 0 _ rfl
        have h1 := hc 1 _ rfl
        have h2 := hc 2 _ rfl
        have h3 := hc 3 _ rfl
        have h4 := hc 4 _ rfl
        rw [Nat.add_zero] at h0
        have hsl := (hxw.fr (Q := fun _ => False) (Fr.of_below hbl) (fun _ _ e => e.elim)).sl
        clear hc hxw hx
        obtain ⟨fl, st, ss, pp, xa, xn, xc, zs⟩ := x
        dsimp only at h0 h1 h2 h3 h4 HT hn1 hsl
        generalize byP (ps.take i) = m at *
        generalize (ps.take i).flatMap (·.zs) = L at *
        have t4 := hth.cell 4 _ rfl
        have t4f := hth.free 4
        have hho := hown.alloc (.cells #[.int .u8 (fl : Nat), .int .u16 (st : Nat), .int .u16 (ss : Nat), .int .u32 (pp : Nat), .slice xa xn xc] 79)
        have hhs := hsl.alloc (.cells #[.int .u8 (fl : Nat), .int .u16 (st : Nat), .int .u16 (ss : Nat), .int .u32 (pp : Nat), .slice xa xn xc] 79)
        have HJ := (show Hid _ from And.intro hbl (And.intro hres (And.intro hth hown)))
        clear hbl hres hth hown hsl
        go_wp2_with (at_builtin; go_must (refine app_list rfl _ _ rfl (θ + 1) _ m rc L rfl hho _ xn xc zs rfl hhs (by omega) (by simp; omega) ?_))
        intro a2 c2 w2 ho2 hg2
        obtain ⟨hbl, hres, hth, hown⟩ := HJ.out
        have hba : Below wr.heap.size wr (wr.alloc (.cells #[.int .u8 (fl : Nat), .int .u16 (st : Nat), .int .u16 (ss : Nat), .int .u32 (pp : Nat), .slice xa xn xc] 79)) := (Below.refl _ _).alloc (Nat.le_refl _) _
        have hf2 : Fr (fun k => θ + 1 ≤ k) wr w2 := (Fr.of_below hba).trans (Fr.grown hg2 (fun k hk => (hho.own.lt k hk).1))
        have hth2 := hth.fr hf2 (by omega)
        have hres2 := hres.fr hf2 (by omega)
        have hbl2 : Below w.heap.size w w2 := hbl.trans (hf2.below w.heap.size hbl.size (fun k hk => by omega))
        have u4 := hth2.cell 4 _ rfl
        have u4f := hth2.free 4
        have HF : Hid (JnS w θ (θ + 1) [.int .u16 (st1 : Nat), .int .u16 (ss1 : Nat), .int .u32 (pp1 : Nat), .bool false] ps (i + 1) (w2.setCell ⟨θ, 4, none⟩ (.slice a2 (m + xn) c2))) := by
          have hf := Fr.setCell (fun k => k = θ) w2 ⟨θ, 4, none⟩ (.slice a2 (m + xn) c2) rfl
          refine ⟨hbl2.setCell (p := ⟨θ, 4, none⟩) (by show _ ≤ θ; omega) _, hres2.fr hf (by omega), Nat.le_trans (Nat.le_trans hBs hf2.size) hf.size, a2, c2, ?_, ?_⟩
          · rw [HT.out.1]
            exact hth2.set 4 _
          · rw [HT.out.1, HT.out.2]
            exact ho2.fr hf (fun k hk _ e => by omega)
        clear hba hf2 hth2 hres2 hbl2 hbl hres hth hown HJ ho2 hg2 hho hhs t4 t4f h0 h1 h2 h3 h4
        go_wp2
        go_roundw
        case rel => exact ⟨i + 1, by omega, by go_num, HF.out⟩
        case measure => simp [intOf]; omega
      · obtain rfl : i = n := by omega
        have et : ps.take i = ps := List.take_of_length_le (by have := HN.out.1; omega)
        rw [et] at hth hown hsi
        have hfl := flat_len ps
        rw [← HN.out.2] at hth hown hsi hfl
        have hm0 := hth.cell 0 _ rfl
        have hm1 := hth.cell 1 _ rfl
        have hm2 := hth.cell 2 _ rfl
        have hm3 := hth.cell 3 _ rfl
        have hm4 := hth.cell 4 _ rfl
        have hq0 := hres.cell 0 _ rfl
        have hq1 := hres.cell 1 _ rfl
        have hq2 := hres.cell 2 _ rfl
        have hq3 := hres.cell 3 _ rfl
        have hq4 := hres.cell 4 _ rfl
        have hy0 := hres.free 0
        have hy1 := hres.free 1
        have hy2 := hres.free 2
        have hy3 := hres.free 3
        have hy4 := hres.free 4
        have HFin := (show Hid _ from And.intro hbl (And.intro hres hown))
        have HFL := (show Hid _ from hfl)
        clear hbl hres hth hown hfl et
        go_wp2
        try simp only [Exit.inBlock, Exit.then]
        obtain ⟨hbl, hres, hown⟩ := HFin.out
        have hput := hres.put [.int .u16 (st1 : Nat), .int .u16 (ss1 : Nat), .int .u32 (pp1 : Nat), .bool false, .slice ra bs rc] rfl
        have hff := fr_setCellsX w.heap.size [.int .u16 (st1 : Nat), .int .u16 (ss1 : Nat), .int .u32 (pp1 : Nat), .bool false, .slice ra bs rc] 0 wr
        refine bodyPost_ret (results_cellE rfl _ _ w.heap.size 0 [.int .u16 (st1 : Nat), .int .u16 (ss1 : Nat), .int .u32 (pp1 : Nat), .bool false, .slice ra bs rc] _ rfl hput.range Try.underlying51 rfl (by kernel_rfl)) rfl ?_
        refine ⟨⟨ra, rc, ?_, ?_⟩, hbl.trans (hff.below _ hbl.size (fun k hk => Nat.le_of_eq (Eq.symm hk)))⟩
        · rw [HJ.out]
          unfold Mg.v
          dsimp only
          rw [HFL.out]
          rfl
        · rw [HJ.out]
          dsimp only
          rw [HFL.out]
          exact (hown.fr hff (fun k hk _ e => by have e2 : k = w.heap.size := e; omega)).base (by omega)
end Go.Proofs.Ytjaheelgcjafcaa
namespace Go.Proofs.Ytjaheelgcjafcaa
open Go.RowKit
/-- The region of pieceOf: a call (10) answers new bytes, which are stored (12). -/
structure PoG (W0 : World) (q n : Nat) (zs : List Nat) (R : Option Addr × Nat → List Value) (θ : Option Addr × Nat) (l : Nat → Bool) (V : World) : Prop where
  s0 : l 10 = false → V = W0
  s1 : l 10 = true → l 12 = false → Below W0.heap.size W0 V ∧ OwnB V W0.heap.size θ.1 n θ.2 zs
  s2 : l 12 = true → ∃ V1, Below W0.heap.size W0 V1 ∧ OwnB V1 W0.heap.size θ.1 n θ.2 zs ∧ V = V1.setCells q 0 (R θ)
section
variable {W0 : World} {q n : Nat} {zs : List Nat} {R : Option Addr × Nat → List Value} {θ : Option Addr × Nat} {l : Nat → Bool} {V : World}
theorem PoG.start : PoG W0 q n zs R θ (fun _ => false) W0 := ⟨fun _ => rfl, fun e => (by cases e), fun e => (by cases e)⟩
theorem PoG.other (h : PoG W0 q n zs R θ l V) (i : Nat) (h1 : 10 ≠ i) (h2 : 12 ≠ i) : PoG W0 q n zs R θ (updL l i) V :=
  ⟨by rw [updL_neC h1]; exact h.s0, by rw [updL_neC h1, updL_neC h2]; exact h.s1, by rw [updL_neC h2]; exact h.s2⟩
theorem PoG.call {a : Option Addr} {c : Nat} (h12 : l 12 = false) (hb : Below W0.heap.size W0 V) (ho : OwnB V W0.heap.size a n c zs) : PoG W0 q n zs R (a, c) (updL l 10) V :=
  ⟨fun e => (by rw [updL_eqC] at e; cases e), fun _ _ => ⟨hb, ho⟩, fun e => (by rw [updL_neC (by decide), h12] at e; cases e)⟩
theorem PoG.bel (h : PoG W0 q n zs R θ l V) (h12 : l 12 = false) : Below W0.heap.size W0 V := by
  cases h10 : l 10 with
  | false => rw [h.s0 h10]; exact Below.refl _ _
  | true => exact (h.s1 h10 h12).1
theorem PoG.store (h : PoG W0 q n zs R θ l V) (h10 : l 10 = true) (h12 : l 12 = false) {z : List Value} (hz : Stc W0 q z) (hl : (R θ).length = z.length) : V.there q 0 (R θ).length ∧ PoG W0 q n zs R θ (updL l 12) (V.setCells q 0 (R θ)) := by
  obtain ⟨hb, ho⟩ := h.s1 h10 h12
  exact ⟨by rw [hl]; exact (hz.below hb).there, ⟨fun e => (by rw [updL_neC (by decide), h10] at e; cases e), fun _ e => (by rw [updL_eqC] at e; cases e), fun _ => ⟨V, hb, ho, rfl⟩⟩⟩
end
structure PoP (w : World) (f st ss pp n : Nat) (zs : List Nat) (e : Ending) (w' : World) : Prop where
  ex : ∃ a c, e = .returned (Pc.mk f st ss pp a n c zs).val ∧ OwnB w' w.heap.size a n c zs
  bel : Below w.heap.size w w'
set_option linter.unusedVariables false in
set_option maxRecDepth 100000 in
set_option maxHeartbeats 4000000 in
theorem pieceOf_any (k f t st ss pp : Nat) (c6 c7 c8 c9 c10 c11 c12 : Value) (xa : Option Addr) (n xc : Nat) (zs : List Nat) (w : World) (hs : Sl w xa n xc zs) (hn : n ≤ 100000) (v : Value) (hv : v = .agg #[.int .u8 (k : Nat), .int .u8 (f : Nat), .int .u32 (t : Nat), .int .u16 (st : Nat), .int .u16 (ss : Nat), .int .u32 (pp : Nat), c6, c7, c8, c9, c10, c11, c12, .slice xa n xc]) :
    Calls Try.prog 25 #[v] w (PoP w f st ss pp n zs) := by
  subst hv
  obtain ⟨W0, hW0⟩ : ∃ W0, W0 = (w.alloc (.cells #[.int .u8 (k : Nat), .int .u8 (f : Nat), .int .u32 (t : Nat), .int .u16 (st : Nat), .int .u16 (ss : Nat), .int .u32 (pp : Nat), c6, c7, c8, c9, c10, c11, c12, .slice xa n xc] 47)).alloc (.cells #[.int .u8 0, .int .u16 0, .int .u16 0, .int .u32 0, .slice none 0 0] 79) := ⟨_, rfl⟩
  have hb0 : Below w.heap.size w (w.alloc (.cells #[.int .u8 (k : Nat), .int .u8 (f : Nat), .int .u32 (t : Nat), .int .u16 (st : Nat), .int .u16 (ss : Nat), .int .u32 (pp : Nat), c6, c7, c8, c9, c10, c11, c12, .slice xa n xc] 47)) := (Below.refl _ _).alloc (Nat.le_refl _) _
  have hb1 : Below (w.alloc (.cells #[.int .u8 (k : Nat), .int .u8 (f : Nat), .int .u32 (t : Nat), .int .u16 (st : Nat), .int .u16 (ss : Nat), .int .u32 (pp : Nat), c6, c7, c8, c9, c10, c11, c12, .slice xa n xc] 47)).heap.size (w.alloc (.cells #[.int .u8 (k : Nat), .int .u8 (f : Nat), .int .u32 (t : Nat), .int .u16 (st : Nat), .int .u16 (ss : Nat), .int .u32 (pp : Nat), c6, c7, c8, c9, c10, c11, c12, .slice xa n xc] 47)) W0 := by rw [hW0]; exact (Below.refl _ _).alloc (Nat.le_refl _) _
  have hbd : Below w.heap.size w W0.drew := (hb0.trans (hb1.mono hb0.size)).drew
  have hC := ((Stc.new w [.int .u8 (k : Nat), .int .u8 (f : Nat), .int .u32 (t : Nat), .int .u16 (st : Nat), .int .u16 (ss : Nat), .int .u32 (pp : Nat), c6, c7, c8, c9, c10, c11, c12, .slice xa n xc] 47 _ rfl).below hb1).below (Below.refl _ _).drew
  have hZ := (Stc.new (w.alloc (.cells #[.int .u8 (k : Nat), .int .u8 (f : Nat), .int .u32 (t : Nat), .int .u16 (st : Nat), .int .u16 (ss : Nat), .int .u32 (pp : Nat), c6, c7, c8, c9, c10, c11, c12, .slice xa n xc] 47)) [.int .u8 0, .int .u16 0, .int .u16 0, .int .u32 0, .slice none 0 0] 79 W0 hW0).below (Below.refl _ _).drew
  rw [show (w.alloc (.cells #[.int .u8 (k : Nat), .int .u8 (f : Nat), .int .u32 (t : Nat), .int .u16 (st : Nat), .int .u16 (ss : Nat), .int .u32 (pp : Nat), c6, c7, c8, c9, c10, c11, c12, .slice xa n xc] 47)).heap.size = w.heap.size + 1 by simp] at hZ
  have HZ5 : Hid (Stc W0.drew (w.heap.size + 1) [.int .u8 0, .int .u16 0, .int .u16 0, .int .u32 0, .slice none 0 0]) := hZ
  have HKC : Hid (∀ V, Below W0.drew.heap.size W0.drew V → V.cell? ⟨w.heap.size, 1, none⟩ = some (.int .u8 (f : Nat)) ∧ V.cell? ⟨w.heap.size, 3, none⟩ = some (.int .u16 (st : Nat)) ∧ V.cell? ⟨w.heap.size, 4, none⟩ = some (.int .u16 (ss : Nat)) ∧ V.cell? ⟨w.heap.size, 5, none⟩ = some (.int .u32 (pp : Nat)) ∧ V.cell? ⟨w.heap.size, 13, none⟩ = some (.slice xa n xc)) := fun V hV => by
    have s := hC.below hV
    exact ⟨s.cell 1 _ rfl, s.cell 3 _ rfl, s.cell 4 _ rfl, s.cell 5 _ rfl, s.cell 13 _ rfl⟩
  have HCL := (show Hid _ from clone_any xa n xc zs W0.drew (hs.below hbd) (by omega))
  have HB := (show Hid _ from And.intro hbd (show w.heap.size + 1 < W0.drew.heap.size from hZ.lt))
  clear hC hZ hb0 hb1 hbd hs
  go_enter Try.func25, Try.ntmps25
  go_wp2_with fail
  rw [← hW0]
  clear hW0
  refine wp_region_parW mixedX (fun θ : Option Addr × Nat => [(3, .pointer (some ⟨w.heap.size, 1, none⟩)), (4, .int .u8 (f : Nat)), (5, .pointer (some ⟨w.heap.size, 3, none⟩)), (6, .int .u16 (st : Nat)), (7, .pointer (some ⟨w.heap.size, 4, none⟩)), (8, .int .u16 (ss : Nat)), (9, .pointer (some ⟨w.heap.size, 5, none⟩)), (10, .int .u32 (pp : Nat)), (11, .pointer (some ⟨w.heap.size, 13, none⟩)), (12, .slice xa n xc), (13, .slice θ.1 n θ.2), (14, .agg #[.int .u8 (f : Nat), .int .u16 (st : Nat), .int .u16 (ss : Nat), .int .u32 (pp : Nat), .slice θ.1 n θ.2])]) (fun θ l V => PoG W0.drew (w.heap.size + 1) n zs (fun θ => [.int .u8 (f : Nat), .int .u16 (st : Nat), .int .u16 (ss : Nat), .int .u32 (pp : Nat), .slice θ.1 n θ.2]) θ l V) (none, 0) ?Z1 ?hZ1 (by kernel_rfl) (by kernel_rfl) (fun θ => by kernel_rfl) (by kernel_rfl) ?h01 ?hops1 ?he1
  case hZ1 => intro θ; simp only [List.foldl_cons, List.foldl_nil, List.setIfInBounds_toArray, List.set_cons_zero, List.set_cons_succ]; rfl
  case h01 => exact PoG.start
  case hops1 =>
    refine ⟨?_, ?_, ?_, ?_, ?_, ?_, ?_, ?_, ?_, ?_, ?_, ?_, ?_, trivial⟩
    · exact par_val (fun θ => by rfl) (fun θ l V hg => hg.other 0 (by decide) (by decide)) (fun θ l V hl hc hd hg => by go_simp; (try with_reducible rfl); (try omega))
    · exact par_val (fun θ => by rfl) (fun θ l V hg => hg.other 1 (by decide) (by decide)) (fun θ l V hl hc hd hg => by have h12 : l 12 = false := (by cases h : l 12 with | false => rfl | true => exact absurd (hc 12 1 (by kernel_rfl) h) (by rw [hl]; decide)); obtain ⟨d0, d1, d2, d3, d4⟩ := HKC.out V (hg.bel h12); go_simp; (try with_reducible rfl); (try omega))
    · exact par_val (fun θ => by rfl) (fun θ l V hg => hg.other 2 (by decide) (by decide)) (fun θ l V hl hc hd hg => by go_simp; (try with_reducible rfl); (try omega))
    · exact par_val (fun θ => by rfl) (fun θ l V hg => hg.other 3 (by decide) (by decide)) (fun θ l V hl hc hd hg => by have h12 : l 12 = false := (by cases h : l 12 with | false => rfl | true => exact absurd (hc 12 3 (by kernel_rfl) h) (by rw [hl]; decide)); obtain ⟨d0, d1, d2, d3, d4⟩ := HKC.out V (hg.bel h12); go_simp; (try with_reducible rfl); (try omega))
    · exact par_val (fun θ => by rfl) (fun θ l V hg => hg.other 4 (by decide) (by decide)) (fun θ l V hl hc hd hg => by go_simp; (try with_reducible rfl); (try omega))
    · exact par_val (fun θ => by rfl) (fun θ l V hg => hg.other 5 (by decide) (by decide)) (fun θ l V hl hc hd hg => by have h12 : l 12 = false := (by cases h : l 12 with | false => rfl | true => exact absurd (hc 12 5 (by kernel_rfl) h) (by rw [hl]; decide)); obtain ⟨d0, d1, d2, d3, d4⟩ := HKC.out V (hg.bel h12); go_simp; (try with_reducible rfl); (try omega))
    · exact par_val (fun θ => by rfl) (fun θ l V hg => hg.other 6 (by decide) (by decide)) (fun θ l V hl hc hd hg => by go_simp; (try with_reducible rfl); (try omega))
    · exact par_val (fun θ => by rfl) (fun θ l V hg => hg.other 7 (by decide) (by decide)) (fun θ l V hl hc hd hg => by have h12 : l 12 = false := (by cases h : l 12 with | false => rfl | true => exact absurd (hc 12 7 (by kernel_rfl) h) (by rw [hl]; decide)); obtain ⟨d0, d1, d2, d3, d4⟩ := HKC.out V (hg.bel h12); go_simp; (try with_reducible rfl); (try omega))
    · exact par_val (fun θ => by rfl) (fun θ l V hg => hg.other 8 (by decide) (by decide)) (fun θ l V hl hc hd hg => by go_simp; (try with_reducible rfl); (try omega))
    · exact par_val (fun θ => by rfl) (fun θ l V hg => hg.other 9 (by decide) (by decide)) (fun θ l V hl hc hd hg => by have h12 : l 12 = false := (by cases h : l 12 with | false => rfl | true => exact absurd (hc 12 9 (by kernel_rfl) h) (by rw [hl]; decide)); obtain ⟨d0, d1, d2, d3, d4⟩ := HKC.out V (hg.bel h12); go_simp; (try with_reducible rfl); (try omega))
    · exact par_call (fun θ => by rfl) rfl (vs := fun _ => [.slice xa n xc]) (fun θ => by rfl) Try.func38 (by rfl) (by rfl) (fun θ l V hl hc hd hg => by
        have h11 : l 11 = false := (by cases h : l 11 with | false => rfl | true => exact absurd (hc 11 10 (by kernel_rfl) h) (by rw [hl]; decide))
        have h12 : l 12 = false := (by cases h : l 12 with | false => rfl | true => exact absurd (hc 12 10 (by kernel_rfl) h) (by rw [hl]; decide))
        obtain rfl := hg.s0 hl
        refine Calls.mono HCL.out ?_
        rintro e V2 ⟨a6, c6', rfl, ho6, _, hb6⟩
        exact ⟨_, rfl, next_set (by kernel_rfl) (a6, c6') [(13, .slice a6 n c6', 10), (14, .agg #[.int .u8 (f : Nat), .int .u16 (st : Nat), .int .u16 (ss : Nat), .int .u32 (pp : Nat), .slice a6 n c6'], 11)] (by simp only [List.foldl_cons, List.foldl_nil, List.setIfInBounds_toArray, List.set_cons_zero, List.set_cons_succ]) (by kernel_rfl) (fun y hy => by simp at hy; rcases hy with rfl | rfl; exact hl; exact h11) (fun d hd => by cases hd; rfl) (PoG.call h12 hb6 ho6)⟩)
    · exact par_val (fun θ => by rfl) (fun θ l V hg => hg.other 11 (by decide) (by decide)) (fun θ l V hl hc hd hg => by go_simp; (try with_reducible rfl); (try omega))
    · exact par_skip (fun θ => by rfl) (fun θ l V hl hc hd hg => by
        have h11 : l 11 = true := hd 11 (by kernel_rfl)
        have h10 : l 10 = true := hc 11 10 (by kernel_rfl) h11
        obtain ⟨hth, hst⟩ := hg.store h10 hl HZ5.out rfl
        exact ⟨_, run_storeX rfl (b := w.heap.size + 1) (k := 0) (by rfl) (cs := [.int .u8 (f : Nat), .int .u16 (st : Nat), .int .u16 (ss : Nat), .int .u32 (pp : Nat), .slice θ.1 n θ.2]) (by rfl) hth (by kernel_rfl) (by intro v hv; simp at hv; rcases hv with rfl | rfl | rfl | rfl | rfl <;> rfl), ⟨θ, fun _ _ _ _ _ _ => rfl, fun d hd => (by cases hd), hst⟩⟩)
  case he1 =>
  rintro ⟨da, dc⟩ l V hall hg
  obtain ⟨V1, hb1, ho1, rfl⟩ := hg.s2 (hall 12 (by decide))
  clear hall hg
  dsimp only at ho1 ⊢
  have hZ1 := HZ5.out.below hb1
  have hput := hZ1.put [.int .u8 (f : Nat), .int .u16 (st : Nat), .int .u16 (ss : Nat), .int .u32 (pp : Nat), .slice da n dc] rfl
  have hff := fr_setCellsX (w.heap.size + 1) [.int .u8 (f : Nat), .int .u16 (st : Nat), .int .u16 (ss : Nat), .int .u32 (pp : Nat), .slice da n dc] 0 V1
  have hlt := HB.out.2
  have hP : PoP w f st ss pp n zs (.returned (Pc.mk f st ss pp da n dc zs).val) (V1.setCells (w.heap.size + 1) 0 [.int .u8 (f : Nat), .int .u16 (st : Nat), .int .u16 (ss : Nat), .int .u32 (pp : Nat), .slice da n dc]) := by
    refine ⟨⟨da, dc, rfl, (ho1.fr hff (fun g hg _ e => ?_)).base HB.out.1.size⟩, (HB.out.1.trans (hb1.mono HB.out.1.size)).trans (hff.below _ (Nat.le_trans HB.out.1.size hb1.size) (fun k hk => ?_))⟩
    · have e2 : g = w.heap.size + 1 := e
      omega
    · have e2 : k = w.heap.size + 1 := hk
      omega
  have hrg := hput.range
  generalize V1.setCells (w.heap.size + 1) 0 [.int .u8 (f : Nat), .int .u16 (st : Nat), .int .u16 (ss : Nat), .int .u32 (pp : Nat), .slice da n dc] = V2 at *
  have HP := (show Hid _ from And.intro hP hrg)
  clear hP hrg hput hff hZ1 ho1 hb1
  go_wp2
  try simp only [Exit.inBlock, Exit.then]
  exact bodyPost_ret (results_cellE rfl _ _ (w.heap.size + 1) 0 [.int .u8 (f : Nat), .int .u16 (st : Nat), .int .u16 (ss : Nat), .int .u32 (pp : Nat), .slice da n dc] _ rfl HP.out.2 Try.underlying79 rfl (by kernel_rfl)) rfl HP.out.1
end Go.Proofs.Ytjaheelgcjafcaa
namespace Go.Proofs.Ytjaheelgcjafcaa
open Go.RowKit Go.MapKept Go.Maps
theorem perm_sum {l l' : List Nat} (h : l.Perm l') : l.sum = l'.sum := by
  induction h with
  | nil => rfl
  | cons x _ ih => simp only [List.sum_cons]; omega
  | swap x y l => simp only [List.sum_cons]; omega
  | trans _ _ h1 h2 => exact h1.trans h2
section
variable {α : Type}
def lkN (f : α → Nat) (D : List (Nat × α)) (q : Nat) : Nat := ((lookD D q).map f).getD 0
theorem sum_keys (f : α → Nat) : ∀ (D : List (Nat × α)), Srt D → ((D.map (·.1)).map (lkN f D)).sum = sumD f D
  | [], _ => rfl
  | y :: D, h => by
    obtain ⟨h1, h2⟩ := List.pairwise_cons.1 h
    have ih := sum_keys f D h2
    have e : (D.map (·.1)).map (lkN f (y :: D)) = (D.map (·.1)).map (lkN f D) := by
      refine List.map_congr_left (fun q hq => ?_)
      obtain ⟨z, hz, rfl⟩ := List.mem_map.1 hq
      have := h1 z hz
      unfold lkN
      rw [show lookD (y :: D) z.1 = lookD D z.1 from by rw [lookD]; exact if_neg (by omega)]
    rw [List.map_cons, List.map_cons, e, List.sum_cons, ih]
    have e2 : lkN f (y :: D) y.1 = f y.2 := by unfold lkN; rw [lookD, if_pos rfl]; rfl
    rw [e2]
    rfl
theorem sum_seen (f : α → Nat) (D : List (Nat × α)) (hs : Srt D) (ss : List Nat) (hn : ss.Nodup) (hm : ∀ q, q ∈ ss ↔ (lookD D q).isSome = true) : (ss.map (lkN f D)).sum = sumD f D := by
  have hp : ss.Perm (D.map (·.1)) := (List.perm_ext_iff_of_nodup hn hs.nodup).2 (fun q => by rw [hm q, lookD_some_iff])
  rw [perm_sum (hp.map _), sum_keys f D hs]
theorem sum_few (f : α → Nat) (D : List (Nat × α)) (M : Nat) (hM : ∀ y ∈ D, f y.2 ≤ M) : ∀ (ss : List Nat), (ss.map (lkN f D)).sum ≤ M * ss.length
  | [] => Nat.zero_le _
  | q :: ss => by
    have ih := sum_few f D M hM ss
    have h1 : lkN f D q ≤ M := by
      unfold lkN
      cases e : lookD D q with
      | none => exact Nat.zero_le _
      | some x => exact hM _ (lookD_mem e)
    simp only [List.map_cons, List.sum_cons, List.length_cons]
    rw [Nat.mul_add]
    omega
theorem sum_snoc (f : α → Nat) (D : List (Nat × α)) (ss : List Nat) (q : Nat) : ((ss ++ [q]).map (lkN f D)).sum = (ss.map (lkN f D)).sum + lkN f D q := by simp
end
set_option linter.unusedVariables false in
set_option maxRecDepth 100000 in
set_option maxHeartbeats 4000000 in
theorem held_any {w : World} {p nb mb wb : Nat} {wr0 : Nat → Option Addr × Nat} {Y : Nat → Prop} {s : SmS} (h : SmW w p nb mb wb wr0 Y s) :
    Calls Try.prog 16 #[.pointer (some ⟨p, 0, none⟩)] w fun e w' => e = .returned (.tuple #[.int .i64 (s.heldN : Nat), .int .i64 (s.heldB : Nat)]) ∧ Below w.heap.size w w' := by
  have hld := fun ty => h.lenD (Below.refl _ _) ty
  have hdl := h.lenDle
  have hwl := h.lenW
  have hpl := h.st.lt
  have hc1 := h.st.cell 1 _ rfl
  have HDS : Hid (∀ y ∈ s.D, y.2.zs.length ≤ 1452) := fun y hy => by rw [(h.ds y hy).2.len]; exact (h.ds y hy).2.ok.n1
  have HWS : Hid ((∀ y ∈ s.W, byP y.2 ≤ 200000) ∧ ∀ y ∈ s.W, y.2.length ≤ 128) := ⟨fun y hy => by
    have h1 := byP_le y.2 (h.ws y hy).2.small
    have h2 := (h.ws y hy).2.le
    omega, fun y hy => (h.ws y hy).2.le⟩
  have HH := (show Hid _ from h)
  obtain ⟨W0, hrun0, ⟨left0, hit0⟩, hb0, hz0⟩ := h.mp.range (P := Try.prog) (t := 73) Try.underlying73
  obtain ⟨nD, hnD⟩ : ∃ nD, nD = s.D.length := ⟨_, rfl⟩
  rw [← hnD] at hld hdl hit0
  have HND := (show Hid _ from hnD)
  have HI0 := (show Hid _ from And.intro hit0 hb0)
  clear h hnD hit0 hb0 hz0
  go_enter Try.func16, Try.ntmps16
  go_wp2
  clear hld hc1 hrun0
  go_loopw [5] (fun u5 wr => ∃ (ss : List Nat) (left : Nat), MIt ipV IpK wr mb w.heap.size nD (fun q => (lookD s.D q).map Pc.val) ss left ∧ u5 = .int .i64 ((ss.map (lkN (fun x : Pc => x.zs.length) s.D)).sum : Nat) ∧ Below w.heap.size w wr) (fun _ wr => wr.rangeLeft mb w.heap.size)
  case atStart => exact ⟨[], left0, HI0.out.1, rfl, HI0.out.2⟩
  case round =>
    obtain ⟨ss, left, hit, rfl, hb⟩ := hrel
    obtain ⟨wq, hwq⟩ : ∃ wq, wq = wr := ⟨_, rfl⟩
    subst hwq
    have HL := (show Hid _ from hit.left_eq)
    have hfew := sum_few (fun x : Pc => x.zs.length) s.D 1452 HDS.out ss
    rcases hit.next (P := Try.prog) ipKE.inj 0 with ⟨hl0, hall, hrun⟩ | ⟨q, v, w2, left2, hq, hv, hqn, hlt, hrun, hit2, hll, hg2, hs2, hen⟩
    · have HS : Hid ((ss.map (lkN (fun x : Pc => x.zs.length) s.D)).sum = sumD (fun x : Pc => x.zs.length) s.D) := by
        refine sum_seen _ _ HH.out.sd ss hit.nodup (fun q => ⟨fun hq => ?_, fun hq => ?_⟩)
        · have := (hit.there q hq).2
          cases e : lookD s.D q with
          | none => rw [e] at this; cases this
          | some x => rfl
        · have hk : IpK q := by
            cases e : lookD s.D q with
            | none => rw [e] at hq; cases hq
            | some x => exact (HH.out.ds _ (lookD_mem e)).1
          refine hall q hk ?_
          cases e : lookD s.D q with
          | none => rw [e] at hq; cases hq
          | some x => rfl
      have hmx : (ss.map (lkN (fun x : Pc => x.zs.length) s.D)).sum ≤ 1452 * 128 := by
        rw [HS.out, ← sum_keys _ _ HH.out.sd]
        refine Nat.le_trans (sum_few (fun x : Pc => x.zs.length) s.D 1452 HDS.out _) ?_
        rw [List.length_map, ← HND.out]
        exact Nat.mul_le_mul_left _ hdl
      generalize (ss.map (lkN (fun x : Pc => x.zs.length) s.D)).sum = A at *
      have hsm := HH.out.below hb
      have hc2 := hsm.st.cell 2 _ rfl
      obtain ⟨W1, hrun1, ⟨left1, hit1⟩, hb1, hz1⟩ := hsm.wm.range (P := Try.prog) (t := 74) Try.underlying74
      obtain ⟨nW, hnW⟩ : ∃ nW, nW = s.W.length := ⟨_, rfl⟩
      rw [← hnW] at hit1 hwl
      have HNW := (show Hid _ from hnW)
      have HI1 := (show Hid _ from And.intro hit1 (And.intro hb1 hsm))
      have HB := (show Hid _ from hb)
      clear hit hall hl0 HL hsm hb hit1 hb1 hz1 hnW hfew
      go_wp2
      clear hrun hrun1 hc2
      go_loopw [4, 5] (fun u4 u5 wr => ∃ (tt : List Nat) (left : Nat), MIt tuV IpK wr wb wq.heap.size nW (fun q => (lookD s.W q).map (wval wr0 q)) tt left ∧ u4 = .int .i64 ((nD + (tt.map (lkN List.length s.W)).sum : Nat)) ∧ u5 = .int .i64 ((A + (tt.map (lkN byP s.W)).sum : Nat)) ∧ Below wq.heap.size wq wr) (fun _ _ wr => wr.rangeLeft wb wq.heap.size)
      case atStart => exact ⟨[], left1, HI1.out.1, rfl, rfl, HI1.out.2.1⟩
      case round =>
        obtain ⟨tt, left, hit, rfl, rfl, hb⟩ := hrel
        have HL := (show Hid _ from hit.left_eq)
        have hf1 := sum_few List.length s.W 128 HWS.out.2 tt
        have hf2 := sum_few byP s.W 200000 HWS.out.1 tt
        have htl : tt.length ≤ nW := by
          obtain ⟨es, c, s, c0, seen, h1, h2, h3, h4, h5, h6, h7, h8, h9, h10, h11, _⟩ := hit.ex
          omega
        rcases hit.next (P := Try.prog) tuKE.inj 0 with ⟨hl0, hall, hrun⟩ | ⟨q, v, w2, left2, hq, hv, hqn, hlt, hrun, hit2, hll, hg2, hs2, hen⟩
        · have hmem : ∀ q, q ∈ tt ↔ (lookD s.W q).isSome = true := fun q => ⟨fun hq => by
            have := (hit.there q hq).2
            cases e : lookD s.W q with
            | none => rw [e] at this; cases this
            | some x => rfl, fun hq => by
            have hk : IpK q := by
              cases e : lookD s.W q with
              | none => rw [e] at hq; cases hq
              | some x => exact (HH.out.ws _ (lookD_mem e)).1
            refine hall q hk ?_
            cases e : lookD s.W q with
            | none => rw [e] at hq; cases hq
            | some x => rfl⟩
          have HF : Hid (nD + (tt.map (lkN List.length s.W)).sum = s.heldN ∧ A + (tt.map (lkN byP s.W)).sum = s.heldB) := by
            rw [sum_seen _ _ HH.out.sw tt hit.nodup hmem, sum_seen _ _ HH.out.sw tt hit.nodup hmem, HND.out, HS.out]
            exact ⟨rfl, rfl⟩
          have HB2 : Hid (Below w.heap.size w wr) := HB.out.trans (hb.mono HB.out.size)
          generalize (tt.map (lkN List.length s.W)).sum = A1 at *
          generalize (tt.map (lkN byP s.W)).sum = A2 at *
          clear hit hall hl0 HL hb hmem
          go_wp2
          go_ret2
          exact ⟨by rw [← HF.out.1, ← HF.out.2]; rfl, HB2.out⟩
        · obtain ⟨ps, hps, rfl⟩ : ∃ ps, lookD s.W q = some ps ∧ v = wval wr0 q ps := by
            cases e : lookD s.W q with
            | none => rw [e] at hv; cases hv
            | some ps => rw [e] at hv; exact ⟨ps, rfl, (Option.some.inj hv).symm⟩
          have hn1 : lkN List.length s.W q = ps.length := by unfold lkN; rw [hps]; rfl
          have hn2 : lkN byP s.W q = byP ps := by unfold lkN; rw [hps]; rfl
          have HT : Hid (((tt ++ [q]).map (lkN List.length s.W)).sum = (tt.map (lkN List.length s.W)).sum + ps.length ∧ ((tt ++ [q]).map (lkN byP s.W)).sum = (tt.map (lkN byP s.W)).sum + byP ps) := by
            rw [sum_snoc, sum_snoc, hn1, hn2]
            exact ⟨rfl, rfl⟩
          have hp1 := HWS.out.2 _ (lookD_mem hps)
          have hp2 := HWS.out.1 _ (lookD_mem hps)
          dsimp only at hp1 hp2
          have hb2 : Below wq.heap.size wq w2 := hb.trans ((Below.refl wq.heap.size wr).grown hg2 hb.size (fun k hk => by cases hk; exact Nat.le_refl _))
          have hbw : Below w.heap.size w w2 := HB.out.trans (hb2.mono HB.out.size)
          have HBY := (show Hid _ from bytesOf_any ((HH.out.below hbw).ws _ (lookD_mem hps)).2)
          unfold wval at hrun hen
          dsimp only at HBY
          have HI := (show Hid _ from And.intro hit2 (And.intro hb2 hll))
          generalize (tt.map (lkN List.length s.W)).sum = A1 at *
          generalize (tt.map (lkN byP s.W)).sum = A2 at *
          generalize (wr0 q).1 = ra at *
          generalize (wr0 q).2 = rc at *
          obtain ⟨np, hnp⟩ : ∃ np, np = ps.length := ⟨_, rfl⟩
          obtain ⟨bp, hbp⟩ : ∃ bp, bp = byP ps := ⟨_, rfl⟩
          rw [← hnp] at hp1 HT hrun hen HBY
          rw [← hbp] at hp2 HT HBY
          clear hnp hbp hit hit2 hb hb2 hbw hg2 hs2 hv hqn hn1 hn2 hps hll
          go_wp2_with fail
          refine Calls.mono HBY.out ?_
          rintro e w3 ⟨rfl, hb3⟩
          have HZ : Hid (MIt tuV IpK w3 wb wq.heap.size nW (fun q => (lookD s.W q).map (wval wr0 q)) (tt ++ [q]) left2 ∧ Below wq.heap.size wq w3 ∧ left2 < left) := ⟨HI.out.1.same (hb3.block _ HI.out.1.mp.lt) (hb3.block _ HI.out.1.lt), HI.out.2.1.trans (hb3.mono HI.out.2.1.size), HI.out.2.2⟩
          clear hb3 HI HBY hrun hen
          go_wp2
          go_roundw
          case rel => exact ⟨tt ++ [q], left2, HZ.out.1, by rw [HT.out.1]; go_num, by rw [HT.out.2]; go_num, HZ.out.2.1⟩
          case measure => rw [HZ.out.1.left_eq, HL.out]; exact HZ.out.2.2
    · obtain ⟨x, hx, rfl⟩ : ∃ x, lookD s.D q = some x ∧ v = x.val := by
        cases e : lookD s.D q with
        | none => rw [e] at hv; cases hv
        | some x => rw [e] at hv; exact ⟨x, rfl, (Option.some.inj hv).symm⟩
      have hn1 : lkN (fun x : Pc => x.zs.length) s.D q = x.n := by unfold lkN; rw [hx]; exact (HH.out.ds _ (lookD_mem hx)).2.len
      have HT : Hid (((ss ++ [q]).map (lkN (fun x : Pc => x.zs.length) s.D)).sum = (ss.map (lkN (fun x : Pc => x.zs.length) s.D)).sum + x.n) := by show _ = _; rw [sum_snoc, hn1]
      have hxn := (HH.out.ds _ (lookD_mem hx)).2.ok.n1
      have hb2 : Below w.heap.size w w2 := hb.trans ((Below.refl w.heap.size wq).grown hg2 hb.size (fun k hk => by cases hk; exact Nat.le_refl _))
      obtain ⟨fl, st, ss', pp, xa, xn, xc, zs⟩ := x
      unfold Pc.val at hrun hen
      dsimp only at hrun hen HT hxn
      have hba : ∀ o, Below w2.heap.size w2 (w2.alloc o) := fun o => (Below.refl _ _).alloc (Nat.le_refl _) _
      have HZ : Hid (∀ o, MIt ipV IpK (w2.alloc o) mb w.heap.size nD (fun q => (lookD s.D q).map Pc.val) (ss ++ [q]) left2 ∧ Below w.heap.size w (w2.alloc o) ∧ left2 < left) := fun o => ⟨hit2.same ((hba o).block _ hit2.mp.lt) ((hba o).block _ hit2.lt), hb2.trans ((hba o).mono hb2.size), hll⟩
      generalize (ss.map (lkN (fun x : Pc => x.zs.length) s.D)).sum = A at *
      clear hba hit hit2 hb hb2 hg2 hs2 hv hqn hx hn1 hll
      go_wp2
      go_roundw
      case rel => exact ⟨ss ++ [q], left2, (HZ.out _).1, by rw [HT.out]; go_num, (HZ.out _).2.1⟩
      case measure => rw [(HZ.out _).1.left_eq, HL.out]; exact (HZ.out (.map #[] 0)).2.2
end Go.Proofs.Ytjaheelgcjafcaa
