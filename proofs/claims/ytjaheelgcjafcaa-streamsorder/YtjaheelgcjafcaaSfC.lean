/- streams: the message of pieces. -/
import Derived.Test.YtjaheelgcjafcaaSfB
import Derived.Test.YtjaheelgcjafcaaRgC
import Derived.Deep.DeepMust
namespace Go.Proofs.Ytjaheelgcjafcaa
open Go.RowKit
theorem zero_msg (w : World) : (zeroValue 51).run Try.prog w = .ok (.agg #[.int .u16 0, .int .u16 0, .int .u32 0, .bool false, .slice none 0 0]) w := by kernel_rfl
theorem mkc (c : Nat) (hc : c ≤ 281474976710656) (w : World) : (Instr.makeSlice 31 (.int .i64 0) (.int .i64 (c : Int))).run Try.prog w = .ok (.slice (some ⟨w.heap.size, 0, none⟩) 0 c) (w.alloc (.cells (madeCells #[.int .u8 0] c) 5)) := by
  obtain ⟨i, hi, hz0, hz1, hz2⟩ := info_parts own_info
  have := run_make (P := Try.prog) w 31 5 i (.int .u8 0) Try.underlying31 hi hz0 .i64 .i64 0 (c : Int) (by omega) (by omega) (by rw [hz2]; omega) (by omega)
  rw [hz1, show (Value.int .u8 0).cells = #[.int .u8 0] from rfl] at this
  simpa using this
theorem own_made2 (w : World) (c : Nat) (hc : c ≤ 281474976710656) : OwnB (w.alloc (.cells (madeCells #[.int .u8 0] c) 5)) w.heap.size (some ⟨w.heap.size, 0, none⟩) 0 c [] :=
  ⟨rfl, World.ownsRow_made w _ c (Nat.le_refl _) (by unfold maxLen; omega) (by rw [size_madeCells]; omega), fun i => by simp⟩
theorem OwnB.fr {w w' : World} {B : Nat} {a : Option Addr} {n c : Nat} {zs : List Nat} {Q : Nat → Prop} (h : OwnB w B a n c zs) (hf : Fr Q w w') (hq : ∀ g, B ≤ g → g < w.heap.size → ¬ Q g) : OwnB w' B a n c zs := by
  obtain ⟨h1, ⟨h2, h3⟩, h4⟩ := h
  refine ⟨h1, ⟨h2, ?_⟩, h4⟩
  rcases h3 with h3 | ⟨g, cap, cur, hv, hb, hh, hr⟩
  · exact .inl h3
  · have hl := (Array.getElem?_eq_some_iff.1 hh).1
    exact .inr ⟨g, cap, cur, hv, hb, (hf.block g hl (hq g hb hl)).trans hh, hr⟩
def Mg.v (m : Mg) (a : Option Addr) (c : Nat) : List Value := [.int .u16 (m.st : Nat), .int .u16 (m.ss : Nat), .int .u32 (m.pp : Nat), .bool m.fr, .slice a m.zs.length c]
theorem flat_len : ∀ (ps : List Pc), (ps.flatMap (·.zs)).length = byP ps
  | [] => rfl
  | x :: ps => by
    rw [List.flatMap_cons, List.length_append, flat_len ps]
    unfold byP
    simp
/-- How far joined has come: m lies in the block θ. -/
structure JnS (w : World) (θ B : Nat) (cs : List Value) (ps : List Pc) (i : Nat) (wr : World) : Prop where
  bel : Below w.heap.size w wr
  res : Stc wr w.heap.size [.int .u16 0, .int .u16 0, .int .u32 0, .bool false, .slice none 0 0]
  big : B ≤ wr.heap.size
  row : ∃ a1 c1, Stc wr θ (cs ++ [.slice a1 (byP (ps.take i)) c1]) ∧ OwnB wr B a1 (byP (ps.take i)) c1 ((ps.take i).flatMap (·.zs))
/-- What joined answers. -/
structure JnP (w : World) (ps : List Pc) (e : Ending) (w' : World) : Prop where
  ex : ∃ a c, e = .returned (.agg ((joinM ps).v a c).toArray) ∧ OwnB w' w.heap.size a (joinM ps).zs.length c (joinM ps).zs
  bel : Below w.heap.size w w'
set_option linter.unusedVariables false in
set_option maxRecDepth 100000 in
set_option maxHeartbeats 4000000 in
theorem joined_any {Y : Nat → Prop} {w : World} {a : Option Addr} {c : Nat} {ps : List Pc} (h : RowW Y w a c ps) :
    Calls Try.prog 44 #[.slice a ps.length c] w (JnP w ps) := by
  have HBY : Hid (∀ V, Below w.heap.size w V → Calls Try.prog 29 #[.slice a ps.length c] V fun e w' => e = .returned (.int .i64 (byP ps : Nat)) ∧ Below V.heap.size V w') := fun V hV => bytesOf_any (h.fr (Q := fun _ => False) (Fr.of_below hV) (fun _ _ e => e.elim))
  have hsm := byP_take_le h.small
  have hbyle := byP_le _ h.small
  have hle := h.le
  have hpos := h.pos
  have hcap := h.cap
  obtain ⟨x, hx0⟩ : ∃ x, ps[0]? = some x := ⟨_, List.getElem?_eq_getElem hpos⟩
  have hxw := h.each x (List.mem_of_getElem? hx0)
  have hhd : ps.headD zeroPc = x := by
    cases ps with
    | nil => cases hx0
    | cons y ps => simp at hx0; subst hx0; rfl
  have HJ : Hid (joinM ps = ⟨x.st, if x.free then 0 else x.ss, x.pp, x.free, ps.flatMap (·.zs)⟩) := by show _ = _; unfold joinM; rw [hhd]
  obtain ⟨g, rfl, hg, _, hcell⟩ := h.at_
  have HE := (show Hid _ from h.each)
  have HC := (show Hid _ from hcell)
  have HFR0 := (show Hid _ from fun V => free_any x.fl (.int .u16 (x.st : Nat)) (.int .u16 (x.ss : Nat)) (.int .u32 (x.pp : Nat)) (.slice x.a x.n x.c) V hxw.ok.fl _ rfl)
  have hcx := fun k u (hu : x.v[k]? = some u) => hcell 0 x hx0 k u hu
  have e0 := hcx 0 _ rfl
  have e1 := hcx 1 _ rfl
  have e2 := hcx 2 _ rfl
  have e3 := hcx 3 _ rfl
  have e4 := hcx 4 _ rfl
  simp only [Nat.zero_mul, Nat.zero_add] at e0 e1 e2 e3 e4
  obtain ⟨n, hn⟩ : ∃ n, n = ps.length := ⟨_, rfl⟩
  obtain ⟨bs, hbs⟩ : ∃ bs, bs = byP ps := ⟨_, rfl⟩
  rw [← hn] at hsm hbyle hle hpos hcap HBY ⊢
  rw [← hbs] at hbyle HBY
  have HN := (show Hid _ from And.intro hn hbs)
  have hmk := mkc bs (by omega)
  clear hcell h hn hbs hcx hxw hx0 hhd
  obtain ⟨fl1, st1, ss1, pp1, a1, n1, c1, z1⟩ := x
  unfold Pc.free at HJ
  dsimp only at e0 e1 e2 e3 e4 HJ HFR0
  generalize decide (fl1 / 4 % 2 = 1) = fr at *
  have HFR : Hid (∀ V, Calls Try.prog 43 #[.agg #[.int .u8 (fl1 : Nat), .int .u16 (st1 : Nat), .int .u16 (ss1 : Nat), .int .u32 (pp1 : Nat), .slice a1 n1 c1]] V fun e w' => e = .returned (.bool fr) ∧ Below V.heap.size V w') := HFR0.out
  clear HFR0
  obtain ⟨W1, hW1⟩ : ∃ W1, W1 = (w.alloc (.cells #[.int .u16 0, .int .u16 0, .int .u32 0, .bool false, .slice none 0 0] 51)).alloc (.cells #[.int .u8 (fl1 : Nat), .int .u16 (st1 : Nat), .int .u16 (ss1 : Nat), .int .u32 (pp1 : Nat), .slice a1 n1 c1] 79) := ⟨_, rfl⟩
  have hb0 : Below w.heap.size w (w.alloc (.cells #[.int .u16 0, .int .u16 0, .int .u32 0, .bool false, .slice none 0 0] 51)) := (Below.refl _ _).alloc (Nat.le_refl _) _
  have hb1 : Below (w.alloc (.cells #[.int .u16 0, .int .u16 0, .int .u32 0, .bool false, .slice none 0 0] 51)).heap.size (w.alloc (.cells #[.int .u16 0, .int .u16 0, .int .u32 0, .bool false, .slice none 0 0] 51)) W1 := by rw [hW1]; exact (Below.refl _ _).alloc (Nat.le_refl _) _
  have HB1 : Hid (Below w.heap.size w W1 ∧ w.heap.size + 2 ≤ W1.heap.size) := ⟨hb0.trans (hb1.mono hb0.size), by rw [hW1]; simp⟩
  have HR : Hid (Stc W1 w.heap.size [.int .u16 0, .int .u16 0, .int .u32 0, .bool false, .slice none 0 0]) := (Stc.new w [.int .u16 0, .int .u16 0, .int .u32 0, .bool false, .slice none 0 0] 51 _ rfl).below hb1
  have HX : Hid (Stc W1 (w.heap.size + 1) [.int .u8 (fl1 : Nat), .int .u16 (st1 : Nat), .int .u16 (ss1 : Nat), .int .u32 (pp1 : Nat), .slice a1 n1 c1]) := by
    have := Stc.new (w.alloc (.cells #[.int .u16 0, .int .u16 0, .int .u32 0, .bool false, .slice none 0 0] 51)) [.int .u8 (fl1 : Nat), .int .u16 (st1 : Nat), .int .u16 (ss1 : Nat), .int .u32 (pp1 : Nat), .slice a1 n1 c1] 79 W1 hW1
    rw [show (w.alloc (.cells #[.int .u16 0, .int .u16 0, .int .u32 0, .bool false, .slice none 0 0] 51)).heap.size = w.heap.size + 1 by simp] at this
    exact this
  have HKC : Hid (∀ V, Below W1.heap.size W1 V → V.cell? ⟨w.heap.size + 1, 0, none⟩ = some (.int .u8 (fl1 : Nat)) ∧ V.cell? ⟨w.heap.size + 1, 1, none⟩ = some (.int .u16 (st1 : Nat)) ∧ V.cell? ⟨w.heap.size + 1, 2, none⟩ = some (.int .u16 (ss1 : Nat)) ∧ V.cell? ⟨w.heap.size + 1, 3, none⟩ = some (.int .u32 (pp1 : Nat)) ∧ V.cell? ⟨w.heap.size + 1, 4, none⟩ = some (.slice a1 n1 c1)) := fun V hV => by
    have s := HX.out.below hV
    exact ⟨s.cell 0 _ rfl, s.cell 1 _ rfl, s.cell 2 _ rfl, s.cell 3 _ rfl, s.cell 4 _ rfl⟩
  clear hb0 hb1
  go_enter Try.func44, Try.ntmps44
  go_wp2_with fail
  rw [← hW1]
  clear hW1
  refine wp_region_parW mixedX (fun θ : Nat => [(10, .pointer (some ⟨w.heap.size + 1, 1, none⟩)), (11, .int .u16 (st1 : Nat)), (12, .pointer (some ⟨w.heap.size + 1, 3, none⟩)), (13, .int .u32 (pp1 : Nat)), (14, .agg #[.int .u8 (fl1 : Nat), .int .u16 (st1 : Nat), .int .u16 (ss1 : Nat), .int .u32 (pp1 : Nat), .slice a1 n1 c1]), (15, .bool fr), (16, .agg #[.int .u16 (st1 : Nat), .int .u16 0, .int .u32 (pp1 : Nat), .bool fr, .slice none 0 0]), (4, .pointer (some ⟨θ, 0, none⟩))]) (fun θ l V => RgC 7 8 W1 [.int .u16 0, .int .u16 0, .int .u32 0, .bool false, .slice none 0 0] [.int .u16 (st1 : Nat), .int .u16 0, .int .u32 (pp1 : Nat), .bool fr, .slice none 0 0] θ l V) 0 ?Z1 ?hZ1 (by kernel_rfl) (by kernel_rfl) (fun θ => by kernel_rfl) (by kernel_rfl) ?h01 ?hops1 ?he1
  case hZ1 => intro θ; simp only [List.foldl_cons, List.foldl_nil, List.setIfInBounds_toArray, List.set_cons_zero, List.set_cons_succ]; rfl
  case h01 => exact RgC.start (Below.refl _ _).drew
  case hops1 =>
    refine ⟨?_, ?_, ?_, ?_, ?_, ?_, ?_, ?_, ?_, trivial⟩
    · exact par_val (fun θ => by rfl) (fun θ l V hg => hg.other 0 (by decide) (by decide)) (fun θ l V hl hc hd hg => by have hB := hg.a4; obtain ⟨d0, d1, d2, d3, d4⟩ := HKC.out V hB; go_simp; (try with_reducible rfl); (try omega))
    · exact par_val (fun θ => by rfl) (fun θ l V hg => hg.other 1 (by decide) (by decide)) (fun θ l V hl hc hd hg => by have hB := hg.a4; obtain ⟨d0, d1, d2, d3, d4⟩ := HKC.out V hB; go_simp; (try with_reducible rfl); (try omega))
    · exact par_val (fun θ => by rfl) (fun θ l V hg => hg.other 2 (by decide) (by decide)) (fun θ l V hl hc hd hg => by have hB := hg.a4; obtain ⟨d0, d1, d2, d3, d4⟩ := HKC.out V hB; go_simp; (try with_reducible rfl); (try omega))
    · exact par_val (fun θ => by rfl) (fun θ l V hg => hg.other 3 (by decide) (by decide)) (fun θ l V hl hc hd hg => by have hB := hg.a4; obtain ⟨d0, d1, d2, d3, d4⟩ := HKC.out V hB; go_simp; (try with_reducible rfl); (try omega))
    · exact par_val (fun θ => by rfl) (fun θ l V hg => hg.other 4 (by decide) (by decide)) (fun θ l V hl hc hd hg => by have hB := hg.a4; obtain ⟨d0, d1, d2, d3, d4⟩ := HKC.out V hB; go_simp; (try with_reducible rfl); (try omega))
    · exact par_call (fun θ => by rfl) rfl (vs := fun _ => [.agg #[.int .u8 (fl1 : Nat), .int .u16 (st1 : Nat), .int .u16 (ss1 : Nat), .int .u32 (pp1 : Nat), .slice a1 n1 c1]]) (fun θ => by rfl) Try.func43 (by rfl) (by rfl) (fun θ l V hl hc hd hg => by
        have hB := hg.a4
        refine Calls.mono (HFR.out V) ?_
        rintro e V2 ⟨rfl, hb⟩
        exact ⟨_, rfl, θ, fun _ _ _ _ _ _ => rfl, fun d hd => (by cases hd; rfl), hg.call hb 5 (by decide) (by decide)⟩)
    · exact par_val (fun θ => by rfl) (fun θ l V hg => hg.other 6 (by decide) (by decide)) (fun θ l V hl hc hd hg => by have hB := hg.a4; obtain ⟨d0, d1, d2, d3, d4⟩ := HKC.out V hB; go_simp; (try with_reducible rfl); (try omega))
    · exact par_run (fun θ => by rfl) (fun θ l V hl hc hd hg => by
        have hs : l 8 = false := (by cases h : l 8 with | false => rfl | true => exact absurd (hc 8 7 (by kernel_rfl) h) (by rw [hl]; decide))
        exact ⟨_, _, run_allocX rfl zero_msg, next_set (by kernel_rfl) V.heap.size [(4, .pointer (some ⟨V.heap.size, 0, none⟩), 7)] (by simp only [List.foldl_cons, List.foldl_nil, List.setIfInBounds_toArray, List.set_cons_zero, List.set_cons_succ]) (by kernel_rfl) (fun y hy => by simp at hy; subst hy; exact hl) (fun d hd => by cases hd; rfl) (hg.alloc hs (by decide) _ _ rfl)⟩)
    · exact par_skip (fun θ => by rfl) (fun θ l V hl hc hd hg => by
        have ha : l 7 = true := hd 7 (by kernel_rfl)
        obtain ⟨hth, hst⟩ := hg.store ha hl rfl
        exact ⟨_, run_storeX rfl (b := θ) (k := 0) (by rfl) (cs := [.int .u16 (st1 : Nat), .int .u16 0, .int .u32 (pp1 : Nat), .bool fr, .slice none 0 0]) (by rfl) hth (by kernel_rfl) (by intro v hv; simp at hv; rcases hv with rfl | rfl | rfl | rfl | rfl <;> rfl), ⟨θ, fun _ _ _ _ _ _ => rfl, fun d hd => (by cases hd), hst⟩⟩)
  case he1 =>
  intro θ l V hall hg
  have hSt := hg.a1 (hall 8 (by decide))
  have hTh := hg.a3 (hall 7 (by decide))
  have hBl := hg.a4
  clear hall hg
  obtain ⟨q, hq⟩ : ∃ q, q = W1.heap.size := ⟨_, rfl⟩
  have HST : Hid (Stc V θ [.int .u16 (st1 : Nat), .int .u16 0, .int .u32 (pp1 : Nat), .bool fr, .slice none 0 0]) := hSt
  have HXV := (show Hid _ from HX.out.below hBl)
  have HRV := (show Hid _ from HR.out.below hBl)
  have HV : Hid (Below w.heap.size w V ∧ W1.heap.size ≤ V.heap.size) := ⟨HB1.out.1.trans (hBl.mono HB1.out.1.size), hBl.size⟩
  have hθ1 := hTh.1
  have hθ2 := hTh.2
  have hW1s := HB1.out.2
  clear HX HR HKC HFR hSt hTh hBl hq e0 e1 e2 e3 e4
  have f3 := HST.out.cell 3 _ rfl
  have f1f := HST.out.free 1
  have f1 := HST.out.cell 1 _ rfl
  have g2 := HXV.out.cell 2 _ rfl
  cases fr with
  | true =>
    have HSM : Hid (Stc V θ [.int .u16 (st1 : Nat), .int .u16 0, .int .u32 (pp1 : Nat), .bool true, .slice none 0 0] ∧ Stc V w.heap.size [.int .u16 0, .int .u16 0, .int .u32 0, .bool false, .slice none 0 0] ∧ Below w.heap.size w V ∧ θ < V.heap.size) := ⟨HST.out, HRV.out, HV.out.1, hθ2⟩
    clear g2 f1 f1f HXV HRV HST HV
    go_wp2_with fail
    clear f3
    refine (HBY.out _ HSM.out.2.2.1).mono ?_
    rintro e V3 ⟨rfl, hb3⟩
    obtain ⟨hs3, hr3, hl3, ht3⟩ := HSM.out
    replace hs3 := hs3.below hb3
    replace hr3 := hr3.below hb3
    replace hl3 : Below w.heap.size w V3 := hl3.trans (hb3.mono hl3.size)
    have ht3' : θ < V3.heap.size := Nat.lt_of_lt_of_le ht3 hb3.size
    have k4 := hs3.cell 4 _ rfl
    have k4f := hs3.free 4
    have HST3 : Hid (JnS w θ (θ + 1) [.int .u16 (st1 : Nat), .int .u16 0, .int .u32 (pp1 : Nat), .bool true] ps 0 ((V3.setCell ⟨θ, 4, none⟩ (.slice (some ⟨V3.heap.size, 0, none⟩) 0 bs)).alloc (.cells (madeCells #[.int .u8 0] bs) 5))) := by
      have hf := Fr.setCell (fun k => k = θ) V3 ⟨θ, 4, none⟩ (.slice (some ⟨V3.heap.size, 0, none⟩) 0 bs) rfl
      have hsz : (V3.setCell ⟨θ, 4, none⟩ (.slice (some ⟨V3.heap.size, 0, none⟩) 0 bs)).heap.size = V3.heap.size := by simp [World.setCell]
      have ho := own_made2 (V3.setCell ⟨θ, 4, none⟩ (.slice (some ⟨V3.heap.size, 0, none⟩) 0 bs)) bs (by omega)
      have hb : ∀ o, Below (V3.setCell ⟨θ, 4, none⟩ (.slice (some ⟨V3.heap.size, 0, none⟩) 0 bs)).heap.size (V3.setCell ⟨θ, 4, none⟩ (.slice (some ⟨V3.heap.size, 0, none⟩) 0 bs)) ((V3.setCell ⟨θ, 4, none⟩ (.slice (some ⟨V3.heap.size, 0, none⟩) 0 bs)).alloc o) := fun o => (Below.refl _ _).alloc (Nat.le_refl _) _
      rw [hsz] at ho
      have hl4 : Below w.heap.size w (V3.setCell ⟨θ, 4, none⟩ (.slice (some ⟨V3.heap.size, 0, none⟩) 0 bs)) := hl3.setCell (p := ⟨θ, 4, none⟩) (by show _ ≤ θ; omega) _
      exact ⟨hl4.trans ((hb _).mono hl4.size), (hr3.fr hf (by omega)).below (hb _), by simp [World.setCell]; omega, some ⟨V3.heap.size, 0, none⟩, bs, (hs3.set 4 _).below (hb _), ho.base (by omega)⟩
    clear hs3 hr3 hl3 hb3 HSM HBY
    go_wp2
    clear k4 k4f hmk
    go_loopw [29] (fun u29 wr => ∃ i : Nat, i ≤ n ∧ u29 = .int .i64 (i : Nat) ∧ JnS w θ (θ + 1) [.int .u16 (st1 : Nat), .int .u16 0, .int .u32 (pp1 : Nat), .bool true] ps i wr) (fun u29 _ => n - (intOf u29).toNat)
    case atStart => exact ⟨0, by omega, rfl, HST3.out⟩
    case round =>
      obtain ⟨i, hi, rfl, hJ⟩ := hrel
      have hsi := hsm i
      obtain ⟨hbl, hres, hBs, ra, rc, hth, hown⟩ := hJ
      have hθw : θ < wr.heap.size := by omega
      have hθn : ¬ θ = wr.heap.size := by omega
      by_cases hlt : i < n
      · have hlt1 : (i : Int) < (n : Int) := by omega
        obtain ⟨x, hx⟩ : ∃ x, ps[i]? = some x := ⟨_, List.getElem?_eq_getElem (by have := HN.out.1; omega)⟩
        have hxw := HE.out x (List.mem_of_getElem? hx)
        have hn1 := hxw.ok.n1
        have HT : Hid (byP (ps.take (i + 1)) = byP (ps.take i) + x.n ∧ (ps.take (i + 1)).flatMap (·.zs) = (ps.take i).flatMap (·.zs) ++ x.zs) := ⟨by rw [byP_take hx, hxw.len], by rw [List.take_add_one, hx, List.flatMap_append]; simp⟩
        have hc := fun k u (hu : x.v[k]? = some u) => (hbl.cell (p := ⟨g, i * 5 + k, none⟩) hg).trans (HC.out i x hx k u hu)
        have h0 := hc 0 _ rfl
        have h1 := hc 1 _ rfl
        have h2 := hc 2 _ rfl
        have h3 := hc 3 _ rfl
        have h4 := hc 4 _ rfl
        rw [Nat.add_zero] at h0
        have hsl := (hxw.fr (Q := fun _ => False) (Fr.of_below hbl) (fun _ _ e => e.elim)).sl
        clear hc hxw hx
        obtain ⟨fl, st, ss, pp, xa, xn, xc, zs⟩ := x
        dsimp only at h0 h1 h2 h3 h4 HT hn1 hsl
        generalize byP (ps.take i) = m at *
        generalize (ps.take i).flatMap (·.zs) = L at *
        have t4 := hth.cell 4 _ rfl
        have t4f := hth.free 4
        have hho := hown.alloc (.cells #[.int .u8 (fl : Nat), .int .u16 (st : Nat), .int .u16 (ss : Nat), .int .u32 (pp : Nat), .slice xa xn xc] 79)
        have hhs := hsl.alloc (.cells #[.int .u8 (fl : Nat), .int .u16 (st : Nat), .int .u16 (ss : Nat), .int .u32 (pp : Nat), .slice xa xn xc] 79)
        have HJ := (show Hid _ from And.intro hbl (And.intro hres (And.intro hth hown)))
        clear hbl hres hth hown hsl
        go_wp2_with (at_builtin; go_must (refine app_list rfl _ _ rfl (θ + 1) _ m rc L rfl hho _ xn xc zs rfl hhs (by omega) (by simp; omega) ?_))
        intro a2 c2 w2 ho2 hg2
        obtain ⟨hbl, hres, hth, hown⟩ := HJ.out
        have hba : Below wr.heap.size wr (wr.alloc (.cells #[.int .u8 (fl : Nat), .int .u16 (st : Nat), .int .u16 (ss : Nat), .int .u32 (pp : Nat), .slice xa xn xc] 79)) := (Below.refl _ _).alloc (Nat.le_refl _) _
        have hf2 : Fr (fun k => θ + 1 ≤ k) wr w2 := (Fr.of_below hba).trans (Fr.grown hg2 (fun k hk => (hho.own.lt k hk).1))
        have hth2 := hth.fr hf2 (by omega)
        have hres2 := hres.fr hf2 (by omega)
        have hbl2 : Below w.heap.size w w2 := hbl.trans (hf2.below w.heap.size hbl.size (fun k hk => by omega))
        have u4 := hth2.cell 4 _ rfl
        have u4f := hth2.free 4
        have HF : Hid (JnS w θ (θ + 1) [.int .u16 (st1 : Nat), .int .u16 0, .int .u32 (pp1 : Nat), .bool true] ps (i + 1) (w2.setCell ⟨θ, 4, none⟩ (.slice a2 (m + xn) c2))) := by
          have hf := Fr.setCell (fun k => k = θ) w2 ⟨θ, 4, none⟩ (.slice a2 (m + xn) c2) rfl
          refine ⟨hbl2.setCell (p := ⟨θ, 4, none⟩) (by show _ ≤ θ; omega) _, hres2.fr hf (by omega), Nat.le_trans (Nat.le_trans hBs hf2.size) hf.size, a2, c2, ?_, ?_⟩
          · rw [HT.out.1]
            exact hth2.set 4 _
          · rw [HT.out.1, HT.out.2]
            exact ho2.fr hf (fun k hk _ e => by omega)
        clear hba hf2 hth2 hres2 hbl2 hbl hres hth hown HJ ho2 hg2 hho hhs t4 t4f h0 h1 h2 h3 h4
        go_wp2
        go_roundw
        case rel => exact ⟨i + 1, by omega, by go_num, HF.out⟩
        case measure => simp [intOf]; omega
      · obtain rfl : i = n := by omega
        have et : ps.take i = ps := List.take_of_length_le (by have := HN.out.1; omega)
        rw [et] at hth hown hsi
        have hfl := flat_len ps
        rw [← HN.out.2] at hth hown hsi hfl
        have hm0 := hth.cell 0 _ rfl
        have hm1 := hth.cell 1 _ rfl
        have hm2 := hth.cell 2 _ rfl
        have hm3 := hth.cell 3 _ rfl
        have hm4 := hth.cell 4 _ rfl
        have hq0 := hres.cell 0 _ rfl
        have hq1 := hres.cell 1 _ rfl
        have hq2 := hres.cell 2 _ rfl
        have hq3 := hres.cell 3 _ rfl
        have hq4 := hres.cell 4 _ rfl
        have hy0 := hres.free 0
        have hy1 := hres.free 1
        have hy2 := hres.free 2
        have hy3 := hres.free 3
        have hy4 := hres.free 4
        have HFin := (show Hid _ from And.intro hbl (And.intro hres hown))
        have HFL := (show Hid _ from hfl)
        clear hbl hres hth hown hfl et
        go_wp2
        try simp only [Exit.inBlock, Exit.then]
        obtain ⟨hbl, hres, hown⟩ := HFin.out
        have hput := hres.put [.int .u16 (st1 : Nat), .int .u16 0, .int .u32 (pp1 : Nat), .bool true, .slice ra bs rc] rfl
        have hff := fr_setCellsX w.heap.size [.int .u16 (st1 : Nat), .int .u16 0, .int .u32 (pp1 : Nat), .bool true, .slice ra bs rc] 0 wr
        refine bodyPost_ret (results_cellE rfl _ _ w.heap.size 0 [.int .u16 (st1 : Nat), .int .u16 0, .int .u32 (pp1 : Nat), .bool true, .slice ra bs rc] _ rfl hput.range Try.underlying51 rfl (by kernel_rfl)) rfl ?_
        refine ⟨⟨ra, rc, ?_, ?_⟩, hbl.trans (hff.below _ hbl.size (fun k hk => Nat.le_of_eq (Eq.symm hk)))⟩
        · rw [HJ.out]
          unfold Mg.v
          dsimp only
          rw [HFL.out]
          rfl
        · rw [HJ.out]
          dsimp only
          rw [HFL.out]
          exact (hown.fr hff (fun k hk _ e => by have e2 : k = w.heap.size := e; omega)).base (by omega)
  | false =>
    obtain ⟨V2, hV2⟩ : ∃ V2, V2 = V.setCell ⟨θ, 1, none⟩ (.int .u16 (ss1 : Nat)) := ⟨_, rfl⟩
    have HSM : Hid (Stc V2 θ [.int .u16 (st1 : Nat), .int .u16 (ss1 : Nat), .int .u32 (pp1 : Nat), .bool false, .slice none 0 0] ∧ Stc V2 w.heap.size [.int .u16 0, .int .u16 0, .int .u32 0, .bool false, .slice none 0 0] ∧ Below w.heap.size w V2 ∧ θ < V2.heap.size) := by
      have hf := Fr.setCell (fun k => k = θ) V ⟨θ, 1, none⟩ (.int .u16 (ss1 : Nat)) rfl
      rw [hV2]
      exact ⟨HST.out.set 1 _, HRV.out.fr hf (by omega), HV.out.1.setCell (p := ⟨θ, 1, none⟩) (by show _ ≤ θ; omega) _, Nat.lt_of_lt_of_le hθ2 hf.size⟩
    clear HXV HRV HST HV
    go_wp2_with fail
    rw [← hV2]
    clear f1 f3 f1f g2 hV2 hθ2
    refine (HBY.out _ HSM.out.2.2.1).mono ?_
    rintro e V3 ⟨rfl, hb3⟩
    obtain ⟨hs3, hr3, hl3, ht3⟩ := HSM.out
    replace hs3 := hs3.below hb3
    replace hr3 := hr3.below hb3
    replace hl3 : Below w.heap.size w V3 := hl3.trans (hb3.mono hl3.size)
    have ht3' : θ < V3.heap.size := Nat.lt_of_lt_of_le ht3 hb3.size
    have k4 := hs3.cell 4 _ rfl
    have k4f := hs3.free 4
    have HST3 : Hid (JnS w θ (θ + 1) [.int .u16 (st1 : Nat), .int .u16 (ss1 : Nat), .int .u32 (pp1 : Nat), .bool false] ps 0 ((V3.setCell ⟨θ, 4, none⟩ (.slice (some ⟨V3.heap.size, 0, none⟩) 0 bs)).alloc (.cells (madeCells #[.int .u8 0] bs) 5))) := by
      have hf := Fr.setCell (fun k => k = θ) V3 ⟨θ, 4, none⟩ (.slice (some ⟨V3.heap.size, 0, none⟩) 0 bs) rfl
      have hsz : (V3.setCell ⟨θ, 4, none⟩ (.slice (some ⟨V3.heap.size, 0, none⟩) 0 bs)).heap.size = V3.heap.size := by simp [World.setCell]
      have ho := own_made2 (V3.setCell ⟨θ, 4, none⟩ (.slice (some ⟨V3.heap.size, 0, none⟩) 0 bs)) bs (by omega)
      have hb : ∀ o, Below (V3.setCell ⟨θ, 4, none⟩ (.slice (some ⟨V3.heap.size, 0, none⟩) 0 bs)).heap.size (V3.setCell ⟨θ, 4, none⟩ (.slice (some ⟨V3.heap.size, 0, none⟩) 0 bs)) ((V3.setCell ⟨θ, 4, none⟩ (.slice (some ⟨V3.heap.size, 0, none⟩) 0 bs)).alloc o) := fun o => (Below.refl _ _).alloc (Nat.le_refl _) _
      rw [hsz] at ho
      have hl4 : Below w.heap.size w (V3.setCell ⟨θ, 4, none⟩ (.slice (some ⟨V3.heap.size, 0, none⟩) 0 bs)) := hl3.setCell (p := ⟨θ, 4, none⟩) (by show _ ≤ θ; omega) _
      exact ⟨hl4.trans ((hb _).mono hl4.size), (hr3.fr hf (by omega)).below (hb _), by simp [World.setCell]; omega, some ⟨V3.heap.size, 0, none⟩, bs, (hs3.set 4 _).below (hb _), ho.base (by omega)⟩
    clear hs3 hr3 hl3 hb3 HSM HBY
    go_wp2
    clear k4 k4f hmk
    go_loopw [29] (fun u29 wr => ∃ i : Nat, i ≤ n ∧ u29 = .int .i64 (i : Nat) ∧ JnS w θ (θ + 1) [.int .u16 (st1 : Nat), .int .u16 (ss1 : Nat), .int .u32 (pp1 : Nat), .bool false] ps i wr) (fun u29 _ => n - (intOf u29).toNat)
    case atStart => exact ⟨0, by omega, rfl, HST3.out⟩
    case round =>
      obtain ⟨i, hi, rfl, hJ⟩ := hrel
      have hsi := hsm i
      obtain ⟨hbl, hres, hBs, ra, rc, hth, hown⟩ := hJ
      have hθw : θ < wr.heap.size := by omega
      have hθn : ¬ θ = wr.heap.size := by omega
      by_cases hlt : i < n
      · have hlt1 : (i : Int) < (n : Int) := by omega
        obtain ⟨x, hx⟩ : ∃ x, ps[i]? = some x := ⟨_, List.getElem?_eq_getElem (by have := HN.out.1; omega)⟩
        have hxw := HE.out x (List.mem_of_getElem? hx)
        have hn1 := hxw.ok.n1
        have HT : Hid (byP (ps.take (i + 1)) = byP (ps.take i) + x.n ∧ (ps.take (i + 1)).flatMap (·.zs) = (ps.take i).flatMap (·.zs) ++ x.zs) := ⟨by rw [byP_take hx, hxw.len], by rw [List.take_add_one, hx, List.flatMap_append]; simp⟩
        have hc := fun k u (hu : x.v[k]? = some u) => (hbl.cell (p := ⟨g, i * 5 + k, none⟩) hg).trans (HC.out i x hx k u hu)
        have h0 := hc 0 _ rfl
        have h1 := hc 1 _ rfl
        have h2 := hc 2 _ rfl
        have h3 := hc 3 _ rfl
        have h4 := hc 4 _ rfl
        rw [Nat.add_zero] at h0
        have hsl := (hxw.fr (Q := fun _ => False) (Fr.of_below hbl) (fun _ _ e => e.elim)).sl
        clear hc hxw hx
        obtain ⟨fl, st, ss, pp, xa, xn, xc, zs⟩ := x
        dsimp only at h0 h1 h2 h3 h4 HT hn1 hsl
        generalize byP (ps.take i) = m at *
        generalize (ps.take i).flatMap (·.zs) = L at *
        have t4 := hth.cell 4 _ rfl
        have t4f := hth.free 4
        have hho := hown.alloc (.cells #[.int .u8 (fl : Nat), .int .u16 (st : Nat), .int .u16 (ss : Nat), .int .u32 (pp : Nat), .slice xa xn xc] 79)
        have hhs := hsl.alloc (.cells #[.int .u8 (fl : Nat), .int .u16 (st : Nat), .int .u16 (ss : Nat), .int .u32 (pp : Nat), .slice xa xn xc] 79)
        have HJ := (show Hid _ from And.intro hbl (And.intro hres (And.intro hth hown)))
        clear hbl hres hth hown hsl
        go_wp2_with (at_builtin; go_must (refine app_list rfl _ _ rfl (θ + 1) _ m rc L rfl hho _ xn xc zs rfl hhs (by omega) (by simp; omega) ?_))
        intro a2 c2 w2 ho2 hg2
        obtain ⟨hbl, hres, hth, hown⟩ := HJ.out
        have hba : Below wr.heap.size wr (wr.alloc (.cells #[.int .u8 (fl : Nat), .int .u16 (st : Nat), .int .u16 (ss : Nat), .int .u32 (pp : Nat), .slice xa xn xc] 79)) := (Below.refl _ _).alloc (Nat.le_refl _) _
        have hf2 : Fr (fun k => θ + 1 ≤ k) wr w2 := (Fr.of_below hba).trans (Fr.grown hg2 (fun k hk => (hho.own.lt k hk).1))
        have hth2 := hth.fr hf2 (by omega)
        have hres2 := hres.fr hf2 (by omega)
        have hbl2 : Below w.heap.size w w2 := hbl.trans (hf2.below w.heap.size hbl.size (fun k hk => by omega))
        have u4 := hth2.cell 4 _ rfl
        have u4f := hth2.free 4
        have HF : Hid (JnS w θ (θ + 1) [.int .u16 (st1 : Nat), .int .u16 (ss1 : Nat), .int .u32 (pp1 : Nat), .bool false] ps (i + 1) (w2.setCell ⟨θ, 4, none⟩ (.slice a2 (m + xn) c2))) := by
          have hf := Fr.setCell (fun k => k = θ) w2 ⟨θ, 4, none⟩ (.slice a2 (m + xn) c2) rfl
          refine ⟨hbl2.setCell (p := ⟨θ, 4, none⟩) (by show _ ≤ θ; omega) _, hres2.fr hf (by omega), Nat.le_trans (Nat.le_trans hBs hf2.size) hf.size, a2, c2, ?_, ?_⟩
          · rw [HT.out.1]
            exact hth2.set 4 _
          · rw [HT.out.1, HT.out.2]
            exact ho2.fr hf (fun k hk _ e => by omega)
        clear hba hf2 hth2 hres2 hbl2 hbl hres hth hown HJ ho2 hg2 hho hhs t4 t4f h0 h1 h2 h3 h4
        go_wp2
        go_roundw
        case rel => exact ⟨i + 1, by omega, by go_num, HF.out⟩
        case measure => simp [intOf]; omega
      · obtain rfl : i = n := by omega
        have et : ps.take i = ps := List.take_of_length_le (by have := HN.out.1; omega)
        rw [et] at hth hown hsi
        have hfl := flat_len ps
        rw [← HN.out.2] at hth hown hsi hfl
        have hm0 := hth.cell 0 _ rfl
        have hm1 := hth.cell 1 _ rfl
        have hm2 := hth.cell 2 _ rfl
        have hm3 := hth.cell 3 _ rfl
        have hm4 := hth.cell 4 _ rfl
        have hq0 := hres.cell 0 _ rfl
        have hq1 := hres.cell 1 _ rfl
        have hq2 := hres.cell 2 _ rfl
        have hq3 := hres.cell 3 _ rfl
        have hq4 := hres.cell 4 _ rfl
        have hy0 := hres.free 0
        have hy1 := hres.free 1
        have hy2 := hres.free 2
        have hy3 := hres.free 3
        have hy4 := hres.free 4
        have HFin := (show Hid _ from And.intro hbl (And.intro hres hown))
        have HFL := (show Hid _ from hfl)
        clear hbl hres hth hown hfl et
        go_wp2
        try simp only [Exit.inBlock, Exit.then]
        obtain ⟨hbl, hres, hown⟩ := HFin.out
        have hput := hres.put [.int .u16 (st1 : Nat), .int .u16 (ss1 : Nat), .int .u32 (pp1 : Nat), .bool false, .slice ra bs rc] rfl
        have hff := fr_setCellsX w.heap.size [.int .u16 (st1 : Nat), .int .u16 (ss1 : Nat), .int .u32 (pp1 : Nat), .bool false, .slice ra bs rc] 0 wr
        refine bodyPost_ret (results_cellE rfl _ _ w.heap.size 0 [.int .u16 (st1 : Nat), .int .u16 (ss1 : Nat), .int .u32 (pp1 : Nat), .bool false, .slice ra bs rc] _ rfl hput.range Try.underlying51 rfl (by kernel_rfl)) rfl ?_
        refine ⟨⟨ra, rc, ?_, ?_⟩, hbl.trans (hff.below _ hbl.size (fun k hk => Nat.le_of_eq (Eq.symm hk)))⟩
        · rw [HJ.out]
          unfold Mg.v
          dsimp only
          rw [HFL.out]
          rfl
        · rw [HJ.out]
          dsimp only
          rw [HFL.out]
          exact (hown.fr hff (fun k hk _ e => by have e2 : k = w.heap.size := e; omega)).base (by omega)
end Go.Proofs.Ytjaheelgcjafcaa
