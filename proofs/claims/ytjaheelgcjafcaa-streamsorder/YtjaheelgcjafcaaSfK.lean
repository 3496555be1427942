/- streams: are a piece and the one behind it both there, and of one message? -/
import Derived.Test.YtjaheelgcjafcaaSfJ
import Derived.Test.YtjaheelgcjafcaaRgC
namespace Go.Proofs.Ytjaheelgcjafcaa
open Go.RowKit
theorem addV_on (t : Nat) : addV 4294967296 t 1 = on1 t := by unfold addV on1; omega
theorem addV_bk (t : Nat) : addV 4294967296 t (-1) = bk1 t := by unfold addV bk1; omega
set_option linter.unusedVariables false in
set_option maxRecDepth 100000 in
set_option maxHeartbeats 2000000 in
theorem joins_any {w : World} {p nb mb wb : Nat} {wr : Nat → Option Addr × Nat} {Y : Nat → Prop} {s : SmS} (h : SmW w p nb mb wb wr Y s) (t : Nat) (ht : t < 4294967296) :
    Calls Try.prog 40 #[.pointer (some ⟨p, 0, none⟩), .int .u32 (t : Nat)] w fun e w' => e = .returned (.bool (joinsB s.D t)) ∧ Below w.heap.size w w' := by
  have hc1 := h.st.cell 1 _ rfl
  have hpl := h.st.lt
  have hr1 := h.look (Below.refl _ _) t ht true
  have hr2 : ∀ V, Below w.heap.size w V → _ := fun V hV => h.look hV (on1 t) (on1_lt t) true
  simp only [if_true] at hr1 hr2
  have HON : Hid (∀ V, Calls Try.prog 41 #[.int .u32 (t : Nat), .int .i64 1] V fun e w' => e = .returned (.int .u32 (on1 t : Nat)) ∧ Below V.heap.size V w') := fun V => by
    rw [← addV_on]
    exact onward_any t 1 V ht _ _ rfl rfl
  have HJ : Hid (joinsB s.D t = ((lookD s.D t).isSome && (lookD s.D (on1 t)).isSome && fitB (pcAt s.D t) (pcAt s.D (on1 t)) && !(pcAt s.D t).fin && !(pcAt s.D (on1 t)).beg)) := rfl
  have hx := h.pcOk t
  have hy := h.pcOk (on1 t)
  have HS := (show Hid _ from h.st)
  clear h
  generalize on1 t = u at *
  generalize pcAt s.D t = x at *
  generalize pcAt s.D u = y at *
  generalize (lookD s.D t).isSome = b1 at *
  generalize (lookD s.D u).isSome = b2 at *
  have HFT := (show Hid _ from fun W v z hv hz => fit_any x y W hx hy v z hv hz)
  have HEN := (show Hid _ from fun W v hv => ends_any x.fl (.int .u16 (x.st : Nat)) (.int .u16 (x.ss : Nat)) (.int .u32 (x.pp : Nat)) (.slice x.a x.n x.c) W hx.fl v hv)
  have HBG := (show Hid _ from fun W v hv => begins_any y.fl (.int .u16 (y.st : Nat)) (.int .u16 (y.ss : Nat)) (.int .u32 (y.pp : Nat)) (.slice y.a y.n y.c) W hy.fl v hv)
  rw [show joinsB s.D t = (b1 && b2 && fitB x y && !x.fin && !y.beg) from HJ.out]
  have HXY : Hid (x.fin = decide (x.fl % 2 = 1) ∧ y.beg = decide (y.fl / 2 % 2 = 1)) := ⟨rfl, rfl⟩
  rw [HXY.out.1, HXY.out.2]
  generalize fitB x y = r at *
  generalize decide (x.fl % 2 = 1) = r1 at *
  generalize decide (y.fl / 2 % 2 = 1) = r2 at *
  clear HXY HJ hx hy
  obtain ⟨fl1, st1, ss1, pp1, a1, n1, c1, z1⟩ := x
  obtain ⟨fl2, st2, ss2, pp2, a2, n2, c2, z2⟩ := y
  unfold Pc.val at hr1 hr2 HFT
  dsimp only at hr1 hr2 HFT HEN HBG
  obtain ⟨W1, hW1⟩ : ∃ W1, W1 = w.alloc (.cells #[.int .u8 (fl1 : Nat), .int .u16 (st1 : Nat), .int .u16 (ss1 : Nat), .int .u32 (pp1 : Nat), .slice a1 n1 c1] 79) := ⟨_, rfl⟩
  have HB1 : Hid (Below w.heap.size w W1) := by show Below _ _ _; rw [hW1]; exact (Below.refl _ _).alloc (Nat.le_refl _) _
  have HX : Hid (∀ V, Below W1.heap.size W1 V → Stc V w.heap.size [.int .u8 (fl1 : Nat), .int .u16 (st1 : Nat), .int .u16 (ss1 : Nat), .int .u32 (pp1 : Nat), .slice a1 n1 c1]) := fun V hV => (Stc.new w [.int .u8 (fl1 : Nat), .int .u16 (st1 : Nat), .int .u16 (ss1 : Nat), .int .u32 (pp1 : Nat), .slice a1 n1 c1] 79 W1 hW1).below hV
  have HKC : Hid (∀ V, Below W1.heap.size W1 V → V.cell? ⟨p, 1, none⟩ = some (.map (some mb)) ∧ (Instr.lookup 73 (.map (some mb)) (.int .u32 (u : Nat)) true).run Try.prog V = .ok (.tuple #[.agg #[.int .u8 (fl2 : Nat), .int .u16 (st2 : Nat), .int .u16 (ss2 : Nat), .int .u32 (pp2 : Nat), .slice a2 n2 c2], .bool b2]) V) := fun V hV => by
    have hw := HB1.out.trans (hV.mono HB1.out.size)
    exact ⟨(HS.out.below hw).cell 1 _ rfl, hr2 V hw⟩
  clear hr2
  go_enter Try.func40, Try.ntmps40
  go_wp2_with fail
  rw [← hW1]
  clear hW1
  refine wp_region_parW mixedX (fun θ : Nat => [(19, .pointer (some ⟨p, 0, none⟩)), (20, .pointer (some ⟨p, 0, none⟩)), (21, .pointer (some ⟨p, 1, none⟩)), (22, .map (some mb)), (23, .int .u32 (t : Nat)), (24, .int .u32 (u : Nat)), (25, .tuple #[.agg #[.int .u8 (fl2 : Nat), .int .u16 (st2 : Nat), .int .u16 (ss2 : Nat), .int .u32 (pp2 : Nat), .slice a2 n2 c2], .bool b2]), (18, .tuple #[.agg #[.int .u8 (fl2 : Nat), .int .u16 (st2 : Nat), .int .u16 (ss2 : Nat), .int .u32 (pp2 : Nat), .slice a2 n2 c2], .bool b2]), (26, .agg #[.int .u8 (fl2 : Nat), .int .u16 (st2 : Nat), .int .u16 (ss2 : Nat), .int .u32 (pp2 : Nat), .slice a2 n2 c2]), (27, .bool b2), (7, .pointer (some ⟨θ, 0, none⟩)), (8, .bool b2)]) (fun θ l V => RgC 10 11 W1 [.int .u8 0, .int .u16 0, .int .u16 0, .int .u32 0, .slice none 0 0] [.int .u8 (fl2 : Nat), .int .u16 (st2 : Nat), .int .u16 (ss2 : Nat), .int .u32 (pp2 : Nat), .slice a2 n2 c2] θ l V) 0 ?Z1 ?hZ1 (by kernel_rfl) (by kernel_rfl) (fun θ => by kernel_rfl) (by kernel_rfl) ?h01 ?hops1 ?he1
  case hZ1 => intro θ; simp only [List.foldl_cons, List.foldl_nil, List.setIfInBounds_toArray, List.set_cons_zero, List.set_cons_succ]; rfl
  case h01 => exact RgC.start (Below.refl _ _).drew
  case hops1 =>
    refine ⟨?_, ?_, ?_, ?_, ?_, ?_, ?_, ?_, ?_, ?_, ?_, ?_, ?_, trivial⟩
    · exact par_val (fun θ => by rfl) (fun θ l V hg => hg.other 0 (by decide) (by decide)) (fun θ l V hl hc hd hg => by have hB := hg.a4; obtain ⟨d0, d1⟩ := HKC.out V hB; go_simp; (try with_reducible rfl); (try omega))
    · exact par_val (fun θ => by rfl) (fun θ l V hg => hg.other 1 (by decide) (by decide)) (fun θ l V hl hc hd hg => by have hB := hg.a4; obtain ⟨d0, d1⟩ := HKC.out V hB; go_simp; (try with_reducible rfl); (try omega))
    · exact par_val (fun θ => by rfl) (fun θ l V hg => hg.other 2 (by decide) (by decide)) (fun θ l V hl hc hd hg => by have hB := hg.a4; obtain ⟨d0, d1⟩ := HKC.out V hB; go_simp; (try with_reducible rfl); (try omega))
    · exact par_val (fun θ => by rfl) (fun θ l V hg => hg.other 3 (by decide) (by decide)) (fun θ l V hl hc hd hg => by have hB := hg.a4; obtain ⟨d0, d1⟩ := HKC.out V hB; go_simp; (try with_reducible rfl); (try omega))
    · exact par_val (fun θ => by rfl) (fun θ l V hg => hg.other 4 (by decide) (by decide)) (fun θ l V hl hc hd hg => by have hB := hg.a4; obtain ⟨d0, d1⟩ := HKC.out V hB; go_simp; (try with_reducible rfl); (try omega))
    · exact par_call (fun θ => by rfl) rfl (vs := fun _ => [.int .u32 (t : Nat), .int .i64 1]) (fun θ => by rfl) Try.func41 (by rfl) (by rfl) (fun θ l V hl hc hd hg => by
        have hB := hg.a4
        refine Calls.mono (HON.out V) ?_
        rintro e V2 ⟨rfl, hb⟩
        exact ⟨_, rfl, θ, fun _ _ _ _ _ _ => rfl, fun d hd => (by cases hd; rfl), hg.call hb 5 (by decide) (by decide)⟩)
    · exact par_val (fun θ => by rfl) (fun θ l V hg => hg.other 6 (by decide) (by decide)) (fun θ l V hl hc hd hg => by have hB := hg.a4; obtain ⟨d0, d1⟩ := HKC.out V hB; go_simp; (try with_reducible rfl); (try omega))
    · exact par_val (fun θ => by rfl) (fun θ l V hg => hg.other 7 (by decide) (by decide)) (fun θ l V hl hc hd hg => by have hB := hg.a4; obtain ⟨d0, d1⟩ := HKC.out V hB; go_simp; (try with_reducible rfl); (try omega))
    · exact par_val (fun θ => by rfl) (fun θ l V hg => hg.other 8 (by decide) (by decide)) (fun θ l V hl hc hd hg => by have hB := hg.a4; obtain ⟨d0, d1⟩ := HKC.out V hB; go_simp; (try with_reducible rfl); (try omega))
    · exact par_val (fun θ => by rfl) (fun θ l V hg => hg.other 9 (by decide) (by decide)) (fun θ l V hl hc hd hg => by have hB := hg.a4; obtain ⟨d0, d1⟩ := HKC.out V hB; go_simp; (try with_reducible rfl); (try omega))
    · exact par_run (fun θ => by rfl) (fun θ l V hl hc hd hg => by
        have hs : l 11 = false := (by cases h : l 11 with | false => rfl | true => exact absurd (hc 11 10 (by kernel_rfl) h) (by rw [hl]; decide))
        exact ⟨_, _, run_allocX rfl zero_pc, next_set (by kernel_rfl) V.heap.size [(7, .pointer (some ⟨V.heap.size, 0, none⟩), 10)] (by simp only [List.foldl_cons, List.foldl_nil, List.setIfInBounds_toArray, List.set_cons_zero, List.set_cons_succ]) (by kernel_rfl) (fun y hy => by simp at hy; subst hy; exact hl) (fun d hd => by cases hd; rfl) (hg.alloc hs (by decide) _ _ rfl)⟩)
    · exact par_skip (fun θ => by rfl) (fun θ l V hl hc hd hg => by
        have ha : l 10 = true := hd 10 (by kernel_rfl)
        obtain ⟨hth, hst⟩ := hg.store ha hl rfl
        exact ⟨_, run_storeX rfl (b := θ) (k := 0) (by rfl) (cs := [.int .u8 (fl2 : Nat), .int .u16 (st2 : Nat), .int .u16 (ss2 : Nat), .int .u32 (pp2 : Nat), .slice a2 n2 c2]) (by rfl) hth (by kernel_rfl) (by intro v hv; simp at hv; rcases hv with rfl | rfl | rfl | rfl | rfl <;> rfl), ⟨θ, fun _ _ _ _ _ _ => rfl, fun d hd => (by cases hd), hst⟩⟩)
    · exact par_val (fun θ => by rfl) (fun θ l V hg => hg.other 12 (by decide) (by decide)) (fun θ l V hl hc hd hg => by have hB := hg.a4; obtain ⟨d0, d1⟩ := HKC.out V hB; go_simp; (try with_reducible rfl); (try omega))
  case he1 =>
  intro θ l V hall hg
  have hSt := hg.a1 (hall 11 (by decide))
  have hTh := hg.a3 (hall 10 (by decide))
  have hBl := hg.a4
  clear hall hg
  have hXs := HX.out V hBl
  have hv1 := hXs.cell 0 _ rfl
  have hv2 := hXs.cell 1 _ rfl
  have hv3 := hXs.cell 2 _ rfl
  have hv4 := hXs.cell 3 _ rfl
  have hv5 := hXs.cell 4 _ rfl
  have hu1 := hSt.cell 0 _ rfl
  have hu2 := hSt.cell 1 _ rfl
  have hu3 := hSt.cell 2 _ rfl
  have hu4 := hSt.cell 3 _ rfl
  have hu5 := hSt.cell 4 _ rfl
  have HV : Hid (Below w.heap.size w V ∧ ∀ V', Below V.heap.size V V' → Stc V' w.heap.size [.int .u8 (fl1 : Nat), .int .u16 (st1 : Nat), .int .u16 (ss1 : Nat), .int .u32 (pp1 : Nat), .slice a1 n1 c1] ∧ Stc V' θ [.int .u8 (fl2 : Nat), .int .u16 (st2 : Nat), .int .u16 (ss2 : Nat), .int .u32 (pp2 : Nat), .slice a2 n2 c2]) := ⟨HB1.out.trans (hBl.mono HB1.out.size), fun V' hV' => ⟨hXs.below hV', hSt.below hV'⟩⟩
  clear HX HB1 HKC HON HS hTh hBl hXs hSt hr1 hc1
  cases b1 with
  | false =>
    go_wp2
    go_ret
    exact ⟨rfl, HV.out.1⟩
  | true =>
  cases b2 with
  | false =>
    go_wp2
    go_ret
    exact ⟨rfl, HV.out.1⟩
  | true =>
  go_wp2_with fail
  refine (HFT.out _ _ _ (by rfl) (by rfl)).mono ?_
  rintro e V2 ⟨rfl, hb2⟩
  obtain ⟨sx, sy⟩ := HV.out.2 V2 hb2
  have HV2 : Hid (Below w.heap.size w V2) := HV.out.1.trans (hb2.mono HV.out.1.size)
  clear hv1 hv2 hv3 hv4 hv5 hu1 hu2 hu3 hu4 hu5 HFT HV hb2
  have hv1 := sx.cell 0 _ rfl
  have hv2 := sx.cell 1 _ rfl
  have hv3 := sx.cell 2 _ rfl
  have hv4 := sx.cell 3 _ rfl
  have hv5 := sx.cell 4 _ rfl
  cases r with
  | false =>
    go_wp2
    go_ret
    exact ⟨rfl, HV2.out⟩
  | true =>
  go_wp2_with fail
  refine (HEN.out _ _ (by rfl)).mono ?_
  rintro e V3 ⟨rfl, hb3⟩
  have sy3 := sy.below hb3
  have HV3 : Hid (Below w.heap.size w V3) := HV2.out.trans (hb3.mono HV2.out.size)
  clear hv1 hv2 hv3 hv4 hv5 HEN HV2 hb3 sx sy
  have hu1 := sy3.cell 0 _ rfl
  have hu2 := sy3.cell 1 _ rfl
  have hu3 := sy3.cell 2 _ rfl
  have hu4 := sy3.cell 3 _ rfl
  have hu5 := sy3.cell 4 _ rfl
  cases r1 with
  | true =>
    go_wp2
    go_ret
    exact ⟨rfl, HV3.out⟩
  | false =>
  go_wp2_with fail
  refine (HBG.out _ _ (by rfl)).mono ?_
  rintro e V4 ⟨rfl, hb4⟩
  have HV4 : Hid (Below w.heap.size w V4) := HV3.out.trans (hb4.mono HV3.out.size)
  clear hu1 hu2 hu3 hu4 hu5 HBG HV3 hb4 sy3
  cases r2 with
  | true =>
    go_wp2
    go_ret
    exact ⟨rfl, HV4.out⟩
  | false =>
    go_wp2
    go_ret
    exact ⟨rfl, HV4.out⟩
end Go.Proofs.Ytjaheelgcjafcaa
