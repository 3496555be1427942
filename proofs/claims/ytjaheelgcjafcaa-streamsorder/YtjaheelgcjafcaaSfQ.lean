/- streams: may a piece be held? -/
import Derived.Test.YtjaheelgcjafcaaSfH
import Derived.Test.YtjaheelgcjafcaaSfK
namespace Go.Proofs.Ytjaheelgcjafcaa
open Go.RowKit
/-- The error of a piece; E: what Check says. -/
def holdN (s : SmS) (k t st : Nat) (E : Int) : Int := if E ≠ 0 then E else if k ≠ 0 then 11 else if s.nx.length ≤ st then 14 else if (lookD s.D t).isSome then 17 else if 128 ≤ s.heldN then 10 else 0
set_option linter.unusedVariables false in
set_option maxRecDepth 100000 in
set_option maxHeartbeats 4000000 in
theorem hold_any {w : World} {p nb mb wb : Nat} {wr0 : Nat → Option Addr × Nat} {Y : Nat → Prop} {s : SmS} (h : SmW w p nb mb wb wr0 Y s) (k f t st ss pp : Nat) (c6 c7 c8 c9 c10 c11 c12 : Value) (xa : Option Addr) (n xc : Nat) (E : Int) (hkb : k < 256) (ht : t < 4294967296) (hstb : st < 65536)
    (hck : ∀ W v, Below w.heap.size w W → v = .agg #[.int .u8 (k : Nat), .int .u8 (f : Nat), .int .u32 (t : Nat), .int .u16 (st : Nat), .int .u16 (ss : Nat), .int .u32 (pp : Nat), c6, c7, c8, c9, c10, c11, c12, .slice xa n xc] → Calls Try.prog 37 #[v] W fun e w' => e = .returned (.int .i64 E) ∧ Below W.heap.size W w') (v : Value) (hv : v = .agg #[.int .u8 (k : Nat), .int .u8 (f : Nat), .int .u32 (t : Nat), .int .u16 (st : Nat), .int .u16 (ss : Nat), .int .u32 (pp : Nat), c6, c7, c8, c9, c10, c11, c12, .slice xa n xc]) :
    Calls Try.prog 24 #[.pointer (some ⟨p, 0, none⟩), v] w fun e w' => e = .returned (.int .i64 (holdN s k t st E)) ∧ Below w.heap.size w w' := by
  subst hv
  have HCK := (show Hid _ from hck)
  have HH := (show Hid _ from h)
  have hpl := h.st.lt
  have hn8 := h.n8
  obtain ⟨W1, hW1⟩ : ∃ W1, W1 = w.alloc (.cells #[.int .u8 (k : Nat), .int .u8 (f : Nat), .int .u32 (t : Nat), .int .u16 (st : Nat), .int .u16 (ss : Nat), .int .u32 (pp : Nat), c6, c7, c8, c9, c10, c11, c12, .slice xa n xc] 47) := ⟨_, rfl⟩
  have b1 : Below w.heap.size w W1 := by rw [hW1]; exact (Below.refl _ _).alloc (Nat.le_refl _) _
  have HC : Hid (Below w.heap.size w W1 ∧ ∀ V, Below W1.heap.size W1 V → Stc V w.heap.size [.int .u8 (k : Nat), .int .u8 (f : Nat), .int .u32 (t : Nat), .int .u16 (st : Nat), .int .u16 (ss : Nat), .int .u32 (pp : Nat), c6, c7, c8, c9, c10, c11, c12, .slice xa n xc]) := ⟨b1, fun V hV => (Stc.new w [.int .u8 (k : Nat), .int .u8 (f : Nat), .int .u32 (t : Nat), .int .u16 (st : Nat), .int .u16 (ss : Nat), .int .u32 (pp : Nat), c6, c7, c8, c9, c10, c11, c12, .slice xa n xc] 47 W1 hW1).below hV⟩
  obtain ⟨sn, hsn⟩ : ∃ sn, sn = s.nx.length := ⟨_, rfl⟩
  have HN : Hid (holdN s k t st E = if E ≠ 0 then E else if k ≠ 0 then 11 else if sn ≤ st then 14 else if (lookD s.D t).isSome then 17 else if 128 ≤ s.heldN then 10 else 0) := by show _ = _; rw [hsn]; rfl
  have HSN := (show Hid _ from hsn)
  rw [← hsn] at hn8
  clear hck h b1 hsn
  go_enter Try.func24, Try.ntmps24
  go_wp2_with fail
  rw [← hW1]
  clear hW1
  refine (HCK.out W1 _ HC.out.1 (by rfl)).mono ?_
  clear HCK
  rintro e V1 ⟨rfl, hb1⟩
  have HV1 : Hid (Below w.heap.size w V1 ∧ Below W1.heap.size W1 V1) := ⟨HC.out.1.trans (hb1.mono HC.out.1.size), hb1⟩
  clear hb1
  by_cases hE : E = 0
  · subst hE
    have hc := HC.out.2 V1 HV1.out.2
    have k0 := hc.cell 0 _ rfl
    by_cases hk : k = 0
    · subst hk
      have HK8 : Hid (V1.drew.cell? ⟨w.heap.size, 3, none⟩ = some (.int .u16 (st : Nat)) ∧ V1.drew.cell? ⟨p, 0, none⟩ = some (.slice (some ⟨nb, 0, none⟩) sn sn)) := by
        have := (HH.out.below (HV1.out.1.drew)).st.cell 0 _ rfl
        rw [← HSN.out] at this
        exact ⟨(hc.below (Below.refl _ _).drew).cell 3 _ rfl, this⟩
      clear hc
      have hwst : IntKind.i64.wrap (st : Int) = st := by rw [IntKind.wrap_i64]; omega
      by_cases hsl : sn ≤ st
      · have hsi : (sn : Int) ≤ (st : Int) := by omega
        go_wp2_with fail
        refine wp_region_fixW mixedX (fun V => V = V1.drew) [(20, .pointer (some ⟨w.heap.size, 3, none⟩)), (21, .int .u16 (st : Nat)), (22, .int .i64 (st : Nat)), (23, .pointer (some ⟨p, 0, none⟩)), (24, .pointer (some ⟨p, 0, none⟩)), (25, .pointer (some ⟨p, 0, none⟩)), (26, .slice (some ⟨nb, 0, none⟩) sn sn), (27, .int .i64 (sn : Nat)), (28, .bool true)] ?Z2 ?hZ2 (by kernel_rfl) (by kernel_rfl) (by kernel_rfl) (by kernel_rfl) ?h02 ?hops2 ?he2
        case hZ2 => simp only [List.foldl_cons, List.foldl_nil, List.setIfInBounds_toArray, List.set_cons_zero, List.set_cons_succ]; rfl
        case h02 => rfl
        case hops2 =>
          refine ⟨?_, ?_, ?_, ?_, ?_, ?_, ?_, ?_, ?_, trivial⟩
          · exact fix_val (by rfl) (fun W hW => by subst hW; obtain ⟨d0, d1⟩ := HK8.out; go_simp; (try with_reducible rfl); (try omega))
          · exact fix_val (by rfl) (fun W hW => by subst hW; obtain ⟨d0, d1⟩ := HK8.out; go_simp; (try with_reducible rfl); (try omega))
          · exact fix_val (by rfl) (fun W hW => by subst hW; obtain ⟨d0, d1⟩ := HK8.out; go_simp; (try with_reducible rfl); (try omega))
          · exact fix_val (by rfl) (fun W hW => by subst hW; obtain ⟨d0, d1⟩ := HK8.out; go_simp; (try with_reducible rfl); (try omega))
          · exact fix_val (by rfl) (fun W hW => by subst hW; obtain ⟨d0, d1⟩ := HK8.out; go_simp; (try with_reducible rfl); (try omega))
          · exact fix_val (by rfl) (fun W hW => by subst hW; obtain ⟨d0, d1⟩ := HK8.out; go_simp; (try with_reducible rfl); (try omega))
          · exact fix_val (by rfl) (fun W hW => by subst hW; obtain ⟨d0, d1⟩ := HK8.out; go_simp; (try with_reducible rfl); (try omega))
          · exact fix_val (by rfl) (fun W hW => by subst hW; obtain ⟨d0, d1⟩ := HK8.out; go_simp; (try with_reducible rfl); (try omega))
          · exact fix_val (by rfl) (fun W hW => by subst hW; obtain ⟨d0, d1⟩ := HK8.out; go_simp; (try with_reducible rfl); (try omega))
        case he2 =>
        rintro V rfl
        go_wp2
        go_ret
        exact ⟨by rw [HN.out, if_neg (by simp), if_neg (by simp), if_pos hsl]; rfl, HV1.out.1.drew⟩
      · have hsi : ¬ (sn : Int) ≤ (st : Int) := by omega
        go_wp2_with fail
        refine wp_region_fixW mixedX (fun V => V = V1.drew) [(20, .pointer (some ⟨w.heap.size, 3, none⟩)), (21, .int .u16 (st : Nat)), (22, .int .i64 (st : Nat)), (23, .pointer (some ⟨p, 0, none⟩)), (24, .pointer (some ⟨p, 0, none⟩)), (25, .pointer (some ⟨p, 0, none⟩)), (26, .slice (some ⟨nb, 0, none⟩) sn sn), (27, .int .i64 (sn : Nat)), (28, .bool false)] ?Z3 ?hZ3 (by kernel_rfl) (by kernel_rfl) (by kernel_rfl) (by kernel_rfl) ?h03 ?hops3 ?he3
        case hZ3 => simp only [List.foldl_cons, List.foldl_nil, List.setIfInBounds_toArray, List.set_cons_zero, List.set_cons_succ]; rfl
        case h03 => rfl
        case hops3 =>
          refine ⟨?_, ?_, ?_, ?_, ?_, ?_, ?_, ?_, ?_, trivial⟩
          · exact fix_val (by rfl) (fun W hW => by subst hW; obtain ⟨d0, d1⟩ := HK8.out; go_simp; (try with_reducible rfl); (try omega))
          · exact fix_val (by rfl) (fun W hW => by subst hW; obtain ⟨d0, d1⟩ := HK8.out; go_simp; (try with_reducible rfl); (try omega))
          · exact fix_val (by rfl) (fun W hW => by subst hW; obtain ⟨d0, d1⟩ := HK8.out; go_simp; (try with_reducible rfl); (try omega))
          · exact fix_val (by rfl) (fun W hW => by subst hW; obtain ⟨d0, d1⟩ := HK8.out; go_simp; (try with_reducible rfl); (try omega))
          · exact fix_val (by rfl) (fun W hW => by subst hW; obtain ⟨d0, d1⟩ := HK8.out; go_simp; (try with_reducible rfl); (try omega))
          · exact fix_val (by rfl) (fun W hW => by subst hW; obtain ⟨d0, d1⟩ := HK8.out; go_simp; (try with_reducible rfl); (try omega))
          · exact fix_val (by rfl) (fun W hW => by subst hW; obtain ⟨d0, d1⟩ := HK8.out; go_simp; (try with_reducible rfl); (try omega))
          · exact fix_val (by rfl) (fun W hW => by subst hW; obtain ⟨d0, d1⟩ := HK8.out; go_simp; (try with_reducible rfl); (try omega))
          · exact fix_val (by rfl) (fun W hW => by subst hW; obtain ⟨d0, d1⟩ := HK8.out; go_simp; (try with_reducible rfl); (try omega))
        case he3 =>
        rintro V2 hV2
        have HV2 : Hid (Below w.heap.size w V2 ∧ Below W1.heap.size W1 V2) := by rw [show V2 = V1.drew from hV2]; exact ⟨HV1.out.1.drew, HV1.out.2.drew⟩
        clear hV2 HK8 k0
        have hlk : ∀ V, Below w.heap.size w V → _ := fun V hV => HH.out.look hV t ht true
        simp only [if_true] at hlk
        have HN2 : Hid (holdN s 0 t st 0 = if (lookD s.D t).isSome then 17 else if 128 ≤ s.heldN then 10 else 0) := by show _ = _; rw [HN.out, if_neg (by simp), if_neg (by simp), if_neg hsl]
        clear HN
        generalize (lookD s.D t).isSome = b1 at *
        generalize pcAt s.D t = x at *
        obtain ⟨fl1, st1, ss1, pp1, a1, n1, c1, z1⟩ := x
        unfold Pc.val at hlk
        dsimp only at hlk
        have HK10 : Hid (∀ V, Below V2.heap.size V2 V → V.cell? ⟨p, 1, none⟩ = some (.map (some mb)) ∧ V.cell? ⟨w.heap.size, 2, none⟩ = some (.int .u32 (t : Nat)) ∧ (Instr.lookup 73 (.map (some mb)) (.int .u32 (t : Nat)) true).run Try.prog V = .ok (.tuple #[.agg #[.int .u8 (fl1 : Nat), .int .u16 (st1 : Nat), .int .u16 (ss1 : Nat), .int .u32 (pp1 : Nat), .slice a1 n1 c1], .bool b1]) V) := fun V hV => by
          have hw := HV2.out.1.trans (hV.mono HV2.out.1.size)
          exact ⟨(HH.out.below hw).st.cell 1 _ rfl, (HC.out.2 V (HV2.out.2.trans (hV.mono HV2.out.2.size))).cell 2 _ rfl, hlk V hw⟩
        clear hlk
        go_wp2_with fail
        refine wp_region_parW mixedX (fun θ : Nat => [(30, .pointer (some ⟨p, 0, none⟩)), (31, .pointer (some ⟨p, 0, none⟩)), (32, .pointer (some ⟨p, 1, none⟩)), (33, .map (some mb)), (34, .pointer (some ⟨w.heap.size, 2, none⟩)), (35, .int .u32 (t : Nat)), (36, .tuple #[.agg #[.int .u8 (fl1 : Nat), .int .u16 (st1 : Nat), .int .u16 (ss1 : Nat), .int .u32 (pp1 : Nat), .slice a1 n1 c1], .bool b1]), (29, .tuple #[.agg #[.int .u8 (fl1 : Nat), .int .u16 (st1 : Nat), .int .u16 (ss1 : Nat), .int .u32 (pp1 : Nat), .slice a1 n1 c1], .bool b1]), (37, .agg #[.int .u8 (fl1 : Nat), .int .u16 (st1 : Nat), .int .u16 (ss1 : Nat), .int .u32 (pp1 : Nat), .slice a1 n1 c1]), (38, .bool b1), (6, .pointer (some ⟨θ, 0, none⟩)), (7, .bool b1)]) (fun θ l V => RgC 10 11 V2 [.int .u8 0, .int .u16 0, .int .u16 0, .int .u32 0, .slice none 0 0] [.int .u8 (fl1 : Nat), .int .u16 (st1 : Nat), .int .u16 (ss1 : Nat), .int .u32 (pp1 : Nat), .slice a1 n1 c1] θ l V) 0 ?Z1 ?hZ1 (by kernel_rfl) (by kernel_rfl) (fun θ => by kernel_rfl) (by kernel_rfl) ?h01 ?hops1 ?he1
        case hZ1 => intro θ; simp only [List.foldl_cons, List.foldl_nil, List.setIfInBounds_toArray, List.set_cons_zero, List.set_cons_succ]; rfl
        case h01 => exact RgC.start (Below.refl _ _).drew
        case hops1 =>
          refine ⟨?_, ?_, ?_, ?_, ?_, ?_, ?_, ?_, ?_, ?_, ?_, ?_, ?_, trivial⟩
          · exact par_val (fun θ => by rfl) (fun θ l V hg => hg.other 0 (by decide) (by decide)) (fun θ l V hl hc hd hg => by have hB := hg.a4; obtain ⟨d0, d1, d2⟩ := HK10.out V hB; go_simp; (try with_reducible rfl); (try omega))
          · exact par_val (fun θ => by rfl) (fun θ l V hg => hg.other 1 (by decide) (by decide)) (fun θ l V hl hc hd hg => by have hB := hg.a4; obtain ⟨d0, d1, d2⟩ := HK10.out V hB; go_simp; (try with_reducible rfl); (try omega))
          · exact par_val (fun θ => by rfl) (fun θ l V hg => hg.other 2 (by decide) (by decide)) (fun θ l V hl hc hd hg => by have hB := hg.a4; obtain ⟨d0, d1, d2⟩ := HK10.out V hB; go_simp; (try with_reducible rfl); (try omega))
          · exact par_val (fun θ => by rfl) (fun θ l V hg => hg.other 3 (by decide) (by decide)) (fun θ l V hl hc hd hg => by have hB := hg.a4; obtain ⟨d0, d1, d2⟩ := HK10.out V hB; go_simp; (try with_reducible rfl); (try omega))
          · exact par_val (fun θ => by rfl) (fun θ l V hg => hg.other 4 (by decide) (by decide)) (fun θ l V hl hc hd hg => by have hB := hg.a4; obtain ⟨d0, d1, d2⟩ := HK10.out V hB; go_simp; (try with_reducible rfl); (try omega))
          · exact par_val (fun θ => by rfl) (fun θ l V hg => hg.other 5 (by decide) (by decide)) (fun θ l V hl hc hd hg => by have hB := hg.a4; obtain ⟨d0, d1, d2⟩ := HK10.out V hB; go_simp; (try with_reducible rfl); (try omega))
          · exact par_val (fun θ => by rfl) (fun θ l V hg => hg.other 6 (by decide) (by decide)) (fun θ l V hl hc hd hg => by have hB := hg.a4; obtain ⟨d0, d1, d2⟩ := HK10.out V hB; go_simp; (try with_reducible rfl); (try omega))
          · exact par_val (fun θ => by rfl) (fun θ l V hg => hg.other 7 (by decide) (by decide)) (fun θ l V hl hc hd hg => by have hB := hg.a4; obtain ⟨d0, d1, d2⟩ := HK10.out V hB; go_simp; (try with_reducible rfl); (try omega))
          · exact par_val (fun θ => by rfl) (fun θ l V hg => hg.other 8 (by decide) (by decide)) (fun θ l V hl hc hd hg => by have hB := hg.a4; obtain ⟨d0, d1, d2⟩ := HK10.out V hB; go_simp; (try with_reducible rfl); (try omega))
          · exact par_val (fun θ => by rfl) (fun θ l V hg => hg.other 9 (by decide) (by decide)) (fun θ l V hl hc hd hg => by have hB := hg.a4; obtain ⟨d0, d1, d2⟩ := HK10.out V hB; go_simp; (try with_reducible rfl); (try omega))
          · exact par_run (fun θ => by rfl) (fun θ l V hl hc hd hg => by
              have hs : l 11 = false := (by cases h : l 11 with | false => rfl | true => exact absurd (hc 11 10 (by kernel_rfl) h) (by rw [hl]; decide))
              exact ⟨_, _, run_allocX rfl zero_pc, next_set (by kernel_rfl) V.heap.size [(6, .pointer (some ⟨V.heap.size, 0, none⟩), 10)] (by simp only [List.foldl_cons, List.foldl_nil, List.setIfInBounds_toArray, List.set_cons_zero, List.set_cons_succ]) (by kernel_rfl) (fun y hy => by simp at hy; subst hy; exact hl) (fun d hd => by cases hd; rfl) (hg.alloc hs (by decide) _ _ rfl)⟩)
          · exact par_skip (fun θ => by rfl) (fun θ l V hl hc hd hg => by
              have ha : l 10 = true := hd 10 (by kernel_rfl)
              obtain ⟨hth, hst⟩ := hg.store ha hl rfl
              exact ⟨_, run_storeX rfl (b := θ) (k := 0) (by rfl) (cs := [.int .u8 (fl1 : Nat), .int .u16 (st1 : Nat), .int .u16 (ss1 : Nat), .int .u32 (pp1 : Nat), .slice a1 n1 c1]) (by rfl) hth (by kernel_rfl) (by intro v hv; simp at hv; rcases hv with rfl | rfl | rfl | rfl | rfl <;> rfl), ⟨θ, fun _ _ _ _ _ _ => rfl, fun d hd => (by cases hd), hst⟩⟩)
          · exact par_val (fun θ => by rfl) (fun θ l V hg => hg.other 12 (by decide) (by decide)) (fun θ l V hl hc hd hg => by have hB := hg.a4; obtain ⟨d0, d1, d2⟩ := HK10.out V hB; go_simp; (try with_reducible rfl); (try omega))
        case he1 =>
        intro θ l V hall hg
        have hSt := hg.a1 (hall 11 (by decide))
        have hTh := hg.a3 (hall 10 (by decide))
        have hBl := hg.a4
        clear hall hg
        have HV3 : Hid (Below w.heap.size w V) := HV2.out.1.trans (hBl.mono HV2.out.1.size)
        clear hBl hTh hSt HK10 HV2 HV1 HC
        cases b1 with
        | true =>
          go_wp2
          go_ret
          exact ⟨by rw [HN2.out]; rfl, HV3.out⟩
        | false =>
          have HHD := (show Hid _ from held_any (HH.out.below HV3.out))
          have hhb := HH.out.held
          go_wp2_with fail
          refine Calls.mono HHD.out ?_
          rintro e V4 ⟨rfl, hb4⟩
          have HV4 : Hid (Below w.heap.size w V4) := HV3.out.trans (hb4.mono HV3.out.size)
          clear hb4 HHD HV3
          generalize s.heldN = hn at *
          generalize s.heldB = hbb at *
          by_cases hfull : 128 ≤ hn
          · have hfi : (128 : Int) ≤ (hn : Int) := by omega
            go_wp2
            go_ret
            exact ⟨by rw [HN2.out, if_neg (by simp), if_pos hfull]; rfl, HV4.out⟩
          · have hfi : ¬ (128 : Int) ≤ (hn : Int) := by omega
            go_wp2
            go_ret
            exact ⟨by rw [HN2.out, if_neg (by simp), if_neg hfull]; rfl, HV4.out⟩
    · have hki : ¬ (k : Int) = 0 := by omega
      clear hc
      go_wp2
      go_ret
      exact ⟨by rw [HN.out, if_neg (by simp), if_pos hk]; rfl, HV1.out.1⟩
  · go_wp2
    go_ret
    exact ⟨by rw [HN.out, if_pos hE]; rfl, HV1.out.1⟩
end Go.Proofs.Ytjaheelgcjafcaa
