/- Whatever marks: the walk of law19.JudgeGets ends with true. -/
import Derived.Test.YtpdnkbhgobdniaaJdG
namespace Go.Proofs.Ytpdnkbhgobdniaa
open Go.RowKit Go.MapKept Go.Maps
set_option maxRecDepth 100000 in
set_option maxHeartbeats 8000000 in
theorem walk_JudgeGets (a : Option Addr) (ln c : Nat) (dd : List Mk) (w : World) (hl : SlM w a ln c dd) :
    Calls Try.prog 6 #[.slice a ln c] w fun e w' => e = .returned (.bool true) ∧ Below w.heap.size w w' := by
  go_enter Try.func6, Try.ntmps6
  go_wp2_with fail
  refine (short_any a ln c dd w hl).mono ?_
  rintro e w1 ⟨⟨m, rfl, hm1, hm2, hS⟩, rfl⟩
  clear hl
  generalize dd.take m = ds at hS
  clear dd hm2
  obtain ⟨E, hE⟩ : ∃ E, E = (jdg ds).2.1 := ⟨_, rfl⟩
  go_wp2_with fail
  refine (judge_any a m c ds _ hS (by omega) _ rfl).mono ?_
  rintro e w2 ⟨rfl, hb2⟩
  rw [← hE]
  by_cases hE0 : E = 0
  rotate_left
  · go_wp2_with (first | (go_at_call 12; refine (live19_any _).mono ?_; rintro e w4 ⟨rfl, hb4⟩) | fail)
    go_ret
    exact ⟨rfl, hb2.trans (hb4.mono hb2.size)⟩
  · subst hE0
    have HM := (show Hid (∀ {i : Nat} {x : Mk}, ds[i]? = some x → x.is = 2 → _) from fun {i} {x} hx h2 => gets_math hE.symm (i := i) (x := x) hx h2)
    have HLN : Hid (ds.length = m) := hS.len
    have hcap := hS.cap
    have HS := (show Hid _ from hS)
    have HA := (show Hid _ from hS.at_)
    clear hE hS
    go_wp2_with fail
    go_loopw [5] (fun iv wr => ∃ i : Nat, iv = .int .i64 (i : Nat) ∧ i ≤ m ∧ Below w1.heap.size w1 wr) (fun iv _ => m - (intOf iv).toNat)
    case atStart => exact ⟨0, rfl, by omega, hb2⟩
    case round =>
      obtain ⟨i, rfl, him, hbel⟩ := hrel
      clear hb2
      by_cases hil : i < m
      rotate_left
      · have hi1 : ¬ (i : Int) < (m : Int) := by omega
        go_wp2_with (first | (go_at_call 12; refine (live19_any _).mono ?_; rintro e w4 ⟨rfl, hb4⟩) | fail)
        go_ret
        exact ⟨rfl, hbel.trans (hb4.mono hbel.size)⟩
      · have hi1 : (i : Int) < (m : Int) := by omega
        have hi0 : (0 : Int) ≤ (i : Int) := by omega
        have hi2 : (i : Int) ≤ (c : Int) := by omega
        obtain ⟨x, hx⟩ : ∃ x, ds[i]? = some x := ⟨_, List.getElem?_eq_getElem (by have := HLN.out; omega)⟩
        rcases HA.out with h0 | ⟨lb, off, rfl, hlt, hM⟩
        · omega
        have HR : Hid (lb < w1.heap.size ∧ ∀ i x, ds[i]? = some x → w1.rangeAt lb (off + i * 10) x.vals) := ⟨hlt, fun i x hx j v hv => hM i x hx j v hv⟩
        have hr := range_below (HR.out.2 i x hx) hbel hlt
        have x0 : wr.cell? ⟨lb, off + i * 10, none⟩ = some (.int .i64 x.is) := hr 0 _ rfl
        have x1 : wr.cell? ⟨lb, off + i * 10 + 1, none⟩ = some (.int .i64 x.host) := hr 1 _ rfl
        have x2 : wr.cell? ⟨lb, off + i * 10 + 2, none⟩ = some (.int .u32 (x.own : Nat)) := hr 2 _ rfl
        have x3 : wr.cell? ⟨lb, off + i * 10 + 3, none⟩ = some (.int .u32 (x.peer : Nat)) := hr 3 _ rfl
        have x4 : wr.cell? ⟨lb, off + i * 10 + 4, none⟩ = some (.int .u16 (x.mst : Nat)) := hr 4 _ rfl
        have x5 : wr.cell? ⟨lb, off + i * 10 + 5, none⟩ = some (.int .u16 (x.mssn : Nat)) := hr 5 _ rfl
        have x6 : wr.cell? ⟨lb, off + i * 10 + 6, none⟩ = some (.int .u32 (x.mpp : Nat)) := hr 6 _ rfl
        have x7 : wr.cell? ⟨lb, off + i * 10 + 7, none⟩ = some (.bool x.mfree) := hr 7 _ rfl
        have x8 : wr.cell? ⟨lb, off + i * 10 + 8, none⟩ = some (.slice x.mdA x.mdN x.mdC) := hr 8 _ rfl
        have x9 : wr.cell? ⟨lb, off + i * 10 + 9, none⟩ = some (.int .i64 x.note) := hr 9 _ rfl
        have HX := (show Hid _ from hx)
        have hzr : w1.heap.size ≤ wr.heap.size := hbel.size
        clear hM hr hx hlt
        by_cases h2 : x.is = 2
        rotate_left
        · have q2 : (x.is != 2) = true := by simpa using h2
          go_wp2_with fail
          go_roundw
          case rel => exact ⟨i + 1, by go_num, by omega, hbel.trans (((Below.refl _ _).alloc (Nat.le_refl _) _).mono hbel.size)⟩
          case measure => simp [intOf]; omega
        · have q2 : (x.is != 2) = false := by simpa using h2
          obtain ⟨h01, HF, HG⟩ := HM.out HX.out h2
          have hw0 : (0 : Int) ≤ x.host := by rcases h01 with h | h <;> (have : x.host = _ := h; omega)
          have hw1 : x.host ≤ 1 := by rcases h01 with h | h <;> (have : x.host = _ := h; omega)
          have H2 := (show Hid _ from h2)
          have HFF := (show Hid _ from HF)
          have HGG := (show Hid _ from HG)
          clear h2 HF HG h01
          go_wp2_with fail
          obtain ⟨W, hW⟩ : ∃ W, W = wr.alloc (.cells #[.int .i64 x.is, .int .i64 x.host, .int .u32 (x.own : Nat), .int .u32 (x.peer : Nat), .int .u16 (x.mst : Nat), .int .u16 (x.mssn : Nat), .int .u32 (x.mpp : Nat), .bool x.mfree, .slice x.mdA x.mdN x.mdC, .int .i64 x.note] 44) := ⟨_, rfl⟩
          have H3 : Hid (O2 wr x W) := O2.mk' (by rw [hW]; exact Below.refl _ _)
          rw [← hW]
          have hb1W : Below w1.heap.size w1 W := hbel.trans (H3.out.b.mono hbel.size)
          obtain ⟨bx, hbx⟩ : ∃ bx, bx = wr.heap.size := ⟨_, rfl⟩
          have HRX : Hid (bx < W.heap.size ∧ W.rangeAt bx 0 x.vals) := ⟨by rw [hbx]; exact H3.out.z, by rw [hbx]; exact H3.out.r⟩
          rw [← hbx]
          clear hW hbx H3 hbel hzr x0 x1 x2 x3 x4 x5 x6 x7 x8 x9 HA
          have HSN : Hid (∀ V v u, Below w1.heap.size w1 V → v = .slice (some ⟨lb, off, none⟩) i c → u = .int .i64 (1 - x.host) → Calls Try.prog 15 #[v, u, .int .u32 (x.peer : Nat), .int .u32 (x.own : Nat)] V (RowM V (sentL (ds.take i) (oth x.sd)))) := fun V v u hV hv hu => by subst hu; exact rsent_any _ i c (ds.take i) (oth x.sd) V ((HS.out.take i him).below hV) (by omega) v hv
          have HWR : Hid (IntKind.i64.wrap (1 - x.host) = 1 - x.host) := by show IntKind.i64.wrap _ = _; rw [IntKind.wrap_i64]; omega
          have HXC : Hid (∀ V, Below W.heap.size W V → V.cell? ⟨bx, 0, none⟩ = some (.int .i64 x.is) ∧ V.cell? ⟨bx, 1, none⟩ = some (.int .i64 x.host) ∧ V.cell? ⟨bx, 2, none⟩ = some (.int .u32 (x.own : Nat)) ∧ V.cell? ⟨bx, 3, none⟩ = some (.int .u32 (x.peer : Nat)) ∧ V.cell? ⟨bx, 4, none⟩ = some (.int .u16 (x.mst : Nat)) ∧ V.cell? ⟨bx, 5, none⟩ = some (.int .u16 (x.mssn : Nat)) ∧ V.cell? ⟨bx, 6, none⟩ = some (.int .u32 (x.mpp : Nat)) ∧ V.cell? ⟨bx, 7, none⟩ = some (.bool x.mfree) ∧ V.cell? ⟨bx, 8, none⟩ = some (.slice x.mdA x.mdN x.mdC) ∧ V.cell? ⟨bx, 9, none⟩ = some (.int .i64 x.note) ∧ Below W.heap.size W V) := fun V hV => ⟨range_below HRX.out.2 hV HRX.out.1 0 _ rfl, range_below HRX.out.2 hV HRX.out.1 1 _ rfl, range_below HRX.out.2 hV HRX.out.1 2 _ rfl, range_below HRX.out.2 hV HRX.out.1 3 _ rfl, range_below HRX.out.2 hV HRX.out.1 4 _ rfl, range_below HRX.out.2 hV HRX.out.1 5 _ rfl, range_below HRX.out.2 hV HRX.out.1 6 _ rfl, range_below HRX.out.2 hV HRX.out.1 7 _ rfl, range_below HRX.out.2 hV HRX.out.1 8 _ rfl, range_below HRX.out.2 hV HRX.out.1 9 _ rfl, hV⟩
          obtain ⟨X0, X1, X2, X3, X4, X5, X6, X7, X8, X9, _⟩ := HXC.out W (Below.refl _ _)
          have hbD : Below W.heap.size W W.drew := (Below.refl _ _).drew
          have hb1D : Below w1.heap.size w1 W.drew := hb1W.drew
          go_region_held3 (fun V => V.cell? ⟨bx, 0, none⟩ = some (.int .i64 x.is) ∧ V.cell? ⟨bx, 1, none⟩ = some (.int .i64 x.host) ∧ V.cell? ⟨bx, 2, none⟩ = some (.int .u32 (x.own : Nat)) ∧ V.cell? ⟨bx, 3, none⟩ = some (.int .u32 (x.peer : Nat)) ∧ V.cell? ⟨bx, 4, none⟩ = some (.int .u16 (x.mst : Nat)) ∧ V.cell? ⟨bx, 5, none⟩ = some (.int .u16 (x.mssn : Nat)) ∧ V.cell? ⟨bx, 6, none⟩ = some (.int .u32 (x.mpp : Nat)) ∧ V.cell? ⟨bx, 7, none⟩ = some (.bool x.mfree) ∧ V.cell? ⟨bx, 8, none⟩ = some (.slice x.mdA x.mdN x.mdC) ∧ V.cell? ⟨bx, 9, none⟩ = some (.int .i64 x.note) ∧ Below W.heap.size W V) (first | exact HXC.out _ (by assumption)) (first
            | (go_at_call 15; refine (HSN.out _ _ _ hb1D (by rfl) (by first | rfl | rw [HWR.out])).mono ?_; rintro e w3 ⟨⟨la, sn, sc, rfl, hO⟩, hb3⟩; have hbW3 := hbD.trans (hb3.mono hbD.size); have HO := (show Hid _ from hO); clear hO hb3)
            | fail)
          all_goals
            clear HSN HWR hbD hb1D X0 X1 X2 X3 X4 X5 X6 X7 X8 X9
            obtain ⟨L, HL⟩ : ∃ L, Hid (L = sentL (ds.take i) (oth x.sd)) := ⟨_, rfl⟩
            rw [← HL.out] at HO HFF HGG
            simp only [Exit.then]
            go_wp2_with fail
            go_loopw [8, 9, 11] (fun tv sv kv wr => ∃ (k t s : Nat), tv = .int .i64 (t : Nat) ∧ sv = .int .i64 (s : Nat) ∧ kv = .int .i64 (k : Nat) ∧ k ≤ i ∧ t ≤ k ∧ s ≤ k ∧ t = (gotL (ds.take k) x.sd).countP (nxt x.mst) ∧ s = (gotL (ds.take k) x.sd).countP (fun y => alkJ y x.msg) ∧ Below w3.heap.size w3 wr) (fun _ _ kv _ => i - (intOf kv).toNat)
            case atStart => exact ⟨0, 0, 0, rfl, rfl, rfl, by omega, by omega, by omega, rfl, rfl, Below.refl _ _⟩
            case round =>
              obtain ⟨k, t, s, rfl, rfl, rfl, hki, htk, hsk, ht, hs, hbk⟩ := hrel
              have HT := (show Hid _ from ht)
              have HSM := (show Hid _ from hs)
              clear ht hs
              by_cases hkl : k < i
              · have hk1 : (k : Int) < (i : Int) := by omega
                have hk0 : (0 : Int) ≤ (k : Int) := by omega
                have hk2 : (k : Int) < (m : Int) := by omega
                obtain ⟨y, hy⟩ : ∃ y, ds[k]? = some y := ⟨_, List.getElem?_eq_getElem (by have := HLN.out; omega)⟩
                have HN : Hid (gotL (ds.take (k + 1)) x.sd = gotL (ds.take k) x.sd ++ if decide (y.is = 2) && ofJ y x.sd then [y.msg] else []) := by
                  show _ = _
                  rw [show ds.take (k + 1) = ds.take k ++ [y] by rw [List.take_add_one, hy]; rfl]
                  exact gotL_snoc _ _ _
                have HYA : Hid (∀ V, Below W.heap.size W V → V.cell? ⟨lb, off + k * 10, none⟩ = some (.int .i64 y.is) ∧ V.cell? ⟨lb, off + k * 10 + 1, none⟩ = some (.int .i64 y.host) ∧ V.cell? ⟨lb, off + k * 10 + 2, none⟩ = some (.int .u32 (y.own : Nat)) ∧ V.cell? ⟨lb, off + k * 10 + 3, none⟩ = some (.int .u32 (y.peer : Nat)) ∧ V.cell? ⟨lb, off + k * 10 + 4, none⟩ = some (.int .u16 (y.mst : Nat)) ∧ V.cell? ⟨lb, off + k * 10 + 5, none⟩ = some (.int .u16 (y.mssn : Nat)) ∧ V.cell? ⟨lb, off + k * 10 + 6, none⟩ = some (.int .u32 (y.mpp : Nat)) ∧ V.cell? ⟨lb, off + k * 10 + 7, none⟩ = some (.bool y.mfree) ∧ V.cell? ⟨lb, off + k * 10 + 8, none⟩ = some (.slice y.mdA y.mdN y.mdC) ∧ V.cell? ⟨lb, off + k * 10 + 9, none⟩ = some (.int .i64 y.note) ∧ V.cell? ⟨bx, 0, none⟩ = some (.int .i64 x.is) ∧ V.cell? ⟨bx, 1, none⟩ = some (.int .i64 x.host) ∧ V.cell? ⟨bx, 2, none⟩ = some (.int .u32 (x.own : Nat)) ∧ V.cell? ⟨bx, 3, none⟩ = some (.int .u32 (x.peer : Nat)) ∧ V.cell? ⟨bx, 4, none⟩ = some (.int .u16 (x.mst : Nat)) ∧ V.cell? ⟨bx, 5, none⟩ = some (.int .u16 (x.mssn : Nat)) ∧ V.cell? ⟨bx, 6, none⟩ = some (.int .u32 (x.mpp : Nat)) ∧ V.cell? ⟨bx, 7, none⟩ = some (.bool x.mfree) ∧ V.cell? ⟨bx, 8, none⟩ = some (.slice x.mdA x.mdN x.mdC) ∧ V.cell? ⟨bx, 9, none⟩ = some (.int .i64 x.note) ∧ Below W.heap.size W V) := fun V hV => ⟨range_below (HR.out.2 k y hy) (hb1W.trans (hV.mono hb1W.size)) HR.out.1 0 _ rfl, range_below (HR.out.2 k y hy) (hb1W.trans (hV.mono hb1W.size)) HR.out.1 1 _ rfl, range_below (HR.out.2 k y hy) (hb1W.trans (hV.mono hb1W.size)) HR.out.1 2 _ rfl, range_below (HR.out.2 k y hy) (hb1W.trans (hV.mono hb1W.size)) HR.out.1 3 _ rfl, range_below (HR.out.2 k y hy) (hb1W.trans (hV.mono hb1W.size)) HR.out.1 4 _ rfl, range_below (HR.out.2 k y hy) (hb1W.trans (hV.mono hb1W.size)) HR.out.1 5 _ rfl, range_below (HR.out.2 k y hy) (hb1W.trans (hV.mono hb1W.size)) HR.out.1 6 _ rfl, range_below (HR.out.2 k y hy) (hb1W.trans (hV.mono hb1W.size)) HR.out.1 7 _ rfl, range_below (HR.out.2 k y hy) (hb1W.trans (hV.mono hb1W.size)) HR.out.1 8 _ rfl, range_below (HR.out.2 k y hy) (hb1W.trans (hV.mono hb1W.size)) HR.out.1 9 _ rfl, range_below HRX.out.2 hV HRX.out.1 0 _ rfl, range_below HRX.out.2 hV HRX.out.1 1 _ rfl, range_below HRX.out.2 hV HRX.out.1 2 _ rfl, range_below HRX.out.2 hV HRX.out.1 3 _ rfl, range_below HRX.out.2 hV HRX.out.1 4 _ rfl, range_below HRX.out.2 hV HRX.out.1 5 _ rfl, range_below HRX.out.2 hV HRX.out.1 6 _ rfl, range_below HRX.out.2 hV HRX.out.1 7 _ rfl, range_below HRX.out.2 hV HRX.out.1 8 _ rfl, range_below HRX.out.2 hV HRX.out.1 9 _ rfl, hV⟩
                have HYO : Hid (∀ V, Below W.heap.size W V → y.msg.Ok V ∧ x.msg.Ok V) := fun V hV => ⟨((HS.out.below (hb1W.trans (hV.mono hb1W.size))).wf y (List.mem_of_getElem? hy)).msg, ((HS.out.below (hb1W.trans (hV.mono hb1W.size))).wf x (List.mem_of_getElem? HX.out)).msg⟩
                have hbWk := hbW3.trans (hbk.mono hbW3.size)
                obtain ⟨B, HB⟩ : ∃ B, Hid (B = ofJ y x.sd) := ⟨_, rfl⟩
                clear hy
                obtain ⟨y0, y1, y2, y3, y4, y5, y6, y7, y8, y9, X0, X1, X2, X3, X4, X5, X6, X7, X8, X9, _⟩ := HYA.out _ hbWk
                by_cases h2 : y.is = 2
                rotate_left
                · have q3 : (y.is != 2) = true := by simpa using h2
                  have HNI : Hid ((decide (y.is = 2) && ofJ y x.sd) = false) := by show (_ && _) = false; simp [h2]
                  clear h2
                  go_wp2_with fail
                  go_quiet (fail)
                  have hbq : Below w3.heap.size w3 (wr.drewN nq) := hbk.trans ((below_drewN (Below.refl _ _) nq).mono hbk.size)
                  simp only [Exit.then]
                  go_wp2
                  go_roundw
                  case rel => exact ⟨k + 1, t, s, rfl, rfl, by go_num, by omega, by omega, by omega, by rw [HN.out, if_neg (by rw [HNI.out]; simp), List.append_nil]; exact HT.out, by rw [HN.out, if_neg (by rw [HNI.out]; simp), List.append_nil]; exact HSM.out, hbq⟩
                  case measure => simp [intOf]; omega
                · have q3 : (y.is != 2) = false := by simpa using h2
                  have HNE := (show Hid _ from h2)
                  have hbD : Below W.heap.size W wr.drew := hbWk.drew
                  have hb3D : Below w3.heap.size w3 wr.drew := hbk.drew
                  have HCA : Hid (∀ V v, v = .agg y.vals.toArray → Calls Try.prog 16 #[v, .int .i64 x.host, .int .u32 (x.own : Nat), .int .u32 (x.peer : Nat)] V fun e w' => e = .returned (.bool B) ∧ Below V.heap.size V w') := fun V v hv => (of19_any y x.host x.own x.peer V v hv).mono fun e w' h => ⟨by rw [HB.out]; exact h.1, h.2⟩
                  clear h2
                  go_wp2_with fail
                  go_region_held3 (fun V => V.cell? ⟨lb, off + k * 10, none⟩ = some (.int .i64 y.is) ∧ V.cell? ⟨lb, off + k * 10 + 1, none⟩ = some (.int .i64 y.host) ∧ V.cell? ⟨lb, off + k * 10 + 2, none⟩ = some (.int .u32 (y.own : Nat)) ∧ V.cell? ⟨lb, off + k * 10 + 3, none⟩ = some (.int .u32 (y.peer : Nat)) ∧ V.cell? ⟨lb, off + k * 10 + 4, none⟩ = some (.int .u16 (y.mst : Nat)) ∧ V.cell? ⟨lb, off + k * 10 + 5, none⟩ = some (.int .u16 (y.mssn : Nat)) ∧ V.cell? ⟨lb, off + k * 10 + 6, none⟩ = some (.int .u32 (y.mpp : Nat)) ∧ V.cell? ⟨lb, off + k * 10 + 7, none⟩ = some (.bool y.mfree) ∧ V.cell? ⟨lb, off + k * 10 + 8, none⟩ = some (.slice y.mdA y.mdN y.mdC) ∧ V.cell? ⟨lb, off + k * 10 + 9, none⟩ = some (.int .i64 y.note) ∧ V.cell? ⟨bx, 0, none⟩ = some (.int .i64 x.is) ∧ V.cell? ⟨bx, 1, none⟩ = some (.int .i64 x.host) ∧ V.cell? ⟨bx, 2, none⟩ = some (.int .u32 (x.own : Nat)) ∧ V.cell? ⟨bx, 3, none⟩ = some (.int .u32 (x.peer : Nat)) ∧ V.cell? ⟨bx, 4, none⟩ = some (.int .u16 (x.mst : Nat)) ∧ V.cell? ⟨bx, 5, none⟩ = some (.int .u16 (x.mssn : Nat)) ∧ V.cell? ⟨bx, 6, none⟩ = some (.int .u32 (x.mpp : Nat)) ∧ V.cell? ⟨bx, 7, none⟩ = some (.bool x.mfree) ∧ V.cell? ⟨bx, 8, none⟩ = some (.slice x.mdA x.mdN x.mdC) ∧ V.cell? ⟨bx, 9, none⟩ = some (.int .i64 x.note) ∧ Below W.heap.size W V) (first | exact HYA.out _ (by assumption)) (first
                    | (go_at_call 16; refine (HCA.out _ _ (by rfl)).mono ?_; rintro e w5 ⟨rfl, hb5⟩; have hbW5 := hbD.trans (hb5.mono hbD.size); have hb35 := hb3D.trans (hb5.mono hb3D.size))
                    | fail)
                  all_goals
                    clear HCA hbD hb3D hb5 hbWk hbk y0 y1 y2 y3 y4 y5 y6 y7 y8 y9 X0 X1 X2 X3 X4 X5 X6 X7 X8 X9
                    simp only [Exit.then]
                    cases B
                    · go_wp2
                      go_roundw
                      case rel => exact ⟨k + 1, t, s, rfl, rfl, by go_num, by omega, by omega, by omega, by rw [HN.out, if_neg (by simp [← HB.out]), List.append_nil]; exact HT.out, by rw [HN.out, if_neg (by simp [← HB.out]), List.append_nil]; exact HSM.out, hb35⟩
                      case measure => simp [intOf]; omega
                    · obtain ⟨y0, y1, y2, y3, y4, y5, y6, y7, y8, y9, X0, X1, X2, X3, X4, X5, X6, X7, X8, X9, _⟩ := HYA.out _ hbW5
                      obtain ⟨fy, HFY⟩ : ∃ fy, Hid (fy = y.mfree) := ⟨_, rfl⟩
                      rw [← HFY.out] at y7
                      obtain ⟨A, HAl⟩ : ∃ A, Hid (A = alkJ y.msg x.msg) := ⟨_, rfl⟩
                      have HN2 : Hid (gotL (ds.take (k + 1)) x.sd = gotL (ds.take k) x.sd ++ [y.msg]) := by show _ = _; rw [HN.out, if_pos (by rw [← HB.out, Bool.and_true]; exact decide_eq_true HNE.out)]
                      cases fy
                      · have qn : (!y.mfree) = true := by rw [← HFY.out]; rfl
                        by_cases cs : y.mst = x.mst
                        · have qs : ((y.mst : Int) == (x.mst : Int)) = true := by simp [cs]
                          have HNX : Hid (nxt x.mst y.msg = true) := by show nxt _ _ = true; unfold nxt; rw [show y.msg.free = false from HFY.out.symm]; exact decide_eq_true (show y.msg.st = x.mst from cs)
                          clear cs
                          go_wp2_with fail
                          go_quiet (fail)
                          obtain ⟨W6, hW6⟩ : ∃ W6, W6 = w5.drewN nq := ⟨_, rfl⟩
                          rw [← hW6]
                          have hbW6 : Below W.heap.size W W6 := by rw [hW6]; exact hbW5.trans ((below_drewN (Below.refl _ _) nq).mono hbW5.size)
                          have hb36 : Below w3.heap.size w3 W6 := by rw [hW6]; exact hb35.trans ((below_drewN (Below.refl _ _) nq).mono hb35.size)
                          clear hW6 hbW5 hb35 y0 y1 y2 y3 y4 y5 y6 y7 y8 y9 X0 X1 X2 X3 X4 X5 X6 X7 X8 X9
                          have hbD : Below W.heap.size W W6.drew := hbW6.drew
                          have hb3D : Below w3.heap.size w3 W6.drew := hb36.drew
                          simp only [Exit.then]
                          go_wp2_with fail
                          go_region_held3 (fun V => V.cell? ⟨lb, off + k * 10, none⟩ = some (.int .i64 y.is) ∧ V.cell? ⟨lb, off + k * 10 + 1, none⟩ = some (.int .i64 y.host) ∧ V.cell? ⟨lb, off + k * 10 + 2, none⟩ = some (.int .u32 (y.own : Nat)) ∧ V.cell? ⟨lb, off + k * 10 + 3, none⟩ = some (.int .u32 (y.peer : Nat)) ∧ V.cell? ⟨lb, off + k * 10 + 4, none⟩ = some (.int .u16 (y.mst : Nat)) ∧ V.cell? ⟨lb, off + k * 10 + 5, none⟩ = some (.int .u16 (y.mssn : Nat)) ∧ V.cell? ⟨lb, off + k * 10 + 6, none⟩ = some (.int .u32 (y.mpp : Nat)) ∧ V.cell? ⟨lb, off + k * 10 + 7, none⟩ = some (.bool y.mfree) ∧ V.cell? ⟨lb, off + k * 10 + 8, none⟩ = some (.slice y.mdA y.mdN y.mdC) ∧ V.cell? ⟨lb, off + k * 10 + 9, none⟩ = some (.int .i64 y.note) ∧ V.cell? ⟨bx, 0, none⟩ = some (.int .i64 x.is) ∧ V.cell? ⟨bx, 1, none⟩ = some (.int .i64 x.host) ∧ V.cell? ⟨bx, 2, none⟩ = some (.int .u32 (x.own : Nat)) ∧ V.cell? ⟨bx, 3, none⟩ = some (.int .u32 (x.peer : Nat)) ∧ V.cell? ⟨bx, 4, none⟩ = some (.int .u16 (x.mst : Nat)) ∧ V.cell? ⟨bx, 5, none⟩ = some (.int .u16 (x.mssn : Nat)) ∧ V.cell? ⟨bx, 6, none⟩ = some (.int .u32 (x.mpp : Nat)) ∧ V.cell? ⟨bx, 7, none⟩ = some (.bool x.mfree) ∧ V.cell? ⟨bx, 8, none⟩ = some (.slice x.mdA x.mdN x.mdC) ∧ V.cell? ⟨bx, 9, none⟩ = some (.int .i64 x.note) ∧ Below W.heap.size W V) (first | exact HYA.out _ (by assumption)) (first
                            | (go_at_call 17; refine (alike_any y.msg x.msg _ (HYO.out _ hbD).1 (HYO.out _ hbD).2 _ _ (by rfl) (by rfl)).mono ?_; rintro e w7 ⟨he, hb7⟩; obtain rfl : e = .returned (.bool A) := (by rw [HAl.out]; exact he); clear he; have hbW7 := hbD.trans (hb7.mono hbD.size); have hb37 := hb3D.trans (hb7.mono hb3D.size))
                            | fail)
                          all_goals
                            clear hbD hb3D hb7 hbW6 hb36
                            simp only [Exit.then]
                            cases A
                            · go_wp2
                              go_roundw
                              case rel => exact ⟨k + 1, t + 1, s, by first | rfl | go_num, by first | rfl | go_num, by go_num, by omega, by omega, by omega, by rw [HN2.out, List.countP_append, ← HT.out, List.countP_singleton, HNX.out]; rfl, by rw [HN2.out, List.countP_append, ← HSM.out, List.countP_singleton]; show _ = s + (if alkJ y.msg x.msg = true then 1 else 0); rw [← HAl.out]; rfl, hb37⟩
                              case measure => simp [intOf]; omega
                            · go_wp2
                              go_roundw
                              case rel => exact ⟨k + 1, t + 1, s + 1, by first | rfl | go_num, by first | rfl | go_num, by go_num, by omega, by omega, by omega, by rw [HN2.out, List.countP_append, ← HT.out, List.countP_singleton, HNX.out]; rfl, by rw [HN2.out, List.countP_append, ← HSM.out, List.countP_singleton]; show _ = s + (if alkJ y.msg x.msg = true then 1 else 0); rw [← HAl.out]; rfl, hb37⟩
                              case measure => simp [intOf]; omega
                        · have qs : ((y.mst : Int) == (x.mst : Int)) = false := by simp; omega
                          have HNX : Hid (nxt x.mst y.msg = false) := by show nxt _ _ = false; unfold nxt; simp; intro _; exact cs
                          clear cs
                          go_wp2_with fail
                          go_quiet (fail)
                          obtain ⟨W6, hW6⟩ : ∃ W6, W6 = w5.drewN nq := ⟨_, rfl⟩
                          rw [← hW6]
                          have hbW6 : Below W.heap.size W W6 := by rw [hW6]; exact hbW5.trans ((below_drewN (Below.refl _ _) nq).mono hbW5.size)
                          have hb36 : Below w3.heap.size w3 W6 := by rw [hW6]; exact hb35.trans ((below_drewN (Below.refl _ _) nq).mono hb35.size)
                          clear hW6 hbW5 hb35 y0 y1 y2 y3 y4 y5 y6 y7 y8 y9 X0 X1 X2 X3 X4 X5 X6 X7 X8 X9
                          have hbD : Below W.heap.size W W6.drew := hbW6.drew
                          have hb3D : Below w3.heap.size w3 W6.drew := hb36.drew
                          simp only [Exit.then]
                          go_wp2_with fail
                          go_region_held3 (fun V => V.cell? ⟨lb, off + k * 10, none⟩ = some (.int .i64 y.is) ∧ V.cell? ⟨lb, off + k * 10 + 1, none⟩ = some (.int .i64 y.host) ∧ V.cell? ⟨lb, off + k * 10 + 2, none⟩ = some (.int .u32 (y.own : Nat)) ∧ V.cell? ⟨lb, off + k * 10 + 3, none⟩ = some (.int .u32 (y.peer : Nat)) ∧ V.cell? ⟨lb, off + k * 10 + 4, none⟩ = some (.int .u16 (y.mst : Nat)) ∧ V.cell? ⟨lb, off + k * 10 + 5, none⟩ = some (.int .u16 (y.mssn : Nat)) ∧ V.cell? ⟨lb, off + k * 10 + 6, none⟩ = some (.int .u32 (y.mpp : Nat)) ∧ V.cell? ⟨lb, off + k * 10 + 7, none⟩ = some (.bool y.mfree) ∧ V.cell? ⟨lb, off + k * 10 + 8, none⟩ = some (.slice y.mdA y.mdN y.mdC) ∧ V.cell? ⟨lb, off + k * 10 + 9, none⟩ = some (.int .i64 y.note) ∧ V.cell? ⟨bx, 0, none⟩ = some (.int .i64 x.is) ∧ V.cell? ⟨bx, 1, none⟩ = some (.int .i64 x.host) ∧ V.cell? ⟨bx, 2, none⟩ = some (.int .u32 (x.own : Nat)) ∧ V.cell? ⟨bx, 3, none⟩ = some (.int .u32 (x.peer : Nat)) ∧ V.cell? ⟨bx, 4, none⟩ = some (.int .u16 (x.mst : Nat)) ∧ V.cell? ⟨bx, 5, none⟩ = some (.int .u16 (x.mssn : Nat)) ∧ V.cell? ⟨bx, 6, none⟩ = some (.int .u32 (x.mpp : Nat)) ∧ V.cell? ⟨bx, 7, none⟩ = some (.bool x.mfree) ∧ V.cell? ⟨bx, 8, none⟩ = some (.slice x.mdA x.mdN x.mdC) ∧ V.cell? ⟨bx, 9, none⟩ = some (.int .i64 x.note) ∧ Below W.heap.size W V) (first | exact HYA.out _ (by assumption)) (first
                            | (go_at_call 17; refine (alike_any y.msg x.msg _ (HYO.out _ hbD).1 (HYO.out _ hbD).2 _ _ (by rfl) (by rfl)).mono ?_; rintro e w7 ⟨he, hb7⟩; obtain rfl : e = .returned (.bool A) := (by rw [HAl.out]; exact he); clear he; have hbW7 := hbD.trans (hb7.mono hbD.size); have hb37 := hb3D.trans (hb7.mono hb3D.size))
                            | fail)
                          all_goals
                            clear hbD hb3D hb7 hbW6 hb36
                            simp only [Exit.then]
                            cases A
                            · go_wp2
                              go_roundw
                              case rel => exact ⟨k + 1, t, s, by first | rfl | go_num, by first | rfl | go_num, by go_num, by omega, by omega, by omega, by rw [HN2.out, List.countP_append, ← HT.out, List.countP_singleton, HNX.out]; rfl, by rw [HN2.out, List.countP_append, ← HSM.out, List.countP_singleton]; show _ = s + (if alkJ y.msg x.msg = true then 1 else 0); rw [← HAl.out]; rfl, hb37⟩
                              case measure => simp [intOf]; omega
                            · go_wp2
                              go_roundw
                              case rel => exact ⟨k + 1, t, s + 1, by first | rfl | go_num, by first | rfl | go_num, by go_num, by omega, by omega, by omega, by rw [HN2.out, List.countP_append, ← HT.out, List.countP_singleton, HNX.out]; rfl, by rw [HN2.out, List.countP_append, ← HSM.out, List.countP_singleton]; show _ = s + (if alkJ y.msg x.msg = true then 1 else 0); rw [← HAl.out]; rfl, hb37⟩
                              case measure => simp [intOf]; omega
                      · have qn : (!y.mfree) = false := by rw [← HFY.out]; rfl
                        have HNX : Hid (nxt x.mst y.msg = false) := by show nxt _ _ = false; unfold nxt; rw [show y.msg.free = true from HFY.out.symm]; rfl
                        go_wp2_with fail
                        go_quiet (fail)
                        obtain ⟨W6, hW6⟩ : ∃ W6, W6 = w5.drewN nq := ⟨_, rfl⟩
                        rw [← hW6]
                        have hbW6 : Below W.heap.size W W6 := by rw [hW6]; exact hbW5.trans ((below_drewN (Below.refl _ _) nq).mono hbW5.size)
                        have hb36 : Below w3.heap.size w3 W6 := by rw [hW6]; exact hb35.trans ((below_drewN (Below.refl _ _) nq).mono hb35.size)
                        clear hW6 hbW5 hb35 y0 y1 y2 y3 y4 y5 y6 y7 y8 y9 X0 X1 X2 X3 X4 X5 X6 X7 X8 X9
                        have hbD : Below W.heap.size W W6.drew := hbW6.drew
                        have hb3D : Below w3.heap.size w3 W6.drew := hb36.drew
                        simp only [Exit.then]
                        go_wp2_with fail
                        go_region_held3 (fun V => V.cell? ⟨lb, off + k * 10, none⟩ = some (.int .i64 y.is) ∧ V.cell? ⟨lb, off + k * 10 + 1, none⟩ = some (.int .i64 y.host) ∧ V.cell? ⟨lb, off + k * 10 + 2, none⟩ = some (.int .u32 (y.own : Nat)) ∧ V.cell? ⟨lb, off + k * 10 + 3, none⟩ = some (.int .u32 (y.peer : Nat)) ∧ V.cell? ⟨lb, off + k * 10 + 4, none⟩ = some (.int .u16 (y.mst : Nat)) ∧ V.cell? ⟨lb, off + k * 10 + 5, none⟩ = some (.int .u16 (y.mssn : Nat)) ∧ V.cell? ⟨lb, off + k * 10 + 6, none⟩ = some (.int .u32 (y.mpp : Nat)) ∧ V.cell? ⟨lb, off + k * 10 + 7, none⟩ = some (.bool y.mfree) ∧ V.cell? ⟨lb, off + k * 10 + 8, none⟩ = some (.slice y.mdA y.mdN y.mdC) ∧ V.cell? ⟨lb, off + k * 10 + 9, none⟩ = some (.int .i64 y.note) ∧ V.cell? ⟨bx, 0, none⟩ = some (.int .i64 x.is) ∧ V.cell? ⟨bx, 1, none⟩ = some (.int .i64 x.host) ∧ V.cell? ⟨bx, 2, none⟩ = some (.int .u32 (x.own : Nat)) ∧ V.cell? ⟨bx, 3, none⟩ = some (.int .u32 (x.peer : Nat)) ∧ V.cell? ⟨bx, 4, none⟩ = some (.int .u16 (x.mst : Nat)) ∧ V.cell? ⟨bx, 5, none⟩ = some (.int .u16 (x.mssn : Nat)) ∧ V.cell? ⟨bx, 6, none⟩ = some (.int .u32 (x.mpp : Nat)) ∧ V.cell? ⟨bx, 7, none⟩ = some (.bool x.mfree) ∧ V.cell? ⟨bx, 8, none⟩ = some (.slice x.mdA x.mdN x.mdC) ∧ V.cell? ⟨bx, 9, none⟩ = some (.int .i64 x.note) ∧ Below W.heap.size W V) (first | exact HYA.out _ (by assumption)) (first
                          | (go_at_call 17; refine (alike_any y.msg x.msg _ (HYO.out _ hbD).1 (HYO.out _ hbD).2 _ _ (by rfl) (by rfl)).mono ?_; rintro e w7 ⟨he, hb7⟩; obtain rfl : e = .returned (.bool A) := (by rw [HAl.out]; exact he); clear he; have hbW7 := hbD.trans (hb7.mono hbD.size); have hb37 := hb3D.trans (hb7.mono hb3D.size))
                          | fail)
                        all_goals
                          clear hbD hb3D hb7 hbW6 hb36
                          simp only [Exit.then]
                          cases A
                          · go_wp2
                            go_roundw
                            case rel => exact ⟨k + 1, t, s, by first | rfl | go_num, by first | rfl | go_num, by go_num, by omega, by omega, by omega, by rw [HN2.out, List.countP_append, ← HT.out, List.countP_singleton, HNX.out]; rfl, by rw [HN2.out, List.countP_append, ← HSM.out, List.countP_singleton]; show _ = s + (if alkJ y.msg x.msg = true then 1 else 0); rw [← HAl.out]; rfl, hb37⟩
                            case measure => simp [intOf]; omega
                          · go_wp2
                            go_roundw
                            case rel => exact ⟨k + 1, t, s + 1, by first | rfl | go_num, by first | rfl | go_num, by go_num, by omega, by omega, by omega, by rw [HN2.out, List.countP_append, ← HT.out, List.countP_singleton, HNX.out]; rfl, by rw [HN2.out, List.countP_append, ← HSM.out, List.countP_singleton]; show _ = s + (if alkJ y.msg x.msg = true then 1 else 0); rw [← HAl.out]; rfl, hb37⟩
                            case measure => simp [intOf]; omega
              · obtain rfl : i = k := by omega
                have hk1 : ¬ (i : Int) < (i : Int) := by omega
                rw [← HSM.out] at HFF
                rw [← HT.out] at HGG
                clear HT HSM
                have HLS : Hid (sn = L.length) := HO.out.len.symm
                have hsn : sn ≤ 1000 := by
                  have h1 := HLS.out
                  have h2 := sentL_len (ds.take i) (oth x.sd)
                  rw [← HL.out] at h2
                  have h3 : (ds.take i).length ≤ i := List.length_take_le _ _
                  omega
                go_wp2_with fail
                go_loopw [10, 12, 13, 14] (fun bv nv gv jv wr => ∃ (j b n : Nat) (g : Bool), bv = .int .i64 (b : Nat) ∧ nv = .int .i64 (n : Nat) ∧ gv = .bool g ∧ jv = .int .i64 (j : Nat) ∧ j ≤ sn ∧ b ≤ j ∧ n ≤ j ∧ b = (L.take j).countP (fun y => alkJ y x.msg) ∧ n = (L.take j).countP (nxt x.mst) ∧ g = goodJ x.msg t (L.take j) ∧ Below w3.heap.size w3 wr) (fun _ _ _ jv _ => sn - (intOf jv).toNat)
                case atStart => exact ⟨0, 0, 0, false, rfl, rfl, rfl, rfl, by omega, by omega, by omega, rfl, rfl, rfl, hbk⟩
                case round =>
                  obtain ⟨j, b, n, g, rfl, rfl, rfl, rfl, hjs, hbj, hnj, hb, hn, hg, hbk2⟩ := hrel
                  have HBE := (show Hid _ from hb)
                  have HNN := (show Hid _ from hn)
                  have HGD := (show Hid _ from hg)
                  clear hb hn hg hbk
                  by_cases hjl : j < sn
                  · have hj1 : (j : Int) < (sn : Int) := by omega
                    have hj0 : (0 : Int) ≤ (j : Int) := by omega
                    obtain ⟨y, hy⟩ : ∃ y, L[j]? = some y := ⟨_, List.getElem?_eq_getElem (by have := HLS.out; omega)⟩
                    have HTK : Hid (L.take (j + 1) = L.take j ++ [y]) := by show _ = _; rw [List.take_add_one, hy]; rfl
                    obtain ⟨g0, rfl, hgB, hgl, hlc, hcm, hcell, _⟩ := HO.out.at_ mgLays.len (by omega)
                    have HCY : Hid (w3.rangeAt g0 (j * 5) y.cells) := fun l u hu => hcell j y hy l u hu
                    have HYO : Hid (∀ V, Below w3.heap.size w3 V → y.Ok V ∧ x.msg.Ok V) := fun V hV => by
                      have hb1V := hb1W.trans ((hbW3.trans (hV.mono hbW3.size)).mono hb1W.size)
                      obtain ⟨x2, hx2, e⟩ := sentL_mem (HL.out ▸ List.mem_of_getElem? hy)
                      rw [e]
                      exact ⟨((HS.out.below hb1V).wf x2 (List.mem_of_mem_take hx2)).msg, ((HS.out.below hb1V).wf x (List.mem_of_getElem? HX.out)).msg⟩
                    have HYA : Hid (∀ V, Below w3.heap.size w3 V → V.cell? ⟨g0, j * 5, none⟩ = some (.int .u16 (y.st : Nat)) ∧ V.cell? ⟨g0, j * 5 + 1, none⟩ = some (.int .u16 (y.ssn : Nat)) ∧ V.cell? ⟨g0, j * 5 + 2, none⟩ = some (.int .u32 (y.pp : Nat)) ∧ V.cell? ⟨g0, j * 5 + 3, none⟩ = some (.bool y.free) ∧ V.cell? ⟨g0, j * 5 + 4, none⟩ = some (.slice y.a y.n y.c) ∧ V.cell? ⟨bx, 0, none⟩ = some (.int .i64 x.is) ∧ V.cell? ⟨bx, 1, none⟩ = some (.int .i64 x.host) ∧ V.cell? ⟨bx, 2, none⟩ = some (.int .u32 (x.own : Nat)) ∧ V.cell? ⟨bx, 3, none⟩ = some (.int .u32 (x.peer : Nat)) ∧ V.cell? ⟨bx, 4, none⟩ = some (.int .u16 (x.mst : Nat)) ∧ V.cell? ⟨bx, 5, none⟩ = some (.int .u16 (x.mssn : Nat)) ∧ V.cell? ⟨bx, 6, none⟩ = some (.int .u32 (x.mpp : Nat)) ∧ V.cell? ⟨bx, 7, none⟩ = some (.bool x.mfree) ∧ V.cell? ⟨bx, 8, none⟩ = some (.slice x.mdA x.mdN x.mdC) ∧ V.cell? ⟨bx, 9, none⟩ = some (.int .i64 x.note) ∧ Below w3.heap.size w3 V) := fun V hV => ⟨range_below HCY.out hV hgl 0 _ rfl, range_below HCY.out hV hgl 1 _ rfl, range_below HCY.out hV hgl 2 _ rfl, range_below HCY.out hV hgl 3 _ rfl, range_below HCY.out hV hgl 4 _ rfl, range_below HRX.out.2 (hbW3.trans (hV.mono hbW3.size)) HRX.out.1 0 _ rfl, range_below HRX.out.2 (hbW3.trans (hV.mono hbW3.size)) HRX.out.1 1 _ rfl, range_below HRX.out.2 (hbW3.trans (hV.mono hbW3.size)) HRX.out.1 2 _ rfl, range_below HRX.out.2 (hbW3.trans (hV.mono hbW3.size)) HRX.out.1 3 _ rfl, range_below HRX.out.2 (hbW3.trans (hV.mono hbW3.size)) HRX.out.1 4 _ rfl, range_below HRX.out.2 (hbW3.trans (hV.mono hbW3.size)) HRX.out.1 5 _ rfl, range_below HRX.out.2 (hbW3.trans (hV.mono hbW3.size)) HRX.out.1 6 _ rfl, range_below HRX.out.2 (hbW3.trans (hV.mono hbW3.size)) HRX.out.1 7 _ rfl, range_below HRX.out.2 (hbW3.trans (hV.mono hbW3.size)) HRX.out.1 8 _ rfl, range_below HRX.out.2 (hbW3.trans (hV.mono hbW3.size)) HRX.out.1 9 _ rfl, hV⟩
                    clear hcell hy hgB hcm
                    obtain ⟨A, HAl⟩ : ∃ A, Hid (A = alkJ y x.msg) := ⟨_, rfl⟩
                    obtain ⟨fy, HFY⟩ : ∃ fy, Hid (fy = y.free) := ⟨_, rfl⟩
                    have HGS : Hid (goodJ x.msg t (L.take (j + 1)) = if nxt x.msg.st y = true then (g || (decide (n = t) && A)) else g) := by show _ = _; rw [HTK.out, goodJ_snoc, ← HGD.out, ← HAl.out, show (L.take j).countP (nxt x.msg.st) = n from HNN.out.symm]
                    have hbD : Below w3.heap.size w3 wr.drew := hbk2.drew
                    obtain ⟨y0, y1, y2, y3, y4, X0, X1, X2, X3, X4, X5, X6, X7, X8, X9, _⟩ := HYA.out _ hbk2
                    go_wp2_with fail
                    go_region_held3 (fun V => V.cell? ⟨g0, j * 5, none⟩ = some (.int .u16 (y.st : Nat)) ∧ V.cell? ⟨g0, j * 5 + 1, none⟩ = some (.int .u16 (y.ssn : Nat)) ∧ V.cell? ⟨g0, j * 5 + 2, none⟩ = some (.int .u32 (y.pp : Nat)) ∧ V.cell? ⟨g0, j * 5 + 3, none⟩ = some (.bool y.free) ∧ V.cell? ⟨g0, j * 5 + 4, none⟩ = some (.slice y.a y.n y.c) ∧ V.cell? ⟨bx, 0, none⟩ = some (.int .i64 x.is) ∧ V.cell? ⟨bx, 1, none⟩ = some (.int .i64 x.host) ∧ V.cell? ⟨bx, 2, none⟩ = some (.int .u32 (x.own : Nat)) ∧ V.cell? ⟨bx, 3, none⟩ = some (.int .u32 (x.peer : Nat)) ∧ V.cell? ⟨bx, 4, none⟩ = some (.int .u16 (x.mst : Nat)) ∧ V.cell? ⟨bx, 5, none⟩ = some (.int .u16 (x.mssn : Nat)) ∧ V.cell? ⟨bx, 6, none⟩ = some (.int .u32 (x.mpp : Nat)) ∧ V.cell? ⟨bx, 7, none⟩ = some (.bool x.mfree) ∧ V.cell? ⟨bx, 8, none⟩ = some (.slice x.mdA x.mdN x.mdC) ∧ V.cell? ⟨bx, 9, none⟩ = some (.int .i64 x.note) ∧ Below w3.heap.size w3 V) (first | exact HYA.out _ (by assumption)) (first
                      | (go_at_call 17; refine (alike_any y x.msg _ (HYO.out _ hbD).1 (HYO.out _ hbD).2 _ _ (by rfl) (by rfl)).mono ?_; rintro e w7 ⟨he, hb7⟩; obtain rfl : e = .returned (.bool A) := (by rw [HAl.out]; exact he); clear he; have hb37 := hbD.trans (hb7.mono hbD.size))
                      | fail)
                    all_goals
                      clear hbD hb7 hbk2
                      clear y0 y1 y2 y3 y4 X0 X1 X2 X3 X4 X5 X6 X7 X8 X9
                      simp only [Exit.then]
                      cases A
                      · obtain ⟨y0, y1, y2, y3, y4, X0, X1, X2, X3, X4, X5, X6, X7, X8, X9, _⟩ := HYA.out _ hb37
                        rw [← HFY.out] at y3
                        cases fy
                        · have qn : (!y.free) = true := by rw [← HFY.out]; rfl
                          by_cases cs : y.st = x.mst
                          · have qs : ((y.st : Int) == (x.mst : Int)) = true := by simp [cs]
                            have HNX : Hid (nxt x.mst y = true) := by show nxt _ _ = true; unfold nxt; rw [← HFY.out]; exact decide_eq_true cs
                            have HNY : Hid (nxt x.msg.st y = true) := HNX.out
                            clear cs
                            go_wp2_with fail
                            go_quiet (fail)
                            obtain ⟨W8, hW8⟩ : ∃ W8, W8 = w7.drewN nq := ⟨_, rfl⟩
                            rw [← hW8]
                            have hb38 : Below w3.heap.size w3 W8 := by rw [hW8]; exact hb37.trans ((below_drewN (Below.refl _ _) nq).mono hb37.size)
                            clear hW8
                            simp only [Exit.then]
                            clear y0 y1 y2 y3 y4 X0 X1 X2 X3 X4 X5 X6 X7 X8 X9
                            clear hb37
                            cases g
                            · by_cases ct : n = t
                              · have qt : ((n : Int) == (t : Int)) = true := by simp [ct]
                                have HCT := (show Hid _ from ct)
                                clear ct
                                have hbD : Below w3.heap.size w3 W8.drew := hb38.drew
                                go_wp2_with fail
                                go_region_held3 (fun V => V.cell? ⟨g0, j * 5, none⟩ = some (.int .u16 (y.st : Nat)) ∧ V.cell? ⟨g0, j * 5 + 1, none⟩ = some (.int .u16 (y.ssn : Nat)) ∧ V.cell? ⟨g0, j * 5 + 2, none⟩ = some (.int .u32 (y.pp : Nat)) ∧ V.cell? ⟨g0, j * 5 + 3, none⟩ = some (.bool y.free) ∧ V.cell? ⟨g0, j * 5 + 4, none⟩ = some (.slice y.a y.n y.c) ∧ V.cell? ⟨bx, 0, none⟩ = some (.int .i64 x.is) ∧ V.cell? ⟨bx, 1, none⟩ = some (.int .i64 x.host) ∧ V.cell? ⟨bx, 2, none⟩ = some (.int .u32 (x.own : Nat)) ∧ V.cell? ⟨bx, 3, none⟩ = some (.int .u32 (x.peer : Nat)) ∧ V.cell? ⟨bx, 4, none⟩ = some (.int .u16 (x.mst : Nat)) ∧ V.cell? ⟨bx, 5, none⟩ = some (.int .u16 (x.mssn : Nat)) ∧ V.cell? ⟨bx, 6, none⟩ = some (.int .u32 (x.mpp : Nat)) ∧ V.cell? ⟨bx, 7, none⟩ = some (.bool x.mfree) ∧ V.cell? ⟨bx, 8, none⟩ = some (.slice x.mdA x.mdN x.mdC) ∧ V.cell? ⟨bx, 9, none⟩ = some (.int .i64 x.note) ∧ Below w3.heap.size w3 V) (first | exact HYA.out _ (by assumption)) (first
                                  | (go_at_call 17; refine (alike_any y x.msg _ (HYO.out _ hbD).1 (HYO.out _ hbD).2 _ _ (by rfl) (by rfl)).mono ?_; rintro e w9 ⟨he, hb9⟩; obtain rfl : e = .returned (.bool false) := (by rw [HAl.out]; exact he); clear he; have hb39 := hbD.trans (hb9.mono hbD.size))
                                  | fail)
                                all_goals
                                  clear hbD hb9
                                  simp only [Exit.then]
                                  go_wp2
                                  go_roundw
                                  case rel => exact ⟨j + 1, b, n + 1, false, by first | rfl | go_num, by first | rfl | go_num, by first | rfl | simp, by go_num, by omega, by omega, by omega, by rw [HTK.out, List.countP_append, ← HBE.out, List.countP_singleton]; show _ = b + (if alkJ y x.msg = true then 1 else 0); rw [← HAl.out]; rfl, by rw [HTK.out, List.countP_append, ← HNN.out, List.countP_singleton, HNX.out]; rfl, by rw [HGS.out, if_pos HNY.out, decide_eq_true HCT.out]; rfl, hb39⟩
                                  case measure => simp [intOf]; omega
                              · have qt : ((n : Int) == (t : Int)) = false := by simp; omega
                                have HCT := (show Hid _ from ct)
                                clear ct
                                go_wp2_with fail
                                go_quiet (fail)
                                obtain ⟨W9, hW9⟩ : ∃ W9, W9 = W8.drewN nq := ⟨_, rfl⟩
                                rw [← hW9]
                                have hb39 : Below w3.heap.size w3 W9 := by rw [hW9]; exact hb38.trans ((below_drewN (Below.refl _ _) nq).mono hb38.size)
                                clear hW9
                                simp only [Exit.then]
                                go_wp2
                                go_roundw
                                case rel => exact ⟨j + 1, b, n + 1, false, by first | rfl | go_num, by first | rfl | go_num, by first | rfl | simp, by go_num, by omega, by omega, by omega, by rw [HTK.out, List.countP_append, ← HBE.out, List.countP_singleton]; show _ = b + (if alkJ y x.msg = true then 1 else 0); rw [← HAl.out]; rfl, by rw [HTK.out, List.countP_append, ← HNN.out, List.countP_singleton, HNX.out]; rfl, by rw [HGS.out, if_pos HNY.out, decide_eq_false HCT.out]; rfl, hb39⟩
                                case measure => simp [intOf]; omega
                            · go_wp2_with fail
                              go_quiet (fail)
                              obtain ⟨W9, hW9⟩ : ∃ W9, W9 = W8.drewN nq := ⟨_, rfl⟩
                              rw [← hW9]
                              have hb39 : Below w3.heap.size w3 W9 := by rw [hW9]; exact hb38.trans ((below_drewN (Below.refl _ _) nq).mono hb38.size)
                              clear hW9
                              simp only [Exit.then]
                              go_wp2
                              go_roundw
                              case rel => exact ⟨j + 1, b, n + 1, true, by first | rfl | go_num, by first | rfl | go_num, by first | rfl | simp, by go_num, by omega, by omega, by omega, by rw [HTK.out, List.countP_append, ← HBE.out, List.countP_singleton]; show _ = b + (if alkJ y x.msg = true then 1 else 0); rw [← HAl.out]; rfl, by rw [HTK.out, List.countP_append, ← HNN.out, List.countP_singleton, HNX.out]; rfl, by rw [HGS.out, if_pos HNY.out]; rfl, hb39⟩
                              case measure => simp [intOf]; omega
                          · have qs : ((y.st : Int) == (x.mst : Int)) = false := by simp; omega
                            have HNX : Hid (nxt x.mst y = false) := by show nxt _ _ = false; unfold nxt; simp; intro _; exact cs
                            have HNY : Hid (nxt x.msg.st y = false) := HNX.out
                            clear cs
                            go_wp2_with fail
                            go_quiet (fail)
                            obtain ⟨W8, hW8⟩ : ∃ W8, W8 = w7.drewN nq := ⟨_, rfl⟩
                            rw [← hW8]
                            have hb38 : Below w3.heap.size w3 W8 := by rw [hW8]; exact hb37.trans ((below_drewN (Below.refl _ _) nq).mono hb37.size)
                            clear hW8
                            simp only [Exit.then]
                            go_wp2
                            go_roundw
                            case rel => exact ⟨j + 1, b, n, g, by first | rfl | go_num, by first | rfl | go_num, by first | rfl | simp, by go_num, by omega, by omega, by omega, by rw [HTK.out, List.countP_append, ← HBE.out, List.countP_singleton]; show _ = b + (if alkJ y x.msg = true then 1 else 0); rw [← HAl.out]; rfl, by rw [HTK.out, List.countP_append, ← HNN.out, List.countP_singleton, HNX.out]; rfl, by rw [HGS.out, if_neg (by rw [HNY.out]; simp)], hb38⟩
                            case measure => simp [intOf]; omega
                        · have qn : (!y.free) = false := by rw [← HFY.out]; rfl
                          have HNX : Hid (nxt x.mst y = false) := by show nxt _ _ = false; unfold nxt; rw [← HFY.out]; rfl
                          have HNY : Hid (nxt x.msg.st y = false) := HNX.out
                          go_wp2_with fail
                          go_quiet (fail)
                          obtain ⟨W8, hW8⟩ : ∃ W8, W8 = w7.drewN nq := ⟨_, rfl⟩
                          rw [← hW8]
                          have hb38 : Below w3.heap.size w3 W8 := by rw [hW8]; exact hb37.trans ((below_drewN (Below.refl _ _) nq).mono hb37.size)
                          clear hW8
                          simp only [Exit.then]
                          go_wp2
                          go_roundw
                          case rel => exact ⟨j + 1, b, n, g, by first | rfl | go_num, by first | rfl | go_num, by first | rfl | simp, by go_num, by omega, by omega, by omega, by rw [HTK.out, List.countP_append, ← HBE.out, List.countP_singleton]; show _ = b + (if alkJ y x.msg = true then 1 else 0); rw [← HAl.out]; rfl, by rw [HTK.out, List.countP_append, ← HNN.out, List.countP_singleton, HNX.out]; rfl, by rw [HGS.out, if_neg (by rw [HNY.out]; simp)], hb38⟩
                          case measure => simp [intOf]; omega
                      · obtain ⟨y0, y1, y2, y3, y4, X0, X1, X2, X3, X4, X5, X6, X7, X8, X9, _⟩ := HYA.out _ hb37
                        rw [← HFY.out] at y3
                        cases fy
                        · have qn : (!y.free) = true := by rw [← HFY.out]; rfl
                          by_cases cs : y.st = x.mst
                          · have qs : ((y.st : Int) == (x.mst : Int)) = true := by simp [cs]
                            have HNX : Hid (nxt x.mst y = true) := by show nxt _ _ = true; unfold nxt; rw [← HFY.out]; exact decide_eq_true cs
                            have HNY : Hid (nxt x.msg.st y = true) := HNX.out
                            clear cs
                            go_wp2_with fail
                            go_quiet (fail)
                            obtain ⟨W8, hW8⟩ : ∃ W8, W8 = w7.drewN nq := ⟨_, rfl⟩
                            rw [← hW8]
                            have hb38 : Below w3.heap.size w3 W8 := by rw [hW8]; exact hb37.trans ((below_drewN (Below.refl _ _) nq).mono hb37.size)
                            clear hW8
                            simp only [Exit.then]
                            clear y0 y1 y2 y3 y4 X0 X1 X2 X3 X4 X5 X6 X7 X8 X9
                            clear hb37
                            cases g
                            · by_cases ct : n = t
                              · have qt : ((n : Int) == (t : Int)) = true := by simp [ct]
                                have HCT := (show Hid _ from ct)
                                clear ct
                                have hbD : Below w3.heap.size w3 W8.drew := hb38.drew
                                go_wp2_with fail
                                go_region_held3 (fun V => V.cell? ⟨g0, j * 5, none⟩ = some (.int .u16 (y.st : Nat)) ∧ V.cell? ⟨g0, j * 5 + 1, none⟩ = some (.int .u16 (y.ssn : Nat)) ∧ V.cell? ⟨g0, j * 5 + 2, none⟩ = some (.int .u32 (y.pp : Nat)) ∧ V.cell? ⟨g0, j * 5 + 3, none⟩ = some (.bool y.free) ∧ V.cell? ⟨g0, j * 5 + 4, none⟩ = some (.slice y.a y.n y.c) ∧ V.cell? ⟨bx, 0, none⟩ = some (.int .i64 x.is) ∧ V.cell? ⟨bx, 1, none⟩ = some (.int .i64 x.host) ∧ V.cell? ⟨bx, 2, none⟩ = some (.int .u32 (x.own : Nat)) ∧ V.cell? ⟨bx, 3, none⟩ = some (.int .u32 (x.peer : Nat)) ∧ V.cell? ⟨bx, 4, none⟩ = some (.int .u16 (x.mst : Nat)) ∧ V.cell? ⟨bx, 5, none⟩ = some (.int .u16 (x.mssn : Nat)) ∧ V.cell? ⟨bx, 6, none⟩ = some (.int .u32 (x.mpp : Nat)) ∧ V.cell? ⟨bx, 7, none⟩ = some (.bool x.mfree) ∧ V.cell? ⟨bx, 8, none⟩ = some (.slice x.mdA x.mdN x.mdC) ∧ V.cell? ⟨bx, 9, none⟩ = some (.int .i64 x.note) ∧ Below w3.heap.size w3 V) (first | exact HYA.out _ (by assumption)) (first
                                  | (go_at_call 17; refine (alike_any y x.msg _ (HYO.out _ hbD).1 (HYO.out _ hbD).2 _ _ (by rfl) (by rfl)).mono ?_; rintro e w9 ⟨he, hb9⟩; obtain rfl : e = .returned (.bool true) := (by rw [HAl.out]; exact he); clear he; have hb39 := hbD.trans (hb9.mono hbD.size))
                                  | fail)
                                all_goals
                                  clear hbD hb9
                                  simp only [Exit.then]
                                  go_wp2
                                  go_roundw
                                  case rel => exact ⟨j + 1, b + 1, n + 1, true, by first | rfl | go_num, by first | rfl | go_num, by first | rfl | simp, by go_num, by omega, by omega, by omega, by rw [HTK.out, List.countP_append, ← HBE.out, List.countP_singleton]; show _ = b + (if alkJ y x.msg = true then 1 else 0); rw [← HAl.out]; rfl, by rw [HTK.out, List.countP_append, ← HNN.out, List.countP_singleton, HNX.out]; rfl, by rw [HGS.out, if_pos HNY.out, decide_eq_true HCT.out]; rfl, hb39⟩
                                  case measure => simp [intOf]; omega
                              · have qt : ((n : Int) == (t : Int)) = false := by simp; omega
                                have HCT := (show Hid _ from ct)
                                clear ct
                                go_wp2_with fail
                                go_quiet (fail)
                                obtain ⟨W9, hW9⟩ : ∃ W9, W9 = W8.drewN nq := ⟨_, rfl⟩
                                rw [← hW9]
                                have hb39 : Below w3.heap.size w3 W9 := by rw [hW9]; exact hb38.trans ((below_drewN (Below.refl _ _) nq).mono hb38.size)
                                clear hW9
                                simp only [Exit.then]
                                go_wp2
                                go_roundw
                                case rel => exact ⟨j + 1, b + 1, n + 1, false, by first | rfl | go_num, by first | rfl | go_num, by first | rfl | simp, by go_num, by omega, by omega, by omega, by rw [HTK.out, List.countP_append, ← HBE.out, List.countP_singleton]; show _ = b + (if alkJ y x.msg = true then 1 else 0); rw [← HAl.out]; rfl, by rw [HTK.out, List.countP_append, ← HNN.out, List.countP_singleton, HNX.out]; rfl, by rw [HGS.out, if_pos HNY.out, decide_eq_false HCT.out]; rfl, hb39⟩
                                case measure => simp [intOf]; omega
                            · go_wp2_with fail
                              go_quiet (fail)
                              obtain ⟨W9, hW9⟩ : ∃ W9, W9 = W8.drewN nq := ⟨_, rfl⟩
                              rw [← hW9]
                              have hb39 : Below w3.heap.size w3 W9 := by rw [hW9]; exact hb38.trans ((below_drewN (Below.refl _ _) nq).mono hb38.size)
                              clear hW9
                              simp only [Exit.then]
                              go_wp2
                              go_roundw
                              case rel => exact ⟨j + 1, b + 1, n + 1, true, by first | rfl | go_num, by first | rfl | go_num, by first | rfl | simp, by go_num, by omega, by omega, by omega, by rw [HTK.out, List.countP_append, ← HBE.out, List.countP_singleton]; show _ = b + (if alkJ y x.msg = true then 1 else 0); rw [← HAl.out]; rfl, by rw [HTK.out, List.countP_append, ← HNN.out, List.countP_singleton, HNX.out]; rfl, by rw [HGS.out, if_pos HNY.out]; rfl, hb39⟩
                              case measure => simp [intOf]; omega
                          · have qs : ((y.st : Int) == (x.mst : Int)) = false := by simp; omega
                            have HNX : Hid (nxt x.mst y = false) := by show nxt _ _ = false; unfold nxt; simp; intro _; exact cs
                            have HNY : Hid (nxt x.msg.st y = false) := HNX.out
                            clear cs
                            go_wp2_with fail
                            go_quiet (fail)
                            obtain ⟨W8, hW8⟩ : ∃ W8, W8 = w7.drewN nq := ⟨_, rfl⟩
                            rw [← hW8]
                            have hb38 : Below w3.heap.size w3 W8 := by rw [hW8]; exact hb37.trans ((below_drewN (Below.refl _ _) nq).mono hb37.size)
                            clear hW8
                            simp only [Exit.then]
                            go_wp2
                            go_roundw
                            case rel => exact ⟨j + 1, b + 1, n, g, by first | rfl | go_num, by first | rfl | go_num, by first | rfl | simp, by go_num, by omega, by omega, by omega, by rw [HTK.out, List.countP_append, ← HBE.out, List.countP_singleton]; show _ = b + (if alkJ y x.msg = true then 1 else 0); rw [← HAl.out]; rfl, by rw [HTK.out, List.countP_append, ← HNN.out, List.countP_singleton, HNX.out]; rfl, by rw [HGS.out, if_neg (by rw [HNY.out]; simp)], hb38⟩
                            case measure => simp [intOf]; omega
                        · have qn : (!y.free) = false := by rw [← HFY.out]; rfl
                          have HNX : Hid (nxt x.mst y = false) := by show nxt _ _ = false; unfold nxt; rw [← HFY.out]; rfl
                          have HNY : Hid (nxt x.msg.st y = false) := HNX.out
                          go_wp2_with fail
                          go_quiet (fail)
                          obtain ⟨W8, hW8⟩ : ∃ W8, W8 = w7.drewN nq := ⟨_, rfl⟩
                          rw [← hW8]
                          have hb38 : Below w3.heap.size w3 W8 := by rw [hW8]; exact hb37.trans ((below_drewN (Below.refl _ _) nq).mono hb37.size)
                          clear hW8
                          simp only [Exit.then]
                          go_wp2
                          go_roundw
                          case rel => exact ⟨j + 1, b + 1, n, g, by first | rfl | go_num, by first | rfl | go_num, by first | rfl | simp, by go_num, by omega, by omega, by omega, by rw [HTK.out, List.countP_append, ← HBE.out, List.countP_singleton]; show _ = b + (if alkJ y x.msg = true then 1 else 0); rw [← HAl.out]; rfl, by rw [HTK.out, List.countP_append, ← HNN.out, List.countP_singleton, HNX.out]; rfl, by rw [HGS.out, if_neg (by rw [HNY.out]; simp)], hb38⟩
                          case measure => simp [intOf]; omega
                  · obtain rfl : sn = j := by omega
                    have hj1 : ¬ (sn : Int) < (sn : Int) := by omega
                    have HTL : Hid (L.take sn = L) := by show _ = _; exact List.take_of_length_le (by have := HLS.out; omega)
                    rw [HTL.out] at HBE HNN HGD
                    have hbWr := hbW3.trans (hbk2.mono hbW3.size)
                    have hb1r := hb1W.trans (hbWr.mono hb1W.size)
                    obtain ⟨X0, X1, X2, X3, X4, X5, X6, X7, X8, X9, _⟩ := HXC.out _ hbWr
                    obtain ⟨FR, HFR⟩ : ∃ FR, Hid (FR = x.mfree) := ⟨_, rfl⟩
                    rw [← HFR.out] at X7
                    cases FR
                    · obtain rfl : true = g := by rw [HGD.out]; exact (HGG.out HFR.out.symm).symm
                      go_wp2
                      go_roundw
                      case rel => exact ⟨i + 1, by go_num, by omega, hb1r⟩
                      case measure => simp [intOf]; omega
                    · have hlt : ¬ (b : Int) ≤ (s : Int) := by have h1 := HFF.out HFR.out.symm; rw [← HBE.out] at h1; omega
                      go_wp2
                      go_roundw
                      case rel => exact ⟨i + 1, by go_num, by omega, hb1r⟩
                      case measure => simp [intOf]; omega
end Go.Proofs.Ytpdnkbhgobdniaa
