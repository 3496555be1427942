/- ref19.Left. -/
import Derived.Test.YtpdnkbhgobdniaaJdT
import Derived.BigQuiet
import Derived.WalkSmall
import Derived.Deep.QuietTactic
namespace Go.Proofs.Ytpdnkbhgobdniaa
open Go.RowKit Go.MapKept Go.Maps
/-- Does a message that was sent fit one that was told? -/
def fitsJ (m y : Mg) : Bool := decide (y.free = m.free) && (decide (y.st = m.st) && (!y.free || alkJ y m))
def othW (q : Sd) : Sd := (wrap64 (1 - q.1), q.2.2, q.2.1)
def leftStep (q : Sd) (L : List Mg) (x : Mk) : List Mg := if x.is = 2 ∧ ofJ x (othW q) = true then L.eraseP (fitsJ x.msg) else L
/-- What a side sent, and the other one was not told by the first i marks. -/
def leftTo (ds : List Mk) (q : Sd) (i : Nat) : List Mg := (ds.take i).foldl (leftStep q) (sentL ds q)
def leftJ (ds : List Mk) (q : Sd) : List Mg := leftTo ds q ds.length
theorem leftTo_succ (ds : List Mk) (q : Sd) (i : Nat) (x : Mk) (hx : ds[i]? = some x) : leftTo ds q (i + 1) = leftStep q (leftTo ds q i) x := by
  unfold leftTo
  have hj := (List.getElem?_eq_some_iff.1 hx).1
  rw [List.take_succ_eq_append_getElem hj, (List.getElem?_eq_some_iff.1 hx).2, List.foldl_append]
  rfl
theorem leftStep_sub (q : Sd) (L : List Mg) (x : Mk) : (leftStep q L x).Sublist L := by
  unfold leftStep
  split
  · exact List.eraseP_sublist
  · exact List.Sublist.refl _
theorem leftTo_sub (ds : List Mk) (q : Sd) : ∀ i, i ≤ ds.length → (leftTo ds q i).Sublist (sentL ds q) := by
  intro i
  induction i with
  | zero => intro _; exact List.Sublist.refl _
  | succ i ih =>
    intro hi
    rw [leftTo_succ ds q i _ (List.getElem?_eq_getElem (by omega))]
    exact (leftStep_sub q _ _).trans (ih (by omega))
theorem eraseP_snoc (p : Mg → Bool) (l : List Mg) (y : Mg) : (l ++ [y]).eraseP p = if l.any p = true then l.eraseP p ++ [y] else if p y = true then l.eraseP p else l.eraseP p ++ [y] := by
  by_cases h : l.any p = true
  · rw [if_pos h]
    obtain ⟨z, hz, hp⟩ := List.any_eq_true.1 h
    rw [List.eraseP_append_left hp _ hz]
  · rw [if_neg h]
    have hn : ∀ z ∈ l, ¬ p z = true := fun z hz hp => h (List.any_eq_true.2 ⟨z, hz, hp⟩)
    rw [List.eraseP_append_right _ hn, List.eraseP_of_forall_not hn]
    by_cases hy : p y = true
    · rw [if_pos hy]; simp [hy]
    · rw [if_neg hy]; simp [hy]
set_option maxRecDepth 100000 in
set_option maxHeartbeats 8000000 in
theorem rleft_any (a : Option Addr) (m c : Nat) (ds : List Mk) (q : Sd) (w : World) (hS : SlM w a m c ds) (hm : m ≤ 1000) (v : Value) (hv : v = .slice a m c) :
    Calls Try.prog 14 #[v, .int .i64 q.1, .int .u32 (q.2.1 : Nat), .int .u32 (q.2.2 : Nat)] w (RowM w (leftJ ds q)) := by
  subst hv
  have hlen := hS.len
  have HA : Hid (m = 0 ∨ ∃ lb off, a = some ⟨lb, off, none⟩ ∧ lb < w.heap.size ∧ ∀ i x, ds[i]? = some x → w.rangeAt lb (off + i * 10) x.vals) := by
    rcases hS.at_ with h0 | ⟨lb, off, e, hlt, hc⟩
    · exact .inl h0
    · exact .inr ⟨lb, off, e, hlt, fun i x hx j v hv => hc i x hx j v hv⟩
  have HS := (show Hid _ from hS)
  clear hS
  go_enter Try.func14, Try.ntmps14
  go_wp2_with fail
  refine (rsent_any a m c ds q w HS.out hm _ rfl).mono ?_
  rintro e w2 ⟨⟨sa, sn, sc, rfl, hO2⟩, hb2⟩
  have H2 := (show Hid _ from hO2)
  clear hO2
  go_wp2_with fail
  go_loopw [9, 10] (fun kv iv wr => ∃ (i : Nat) (la : Option Addr) (ln lc : Nat), kv = .slice la ln lc ∧ iv = .int .i64 (i : Nat) ∧ i ≤ m ∧ OwnG 41 5 Mg.cells wr w.heap.size la ln lc (leftTo ds q i) ∧ Below w.heap.size w wr) (fun _ iv _ => m - (intOf iv).toNat)
  case atStart => exact ⟨0, sa, sn, sc, rfl, rfl, by omega, H2.out, hb2⟩
  case round =>
    obtain ⟨i, la, ln, lc, rfl, rfl, him, hK, hbel⟩ := hrel
    clear H2 hb2
    by_cases hil : i < m
    · have hi1 : (i : Int) < (m : Int) := by omega
      have hi0 : (0 : Int) ≤ (i : Int) := by omega
      obtain ⟨x, hx⟩ : ∃ x, ds[i]? = some x := ⟨_, List.getElem?_eq_getElem (by omega)⟩
      rcases HA.out with h0 | ⟨lb, off, rfl, hlt, hM⟩
      · omega
      have hr := range_below (hM i x hx) hbel hlt
      have x0 : wr.cell? ⟨lb, off + i * 10, none⟩ = some (.int .i64 x.is) := hr 0 _ rfl
      have x1 : wr.cell? ⟨lb, off + i * 10 + 1, none⟩ = some (.int .i64 x.host) := hr 1 _ rfl
      have x2 : wr.cell? ⟨lb, off + i * 10 + 2, none⟩ = some (.int .u32 (x.own : Nat)) := hr 2 _ rfl
      have x3 : wr.cell? ⟨lb, off + i * 10 + 3, none⟩ = some (.int .u32 (x.peer : Nat)) := hr 3 _ rfl
      have x4 : wr.cell? ⟨lb, off + i * 10 + 4, none⟩ = some (.int .u16 (x.mst : Nat)) := hr 4 _ rfl
      have x5 : wr.cell? ⟨lb, off + i * 10 + 5, none⟩ = some (.int .u16 (x.mssn : Nat)) := hr 5 _ rfl
      have x6 : wr.cell? ⟨lb, off + i * 10 + 6, none⟩ = some (.int .u32 (x.mpp : Nat)) := hr 6 _ rfl
      have x7 : wr.cell? ⟨lb, off + i * 10 + 7, none⟩ = some (.bool x.mfree) := hr 7 _ rfl
      have x8 : wr.cell? ⟨lb, off + i * 10 + 8, none⟩ = some (.slice x.mdA x.mdN x.mdC) := hr 8 _ rfl
      have x9 : wr.cell? ⟨lb, off + i * 10 + 9, none⟩ = some (.int .i64 x.note) := hr 9 _ rfl
      have HN := (show Hid _ from leftTo_succ ds q i x hx)
      have HM0 := (show Hid _ from And.intro hlt (hM i x hx))
      have HXW : Hid (x.Wf w) := HS.out.wf x (List.mem_of_getElem? hx)
      have HK := (show Hid _ from hK)
      clear hM hr hx hK
      obtain ⟨B, HB⟩ : ∃ B, Hid (B = ofJ x (othW q)) := ⟨_, rfl⟩
      by_cases h2 : x.is = 2
      · have q2 : (x.is != 2) = false := by simpa using h2
        have H2 := (show Hid _ from h2)
        clear h2
        cases B
        · go_wp2_with (first | (go_at_call 16; refine (of19_any x _ q.2.2 q.2.1 _ _ rfl).mono ?_; rintro e w5 ⟨he, hb5⟩; obtain rfl : e = .returned (.bool false) := (by rw [HB.out]; exact he); clear he; have hb05 := hbel.trans (hb5.mono hbel.size); have HK5 := (show Hid _ from HK.out.below hb5)) | fail)
          go_roundw
          case rel => exact ⟨i + 1, la, ln, lc, rfl, by go_num, by omega, by rw [HN.out]; unfold leftStep; rw [if_neg (fun h => by rw [← HB.out] at h; exact absurd h.2 (by simp))]; exact HK5.out, hb05⟩
          case measure => simp [intOf]; omega
        · have HST : Hid (leftTo ds q (i + 1) = (leftTo ds q i).eraseP (fitsJ x.msg)) := by
            show _ = _
            rw [HN.out]
            unfold leftStep
            rw [if_pos ⟨H2.out, HB.out.symm⟩]
          have HSUB := (show Hid _ from leftTo_sub ds q i (by omega))
          generalize leftTo ds q i = L at HK HST HSUB
          go_wp2_with (first | (go_at_call 16; refine (of19_any x _ q.2.2 q.2.1 _ _ rfl).mono ?_; rintro e w5 ⟨he, hb5⟩; obtain rfl : e = .returned (.bool true) := (by rw [HB.out]; exact he); clear he; have hb05 := hbel.trans (hb5.mono hbel.size); have HK5 := (show Hid _ from HK.out.below hb5); clear x0 x1 x2 x3 x4 x5 x6 x7 x8 x9 HK hbel hb5) | fail)
          have H5 := (show Hid _ from OwnG.empty (T := 41) (k := 5) (cf := Mg.cells) w5)
          obtain ⟨P, hP⟩ : ∃ P, P = fitsJ x.msg := ⟨_, rfl⟩
          have HP := (show Hid _ from hP)
          have HLN : Hid (ln = L.length) := HK5.out.len.symm
          have hLm : ln ≤ 1000 := by
            have h1 := HSUB.out.length_le
            have h2 := sentL_len ds q
            have h3 := HLN.out
            omega
          rw [← hP] at HST
          clear hP
          go_loopw [11, 12, 13] (fun rv gv kv wr => ∃ (k : Nat) (ra : Option Addr) (rn rc : Nat) (gg : Bool), rv = .slice ra rn rc ∧ gv = .bool gg ∧ kv = .int .i64 (k : Nat) ∧ k ≤ ln ∧ OwnG 41 5 Mg.cells wr w5.heap.size ra rn rc ((L.take k).eraseP P) ∧ gg = (L.take k).any P ∧ Below w5.heap.size w5 wr) (fun _ _ kv _ => ln - (intOf kv).toNat)
          case atStart => exact ⟨0, _, 0, 0, false, rfl, rfl, rfl, by omega, H5.out, rfl, (Below.refl _ _).alloc (Nat.le_refl _) _⟩
          case round =>
            obtain ⟨k, ra, rn, rc, gg, rfl, rfl, rfl, hkl, hR, hg, hbk⟩ := hrel
            clear H5
            have HG := (show Hid _ from hg)
            have HR := (show Hid _ from hR)
            have hb0k := hb05.trans (hbk.mono hb05.size)
            clear hg hR
            by_cases hkn : k < ln
            · have hk1 : (k : Int) < (ln : Int) := by omega
              have hk0 : (0 : Int) ≤ (k : Int) := by omega
              obtain ⟨y, hy⟩ : ∃ y, L[k]? = some y := ⟨_, List.getElem?_eq_getElem (by have := HLN.out; omega)⟩
              have HTK : Hid (L.take (k + 1) = L.take k ++ [y]) := by
                show _ = _
                have hj := (List.getElem?_eq_some_iff.1 hy).1
                rw [List.take_succ_eq_append_getElem hj, (List.getElem?_eq_some_iff.1 hy).2]
              obtain ⟨g0, rfl, hgB, hgl, hlc, hcm, hcell, _⟩ := HK5.out.at_ mgLays.len (by omega)
              have HCY : Hid (w5.rangeAt g0 (k * 5) y.cells) := fun j u hu => hcell k y hy j u hu
              have HRX := (show Hid _ from And.intro HM0.out.1 (range_below HM0.out.2 hb0k HM0.out.1))
              have hrn : rn ≤ k := by
                have h1 := HR.out.len
                have h2 := (List.eraseP_sublist (p := P) (l := L.take k)).length_le
                have h3 : (L.take k).length ≤ k := List.length_take_le _ _
                omega
              have HYO : Hid (∀ V, Below w.heap.size w V → y.Ok V ∧ x.msg.Ok V) := fun V hV => by
                obtain ⟨x', hx', e⟩ := sentL_mem (HSUB.out.subset (List.mem_of_getElem? hy))
                rw [e]
                exact ⟨(HS.out.wf x' hx').msg.below hV, (Mk.Wf.msg HXW.out).below hV⟩
              clear hcell hy hgB hcm
              obtain ⟨F, HF⟩ : ∃ F, Hid (F = P y) := ⟨_, rfl⟩
              have HFE : Hid (F = fitsJ x.msg y) := by show _ = _; rw [HF.out, HP.out]
              have hry := range_below HCY.out hbk hgl
              have y0 : wr.cell? ⟨g0, k * 5, none⟩ = some (.int .u16 (y.st : Nat)) := hry 0 _ rfl
              have y1 : wr.cell? ⟨g0, k * 5 + 1, none⟩ = some (.int .u16 (y.ssn : Nat)) := hry 1 _ rfl
              have y2 : wr.cell? ⟨g0, k * 5 + 2, none⟩ = some (.int .u32 (y.pp : Nat)) := hry 2 _ rfl
              have y3 : wr.cell? ⟨g0, k * 5 + 3, none⟩ = some (.bool y.free) := hry 3 _ rfl
              have y4 : wr.cell? ⟨g0, k * 5 + 4, none⟩ = some (.slice y.a y.n y.c) := hry 4 _ rfl
              have x4 : wr.cell? ⟨lb, off + i * 10 + 4, none⟩ = some (.int .u16 (x.mst : Nat)) := HRX.out.2 4 _ rfl
              have x5 : wr.cell? ⟨lb, off + i * 10 + 5, none⟩ = some (.int .u16 (x.mssn : Nat)) := HRX.out.2 5 _ rfl
              have x6 : wr.cell? ⟨lb, off + i * 10 + 6, none⟩ = some (.int .u32 (x.mpp : Nat)) := HRX.out.2 6 _ rfl
              have x7 : wr.cell? ⟨lb, off + i * 10 + 7, none⟩ = some (.bool x.mfree) := HRX.out.2 7 _ rfl
              have x8 : wr.cell? ⟨lb, off + i * 10 + 8, none⟩ = some (.slice x.mdA x.mdN x.mdC) := HRX.out.2 8 _ rfl
              by_cases cf : y.free = x.mfree
              · have qf : (y.free == x.mfree) = true := by simpa using cf
                by_cases cs : y.st = x.mst
                · have qs : ((y.st : Int) == (x.mst : Int)) = true := by simp [cs]
                  cases hyf : (!y.free)
                  · have HFV0 := (show Hid _ from hyf)
                    obtain ⟨A, HAl⟩ : ∃ A, Hid (A = alkJ y x.msg) := ⟨_, rfl⟩
                    have HFA : Hid (F = A) := by show _ = _; rw [HFE.out, HAl.out]; unfold fitsJ; rw [show (!y.free) = false from hyf]; simp [Mk.msg, cf, cs]
                    have HALL : Hid (∀ V, Below w5.heap.size w5 V → V.cell? ⟨g0, k * 5, none⟩ = some (.int .u16 (y.st : Nat)) ∧ V.cell? ⟨g0, k * 5 + 1, none⟩ = some (.int .u16 (y.ssn : Nat)) ∧ V.cell? ⟨g0, k * 5 + 2, none⟩ = some (.int .u32 (y.pp : Nat)) ∧ V.cell? ⟨g0, k * 5 + 3, none⟩ = some (.bool y.free) ∧ V.cell? ⟨g0, k * 5 + 4, none⟩ = some (.slice y.a y.n y.c) ∧ V.cell? ⟨lb, off + i * 10 + 4, none⟩ = some (.int .u16 (x.mst : Nat)) ∧ V.cell? ⟨lb, off + i * 10 + 5, none⟩ = some (.int .u16 (x.mssn : Nat)) ∧ V.cell? ⟨lb, off + i * 10 + 6, none⟩ = some (.int .u32 (x.mpp : Nat)) ∧ V.cell? ⟨lb, off + i * 10 + 7, none⟩ = some (.bool x.mfree) ∧ V.cell? ⟨lb, off + i * 10 + 8, none⟩ = some (.slice x.mdA x.mdN x.mdC) ∧ Below w5.heap.size w5 V) := fun V hV => ⟨range_below HCY.out hV hgl 0 _ rfl, range_below HCY.out hV hgl 1 _ rfl, range_below HCY.out hV hgl 2 _ rfl, range_below HCY.out hV hgl 3 _ rfl, range_below HCY.out hV hgl 4 _ rfl, range_below HM0.out.2 (hb05.trans (hV.mono hb05.size)) HM0.out.1 4 _ rfl, range_below HM0.out.2 (hb05.trans (hV.mono hb05.size)) HM0.out.1 5 _ rfl, range_below HM0.out.2 (hb05.trans (hV.mono hb05.size)) HM0.out.1 6 _ rfl, range_below HM0.out.2 (hb05.trans (hV.mono hb05.size)) HM0.out.1 7 _ rfl, range_below HM0.out.2 (hb05.trans (hV.mono hb05.size)) HM0.out.1 8 _ rfl, hV⟩
                    have hbD : Below w5.heap.size w5 wr.drew := hbk.drew
                    clear cf cs
                    go_wp2_with fail
                    go_region_held3 (fun V => V.cell? ⟨g0, k * 5, none⟩ = some (.int .u16 (y.st : Nat)) ∧ V.cell? ⟨g0, k * 5 + 1, none⟩ = some (.int .u16 (y.ssn : Nat)) ∧ V.cell? ⟨g0, k * 5 + 2, none⟩ = some (.int .u32 (y.pp : Nat)) ∧ V.cell? ⟨g0, k * 5 + 3, none⟩ = some (.bool y.free) ∧ V.cell? ⟨g0, k * 5 + 4, none⟩ = some (.slice y.a y.n y.c) ∧ V.cell? ⟨lb, off + i * 10 + 4, none⟩ = some (.int .u16 (x.mst : Nat)) ∧ V.cell? ⟨lb, off + i * 10 + 5, none⟩ = some (.int .u16 (x.mssn : Nat)) ∧ V.cell? ⟨lb, off + i * 10 + 6, none⟩ = some (.int .u32 (x.mpp : Nat)) ∧ V.cell? ⟨lb, off + i * 10 + 7, none⟩ = some (.bool x.mfree) ∧ V.cell? ⟨lb, off + i * 10 + 8, none⟩ = some (.slice x.mdA x.mdN x.mdC) ∧ Below w5.heap.size w5 V) (first | exact HALL.out _ (by assumption)) (first
                      | (go_at_call 17; refine (alike_any y x.msg _ (HYO.out _ (hb05.trans (hbD.mono hb05.size))).1 (HYO.out _ (hb05.trans (hbD.mono hb05.size))).2 _ _ (by rfl) (by rfl)).mono ?_; rintro e w6 ⟨he, hb6⟩; obtain rfl : e = .returned (.bool A) := (by rw [HAl.out]; exact he); clear he; have hb56 := hbD.trans (hb6.mono hbD.size); have hbW : Below wr.heap.size wr w6 := ((Below.refl _ _).drew).trans hb6)
                      | fail)
                    all_goals
                      clear HALL hbD hb6 hb56
                      cases A
                      · have HFV : Hid (F = false) := HFA.out
                        have hbkW := hbk.trans (hbW.mono hbk.size)
                        have hb0W := hb0k.trans (hbW.mono hb0k.size)
                        have hry2 := range_below HCY.out hbkW hgl
                        have z0 := hry2 0 _ rfl
                        rw [Nat.add_zero] at z0
                        have z1 := hry2 1 _ rfl
                        have z2 := hry2 2 _ rfl
                        have z3 := hry2 3 _ rfl
                        have z4 := hry2 4 _ rfl
                        have HRW : Hid (OwnG 41 5 Mg.cells w6 w5.heap.size ra rn rc ((L.take k).eraseP P)) := HR.out.below hbW
                        have HRA : Hid (OwnG 41 5 Mg.cells (w6.alloc (.cells #[.int .u16 (y.st : Nat), .int .u16 (y.ssn : Nat), .int .u32 (y.pp : Nat), .bool y.free, .slice y.a y.n y.c] 41)) w5.heap.size ra rn rc ((L.take k).eraseP P)) := HRW.out.below ((Below.refl _ _).alloc (Nat.le_refl _) _)
                        have hbA : w5.heap.size ≤ (w6.alloc (.cells #[.int .u16 (y.st : Nat), .int .u16 (y.ssn : Nat), .int .u32 (y.pp : Nat), .bool y.free, .slice y.a y.n y.c] 41)).heap.size := Nat.le_trans hbkW.size (by simp)
                        clear hry2 hbW
                        simp only [Exit.then]
                        cases gg
                        · go_wp2_with (first | (at_builtin; refine OwnG.wpl mgLays rfl _ _ rfl rfl HRA.out y ⟨w6.heap.size, 0, none⟩ (by first | rfl | simp) (fun j u hu => by rw [Addr.add_mid]; exact range_new w6 y.cells 41 _ rfl j u hu) (by unfold maxLen; omega) (by omega) hbA ?_; intro g9 c9 w9 ho9 hg9 hl9 hlt9; have hb9 := hbkW.trans ((((Below.refl _ _).alloc (Nat.le_refl _) _).mono hbkW.size).trans (HRA.out.up hg9 hbA)); have H9 := (show Hid _ from And.intro ho9 hb9); clear ho9 hg9 hl9 hlt9 hb9) | fail)
                          go_roundw
                          case rel =>
                            refine ⟨k + 1, _, rn + 1, c9, false, rfl, rfl, by go_num, by omega, ?_, ?_, H9.out.2⟩
                            · rw [HTK.out, eraseP_snoc]
                              rw [if_neg (by rw [← HG.out]; simp), if_neg (by rw [← HF.out, HFV.out]; simp)]
                              exact H9.out.1
                            · rw [HTK.out, List.any_append, ← HG.out]
                              simp [← HF.out, HFV.out]
                          case measure => simp [intOf]; omega
                        · go_wp2_with (first | (at_builtin; refine OwnG.wpl mgLays rfl _ _ rfl rfl HRA.out y ⟨w6.heap.size, 0, none⟩ (by first | rfl | simp) (fun j u hu => by rw [Addr.add_mid]; exact range_new w6 y.cells 41 _ rfl j u hu) (by unfold maxLen; omega) (by omega) hbA ?_; intro g9 c9 w9 ho9 hg9 hl9 hlt9; have hb9 := hbkW.trans ((((Below.refl _ _).alloc (Nat.le_refl _) _).mono hbkW.size).trans (HRA.out.up hg9 hbA)); have H9 := (show Hid _ from And.intro ho9 hb9); clear ho9 hg9 hl9 hlt9 hb9) | fail)
                          go_roundw
                          case rel =>
                            refine ⟨k + 1, _, rn + 1, c9, true, rfl, rfl, by go_num, by omega, ?_, ?_, H9.out.2⟩
                            · rw [HTK.out, eraseP_snoc]
                              rw [if_pos HG.out.symm]
                              exact H9.out.1
                            · rw [HTK.out, List.any_append, ← HG.out]
                              simp [← HF.out, HFV.out]
                          case measure => simp [intOf]; omega
                      · have HFV : Hid (F = true) := HFA.out
                        have hbkW := hbk.trans (hbW.mono hbk.size)
                        have hb0W := hb0k.trans (hbW.mono hb0k.size)
                        have hry2 := range_below HCY.out hbkW hgl
                        have z0 := hry2 0 _ rfl
                        rw [Nat.add_zero] at z0
                        have z1 := hry2 1 _ rfl
                        have z2 := hry2 2 _ rfl
                        have z3 := hry2 3 _ rfl
                        have z4 := hry2 4 _ rfl
                        have HRW : Hid (OwnG 41 5 Mg.cells w6 w5.heap.size ra rn rc ((L.take k).eraseP P)) := HR.out.below hbW
                        have HRA : Hid (OwnG 41 5 Mg.cells (w6.alloc (.cells #[.int .u16 (y.st : Nat), .int .u16 (y.ssn : Nat), .int .u32 (y.pp : Nat), .bool y.free, .slice y.a y.n y.c] 41)) w5.heap.size ra rn rc ((L.take k).eraseP P)) := HRW.out.below ((Below.refl _ _).alloc (Nat.le_refl _) _)
                        have hbA : w5.heap.size ≤ (w6.alloc (.cells #[.int .u16 (y.st : Nat), .int .u16 (y.ssn : Nat), .int .u32 (y.pp : Nat), .bool y.free, .slice y.a y.n y.c] 41)).heap.size := Nat.le_trans hbkW.size (by simp)
                        clear hry2 hbW
                        simp only [Exit.then]
                        cases gg
                        · go_wp2
                          go_roundw
                          case rel =>
                            refine ⟨k + 1, ra, rn, rc, true, rfl, rfl, by go_num, by omega, ?_, ?_, hbkW⟩
                            · rw [HTK.out, eraseP_snoc, if_neg (by rw [← HG.out]; simp), if_pos (by rw [← HF.out]; exact HFV.out)]
                              exact HRW.out
                            · rw [HTK.out, List.any_append, ← HG.out]
                              simp [← HF.out, HFV.out]
                          case measure => simp [intOf]; omega
                        · go_wp2_with (first | (at_builtin; refine OwnG.wpl mgLays rfl _ _ rfl rfl HRA.out y ⟨w6.heap.size, 0, none⟩ (by first | rfl | simp) (fun j u hu => by rw [Addr.add_mid]; exact range_new w6 y.cells 41 _ rfl j u hu) (by unfold maxLen; omega) (by omega) hbA ?_; intro g9 c9 w9 ho9 hg9 hl9 hlt9; have hb9 := hbkW.trans ((((Below.refl _ _).alloc (Nat.le_refl _) _).mono hbkW.size).trans (HRA.out.up hg9 hbA)); have H9 := (show Hid _ from And.intro ho9 hb9); clear ho9 hg9 hl9 hlt9 hb9) | fail)
                          go_roundw
                          case rel =>
                            refine ⟨k + 1, _, rn + 1, c9, true, rfl, rfl, by go_num, by omega, ?_, ?_, H9.out.2⟩
                            · rw [HTK.out, eraseP_snoc]
                              rw [if_pos HG.out.symm]
                              exact H9.out.1
                            · rw [HTK.out, List.any_append, ← HG.out]
                              simp [← HF.out, HFV.out]
                          case measure => simp [intOf]; omega
                  · skip
                    have HFV : Hid (F = true) := by show _ = _; rw [HFE.out]; unfold fitsJ; rw [show (!y.free) = true from hyf]; simp [Mk.msg, cf, cs]
                    have hyf2 : y.free = false := by simpa using hyf
                    have hxf : x.mfree = false := by rw [← cf]; exact hyf2
                    have HYF := (show Hid _ from And.intro hyf cf)
                    clear qf hyf cf cs
                    go_wp2_with fail
                    go_quiet (fail)
                    clear hyf2 hxf
                    obtain ⟨W, hW⟩ : ∃ W, W = wr.drewN nq := ⟨_, rfl⟩
                    rw [← hW]
                    have hbW : Below wr.heap.size wr W := by rw [hW]; exact below_drewN (Below.refl _ _) nq
                    clear hW
                    have hbkW := hbk.trans (hbW.mono hbk.size)
                    have hb0W := hb0k.trans (hbW.mono hb0k.size)
                    have hry2 := range_below HCY.out hbkW hgl
                    have z0 := hry2 0 _ rfl
                    rw [Nat.add_zero] at z0
                    have z1 := hry2 1 _ rfl
                    have z2 := hry2 2 _ rfl
                    have z3 := hry2 3 _ rfl
                    have z4 := hry2 4 _ rfl
                    have HRW : Hid (OwnG 41 5 Mg.cells W w5.heap.size ra rn rc ((L.take k).eraseP P)) := HR.out.below hbW
                    have HRA : Hid (OwnG 41 5 Mg.cells (W.alloc (.cells #[.int .u16 (y.st : Nat), .int .u16 (y.ssn : Nat), .int .u32 (y.pp : Nat), .bool y.free, .slice y.a y.n y.c] 41)) w5.heap.size ra rn rc ((L.take k).eraseP P)) := HRW.out.below ((Below.refl _ _).alloc (Nat.le_refl _) _)
                    have hbA : w5.heap.size ≤ (W.alloc (.cells #[.int .u16 (y.st : Nat), .int .u16 (y.ssn : Nat), .int .u32 (y.pp : Nat), .bool y.free, .slice y.a y.n y.c] 41)).heap.size := Nat.le_trans hbkW.size (by simp)
                    clear hry2 hbW
                    simp only [Exit.then]
                    cases gg
                    · go_wp2
                      go_roundw
                      case rel =>
                        refine ⟨k + 1, ra, rn, rc, true, rfl, rfl, by go_num, by omega, ?_, ?_, hbkW⟩
                        · rw [HTK.out, eraseP_snoc, if_neg (by rw [← HG.out]; simp), if_pos (by rw [← HF.out]; exact HFV.out)]
                          exact HRW.out
                        · rw [HTK.out, List.any_append, ← HG.out]
                          simp [← HF.out, HFV.out]
                      case measure => simp [intOf]; omega
                    · go_wp2_with (first | (at_builtin; refine OwnG.wpl mgLays rfl _ _ rfl rfl HRA.out y ⟨W.heap.size, 0, none⟩ (by first | rfl | simp) (fun j u hu => by rw [Addr.add_mid]; exact range_new W y.cells 41 _ rfl j u hu) (by unfold maxLen; omega) (by omega) hbA ?_; intro g9 c9 w9 ho9 hg9 hl9 hlt9; have hb9 := hbkW.trans ((((Below.refl _ _).alloc (Nat.le_refl _) _).mono hbkW.size).trans (HRA.out.up hg9 hbA)); have H9 := (show Hid _ from And.intro ho9 hb9); clear ho9 hg9 hl9 hlt9 hb9) | fail)
                      go_roundw
                      case rel =>
                        refine ⟨k + 1, _, rn + 1, c9, true, rfl, rfl, by go_num, by omega, ?_, ?_, H9.out.2⟩
                        · rw [HTK.out, eraseP_snoc]
                          rw [if_pos HG.out.symm]
                          exact H9.out.1
                        · rw [HTK.out, List.any_append, ← HG.out]
                          simp [← HF.out, HFV.out]
                      case measure => simp [intOf]; omega
                · have qs : ((y.st : Int) == (x.mst : Int)) = false := by simp; omega
                  have HFV : Hid (F = false) := by show _ = _; rw [HFE.out]; unfold fitsJ; simp [Mk.msg, cs]
                  clear cf cs
                  go_wp2_with fail
                  go_quiet (fail)
                  obtain ⟨W, hW⟩ : ∃ W, W = wr.drewN nq := ⟨_, rfl⟩
                  rw [← hW]
                  have hbW : Below wr.heap.size wr W := by rw [hW]; exact below_drewN (Below.refl _ _) nq
                  clear hW
                  have hbkW := hbk.trans (hbW.mono hbk.size)
                  have hb0W := hb0k.trans (hbW.mono hb0k.size)
                  have hry2 := range_below HCY.out hbkW hgl
                  have z0 := hry2 0 _ rfl
                  rw [Nat.add_zero] at z0
                  have z1 := hry2 1 _ rfl
                  have z2 := hry2 2 _ rfl
                  have z3 := hry2 3 _ rfl
                  have z4 := hry2 4 _ rfl
                  have HRW : Hid (OwnG 41 5 Mg.cells W w5.heap.size ra rn rc ((L.take k).eraseP P)) := HR.out.below hbW
                  have HRA : Hid (OwnG 41 5 Mg.cells (W.alloc (.cells #[.int .u16 (y.st : Nat), .int .u16 (y.ssn : Nat), .int .u32 (y.pp : Nat), .bool y.free, .slice y.a y.n y.c] 41)) w5.heap.size ra rn rc ((L.take k).eraseP P)) := HRW.out.below ((Below.refl _ _).alloc (Nat.le_refl _) _)
                  have hbA : w5.heap.size ≤ (W.alloc (.cells #[.int .u16 (y.st : Nat), .int .u16 (y.ssn : Nat), .int .u32 (y.pp : Nat), .bool y.free, .slice y.a y.n y.c] 41)).heap.size := Nat.le_trans hbkW.size (by simp)
                  clear hry2 hbW
                  simp only [Exit.then]
                  cases gg
                  · go_wp2_with (first | (at_builtin; refine OwnG.wpl mgLays rfl _ _ rfl rfl HRA.out y ⟨W.heap.size, 0, none⟩ (by first | rfl | simp) (fun j u hu => by rw [Addr.add_mid]; exact range_new W y.cells 41 _ rfl j u hu) (by unfold maxLen; omega) (by omega) hbA ?_; intro g9 c9 w9 ho9 hg9 hl9 hlt9; have hb9 := hbkW.trans ((((Below.refl _ _).alloc (Nat.le_refl _) _).mono hbkW.size).trans (HRA.out.up hg9 hbA)); have H9 := (show Hid _ from And.intro ho9 hb9); clear ho9 hg9 hl9 hlt9 hb9) | fail)
                    go_roundw
                    case rel =>
                      refine ⟨k + 1, _, rn + 1, c9, false, rfl, rfl, by go_num, by omega, ?_, ?_, H9.out.2⟩
                      · rw [HTK.out, eraseP_snoc]
                        rw [if_neg (by rw [← HG.out]; simp), if_neg (by rw [← HF.out, HFV.out]; simp)]
                        exact H9.out.1
                      · rw [HTK.out, List.any_append, ← HG.out]
                        simp [← HF.out, HFV.out]
                    case measure => simp [intOf]; omega
                  · go_wp2_with (first | (at_builtin; refine OwnG.wpl mgLays rfl _ _ rfl rfl HRA.out y ⟨W.heap.size, 0, none⟩ (by first | rfl | simp) (fun j u hu => by rw [Addr.add_mid]; exact range_new W y.cells 41 _ rfl j u hu) (by unfold maxLen; omega) (by omega) hbA ?_; intro g9 c9 w9 ho9 hg9 hl9 hlt9; have hb9 := hbkW.trans ((((Below.refl _ _).alloc (Nat.le_refl _) _).mono hbkW.size).trans (HRA.out.up hg9 hbA)); have H9 := (show Hid _ from And.intro ho9 hb9); clear ho9 hg9 hl9 hlt9 hb9) | fail)
                    go_roundw
                    case rel =>
                      refine ⟨k + 1, _, rn + 1, c9, true, rfl, rfl, by go_num, by omega, ?_, ?_, H9.out.2⟩
                      · rw [HTK.out, eraseP_snoc]
                        rw [if_pos HG.out.symm]
                        exact H9.out.1
                      · rw [HTK.out, List.any_append, ← HG.out]
                        simp [← HF.out, HFV.out]
                    case measure => simp [intOf]; omega
              · have qf : (y.free == x.mfree) = false := by simpa using cf
                have HFV : Hid (F = false) := by show _ = _; rw [HFE.out]; unfold fitsJ; simp [Mk.msg, cf]
                go_wp2_with fail
                go_quiet (fail)
                obtain ⟨W, hW⟩ : ∃ W, W = wr.drewN nq := ⟨_, rfl⟩
                rw [← hW]
                have hbW : Below wr.heap.size wr W := by rw [hW]; exact below_drewN (Below.refl _ _) nq
                clear hW
                have hbkW := hbk.trans (hbW.mono hbk.size)
                have hb0W := hb0k.trans (hbW.mono hb0k.size)
                have hry2 := range_below HCY.out hbkW hgl
                have z0 := hry2 0 _ rfl
                rw [Nat.add_zero] at z0
                have z1 := hry2 1 _ rfl
                have z2 := hry2 2 _ rfl
                have z3 := hry2 3 _ rfl
                have z4 := hry2 4 _ rfl
                have HRW : Hid (OwnG 41 5 Mg.cells W w5.heap.size ra rn rc ((L.take k).eraseP P)) := HR.out.below hbW
                have HRA : Hid (OwnG 41 5 Mg.cells (W.alloc (.cells #[.int .u16 (y.st : Nat), .int .u16 (y.ssn : Nat), .int .u32 (y.pp : Nat), .bool y.free, .slice y.a y.n y.c] 41)) w5.heap.size ra rn rc ((L.take k).eraseP P)) := HRW.out.below ((Below.refl _ _).alloc (Nat.le_refl _) _)
                have hbA : w5.heap.size ≤ (W.alloc (.cells #[.int .u16 (y.st : Nat), .int .u16 (y.ssn : Nat), .int .u32 (y.pp : Nat), .bool y.free, .slice y.a y.n y.c] 41)).heap.size := Nat.le_trans hbkW.size (by simp)
                clear hry2 hbW
                simp only [Exit.then]
                cases gg
                · go_wp2_with (first | (at_builtin; refine OwnG.wpl mgLays rfl _ _ rfl rfl HRA.out y ⟨W.heap.size, 0, none⟩ (by first | rfl | simp) (fun j u hu => by rw [Addr.add_mid]; exact range_new W y.cells 41 _ rfl j u hu) (by unfold maxLen; omega) (by omega) hbA ?_; intro g9 c9 w9 ho9 hg9 hl9 hlt9; have hb9 := hbkW.trans ((((Below.refl _ _).alloc (Nat.le_refl _) _).mono hbkW.size).trans (HRA.out.up hg9 hbA)); have H9 := (show Hid _ from And.intro ho9 hb9); clear ho9 hg9 hl9 hlt9 hb9) | fail)
                  go_roundw
                  case rel =>
                    refine ⟨k + 1, _, rn + 1, c9, false, rfl, rfl, by go_num, by omega, ?_, ?_, H9.out.2⟩
                    · rw [HTK.out, eraseP_snoc]
                      rw [if_neg (by rw [← HG.out]; simp), if_neg (by rw [← HF.out, HFV.out]; simp)]
                      exact H9.out.1
                    · rw [HTK.out, List.any_append, ← HG.out]
                      simp [← HF.out, HFV.out]
                  case measure => simp [intOf]; omega
                · go_wp2_with (first | (at_builtin; refine OwnG.wpl mgLays rfl _ _ rfl rfl HRA.out y ⟨W.heap.size, 0, none⟩ (by first | rfl | simp) (fun j u hu => by rw [Addr.add_mid]; exact range_new W y.cells 41 _ rfl j u hu) (by unfold maxLen; omega) (by omega) hbA ?_; intro g9 c9 w9 ho9 hg9 hl9 hlt9; have hb9 := hbkW.trans ((((Below.refl _ _).alloc (Nat.le_refl _) _).mono hbkW.size).trans (HRA.out.up hg9 hbA)); have H9 := (show Hid _ from And.intro ho9 hb9); clear ho9 hg9 hl9 hlt9 hb9) | fail)
                  go_roundw
                  case rel =>
                    refine ⟨k + 1, _, rn + 1, c9, true, rfl, rfl, by go_num, by omega, ?_, ?_, H9.out.2⟩
                    · rw [HTK.out, eraseP_snoc]
                      rw [if_pos HG.out.symm]
                      exact H9.out.1
                    · rw [HTK.out, List.any_append, ← HG.out]
                      simp [← HF.out, HFV.out]
                  case measure => simp [intOf]; omega
            · obtain rfl : k = ln := by omega
              have hk1 : ¬ (k : Int) < (k : Int) := by omega
              go_wp2
              go_roundw
              case rel =>
                refine ⟨i + 1, ra, rn, rc, rfl, by go_num, by omega, ?_, hb0k⟩
                rw [HST.out]
                have hh := HR.out
                rw [List.take_of_length_le (by have := HLN.out; omega)] at hh
                exact hh.base hb05.size
              case measure => simp [intOf]; omega
      · have q2 : (x.is != 2) = true := by simpa using h2
        have H2 := (show Hid _ from h2)
        clear h2
        go_wp2
        go_roundw
        case rel => exact ⟨i + 1, la, ln, lc, rfl, by go_num, by omega, by rw [HN.out]; unfold leftStep; rw [if_neg (fun h => H2.out h.1)]; exact HK.out, hbel⟩
        case measure => simp [intOf]; omega
    · obtain rfl : i = m := by omega
      have hi1 : ¬ (i : Int) < (i : Int) := by omega
      have HK := (show Hid _ from hK)
      clear hK
      go_wp2
      go_ret
      have hh := HK.out
      rw [← hlen] at hh
      exact ⟨⟨la, ln, lc, rfl, hh⟩, hbel⟩
end Go.Proofs.Ytpdnkbhgobdniaa
