/- Whatever ring, how often, and script: the walk of law07.RingRound ends with true. -/
import Derived.Test.YtmmbnikjlklflaaRgW
namespace Go.Proofs.Ytmmbnikjlklflaa
open Go.RowKit
theorem Two.fr {w w' : World} {B px gx py gy N gv gw tk d : Nat} {rs qs : List (Nat × List Nat)} (h : Two w B px gx py gy N gv gw tk d rs qs) (hb : Below w.heap.size w w') : Two w' B px gx py gy N gv gw tk d rs qs :=
  ⟨h.x.below hb, h.y.below hb, h.same, h.n1, h.n2, h.n3, h.n4⟩
theorem Two.len {w : World} {B px gx py gy N gv gw tk d : Nat} {rs qs : List (Nat × List Nat)} (h : Two w B px gx py gy N gv gw tk d rs qs) : qs.length = rs.length := by
  have := congrArg List.length h.same
  simpa using this.symm
theorem Two.fillE {w : World} {B px gx py gy N gv gw tk d : Nat} {rs qs : List (Nat × List Nat)} (h : Two w B px gx py gy N gv gw tk d rs qs) (zs : List Nat) : fillE N tk qs zs = fillE N tk rs zs := by
  unfold Go.Proofs.Ytmmbnikjlklflaa.fillE; rw [h.len]
theorem Two.keepY {w w' : World} {B px gx py gy N gv gw tk d : Nat} {rs qs : List (Nat × List Nat)} (h : Two w B px gx py gy N gv gw tk d rs qs) (hf : Fr (fun k => k = px ∨ k = gx) w w') : Rng w' B (fun k => k = px ∨ k = gx ∨ k = py ∨ k = gy) py gy N gw tk d qs :=
  h.y.fr hf (fun e => e.elim (fun e => h.n1 e.symm) (fun e => h.n3 e.symm)) (fun e => e.elim (fun e => h.n2 e.symm) (fun e => h.n4 e.symm)) (fun x hx e => (h.y.rlt x hx).2.1 (e.elim (fun e => .inl e) (fun e => .inr (.inl e))))
theorem keepY {w w' : World} {B px gx py gy N gw tk d : Nat} {qs : List (Nat × List Nat)} (h : Rng w B (fun k => k = px ∨ k = gx ∨ k = py ∨ k = gy) py gy N gw tk d qs) (n1 : px ≠ py) (n2 : px ≠ gy) (n3 : gx ≠ py) (n4 : gx ≠ gy) (hf : Fr (fun k => k = px ∨ k = gx) w w') : Rng w' B (fun k => k = px ∨ k = gx ∨ k = py ∨ k = gy) py gy N gw tk d qs :=
  h.fr hf (fun e => e.elim (fun e => n1 e.symm) (fun e => n3 e.symm)) (fun e => e.elim (fun e => n2 e.symm) (fun e => n4 e.symm)) (fun x hx e => (h.rlt x hx).2.1 (e.elim (fun e => .inl e) (fun e => .inr (.inl e))))
theorem Two.keepX {w w' : World} {B px gx py gy N gv gw tk d gv' tk' d' : Nat} {rs qs rs' : List (Nat × List Nat)} (h : Two w B px gx py gy N gv gw tk d rs qs) {w1 : World} (hx : Rng w1 B (fun k => k = px ∨ k = gx ∨ k = py ∨ k = gy) px gx N gv' tk' d' rs') (hf : Fr (fun k => k = py ∨ k = gy) w1 w') : Rng w' B (fun k => k = px ∨ k = gx ∨ k = py ∨ k = gy) px gx N gv' tk' d' rs' :=
  hx.fr hf (fun e => e.elim h.n1 h.n2) (fun e => e.elim h.n3 h.n4) (fun x hx1 e => (hx.rlt x hx1).2.1 (e.elim (fun e => .inr (.inr (.inl e))) (fun e => .inr (.inr (.inr e)))))
theorem takeB_same {rs qs : List (Nat × List Nat)} (h : rs.map (·.2) = qs.map (·.2)) : takeB qs = takeB rs ∧ takeE qs = takeE rs ∧ (qs = [] ↔ rs = []) ∧ rs.tail.map (·.2) = qs.tail.map (·.2) := by
  cases rs with
  | nil => cases qs with
    | nil => exact ⟨rfl, rfl, Iff.rfl, rfl⟩
    | cons q qs => simp at h
  | cons r rs => cases qs with
    | nil => simp at h
    | cons q qs =>
      simp at h
      refine ⟨?_, by simp [takeE], by simp, by simpa using h.2⟩
      simp [takeB, h.1]
set_option maxRecDepth 100000 in
set_option maxHeartbeats 4000000 in
theorem walk_RingRound (nn times : Nat) (a : Option Addr) (n c : Nat) (dd : List Dd) (w : World) (hnn : nn < 256) (htm : times < 256) (hl : SlG w a n c dd) :
    Calls Try.prog 6 #[.int .u8 (nn : Nat), .int .u8 (times : Nat), .slice a n c] w fun e w' => e = .returned (.bool true) ∧ Below w.heap.size w w' := by
  have hlen := hl.len
  have hsm := hl.small
  obtain ⟨N, hN⟩ : ∃ N, N = 1 + nn % 64 := ⟨_, rfl⟩
  have hN1 : 1 ≤ N := by omega
  have hN2 : N ≤ 64 := by omega
  have HN : Hid ((1 : Int) + (nn : Int) % 64 = (N : Int)) := by show _ = _; omega
  have hnew := fun W v hv => rnew_at N W hN1 hN2 v hv
  clear hN
  go_enter Try.func6, Try.ntmps6
  go_wp2_with fail
  refine (hnew _ _ (by rw [HN.out])).mono ?_
  rintro e w1 ⟨px, rfl, ⟨gx, hX1⟩, hb1⟩
  go_wp2_with fail
  refine (hnew _ _ (by rw [HN.out])).mono ?_
  rintro e w2 ⟨py, rfl, ⟨gy, hY2⟩, hb2⟩
  have hT2 : Two w2 w.heap.size px gx py gy N 0 0 0 0 [] [] := by
    have h1 := hX1.lt
    have h2 := hX1.glt
    have h3 := hY2.bp
    have h4 := hY2.bg
    have h5 := hY2.lt
    have h6 := hY2.glt
    exact ⟨(hX1.below hb2).setX _ (.inl rfl) (.inr (.inl rfl)) (fun k hk => by have := hb2.size; omega) (fun x hx => by cases hx), (hY2.rebase hb1.size).setX _ (.inr (.inr (.inl rfl))) (.inr (.inr (.inr rfl))) (fun k hk => by have := hb2.size; omega) (fun x hx => by cases hx), rfl, by omega, by omega, by omega, by omega⟩
  have hbel2 : Below w.heap.size w w2 := hb1.trans (hb2.mono hb1.size)
  clear hX1 hY2 hb1 hb2
  go_wp2
  go_loopw [12] (fun iv wr => ∃ (i gv : Nat), iv = .int .i64 (i : Nat) ∧ i ≤ times ∧ Two wr w.heap.size px gx py gy N gv 0 0 0 [] [] ∧ Below w.heap.size w wr) (fun iv _ => times - (intOf iv).toNat)
  case atStart => exact ⟨0, 0, rfl, by omega, hT2, hbel2⟩
  case round =>
    obtain ⟨i, gv, rfl, hi, hT, hbel⟩ := hrel
    clear hT2 hbel2
    by_cases hit : i < times
    · have hi1 : (i : Int) < (times : Int) := by omega
      obtain ⟨wa, hwa⟩ : ∃ wa, wa = wr.alloc (.cells #[.int .u8 1] 5) := ⟨_, rfl⟩
      have hba : Below wr.heap.size wr wa := by rw [hwa]; exact (Below.refl _ _).alloc (Nat.le_refl _) _
      have hsa : Sl wa (some ⟨wr.heap.size, 0, none⟩) 1 1 [1] := by rw [hwa]; exact sl_one wr 5 1 1 rfl (by omega)
      have hbwa := hbel.trans (hba.mono hbel.size)
      have hTa := hT.fr hba
      go_wp2_with fail
      rw [← hwa]
      clear hwa hT hba
      refine (fill_any _ _ px gx N gv 0 0 [] _ 1 1 [1] wa hTa.x hsa (by omega) hbwa.size).mono ?_
      rintro e w3 ⟨rfl, hf3, b, hb, hR3⟩
      have hE : fillE N 0 [] [1] = 0 := by unfold fillE; rw [if_neg (by simp), if_neg (by simp; omega)]
      rw [hE] at hR3 ⊢
      simp only [if_true, List.nil_append, show ¬ (0 : Nat) = 10 by omega, if_false] at hR3
      have hY3 := hTa.keepY hf3
      have hbw3 := hTa.x.frB hf3 hbwa (Nat.le_refl _)
      clear hsa hbwa hf3 hE hb
      go_wp2_with fail
      refine (take_some _ _ px gx N gv 0 0 b [1] [] w3 hR3).mono ?_
      rintro e w4 ⟨⟨c4, rfl, ho4⟩, hf4, hR4⟩
      have hY4 := keepY hY3 hTa.n1 hTa.n2 hTa.n3 hTa.n4 hf4
      have hbw4 := hR3.frB hf4 hbw3 (Nat.le_refl _)
      clear ho4 hf4 hR3 hY3 hbw3
      go_wp2_with fail
      refine (give_some _ _ px gx N gv 0 0 [] w4 hR4).mono ?_
      rintro e w5 ⟨rfl, hf5, hR5⟩
      have hY5 := keepY hY4 hTa.n1 hTa.n2 hTa.n3 hTa.n4 hf5
      have hbw5 := hR4.frB hf5 hbw4 (Nat.le_refl _)
      have hT5 : Two w5 w.heap.size px gx py gy N ((gv + 1) % N) 0 0 0 [] [] := ⟨hR5, hY5, rfl, hTa.n1, hTa.n2, hTa.n3, hTa.n4⟩
      clear hf5 hR4 hY4 hbw4 hR5 hY5 hTa
      go_wp2
      go_roundw
      case rel => exact ⟨i + 1, (gv + 1) % N, by go_num, by omega, hT5, hbw5⟩
      case measure => simp [intOf]; omega
    · have hi1 : ¬ (i : Int) < (times : Int) := by omega
      go_wp2
      go_loopw [13] (fun iv wr => ∃ (i gv gw tk d : Nat) (rs qs : List (Nat × List Nat)), iv = .int .i64 (i : Nat) ∧ i ≤ n ∧ i ≤ 200 ∧ d ≤ i ∧ Two wr w.heap.size px gx py gy N gv gw tk d rs qs ∧ Below w.heap.size w wr) (fun iv _ => n - (intOf iv).toNat)
      case atStart => exact ⟨0, gv, 0, 0, 0, [], [], rfl, by omega, by omega, by omega, hT, hbel⟩
      case round =>
        obtain ⟨j, gv2, gw, tk, d, rs, qs, rfl, hjn, hj200, hdj, hT, hbel⟩ := hrel
        have hd9 : d ≤ 1000000 := by omega
        have hBw := hbel.size
        by_cases hjl : j < n ∧ j < 200
        · obtain ⟨hjl, hjk⟩ := hjl
          obtain ⟨x, hx⟩ : ∃ x, dd[j]? = some x := ⟨_, List.getElem?_eq_getElem (by omega)⟩
          have hxm := List.mem_of_getElem? hx
          have hsl := ((hl.rows x hxm).1).below hbel
          have HSL : Hid (∀ W, Below w.heap.size w W → Sl W x.a x.n x.c x.zs) := fun W hW => ((hl.rows x hxm).1).below hW
          rcases hl.at_ with h0 | ⟨lb, off, rfl, hlt, hcell⟩
          · omega
          obtain ⟨c0, c1, c2⟩ := hcell j x hx
          have k0 := (hbel.cell (p := ⟨lb, off + j * 3, none⟩) hlt).trans c0
          have k1 := (hbel.cell (p := ⟨lb, off + j * 3 + 1, none⟩) hlt).trans c1
          have HK1 : Hid (∀ W, Below w.heap.size w W → W.cell? ⟨lb, off + j * 3 + 1, none⟩ = some (.slice x.a x.n x.c)) := fun W hW => (hW.cell (p := ⟨lb, off + j * 3 + 1, none⟩) hlt).trans c1
          have hj1 : (j : Int) < (n : Int) := by omega
          have hj2 : (j : Int) < 200 := by omega
          clear c0 c1 c2 hcell
          by_cases o0 : x.op = 0
          · rw [o0] at k0
            have HFE := (show Hid _ from hT.fillE x.zs)
            go_wp2
            go_region_held3 (fun w' => w'.cell? ⟨lb, off + j * 3 + 1, none⟩ = some (.slice x.a x.n x.c)) (first | assumption | exact HK1.out _ (by assumption) | exact HK1.out _ (hbel.trans ((Below.refl _ _).drew.mono hBw)) | go_keep) (first
              | (go_at_call 12; first
                | (refine (fill_at _ _ _ _ px gx N gv2 tk d rs x.a x.n x.c x.zs _ _ hT.x (by first | exact Below.refl _ _ | exact (Below.refl _ _).drew) hsl hd9 hBw (by rfl) (by rfl)).mono ?_; rintro e w3 ⟨rfl, hF3, b3, hb3, hX3⟩; have hY3 := hT.keepY hF3; have hbel3 := hT.x.frB hF3 hbel (Nat.le_refl _); have hsl3 := HSL.out _ hbel3)
                | (refine (fill_at _ _ _ _ py gy N gw tk d qs x.a x.n x.c x.zs _ _ hY3 (by first | exact Below.refl _ _ | exact (Below.refl _ _).drew) hsl3 hd9 hbel3.size (by rfl) (by rfl)).mono ?_; rintro e w4 ⟨rfl, hF4, b4, hb4, hY4⟩; rw [HFE.out] at hY4 ⊢; have hX4 := hT.keepX hX3 hF4; have hbel4 := hY3.frB hF4 hbel3 (Nat.le_refl _)))
              | fail)
            all_goals
              have HT4 : Hid (Two w4 w.heap.size px gx py gy N gv2 gw tk (if Go.Proofs.Ytmmbnikjlklflaa.fillE N tk rs x.zs = 10 then d + 1 else d) (if Go.Proofs.Ytmmbnikjlklflaa.fillE N tk rs x.zs = 0 then rs ++ [(b3, x.zs)] else rs) (if Go.Proofs.Ytmmbnikjlklflaa.fillE N tk rs x.zs = 0 then qs ++ [(b4, x.zs)] else qs)) := ⟨hX4, hY4, by split <;> simp [hT.same], hT.n1, hT.n2, hT.n3, hT.n4⟩
              have HB4 := (show Hid _ from hbel4)
              have HD4 : Hid ((if Go.Proofs.Ytmmbnikjlklflaa.fillE N tk rs x.zs = 10 then d + 1 else d) ≤ j + 1) := by show _ ≤ _; split <;> omega
              clear hX4 hY4 hX3 hY3 hbel3 hbel4 hF3 hF4 hsl3 hT hb3 hb4
              go_wp2
              go_roundw
              case rel => exact ⟨j + 1, gv2, gw, tk, _, _, _, by go_num, by omega, by omega, HD4.out, HT4.out, HB4.out⟩
              case measure => simp [intOf]; omega
          by_cases o1 : x.op = 1
          · rw [o1] at k0
            obtain ⟨tB, tE, tN, tT⟩ := takeB_same hT.same
            go_wp2_with fail
            refine (take_any _ _ px gx N gv2 tk d rs wr hT.x).mono ?_
            rintro e w3 ⟨⟨a3, n3, c3, rfl, hs3⟩, hF3, hX3⟩
            have hY3 := hT.keepY hF3
            have hbel3 := hT.x.frB hF3 hbel (Nat.le_refl _)
            go_wp2_with fail
            refine (take_any _ _ py gy N gw tk d qs w3 hY3).mono ?_
            rintro e w4 ⟨⟨a4, n4, c4, rfl, hs4⟩, hF4, hY4⟩
            have hX4 := hT.keepX hX3 hF4
            have hbel4 := hY3.frB hF4 hbel3 (Nat.le_refl _)
            rw [tB] at hs4
            rw [tE]
            have HCV : Hid (∀ W, Fr (fun k => k = px ∨ k = gx ∨ k = py ∨ k = gy) w4 W → (convert 33 9 (.slice a3 n3 c3)).run Try.prog W = .ok (.string (strOf (takeB rs))) W ∧ (convert 33 9 (.slice a4 n4 c4)).run Try.prog W = .ok (.string (strOf (takeB rs))) W) := by
              show ∀ _, _
              intro W hW
              exact ⟨conv_str (hs3 W (Fr.trans (hF4.mono (fun k _ hk => hk.elim (fun e => .inr (.inr (.inl e))) (fun e => .inr (.inr (.inr e))))) hW)), conv_str (hs4 W hW)⟩
            have HT4 : Hid (Two w4 w.heap.size px gx py gy N gv2 gw (if rs = [] then tk else tk + 1) d rs.tail qs.tail) := ⟨hX4, by
              by_cases hr : rs = []
              · rw [if_pos (tN.2 hr)] at hY4; rw [if_pos hr]; exact hY4
              · rw [if_neg (fun h => hr (tN.1 h))] at hY4; rw [if_neg hr]; exact hY4, tT, hT.n1, hT.n2, hT.n3, hT.n4⟩
            have HB4 := (show Hid _ from hbel4)
            clear hX4 hY4 hX3 hY3 hbel3 hbel4 hF3 hF4 hT hs3 hs4 tB tE tN tT
            generalize strOf (takeB rs) = st at *
            generalize takeE rs = te at *
            obtain ⟨cv1, cv2⟩ := HCV.out w4 (Fr.refl _ _)
            go_wp2
            all_goals
              go_roundw
              case rel => exact ⟨j + 1, _, _, _, d, _, _, by go_num, by omega, by omega, by omega, HT4.out, HB4.out⟩
              case measure => simp [intOf]; omega
          by_cases o2 : x.op = 2
          · rw [o2] at k0
            go_wp2_with fail
            refine (give_any _ _ px gx N gv2 tk d rs wr hT.x).mono ?_
            rintro e w3 ⟨rfl, hF3, hX3⟩
            have hY3 := hT.keepY hF3
            have hbel3 := hT.x.frB hF3 hbel (Nat.le_refl _)
            go_wp2_with fail
            refine (give_any _ _ py gy N gw tk d qs w3 hY3).mono ?_
            rintro e w4 ⟨rfl, hF4, hY4⟩
            have hX4 := hT.keepX hX3 hF4
            have hbel4 := hY3.frB hF4 hbel3 (Nat.le_refl _)
            all_goals
              have HT4 : Hid (Two w4 w.heap.size px gx py gy N (if tk = 0 then gv2 else (gv2 + 1) % N) (if tk = 0 then gw else (gw + 1) % N) (tk - 1) d rs qs) := ⟨hX4, hY4, hT.same, hT.n1, hT.n2, hT.n3, hT.n4⟩
              have HB4 := (show Hid _ from hbel4)
              clear hX4 hY4 hX3 hY3 hbel3 hbel4 hF3 hF4 hT
              generalize giveE tk = te at *
              go_wp2
              go_roundw
              case rel => exact ⟨j + 1, _, _, _, d, _, _, by go_num, by omega, by omega, by omega, HT4.out, HB4.out⟩
              case measure => simp [intOf]; omega
          · have HT4 := (show Hid _ from hT)
            have HB4 := (show Hid _ from hbel)
            go_wp2
            all_goals
              go_roundw
              case rel => exact ⟨j + 1, _, _, _, d, _, _, by go_num, by omega, by omega, by omega, HT4.out, HB4.out⟩
              case measure => simp [intOf]; omega
        · have hcx := count_any _ _ px gx N gv2 tk d rs wr hT.x
          have hcy := fun W (hW : Below wr.heap.size wr W) => count_any _ _ py gy N gw tk d qs W (hT.y.below hW)
          rw [hT.len] at hcy
          have hend : ∀ W, Below w.heap.size w W → Calls Try.prog 10 #[] W fun e w' => e = .returned (.bool true) ∧ Below w.heap.size w w' := fun W hW => (live7_any W).mono fun e w' ⟨h1, h2⟩ => ⟨h1, hW.trans (h2.mono hW.size)⟩
          by_cases hjl2 : j < n
          · have hj1 : (j : Int) < (n : Int) := by omega
            have hj2 : ¬ (j : Int) < 200 := by omega
            go_wp2_with fail
            refine hcx.mono ?_
            rintro e wA ⟨rfl, hbA⟩
            go_wp2_with fail
            refine (hcy wA hbA).mono ?_
            rintro e wB ⟨rfl, hbB⟩
            have hbw := hbel.trans ((hbA.trans (hbB.mono hbA.size)).mono hBw)
            go_wp2_with fail
            refine (hend wB hbw).mono ?_
            rintro e wC ⟨rfl, hbC⟩
            clear hcx hcy hend hT hbw hbA hbB hbel
            go_wp2
            go_ret
            exact ⟨by simp, hbC⟩
          · have hj1 : ¬ (j : Int) < (n : Int) := by omega
            go_wp2_with fail
            refine hcx.mono ?_
            rintro e wA ⟨rfl, hbA⟩
            go_wp2_with fail
            refine (hcy wA hbA).mono ?_
            rintro e wB ⟨rfl, hbB⟩
            have hbw := hbel.trans ((hbA.trans (hbB.mono hbA.size)).mono hBw)
            go_wp2_with fail
            refine (hend wB hbw).mono ?_
            rintro e wC ⟨rfl, hbC⟩
            clear hcx hcy hend hT hbw hbA hbB hbel
            go_wp2
            go_ret
            exact ⟨by simp, hbC⟩
end Go.Proofs.Ytmmbnikjlklflaa
