/- law07.do: a deed on both rings. -/
import Derived.Test.YtmmbnikjlklflaaRgB
import Derived.Laws.BitsAllLaws
namespace Go.Proofs.Ytmmbnikjlklflaa
open Go.RowKit
theorem OwnB.store {w : World} {B g n c : Nat} {zs : List Nat} (h : OwnB w B (some ⟨g, 0, none⟩) n c zs) (j x : Nat) (hx : x < 256) : OwnB (w.setCell ⟨g, j, none⟩ (.int .u8 (x : Nat))) B (some ⟨g, 0, none⟩) n c (zs.set j x) := by
  refine ⟨by rw [List.length_set]; exact h.len, ?_, fun i => ?_⟩
  · have := h.own.stored j (.int .u8 (x : Nat))
    have e : vals (zs.set j x) = (vals zs).set j (.int .u8 (x : Nat)) := by simp [vals, List.map_set]
    rw [e]
    exact this.1
  · simp only [List.getD_eq_getElem?_getD, List.getElem?_set]
    split
    · split
      · exact hx
      · exact Nat.zero_lt_succ _
    · have := h.bnd i
      rw [List.getD_eq_getElem?_getD] at this
      exact this
theorem OwnB.cell {w : World} {B g n c : Nat} {zs : List Nat} (h : OwnB w B (some ⟨g, 0, none⟩) n c zs) (j : Nat) (hj : j < n) : w.cell? ⟨g, j, none⟩ = some (.int .u8 (zs.getD j 0 : Nat)) := by
  rw [h.own.cellAt j (by omega), vals_at zs j (by rw [h.len]; exact hj)]
theorem OwnB.free {w : World} {B g n c : Nat} {zs : List Nat} (h : OwnB w B (some ⟨g, 0, none⟩) n c zs) (j : Nat) : w.frozen? ⟨g, j, none⟩ = false := h.own.frozenAt j
theorem xor1_lt (x : Nat) (h : x < 256) : x ^^^ 1 < 256 := Nat.xor_lt_two_pow (n := 8) h (by decide)
theorem Fr.far {P : Nat → Prop} {w w1 w2 : World} {o : Nat} (h : Fr P w w1) (k : Fr (· = o) w1 w2) (ho : w.heap.size ≤ o) : Fr P w w2 :=
  ⟨k.os.trans h.os, k.tape.trans h.tape, k.output.trans h.output, Nat.le_trans h.size k.size, fun i hi hn => (k.block i (Nat.lt_of_lt_of_le hi h.size) (fun e => by omega)).trans (h.block i hi hn)⟩
structure DoP (B p g q N d gn : Nat) (w : World) (e : Ending) (w' : World) : Prop where
  ret : e = .returned (.bool true)
  fr : Fr (XB p g q) w w'
  out : ∃ gv' gn' tk' d' rs', d' ≤ d + 1 ∧ gn' ≤ gn + 1 ∧ Bo w' B p g q N gv' gn' tk' d' rs'
theorem rfE_same (N tk : Nat) (rs : List (Nat × List Nat)) (zs : List Nat) : rfFillE N tk (rs.map (·.2)) zs = fillE N tk rs zs := by
  unfold rfFillE fillE; rw [List.length_map]
set_option maxRecDepth 100000 in
set_option maxHeartbeats 4000000 in
theorem do_fill (B p g q N gv gn tk d : Nat) (rs : List (Nat × List Nat)) (a : Option Addr) (n c : Nat) (zs : List Nat) (I : Int) (w0 w : World) (h : Bo w B p g q N gv gn tk d rs) (hw0 : Below w0.heap.size w0 w) (hB0 : w0.heap.size ≤ B) (hBw : B ≤ w.heap.size) (hs : Sl w0 a n c zs) (hc : c ≤ 140737488351232) (hd : d ≤ 1000000) :
    Calls Try.prog 19 #[.pointer (some ⟨p, 0, none⟩), .pointer (some ⟨q, 0, none⟩), .agg #[.int .i64 0, .slice a n c, .int .i64 I]] w (DoP B p g q N d gn w) := by
  have hcap := hs.cap
  have hl := hs.len
  obtain ⟨wA, hwA⟩ : ∃ wA, wA = w.alloc (.cells #[.int .i64 0, .slice a n c, .int .i64 I] 35) := ⟨_, rfl⟩
  have hbA : Below w.heap.size w wA := by rw [hwA]; exact (Below.refl _ _).alloc (Nat.le_refl _) _
  have hzA : wA.heap.size = w.heap.size + 1 := by rw [hwA]; simp
  have kA0 : wA.cell? ⟨w.heap.size, 0, none⟩ = some (.int .i64 0) := by rw [hwA, World.cell?_alloc_mark]; rfl
  have kA1 : wA.cell? ⟨w.heap.size, 1, none⟩ = some (.slice a n c) := by rw [hwA, World.cell?_alloc_mark]; rfl
  have hw0A := hw0.trans (hbA.mono hw0.size)
  have hsA := (hs.below hw0A).alloc (.cells #[] 5)
  have hoA := own_empty wA
  have kB1 : (wA.alloc (.cells #[] 5)).cell? ⟨w.heap.size, 1, none⟩ = some (.slice a n c) := by
    rw [((Below.refl wA.heap.size wA).alloc (Nat.le_refl _) (.cells #[] 5)).cell (p := ⟨w.heap.size, 1, none⟩) (by show w.heap.size < _; omega)]; exact kA1
  have hxr := h.x.below hbA
  have hpl := h.x.lt
  have hgl := h.x.glt
  have hz : (w.alloc (.cells #[.int .i64 0, .slice a n c, .int .i64 I] 35)).heap.size = w.heap.size + 1 := by simp
  rw [hwA] at hsA hoA
  rw [hz] at hoA
  go_enter Try.func19, Try.ntmps19
  go_wp2_with (at_builtin; go_must (refine app_list2 rfl _ _ rfl (w.heap.size + 1) _ 0 0 [] rfl hoA _ n c zs rfl hsA (by omega) (by simp) ?_))
  rw [← hwA]
  rw [← hwA] at hoA
  intro a1 c1 w1 ho1 hg1 _
  have ho1 : OwnB w1 wA.heap.size a1 n c1 zs := by rw [hzA]; simpa using ho1
  have hb1 : Below wA.heap.size wA w1 := ((Below.refl _ _).alloc (Nat.le_refl _) _).trans (by rw [hzA]; exact hoA.up hg1 (by simp; omega))
  obtain ⟨o, hao, ho1b, ho1l⟩ : ∃ o, (0 < n → a1 = some ⟨o, 0, none⟩) ∧ wA.heap.size ≤ o ∧ o < w1.heap.size := by
    by_cases hn0 : n = 0
    · exact ⟨wA.heap.size, fun h => by omega, Nat.le_refl _, by have := hg1.size; simp at this; omega⟩
    · rcases ho1.own.2 with ⟨_, h0⟩ | ⟨g1, cap, cur, hv, hB1, hh, _⟩
      · omega
      · injection hv with e1
        refine ⟨g1, fun _ => e1, hB1, ?_⟩
        subst e1
        exact ho1.blt.1
  have hbw1 : Below w.heap.size w w1 := hbA.trans (hb1.mono hbA.size)
  have k11 := (hb1.cell (p := ⟨w.heap.size, 1, none⟩) (by show w.heap.size < _; omega)).trans kA1
  clear hg1 hoA hsA kA0 kA1 kB1 hwA
  go_wp2_with fail
  refine (fill_any B _ p g N gv tk d rs a1 n c1 zs w1 (hxr.below hb1) (ho1.sl (by omega)) hd (Nat.le_trans hBw hbw1.size)).mono ?_
  rintro e w2 ⟨rfl, hF2, b2, hb2, hX2⟩
  have hFw2 : Fr (fun k => k = p ∨ k = g) w w2 := Fr.trans (Fr.of_below hbw1) hF2
  have k21 := (hF2.cell ⟨w.heap.size, 1, none⟩ (by show w.heap.size < _; have := hbw1.size; have := hb1.size; omega) (by show ¬ (w.heap.size = p ∨ w.heap.size = g); omega)).trans k11
  have ho2 : 0 < n → OwnB w2 wA.heap.size (some ⟨o, 0, none⟩) n c1 zs := fun hn => by
    rw [hao hn] at ho1
    exact ho1.fr hF2 (by omega)
  have hz2 := hF2.size
  have hro : ∀ x ∈ (if fillE N tk rs zs = 0 then rs ++ [(b2, zs)] else rs), ¬ x.1 = o := by
    intro x hx e
    have hold : x ∈ rs → False := fun hr => by have := (h.x.rlt x hr).1; omega
    split at hx
    · rcases List.mem_append.1 hx with h1 | h1
      · exact hold h1
      · simp at h1; subst h1; have : b2 = o := e; omega
    · exact hold hx
  clear ho1 hb1 k11 hF2 hb2
  obtain ⟨rs2, hrs2⟩ : ∃ rs2, rs2 = (if fillE N tk rs zs = 0 then rs ++ [(b2, zs)] else rs) := ⟨_, rfl⟩
  obtain ⟨d2, hd2⟩ : ∃ d2, d2 = (if fillE N tk rs zs = 10 then d + 1 else d) := ⟨_, rfl⟩
  rw [← hrs2] at hX2 hro
  rw [← hd2] at hX2
  have HRS := (show Hid _ from hrs2)
  have HD2 := (show Hid _ from hd2)
  have HFE := (show Hid _ from rfE_same N tk rs zs)
  clear hrs2 hd2
  obtain ⟨fe, hfe⟩ : ∃ fe, fe = fillE N tk rs zs := ⟨_, rfl⟩
  have HFE2 := (show Hid _ from hfe)
  rw [← hfe]
  clear hfe
  have HFIN : Hid (∀ wr, Fr (· = o) w2 wr → ∀ e w5, RfFillP B (XB p g q) q N gn tk d (rs.map (·.2)) zs wr e w5 → e = .returned (.int .i64 (fe : Nat)) ∧ ∀ W, Below w5.heap.size w5 W → DoP B p g q N d gn w (.returned (.bool true)) W) := by
    show ∀ _, _
    rintro wr hfo e w5 ⟨h1, h2, h3⟩
    rw [HFE.out, ← HFE2.out] at h1 h3
    refine ⟨h1, fun W hW => ⟨rfl, ?_, gv, gn, tk, d2, rs2, ?_, by omega, ?_⟩⟩
    · exact Fr.trans (frX (Fr.far hFw2 hfo (by omega))) (Fr.trans (frY h2) (Fr.of_below hW))
    · rw [HD2.out]; split <;> omega
    · have hXr := hX2.fr hfo (by omega) (by omega) hro
      have hX5 := keepX hXr h.np h.ng h2
      refine Bo.below ⟨hX5, ?_, h.gm, h.np, h.ng⟩ hW
      rw [HD2.out, HRS.out, ← HFE2.out]
      have e1 : (if fe = 0 then rs ++ [(b2, zs)] else rs).map (·.2) = if fe = 0 then rs.map (·.2) ++ [zs] else rs.map (·.2) := by split <;> simp
      rw [e1]
      exact h3
  have HY : Hid (∀ wr, Fr (· = o) w2 wr → Calls Try.prog 24 #[.pointer (some ⟨q, 0, none⟩), .slice a n c] wr (RfFillP B (XB p g q) q N gn tk d (rs.map (·.2)) zs wr)) := by
    show ∀ _, _
    intro wr hfo
    have hFw := Fr.far hFw2 hfo (by omega)
    have hbr : Below w0.heap.size w0 wr := hw0.trans (hFw.below w0.heap.size hw0.size (fun k hk => by have h1 := h.x.bp; have h2 := h.x.bg; omega))
    exact fill_ref B _ q N gn tk d _ a n c zs wr (h.keepY hFw) (hs.below hbr) hd
  have HK : Hid (∀ wr, Fr (· = o) w2 wr → wr.cell? ⟨w.heap.size, 1, none⟩ = some (.slice a n c)) := fun wr hfo => (hfo.cell ⟨w.heap.size, 1, none⟩ (by show w.heap.size < _; have := hFw2.size; have := hbw1.size; omega) (by show ¬ w.heap.size = o; omega)).trans k21
  clear hFw2 hX2 hxr hro k21 hbA hbw1 hw0A h hs
  go_wp2
  go_loopw [9] (fun iv wr => ∃ (i : Nat) (ys : List Nat), iv = .int .i64 (i : Nat) ∧ i ≤ n ∧ (0 < n → OwnB wr wA.heap.size (some ⟨o, 0, none⟩) n c1 ys) ∧ Fr (· = o) w2 wr) (fun iv _ => n - (intOf iv).toNat)
  case atStart => exact ⟨0, zs, rfl, by omega, ho2, Fr.refl _ _⟩
  case round =>
    obtain ⟨i, ys, rfl, hi, hoi, hfo⟩ := hrel
    clear ho2
    by_cases hin : i < n
    · have hi1 : (i : Int) < (n : Int) := by omega
      have ho := hoi (by omega)
      obtain rfl := hao (by omega)
      have kc := ho.cell i hin
      have kf := ho.free i
      have hbd := ho.bnd i
      have HO : Hid (OwnB (wr.setCell ⟨o, i, none⟩ (.int .u8 ((ys.getD i 0 ^^^ 1 : Nat) : Int))) wA.heap.size (some ⟨o, 0, none⟩) n c1 (ys.set i (ys.getD i 0 ^^^ 1))) := ho.store i _ (xor1_lt _ hbd)
      have HF : Hid (∀ v, Fr (· = o) w2 (wr.setCell ⟨o, i, none⟩ v)) := fun v => Fr.trans hfo (Fr.setCell (· = o) _ _ _ rfl)
      have hx : bits .xor .u8 ((ys.getD i 0 : Nat) : Int) 1 = ((ys.getD i 0 ^^^ 1 : Nat) : Int) := u8_xor_nat (ys.getD i 0) 1 hbd (by omega)
      have hxl := xor1_lt _ hbd
      clear ho hoi hfo
      generalize ys.getD i 0 = y at *
      generalize y ^^^ 1 = z at *
      go_wp2
      go_roundw
      case rel => exact ⟨i + 1, ys.set i z, by go_num, by omega, fun _ => HO.out, HF.out _⟩
      case measure => simp [intOf]; omega
    · have hi1 : ¬ (i : Int) < (n : Int) := by omega
      have kd := HK.out wr hfo
      have hy := HY.out wr hfo
      have hfin := HFIN.out wr hfo
      clear hoi hfo
      go_wp2_with fail
      refine hy.mono ?_
      intro e w5 hP
      obtain ⟨rfl, hD⟩ := hfin e w5 hP
      have HD := (show Hid _ from hD _ (Below.refl _ _))
      have hfe : ((fe : Int) == (fe : Int)) = true := by simp
      clear hy hfin hP kd hD
      go_wp2
      go_ret
      exact HD.out
/-- The reference's Take and Give, whatever there is. -/
structure TakeRP (B : Nat) (X : Nat → Prop) (q N gn tk d : Nat) (rs : List (Nat × List Nat)) (w : World) (e : Ending) (w' : World) : Prop where
  ret : ∃ a n c, e = .returned (.tuple #[.slice a n c, .int .i64 (takeE rs : Nat)]) ∧ (∀ W, Fr X w' W → Sl W a n c (takeB rs))
  fr : Fr (· = q) w w'
  out : Rf w' B X q N gn (if rs = [] then tk else tk + 1) d (rs.tail.map (·.2))
theorem take_rany (B : Nat) (X : Nat → Prop) (q N gn tk d : Nat) (rs : List (Nat × List Nat)) (w : World) (h : Rf w B X q N gn tk d (rs.map (·.2))) :
    Calls Try.prog 25 #[.pointer (some ⟨q, 0, none⟩)] w (TakeRP B X q N gn tk d rs w) := by
  cases rs with
  | nil =>
    refine (take_ref_none B X q N gn tk d w h).mono ?_
    rintro e w' ⟨rfl, rfl⟩
    exact ⟨⟨none, 0, 0, rfl, fun W _ => SlK.nil _ _ _ (by omega)⟩, Fr.refl _ _, by simpa using h⟩
  | cons r rs =>
    have h' : Rf w B X q N gn tk d (r.2 :: rs.map (·.2)) := h
    have hlen : r.2.length ≤ 1514 := by
      obtain ⟨a, c, _, hF⟩ := h'.full
      rcases hF.at_ with h0 | ⟨g, o, _, _, _, hc⟩
      · cases h0
      · obtain ⟨b, m, _, _, _, h4⟩ := hc 0 r.2 rfl
        exact h4
    refine (take_ref B X q N gn tk d r.2 (rs.map (·.2)) w h').mono ?_
    rintro e w' ⟨b, m, rfl, ⟨ho, hx⟩, h2, h3⟩
    exact ⟨⟨_, _, m, rfl, fun W hW => (ho.fr hW hx).sl (by omega)⟩, h2, by simpa using h3⟩
structure GiveRP (B : Nat) (X : Nat → Prop) (q N gn tk d : Nat) (fs : List (List Nat)) (w : World) (e : Ending) (w' : World) : Prop where
  ret : e = .returned (.int .i64 (giveE tk : Nat))
  fr : Fr (· = q) w w'
  out : Rf w' B X q N (if tk = 0 then gn else gn + 1) (tk - 1) d fs
theorem give_rany (B : Nat) (X : Nat → Prop) (q N gn tk d : Nat) (fs : List (List Nat)) (w : World) (h : Rf w B X q N gn tk d fs) (hg : gn ≤ 1000000) :
    Calls Try.prog 26 #[.pointer (some ⟨q, 0, none⟩)] w (GiveRP B X q N gn tk d fs w) := by
  cases tk with
  | zero =>
    refine (give_ref_none B X q N gn d fs w h).mono ?_
    rintro e w' ⟨rfl, rfl⟩
    exact ⟨rfl, Fr.refl _ _, by simpa using h⟩
  | succ tk =>
    refine (give_ref B X q N gn tk d fs w h hg).mono ?_
    rintro e w' ⟨rfl, h2, h3⟩
    exact ⟨rfl, h2, by simpa using h3⟩
set_option maxRecDepth 100000 in
set_option maxHeartbeats 2000000 in
theorem do_take (B p g q N gv gn tk d : Nat) (rs : List (Nat × List Nat)) (sv : Value) (I : Int) (w : World) (h : Bo w B p g q N gv gn tk d rs) :
    Calls Try.prog 19 #[.pointer (some ⟨p, 0, none⟩), .pointer (some ⟨q, 0, none⟩), .agg #[.int .i64 1, sv, .int .i64 I]] w (DoP B p g q N d gn w) := by
  obtain ⟨wA, hwA⟩ : ∃ wA, wA = w.alloc (.cells #[.int .i64 1, sv, .int .i64 I] 35) := ⟨_, rfl⟩
  have hbA : Below w.heap.size w wA := by rw [hwA]; exact (Below.refl _ _).alloc (Nat.le_refl _) _
  have hA := h.below hbA
  go_enter Try.func19, Try.ntmps19
  go_wp2_with fail
  rw [← hwA]
  clear hwA
  refine (take_any _ _ p g N gv tk d rs wA hA.x).mono ?_
  rintro e w3 ⟨⟨a3, n3, c3, rfl, hs3⟩, hF3, hX3⟩
  have hY3 := hA.keepY hF3
  go_wp2_with fail
  refine (take_rany _ _ q N gn tk d rs w3 hY3).mono ?_
  rintro e w4 ⟨⟨a4, n4, c4, rfl, hs4⟩, hF4, hY4⟩
  have hX4 := keepX hX3 h.np h.ng hF4
  have HCV : Hid (∀ W, Fr (XB p g q) w4 W → (convert 33 9 (.slice a3 n3 c3)).run Try.prog W = .ok (.string (strOf (takeB rs))) W ∧ (convert 33 9 (.slice a4 n4 c4)).run Try.prog W = .ok (.string (strOf (takeB rs))) W) := by
    show ∀ _, _
    intro W hW
    exact ⟨conv_str (hs3 W (Fr.trans (frY hF4) hW)), conv_str (hs4 W hW)⟩
  have HD : Hid (∀ W, Below w4.heap.size w4 W → DoP B p g q N d gn w (.returned (.bool true)) W) := by
    show ∀ _, _
    intro W hW
    exact ⟨rfl, Fr.trans (Fr.of_below hbA) (Fr.trans (frX hF3) (Fr.trans (frY hF4) (Fr.of_below hW))), gv, gn, _, d, rs.tail, by omega, by omega, Bo.below ⟨hX4, hY4, h.gm, h.np, h.ng⟩ hW⟩
  clear hX4 hY4 hX3 hY3 hF3 hF4 hA hs3 hs4 hbA h
  generalize strOf (takeB rs) = st at *
  generalize takeE rs = te at *
  obtain ⟨cv1, cv2⟩ := HCV.out w4 (Fr.refl _ _)
  go_wp2
  all_goals
    go_ret
    first
      | exact HD.out _ (Below.refl _ _)
      | (trace_state; sorry)
set_option maxRecDepth 100000 in
set_option maxHeartbeats 2000000 in
theorem do_give (B p g q N gv gn tk d : Nat) (rs : List (Nat × List Nat)) (sv : Value) (I : Int) (w : World) (h : Bo w B p g q N gv gn tk d rs) (hg : gn ≤ 1000000) :
    Calls Try.prog 19 #[.pointer (some ⟨p, 0, none⟩), .pointer (some ⟨q, 0, none⟩), .agg #[.int .i64 2, sv, .int .i64 I]] w (DoP B p g q N d gn w) := by
  obtain ⟨wA, hwA⟩ : ∃ wA, wA = w.alloc (.cells #[.int .i64 2, sv, .int .i64 I] 35) := ⟨_, rfl⟩
  have hbA : Below w.heap.size w wA := by rw [hwA]; exact (Below.refl _ _).alloc (Nat.le_refl _) _
  have hA := h.below hbA
  go_enter Try.func19, Try.ntmps19
  go_wp2_with fail
  rw [← hwA]
  clear hwA
  refine (give_any _ _ p g N gv tk d rs wA hA.x).mono ?_
  rintro e w3 ⟨rfl, hF3, hX3⟩
  have hY3 := hA.keepY hF3
  go_wp2_with fail
  refine (give_rany _ _ q N gn tk d _ w3 hY3 hg).mono ?_
  rintro e w4 ⟨rfl, hF4, hY4⟩
  have hX4 := keepX hX3 h.np h.ng hF4
  have HD : Hid (∀ W, Below w4.heap.size w4 W → DoP B p g q N d gn w (.returned (.bool true)) W) := by
    show ∀ _, _
    intro W hW
    refine ⟨rfl, Fr.trans (Fr.of_below hbA) (Fr.trans (frX hF3) (Fr.trans (frY hF4) (Fr.of_below hW))), _, _, _, d, rs, by omega, ?_, Bo.below ⟨hX4, hY4, ?_, h.np, h.ng⟩ hW⟩
    · split <;> omega
    · split
      · exact h.gm
      · rw [h.gm, Nat.mod_add_mod]
  clear hX4 hY4 hX3 hY3 hF3 hF4 hA hbA h
  generalize giveE tk = te at *
  have hte : ((te : Int) == (te : Int)) = true := by simp
  go_wp2
  all_goals
    go_ret
    first
      | exact HD.out _ (Below.refl _ _)
      | (trace_state; sorry)
set_option maxRecDepth 100000 in
set_option maxHeartbeats 2000000 in
theorem do_owner (B p g q N gv gn tk d : Nat) (rs : List (Nat × List Nat)) (op : Int) (sv : Value) (I : Int) (w : World) (h : Bo w B p g q N gv gn tk d rs) (hg : gn ≤ 1000000) (o0 : ¬ op = 0) (o1 : ¬ op = 1) (o2 : ¬ op = 2) :
    Calls Try.prog 19 #[.pointer (some ⟨p, 0, none⟩), .pointer (some ⟨q, 0, none⟩), .agg #[.int .i64 op, sv, .int .i64 I]] w (DoP B p g q N d gn w) := by
  obtain ⟨wA, hwA⟩ : ∃ wA, wA = w.alloc (.cells #[.int .i64 op, sv, .int .i64 I] 35) := ⟨_, rfl⟩
  have hbA : Below w.heap.size w wA := by rw [hwA]; exact (Below.refl _ _).alloc (Nat.le_refl _) _
  have hzA : wA.heap.size = w.heap.size + 1 := by rw [hwA]; simp
  have kA2 : wA.cell? ⟨w.heap.size, 2, none⟩ = some (.int .i64 I) := by rw [hwA, World.cell?_alloc_mark]; rfl
  have hA := h.below hbA
  have hlt : w.heap.size < wA.heap.size := by omega
  obtain ⟨V, E, hx, hy⟩ : ∃ V E : Nat, Calls Try.prog 16 #[.pointer (some ⟨p, 0, none⟩), .int .i64 I] wA (fun e w' => e = .returned (.tuple #[.int .i64 (V : Nat), .int .i64 (E : Nat)]) ∧ Below wA.heap.size wA w') ∧
      ∀ W, Below wA.heap.size wA W → Calls Try.prog 27 #[.pointer (some ⟨q, 0, none⟩), .int .i64 I] W (fun e w' => e = .returned (.tuple #[.int .i64 (V : Nat), .int .i64 (E : Nat)]) ∧ Below W.heap.size W w') := by
    by_cases hI : 0 ≤ I ∧ I < N
    · obtain ⟨i, rfl⟩ := Int.eq_ofNat_of_zero_le hI.1
      refine ⟨ownV N gv tk rs.length i, 0, owner_any _ _ p g N gv tk d rs i wA hA.x (by omega), fun W hW => ?_⟩
      have := owner_ref _ _ _ q N gn tk d (rs.map (·.2)) (i : Int) W (hA.y.below hW) hg rfl hI
      rw [← h.gm, List.length_map, Int.toNat_natCast] at this
      exact this
    · exact ⟨0, 2, owner_no _ _ p g N gv tk d rs I wA hA.x hI, fun W hW => owner_ref_no _ _ q N gn tk d _ I W (hA.y.below hW) hI⟩
  have HD : Hid (∀ W, Below wA.heap.size wA W → DoP B p g q N d gn w (.returned (.bool true)) W) := by
    show ∀ _, _
    intro W hW
    exact ⟨rfl, Fr.trans (Fr.of_below hbA) (Fr.of_below hW), gv, gn, tk, d, rs, by omega, by omega, hA.below hW⟩
  clear hA h
  go_enter Try.func19, Try.ntmps19
  go_wp2_with fail
  rw [← hwA]
  clear hwA
  refine hx.mono ?_
  rintro e w1 ⟨rfl, hb1⟩
  have k12 := (hb1.cell (p := ⟨w.heap.size, 2, none⟩) hlt).trans kA2
  go_wp2_with fail
  refine (hy w1 hb1).mono ?_
  rintro e w2 ⟨rfl, hb2⟩
  have HB := (show Hid _ from hb1.trans (hb2.mono hb1.size))
  clear hx hy hb1 hb2 kA2 k12 hbA
  go_wp2
  all_goals
    go_ret
    first
      | exact HD.out _ HB.out
      | (trace_state; sorry)
end Go.Proofs.Ytmmbnikjlklflaa
