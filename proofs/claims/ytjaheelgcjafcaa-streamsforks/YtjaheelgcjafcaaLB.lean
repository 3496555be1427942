/- law13.do: what the reference's Add asks; both Adds; the rows that are turned behind them. -/
import Derived.Test.YtjaheelgcjafcaaLA
import Derived.Test.YtjaheelgcjafcaaKC
import Derived.Test.YtjaheelgcjafcaaKL
import Derived.Test.YtjaheelgcjafcaaKE
import Derived.Test.YtjaheelgcjafcaaRgX
import Derived.Test.YtjaheelgcjafcaaKM
namespace Go.Proofs.Ytjaheelgcjafcaa
open Go.RowKit
theorem mem_xs {E : List ChQ} {xs : List ChQ} {u m : Nat} (hx : ∀ j, j < m + 1 → findQ E ((u + j) % 4294967296) = xs[j]?) (hl : xs.length = m + 1) : ∀ y ∈ xs, y ∈ E := by
  intro y hy
  obtain ⟨j, hj⟩ := List.getElem?_of_mem hy
  have hjl := (List.getElem?_eq_some_iff.1 hj).1
  exact (findQ_in ((hx j (by omega)).trans hj)).1
set_option maxRecDepth 100000 in
set_option maxHeartbeats 8000000 in
theorem add_loop : addK.1 := by
  unfold addK
  dsimp only
  set_option tactic.hygienic false in intros
  obtain ⟨r9, Z9, hR9, hZ9⟩ := HAD.out.rf
  obtain ⟨aA9, aC9, lA9, lC9, vA9, vC9⟩ := r9
  obtain ⟨N, hN⟩ : ∃ N, N = (E ++ [x]).length := ⟨_, rfl⟩
  have hN128 : N ≤ 128 := by rw [hN]; exact HAD.out.e1
  have hpW := hR9.st.lt
  have q1 : W.cell? ⟨p, 1, none⟩ = some (.slice lA9 N lC9) := by rw [hN]; exact hR9.st.cell 1 _ rfl
  have HRW : Hid (RowR 14 ChQ.vals W Z9 lA9 N lC9 (E ++ [x])) := by rw [hN]; exact hR9.rl
  have HR9 := (show Hid _ from And.intro hR9 (And.intro hZ9 hN))
  have HOKT : Hid (∀ y ∈ E ++ [x], y.t < 4294967296) := fun y hy => (ChQ.sml (hR9.ok y hy).wf).2.2.1
  have hcap := HRW.out.cap.1
  clear hR9 hZ9 hN
  go_loopw [11] (fun iv wr => ∃ i : Nat, i ≤ N ∧ iv = .int .i64 (i : Nat) ∧ Below W.heap.size W wr ∧ ∀ (j : Nat) (y : ChQ), j < i → (E ++ [x])[j]? = some y → ∀ m, ¬ Whl ((E ++ [x]).map ChQ.kv) y.t m) (fun iv _ => N - (intOf iv).toNat)
  case atStart => exact ⟨0, by omega, rfl, Below.refl _ _, fun j y hj => by omega⟩
  case round =>
    obtain ⟨i, hiN, rfl, hb, hno⟩ := hrel
    have d1 := (hb.cell (p := ⟨p, 1, none⟩) hpW).trans q1
    have HB := (show Hid _ from And.intro hb hno)
    by_cases hlt : i < N
    · have g1 : (i : Int) < (N : Int) := by omega
      have g0 : (0 : Int) ≤ (i : Int) := by omega
      obtain ⟨g, y, rfl, hg, _, hy, hcy⟩ := HRW.out.get hlt
      have y2 : wr.cell? ⟨g, i * 14 + 2, none⟩ = some (.int .u32 (y.t : Nat)) := (hb.cell (p := ⟨g, i * 14 + 2, none⟩) hg).trans (hcy 2 _ rfl)
      have hyt := HOKT.out y (List.mem_of_getElem? hy)
      have hRR := HR9.out.1.below hb
      have HRN : Hid (Calls Try.prog 50 #[.pointer (some ⟨p, 0, none⟩), .int .u32 (y.t : Nat)] wr (RunR wr (E ++ [x]) y.t)) := rrun_any y.t hRR HAD.out.al hyt
      have HY := (show Hid _ from hy)
      clear hb hno hcy hy hRR
      go_wp2_with fail
      refine HRN.out.mono ?_
      clear HRN
      rintro e V5 hrun
      cases hrun with
      | no he hw hb5 =>
        subst he
        have HW := (show Hid _ from And.intro hw hb5)
        clear hw hb5
        go_wp2
        go_roundw
        case rel => exact ⟨i + 1, by omega, by go_num, HB.out.1.trans (HW.out.2.mono HB.out.1.size), fun j z hj hz => by
          by_cases e : j = i
          · subst e
            rw [HY.out] at hz
            obtain rfl := Option.some.inj hz
            exact HW.out.1
          · exact HB.out.2 j z (by omega) hz⟩
        case measure => simp [intOf]; omega
      | yes m oa oc xs he hw ho hx hb5 =>
        subst he
        have hxl : xs.length = m + 1 := ho.len
        have hbw5 : Below W.heap.size W V5 := HB.out.1.trans (hb5.mono HB.out.1.size)
        have hm128 : m + 1 ≤ 128 := by
          have h1 := (HAD.out.al.whl.2 hw).len HAD.out.al.srt
          have h2 := HAD.out.al.len
          rw [List.length_map, ← HR9.out.2.2] at h2
          omega
        have hT : TeC W0 V5 p ⟨aA9, aC9, some ⟨g, 0, none⟩, lC9, vA9, vC9⟩ nx (E ++ [x]) Vs Z9 wr.heap.size oa (m + 1) oc xs :=
          ⟨HR9.out.1.below hbw5, ho, hb5.size, Nat.lt_of_lt_of_le hpW HB.out.1.size, by omega, hm128, fun z hz => HR9.out.1.ok z (mem_xs hx hxl z hz), HAD.out.nd, HAD.out.v1, fun z hz => HAD.out.dn z (mem_xs hx hxl z (List.mem_of_getElem? hz))⟩
        have HT : Hid (Calls Try.prog 51 #[.pointer (some ⟨p, 0, none⟩), .slice oa (m + 1) oc] V5 (TelR W0 V5 p nx (E ++ [x]) Vs Z9 (m + 1) xs)) := rtell_any hT
        have HW := (show Hid _ from And.intro hw (And.intro hx (And.intro hxl hbw5)))
        have gm : (0 : Int) < (m : Int) + 1 := by omega
        clear hT hw ho hx hb5 hxl hbw5
        go_wp2_with fail
        refine HT.out.mono ?_
        rintro e V6 hTR
        obtain ⟨a6, n6, c6, he6, hms⟩ := hTR.ans
        subst he6
        have HTR := (show Hid _ from hTR)
        clear HT hTR hms
        go_wp2
        refine HQ.out _ _ (.yes y.t m xs V5 Z9 a6 n6 c6 HAD.out.h0 HW.out.1 HW.out.2.1 HW.out.2.2.1 rfl HTR.out (HAD.out.fr.trans (Fr.of_below HW.out.2.2.2)) HR9.out.2.1)
    · obtain rfl : i = N := by omega
      have g1 : ¬ (i : Int) < (i : Int) := by omega
      clear hb hno
      go_wp2
      refine HQ.out _ _ (.no _ Z9 HAD.out.h0 (fun y hy m => ?_) rfl (HR9.out.1.below HB.out.1) HR9.out.2.1 (HAD.out.fr.trans (Fr.of_below HB.out.1)))
      obtain ⟨j, hj⟩ := List.getElem?_of_mem hy
      exact HB.out.2 j y (by have := (List.getElem?_eq_some_iff.1 hj).1; have := HR9.out.2.2; omega) hj m
theorem radd_any {W0 w : World} {p : Nat} {r : Rw} {nx : List Nat} {E : List ChQ} {V : List RyD} {Z : Nat → Prop} {x : ChQ} {D : List (Nat × Pc)} (h : AdC W0 w p r nx E V Z x D) :
    Calls Try.prog 33 #[.pointer (some ⟨p, 0, none⟩), .agg x.vals.toArray] w (RAdR W0 w p nx E V Z x) :=
  addK.2 add_loop W0 w p r nx E V Z x D _ h (fun _ _ h => h)
end Go.Proofs.Ytjaheelgcjafcaa
namespace Go.Proofs.Ytjaheelgcjafcaa
open Go.RowKit Go.MapKept Go.Maps
theorem sumD_map {α : Type} (f : α → Nat) (D : List (Nat × α)) : sumD f D = (D.map fun y => f y.2).sum := by
  induction D with
  | nil => rfl
  | cons y D ih => rw [List.map_cons, List.sum_cons, ← ih]; rfl
theorem Ali.heldN {s : SmS} {E : List ChQ} {V : List RyD} (h : Ali s (E.map ChQ.kv) (V.map RyD.mn)) : s.heldN = heldN13 E V := by
  unfold SmS.heldN heldN13
  have h1 := h.pcs.len
  rw [List.length_map] at h1
  have h2 := perm_sum (h.wts.perm.map fun y => y.2.2)
  rw [List.map_map, List.map_map, List.map_map] at h2
  rw [sumD_map, h1]
  congr 1
theorem Ali.heldB {W0 : World} {s : SmS} {E : List ChQ} {V : List RyD} (h : Ali s (E.map ChQ.kv) (V.map RyD.mn)) (hE : ∀ x ∈ E, QOk W0 x) : s.heldB = heldB13 E V := by
  unfold SmS.heldB heldB13
  have h1 := perm_sum (h.pcs.perm.map fun y => y.2.zs.length)
  rw [List.map_map, List.map_map, List.map_map] at h1
  have h2 := perm_sum (h.wts.perm.map fun y => y.2.1.zs.length)
  rw [List.map_map, List.map_map, List.map_map] at h2
  rw [sumD_map, sumD_map]
  have e1 : (s.D.map fun y => y.2.zs.length).sum = (E.map fun x => x.xN).sum := by
    refine Eq.trans h1 ?_
    congr 1
    exact List.map_congr_left (fun x hx => (ChQ.sl (hE x hx).wf).len)
  have e2 : (s.W.map fun y => byP y.2).sum = (V.map fun x => x.m.zs.length).sum := by
    refine Eq.trans ?_ h2
    congr 1
    refine List.map_congr_left (fun y _ => ?_)
    show byP y.2 = (joinM y.2).zs.length
    unfold joinM
    dsimp only
    exact (flat_len y.2).symm
  rw [e1, e2]
theorem Ali.hold {s : SmS} {E : List ChQ} {V : List RyD} (h : Ali s (E.map ChQ.kv) (V.map RyD.mn)) (x : ChQ) : holdN s x.k x.t x.st (chkOf x.ck) = rholdN s.nx E V x := by
  unfold holdN rholdN
  have e := h.pcs.some_iff x.t
  rw [findQ_kv, Option.isSome_map] at e
  rw [e, h.heldN]
theorem restQ_kv (E xs : List ChQ) : (restQ E xs).map ChQ.kv = (E.map ChQ.kv).filter fun y => !(xs.map (·.t)).contains y.1 := by
  unfold restQ
  rw [List.filter_map]
  rfl
theorem xs_t {E xs : List ChQ} {u m : Nat} (hx : ∀ j, j < m + 1 → findQ E ((u + j) % 4294967296) = xs[j]?) (hl : xs.length = m + 1) : xs.map (·.t) = runL u m ∧ (runL u m).map (pcAt (E.map ChQ.kv)) = xs.map ChQ.pc := by
  have key : ∀ j (hj : j < m + 1), ∃ y, xs[j]? = some y ∧ y.t = (u + j) % 4294967296 ∧ pcAt (E.map ChQ.kv) ((u + j) % 4294967296) = y.pc := by
    intro j hj
    obtain ⟨y, hy⟩ : ∃ y, xs[j]? = some y := ⟨_, List.getElem?_eq_getElem (by omega)⟩
    have := (hx j hj).trans hy
    exact ⟨y, hy, (findQ_in this).2, pcAt_q this⟩
  constructor
  · refine List.ext_getElem? (fun j => ?_)
    rw [List.getElem?_map]
    unfold runL
    rw [List.getElem?_map]
    by_cases hj : j < m + 1
    · obtain ⟨y, h1, h2, _⟩ := key j hj
      rw [h1, List.getElem?_range hj]
      exact congrArg some h2
    · rw [List.getElem?_eq_none (by omega), List.getElem?_eq_none (by rw [List.length_range]; omega)]
      rfl
  · refine List.ext_getElem? (fun j => ?_)
    unfold runL
    rw [List.map_map, List.getElem?_map, List.getElem?_map]
    by_cases hj : j < m + 1
    · obtain ⟨y, h1, _, h3⟩ := key j hj
      rw [h1, List.getElem?_range hj]
      exact congrArg some h3
    · rw [List.getElem?_eq_none (l := xs) (by omega), List.getElem?_eq_none (by rw [List.length_range]; omega)]
      rfl
/-- What both hold, and what is told, behind a piece that is taken. -/
theorem both_add {s : SmS} {E : List ChQ} {V : List RyD} (h : Ali s (E.map ChQ.kv) (V.map RyD.mn)) {x : ChQ} (hx : x.t < 4294967296) (hn : lookD s.D x.t = none) (hd : s.D.length ≤ 128) {p : Pc} (hp : p.core = x.pc.core) :
    (∀ _ : (∀ y ∈ E ++ [x], ∀ m, ¬ Whl ((E ++ [x]).map ChQ.kv) y.t m), Ali (s.add x.t p).1 ((E ++ [x]).map ChQ.kv) (V.map RyD.mn) ∧ (s.add x.t p).2 = [] ∧ (s.add x.t p).1.nx = s.nx) ∧
    (∀ u m xs, Whl ((E ++ [x]).map ChQ.kv) u m → (∀ j, j < m + 1 → findQ (E ++ [x]) ((u + j) % 4294967296) = xs[j]?) → xs.length = m + 1 →
      Ali (s.add x.t p).1 ((restQ (E ++ [x]) xs).map ChQ.kv) (tellV s.nx (V.map RyD.mn) (joinQ xs) (m + 1)).1.2 ∧ (s.add x.t p).2 = (tellV s.nx (V.map RyD.mn) (joinQ xs) (m + 1)).2 ∧ (s.add x.t p).1.nx = (tellV s.nx (V.map RyD.mn) (joinQ xs) (m + 1)).1.1) := by
  have e1 : (E ++ [x]).map ChQ.kv = E.map ChQ.kv ++ [(x.t, x.pc)] := by rw [List.map_append]; rfl
  refine ⟨fun hw => ?_, fun u m xs hW hxs hl => ?_⟩
  · rw [e1] at hw ⊢
    refine add_no h hx hn (by omega) hp (fun y hy m => ?_)
    rcases List.mem_append.1 hy with hy | hy
    · obtain ⟨z, hz, rfl⟩ := List.mem_map.1 hy
      exact hw z (List.mem_append.2 (.inl hz)) m
    · obtain rfl : y = (x.t, x.pc) := by simpa using hy
      exact hw x (List.mem_append.2 (.inr (by simp))) m
  · obtain ⟨ht, hpc⟩ := xs_t hxs hl
    have key := add_yes h hn hp (u := u) (m := m) (by rw [e1] at hW; exact hW)
    rw [restQ_kv, ht, e1]
    have hj : joinM ((runL u m).map (pcAt (E.map ChQ.kv ++ [(x.t, x.pc)]))) = joinQ xs := by
      unfold joinQ
      rw [← e1, hpc]
    rw [hj] at key
    exact key
end Go.Proofs.Ytjaheelgcjafcaa
namespace Go.Proofs.Ytjaheelgcjafcaa
open Go.RowKit Go.MapKept Go.Maps
/-- The program's streams at px, the reference's at py; they hold the same. -/
structure BoS (W0 w : World) (px nb mb wb py : Nat) : Prop where
  ex : ∃ s wr Y r E V Z, SmW w px nb mb wb wr Y s ∧ RfS W0 w py r s.nx E V Z ∧ Ali s (E.map ChQ.kv) (V.map RyD.mn) ∧ (∀ g, Z g → ¬ Y g ∧ g ≠ px ∧ g ≠ nb ∧ g ≠ mb ∧ g ≠ wb) ∧ ¬ Y py
  ne : py ≠ px ∧ py ≠ nb ∧ py ≠ mb ∧ py ≠ wb
  new : W0.heap.size ≤ px ∧ W0.heap.size ≤ nb ∧ W0.heap.size ≤ mb ∧ W0.heap.size ≤ wb ∧ W0.heap.size ≤ py
  bel : Below W0.heap.size W0 w
theorem BoS.below {W0 w w' : World} {px nb mb wb py : Nat} (h : BoS W0 w px nb mb wb py) (hb : Below w.heap.size w w') : BoS W0 w' px nb mb wb py := by
  obtain ⟨s, wr, Y, r, E, V, Z, h1, h2, h3⟩ := h.ex
  exact ⟨⟨s, wr, Y, r, E, V, Z, h1.below hb, h2.below hb, h3⟩, h.ne, h.new, h.bel.trans (hb.mono h.bel.size)⟩
/-- Blocks that are none of theirs are turned. -/
theorem BoS.none {W0 w w' : World} {px nb mb wb py : Nat} {s : SmS} {wr : Nat → Option Addr × Nat} {Y Z Q : Nat → Prop} {r : Rw} {E : List ChQ} {V : List RyD} (h1 : SmW w px nb mb wb wr Y s) (h2 : RfS W0 w py r s.nx E V Z) (h3 : Ali s (E.map ChQ.kv) (V.map RyD.mn)) (h4 : ∀ g, Z g → ¬ Y g ∧ g ≠ px ∧ g ≠ nb ∧ g ≠ mb ∧ g ≠ wb) (h5 : ¬ Y py) (ne : py ≠ px ∧ py ≠ nb ∧ py ≠ mb ∧ py ≠ wb) (new : W0.heap.size ≤ px ∧ W0.heap.size ≤ nb ∧ W0.heap.size ≤ mb ∧ W0.heap.size ≤ wb ∧ W0.heap.size ≤ py) (hb : Below W0.heap.size W0 w)
    (hf : Fr Q w w') (hY : ∀ g, Q g → ¬ Y g ∧ g ≠ px ∧ g ≠ nb ∧ g ≠ mb ∧ g ≠ wb ∧ ¬ Z g ∧ g ≠ py ∧ W0.heap.size ≤ g) : BoS W0 w' px nb mb wb py :=
  ⟨⟨s, wr, Y, r, E, V, Z, h1.fr hf (fun g _ hg => ⟨(hY g hg).1, (hY g hg).2.1, (hY g hg).2.2.1, (hY g hg).2.2.2.1, (hY g hg).2.2.2.2.1⟩), h2.fr hf (fun g hz hg => (hY g hg).2.2.2.2.2.1 hz) (fun hg => (hY py hg).2.2.2.2.2.2.1 rfl) (fun g hg hq => by have := (hY g hq).2.2.2.2.2.2.2; omega), h3, h4, h5⟩, ne, new, hb.trans (hf.below _ hb.size (fun g hg => (hY g hg).2.2.2.2.2.2.2))⟩
set_option maxRecDepth 100000 in
theorem rnew_bad (n : Int) (w : World) (h : ¬ (1 ≤ n ∧ n ≤ 8)) :
    Calls Try.prog 21 #[.int .i64 n] w fun e w' => e = .returned (.tuple #[.pointer none, .int .i64 2]) ∧ Below w.heap.size w w' := by
  by_cases h1 : n < 1
  · go_enter Try.func21, Try.ntmps21
    go_wp2
    go_ret2
    exact ⟨rfl, Below.refl _ _⟩
  · have h2 : 8 < n := by omega
    go_enter Try.func21, Try.ntmps21
    go_wp2
    go_ret2
    exact ⟨rfl, Below.refl _ _⟩
set_option maxRecDepth 100000 in
theorem rnew_ok (n : Nat) (w : World) (h1 : 1 ≤ n) (h2 : n ≤ 8) :
    Calls Try.prog 21 #[.int .i64 (n : Nat)] w fun e w' => e = .returned (.tuple #[.pointer (some ⟨w.heap.size + 1, 0, none⟩), .int .i64 0])
      ∧ w' = ((w.alloc (.cells (madeCells #[.int .u16 0] n) 42)).alloc (.cells #[.slice (some ⟨w.heap.size, 0, none⟩) n n, .slice none 0 0, .slice none 0 0] 93)) := by
  have h3 : ¬ (n : Int) < 1 := by omega
  have h4 : ¬ (8 : Int) < (n : Int) := by omega
  have hmk := mk16 n (by omega)
  go_enter Try.func21, Try.ntmps21
  go_wp2
  go_ret2
  exact ⟨rfl, rfl⟩
set_option maxRecDepth 100000 in
theorem rnext_any {W0 w : World} {p : Nat} {r : Rw} {nx : List Nat} {E : List ChQ} {V : List RyD} {Z : Nat → Prop} (h : RfS W0 w p r nx E V Z) (n : Int) :
    Calls Try.prog 35 #[.pointer (some ⟨p, 0, none⟩), .int .i64 n] w fun e w' => e = .returned (if 0 ≤ n ∧ n < nx.length then .tuple #[.int .u16 (nx.getD n.toNat 0 : Nat), .int .i64 0] else .tuple #[.int .u16 0, .int .i64 14]) ∧ Below w.heap.size w w' := by
  obtain ⟨aA, aC, lA, lC, vA, vC⟩ := r
  have c0 := h.st.cell 0 _ rfl
  dsimp only at c0
  by_cases h0 : n < 0
  · rw [if_neg (by omega)]
    clear h
    go_enter Try.func35, Try.ntmps35
    go_wp2
    go_ret2
    exact ⟨rfl, Below.refl _ _⟩
  · obtain ⟨m, rfl⟩ : ∃ m : Nat, n = (m : Int) := ⟨n.toNat, by omega⟩
    obtain ⟨an, han⟩ : ∃ a, a = nx.length := ⟨_, rfl⟩
    by_cases hm : m < nx.length
    · rw [if_pos (by omega)]
      obtain ⟨g, hg, hgl, _, hgc⟩ := nx_cell h.ra hm
      dsimp only at hg
      subst hg
      rw [← han] at c0
      have h1 : ¬ (m : Int) < 0 := by omega
      have h2 : (m : Int) < (an : Int) := by omega
      have h3 : ¬ (an : Int) ≤ (m : Int) := by omega
      obtain ⟨v, hv⟩ : ∃ v, v = nx.getD m 0 := ⟨_, rfl⟩
      rw [← hv] at hgc
      have e : nx.getD (m : Int).toNat 0 = v := hv.symm
      rw [e]
      clear h hv han hm e
      go_enter Try.func35, Try.ntmps35
      go_wp2
      go_ret2
      exact ⟨rfl, Below.refl _ _⟩
    · rw [if_neg (by omega)]
      rw [← han] at c0
      have h1 : ¬ (m : Int) < 0 := by omega
      have h2 : (an : Int) ≤ (m : Int) := by omega
      clear h han hm
      go_enter Try.func35, Try.ntmps35
      go_wp2
      go_ret2
      exact ⟨rfl, Below.refl _ _⟩
end Go.Proofs.Ytjaheelgcjafcaa
namespace Go.Proofs.Ytjaheelgcjafcaa
open Go.RowKit
set_option maxRecDepth 100000 in
set_option maxHeartbeats 2000000 in
theorem samemsg_yes (st ss pp : Nat) (fr : Bool) (zs : List Nat) (a a2 : Option Addr) (n c c2 : Nat) (w : World) (h1 : Sl w a n c zs) (h2 : Sl w a2 n c2 zs) :
    Calls Try.prog 15 #[.agg #[.int .u16 (st : Nat), .int .u16 (ss : Nat), .int .u32 (pp : Nat), .bool fr, .slice a n c], .agg #[.int .u16 (st : Nat), .int .u16 (ss : Nat), .int .u32 (pp : Nat), .bool fr, .slice a2 n c2]] w fun e w' => e = .returned (.bool true) ∧ Below w.heap.size w w' := by
  obtain ⟨W, hW⟩ : ∃ W, W = ((w.alloc (.cells #[.int .u16 (st : Nat), .int .u16 (ss : Nat), .int .u32 (pp : Nat), .bool fr, .slice a n c] 51)).alloc (.cells #[.int .u16 (st : Nat), .int .u16 (ss : Nat), .int .u32 (pp : Nat), .bool fr, .slice a2 n c2] 51)) := ⟨_, rfl⟩
  have hb : Below w.heap.size w W := by rw [hW]; exact ((Below.refl _ _).alloc (Nat.le_refl _) _).alloc (by simp) _
  have c1 := conv_str (h1.below hb)
  have c2 := conv_str (h2.below hb)
  have HB := (show Hid _ from hb)
  rw [hW] at c1 c2 HB
  clear hb h1 h2 hW
  go_enter Try.func15, Try.ntmps15
  go_wp2
  go_ret
  exact ⟨by simp, HB.out⟩
theorem row_at {w : World} {B : Nat} {a : Option Addr} {n c : Nat} {xl : List Mq} (h : OwnG 51 5 Mq.v w B a n c xl) (hn : 0 < n) : ∃ g, a = some ⟨g, 0, none⟩ ∧ g < w.heap.size ∧ n ≤ c ∧ ∀ i x, xl[i]? = some x → ∀ j v, (Mq.v x)[j]? = some v → w.cell? ⟨g, i * 5 + j, none⟩ = some v := by
  obtain ⟨g, rfl, _, h1, h2, _, h3, _⟩ := OwnG.at_ h (fun _ => rfl) hn
  exact ⟨g, rfl, h1, h2, h3⟩
set_option maxRecDepth 100000 in
set_option maxHeartbeats 4000000 in
theorem samemsgs_yes {w : World} {B B2 : Nat} {a a2 : Option Addr} {n c c2 : Nat} {xl yl : List Mq} (h1 : OwnG 51 5 Mq.v w B a n c xl) (h2 : OwnG 51 5 Mq.v w B2 a2 n c2 yl) (he : xl.map (·.1) = yl.map (·.1)) (hx : ∀ x ∈ xl, Sl w x.2.1 x.1.zs.length x.2.2 x.1.zs) (hy : ∀ x ∈ yl, Sl w x.2.1 x.1.zs.length x.2.2 x.1.zs) (hn : n ≤ 1000000) :
    Calls Try.prog 34 #[.slice a n c, .slice a2 n c2] w fun e w' => e = .returned (.bool true) ∧ Below w.heap.size w w' := by
  have hl1 : xl.length = n := h1.len
  have hl2 : yl.length = n := h2.len
  have HR := (show Hid _ from fun (_ : Unit) (hn : 0 < n) => And.intro (row_at h1 hn) (row_at h2 hn))
  have HE := (show Hid _ from And.intro he (And.intro hx (And.intro hy (And.intro hl1 hl2))))
  clear h1 h2 he hx hy hl1 hl2
  go_enter Try.func34, Try.ntmps34
  go_wp2
  go_loopw [5] (fun u wr => ∃ i : Nat, i ≤ n ∧ u = .int .i64 (i : Nat) ∧ Below w.heap.size w wr) (fun u _ => n - (intOf u).toNat)
  case atStart => exact ⟨0, by omega, rfl, Below.refl _ _⟩
  case round =>
    obtain ⟨i, hi, rfl, hb⟩ := hrel
    by_cases hlt : i < n
    · have hln : (i : Int) < (n : Int) := by omega
      obtain ⟨⟨g, rfl, hg, hc, hcl⟩, ⟨g2, rfl, hg2, hc2, hcl2⟩⟩ := HR.out () (by omega)
      obtain ⟨he, hx, hy, hl1, hl2⟩ := HE.out
      obtain ⟨x, hxi⟩ : ∃ x, xl[i]? = some x := ⟨_, List.getElem?_eq_getElem (by omega)⟩
      obtain ⟨y, hyi⟩ : ∃ y, yl[i]? = some y := ⟨_, List.getElem?_eq_getElem (by omega)⟩
      have hxy : x.1 = y.1 := by
        have := congrArg (fun l : List Mg => l[i]?) he
        simpa [hxi, hyi] using this
      have sx := hx x (List.mem_of_getElem? hxi)
      have sy := hy y (List.mem_of_getElem? hyi)
      have kx := hcl i x hxi
      have ky := hcl2 i y hyi
      obtain ⟨⟨st, ss, pp, fr, zs⟩, a, cx⟩ := x
      obtain ⟨y1, a2, cy⟩ := y
      dsimp only at hxy
      subst hxy
      dsimp only at sx sy
      obtain ⟨k2, hk2⟩ : ∃ k, k = zs.length := ⟨_, rfl⟩
      rw [← hk2] at sx sy
      have kx4 : w.cell? ⟨g, i * 5 + 4, none⟩ = some (.slice a k2 cx) := by rw [hk2]; exact kx 4 _ rfl
      have ky4 : w.cell? ⟨g2, i * 5 + 4, none⟩ = some (.slice a2 k2 cy) := by rw [hk2]; exact ky 4 _ rfl
      clear hk2
      have HC : Hid (∀ W, Below wr.heap.size wr W → W.cell? ⟨g, i * 5, none⟩ = some (.int .u16 (st : Nat)) ∧ W.cell? ⟨g, i * 5 + 1, none⟩ = some (.int .u16 (ss : Nat)) ∧ W.cell? ⟨g, i * 5 + 2, none⟩ = some (.int .u32 (pp : Nat)) ∧ W.cell? ⟨g, i * 5 + 3, none⟩ = some (.bool fr) ∧ W.cell? ⟨g, i * 5 + 4, none⟩ = some (.slice a k2 cx) ∧
          W.cell? ⟨g2, i * 5, none⟩ = some (.int .u16 (st : Nat)) ∧ W.cell? ⟨g2, i * 5 + 1, none⟩ = some (.int .u16 (ss : Nat)) ∧ W.cell? ⟨g2, i * 5 + 2, none⟩ = some (.int .u32 (pp : Nat)) ∧ W.cell? ⟨g2, i * 5 + 3, none⟩ = some (.bool fr) ∧ W.cell? ⟨g2, i * 5 + 4, none⟩ = some (.slice a2 k2 cy)) := fun W hW => by
        have hbb : Below w.heap.size w W := hb.trans (hW.mono hb.size)
        have r1 : ∀ o, W.cell? ⟨g, o, none⟩ = w.cell? ⟨g, o, none⟩ := fun o => hbb.cell (p := ⟨g, o, none⟩) hg
        have r2 : ∀ o, W.cell? ⟨g2, o, none⟩ = w.cell? ⟨g2, o, none⟩ := fun o => hbb.cell (p := ⟨g2, o, none⟩) hg2
        exact ⟨(r1 _).trans (kx 0 _ rfl), (r1 _).trans (kx 1 _ rfl), (r1 _).trans (kx 2 _ rfl), (r1 _).trans (kx 3 _ rfl), (r1 _).trans kx4, (r2 _).trans (ky 0 _ rfl), (r2 _).trans (ky 1 _ rfl), (r2 _).trans (ky 2 _ rfl), (r2 _).trans (ky 3 _ rfl), (r2 _).trans ky4⟩
      have HSM : Hid (∀ W, Below wr.heap.size wr W → Calls Try.prog 15 #[.agg #[.int .u16 (st : Nat), .int .u16 (ss : Nat), .int .u32 (pp : Nat), .bool fr, .slice a k2 cx], .agg #[.int .u16 (st : Nat), .int .u16 (ss : Nat), .int .u32 (pp : Nat), .bool fr, .slice a2 k2 cy]] W fun e w' => e = .returned (.bool true) ∧ Below W.heap.size W w') := fun W hW => by
        have hbb : Below w.heap.size w W := hb.trans (hW.mono hb.size)
        exact samemsg_yes st ss pp fr zs a a2 k2 cx cy W (sx.below hbb) (sy.below hbb)
      have HB := (show Hid _ from hb)
      have gi : (0 : Int) ≤ (i : Int) := by omega
      clear hb he hx hy hl1 hl2 hxi hyi sx sy kx ky kx4 ky4 hcl hcl2 hlt hg hg2
      go_wp2_with fail
      refine wp_region_fixW mixedX (fun W => Below wr.heap.size wr W) [(17, .slice (some ⟨g, 0, none⟩) n c), (18, .int .i64 (i : Nat)), (19, .pointer (some ⟨g, i * 5, none⟩)), (20, .agg #[.int .u16 (st : Nat), .int .u16 (ss : Nat), .int .u32 (pp : Nat), .bool fr, .slice a k2 cx]), (21, .slice (some ⟨g2, 0, none⟩) n c2), (22, .int .i64 (i : Nat)), (23, .pointer (some ⟨g2, i * 5, none⟩)), (24, .agg #[.int .u16 (st : Nat), .int .u16 (ss : Nat), .int .u32 (pp : Nat), .bool fr, .slice a2 k2 cy]), (25, .bool true), (26, .bool false)] ?Z1 ?hZ1 (by kernel_rfl) (by kernel_rfl) (by kernel_rfl) (by kernel_rfl) ?h01 ?hops1 ?he1
      case hZ1 => simp only [List.foldl_cons, List.foldl_nil, List.setIfInBounds_toArray, List.set_cons_zero, List.set_cons_succ]; rfl
      case h01 => exact (Below.refl _ _).drew
      case hops1 =>
        refine ⟨?_, ?_, ?_, ?_, ?_, ?_, ?_, ?_, ?_, ?_, trivial⟩
        · exact fix_val (by rfl) (fun W hW => by have hW : Below wr.heap.size wr W := hW; obtain ⟨y0, y1, y2, y3, y4, u0, u1, u2, u3, u4⟩ := HC.out W hW; go_simp; (try with_reducible rfl); (try omega))
        · exact fix_val (by rfl) (fun W hW => by have hW : Below wr.heap.size wr W := hW; obtain ⟨y0, y1, y2, y3, y4, u0, u1, u2, u3, u4⟩ := HC.out W hW; go_simp; (try with_reducible rfl); (try omega))
        · exact fix_val (by rfl) (fun W hW => by have hW : Below wr.heap.size wr W := hW; obtain ⟨y0, y1, y2, y3, y4, u0, u1, u2, u3, u4⟩ := HC.out W hW; go_simp; (try with_reducible rfl); (try omega))
        · exact fix_val (by rfl) (fun W hW => by have hW : Below wr.heap.size wr W := hW; obtain ⟨y0, y1, y2, y3, y4, u0, u1, u2, u3, u4⟩ := HC.out W hW; go_simp; (try with_reducible rfl); (try omega))
        · exact fix_val (by rfl) (fun W hW => by have hW : Below wr.heap.size wr W := hW; obtain ⟨y0, y1, y2, y3, y4, u0, u1, u2, u3, u4⟩ := HC.out W hW; go_simp; (try with_reducible rfl); (try omega))
        · exact fix_val (by rfl) (fun W hW => by have hW : Below wr.heap.size wr W := hW; obtain ⟨y0, y1, y2, y3, y4, u0, u1, u2, u3, u4⟩ := HC.out W hW; go_simp; (try with_reducible rfl); (try omega))
        · exact fix_val (by rfl) (fun W hW => by have hW : Below wr.heap.size wr W := hW; obtain ⟨y0, y1, y2, y3, y4, u0, u1, u2, u3, u4⟩ := HC.out W hW; go_simp; (try with_reducible rfl); (try omega))
        · exact fix_val (by rfl) (fun W hW => by have hW : Below wr.heap.size wr W := hW; obtain ⟨y0, y1, y2, y3, y4, u0, u1, u2, u3, u4⟩ := HC.out W hW; go_simp; (try with_reducible rfl); (try omega))
        · exact fix_call (vs := [.agg #[.int .u16 (st : Nat), .int .u16 (ss : Nat), .int .u32 (pp : Nat), .bool fr, .slice a k2 cx], .agg #[.int .u16 (st : Nat), .int .u16 (ss : Nat), .int .u32 (pp : Nat), .bool fr, .slice a2 k2 cy]]) (by rfl) rfl (by rfl) Try.func15 (by rfl) (by rfl) (fun W hW => by have hW : Below wr.heap.size wr W := hW; exact (HSM.out W hW).mono (fun e V hd => ⟨hd.1, hW.trans (hd.2.mono hW.size)⟩))
        · exact fix_val (by rfl) (fun W hW => by have hW : Below wr.heap.size wr W := hW; obtain ⟨y0, y1, y2, y3, y4, u0, u1, u2, u3, u4⟩ := HC.out W hW; go_simp; (try with_reducible rfl); (try omega))
      case he1 =>
      intro W hW
      have hW : Below wr.heap.size wr W := hW
      have HB2 : Hid (Below w.heap.size w W) := HB.out.trans (hW.mono HB.out.size)
      clear hW
      go_wp2
      go_roundw
      case rel => exact ⟨i + 1, by omega, by go_num, HB2.out⟩
      case measure => simp [intOf]; omega
    · have hln : ¬ (i : Int) < (n : Int) := by omega
      have HB := (show Hid _ from hb)
      clear hb hlt
      go_wp2
      go_ret
      exact ⟨rfl, HB.out⟩
end Go.Proofs.Ytjaheelgcjafcaa
namespace Go.Proofs.Ytjaheelgcjafcaa
open Go.RowKit Go.MapKept Go.Maps
theorem adc_of {W0 w w2 : World} {px nb mb wb py : Nat} {s : SmS} {wr : Nat → Option Addr × Nat} {Y Z : Nat → Prop} {r : Rw} {E : List ChQ} {V : List RyD} (h1 : SmW w px nb mb wb wr Y s) (h2 : RfS W0 w2 py r s.nx E V Z) (h3 : Ali s (E.map ChQ.kv) (V.map RyD.mn)) {x : ChQ} (hx : x.Wf W0) : AdC W0 w2 py r s.nx E V Z x s.D := by
  refine ⟨h2, hx, h3.pcs, fun y hy => ?_, ?_, ?_, by rw [← h3.heldN]; exact h1.held⟩
  · have hm := h3.pcs.perm.mem_iff.2 (List.mem_map.2 ⟨y.kv, List.mem_map.2 ⟨y, hy, rfl⟩, rfl⟩)
    obtain ⟨z, hz, e⟩ := List.mem_map.1 hm
    have h := h1.dn z hz
    have e2 : z.2.st = y.st := congrArg (fun q : Nat × Pc => q.2.st) e
    omega
  · have := h3.wts.nodup
    rw [List.map_map, List.map_map] at this
    exact this
  · rw [← h3.heldN]
    unfold SmS.heldN
    have e1 := h3.pcs.len
    rw [List.length_map] at e1
    have e2 := h3.wts.len
    rw [List.length_map] at e2
    have e3 : ∀ (W : List (Nat × List Pc)), (∀ y ∈ W, 0 < y.2.length) → W.length ≤ sumD List.length W := by
      intro W
      induction W with
      | nil => intro _; exact Nat.le_refl _
      | cons y W ih =>
        intro hw
        have := ih (fun z hz => hw z (List.mem_cons_of_mem _ hz))
        have := hw y List.mem_cons_self
        show W.length + 1 ≤ y.2.length + sumD List.length W
        omega
    have := e3 s.W (fun y hy => (h1.ws y hy).2.pos)
    omega
/-- The bytes of messages that were told, which anyone may turn: in blocks from lo up to hi. -/
structure DatX (w : World) (lo hi : Nat) (n : Nat) (ga : Nat) (c : Nat) (xs : List Mq) : Prop where
  len : xs.length = n
  row : ∀ (i : Nat) (y : Mq), xs[i]? = some y → ∀ (j : Nat) u, (Mq.v y)[j]? = some u → w.cell? ⟨ga, i * 5 + j, none⟩ = some u
  dat : ∀ y ∈ xs, y.1.zs.length = 0 ∨ ∃ g, y.2.1 = some ⟨g, 0, none⟩ ∧ lo ≤ g ∧ g < hi ∧ g ≠ ga ∧ y.1.zs.length ≤ y.2.2 ∧ ∀ k, k < y.1.zs.length → (∃ v : Nat, v < 256 ∧ w.cell? ⟨g, k, none⟩ = some (.int .u8 (v : Nat))) ∧ w.frozen? ⟨g, k, none⟩ = false
  hi : hi ≤ w.heap.size
  gl : ga < w.heap.size
theorem relF_len (st : Nat) : ∀ f s T, (relF st f s T).2.length ≤ T.length + f := by
  intro f
  induction f with
  | zero => intro s T; rw [relF]; exact Nat.le_refl _
  | succ f ih =>
    intro s T
    cases h : lookD s.W (s.now st) with
    | none => rw [relF_none h]; exact Nat.le_add_right _ _
    | some ps =>
      rw [relF_some h]
      have := ih (s.let st) (T ++ [joinM ps])
      rw [List.length_append, List.length_singleton] at this
      omega
theorem add_told (s : SmS) (t : Nat) (p : Pc) : (s.add t p).2.length ≤ s.W.length + 2 := by
  unfold SmS.add
  dsimp only
  split
  · exact Nat.zero_le _
  · unfold SmS.tell
    dsimp only
    split
    · show 1 ≤ _; omega
    · split
      · exact Nat.zero_le _
      · unfold SmS.rel
        dsimp only
        refine Nat.le_trans (relF_len _ _ _ _) ?_
        have := putD_len_le s.W (tkey ((List.map (pcAt (putD s.D t p)) (runF (putD s.D t p) t)).headD zeroPc).st ((List.map (pcAt (putD s.D t p)) (runF (putD s.D t p) t)).headD zeroPc).ss) (List.map (pcAt (putD s.D t p)) (runF (putD s.D t p) t))
        rw [List.length_nil]
        omega
/-- Both Adds: what was told is the same, and the streams are again alike. w: at the program's, w1: at the reference's, w2: behind it. -/
structure TwoR (W0 w w1 w2 : World) (px nb mb wb py : Nat) (Y Z : Nat → Prop) (a : Option Addr) (n c : Nat) (a2 : Option Addr) (n2 c2 : Nat) : Prop where
  ex : ∃ B B2 s wr Y' r E V Z' xs ys, SmW w2 px nb mb wb wr Y' s ∧ RfS W0 w2 py r s.nx E V Z' ∧ Ali s (E.map ChQ.kv) (V.map RyD.mn) ∧ (∀ g, Z' g → ¬ Y' g ∧ g ≠ px ∧ g ≠ nb ∧ g ≠ mb ∧ g ≠ wb) ∧ ¬ Y' py ∧
    OwnM w2 B a n c xs ∧ OwnM w2 B2 a2 n2 c2 ys ∧ xs.map (·.1) = ys.map (·.1) ∧ (∀ y ∈ ys, Sl w2 y.2.1 y.1.zs.length y.2.2 y.1.zs) ∧ (∀ y ∈ xs, OwnB w2 B y.2.1 y.1.zs.length y.2.2 y.1.zs) ∧ (∀ y ∈ xs, ∀ g, (Value.slice y.2.1 y.1.zs.length y.2.2).ownBlock = some g → g < w1.heap.size) ∧ w.heap.size ≤ B ∧ (∀ g, Y' g → (Y g ∨ w.heap.size ≤ g) ∧ g < B) ∧ (∀ g, Z' g → Z g ∨ w1.heap.size ≤ g)
  le : n ≤ 1000
  same : n = n2
  b12 : Below W0.heap.size W0 w2
theorem two_adds {W0 w w1 w2 : World} {px nb mb wb py : Nat} {s : SmS} {wr : Nat → Option Addr × Nat} {Y Z : Nat → Prop} {r : Rw} {E : List ChQ} {V : List RyD} {x : ChQ} {e1 e2 : Ending}
    (h1 : SmW w px nb mb wb wr Y s) (h2 : RfS W0 w py r s.nx E V Z) (h3 : Ali s (E.map ChQ.kv) (V.map RyD.mn)) (h4 : ∀ g, Z g → ¬ Y g ∧ g ≠ px ∧ g ≠ nb ∧ g ≠ mb ∧ g ≠ wb) (h5 : ¬ Y py) (hxt : x.t < 4294967296) (ne : py ≠ px ∧ py ≠ nb ∧ py ≠ mb ∧ py ≠ wb)
    (hA : AddR w px nb mb wb Y s x.k x.f x.t x.st x.ss x.pp x.xN x.xZ (chkOf x.ck) e1 w1) (hR : RAdR W0 w1 py s.nx E V Z x e2 w2) (hb1 : Below W0.heap.size W0 w1) (hpy : W0.heap.size ≤ py) (hps : py < w.heap.size) :
    ∃ (H : Int) (a : Option Addr) (n c : Nat) (a2 : Option Addr) (n2 c2 : Nat), e1 = .returned (.tuple #[.slice a n c, .int .i64 H]) ∧ e2 = .returned (.tuple #[.slice a2 n2 c2, .int .i64 H]) ∧ TwoR W0 w w1 w2 px nb mb wb py Y Z a n c a2 n2 c2 := by
  have hh := h3.hold x
  cases hA with
  | bad hz he hbl =>
    cases hR with
    | bad hz2 he2 hbl2 =>
      refine ⟨holdN s x.k x.t x.st (chkOf x.ck), none, 0, 0, none, 0, 0, he, by rw [he2, hh], ⟨w1.heap.size, w1.heap.size, s, wr, Y, r, E, V, Z, [], [], (h1.below hbl).below hbl2, (h2.below hbl).below hbl2, h3, h4, h5, OwnG.nil _ _, OwnG.nil _ _, rfl, (fun y hy => by cases hy), (fun y hy => by cases hy), (fun y hy => by cases hy), hbl.size, fun g hg => ⟨.inl hg, Nat.lt_of_lt_of_le (h1.yl g hg) hbl.size⟩, fun g hg => .inl hg⟩, by omega, rfl, hb1.trans (hbl2.mono hb1.size)⟩
    | no r' Z' hz2 _ _ _ _ _ => exact absurd (hh.trans hz2) hz
    | yes u m xs w3 Z1 a n c hz2 _ _ _ _ _ _ _ => exact absurd (hh.trans hz2) hz
  | ok da dc a n c B wr' Y' hz he hms hsm hfr hB hY =>
    obtain ⟨ha, hb, hc, hd, he5⟩ := holdN_ok hz
    have hn : lookD s.D x.t = none := by cases e : lookD s.D x.t with
      | none => rfl
      | some z => rw [e] at hd; cases hd
    obtain ⟨k1, k2⟩ := both_add h3 hxt hn h1.lenDle (p := ⟨x.f, x.st, x.ss, x.pp, da, x.xN, dc, x.xZ⟩) rfl
    obtain ⟨xs, hx1, hx2, hx3⟩ := hms.ex
    have hnl : n = (s.add x.t ⟨x.f, x.st, x.ss, x.pp, da, x.xN, dc, x.xZ⟩).2.length := hms.len
    have hn1000 : n ≤ 1000 := by have := add_told s x.t ⟨x.f, x.st, x.ss, x.pp, da, x.xN, dc, x.xZ⟩; have := h1.lenW; omega
    have hpy1 : ¬ Y' py := fun e => by rcases (hY py e).1 with h | h; exact h5 h; omega
    -- what the reference's Add leaves of the program's
    have keep : ∀ {w2 : World}, Fr (fun g => g = py) w1 w2 → SmW w2 px nb mb wb wr' Y' (s.add x.t ⟨x.f, x.st, x.ss, x.pp, da, x.xN, dc, x.xZ⟩).1 ∧ OwnM w2 B a n c xs ∧ (∀ y ∈ xs, OwnB w2 B y.2.1 y.1.zs.length y.2.2 y.1.zs) := fun hf =>
      ⟨hsm.fr hf (fun g _ hg => by subst hg; exact ⟨hpy1, ne.1, ne.2.1, ne.2.2.1, ne.2.2.2⟩), OwnG.fr hx2 hf (fun g hg e => by have := (hx2.own.lt g hg).1; omega), fun y hy => (hx3 y hy).fr hf (fun g h1 _ e => by have e : g = py := e; omega)⟩
    have hlt : ∀ y ∈ xs, ∀ g, (Value.slice y.2.1 y.1.zs.length y.2.2).ownBlock = some g → g < w1.heap.size := fun y hy g hg => ((hx3 y hy).own.lt g hg).2
    have hzz : ∀ (Z' : Nat → Prop), (∀ g, Z' g → Z g ∨ w1.heap.size ≤ g) → ∀ g, Z' g → ¬ Y' g ∧ g ≠ px ∧ g ≠ nb ∧ g ≠ mb ∧ g ≠ wb := fun Z' hz' g hg => by
      rcases hz' g hg with hg | hg
      · have := h4 g hg
        have h6 := (h2.zp g hg).2
        exact ⟨fun e => by rcases (hY g e).1 with h | h; exact this.1 h; omega, this.2⟩
      · have g1 := hsm.st.lt
        have g2 := hsm.nl
        have g3 := hsm.mp.lt
        have g4 := hsm.wm.lt
        exact ⟨fun e => by have := hsm.yl g e; omega, by omega, by omega, by omega, by omega⟩
    cases hR with
    | bad hz2 _ _ => exact absurd (hh.symm.trans hz) hz2
    | no r' Z' hz2 hw he2 hrf hZ' hf2 =>
      obtain ⟨q1, q2, q3⟩ := k1 hw
      obtain ⟨m1, m2, m3⟩ := keep hf2
      rw [q2] at hx1 hnl
      have hxn : xs = [] := by simpa using hx1
      subst hxn
      refine ⟨0, a, n, c, none, 0, 0, he, he2, ⟨B, w1.heap.size, _, wr', Y', r', _, _, Z', [], [], m1, by rw [q3]; exact hrf, q1, hzz Z' hZ', hpy1, m2, OwnG.nil _ _, rfl, (fun y hy => by cases hy), m3, hlt, hB, hY, hZ'⟩, hn1000, hnl, ?_⟩
      exact ⟨hf2.os.trans hb1.os, hf2.tape.trans hb1.tape, hf2.output.trans hb1.output, Nat.le_trans hb1.size hf2.size, fun i hi => (hf2.block i (Nat.lt_of_lt_of_le hi hb1.size) (by omega)).trans (hb1.block i hi)⟩
    | yes u m ys w3 Z1 a2 n2 c2 hz2 hW hxs hl he2 hT hf3 hZ1 =>
      obtain ⟨q1, q2, q3⟩ := k2 u m ys hW hxs hl
      obtain ⟨r', nx', V', Z', hrf, hnx, hV', hZ'⟩ := hT.st
      obtain ⟨a4, n4, c4, he4, hm4⟩ := hT.ans
      obtain ⟨B2, zs, hz1, hz3, hz4⟩ := hm4.ex
      injection he4 with he4
      injection he4 with e5 e6 e7
      subst e5 e6 e7
      have hf2 : Fr (fun g => g = py) w1 w2 := hf3.trans hT.fr
      obtain ⟨m1, m2, m3⟩ := keep hf2
      have hZ2 : ∀ g, Z' g → Z g ∨ w1.heap.size ≤ g := fun g hg => by
        rcases hZ' g hg with h | h
        · exact hZ1 g h
        · exact .inr (Nat.le_trans hf3.size h)
      have hzl : zs.length = n2 := hz3.len
      refine ⟨0, a, n, c, a2, n2, c2, he, he2, ⟨B, B2, _, wr', Y', r', _, V', Z', xs, zs, m1, by rw [q3, ← hnx]; exact hrf, by rw [hV']; exact q1, hzz Z' hZ2, hpy1, m2, hz3, ?_, hz4, m3, hlt, hB, hY, hZ2⟩, hn1000, ?_, ?_⟩
      · rw [hx1, q2, hz1]
      · have : xs.length = n := hx2.len
        have e : xs.map (·.1) = zs.map (·.1) := by rw [hx1, q2, hz1]
        have := congrArg List.length e
        rw [List.length_map, List.length_map] at this
        omega
      · exact ⟨hf2.os.trans hb1.os, hf2.tape.trans hb1.tape, hf2.output.trans hb1.output, Nat.le_trans hb1.size hf2.size, fun i hi => (hf2.block i (Nat.lt_of_lt_of_le hi hb1.size) (by omega)).trans (hb1.block i hi)⟩
end Go.Proofs.Ytjaheelgcjafcaa
