/- arp: the addresses of the neighbours, which rise: slices.Sorted(maps.Keys(..)). -/
import Derived.Test.YtfjpckaphfdfnaaGreatDoorSrA
import Derived.Test.YtfjpckaphfdfnaaGreatDoorMpIt
import Derived.Test.YtfjpckaphfdfnaaGreatDoorAr3
import Derived.RangeFuncNested
import Derived.RangeFuncBound
import Derived.RangeFuncCalls
import Derived.RangeFuncLeaves
import Derived.RangeFuncFrom
import Derived.Shelf.Abstract
import Derived.Shelf.RegionOpen
import Derived.WalkKit
import Derived.OwnWalkIn
import Derived.TacticsInMore
import Derived.LoopNIn
import Derived.LoopIn
import Derived.TacticsIn
import Derived.RegionIn
import Derived.Maps.AppendAt
namespace Go.Proofs.YtfjpckaphfdfnaaGreatDoor
open Go.RowKit Go.MapKept Go.Maps Go.Shelf
attribute [local go_sem] Oper.semAt_some
def encA (q : Nat) : Array Value := #[.int .u32 (q : Nat)]
/-- The keys, each once. -/
structure KeysOf (g : Nat → Option Value) (n : Nat) (ss : List Nat) : Prop where
  nodup : ss.Nodup
  mem : ∀ q, q ∈ ss ↔ IpK q ∧ (g q).isSome = true
  len : ss.length ≤ n
theorem ip_inj : ∀ q q', IpK q → IpK q' → ipV q = ipV q' → q = q' := fun q q' _ _ h => by simp [ipV] at h; omega
set_option maxRecDepth 100000 in
set_option maxHeartbeats 1000000 in
theorem keys1_in (m : Nat) (hm : 1 ≤ m) (l Bm b n : Nat) (g : Nat → Option Value) (J Jx : List Nat → World → Prop) (W : World) (hJ : AbidesFrom W.heap.size J)
    (hY : ∀ pre x W1, J pre W1 → pre.length < n → YieldAt Fence.wide (m - 1) Tryz.prog l (encA x) W1 fun e W' =>
      (e = .returned (.bool true) ∧ J (pre ++ [x]) W' ∧ KeepsWalks W1 W') ∨ (e = .returned (.bool false) ∧ Jx (pre ++ [x]) W'))
    (hB : W.cell? ⟨Bm, 0, none⟩ = some (.map (some b))) (hmp : Mp ipV IpK W b n g) (h0 : J [] W) :
    CallsIn Fence.wide m Tryz.prog 135 #[.func (.yield l) #[] #[], .pointer (some ⟨Bm, 0, none⟩)] W fun e W' => (∃ v, e = .returned v) ∧
      ((∃ xs, KeysOf g n xs ∧ J xs W') ∨ (∃ pre, True ∧ Jx pre W')) := by
  refine callsIn_of_wp Tryz.func135 rfl trivial ?_ rfl
  simp only [Tryz.ntmps135, List.size_toArray, List.length_cons, List.length_nil, Nat.reduceAdd, Nat.reduceSub, Array.replicate_succ, Array.replicate_zero, List.push_toArray, List.append_toArray, List.nil_append, List.cons_append]
  obtain ⟨W0, hrun, ⟨left, hit⟩, hb0, hz0⟩ := hmp.range (t := 167) Tryz.underlying167
  have hJ0 : J [] W0 := hJ [] W W0 none h0 ⟨hb0.os, hb0.tape, hb0.output, hb0.size, fun k hk _ => hb0.block k hk⟩ (fun r e => by cases e)
  have HS := (show Hid _ from hb0)
  clear hz0 hb0 h0
  gi_wp2
  gi_loopw [3] (fun _ wr => ∃ (ss : List Nat) (left : Nat), MIt ipV IpK wr b W.heap.size n g ss left ∧ J ss wr) (fun _ wr => wr.rangeLeft b W.heap.size)
  case atStart => exact ⟨[], left, hit, hJ0⟩
  case round =>
    obtain ⟨ss, left, hit, hJs⟩ := hrel
    have HJ := (show Hid _ from hJs)
    have HL := (show Hid _ from hit.left_eq)
    have HI := (show Hid _ from hit)
    rcases hit.next (P := Tryz.prog) ip_inj 0 with ⟨hl0, hall, hrun⟩ | ⟨q, v, w2, left2, hq, hv, hqn, hlt, hrun, hit2, hll, hg2, hs2, hen⟩
    · have HA := (show Hid _ from hall)
      clear hJs hit hall
      gi_wp2
      go_end0
      refine ⟨⟨_, rfl⟩, .inl ⟨ss, ⟨HI.out.nodup, fun q => ⟨fun hq => HI.out.there q hq, fun hq => HA.out q hq.1 hq.2⟩, ?_⟩, HJ.out⟩⟩
      obtain ⟨es, c, s, c0, seen, h1, h2, h3, h4, h5, h6, h7, h8, h9, h10, h11, _⟩ := HI.out.ex
      omega
    · have hJ2 : J ss w2 := hJ ss wr w2 (some W.heap.size) hJs hg2 (fun r e => by cases e; exact ⟨Nat.le_refl _, hit.iter⟩)
      have hYq : YieldAt Fence.wide (m - 1) Tryz.prog l #[.int .u32 (q : Nat)] w2 fun e W' => ∃ r : Bool, e = .returned (.bool r) ∧ (r = true → J (ss ++ [q]) W' ∧ KeepsWalks w2 W') ∧ (r = false → Jx (ss ++ [q]) W') := by
        obtain ⟨fn, tmps, assign, body, hy, hR⟩ := hY ss q w2 hJ2 hlt
        refine ⟨fn, tmps, assign, body, hy, hR.mono ?_⟩
        rintro e W' (⟨rfl, h1, h2⟩ | ⟨rfl, h1⟩)
        · exact ⟨true, rfl, fun _ => ⟨h1, h2⟩, fun h => (by cases h)⟩
        · exact ⟨false, rfl, fun h => (by cases h), fun _ => h1⟩
      have HM2 := (show Hid _ from And.intro hit2 hll)
      obtain ⟨fn, tmps, assign, body, hy, hR⟩ := hYq
      clear hs2 hg2 hJ2 hJs hit hit2 hll hqn hlt
      unfold ipV at hrun hen
      gi_wp2
      refine hR.mono ?_
      rintro e W3 ⟨r, rfl, h3, h4⟩
      cases r with
      | true =>
        obtain ⟨hJ3, hk3⟩ := h3 rfl
        have HM3 := (show Hid _ from And.intro hJ3 (HM2.out.1.walks hk3))
        clear h3 h4 hJ3 hk3 hR hy
        gi_wp2
        go_roundw
        case rel => exact ⟨ss ++ [q], left2, HM3.out.2, HM3.out.1⟩
        case measure => rw [HM3.out.2.left_eq, HL.out]; exact HM2.out.2
      | false =>
        have HX := (show Hid _ from h4 rfl)
        clear h3 h4 hR hy
        gi_wp2
        refine bodyPost_ret (results_none rfl _ _ _) rfl ?_
        exact ⟨⟨_, rfl⟩, .inr ⟨_, trivial, HX.out⟩⟩
theorem keys_stops (m : Nat) (hm : 1 ≤ m) (Bm b n : Nat) (g : Nat → Option Value) (w : World) (hBm : Bm < w.heap.size) (hB : w.cell? ⟨Bm, 0, none⟩ = some (.map (some b))) (hmp : Mp ipV IpK w b n g) :
    SeqStopsK Fence.wide m Tryz.prog 135 #[.pointer (some ⟨Bm, 0, none⟩)] encA KeepsWalks (KeysOf g n) (fun _ => True) n w :=
  fun l J Jx W hW hJ _ hY h0 => keys1_in m hm l Bm b n g J Jx W hJ hY ((hW.cell (p := ⟨Bm, 0, none⟩) hBm).trans hB) (hmp.below hW) h0
theorem keys_any (mb : Option Nat) (w : World) : Calls Tryz.prog 105 #[.map mb] w fun e w' => e = .returned (.func (.func 135) #[] #[.pointer (some ⟨w.heap.size, 0, none⟩)]) ∧ w' = w.alloc (.cells #[.map mb] 167) := by
  go_enter Tryz.func105, Tryz.ntmps105
  go_wp2
  go_ret
  exact ⟨rfl, rfl⟩
theorem OwnA.keepO {w w' : World} {B : Nat} {a : Option Addr} {n c : Nat} {zs : List Nat} {row : Option Nat} (h : OwnA w B a n c zs) (hg : w.grownBy w' row) (hr : ∀ r, row = some r → ∃ o : Obj, w.heap[r]? = some o ∧ o.isCells = false) : OwnA w' B a n c zs := by
  refine OwnG.kept h hg ?_
  cases hb : (Value.slice a n c).ownBlock with
  | none => exact .inl rfl
  | some g =>
    refine .inr fun e => ?_
    obtain ⟨o, ho, hc⟩ := hr g e.symm
    rcases h.own.2 with ⟨hv, _⟩ | ⟨g', cap, cur, hv, _, hh, _⟩
    · rw [hv] at hb; cases hb
    · rw [hv] at hb
      cases hb
      rw [hh] at ho
      cases ho
      cases hc
/-- Between two rounds: the keys that came, in the box. -/
def ApU (w : World) (pre : List Nat) (W : World) : Prop := ∃ a c, W.cell? ⟨w.heap.size, 0, none⟩ = some (.slice a pre.length c) ∧ W.frozen? ⟨w.heap.size, 0, none⟩ = false ∧ OwnA W (w.heap.size + 1) a pre.length c pre ∧ w.heap.size + 1 ≤ W.heap.size
theorem ApU.keep {w : World} {pre : List Nat} {A B : World} {row : Option Nat} (h : ApU w pre A) (hg : A.grownBy B row) (hr : ∀ r, row = some r → ∃ o : Obj, A.heap[r]? = some o ∧ o.isCells = false) : ApU w pre B := by
  obtain ⟨a, c, k0, f0, ho, h3⟩ := h
  exact ⟨a, c, cell_kept k0 hg hr, (frozen_kept k0 hg hr).trans f0, OwnA.keepO ho hg hr, Nat.le_trans h3 hg.size⟩
theorem layA_info : (Tryz.prog.info? 23).map (fun i => (i.zero, i.size, i.bytes)) = some (some (.int .u32 0), 1, 4) := by kernel_rfl
theorem newA_at (W : World) (x : Nat) : ∀ (j : Nat) (u : Value), ([.int .u32 (x : Nat)] : List Value)[j]? = some u → (W.alloc (.cells #[.int .u32 (x : Nat)] 23)).cell? ((⟨W.heap.size, 0, none⟩ : Addr).add j) = some u := by
  intro j u hj
  rcases j with _ | j
  · simp at hj
    subst hj
    exact (Stc.new W [.int .u32 (x : Nat)] 23 _ rfl).cell 0 _ rfl
  · simp at hj
theorem apA_after (w W w1 : World) (a : Option Addr) (n1 c : Nat) (pre : List Nat) (x g' cap' : Nat) (ho : OwnA W (w.heap.size + 1) a n1 c pre) (h3 : w.heap.size + 1 ≤ W.heap.size) (hB : Below w.heap.size w W)
    (hown' : w1.ownsRow (w.heap.size + 1) 23 1 (.slice (some ⟨g', 0, none⟩) (n1 + 1) cap') (n1 + 1) (valsG u32C pre ++ [.int .u32 (x : Nat)])) (hgrow : (W.alloc (.cells #[.int .u32 (x : Nat)] 23)).grownBy w1 (Value.slice a n1 c).ownBlock)
    (k0 : W.cell? ⟨w.heap.size, 0, none⟩ = some (.slice a n1 c)) (f0 : W.frozen? ⟨w.heap.size, 0, none⟩ = false) :
    OwnA w1 (w.heap.size + 1) (some ⟨g', 0, none⟩) (n1 + 1) cap' (pre ++ [x]) ∧ KeepsOthers W w1 ∧ w1.cell? ⟨w.heap.size, 0, none⟩ = some (.slice a n1 c) ∧ w1.frozen? ⟨w.heap.size, 0, none⟩ = false ∧ Below w.heap.size w w1 := by
  have hb1 : Below (w.heap.size + 1) W w1 := ((Below.refl _ _).alloc h3 _).grown hgrow (by simp; omega) (fun k hk => (ho.own.lt k hk).1)
  refine ⟨⟨by simp [ho.len], by rw [valsG_app]; exact hown'⟩, ?_, (hb1.cell (p := ⟨w.heap.size, 0, none⟩) (by show w.heap.size < _; omega)).trans k0, (hb1.frozen (p := ⟨w.heap.size, 0, none⟩) (by show w.heap.size < _; omega)).trans f0, hB.trans (hb1.mono (by omega))⟩
  refine (KeepsOthers.alloc _ _).trans (KeepsOthers.of_grownBy hgrow (fun j o hj hjo => ?_))
  rcases ho.own.2 with ⟨hv, _⟩ | ⟨g, cap, cur, hv, _, hh, _⟩
  · rw [hv] at hj; cases hj
  · have hlt := (ho.own.lt j hj).2
    rw [hv] at hj
    cases hj
    rw [Below.heap_alloc _ _ _ hlt, hh] at hjo
    cases hjo
    rfl
set_option maxRecDepth 100000 in
set_option maxHeartbeats 2000000 in
theorem appSeq_in (m gf n : Nat) (lb : Array Value) (S : List Nat → Prop) (w w0 : World) (hw0 : Below w0.heap.size w0 w) (hn : n ≤ 1000) (eg : ∀ args w, (callFunc gf args).run Tryz.prog w = .ok (.enter gf args) w) (hseq : SeqStopsK Fence.wide (m - 1) Tryz.prog gf lb encA KeepsWalks S (fun _ => True) n w0) (hm : 2 ≤ m) :
    CallsIn Fence.wide m Tryz.prog 173 #[.slice none 0 0, .func (.func gf) #[] lb] w fun e w' => ∃ a c ss, e = .returned (.slice a ss.length c) ∧ S ss ∧ OwnA w' w.heap.size a ss.length c ss ∧ Below w.heap.size w w' := by
  refine callsIn_of_wp_marks Tryz.func173 rfl trivial ?_ rfl
  simp only [Tryz.ntmps173, List.size_toArray, List.length_cons, List.length_nil, Nat.reduceAdd, Nat.reduceSub, Array.replicate_succ, Array.replicate_zero, List.push_toArray, List.append_toArray, List.nil_append, List.cons_append]
  gi_wp2
  obtain ⟨W0, hW0⟩ : ∃ W0, w.alloc (.cells #[.slice none 0 0] 130) = W0 := ⟨_, rfl⟩
  have hz0 : W0.heap.size = w.heap.size + 1 := by rw [← hW0]; simp
  have hB0 : Below w.heap.size w W0 := by rw [← hW0]; exact (Below.refl _ w).alloc (Nat.le_refl _) _
  have hc0 : W0.cell? ⟨w.heap.size, 0, none⟩ = some (.slice none 0 0) := (Stc.new w [.slice none 0 0] 130 W0 hW0.symm).cell 0 _ rfl
  have hf0 : W0.frozen? ⟨w.heap.size, 0, none⟩ = false := (Stc.new w [.slice none 0 0] 130 W0 hW0.symm).free 0
  rw [hW0]
  clear hW0
  refine wpIn_rangeFunc_ownF rfl (by omega) (gf := gf) (lb := lb) rfl trivial eg hseq walksK_t walksK_b (hw0.trans (hB0.mono hw0.size)) (fun _ => rfl)
    (fun pre W => ApU w pre W ∧ Below w.heap.size w W) (fun _ _ _ => False)
    (OwnFrom.and (Own.from (fun s A B row hs hg hr => hs.keep hg hr) _) (ownFrom_below (Nat.le_refl _) (by omega)))
    (fun _ _ _ _ _ hs _ _ => hs)
    ⟨⟨none, 0, hc0, hf0, OwnG.nil _ _, by omega⟩, hB0⟩
    (fun x => { tmps := #[.slice none 0 0, .func (.func gf) #[] lb, .pointer (some ⟨w.heap.size, 0, none⟩), undef, .slice none 0 0, .int .u32 (x : Nat), .func (.func gf) #[] lb, .int .u32 (x : Nat), undef, undef, undef, undef, undef], defers := [] }) ?assign ?body ?done ?stop
  case assign =>
    intro l x W K hK
    unfold encA
    gi_wp2
    exact hK
  case body =>
    rintro l pre x W ⟨⟨a, c, k0, f0, ho, h3⟩, hB⟩ hlt
    obtain ⟨n1, hn1⟩ : ∃ n1, n1 = pre.length := ⟨_, rfl⟩
    rw [← hn1] at k0 ho hlt
    obtain ⟨i0, hi, hz0', hz1, hz2⟩ := info_parts (layA_info)
    have HN := (show Hid _ from hn1)
    have hsz := hB.size
    clear hn1
    gi_wp2_with (gi_at_builtin; go_must (refine wpListIn_append_own _ rfl _ _ 130 rfl (w.heap.size + 1) 23 i0 (.int .u32 0) 1 4 Tryz.underlying130 hi hz0' hz1 hz2 rfl (by decide) _ n1 (valsG u32C pre) rfl ((OwnG.below ho ((Below.refl _ _).alloc (Nat.le_refl _) _)).own) ⟨W.heap.size, 0, none⟩ 1 1 [.int .u32 (x : Nat)] rfl rfl (newA_at W x) (by simp [Value.oneCell']) (by unfold maxLen; omega) (by omega) (by simp; omega) ?_); go_must (intro v' w1 hown' hgrow _; obtain ⟨g', cap', rfl⟩ := ownsRow_succ hown'; obtain ⟨hq1, hk2, k2, f2, hb2⟩ := apA_after w W w1 a n1 c pre x g' cap' ho h3 hB hown' hgrow k0 f0; clear hown' hgrow))
    have hf := Fr.setCell (fun k => k = w.heap.size) w1 ⟨w.heap.size, 0, none⟩ (.slice (some ⟨g', 0, none⟩) (n1 + 1) cap') rfl
    refine ⟨hk2.trans (KeepsOthers.setCell _ _ _), ?_, ⟨some ⟨g', 0, none⟩, cap', ?_, ?_, ?_, ?_⟩, ?_⟩
    · exact ⟨(hk2.trans (KeepsOthers.setCell _ _ _)).size, fun k o hk ho => (hk2.trans (KeepsOthers.setCell _ _ _)).same k o hk (by cases o <;> first | rfl | cases ho)⟩
    · rw [List.length_append, ← HN.out]
      exact World.cell?_setCell_same' _ _ _ (by rw [k2]; rfl)
    · rw [World.frozen?_setCell]; exact f2
    · rw [List.length_append, ← HN.out]
      exact hq1.fr hf (fun k hk e => by have := (hq1.own.lt k hk).1; omega)
    · exact Nat.le_trans h3 (Nat.le_trans hk2.size hf.size)
    · exact hb2.setCell (p := ⟨w.heap.size, 0, none⟩) (Nat.le_refl _) _
  case done =>
    rintro D xs W hD hS ⟨⟨a, c, k0, f0, ho, h3⟩, hB⟩ hDD
    have HH := (show Hid _ from And.intro hS (And.intro ho (And.intro hB hDD)))
    clear hS ho hB hDD
    gi_wp2
    obtain ⟨hS, ho, hB, hDD⟩ := HH.out
    refine ⟨by simp, .inl ⟨_, _, rfl, run_takeDeferred hDD, ?_⟩⟩
    refine ⟨_, results_tmp rfl _ _ _, a, c, xs, rfl, hS, ?_, ?_⟩
    · exact (OwnG.base (OwnA.keepO ho (grownBy_putObj' W D _) (fun r e => by cases e; exact ⟨_, hDD, rfl⟩)) (by omega))
    · exact hB.grown (grownBy_putObj' W D _) hB.size (fun k e => by cases e; omega)
  case stop =>
    rintro D c pre W hD hS hX hDD
    exact hX.elim
set_option maxRecDepth 100000 in
theorem collect_in (m gf n : Nat) (lb : Array Value) (S : List Nat → Prop) (w w0 : World) (hw0 : Below w0.heap.size w0 w) (hn : n ≤ 1000) (eg : ∀ args w, (callFunc gf args).run Tryz.prog w = .ok (.enter gf args) w) (hseq : SeqStopsK Fence.wide (m - 1 - 1) Tryz.prog gf lb encA KeepsWalks S (fun _ => True) n w0) (hm : 3 ≤ m) :
    CallsIn Fence.wide m Tryz.prog 133 #[.func (.func gf) #[] lb] w fun e w' => ∃ a c ss, e = .returned (.slice a ss.length c) ∧ S ss ∧ OwnA w' w.heap.size a ss.length c ss ∧ Below w.heap.size w w' := by
  have h1m : 1 ≤ m := by omega
  have hA := appSeq_in (m - 1) gf n lb S w w0 hw0 hn eg hseq (by omega)
  refine callsIn_of_wp Tryz.func133 rfl trivial ?_ rfl
  simp only [Tryz.ntmps133, List.size_toArray, List.length_cons, List.length_nil, Nat.reduceAdd, Nat.reduceSub, Array.replicate_succ, Array.replicate_zero, List.push_toArray, List.append_toArray, List.nil_append, List.cons_append]
  gi_wp2_with (refine ⟨trivial, ?_⟩; gi_at_call 173; refine hA.mono ?_; rintro e w' ⟨a, c, ss, rfl, hS, ho, hb⟩)
  go_ret
  exact ⟨a, c, ss, rfl, hS, ho, hb⟩
/-- The keys, rising. -/
structure RiseOf (g : Nat → Option Value) (n : Nat) (L : List Nat) : Prop where
  mem : ∀ q, q ∈ L ↔ IpK q ∧ (g q).isSome = true
  len : L.length ≤ n
  rise : L.Pairwise (· < ·)
theorem KeysOf.rise {g : Nat → Option Value} {n : Nat} {ss L : List Nat} (h : KeysOf g n ss) (hp : L.Perm ss) (hs : ∀ k l, k < l → l < L.length → L.getD k 0 ≤ L.getD l 0) : RiseOf g n L := by
  refine ⟨fun q => by rw [hp.mem_iff]; exact h.mem q, by rw [hp.length_eq]; exact h.len, ?_⟩
  have hnd : L.Nodup := hp.nodup_iff.2 h.nodup
  rw [List.pairwise_iff_getElem]
  intro i j hi hj hij
  have h1 := hs i j hij hj
  rw [List.getD_eq_getElem?_getD, List.getD_eq_getElem?_getD, List.getElem?_eq_getElem hi, List.getElem?_eq_getElem hj] at h1
  simp at h1
  have h2 : L[i] ≠ L[j] := fun e => by
    have := (List.getElem_inj (h₀ := hi) (h₁ := hj) hnd).1 e
    omega
  omega
structure SrdP (w : World) (g : Nat → Option Value) (n : Nat) (e : Ending) (w' : World) : Prop where
  out : ∃ a c L, e = .returned (.slice a L.length c) ∧ RiseOf g n L ∧ OwnA w' w.heap.size a L.length c L
  bel : Below w.heap.size w w'
set_option maxRecDepth 100000 in
set_option maxHeartbeats 1000000 in
theorem sorted_in (m gf n : Nat) (lb : Array Value) (g : Nat → Option Value) (w w0 : World) (hw0 : Below w0.heap.size w0 w) (hn : n ≤ 12) (eg : ∀ args w, (callFunc gf args).run Tryz.prog w = .ok (.enter gf args) w) (hseq : SeqStopsK Fence.wide (m - 1 - 1 - 1) Tryz.prog gf lb encA KeepsWalks (KeysOf g n) (fun _ => True) n w0) (hm : 4 ≤ m) :
    CallsIn Fence.wide m Tryz.prog 104 #[.func (.func gf) #[] lb] w (SrdP w g n) := by
  have h1m : 1 ≤ m := by omega
  have hA := collect_in (m - 1) gf n lb (KeysOf g n) w w0 hw0 (by omega) eg hseq (by omega)
  refine callsIn_of_wp Tryz.func104 rfl trivial ?_ rfl
  simp only [Tryz.ntmps104, List.size_toArray, List.length_cons, List.length_nil, Nat.reduceAdd, Nat.reduceSub, Array.replicate_succ, Array.replicate_zero, List.push_toArray, List.append_toArray, List.nil_append, List.cons_append]
  gi_wp2_with (refine ⟨trivial, ?_⟩; gi_at_call 133; refine hA.mono ?_; rintro e w1 ⟨a, c, ss, rfl, hS, ho, hb⟩)
  have hl := hS.len
  obtain ⟨n1, hn1⟩ : ∃ n1, n1 = ss.length := ⟨_, rfl⟩
  rw [← hn1] at ho hl
  rw [← hn1]
  have HN := (show Hid _ from hn1)
  have HS := (show Hid _ from hS)
  have HB := (show Hid _ from hb)
  clear hn1 hS hb hA hseq
  by_cases hz : n1 = 0
  · have HO := (show Hid _ from ho)
    have HZ := (show Hid _ from hz)
    clear ho
    subst hz
    gi_wp2_with (refine ⟨trivial, ?_⟩; gi_at_call 134; refine (callsIn_wide.2 (sort_zero a c _)).mono ?_; rintro e w2 ⟨rfl, rfl⟩)
    go_ret
    refine ⟨⟨a, c, [], rfl, ⟨fun q => ?_, Nat.zero_le _, List.Pairwise.nil⟩, ?_⟩, HB.out⟩
    · rw [← HS.out.mem q, List.eq_nil_of_length_eq_zero HN.out.symm]
    · have := HO.out
      rw [List.eq_nil_of_length_eq_zero HN.out.symm] at this
      exact this
  · obtain ⟨gb, rfl, hg1, _⟩ := OwnG.at_ ho (fun _ => rfl) (by omega)
    have HO := (show Hid _ from ho)
    have HSo := (show Hid _ from sort_any ho (by omega) (by omega))
    clear ho
    gi_wp2_with (refine ⟨trivial, ?_⟩; gi_at_call 134; refine (callsIn_wide.2 HSo.out).mono ?_; rintro e w2 ⟨rfl, ⟨L, hp, hs, ho2⟩, hf⟩)
    have HL : Hid (L.length = n1) := by show _ = _; rw [hp.length_eq]; exact HN.out.symm
    have HR : Hid (RiseOf g n L) := HS.out.rise hp (by rw [HL.out]; exact hs)
    have HX := (show Hid _ from And.intro ho2 hf)
    clear hp hs ho2 hf
    go_ret
    refine ⟨⟨some ⟨gb, 0, none⟩, c, L, by rw [HL.out]; rfl, HR.out, by rw [HL.out]; exact HX.out.1⟩, HB.out.trans (HX.out.2.below _ HB.out.size (fun k hk => by rw [hk]; exact hg1))⟩
set_option maxRecDepth 100000 in
set_option maxHeartbeats 1000000 in
theorem addr_any {w : World} {p mb : Nat} {mac ip : Nat} {now : Int} {lost : Int} {n : Nat} {g : Nat → Option Value} (h : Stc w p (CaC mac ip now (.map (some mb)) lost)) (hm : Mp ipV IpK w mb n g) (hn : n ≤ 12) :
    Calls Tryz.prog 68 #[.pointer (some ⟨p, 0, none⟩)] w (SrdP w g n) := by
  refine (callsIn_wide (n := 6)).1 ?_
  have c3 := h.cell 3 _ rfl
  obtain ⟨W0, hW0⟩ : ∃ W0, W0 = w.alloc (.cells #[.map (some mb)] 167) := ⟨_, rfl⟩
  have hb0 : Below w.heap.size w W0 := by rw [hW0]; exact (Below.refl _ w).alloc (Nat.le_refl _) _
  have st := Stc.new w [.map (some mb)] 167 W0 hW0
  have hS := sorted_in 5 135 n #[.pointer (some ⟨w.heap.size, 0, none⟩)] g W0 W0 (Below.refl _ _) hn (enters_of Tryz.func135 (by kernel_rfl) rfl) (keys_stops _ (by omega) w.heap.size mb n g W0 st.lt (st.cell 0 _ rfl) (hm.below hb0)) (by omega)
  have HB := (show Hid _ from hb0)
  rw [hW0] at hS
  clear hb0 st h hm
  refine callsIn_of_wp Tryz.func68 rfl trivial ?_ rfl
  simp only [Tryz.ntmps68, List.size_toArray, List.length_cons, List.length_nil, Nat.reduceAdd, Nat.reduceSub, Array.replicate_succ, Array.replicate_zero, List.push_toArray, List.append_toArray, List.nil_append, List.cons_append]
  gi_wp2_with (first
    | (refine ⟨trivial, ?_⟩; gi_at_call 105; refine (callsIn_wide.2 (keys_any _ _)).mono ?_; rintro e w' ⟨rfl, rfl⟩)
    | (refine ⟨trivial, ?_⟩; gi_at_call 104; refine hS.mono ?_; rintro e w' ⟨⟨a, c, L, rfl, hr, ho⟩, hb⟩)
    | fail)
  rw [← hW0] at hb ho
  have HX := (show Hid _ from And.intro hr (And.intro ho hb))
  clear hr ho hb hS
  go_ret
  exact ⟨⟨a, c, L, rfl, HX.out.1, HX.out.2.1.base HB.out.size⟩, HB.out.trans (HX.out.2.2.mono HB.out.size)⟩
end Go.Proofs.YtfjpckaphfdfnaaGreatDoor
