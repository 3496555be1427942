/- What Sort of package serial answers: the numbers, each once, in the order in which they are met. -/
import Derived.Test.YtpnfghchllipnabShelfS
import Derived.Test.YtpnfghchllipnabOnce
import Derived.Deep.QuietTactic
import Derived.BigQuiet
namespace Go.Proofs.Ytpnfghchllipnab
open Go.RowKit Go.Shelf Go.Sort
open Go.Lib (compareInt)
abbrev Num (b : Int) := { x : Nat // x < rnd b }
instance (b : Int) : Inhabited (Num b) := ⟨⟨0, rnd_pos b⟩⟩
def encN (b : Int) (x : Num b) : Value := .int .u32 (x.1 : Nat)
def cfN (b : Int) (f : Nat) (x y : Num b) : Int := compareInt (upV (rnd b) f x.1 : Nat) (upV (rnd b) f y.1 : Nat)
theorem ltN (b : Int) (f : Nat) (x y : Num b) : ltOf (cfN b f) x y = decide (upV (rnd b) f x.1 < upV (rnd b) f y.1) := by
  unfold ltOf cfN compareInt
  generalize upV (rnd b) f x.1 = p
  generalize upV (rnd b) f y.1 = q
  by_cases h1 : p < q
  · have h1' : (p : Int) < (q : Int) := by omega
    simp [h1]
  · by_cases h2 : q < p
    · have h1' : ¬ (p : Int) < (q : Int) := by omega
      simp [h1, h2]
    · have : p = q := by omega
      subst this
      simp
theorem swoN (b : Int) (f : Nat) : SWO (ltOf (cfN b f)) where
  irrefl x := by rw [ltN]; simp
  trans x y z h1 h2 := by rw [ltN] at *; simp at *; omega
  ntrans x y z h1 h2 := by rw [ltN] at *; simp at *; omega
theorem totN (b : Int) (f : Nat) (hf : f < rnd b) (x y : Num b) (h1 : ltOf (cfN b f) x y = false) (h2 : ltOf (cfN b f) y x = false) : x = y := by
  rw [ltN] at *
  simp at *
  exact Subtype.ext (upV_inj (rnd b) f x.1 y.1 hf x.2 y.2 (by omega))
set_option maxHeartbeats 400000 in
theorem nan_any (x : Nat) (w : World) : Calls Try.prog 48 #[.int .u32 x] w fun e w' => e = .returned (.bool false) ∧ w' = w := by
  go_enter Try.func48, Try.ntmps48
  go_wp2
  go_ret
  exact ⟨rfl, rfl⟩
set_option maxHeartbeats 1000000 in
theorem cmp_any (x y : Nat) (w : World) : Calls Try.prog 28 #[.int .u32 x, .int .u32 y] w fun e w' => e = .returned (.int .i64 (compareInt (x : Int) (y : Int))) ∧ w' = w := by
  by_cases h1 : (x : Int) < (y : Int)
  · have HC : Hid (compareInt (x : Int) (y : Int) = -1) := by show _ = _; unfold compareInt; rw [if_pos h1]
    go_enter Try.func28, Try.ntmps28
    go_wp2_with (go_at_call 48; refine (nan_any _ _).mono ?_; rintro e w' ⟨rfl, hw'⟩; subst w')
    go_ret
    exact ⟨ret_int (by rw [HC.out]), rfl⟩
  · by_cases h2 : (y : Int) < (x : Int)
    · have HC : Hid (compareInt (x : Int) (y : Int) = 1) := by show _ = _; unfold compareInt; rw [if_neg h1, if_pos h2]
      go_enter Try.func28, Try.ntmps28
      go_wp2_with (go_at_call 48; refine (nan_any _ _).mono ?_; rintro e w' ⟨rfl, hw'⟩; subst w')
      go_ret
      exact ⟨ret_int (by rw [HC.out]), rfl⟩
    · have HC : Hid (compareInt (x : Int) (y : Int) = 0) := by show _ = _; unfold compareInt; rw [if_neg h1, if_neg h2]
      go_enter Try.func28, Try.ntmps28
      go_wp2_with (go_at_call 48; refine (nan_any _ _).mono ?_; rintro e w' ⟨rfl, hw'⟩; subst w')
      go_ret
      exact ⟨ret_int (by rw [HC.out]), rfl⟩
set_option maxHeartbeats 1000000 in
theorem closure_any (b : Int) (f x y bm bf : Nat) (hf : f < rnd b) (W : World) (hm : W.cell? ⟨bm, 0, none⟩ = some (.int .u32 (rnd b - 1 : Nat))) (hc : W.cell? ⟨bf, 0, none⟩ = some (.int .u32 f)) :
    Calls Try.prog 27 #[.int .u32 x, .int .u32 y, .pointer (some ⟨bm, 0, none⟩), .pointer (some ⟨bf, 0, none⟩)] W fun e w' => e = .returned (.int .i64 (compareInt (upV (rnd b) f x : Nat) (upV (rnd b) f y : Nat))) ∧ ∃ q, w' = W.drewN q := by
  have hu := fun z w => up_any b f z hf w
  have HM : Hid (rnd b = rnd b) := rfl
  generalize ((rnd b - 1 : Nat) : Int) = m at *
  generalize rnd b = M at *
  go_enter Try.func27, Try.ntmps27
  go_wp2_with fail
  go_quiet ((first | (go_at_call 29; exact Calls.quiet_of_same (hu _ _)) | (go_at_call 28; exact Calls.quiet_of_same (cmp_any _ _ _))))
  all_goals
    go_wp2
    go_ret
    exact ⟨rfl, _, rfl⟩
theorem cell_sorted {b : Int} (w : World) (blk off n : Nat) (d : Array (Num b)) (os : Array Obj) (p : Addr) (hp : p.block ≠ blk) (hlt : p.block < w.heap.size) : (sortWorld (encN b) w blk off n d os).cell? p = w.cell? p := by
  unfold sortWorld
  rw [cell?_grow _ _ _ (by simpa using hlt), cell?_putRow_other _ _ _ _ _ _ (.inl hp)]
  rfl
theorem below_sorted {b : Int} (B : Nat) (w : World) (blk off n : Nat) (d : Array (Num b)) (os : Array Obj) (hB : B ≤ blk) (hs : B ≤ w.heap.size) : Below B w (sortWorld (encN b) w blk off n d os) := by
  refine ⟨rfl, rfl, rfl, by simp [sortWorld], fun k hk => ?_⟩
  unfold sortWorld
  rw [heap_grow_old _ _ (by simp; omega)]
  simp only [putRow, mapBlock, heap_ahead, Array.getElem?_modify]
  rw [if_neg (by omega)]
def numsOf (b : Int) (l : List Nat) (h : ∀ z ∈ l, z < rnd b) : List (Num b) := l.pmap (fun z hz => ⟨z, hz⟩) h
theorem numsOf_val (b : Int) (l : List Nat) (h : ∀ z ∈ l, z < rnd b) : (numsOf b l h).map Subtype.val = l := by
  unfold numsOf; rw [List.map_pmap]; simp
/-- What the library's sort makes of the numbers is what is asked. -/
theorem sorted_vals (b : Int) (f : Nat) (hf : f < rnd b) (zs : List Nat) (hz : ∀ z ∈ zs, z < rnd b) (h : ∀ z ∈ onceV zs zs.length, z < rnd b) :
    ((numsOf b (onceV zs zs.length) h).mergeSort fun x y => !(ltOf (cfN b f)) y x).map Subtype.val = sortV (rnd b) f zs := by
  obtain ⟨hn, hm⟩ := onceV_spec zs
  have hp := List.mergeSort_perm (numsOf b (onceV zs zs.length) h) (fun x y => !(ltOf (cfN b f)) y x)
  have hs : ((numsOf b (onceV zs zs.length) h).mergeSort fun x y => !(ltOf (cfN b f)) y x).Pairwise (fun x y => (!(ltOf (cfN b f)) y x) = true) := by
    refine List.pairwise_mergeSort (fun x y z h1 h2 => ?_) (fun x y => ?_) _
    · simp only [ltN, Bool.not_eq_true', decide_eq_false_iff_not] at *; omega
    · simp only [ltN, Bool.or_eq_true, Bool.not_eq_true', decide_eq_false_iff_not]; omega
  have hpv := hp.map Subtype.val
  rw [numsOf_val] at hpv
  refine sortV_of (rnd b) f zs _ hf hz ?_ (fun z => (hpv.mem_iff).trans (hm z))
  have hnd : (((numsOf b (onceV zs zs.length) h).mergeSort fun x y => !(ltOf (cfN b f)) y x).map Subtype.val).Nodup := hpv.nodup_iff.2 hn
  unfold Met
  rw [List.pairwise_map]
  have hnd' := List.pairwise_map.1 hnd
  refine List.Pairwise.imp₂ (fun x y h1 h2 => ?_) hs hnd'
  simp only [ltN, Bool.not_eq_true', decide_eq_false_iff_not] at h1
  have : upV (rnd b) f x.1 ≠ upV (rnd b) f y.1 := fun e => h2 (upV_inj (rnd b) f x.1 y.1 hf x.2 y.2 e)
  omega
theorem cell_new (w : World) (cs : Array Value) (t : TypeId) (B : Nat) (hB : w.heap.size = B) {i : Nat} : (w.alloc (.cells cs t)).cell? ⟨B, i, none⟩ = cs[i]? := by
  subst hB; rw [World.cell?_alloc_mark]
theorem cell_old (w : World) (o : Obj) (p : Addr) (h : p.block < w.heap.size) : (w.alloc o).cell? p = w.cell? p := ((Below.refl _ w).alloc (Nat.le_refl _) o).cell h
def sortE (b : Int) (f : Nat) (zs : List Nat) : Nat := chkE b (f :: zs)
def sortR (b : Int) (f : Nat) (zs : List Nat) : List Nat := if sortE b f zs = 0 then sortV (rnd b) f zs else []
theorem sortR_no {b : Int} {f : Nat} {zs : List Nat} (h : ¬ sortE b f zs = 0) : sortR b f zs = [] := by unfold sortR; rw [if_neg h]
set_option maxHeartbeats 2000000 in
theorem sort_any (b : Int) (f : Nat) (hf : f < 4294967296) (a : Option Addr) (n c : Nat) (zs : List Nat) (w : World) (hs : SlU w a n c zs) (hn : n * 4 ≤ 140737488355328) :
    Calls Try.prog 10 #[.int .i64 b, .int .u32 f, .slice a n c] w fun e w' => ∃ a' c', e = .returned (.tuple #[.slice a' (sortR b f zs).length c', .int .i64 (sortE b f zs : Nat)]) ∧ SlU w' a' (sortR b f zs).length c' (sortR b f zs) ∧ Below w.heap.size w w' := by
  have hck := fun W g (h : SlU W (some ⟨g, 0, none⟩) 1 1 [f]) => check_any b _ 1 1 [f] W h
  by_cases he : chkE b [f] = 0
  · have hck2 := fun W (h : SlU W a n c zs) => check_any b a n c zs W h
    by_cases he2 : chkE b zs = 0
    · have HE : Hid (sortE b f zs = 0) := by show _ = _; unfold sortE; rw [chkE_cons, if_pos he, he2]
      have HR : Hid (sortR b f zs = sortV (rnd b) f zs) := by show _ = _; unfold sortR; rw [if_pos HE.out]
      have hfb := (chkE_ok he).2 f (by simp)
      have hzb := (chkE_ok he2).2
      rw [mostR_ok he, he] at hck
      rw [mostR_ok he2, he2] at hck2
      clear he he2
      go_enter Try.func10, Try.ntmps10
      go_wp2_with (first | (go_at_call 24; refine (hck _ _ (u32_oneB _ _ f hf _ (by simp))).mono ?_; clear hck; rintro e w' ⟨rfl, hw'⟩; subst w') | (go_at_call 24; refine (hck2 _ (((hs.alloc _).alloc _).alloc _)).mono ?_; clear hck2; rintro e w' ⟨rfl, hw'⟩; subst w') | fail)
      obtain ⟨m, hm⟩ : ∃ m : Nat, m = rnd b - 1 := ⟨_, rfl⟩
      rw [← hm]
      have hsW : SlU (((w.alloc (.cells #[.int .u32 f] 22)).alloc (.cells #[.int .u32 f] 22)).alloc (.cells #[.int .u32 m] 22)) a n c zs := ((hs.alloc _).alloc _).alloc _
      have hcf : (((w.alloc (.cells #[.int .u32 f] 22)).alloc (.cells #[.int .u32 f] 22)).alloc (.cells #[.int .u32 m] 22)).cell? ⟨w.heap.size, 0, none⟩ = some (.int .u32 f) := by
        rw [cell_old _ _ _ (by show w.heap.size < _; simp; omega), cell_old _ _ _ (by show w.heap.size < _; simp), cell_new w _ _ _ rfl]; rfl
      have hcm : (((w.alloc (.cells #[.int .u32 f] 22)).alloc (.cells #[.int .u32 f] 22)).alloc (.cells #[.int .u32 m] 22)).cell? ⟨w.heap.size + 2, 0, none⟩ = some (.int .u32 m) := by
        rw [cell_new _ _ _ _ (by simp)]; rfl
      have hz3 : (((w.alloc (.cells #[.int .u32 f] 22)).alloc (.cells #[.int .u32 f] 22)).alloc (.cells #[.int .u32 m] 22)).heap.size = w.heap.size + 3 := by simp
      have hbW : Below w.heap.size w (((w.alloc (.cells #[.int .u32 f] 22)).alloc (.cells #[.int .u32 f] 22)).alloc (.cells #[.int .u32 m] 22)) := (((Below.refl _ _).alloc (Nat.le_refl _) _).alloc (by simp) _).alloc (by simp; omega) _
      generalize (((w.alloc (.cells #[.int .u32 f] 22)).alloc (.cells #[.int .u32 f] 22)).alloc (.cells #[.int .u32 m] 22)) = W3 at *
      refine (once_any a n c zs W3 hsW hn).mono ?_
      rintro e W ⟨a1, c1, rfl, ho, hb1, g1, rfl⟩
      have hg1 := ho.own.lt g1 rfl
      have hl := hs.len
      have HL : Hid (zs.length = n) := hl
      have hsz1 := hb1.size
      rw [hz3] at hb1 ho hsz1 hg1
      have hcf1 := (hb1.cell (p := ⟨w.heap.size, 0, none⟩) (by show w.heap.size < _; omega)).trans hcf
      have hcm1 := (hb1.cell (p := ⟨w.heap.size + 2, 0, none⟩) (by show w.heap.size + 2 < _; omega)).trans hcm
      have hbel : Below w.heap.size w W := hbW.trans (hb1.mono (by omega))
      have hlo : (onceV zs n).length ≤ n := onceV_le zs n
      have hmem : ∀ z ∈ onceV zs zs.length, z < rnd b := fun z hz => hzb z (((onceV_spec zs).2 z).1 hz)
      have HV := (show Hid _ from sorted_vals b f hfb zs hzb hmem)
      rw [hl] at hmem
      clear hsW hcf hcm hbW hb1 hz3
      by_cases h0 : (onceV zs n).length = 0
      · have HZ : Hid (sortV (rnd b) f zs = []) := by
          show _ = _
          rw [← HV.out, ← List.length_eq_zero_iff, List.length_map, List.length_mergeSort]
          unfold numsOf
          rw [List.length_pmap, hl]
          exact h0
        have hno := fun W => AnyF.slices_SortFunc_none (P := Try.prog) (ρ := Try.sortL_ren) { Try.sortL with } (some ⟨g1, 0, none⟩) c1 (.func (.func 27) #[] #[.pointer (some ⟨w.heap.size + 2, 0, none⟩), .pointer (some ⟨w.heap.size, 0, none⟩)]) W
        change ∀ W, Calls Try.prog 26 _ _ _ at hno
        have hcap := (ho.sl (by omega)).room
        rw [h0]
        rw [h0] at ho
        clear ho
        go_wp2_with (go_at_call 26; refine (hno _).mono ?_; rintro e w' ⟨rfl, hw'⟩; subst w')
        go_ret2
        refine ⟨some ⟨g1, 0, none⟩, c1, by rw [HE.out, HR.out, HZ.out]; rfl, ?_, hbel⟩
        rw [HR.out, HZ.out]
        exact ⟨rfl, Nat.zero_le _, hcap, by simp, (fun h => by cases h), fun i => by simp, .inl rfl⟩
      · rcases (ho.sl (by omega)).at_ with h | ⟨g, off, hge, _, hcells⟩
        · exact absurd h h0
        injection hge with hge
        injection hge with e1 e2
        subst e1 e2
        have hfr : ∀ j, W.frozen? ⟨g1, 0 + j, none⟩ = false := by
          rcases ho.own.2 with ⟨hv, _⟩ | ⟨g, cap, cur, hv, _, hh, _⟩
          · cases hv
          · injection hv with e1
            injection e1 with e1
            injection e1 with e1
            subst e1
            intro j
            simp [World.frozen?, hh]
        have hcap := (ho.sl (by omega)).room
        have hcc := (ho.sl (by omega)).cap
        obtain ⟨D, hD⟩ : ∃ D : List (Num b), D = numsOf b (onceV zs n) hmem := ⟨_, rfl⟩
        have hDv : D.map Subtype.val = onceV zs n := by rw [hD]; exact numsOf_val b _ hmem
        have hDl : D.length = (onceV zs n).length := by rw [← hDv]; simp
        have HS : Hid ((D.mergeSort fun x y => !(ltOf (cfN b f)) y x).map Subtype.val = sortV (rnd b) f zs) := by
          show _ = _
          rw [← HV.out, hD]
          subst hl
          rfl
        have hH : Holds (encN b) W g1 0 D.toArray := by
          intro j hj
          have hj' : j < (onceV zs n).length := by rw [← hDl]; simpa using hj
          refine ⟨?_, hfr j⟩
          rw [hcells j hj']
          have hjD : j < D.length := by omega
          have : (onceV zs n).getD j 0 = D[j].1 := by
            rw [← hDv]
            simp [List.getD_eq_getElem?_getD, hjD]
          rw [this]
          simp [encN, hjD]
        have hcmp : CmpLays1 Try.prog 27 #[.pointer (some ⟨w.heap.size + 2, 0, none⟩), .pointer (some ⟨w.heap.size, 0, none⟩)] (encN b) (cfN b f) g1 0 D.toArray.size W := by
          refine CmpReads.lays ?_
          intro m' os dk _ x y
          refine closure_any b f x.1 y.1 (w.heap.size + 2) w.heap.size hfb _ ?_ ?_
          · rw [cell_sorted _ _ _ _ _ _ _ (by show w.heap.size + 2 ≠ _; omega) (by show w.heap.size + 2 < _; omega), ← hm]; exact hcm1
          · rw [cell_sorted _ _ _ _ _ _ _ (by show w.heap.size ≠ _; omega) (by show w.heap.size < _; omega)]; exact hcf1
        have eg : ∀ args w, (callFunc 27 args).run Try.prog w = .ok (.enter 27 args) w := enters_of Try.func27 (by kernel_rfl) rfl
        have hS := Any.slices_SortFunc_total Try.sortL (encN b) (fun _ => rfl) (cfN b f) (swoN b f) 27 #[.pointer (some ⟨w.heap.size + 2, 0, none⟩), .pointer (some ⟨w.heap.size, 0, none⟩)] g1 0 c1 D.toArray W eg hcmp hH hg1.2 (by simp; omega) (totN b f hfb)
        have hsize : D.toArray.size = (onceV zs n).length := by simpa using hDl
        rw [hsize] at hS
        change Calls Try.prog 26 _ _ _ at hS
        have hYl : (D.mergeSort fun x y => !(ltOf (cfN b f)) y x).length = (onceV zs n).length := by rw [List.length_mergeSort, hDl]
        have hS2 : Calls Try.prog 26 #[.slice (some ⟨g1, 0, none⟩) (onceV zs n).length c1, .func (.func 27) #[] #[.pointer (some ⟨w.heap.size + 2, 0, none⟩), .pointer (some ⟨w.heap.size, 0, none⟩)]] W fun e w' =>
            e = .returned (.tuple #[]) ∧ SlU w' (some ⟨g1, 0, none⟩) (onceV zs n).length c1 (sortV (rnd b) f zs) ∧ Below w.heap.size W w' := by
          refine hS.mono ?_
          rintro e w' ⟨he, q, os, rfl⟩
          rw [show D.toArray.toList = D from rfl]
          generalize (D.mergeSort fun x y => !(ltOf (cfN b f)) y x) = Y at HS hYl
          have hY : Holds (encN b) (sortWorld (encN b) W g1 0 q Y.toArray os) g1 0 Y.toArray := by
            unfold sortWorld
            exact holds_grow _ _ _ _ _ _ (by simpa using hg1.2) (holds_putRow _ _ _ _ D.toArray _ (holds_ahead _ _ _ _ _ _ hH) (by simp; omega))
          have hlen : (sortV (rnd b) f zs).length = (onceV zs n).length := by rw [← HS.out, List.length_map, hYl]
          have hat : ∀ i (hi : i < Y.length), (sortV (rnd b) f zs).getD i 0 = Y[i].1 := by
            intro i hi
            rw [← HS.out]
            simp only [List.getD_eq_getElem?_getD, List.getElem?_map, List.getElem?_eq_getElem hi, Option.map_some, Option.getD_some]
          refine ⟨he, ⟨hlen, hcc, hcap, by omega, (fun h => by cases h), fun i => ?_, .inr ⟨g1, 0, rfl, by simp [sortWorld]; omega, fun i hi => ?_⟩⟩, below_sorted _ _ _ _ _ _ _ (by omega) (by omega)⟩
          · by_cases hi : i < Y.length
            · have h1 := Y[i].2
              have h2 := rnd_le b
              rw [hat i hi]
              omega
            · rw [List.getD_eq_getElem?_getD, List.getElem?_eq_none (by omega)]
              simp
          · have hi' : i < Y.length := by omega
            rw [(hY i (by simpa using hi')).1, hat i hi']
            simp [encN, hi']
        clear hS hcmp hH hcells hfr ho HV hcf1 hcm1
        have HLN : Hid ((sortV (rnd b) f zs).length = (onceV zs n).length) := by
          show _ = _
          rw [← HS.out, List.length_map, hYl]
        clear HS hYl hDl hDv hsize hD hmem D
        go_wp2_with (go_at_call 26; refine hS2.mono ?_; rintro e W2 ⟨rfl, hsl, hbl⟩)
        go_ret2
        refine ⟨some ⟨g1, 0, none⟩, c1, by rw [HE.out, HR.out, HLN.out]; rfl, ?_, hbel.trans hbl⟩
        rw [HR.out, HLN.out]
        exact hsl
    · have HE : Hid (sortE b f zs = chkE b zs) := by show _ = _; unfold sortE; rw [chkE_cons, if_pos he]
      have HR : Hid (sortR b f zs = []) := sortR_no (by rw [HE.out]; exact he2)
      rw [mostR_ok he, he] at hck
      rw [mostR_no he2] at hck2
      have hne : ((chkE b zs : Int) == 0) = false := by simp; omega
      clear he he2
      generalize chkE b zs = q at *
      go_enter Try.func10, Try.ntmps10
      go_wp2_with (first | (go_at_call 24; refine (hck _ _ (u32_oneB _ _ f hf _ (by simp))).mono ?_; clear hck; rintro e w' ⟨rfl, hw'⟩; subst w') | (go_at_call 24; refine (hck2 _ (((hs.alloc _).alloc _).alloc _)).mono ?_; clear hck2; rintro e w' ⟨rfl, hw'⟩; subst w') | fail)
      go_ret2
      refine ⟨none, 0, by rw [HE.out, HR.out]; rfl, by rw [HR.out]; exact SlK.nil _ _ _ (by omega), ?_⟩
      exact (((Below.refl _ _).alloc (Nat.le_refl _) _).alloc (by simp) _).alloc (by simp; omega) _
  · have HE : Hid (sortE b f zs = chkE b [f]) := by show _ = _; unfold sortE; rw [chkE_cons, if_neg he]
    have HR : Hid (sortR b f zs = []) := sortR_no (by rw [HE.out]; exact he)
    rw [mostR_no he] at hck
    have hne : ((chkE b [f] : Int) == 0) = false := by simp; omega
    clear he
    generalize chkE b [f] = q at *
    go_enter Try.func10, Try.ntmps10
    go_wp2_with (go_at_call 24; refine (hck _ _ (u32_oneB _ _ f hf _ (by simp))).mono ?_; clear hck; rintro e w' ⟨rfl, hw'⟩; subst w')
    go_ret2
    refine ⟨none, 0, by rw [HE.out, HR.out]; rfl, by rw [HR.out]; exact SlK.nil _ _ _ (by omega), ?_⟩
    exact (((Below.refl _ _).alloc (Nat.le_refl _) _).alloc (by simp) _).alloc (by simp; omega) _
end Go.Proofs.Ytpnfghchllipnab
