/- slices.Sort of up to twelve uint32 of the call's own: they are sorted where they lie. -/
import Derived.Test.YtfjpckaphfdfnaaGreatDoorOwnG
import Derived.Test.YtfjpckaphfdfnaaGreatDoorRgX
namespace Go.Proofs.YtfjpckaphfdfnaaGreatDoor
open Go.RowKit
def u32C (q : Nat) : List Value := [.int .u32 (q : Nat)]
abbrev OwnA := OwnG 23 1 u32C
theorem layA : Lays Tryz.prog 130 23 1 4 u32C :=
  ⟨Tryz.underlying130, ⟨.int .u32 0, by kernel_rfl, rfl⟩, by decide, fun _ => rfl, fun x u hu => by simp [u32C] at hu; subst hu; rfl⟩
theorem valsA (zs : List Nat) : valsG u32C zs = zs.map fun z => Value.int .u32 (z : Nat) := by
  induction zs with
  | nil => rfl
  | cons z zs ih => show u32C z ++ valsG u32C zs = _; rw [ih]; rfl
theorem OwnA.set {w : World} {B g n c : Nat} {zs : List Nat} (h : OwnA w B (some ⟨g, 0, none⟩) n c zs) (j x : Nat) : OwnA (w.setCell ⟨g, j, none⟩ (.int .u32 (x : Nat))) B (some ⟨g, 0, none⟩) n c (zs.set j x) := by
  refine ⟨by rw [List.length_set]; exact h.len, ?_⟩
  have := h.own.stored j (.int .u32 (x : Nat))
  have e : valsG u32C (zs.set j x) = (valsG u32C zs).set j (.int .u32 (x : Nat)) := by simp [valsA, List.map_set]
  rw [e]
  exact this.1
theorem OwnA.cell {w : World} {B g n c : Nat} {zs : List Nat} (h : OwnA w B (some ⟨g, 0, none⟩) n c zs) (j : Nat) (hj : j < n) : w.cell? ⟨g, j, none⟩ = some (.int .u32 (zs.getD j 0 : Nat)) := by
  have hl := h.len
  rw [h.own.cellAt j (by omega), valsA, List.getElem?_map, List.getElem?_eq_getElem (by omega), List.getD_eq_getElem?_getD, List.getElem?_eq_getElem (by omega)]
  rfl
theorem OwnA.free {w : World} {B g n c : Nat} {zs : List Nat} (h : OwnA w B (some ⟨g, 0, none⟩) n c zs) (j : Nat) : w.frozen? ⟨g, j, none⟩ = false := h.own.frozenAt j
theorem nan_u (x : Nat) (w : World) : Calls Tryz.prog 283 #[.int .u32 (x : Nat)] w fun e w' => e = .returned (.bool false) ∧ w' = w := by
  go_enter Tryz.func283, Tryz.ntmps283
  go_wp2
  go_ret
  exact ⟨rfl, rfl⟩
theorem less_u (x y : Nat) (w : World) : Calls Tryz.prog 229 #[.int .u32 (x : Nat), .int .u32 (y : Nat)] w fun e w' => e = .returned (.bool (decide (x < y))) ∧ w' = w := by
  have h1 : decide ((x : Int) < (y : Int)) = decide (x < y) := by simp
  go_enter Tryz.func229, Tryz.ntmps229
  go_wp2_with (go_at_call 283; refine (nan_u _ _).mono ?_; rintro e w' ⟨rfl, hw'⟩; subst w')
  go_ret
  exact ⟨by rw [← h1]; rfl, rfl⟩
/-- Sorted up to and with i, but for what stands at j. -/
def SrtB (zs : List Nat) (i j : Nat) : Prop := ∀ k l, k < l → l ≤ i → l ≠ j → zs.getD k 0 ≤ zs.getD l 0
def swpA (zs : List Nat) (j : Nat) : List Nat := (zs.set j (zs.getD (j - 1) 0)).set (j - 1) (zs.getD j 0)
theorem swpA_len (zs : List Nat) (j : Nat) : (swpA zs j).length = zs.length := by simp [swpA]
theorem swpA_at (zs : List Nat) (j : Nat) (h0 : 0 < j) (hj : j < zs.length) (k : Nat) : (swpA zs j).getD k 0 = if k = j then zs.getD (j - 1) 0 else if k = j - 1 then zs.getD j 0 else zs.getD k 0 := by
  simp only [swpA, List.getD_eq_getElem?_getD, List.getElem?_set, List.length_set]
  by_cases h1 : k = j
  · subst h1
    rw [if_neg (by omega), if_pos rfl, if_pos hj, if_pos rfl]
    rfl
  · by_cases h2 : k = j - 1
    · subst h2
      rw [if_pos rfl, if_pos (by omega), if_neg h1, if_pos rfl]
      rfl
    · rw [if_neg (by omega), if_neg (by omega), if_neg h1, if_neg h2]
theorem swpA_perm (zs : List Nat) (j : Nat) (h0 : 0 < j) (hj : j < zs.length) : (swpA zs j).Perm zs := by
  have h1 : j - 1 < zs.length := by omega
  refine List.perm_iff_count.2 (fun a => ?_)
  · unfold swpA
    simp only [List.getD_eq_getElem?_getD, List.getElem?_eq_getElem hj, List.getElem?_eq_getElem h1, Option.getD_some]
    rw [List.count_set (by simpa using h1), List.count_set (by simpa using hj), List.getElem_set_ne (by omega)]
    have h3 : ∀ k (hk : k < zs.length), (zs[k] == a) = true → 0 < List.count a zs := fun k hk e => List.count_pos_iff.2 (by rw [← eq_of_beq e]; exact List.getElem_mem hk)
    have h4 := h3 j hj
    have h5 := h3 (j - 1) h1
    by_cases e1 : (zs[j] == a) = true <;> by_cases e2 : (zs[j - 1] == a) = true <;> simp only [e1, e2] <;> simp <;> (try (have := h4 e1)) <;> (try (have := h5 e2)) <;> omega
theorem SrtB.step {zs : List Nat} {i j : Nat} (h : SrtB zs i j) (h0 : 0 < j) (hji : j ≤ i) (hi : i < zs.length) (hlt : zs.getD j 0 < zs.getD (j - 1) 0) : SrtB (swpA zs j) i (j - 1) := by
  intro k l hkl hl hne
  rw [swpA_at zs j h0 (by omega), swpA_at zs j h0 (by omega), if_neg (show ¬ l = j - 1 from hne)]
  by_cases e1 : l = j
  · subst e1
    rw [if_pos rfl, if_neg (by omega)]
    by_cases e2 : k = l - 1
    · rw [if_pos e2]; omega
    · rw [if_neg e2]; exact h k (l - 1) (by omega) (by omega) (by omega)
  · rw [if_neg e1]
    by_cases e2 : k = j
    · rw [if_pos e2]; exact h (j - 1) l (by omega) hl e1
    · rw [if_neg e2]
      by_cases e3 : k = j - 1
      · rw [if_pos e3]; exact h j l (by omega) hl e1
      · rw [if_neg e3]; exact h k l hkl hl e1
theorem SrtB.zero {zs : List Nat} {i : Nat} (h : SrtB zs i 0) : SrtB zs i (i + 1) := fun k l hkl hl _ => h k l hkl hl (by omega)
theorem SrtB.done {zs : List Nat} {i j : Nat} (h : SrtB zs i j) (h0 : 0 < j) (hle : zs.getD (j - 1) 0 ≤ zs.getD j 0) : SrtB zs i (i + 1) := by
  intro k l hkl hl _
  by_cases e : l = j
  · subst e
    by_cases e2 : k = l - 1
    · rw [e2]; exact hle
    · exact Nat.le_trans (h k (l - 1) (by omega) (by omega) (by omega)) hle
  · exact h k l hkl hl e
theorem SrtB.next {zs : List Nat} {i : Nat} (h : SrtB zs i (i + 1)) : SrtB zs (i + 1) (i + 1) := fun k l hkl hl hne => h k l hkl (by omega) hne
structure SrtP (w : World) (B g n c : Nat) (zs : List Nat) (e : Ending) (w' : World) : Prop where
  out : e = .returned (.tuple #[])
  row : ∃ L, L.Perm zs ∧ (∀ k l, k < l → l < n → L.getD k 0 ≤ L.getD l 0) ∧ OwnA w' B (some ⟨g, 0, none⟩) n c L
  fr : Fr (· = g) w w'
set_option maxRecDepth 100000 in
set_option maxHeartbeats 4000000 in
theorem ins_any {w : World} {B g n c : Nat} {zs : List Nat} (h : OwnA w B (some ⟨g, 0, none⟩) n c zs) (hn0 : 0 < n) (hn : n ≤ 12) :
    Calls Tryz.prog 223 #[.slice (some ⟨g, 0, none⟩) n c, .int .i64 0, .int .i64 (n : Nat)] w (SrtP w B g n c zs) := by
  have hc := h.cap.1
  have hlz := h.len
  go_enter Tryz.func223, Tryz.ntmps223
  go_wp2
  go_loopw [6] (fun v wr => ∃ (i : Nat) (L : List Nat), 1 ≤ i ∧ i ≤ n ∧ v = .int .i64 (i : Nat) ∧ L.Perm zs ∧ SrtB L (i - 1) i ∧ OwnA wr B (some ⟨g, 0, none⟩) n c L ∧ Fr (· = g) w wr) (fun v _ => n - (intOf v).toNat)
  case atStart => exact ⟨1, zs, by omega, by omega, rfl, List.Perm.refl _, fun k l h1 h2 _ => by omega, h, Fr.refl _ _⟩
  case round =>
    obtain ⟨i, L, hi1, hin, rfl, hp, hs, ho, hf⟩ := hrel
    clear h
    by_cases hlt : i < n
    · have hlt1 : (i : Int) < (n : Int) := by omega
      have HX := (show Hid _ from And.intro hp (And.intro hs (And.intro ho hf)))
      clear hp hs ho hf
      go_wp2
      obtain ⟨w1, hw1⟩ : ∃ W, W = wr := ⟨_, rfl⟩
      rw [← hw1] at HX
      subst hw1
      go_loopw [7] (fun v wr => ∃ (j : Nat) (L : List Nat), j ≤ i ∧ v = .int .i64 (j : Nat) ∧ L.Perm zs ∧ SrtB L i j ∧ OwnA wr B (some ⟨g, 0, none⟩) n c L ∧ Fr (· = g) w wr) (fun v _ => (intOf v).toNat)
      case atStart =>
        obtain ⟨hp, hs, ho, hf⟩ := HX.out
        refine ⟨i, L, by omega, rfl, hp, ?_, ho, hf⟩
        have := SrtB.next (zs := L) (i := i - 1) (by rwa [show i - 1 + 1 = i by omega])
        rwa [show i - 1 + 1 = i by omega] at this
      case round =>
        obtain ⟨j, M, hji, rfl, hp, hs, ho, hf⟩ := hrel
        clear HX
        have hlM := ho.len
        by_cases hj0 : 0 < j
        · have cj := ho.cell j (by omega)
          have cj1 := ho.cell (j - 1) (by omega)
          have hj1 : ((j : Int) - 1) = ((j - 1 : Nat) : Int) := by omega
          have hwj : IntKind.i64.wrap ((j - 1 : Nat) : Int) = ((j - 1 : Nat) : Int) := by rw [IntKind.wrap_i64]; omega
          have hj2 : (0 : Int) < (j : Int) := by omega
          have hj3 : (j : Int) < (n : Int) := by omega
          have hjn : j < n := by omega
          have hjn1 : j - 1 < n := by omega
          obtain ⟨x, hx⟩ : ∃ x, x = M.getD j 0 := ⟨_, rfl⟩
          obtain ⟨y, hy⟩ : ∃ y, y = M.getD (j - 1) 0 := ⟨_, rfl⟩
          rw [← hx] at cj
          rw [← hy] at cj1
          have f1 := ho.free j
          have f2 := ho.free (j - 1)
          have HY := (show Hid _ from And.intro hp (And.intro hs (And.intro ho hf)))
          have HXY := (show Hid _ from And.intro hx hy)
          clear hp hs ho hf hx hy
          obtain ⟨b, hb⟩ : ∃ b, b = decide (x < y) := ⟨_, rfl⟩
          have HL : Hid (∀ W, Calls Tryz.prog 229 #[.int .u32 (x : Nat), .int .u32 (y : Nat)] W fun e w' => e = .returned (.bool b) ∧ w' = W) := by
            show ∀ W, _
            intro W
            rw [hb]
            exact less_u x y W
          have HBD : Hid (b = decide (x < y)) := hb
          clear hb
          go_wp2_with fail
          obtain ⟨W0, hW0⟩ : ∃ W, W = wr.drew := ⟨_, rfl⟩
          have e0 : W0.cell? ⟨g, j, none⟩ = some (.int .u32 (x : Nat)) := by rw [hW0]; exact cj
          have e1 : W0.cell? ⟨g, j - 1, none⟩ = some (.int .u32 (y : Nat)) := by rw [hW0]; exact cj1
          have HE := (show Hid _ from And.intro e0 e1)
          clear e0 e1
          refine wp_region_fixW mixedX (fun V => V = W0) [(16, .int .i64 (j : Nat)), (17, .int .i64 0), (18, .bool true), (19, .bool true), (20, .slice (some ⟨g, 0, none⟩) n c), (21, .int .i64 (j : Nat)), (22, .pointer (some ⟨g, j, none⟩)), (23, .int .u32 (x : Nat)), (24, .slice (some ⟨g, 0, none⟩) n c), (25, .int .i64 (j : Nat)), (26, .int .i64 ((j - 1 : Nat) : Int)), (27, .pointer (some ⟨g, j - 1, none⟩)), (28, .int .u32 (y : Nat)), (29, .bool b), (30, .bool b)] ?Z1 ?hZ1 (by kernel_rfl) (by kernel_rfl) (by kernel_rfl) (by kernel_rfl) ?h01 ?hops1 ?he1
          case hZ1 => simp only [List.foldl_cons, List.foldl_nil, List.setIfInBounds_toArray, List.set_cons_zero, List.set_cons_succ]; rfl
          case h01 => exact hW0.symm
          case hops1 =>
            refine ⟨?_, ?_, ?_, ?_, ?_, ?_, ?_, ?_, ?_, ?_, ?_, ?_, ?_, ?_, ?_, trivial⟩
            · exact fix_val (by rfl) (fun W hW => by subst hW; obtain ⟨e0, e1⟩ := HE.out; go_simp; (try with_reducible rfl); (try omega))
            · exact fix_val (by rfl) (fun W hW => by subst hW; obtain ⟨e0, e1⟩ := HE.out; go_simp; (try with_reducible rfl); (try omega))
            · exact fix_val (by rfl) (fun W hW => by subst hW; obtain ⟨e0, e1⟩ := HE.out; go_simp; (try with_reducible rfl); (try omega))
            · exact fix_val (by rfl) (fun W hW => by subst hW; obtain ⟨e0, e1⟩ := HE.out; go_simp; (try with_reducible rfl); (try omega))
            · exact fix_val (by rfl) (fun W hW => by subst hW; obtain ⟨e0, e1⟩ := HE.out; go_simp; (try with_reducible rfl); (try omega))
            · exact fix_val (by rfl) (fun W hW => by subst hW; obtain ⟨e0, e1⟩ := HE.out; go_simp; (try with_reducible rfl); (try omega))
            · exact fix_val (by rfl) (fun W hW => by subst hW; obtain ⟨e0, e1⟩ := HE.out; go_simp; (try with_reducible rfl); (try omega))
            · exact fix_val (by rfl) (fun W hW => by subst hW; obtain ⟨e0, e1⟩ := HE.out; go_simp; (try with_reducible rfl); (try omega))
            · exact fix_val (by rfl) (fun W hW => by subst hW; obtain ⟨e0, e1⟩ := HE.out; go_simp; (try with_reducible rfl); (try omega))
            · exact fix_val (by rfl) (fun W hW => by subst hW; obtain ⟨e0, e1⟩ := HE.out; go_simp; (try with_reducible rfl); (try omega))
            · exact fix_val (by rfl) (fun W hW => by subst hW; obtain ⟨e0, e1⟩ := HE.out; go_simp; (try with_reducible rfl); (try omega))
            · exact fix_val (by rfl) (fun W hW => by subst hW; obtain ⟨e0, e1⟩ := HE.out; go_simp; (try with_reducible rfl); (try omega))
            · exact fix_val (by rfl) (fun W hW => by subst hW; obtain ⟨e0, e1⟩ := HE.out; go_simp; (try with_reducible rfl); (try omega))
            · exact fix_call (vs := [.int .u32 (x : Nat), .int .u32 (y : Nat)]) (by rfl) rfl (by rfl) Tryz.func229 (by rfl) (by rfl) (fun W hW => by subst hW; exact HL.out _)
            · exact fix_val (by rfl) (fun W hW => by subst hW; obtain ⟨e0, e1⟩ := HE.out; go_simp; (try with_reducible rfl); (try omega))
          case he1 =>
          rintro V rfl
          have g0 : V.cell? ⟨g, j, none⟩ = some (.int .u32 (x : Nat)) := HE.out.1
          have g1 : V.cell? ⟨g, j - 1, none⟩ = some (.int .u32 (y : Nat)) := HE.out.2
          have hgl : g < wr.heap.size := (HY.out.2.2.1.own.lt g rfl).2
          have h1 : V.frozen? ⟨g, j, none⟩ = false := by rw [hW0]; exact f1
          have h2 : V.frozen? ⟨g, j - 1, none⟩ = false := by rw [hW0]; exact f2
          have HV : Hid (V = wr.drew) := hW0
          clear hW0 cj cj1 f1 f2 HE HL
          cases b with
          | true =>
            go_wp2
            go_region
            go_wp2
            go_roundw
            case rel =>
              obtain ⟨hp, hs, ho, hf⟩ := HY.out
              have hlt : M.getD j 0 < M.getD (j - 1) 0 := by
                rw [← HXY.out.1, ← HXY.out.2]
                have := HBD.out
                simpa using this.symm
              have bd : Below wr.heap.size wr V := by rw [HV.out]; exact (Below.refl _ _).drew
              have ho1 := OwnG.below (OwnA.set (OwnA.set (ho.below bd) j y) (j - 1) x) (Below.refl _ _).drew
              have hsw : (M.set j y).set (j - 1) x = swpA M j := by unfold swpA; rw [← HXY.out.1, ← HXY.out.2]
              rw [hsw] at ho1
              refine ⟨j - 1, swpA M j, by omega, rfl, (swpA_perm M j hj0 (by omega)).trans hp, hs.step hj0 hji (by omega) hlt, ho1, ?_⟩
              exact (((hf.trans (Fr.of_below bd)).trans (Fr.setCell _ _ _ _ rfl)).trans (Fr.setCell _ _ _ _ rfl)).trans (Fr.of_below (Below.refl _ _).drew)
            case measure => simp [intOf]; omega
          | false =>
            go_wp2
            go_roundw
            case rel =>
              obtain ⟨hp, hs, ho, hf⟩ := HY.out
              have hle : M.getD (j - 1) 0 ≤ M.getD j 0 := by
                rw [← HXY.out.1, ← HXY.out.2]
                have := HBD.out
                simpa using this
              have bd : Below wr.heap.size wr V := by rw [HV.out]; exact (Below.refl _ _).drew
              exact ⟨i + 1, M, by omega, by omega, by go_num, hp, by rw [show i + 1 - 1 = i by omega]; exact hs.done hj0 hle, ho.below bd, hf.trans (Fr.of_below bd)⟩
            case measure => simp [intOf]; omega
        · have hj2 : ¬ (0 : Int) < (j : Int) := by omega
          obtain rfl : j = 0 := by omega
          have HY := (show Hid _ from And.intro hp (And.intro hs (And.intro ho hf)))
          clear hp hs ho hf
          go_wp2_with fail
          refine wp_region_fixW mixedX (fun V => V = wr.drew) [(16, .int .i64 0), (17, .int .i64 0), (18, .bool false), (19, .bool false), (20, undef), (21, undef), (22, undef), (23, undef), (24, undef), (25, undef), (26, undef), (27, undef), (28, undef), (29, undef), (30, .bool false)] ?Z2 ?hZ2 (by kernel_rfl) (by kernel_rfl) (by kernel_rfl) (by kernel_rfl) ?h02 ?hops2 ?he2
          case hZ2 => simp only [List.foldl_cons, List.foldl_nil, List.setIfInBounds_toArray, List.set_cons_zero, List.set_cons_succ]; rfl
          case h02 => rfl
          case hops2 =>
            refine ⟨?_, ?_, ?_, ?_, ?_, ?_, ?_, ?_, ?_, ?_, ?_, ?_, ?_, ?_, ?_, trivial⟩
            · exact fix_val (by rfl) (fun W hW => by subst hW; go_simp; (try with_reducible rfl); (try omega))
            · exact fix_val (by rfl) (fun W hW => by subst hW; go_simp; (try with_reducible rfl); (try omega))
            · exact fix_val (by rfl) (fun W hW => by subst hW; go_simp; (try with_reducible rfl); (try omega))
            · exact fix_val (by rfl) (fun W hW => by subst hW; go_simp; (try with_reducible rfl); (try omega))
            · exact fix_off (by rfl) (fun d hd => by cases hd; rfl)
            · exact fix_off (by rfl) (fun d hd => by cases hd; rfl)
            · exact fix_off (by rfl) (fun d hd => by cases hd; rfl)
            · exact fix_off (by rfl) (fun d hd => by cases hd; rfl)
            · exact fix_off (by rfl) (fun d hd => by cases hd; rfl)
            · exact fix_off (by rfl) (fun d hd => by cases hd; rfl)
            · exact fix_off (by rfl) (fun d hd => by cases hd; rfl)
            · exact fix_off (by rfl) (fun d hd => by cases hd; rfl)
            · exact fix_off (by rfl) (fun d hd => by cases hd; rfl)
            · exact fix_off (by rfl) (fun d hd => by cases hd; rfl)
            · exact fix_val (by rfl) (fun W hW => by subst hW; go_simp; (try with_reducible rfl); (try omega))
          case he2 =>
          rintro V rfl
          go_wp2
          go_roundw
          case rel =>
            obtain ⟨hp, hs, ho, hf⟩ := HY.out
            exact ⟨i + 1, M, by omega, by omega, by go_num, hp, by rw [show i + 1 - 1 = i by omega]; exact hs.zero, ho.below (Below.refl _ _).drew, hf.trans (Fr.of_below (Below.refl _ _).drew)⟩
          case measure => simp [intOf]; omega
    · have hlt1 : ¬ (i : Int) < (n : Int) := by omega
      go_wp2
      first | (refine bodyPost_ret (results_none rfl _ _ _) rfl ?_) | go_end0
      refine ⟨rfl, ⟨L, hp, fun k l hk hl => hs k l hk (by omega) (by omega), ho⟩, hf⟩
set_option maxRecDepth 100000 in
set_option maxHeartbeats 1000000 in
theorem pdq_any {w : World} {B g n c : Nat} {zs : List Nat} (h : OwnA w B (some ⟨g, 0, none⟩) n c zs) (hn0 : 0 < n) (hn : n ≤ 12) (l : Int) :
    Calls Tryz.prog 174 #[.slice (some ⟨g, 0, none⟩) n c, .int .i64 0, .int .i64 (n : Nat), .int .i64 l] w (SrtP w B g n c zs) := by
  have HI := (show Hid _ from ins_any h hn0 hn)
  have hn1 : (n : Int) ≤ 12 := by omega
  clear h
  go_enter Tryz.func174, Tryz.ntmps174
  go_wp2
  go_loopw [1, 2] (fun u v wr => u = .int .i64 0 ∧ v = .int .i64 (n : Nat) ∧ wr = w) (fun _ _ _ => 0)
  case atStart => exact ⟨rfl, rfl, rfl⟩
  case round =>
    obtain ⟨rfl, rfl, rfl⟩ := hrel
    go_wp2_with fail
    refine Calls.mono HI.out ?_
    rintro e w1 ⟨rfl, h1, h2⟩
    have HH := (show Hid _ from And.intro h1 h2)
    clear h1 h2
    go_wp2
    first | (refine bodyPost_ret (results_none rfl _ _ _) rfl ?_) | go_end0
    exact ⟨rfl, HH.out.1, HH.out.2⟩
set_option maxRecDepth 100000 in
theorem len64_any (x : Nat) (hx : x ≤ 12) (w : World) : Calls Tryz.prog 233 #[.int .u64 (x : Nat)] w fun e w' => ∃ l : Int, e = .returned (.int .i64 l) ∧ w' = w := by
  go_enter Tryz.func233, Tryz.ntmps233
  have h1 : ¬ (4294967296 : Int) ≤ (x : Int) := by omega
  have h2 : ¬ (65536 : Int) ≤ (x : Int) := by omega
  have h3 : ¬ (256 : Int) ≤ (x : Int) := by omega
  go_wp2
  go_ret
  exact ⟨_, rfl, rfl⟩
set_option maxRecDepth 100000 in
theorem len_any (x : Nat) (hx : x ≤ 12) (w : World) : Calls Tryz.prog 175 #[.int .u64 (x : Nat)] w fun e w' => ∃ l : Int, e = .returned (.int .i64 l) ∧ w' = w := by
  go_enter Tryz.func175, Tryz.ntmps175
  go_wp2_with fail
  refine (len64_any x hx w).mono ?_
  rintro e w1 ⟨l, rfl, rfl⟩
  go_wp2
  go_ret
  exact ⟨l, rfl, rfl⟩
set_option maxRecDepth 100000 in
theorem sort_any {w : World} {B g n c : Nat} {zs : List Nat} (h : OwnA w B (some ⟨g, 0, none⟩) n c zs) (hn0 : 0 < n) (hn : n ≤ 12) :
    Calls Tryz.prog 134 #[.slice (some ⟨g, 0, none⟩) n c] w (SrtP w B g n c zs) := by
  have HP := (show Hid _ from fun l => pdq_any h hn0 hn l)
  have hn1 : (n : Int) ≤ 12 := by omega
  clear h
  go_enter Tryz.func134, Tryz.ntmps134
  go_wp2_with fail
  refine (len_any n hn w).mono ?_
  rintro e w1 ⟨l, rfl, rfl⟩
  go_wp2_with fail
  refine Calls.mono (HP.out l) ?_
  rintro e w2 ⟨rfl, h1, h2⟩
  have HH := (show Hid _ from And.intro h1 h2)
  clear h1 h2
  go_wp2
  first | (refine bodyPost_ret (results_none rfl _ _ _) rfl ?_) | go_end0
  exact ⟨rfl, HH.out.1, HH.out.2⟩
set_option maxRecDepth 100000 in
theorem ins_zero (a : Option Addr) (c : Nat) (w : World) : Calls Tryz.prog 223 #[.slice a 0 c, .int .i64 0, .int .i64 0] w fun e w' => e = .returned (.tuple #[]) ∧ w' = w := by
  go_enter Tryz.func223, Tryz.ntmps223
  go_wp2
  go_loopw [6] (fun v wr => v = .int .i64 1 ∧ wr = w) (fun _ _ => 0)
  case atStart => exact ⟨rfl, rfl⟩
  case round =>
    obtain ⟨rfl, rfl⟩ := hrel
    go_wp2
    first | (refine bodyPost_ret (results_none rfl _ _ _) rfl ?_) | go_end0
    exact ⟨rfl, rfl⟩
set_option maxRecDepth 100000 in
set_option maxHeartbeats 1000000 in
theorem pdq_zero (a : Option Addr) (c : Nat) (l : Int) (w : World) : Calls Tryz.prog 174 #[.slice a 0 c, .int .i64 0, .int .i64 0, .int .i64 l] w fun e w' => e = .returned (.tuple #[]) ∧ w' = w := by
  have HI := (show Hid _ from ins_zero a c w)
  go_enter Tryz.func174, Tryz.ntmps174
  go_wp2
  go_loopw [1, 2] (fun u v wr => u = .int .i64 0 ∧ v = .int .i64 0 ∧ wr = w) (fun _ _ _ => 0)
  case atStart => exact ⟨rfl, rfl, rfl⟩
  case round =>
    obtain ⟨rfl, rfl, rfl⟩ := hrel
    go_wp2_with fail
    refine Calls.mono HI.out ?_
    rintro e w1 ⟨rfl, rfl⟩
    go_wp2
    first | (refine bodyPost_ret (results_none rfl _ _ _) rfl ?_) | go_end0
    exact ⟨rfl, rfl⟩
set_option maxRecDepth 100000 in
theorem sort_zero (a : Option Addr) (c : Nat) (w : World) : Calls Tryz.prog 134 #[.slice a 0 c] w fun e w' => e = .returned (.tuple #[]) ∧ w' = w := by
  go_enter Tryz.func134, Tryz.ntmps134
  go_wp2_with fail
  refine (len_any 0 (by decide) w).mono ?_
  rintro e w1 ⟨l, rfl, rfl⟩
  go_wp2_with fail
  refine (pdq_zero a c l w1).mono ?_
  rintro e w2 ⟨rfl, rfl⟩
  go_wp2
  first | (refine bodyPost_ret (results_none rfl _ _ _) rfl ?_) | go_end0
  exact ⟨rfl, rfl⟩
end Go.Proofs.YtfjpckaphfdfnaaGreatDoor
