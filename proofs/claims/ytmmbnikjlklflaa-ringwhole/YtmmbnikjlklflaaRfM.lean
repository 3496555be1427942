/- The reference's ring (two queues) as it lies in memory; Owner. -/
import Derived.Test.YtmmbnikjlklflaaOwnR
namespace Go.Proofs.Ytmmbnikjlklflaa
open Go.RowKit
/-- The row of what is filled: rows of bytes that nobody turns. -/
structure FullAt (w : World) (X : Nat → Prop) (a : Option Addr) (c : Nat) (fs : List (List Nat)) : Prop where
  cap : fs.length ≤ c
  cm : c ≤ maxLen
  nz : a = none → c = 0
  at_ : fs = [] ∨ ∃ g o, a = some ⟨g, o, none⟩ ∧ g < w.heap.size ∧ ¬ X g ∧ ∀ j zs, fs[j]? = some zs → ∃ b m, w.cell? ⟨g, o + j, none⟩ = some (.slice (some ⟨b, 0, none⟩) zs.length m) ∧ ¬ X b ∧ OwnB w 0 (some ⟨b, 0, none⟩) zs.length m zs ∧ zs.length ≤ 1514
structure Rf (w : World) (B : Nat) (X : Nat → Prop) (q N gn out d : Nat) (fs : List (List Nat)) : Prop where
  bq : B ≤ q
  xq : X q
  xlt : ∀ k, X k → k < w.heap.size
  n1 : 1 ≤ N
  n64 : N ≤ 64
  sum : out + fs.length ≤ N
  c0 : w.cell? ⟨q, 0, none⟩ = some (.int .i64 (N : Nat))
  c2 : w.cell? ⟨q, 2, none⟩ = some (.int .i64 (out : Nat))
  c3 : w.cell? ⟨q, 3, none⟩ = some (.int .i64 (gn : Nat))
  c4 : w.cell? ⟨q, 4, none⟩ = some (.int .i64 (d : Nat))
  free : ∀ i, w.frozen? ⟨q, i, none⟩ = false
  full : ∃ a c, w.cell? ⟨q, 1, none⟩ = some (.slice a fs.length c) ∧ FullAt w X a c fs
theorem FullAt.fr {P : Nat → Prop} {w w' : World} {X : Nat → Prop} {a : Option Addr} {c : Nat} {fs : List (List Nat)} (h : FullAt w X a c fs) (hf : Fr P w w') (hp : ∀ k, k < w.heap.size → P k → X k) : FullAt w' X a c fs := by
  refine ⟨h.cap, h.cm, h.nz, ?_⟩
  rcases h.at_ with h0 | ⟨g, o, rfl, hlt, hx, hc⟩
  · exact .inl h0
  · refine .inr ⟨g, o, rfl, Nat.lt_of_lt_of_le hlt hf.size, hx, fun j zs hj => ?_⟩
    obtain ⟨b, m, h1, h2, h3, h4⟩ := hc j zs hj
    exact ⟨b, m, (hf.cell ⟨g, o + j, none⟩ hlt (fun h => hx (hp g hlt h))).trans h1, h2, h3.fr hf (fun h => h2 (hp b h3.blt.1 h)), h4⟩
theorem Rf.lt {w : World} {B : Nat} {X : Nat → Prop} {q N gn out d : Nat} {fs : List (List Nat)} (h : Rf w B X q N gn out d fs) : q < w.heap.size := h.xlt q h.xq
/-- What turns blocks of X alone, but not this ring's, leaves it. -/
theorem Rf.fr {P : Nat → Prop} {w w' : World} {B : Nat} {X : Nat → Prop} {q N gn out d : Nat} {fs : List (List Nat)} (h : Rf w B X q N gn out d fs) (hf : Fr P w w') (hq : ¬ P q) (hp : ∀ k, k < w.heap.size → P k → X k) : Rf w' B X q N gn out d fs := by
  have e := fun i => hf.cell ⟨q, i, none⟩ h.lt hq
  refine ⟨h.bq, h.xq, fun k hk => Nat.lt_of_lt_of_le (h.xlt k hk) hf.size, h.n1, h.n64, h.sum, (e 0).trans h.c0, (e 2).trans h.c2, (e 3).trans h.c3, (e 4).trans h.c4, fun i => (hf.frozen ⟨q, i, none⟩ h.lt hq).trans (h.free i), ?_⟩
  obtain ⟨a, c, h1, h2⟩ := h.full
  exact ⟨a, c, (e 1).trans h1, h2.fr hf hp⟩
theorem Rf.below {w w' : World} {B : Nat} {X : Nat → Prop} {q N gn out d : Nat} {fs : List (List Nat)} (h : Rf w B X q N gn out d fs) (hb : Below w.heap.size w w') : Rf w' B X q N gn out d fs :=
  h.fr (Fr.of_below (P := fun _ => False) hb) (fun h => h) (fun _ _ h => h.elim)
/-- Turned cells of the ring's own block. -/
theorem Rf.turn {w w' : World} {B : Nat} {X : Nat → Prop} {q N gn out d gn' out' d' : Nat} {fs fs' : List (List Nat)} (h : Rf w B X q N gn out d fs) (hf : Fr (· = q) w w') (hsum : out' + fs'.length ≤ N)
    (hfz : ∀ i, w'.frozen? ⟨q, i, none⟩ = false) (c0 : w'.cell? ⟨q, 0, none⟩ = some (.int .i64 (N : Nat))) (c2 : w'.cell? ⟨q, 2, none⟩ = some (.int .i64 (out' : Nat))) (c3 : w'.cell? ⟨q, 3, none⟩ = some (.int .i64 (gn' : Nat))) (c4 : w'.cell? ⟨q, 4, none⟩ = some (.int .i64 (d' : Nat)))
    (a : Option Addr) (c : Nat) (c1 : w'.cell? ⟨q, 1, none⟩ = some (.slice a fs'.length c)) (hF : FullAt w X a c fs') : Rf w' B X q N gn' out' d' fs' :=
  ⟨h.bq, h.xq, fun k hk => Nat.lt_of_lt_of_le (h.xlt k hk) hf.size, h.n1, h.n64, hsum, c0, c2, c3, c4, hfz, a, c, c1, hF.fr hf (fun _ _ e => e ▸ h.xq)⟩
def ownV (N gv tk f i : Nat) : Nat := if (i + N - gv) % N < tk then 2 else if (i + N - gv) % N < tk + f then 1 else 0
theorem owner_ref (v1 : Value) (B : Nat) (X : Nat → Prop) (q N gn out d : Nat) (fs : List (List Nat)) (i : Int) (w : World) (h : Rf w B X q N gn out d fs) (hg : gn ≤ 1000000) (e1 : v1 = .pointer (some ⟨q, 0, none⟩)) (hi : 0 ≤ i ∧ i < N) :
    Calls Try.prog 27 #[v1, .int .i64 i] w fun e w' => e = .returned (.tuple #[.int .i64 (ownV N (gn % N) out fs.length i.toNat : Nat), .int .i64 0]) ∧ Below w.heap.size w w' := by
  subst e1
  obtain ⟨i, rfl⟩ := Int.eq_ofNat_of_zero_le hi.1
  have hiN : i < N := by omega
  rw [Int.toNat_natCast]
  obtain ⟨a, c, h1, hF⟩ := h.full
  have h0 := h.c0
  have h2 := h.c2
  have h3 := h.c3
  have hn1 := h.n1
  have hn64 := h.n64
  have hsum := h.sum
  have a1 : ¬ (i : Int) < 0 := by omega
  have a2 : ¬ (N : Int) ≤ (i : Int) := by omega
  have hgm : gn % N < N := Nat.mod_lt _ hn1
  have ht1 : Int.tmod (gn : Int) (N : Int) = ((gn % N : Nat) : Int) := by rw [Int.tmod_eq_emod_of_nonneg (by omega)]; simp
  have ht2 : Int.tmod ((i : Int) - ((gn % N : Nat) : Int) + (N : Int)) (N : Int) = (((i + N - gn % N) % N : Nat) : Int) := by
    rw [show (i : Int) - ((gn % N : Nat) : Int) + (N : Int) = ((i + N - gn % N : Nat) : Int) by omega, Int.tmod_eq_emod_of_nonneg (by omega)]; simp
  have hq : ¬ (N : Int) = 0 := by omega
  have hbl : (i + N - gn % N) % N < N := Nat.mod_lt _ hn1
  unfold ownV
  generalize (i + N - gn % N) % N = bh at *
  generalize gn % N = gm at *
  go_enter Try.func27, Try.ntmps27
  by_cases b1 : bh < out
  · rw [if_pos b1]
    have b1' : (bh : Int) < (out : Int) := by omega
    go_wp2
    go_quiet (fail)
    all_goals
      go_wp2
      go_ret2
      exact ⟨rfl, ⟨rfl, rfl, rfl, Nat.le_refl _, fun _ _ => rfl⟩⟩
  · rw [if_neg b1]
    have b1' : ¬ (bh : Int) < (out : Int) := by omega
    by_cases b2 : bh < out + fs.length
    · rw [if_pos b2]
      have b2' : (bh : Int) < (out : Int) + (fs.length : Int) := by omega
      go_wp2
      go_quiet (fail)
      all_goals
        go_wp2
        go_quiet (fail)
        all_goals
          go_wp2
          go_ret2
          exact ⟨rfl, ⟨rfl, rfl, rfl, Nat.le_refl _, fun _ _ => rfl⟩⟩
    · rw [if_neg b2]
      have b2' : ¬ (bh : Int) < (out : Int) + (fs.length : Int) := by omega
      go_wp2
      go_quiet (fail)
      all_goals
        go_wp2
        go_quiet (fail)
        all_goals
          go_wp2
          go_ret2
          exact ⟨rfl, ⟨rfl, rfl, rfl, Nat.le_refl _, fun _ _ => rfl⟩⟩
theorem owner_ref_no (B : Nat) (X : Nat → Prop) (q N gn out d : Nat) (fs : List (List Nat)) (i : Int) (w : World) (h : Rf w B X q N gn out d fs) (hi : ¬ (0 ≤ i ∧ i < N)) :
    Calls Try.prog 27 #[.pointer (some ⟨q, 0, none⟩), .int .i64 i] w fun e w' => e = .returned (.tuple #[.int .i64 0, .int .i64 2]) ∧ Below w.heap.size w w' := by
  have h0 := h.c0
  go_enter Try.func27, Try.ntmps27
  by_cases a1 : i < 0
  · go_wp2
    go_ret2
    exact ⟨rfl, Below.refl _ _⟩
  · have a2 : (N : Int) ≤ i := by omega
    go_wp2
    go_ret2
    exact ⟨rfl, Below.refl _ _⟩
theorem new_ref_no (n : Int) (w : World) (h : n < 1 ∨ 64 < n) : Calls Try.prog 21 #[.int .i64 n] w fun e w' => e = .returned (.tuple #[.pointer none, .int .i64 2]) ∧ Below w.heap.size w w' := by
  go_enter Try.func21, Try.ntmps21
  by_cases h1 : n < 1
  · go_wp2
    go_ret2
    exact ⟨rfl, Below.refl _ _⟩
  · have h2 : 64 < n := by omega
    go_wp2
    go_ret2
    exact ⟨rfl, Below.refl _ _⟩
theorem new_ref (N : Nat) (w : World) (h1 : 1 ≤ N) (h2 : N ≤ 64) : Calls Try.prog 21 #[.int .i64 (N : Int)] w fun e w' => ∃ q, e = .returned (.tuple #[.pointer (some ⟨q, 0, none⟩), .int .i64 0]) ∧ Rf w' w.heap.size (fun k => k = q) q N 0 0 0 [] ∧ Below w.heap.size w w' := by
  have a1 : ¬ (N : Int) < 1 := by omega
  have a2 : ¬ (64 : Int) < N := by omega
  go_enter Try.func21, Try.ntmps21
  go_wp2
  go_ret2
  have hc : ∀ i, (w.alloc (.cells #[.int .i64 (N : Int), .slice none 0 0, .int .i64 0, .int .i64 0, .int .i64 0] 60)).cell? ⟨w.heap.size, i, none⟩ = (#[.int .i64 (N : Int), .slice none 0 0, .int .i64 0, .int .i64 0, .int .i64 0] : Array Value)[i]? := fun i => by rw [World.cell?_alloc_mark]
  exact ⟨w.heap.size, rfl, ⟨Nat.le_refl _, rfl, fun k hk => by simp; omega, h1, h2, by simp, hc 0, hc 2, hc 3, hc 4, fun i => free_new _ _ _ _, none, 0, hc 1, ⟨by simp, by omega, fun _ => rfl, .inl rfl⟩⟩, (Below.refl _ _).alloc (Nat.le_refl _) _⟩
theorem Rf.setX {w : World} {B B' : Nat} {X : Nat → Prop} {q N gn out d : Nat} (h : Rf w B X q N gn out d []) (hB : B' ≤ B) (Y : Nat → Prop) (hq : Y q) (hl : ∀ k, Y k → k < w.heap.size) : Rf w B' Y q N gn out d [] := by
  obtain ⟨a, c, h1, h2⟩ := h.full
  exact ⟨Nat.le_trans hB h.bq, hq, hl, h.n1, h.n64, h.sum, h.c0, h.c2, h.c3, h.c4, h.free, a, c, h1, h2.cap, h2.cm, h2.nz, .inl rfl⟩
theorem elR : Try.prog.elem 32 = 33 := by simp [Program.elem, Try.underlying32]
theorem undR : Try.prog.underlying 32 = some (.slice (Try.prog.elem 32)) := by rw [elR]; exact Try.underlying32
theorem cellsR : Try.prog.cellsOf 33 = 1 := by kernel_rfl
theorem sizeR (w : World) : (sizeOf (Try.prog.elem 32)).run Try.prog w = .ok 1 w := by
  rw [elR]
  obtain ⟨i, hi, _, hz1, _⟩ := info_parts rg_info
  simp [sizeOf, typeInfo, hi, hz1]
theorem slice_fromR (b off n c : Nat) (h : 1 ≤ n) (_hc : n ≤ c) : ∃ a', (∀ w, (Instr.slice 32 (.slice (some ⟨b, off, none⟩) n c) (some (.int .i64 1)) none none).run Try.prog w = .ok (.slice (some a') (n - 1) (c - 1)) w) ∧ (1 < n → a' = ⟨b, off + 1, none⟩) := by
  refine ⟨if c = 1 then ⟨b, off, none⟩ else ⟨b, off + 1, none⟩, fun w => ?_, fun hx => by rw [if_neg (by omega)]⟩
  rw [run_slice_l w 32 _ n c undR .i64 1 (by omega) (by omega), sizeR]
  simp only [Result.andThen, sliced, show Int.toNat 1 = 1 from rfl]
  split <;> simp [Addr.add, *]
theorem give_ref_none (B : Nat) (X : Nat → Prop) (q N gn d : Nat) (fs : List (List Nat)) (w : World) (h : Rf w B X q N gn 0 d fs) :
    Calls Try.prog 26 #[.pointer (some ⟨q, 0, none⟩)] w fun e w' => e = .returned (.int .i64 13) ∧ w' = w := by
  have h2 := h.c2
  go_enter Try.func26, Try.ntmps26
  go_wp2
  go_ret
  exact ⟨rfl, rfl⟩
theorem give_ref (B : Nat) (X : Nat → Prop) (q N gn out d : Nat) (fs : List (List Nat)) (w : World) (h : Rf w B X q N gn (out + 1) d fs) (hg : gn ≤ 1000000) :
    Calls Try.prog 26 #[.pointer (some ⟨q, 0, none⟩)] w fun e w' => e = .returned (.int .i64 0) ∧ Fr (· = q) w w' ∧ Rf w' B X q N (gn + 1) out d fs := by
  have h2 := h.c2
  have h3 := h.c3
  have f2 := h.free 2
  have f3 := h.free 3
  have hs := h.sum
  have hn := h.n64
  have HP : Hid (Fr (· = q) w ((w.setCell ⟨q, 2, none⟩ (.int .i64 (out : Nat))).setCell ⟨q, 3, none⟩ (.int .i64 ((gn : Int) + 1))) ∧ Rf ((w.setCell ⟨q, 2, none⟩ (.int .i64 (out : Nat))).setCell ⟨q, 3, none⟩ (.int .i64 ((gn : Int) + 1))) B X q N (gn + 1) out d fs) := by
    have hF : Fr (· = q) w ((w.setCell ⟨q, 2, none⟩ (.int .i64 (out : Nat))).setCell ⟨q, 3, none⟩ (.int .i64 ((gn : Int) + 1))) := Fr.trans (Fr.setCell (· = q) _ _ _ rfl) (Fr.setCell (· = q) _ _ _ rfl)
    obtain ⟨a, c, k1, k2⟩ := h.full
    have ho : ∀ i, i ≠ 2 → i ≠ 3 → ((w.setCell ⟨q, 2, none⟩ (.int .i64 (out : Nat))).setCell ⟨q, 3, none⟩ (.int .i64 ((gn : Int) + 1))).cell? ⟨q, i, none⟩ = w.cell? ⟨q, i, none⟩ := fun i e2 e3 => by
      rw [World.cell?_setCell_other _ _ _ _ (by intro e; injection e with _ e; exact e3 e.symm), World.cell?_setCell_other _ _ _ _ (by intro e; injection e with _ e; exact e2 e.symm)]
    refine ⟨hF, h.turn hF (by omega) (fun i => by rw [World.frozen?_setCell, World.frozen?_setCell]; exact h.free i) ((ho 0 (by omega) (by omega)).trans h.c0) ?_ ?_ ((ho 4 (by omega) (by omega)).trans h.c4) a c ((ho 1 (by omega) (by omega)).trans k1) k2⟩
    · rw [World.cell?_setCell_other _ _ _ _ (by intro e; injection e with _ e; omega)]
      exact World.cell?_setCell_same' _ _ _ (by rw [h2]; rfl)
    · have := World.cell?_setCell_same' (w.setCell ⟨q, 2, none⟩ (.int .i64 (out : Nat))) ⟨q, 3, none⟩ (.int .i64 ((gn : Int) + 1)) (by rw [World.cell?_setCell_other _ _ _ _ (by intro e; injection e with _ e; omega), h3]; rfl)
      rw [this]; simp
  go_enter Try.func26, Try.ntmps26
  go_wp2
  go_ret
  exact ⟨rfl, HP.out⟩
theorem take_ref_none (B : Nat) (X : Nat → Prop) (q N gn out d : Nat) (w : World) (h : Rf w B X q N gn out d []) :
    Calls Try.prog 25 #[.pointer (some ⟨q, 0, none⟩)] w fun e w' => e = .returned (.tuple #[.slice none 0 0, .int .i64 13]) ∧ w' = w := by
  obtain ⟨a, c, h1, hF⟩ := h.full
  simp only [List.length_nil] at h1
  go_enter Try.func25, Try.ntmps25
  go_wp2
  go_ret2
  exact ⟨rfl, rfl⟩
set_option maxHeartbeats 1000000 in
theorem take_ref (B : Nat) (X : Nat → Prop) (q N gn out d : Nat) (zs : List Nat) (fs : List (List Nat)) (w : World) (h : Rf w B X q N gn out d (zs :: fs)) :
    Calls Try.prog 25 #[.pointer (some ⟨q, 0, none⟩)] w fun e w' => ∃ b m, e = .returned (.tuple #[.slice (some ⟨b, 0, none⟩) zs.length m, .int .i64 0]) ∧ (OwnB w' 0 (some ⟨b, 0, none⟩) zs.length m zs ∧ ¬ X b) ∧ Fr (· = q) w w' ∧ Rf w' B X q N gn (out + 1) d fs := by
  obtain ⟨a, c, h1, hF⟩ := h.full
  have h2 := h.c2
  have f1 := h.free 1
  have f2 := h.free 2
  have hs := h.sum
  have hn := h.n64
  have hcap := hF.cap
  have hcm := hF.cm
  rw [List.length_cons] at hs h1 hcap
  rcases hF.at_ with h0 | ⟨g, o, rfl, hlt, hx, hc⟩
  · cases h0
  obtain ⟨b, m, k1, k2, k3, k4⟩ := hc 0 zs rfl
  rw [Nat.add_zero] at k1
  have hgq : ¬ g = q := fun e => hx (e ▸ h.xq)
  have hqg : ¬ q = g := fun e => hgq e.symm
  obtain ⟨a', hsl, ha'⟩ := slice_fromR g o (fs.length + 1) c (by omega) hcap
  rw [Nat.add_sub_cancel] at hsl
  have hF' : FullAt w X (some a') (c - 1) fs := by
    refine ⟨by omega, by omega, fun e => (by cases e), ?_⟩
    by_cases hfs : fs = []
    · exact .inl hfs
    · have : 0 < fs.length := List.length_pos_iff.2 hfs
      refine .inr ⟨g, o + 1, by rw [ha' (by omega)], hlt, hx, fun j ys hj => ?_⟩
      obtain ⟨b2, m2, r1, r2⟩ := hc (j + 1) ys (by simpa using hj)
      exact ⟨b2, m2, by rw [show o + 1 + j = o + (j + 1) by omega]; exact r1, r2⟩
  have HP : Hid ((OwnB ((w.setCell ⟨q, 1, none⟩ (.slice (some a') fs.length (c - 1))).setCell ⟨q, 2, none⟩ (.int .i64 ((out : Int) + 1))) 0 (some ⟨b, 0, none⟩) zs.length m zs ∧ ¬ X b) ∧ Fr (· = q) w ((w.setCell ⟨q, 1, none⟩ (.slice (some a') fs.length (c - 1))).setCell ⟨q, 2, none⟩ (.int .i64 ((out : Int) + 1))) ∧ Rf ((w.setCell ⟨q, 1, none⟩ (.slice (some a') fs.length (c - 1))).setCell ⟨q, 2, none⟩ (.int .i64 ((out : Int) + 1))) B X q N gn (out + 1) d fs) := by
    have hFr : Fr (· = q) w ((w.setCell ⟨q, 1, none⟩ (.slice (some a') fs.length (c - 1))).setCell ⟨q, 2, none⟩ (.int .i64 ((out : Int) + 1))) := Fr.trans (Fr.setCell (· = q) _ _ _ rfl) (Fr.setCell (· = q) _ _ _ rfl)
    have ho : ∀ i, i ≠ 1 → i ≠ 2 → ((w.setCell ⟨q, 1, none⟩ (.slice (some a') fs.length (c - 1))).setCell ⟨q, 2, none⟩ (.int .i64 ((out : Int) + 1))).cell? ⟨q, i, none⟩ = w.cell? ⟨q, i, none⟩ := fun i e2 e3 => by
      rw [World.cell?_setCell_other _ _ _ _ (by intro e; injection e with _ e; exact e3 e.symm), World.cell?_setCell_other _ _ _ _ (by intro e; injection e with _ e; exact e2 e.symm)]
    refine ⟨⟨k3.fr hFr (fun e => k2 (e ▸ h.xq)), k2⟩, hFr, h.turn hFr (by omega) (fun i => by rw [World.frozen?_setCell, World.frozen?_setCell]; exact h.free i) ((ho 0 (by omega) (by omega)).trans h.c0) ?_ ((ho 3 (by omega) (by omega)).trans h.c3) ((ho 4 (by omega) (by omega)).trans h.c4) (some a') (c - 1) ?_ hF'⟩
    · have := World.cell?_setCell_same' (w.setCell ⟨q, 1, none⟩ (.slice (some a') fs.length (c - 1))) ⟨q, 2, none⟩ (.int .i64 ((out : Int) + 1)) (by rw [World.cell?_setCell_other _ _ _ _ (by intro e; injection e with _ e; omega), h2]; rfl)
      rw [this]; simp
    · rw [World.cell?_setCell_other _ _ _ _ (by intro e; injection e with _ e; omega)]
      exact World.cell?_setCell_same' _ _ _ (by rw [h1]; rfl)
  clear hF hF' hc k2 k3 ha'
  go_enter Try.func25, Try.ntmps25
  go_wp2
  go_ret2
  exact ⟨b, m, rfl, HP.out⟩
end Go.Proofs.Ytmmbnikjlklflaa
