/- law11.ReasmWhole's add, given what Add answers. -/
import Derived.Test.YtnbagloifbllbaaRsX
import Derived.Test.YtnbagloifbllbaaRgZ
namespace Go.Proofs.Ytnbagloifbllbaa
open Go.RowKit
abbrev Gam := Option Addr × Nat
/-- What is told of the pool behind Add; g: the body that it told, if it did. -/
def FinW (p : Nat) (A' : List (Nm × List Pc)) (zs : List Nat) (t : Bool) (g : Gam) (kd' : Nat → Role) (W : World) : Prop :=
  (∃ now dr hs, now ≤ 1 ∧ PoolW W kd' p now dr hs ∧ absL hs = A') ∧ (t = true → Sl W g.1 zs.length g.2 zs ∧ ∀ b off, g.1 = some ⟨b, off, none⟩ → b < W.heap.size ∧ kd' b = .no)
def ApW (t : Bool) (q : Nat) (g : Gam) : Prop := t = true → ∀ b off, g.1 = some ⟨b, off, none⟩ → q ≠ b
theorem FinW.fresh {p : Nat} {A' : List (Nm × List Pc)} {zs : List Nat} {t : Bool} {g : Gam} {kd' : Nat → Role} {W : World} (h : FinW p A' zs t g kd' W) : kd' W.heap.size = .no ∧ ApW t W.heap.size g := by
  obtain ⟨⟨now, dr, hs, _, hP, _⟩, h2⟩ := h
  refine ⟨hP.fresh _ (Nat.le_refl _), fun ht b off hb e => ?_⟩
  have := ((h2 ht).2 b off hb).1
  omega
theorem FinW.fr {p : Nat} {A' : List (Nm × List Pc)} {zs : List Nat} {t : Bool} {g : Gam} {kd' : Nat → Role} {W W' : World} {Q : Nat → Prop} (h : FinW p A' zs t g kd' W) (hf : Fr Q W W') (hq : ∀ b, Q b → kd' b = .no) (ha : ∀ q, Q q → ApW t q g) : FinW p A' zs t g kd' W' := by
  obtain ⟨⟨now, dr, hs, h1, hP, h3⟩, h2⟩ := h
  refine ⟨⟨now, dr, hs, h1, hP.fr hf (fun b _ hb => hq b hb), h3⟩, fun ht => ?_⟩
  obtain ⟨h4, h5⟩ := h2 ht
  exact ⟨Sl.frX h4 hf (fun b off hb e => ha b e ht b off hb rfl), fun b off hb => ⟨Nat.lt_of_lt_of_le (h5 b off hb).1 hf.size, (h5 b off hb).2⟩⟩
/-- The region of add: which of Add, alloc and store (5, 10, 11) are done. -/
structure RgA (w : World) (kd : Nat → Role) (p : Nat) (A' : List (Nm × List Pc)) (zs : List Nat) (t : Bool) (R : Gam → List Value) (θ : Nat × (Nat → Role) × Gam) (l : Nat → Bool) (W : World) : Prop where
  a1 : l 11 = true → Stc W θ.1 (R θ.2.2)
  a2 : l 11 = false → l 10 = true → Stc W θ.1 [.int .u32 0, .int .u32 0, .int .u8 0, .int .u8 0, .int .u16 0, .bool false, .bool false, .int .i64 0, .slice none 0 0]
  a3 : l 10 = true → w.heap.size ≤ θ.1 ∧ θ.1 < W.heap.size
  a4 : l 5 = false → Below w.heap.size w W
  a5 : l 5 = true → Grow kd θ.2.1 w W ∧ FinW p A' zs t θ.2.2 θ.2.1 W ∧ ∀ q, q < w.heap.size → ApW t q θ.2.2
  a6 : l 5 = true → l 10 = true → θ.2.1 θ.1 = .no ∧ ApW t θ.1 θ.2.2
section
variable {w : World} {kd : Nat → Role} {p : Nat} {A' : List (Nm × List Pc)} {zs : List Nat} {t : Bool} {R : Gam → List Value} {θ : Nat × (Nat → Role) × Gam} {l : Nat → Bool} {W : World}
theorem updL_ne {l : Nat → Bool} {i j : Nat} (h : j ≠ i) : updL l i j = l j := if_neg h
theorem updL_eq {l : Nat → Bool} {i : Nat} : updL l i i = true := if_pos rfl
theorem RgA.other (h : RgA w kd p A' zs t R θ l W) (i : Nat) (h5 : 5 ≠ i) (h10 : 10 ≠ i) (h11 : 11 ≠ i) : RgA w kd p A' zs t R θ (updL l i) W :=
  ⟨by rw [updL_ne h11]; exact h.a1, by rw [updL_ne h11, updL_ne h10]; exact h.a2, by rw [updL_ne h10]; exact h.a3, by rw [updL_ne h5]; exact h.a4, by rw [updL_ne h5]; exact h.a5, by rw [updL_ne h5, updL_ne h10]; exact h.a6⟩
theorem RgA.alloc (h : RgA w kd p A' zs t R θ l W) (h11 : l 11 = false) : RgA w kd p A' zs t R (W.heap.size, θ.2) (updL l 10) (W.alloc (.cells #[.int .u32 0, .int .u32 0, .int .u8 0, .int .u8 0, .int .u16 0, .bool false, .bool false, .int .i64 0, .slice none 0 0] 26)) := by
  have hb : Below W.heap.size W (W.alloc (.cells #[.int .u32 0, .int .u32 0, .int .u8 0, .int .u8 0, .int .u16 0, .bool false, .bool false, .int .i64 0, .slice none 0 0] 26)) := (Below.refl _ _).alloc (Nat.le_refl _) _
  have hwW : w.heap.size ≤ W.heap.size := by
    cases h5 : l 5 with
    | false => exact (h.a4 h5).size
    | true => exact (h.a5 h5).1.fr.size
  refine ⟨(by rw [updL_ne (by omega), h11]; exact fun e => (by cases e)), fun _ _ => Stc.new W [.int .u32 0, .int .u32 0, .int .u8 0, .int .u8 0, .int .u16 0, .bool false, .bool false, .int .i64 0, .slice none 0 0] 26 _ rfl, fun _ => ⟨hwW, (by simp)⟩, ?_, ?_, ?_⟩
  · rw [updL_ne (by omega)]; exact fun h5 => (h.a4 h5).trans (hb.mono hwW)
  · rw [updL_ne (by omega)]; exact fun h5 => ⟨(h.a5 h5).1.out (Fr.of_below (P := fun _ => False) hb) (fun _ e => e.elim), (h.a5 h5).2.1.fr (Fr.of_below (P := fun _ => False) hb) (fun _ e => e.elim) (fun _ e => e.elim), (h.a5 h5).2.2⟩
  · rw [updL_ne (i := 10) (j := 5) (by omega)]; exact fun h5 _ => (h.a5 h5).2.1.fresh
theorem RgA.call (h : RgA w kd p A' zs t R θ l W) (h5 : l 5 = false) (h11 : l 11 = false) (hkf : ∀ b, w.heap.size ≤ b → kd b = .no) {W' : World} {kd' : Nat → Role} {g : Gam} (hG : Grow kd kd' W W') (hF : FinW p A' zs t g kd' W') (hA : ∀ q, q < W.heap.size → ApW t q g) : RgA w kd p A' zs t R (θ.1, kd', g) (updL l 5) W' := by
  refine ⟨(by rw [updL_ne (by omega), h11]; exact fun e => (by cases e)), ?_, ?_, fun e => (by rw [updL_eq] at e; cases e), fun _ => ⟨(Grow.of_below (kd := kd) (h.a4 h5)).trans hG, hF, fun q hq => hA q (Nat.lt_of_lt_of_le hq (h.a4 h5).size)⟩, ?_⟩
  · rw [updL_ne (by omega), updL_ne (by omega)]
    exact fun e1 e2 => (h.a2 e1 e2).fr hG.fr (fun e => e (hkf _ (h.a3 e2).1))
  · rw [updL_ne (by omega)]; exact fun e => ⟨(h.a3 e).1, Nat.lt_of_lt_of_le (h.a3 e).2 hG.fr.size⟩
  · rw [updL_ne (i := 5) (j := 10) (by omega)]; exact fun _ e => ⟨(hG.keep _ (h.a3 e).2).trans (hkf _ (h.a3 e).1), hA _ (h.a3 e).2⟩
theorem RgA.store (h : RgA w kd p A' zs t R θ l W) (h5 : l 5 = true) (h10 : l 10 = true) (h11 : l 11 = false) (hR : (R θ.2.2).length = 9) : W.there θ.1 0 (R θ.2.2).length ∧ RgA w kd p A' zs t R θ (updL l 11) (W.setCells θ.1 0 (R θ.2.2)) := by
  have hs := h.a2 h11 h10
  have hf := fr_setCellsX θ.1 (R θ.2.2) 0 W
  obtain ⟨k1, k2⟩ := h.a6 h5 h10
  refine ⟨by rw [hR]; exact hs.there, ⟨fun _ => hs.put _ hR, fun e => (by rw [updL_eq] at e; cases e), ?_, ?_, ?_, ?_⟩⟩
  · rw [updL_ne (by omega)]; exact fun e => ⟨(h.a3 e).1, Nat.lt_of_lt_of_le (h.a3 e).2 hf.size⟩
  · rw [updL_ne (by omega), h5]; exact fun e => (by cases e)
  · rw [updL_ne (by omega)]; exact fun _ => ⟨(h.a5 h5).1.out hf (fun b hb => by rw [hb]; exact (h.a3 h10).1), (h.a5 h5).2.1.fr hf (fun b hb => by rw [hb]; exact k1) (fun b hb => by rw [hb]; exact k2), (h.a5 h5).2.2⟩
  · rw [updL_ne (by omega), updL_ne (by omega)]; exact h.a6
end
theorem zero9 (w : World) : (zeroValue 26).run Try.prog w = .ok (.agg #[.int .u32 0, .int .u32 0, .int .u8 0, .int .u8 0, .int .u16 0, .bool false, .bool false, .int .i64 0, .slice none 0 0]) w := by kernel_rfl
set_option maxRecDepth 100000 in
set_option maxHeartbeats 1000000 in
theorem whadd_f {w0 w : World} {kd : Nat → Role} {br bl bt bf bp p gt : Nat} {sr ds pr tt id : Nat} {a : Option Addr} {c : Nat} {zs : List Nat} {la : Option Addr} {K lc : Nat} {ps : List Pk} {P : Nat → Nat} {mtu : Int} {A : List (Nm × List Pc)} {ks : List Nat} (h : WhS w0 w kd br bl bt bf bp p gt sr ds pr tt id a c zs la K lc ps P mtu A ks) (k : Nat) (hk : k < K) (x : Pk) (hx : ps[k]? = some x) (A' : List (Nm × List Pc)) (hlen : ks.length + 1 < K ∨ (k ∈ ks ∧ ks.length < K))
    (hadd : ∀ W, Below w.heap.size w W → Calls Try.prog 10 #[.pointer (some ⟨p, 0, none⟩), .agg #[.int .u32 (x.sr : Nat), .int .u32 (x.ds : Nat), .int .u8 (x.pr : Nat), .int .u8 (x.tt : Nat), .int .u16 (x.id : Nat), .bool x.dn, .bool x.mo, .int .i64 x.of, .slice x.a x.n x.c], .int .i64 1] W fun e w' => ∃ (g : Gam) (kd' : Nat → Role), e = .returned (.tuple #[.agg #[.int .u32 0, .int .u32 0, .int .u8 0, .int .u8 0, .int .u16 0, .bool false, .bool false, .int .i64 0, .slice none 0 0], .bool false, .int .i64 0]) ∧ Grow kd kd' W w' ∧ FinW p A' zs false g kd' w' ∧ ∀ q, q < W.heap.size → ApW false q g) :
    Calls Try.prog 9 #[.int .i64 (k : Nat), .pointer (some ⟨br, 0, none⟩), .pointer (some ⟨bl, 0, none⟩), .pointer (some ⟨bt, 0, none⟩), .pointer (some ⟨bf, 0, none⟩), .pointer (some ⟨bp, 0, none⟩)] w fun e w' => e = .returned (.tuple #[.bool false, .bool true]) ∧ ∃ kd', WhS w0 w' kd' br bl bt bf bp p gt sr ds pr tt id a c zs la K lc ps P mtu A' (if k ∈ ks then ks else ks ++ [k]) := by
  obtain ⟨gl, hgl0, _, hgll, hcap, hcapm, hcell⟩ := h.row.at_ (by omega)
  subst hgl0
  have hrl := h.rl gl rfl
  obtain ⟨o0, o1, o2, o3, o4, o5, o6⟩ := h.ord
  have HKC : Hid (∀ W, Below w.heap.size w W → W.cell? ⟨br, 0, none⟩ = some (.pointer (some ⟨p, 0, none⟩)) ∧ W.cell? ⟨bl, 0, none⟩ = some (.slice (some ⟨gl, 0, none⟩) K lc) ∧ W.cell? ⟨gl, k * 9, none⟩ = some (.int .u32 (x.sr : Nat)) ∧ W.cell? ⟨gl, k * 9 + 1, none⟩ = some (.int .u32 (x.ds : Nat)) ∧ W.cell? ⟨gl, k * 9 + 2, none⟩ = some (.int .u8 (x.pr : Nat)) ∧ W.cell? ⟨gl, k * 9 + 3, none⟩ = some (.int .u8 (x.tt : Nat)) ∧ W.cell? ⟨gl, k * 9 + 4, none⟩ = some (.int .u16 (x.id : Nat)) ∧ W.cell? ⟨gl, k * 9 + 5, none⟩ = some (.bool x.dn) ∧ W.cell? ⟨gl, k * 9 + 6, none⟩ = some (.bool x.mo) ∧ W.cell? ⟨gl, k * 9 + 7, none⟩ = some (.int .i64 x.of) ∧ W.cell? ⟨gl, k * 9 + 8, none⟩ = some (.slice x.a x.n x.c)) := by
    show ∀ _, _
    intro W hW
    have hc := fun i u (hu : x.cells[i]? = some u) => (hW.cell (p := ⟨gl, k * 9 + i, none⟩) hgll).trans (hcell k x hx i u hu)
    exact ⟨(h.cr.below hW).cell 0 _ rfl, (h.cl.below hW).cell 0 _ rfl, hc 0 _ rfl, hc 1 _ rfl, hc 2 _ rfl, hc 3 _ rfl, hc 4 _ rfl, hc 5 _ rfl, hc 6 _ rfl, hc 7 _ rfl, hc 8 _ rfl⟩
  have bd : Below w.heap.size w w.drew := (Below.refl _ _).drew
  have hKb : K ≤ 9223372036854775807 := by unfold maxLen at hcapm; omega
  have hki : (k : Int) < (K : Int) := by omega
  obtain ⟨_, _, _, _, hPW, _⟩ := h.pool
  have hkf : ∀ b, w.heap.size ≤ b → kd b = .no := hPW.fresh
  go_enter Try.func9, Try.ntmps9
  go_wp2_with fail
  refine wp_region_parW mixedX (fun θ : Nat × (Nat → Role) × Gam => [(13, .pointer (some ⟨p, 0, none⟩)), (14, .slice (some ⟨gl, 0, none⟩) K lc), (15, .int .i64 (k : Nat)), (16, .pointer (some ⟨gl, k * 9, none⟩)), (17, .agg #[.int .u32 (x.sr : Nat), .int .u32 (x.ds : Nat), .int .u8 (x.pr : Nat), .int .u8 (x.tt : Nat), .int .u16 (x.id : Nat), .bool x.dn, .bool x.mo, .int .i64 x.of, .slice x.a x.n x.c]), (18, .tuple #[.agg #[.int .u32 0, .int .u32 0, .int .u8 0, .int .u8 0, .int .u16 0, .bool false, .bool false, .int .i64 0, .slice none 0 0], .bool false, .int .i64 0]), (12, .tuple #[.agg #[.int .u32 0, .int .u32 0, .int .u8 0, .int .u8 0, .int .u16 0, .bool false, .bool false, .int .i64 0, .slice none 0 0], .bool false, .int .i64 0]), (19, .agg #[.int .u32 0, .int .u32 0, .int .u8 0, .int .u8 0, .int .u16 0, .bool false, .bool false, .int .i64 0, .slice none 0 0]), (20, .bool false), (21, .int .i64 0), (9, .pointer (some ⟨θ.1, 0, none⟩)), (10, .bool false), (11, .int .i64 0)]) (fun θ l W => RgA w kd p A' zs false (fun g => [.int .u32 0, .int .u32 0, .int .u8 0, .int .u8 0, .int .u16 0, .bool false, .bool false, .int .i64 0, .slice none 0 0]) θ l W) (0, kd, (none, 0)) ?Z1 ?hZ1 (by kernel_rfl) (by kernel_rfl) (fun θ => by kernel_rfl) (by kernel_rfl) ?h01 ?hops1 ?he1
  case hZ1 => intro θ; simp only [List.foldl_cons, List.foldl_nil, List.setIfInBounds_toArray, List.set_cons_zero, List.set_cons_succ]; rfl
  case h01 => exact ⟨fun e => (by cases e), fun _ e => (by cases e), fun e => (by cases e), fun _ => bd, fun e => (by cases e), fun e => (by cases e)⟩
  case hops1 =>
    refine ⟨?_, ?_, ?_, ?_, ?_, ?_, ?_, ?_, ?_, ?_, ?_, ?_, ?_, ?_, trivial⟩
    · exact par_val (fun θ => by rfl) (fun θ l W hg => hg.other 0 (by omega) (by omega) (by omega)) (fun θ l W hl hc hd hg => by have h5 : l 5 = false := (by cases h5 : l 5 with | false => rfl | true => exact absurd (hc 5 0 (by kernel_rfl) h5) (by rw [hl]; decide)); obtain ⟨d0, d1, d2, d3, d4, d5, d6, d7, d8, d9, d10⟩ := HKC.out W (hg.a4 h5); go_simp; (try with_reducible rfl); (try omega))
    · exact par_val (fun θ => by rfl) (fun θ l W hg => hg.other 1 (by omega) (by omega) (by omega)) (fun θ l W hl hc hd hg => by have h5 : l 5 = false := (by cases h5 : l 5 with | false => rfl | true => exact absurd (hc 5 1 (by kernel_rfl) h5) (by rw [hl]; decide)); obtain ⟨d0, d1, d2, d3, d4, d5, d6, d7, d8, d9, d10⟩ := HKC.out W (hg.a4 h5); go_simp; (try with_reducible rfl); (try omega))
    · exact par_val (fun θ => by rfl) (fun θ l W hg => hg.other 2 (by omega) (by omega) (by omega)) (fun θ l W hl hc hd hg => by go_simp; (try with_reducible rfl); (try omega))
    · exact par_val (fun θ => by rfl) (fun θ l W hg => hg.other 3 (by omega) (by omega) (by omega)) (fun θ l W hl hc hd hg => by go_simp; (try with_reducible rfl); (try omega))
    · exact par_val (fun θ => by rfl) (fun θ l W hg => hg.other 4 (by omega) (by omega) (by omega)) (fun θ l W hl hc hd hg => by have h5 : l 5 = false := (by cases h5 : l 5 with | false => rfl | true => exact absurd (hc 5 4 (by kernel_rfl) h5) (by rw [hl]; decide)); obtain ⟨d0, d1, d2, d3, d4, d5, d6, d7, d8, d9, d10⟩ := HKC.out W (hg.a4 h5); go_simp; (try with_reducible rfl); (try omega))
    · exact par_call (fun θ => by rfl) rfl (vs := fun _ => [.pointer (some ⟨p, 0, none⟩), .agg #[.int .u32 (x.sr : Nat), .int .u32 (x.ds : Nat), .int .u8 (x.pr : Nat), .int .u8 (x.tt : Nat), .int .u16 (x.id : Nat), .bool x.dn, .bool x.mo, .int .i64 x.of, .slice x.a x.n x.c], .int .i64 1]) (fun θ => by rfl) Try.func10 (by rfl) (by rfl) (fun θ l W hl hc hd hg => by
        have h11 : l 11 = false := (by cases h11 : l 11 with | false => rfl | true => exact absurd (hc 11 5 (by kernel_rfl) h11) (by rw [hl]; decide))
        have h6 : l 6 = false := (by cases h6 : l 6 with | false => rfl | true => exact absurd (hc 6 5 (by kernel_rfl) h6) (by rw [hl]; decide))
        have h7 : l 7 = false := (by cases h7 : l 7 with | false => rfl | true => exact absurd (hc 7 5 (by kernel_rfl) h7) (by rw [hl]; decide))
        refine (hadd W (hg.a4 hl)).mono ?_
        rintro e W2 ⟨g, kd2, rfl, hG2, hF2, hA2⟩
        exact ⟨_, rfl, next_set (by kernel_rfl) (θ.1, kd2, g) [(18, .tuple #[.agg #[.int .u32 0, .int .u32 0, .int .u8 0, .int .u8 0, .int .u16 0, .bool false, .bool false, .int .i64 0, .slice none 0 0], .bool false, .int .i64 0], 5), (12, .tuple #[.agg #[.int .u32 0, .int .u32 0, .int .u8 0, .int .u8 0, .int .u16 0, .bool false, .bool false, .int .i64 0, .slice none 0 0], .bool false, .int .i64 0], 6), (19, .agg #[.int .u32 0, .int .u32 0, .int .u8 0, .int .u8 0, .int .u16 0, .bool false, .bool false, .int .i64 0, .slice none 0 0], 7)] (by simp only [List.foldl_cons, List.foldl_nil, List.setIfInBounds_toArray, List.set_cons_zero, List.set_cons_succ]) (by kernel_rfl) (fun t ht => by simp at ht; rcases ht with rfl | rfl | rfl; exact hl; exact h6; exact h7) (fun d hd => by cases hd; rfl) (hg.call hl h11 hkf hG2 hF2 hA2)⟩)
    · exact par_val (fun θ => by rfl) (fun θ l W hg => hg.other 6 (by omega) (by omega) (by omega)) (fun θ l W hl hc hd hg => by go_simp; (try with_reducible rfl); (try omega))
    · exact par_val (fun θ => by rfl) (fun θ l W hg => hg.other 7 (by omega) (by omega) (by omega)) (fun θ l W hl hc hd hg => by go_simp; (try with_reducible rfl); (try omega))
    · exact par_val (fun θ => by rfl) (fun θ l W hg => hg.other 8 (by omega) (by omega) (by omega)) (fun θ l W hl hc hd hg => by go_simp; (try with_reducible rfl); (try omega))
    · exact par_val (fun θ => by rfl) (fun θ l W hg => hg.other 9 (by omega) (by omega) (by omega)) (fun θ l W hl hc hd hg => by go_simp; (try with_reducible rfl); (try omega))
    · exact par_run (fun θ => by rfl) (fun θ l W hl hc hd hg => by
        have h11 : l 11 = false := (by cases h11 : l 11 with | false => rfl | true => exact absurd (hc 11 10 (by kernel_rfl) h11) (by rw [hl]; decide))
        refine ⟨_, _, run_allocX rfl zero9, next_set (by kernel_rfl) (W.heap.size, θ.2) [(9, .pointer (some ⟨W.heap.size, 0, none⟩), 10)] (by simp only [List.foldl_cons, List.foldl_nil, List.setIfInBounds_toArray, List.set_cons_zero, List.set_cons_succ]) (by kernel_rfl) (fun t ht => by simp at ht; subst ht; exact hl) (fun d hd => by cases hd; rfl) (hg.alloc h11)⟩)
    · exact par_skip (fun θ => by rfl) (fun θ l W hl hc hd hg => by
        have h5 : l 5 = true := hd 5 (by kernel_rfl)
        have h10 : l 10 = true := hd 10 (by kernel_rfl)
        obtain ⟨hth, hst⟩ := hg.store h5 h10 hl rfl
        refine ⟨_, run_storeX rfl (b := θ.1) (k := 0) (by rfl) (cs := [.int .u32 0, .int .u32 0, .int .u8 0, .int .u8 0, .int .u16 0, .bool false, .bool false, .int .i64 0, .slice none 0 0]) (by rfl) hth (by kernel_rfl) (by intro v hv; simp at hv; rcases hv with rfl | rfl | rfl | rfl | rfl | rfl | rfl | rfl | rfl <;> rfl), ⟨θ, fun _ _ _ _ _ _ => rfl, fun d hd => (by cases hd), hst⟩⟩)
    · exact par_val (fun θ => by rfl) (fun θ l W hg => hg.other 12 (by omega) (by omega) (by omega)) (fun θ l W hl hc hd hg => by go_simp; (try with_reducible rfl); (try omega))
    · exact par_val (fun θ => by rfl) (fun θ l W hg => hg.other 13 (by omega) (by omega) (by omega)) (fun θ l W hl hc hd hg => by go_simp; (try with_reducible rfl); (try omega))
  case he1 =>
  intro θ l W5 hall hg
  obtain ⟨q, kd2, ga, gc⟩ := θ
  have hst5 := hg.a1 (hall 11 (by decide))
  have hq5 := hg.a3 (hall 10 (by decide))
  obtain ⟨G5, F5, A5⟩ := hg.a5 (hall 5 (by decide))
  clear hg hall
  dsimp only at hst5 hq5 G5 F5 A5
  have S5 := h.grow G5 F5.1
  clear hadd HKC hPW hkf
  dsimp only
  have t1 := S5.ct.cell 0 _ rfl
  have t2 := S5.thAt hk
  have t2f := S5.th.free k
  have t3 := S5.cf.cell 0 _ rfl
  have t3f := S5.cf.free 0
  have hkl := S5.nd
  have hb1 := (all_iff S5.nd S5.kb).1
  obtain ⟨LF, hLF⟩ : ∃ LF, LF = K - ks.length := ⟨_, rfl⟩
  rw [← hLF] at t3
  have hLb : LF ≤ K := by omega
  have hL0 : 0 < LF := by rcases hlen with h1 | h1 <;> omega
  have HLF := (show Hid _ from hLF)
  by_cases hm : k ∈ ks
  · have HP : Hid (∃ kd', WhS w0 W5 kd' br bl bt bf bp p gt sr ds pr tt id a c zs (some ⟨gl, 0, none⟩) K lc ps P mtu A' ks) := ⟨kd2, S5⟩
    rw [decide_eq_true hm] at t2
    have hL1 : ¬ ((LF : Nat) : Int) = 0 := by omega
    clear hLF S5 hst5 G5 F5 A5 hlen hkl h
    go_wp2
    go_ret2
    exact ⟨rfl, HP.out⟩
  · have S6 := S5.mark hk hm
    have HP : Hid (∃ kd', WhS w0 ((W5.setCell ⟨gt, k, none⟩ (.bool true)).setCell ⟨bf, 0, none⟩ (.int .i64 ((K - (ks.length + 1) : Nat) : Int))) kd' br bl bt bf bp p gt sr ds pr tt id a c zs (some ⟨gl, 0, none⟩) K lc ps P mtu A' (ks ++ [k])) := ⟨kd2, S6⟩
    rw [decide_eq_false hm] at t2
    have hL1 : 2 ≤ LF := by rcases hlen with h1 | h1; omega; exact absurd h1.1 hm
    have hL2 : ((LF - 1 : Nat) : Int) = (LF : Int) - 1 := by omega
    rw [show K - (ks.length + 1) = LF - 1 by omega, hL2] at HP
    have hL3 : ¬ (LF : Int) - 1 = 0 := by omega
    have hgf : gt ≠ bf := by omega
    clear hLF S5 S6 hst5 G5 F5 A5 hlen hkl h hL2
    go_wp2
    go_ret2
    exact ⟨rfl, HP.out⟩
set_option maxRecDepth 100000 in
set_option maxHeartbeats 1000000 in
theorem whadd_t {w0 w : World} {kd : Nat → Role} {br bl bt bf bp p gt : Nat} {sr ds pr tt id : Nat} {a : Option Addr} {c : Nat} {zs : List Nat} {la : Option Addr} {K lc : Nat} {ps : List Pk} {P : Nat → Nat} {mtu : Int} {A : List (Nm × List Pc)} {ks : List Nat} (h : WhS w0 w kd br bl bt bf bp p gt sr ds pr tt id a c zs la K lc ps P mtu A ks) (k : Nat) (hk : k < K) (x : Pk) (hx : ps[k]? = some x) (A' : List (Nm × List Pc)) (hnk : k ∉ ks) (hlen : ks.length + 1 = K)
    (hadd : ∀ W, Below w.heap.size w W → Calls Try.prog 10 #[.pointer (some ⟨p, 0, none⟩), .agg #[.int .u32 (x.sr : Nat), .int .u32 (x.ds : Nat), .int .u8 (x.pr : Nat), .int .u8 (x.tt : Nat), .int .u16 (x.id : Nat), .bool x.dn, .bool x.mo, .int .i64 x.of, .slice x.a x.n x.c], .int .i64 1] W fun e w' => ∃ (g : Gam) (kd' : Nat → Role), e = .returned (.tuple #[.agg #[.int .u32 (sr : Nat), .int .u32 (ds : Nat), .int .u8 (pr : Nat), .int .u8 (tt : Nat), .int .u16 (id : Nat), .bool false, .bool false, .int .i64 0, .slice g.1 zs.length g.2], .bool true, .int .i64 0]) ∧ Grow kd kd' W w' ∧ FinW p A' zs true g kd' w' ∧ ∀ q, q < W.heap.size → ApW true q g) :
    Calls Try.prog 9 #[.int .i64 (k : Nat), .pointer (some ⟨br, 0, none⟩), .pointer (some ⟨bl, 0, none⟩), .pointer (some ⟨bt, 0, none⟩), .pointer (some ⟨bf, 0, none⟩), .pointer (some ⟨bp, 0, none⟩)] w fun e w' => e = .returned (.tuple #[.bool true, .bool true]) ∧ ∃ kd', WhS w0 w' kd' br bl bt bf bp p gt sr ds pr tt id a c zs la K lc ps P mtu A' (ks ++ [k]) := by
  obtain ⟨gl, hgl0, _, hgll, hcap, hcapm, hcell⟩ := h.row.at_ (by omega)
  subst hgl0
  have hrl := h.rl gl rfl
  obtain ⟨o0, o1, o2, o3, o4, o5, o6⟩ := h.ord
  have HKC : Hid (∀ W, Below w.heap.size w W → W.cell? ⟨br, 0, none⟩ = some (.pointer (some ⟨p, 0, none⟩)) ∧ W.cell? ⟨bl, 0, none⟩ = some (.slice (some ⟨gl, 0, none⟩) K lc) ∧ W.cell? ⟨gl, k * 9, none⟩ = some (.int .u32 (x.sr : Nat)) ∧ W.cell? ⟨gl, k * 9 + 1, none⟩ = some (.int .u32 (x.ds : Nat)) ∧ W.cell? ⟨gl, k * 9 + 2, none⟩ = some (.int .u8 (x.pr : Nat)) ∧ W.cell? ⟨gl, k * 9 + 3, none⟩ = some (.int .u8 (x.tt : Nat)) ∧ W.cell? ⟨gl, k * 9 + 4, none⟩ = some (.int .u16 (x.id : Nat)) ∧ W.cell? ⟨gl, k * 9 + 5, none⟩ = some (.bool x.dn) ∧ W.cell? ⟨gl, k * 9 + 6, none⟩ = some (.bool x.mo) ∧ W.cell? ⟨gl, k * 9 + 7, none⟩ = some (.int .i64 x.of) ∧ W.cell? ⟨gl, k * 9 + 8, none⟩ = some (.slice x.a x.n x.c)) := by
    show ∀ _, _
    intro W hW
    have hc := fun i u (hu : x.cells[i]? = some u) => (hW.cell (p := ⟨gl, k * 9 + i, none⟩) hgll).trans (hcell k x hx i u hu)
    exact ⟨(h.cr.below hW).cell 0 _ rfl, (h.cl.below hW).cell 0 _ rfl, hc 0 _ rfl, hc 1 _ rfl, hc 2 _ rfl, hc 3 _ rfl, hc 4 _ rfl, hc 5 _ rfl, hc 6 _ rfl, hc 7 _ rfl, hc 8 _ rfl⟩
  have bd : Below w.heap.size w w.drew := (Below.refl _ _).drew
  have hKb : K ≤ 9223372036854775807 := by unfold maxLen at hcapm; omega
  have hki : (k : Int) < (K : Int) := by omega
  obtain ⟨_, _, _, _, hPW, _⟩ := h.pool
  have hkf : ∀ b, w.heap.size ≤ b → kd b = .no := hPW.fresh
  go_enter Try.func9, Try.ntmps9
  go_wp2_with fail
  refine wp_region_parW mixedX (fun θ : Nat × (Nat → Role) × Gam => [(13, .pointer (some ⟨p, 0, none⟩)), (14, .slice (some ⟨gl, 0, none⟩) K lc), (15, .int .i64 (k : Nat)), (16, .pointer (some ⟨gl, k * 9, none⟩)), (17, .agg #[.int .u32 (x.sr : Nat), .int .u32 (x.ds : Nat), .int .u8 (x.pr : Nat), .int .u8 (x.tt : Nat), .int .u16 (x.id : Nat), .bool x.dn, .bool x.mo, .int .i64 x.of, .slice x.a x.n x.c]), (18, .tuple #[.agg #[.int .u32 (sr : Nat), .int .u32 (ds : Nat), .int .u8 (pr : Nat), .int .u8 (tt : Nat), .int .u16 (id : Nat), .bool false, .bool false, .int .i64 0, .slice θ.2.2.1 zs.length θ.2.2.2], .bool true, .int .i64 0]), (12, .tuple #[.agg #[.int .u32 (sr : Nat), .int .u32 (ds : Nat), .int .u8 (pr : Nat), .int .u8 (tt : Nat), .int .u16 (id : Nat), .bool false, .bool false, .int .i64 0, .slice θ.2.2.1 zs.length θ.2.2.2], .bool true, .int .i64 0]), (19, .agg #[.int .u32 (sr : Nat), .int .u32 (ds : Nat), .int .u8 (pr : Nat), .int .u8 (tt : Nat), .int .u16 (id : Nat), .bool false, .bool false, .int .i64 0, .slice θ.2.2.1 zs.length θ.2.2.2]), (20, .bool true), (21, .int .i64 0), (9, .pointer (some ⟨θ.1, 0, none⟩)), (10, .bool true), (11, .int .i64 0)]) (fun θ l W => RgA w kd p A' zs true (fun g => [.int .u32 (sr : Nat), .int .u32 (ds : Nat), .int .u8 (pr : Nat), .int .u8 (tt : Nat), .int .u16 (id : Nat), .bool false, .bool false, .int .i64 0, .slice g.1 zs.length g.2]) θ l W) (0, kd, (none, 0)) ?Z1 ?hZ1 (by kernel_rfl) (by kernel_rfl) (fun θ => by kernel_rfl) (by kernel_rfl) ?h01 ?hops1 ?he1
  case hZ1 => intro θ; simp only [List.foldl_cons, List.foldl_nil, List.setIfInBounds_toArray, List.set_cons_zero, List.set_cons_succ]; rfl
  case h01 => exact ⟨fun e => (by cases e), fun _ e => (by cases e), fun e => (by cases e), fun _ => bd, fun e => (by cases e), fun e => (by cases e)⟩
  case hops1 =>
    refine ⟨?_, ?_, ?_, ?_, ?_, ?_, ?_, ?_, ?_, ?_, ?_, ?_, ?_, ?_, trivial⟩
    · exact par_val (fun θ => by rfl) (fun θ l W hg => hg.other 0 (by omega) (by omega) (by omega)) (fun θ l W hl hc hd hg => by have h5 : l 5 = false := (by cases h5 : l 5 with | false => rfl | true => exact absurd (hc 5 0 (by kernel_rfl) h5) (by rw [hl]; decide)); obtain ⟨d0, d1, d2, d3, d4, d5, d6, d7, d8, d9, d10⟩ := HKC.out W (hg.a4 h5); go_simp; (try with_reducible rfl); (try omega))
    · exact par_val (fun θ => by rfl) (fun θ l W hg => hg.other 1 (by omega) (by omega) (by omega)) (fun θ l W hl hc hd hg => by have h5 : l 5 = false := (by cases h5 : l 5 with | false => rfl | true => exact absurd (hc 5 1 (by kernel_rfl) h5) (by rw [hl]; decide)); obtain ⟨d0, d1, d2, d3, d4, d5, d6, d7, d8, d9, d10⟩ := HKC.out W (hg.a4 h5); go_simp; (try with_reducible rfl); (try omega))
    · exact par_val (fun θ => by rfl) (fun θ l W hg => hg.other 2 (by omega) (by omega) (by omega)) (fun θ l W hl hc hd hg => by go_simp; (try with_reducible rfl); (try omega))
    · exact par_val (fun θ => by rfl) (fun θ l W hg => hg.other 3 (by omega) (by omega) (by omega)) (fun θ l W hl hc hd hg => by go_simp; (try with_reducible rfl); (try omega))
    · exact par_val (fun θ => by rfl) (fun θ l W hg => hg.other 4 (by omega) (by omega) (by omega)) (fun θ l W hl hc hd hg => by have h5 : l 5 = false := (by cases h5 : l 5 with | false => rfl | true => exact absurd (hc 5 4 (by kernel_rfl) h5) (by rw [hl]; decide)); obtain ⟨d0, d1, d2, d3, d4, d5, d6, d7, d8, d9, d10⟩ := HKC.out W (hg.a4 h5); go_simp; (try with_reducible rfl); (try omega))
    · exact par_call (fun θ => by rfl) rfl (vs := fun _ => [.pointer (some ⟨p, 0, none⟩), .agg #[.int .u32 (x.sr : Nat), .int .u32 (x.ds : Nat), .int .u8 (x.pr : Nat), .int .u8 (x.tt : Nat), .int .u16 (x.id : Nat), .bool x.dn, .bool x.mo, .int .i64 x.of, .slice x.a x.n x.c], .int .i64 1]) (fun θ => by rfl) Try.func10 (by rfl) (by rfl) (fun θ l W hl hc hd hg => by
        have h11 : l 11 = false := (by cases h11 : l 11 with | false => rfl | true => exact absurd (hc 11 5 (by kernel_rfl) h11) (by rw [hl]; decide))
        have h6 : l 6 = false := (by cases h6 : l 6 with | false => rfl | true => exact absurd (hc 6 5 (by kernel_rfl) h6) (by rw [hl]; decide))
        have h7 : l 7 = false := (by cases h7 : l 7 with | false => rfl | true => exact absurd (hc 7 5 (by kernel_rfl) h7) (by rw [hl]; decide))
        refine (hadd W (hg.a4 hl)).mono ?_
        rintro e W2 ⟨g, kd2, rfl, hG2, hF2, hA2⟩
        exact ⟨_, rfl, next_set (by kernel_rfl) (θ.1, kd2, g) [(18, .tuple #[.agg #[.int .u32 (sr : Nat), .int .u32 (ds : Nat), .int .u8 (pr : Nat), .int .u8 (tt : Nat), .int .u16 (id : Nat), .bool false, .bool false, .int .i64 0, .slice g.1 zs.length g.2], .bool true, .int .i64 0], 5), (12, .tuple #[.agg #[.int .u32 (sr : Nat), .int .u32 (ds : Nat), .int .u8 (pr : Nat), .int .u8 (tt : Nat), .int .u16 (id : Nat), .bool false, .bool false, .int .i64 0, .slice g.1 zs.length g.2], .bool true, .int .i64 0], 6), (19, .agg #[.int .u32 (sr : Nat), .int .u32 (ds : Nat), .int .u8 (pr : Nat), .int .u8 (tt : Nat), .int .u16 (id : Nat), .bool false, .bool false, .int .i64 0, .slice g.1 zs.length g.2], 7)] (by simp only [List.foldl_cons, List.foldl_nil, List.setIfInBounds_toArray, List.set_cons_zero, List.set_cons_succ]) (by kernel_rfl) (fun t ht => by simp at ht; rcases ht with rfl | rfl | rfl; exact hl; exact h6; exact h7) (fun d hd => by cases hd; rfl) (hg.call hl h11 hkf hG2 hF2 hA2)⟩)
    · exact par_val (fun θ => by rfl) (fun θ l W hg => hg.other 6 (by omega) (by omega) (by omega)) (fun θ l W hl hc hd hg => by go_simp; (try with_reducible rfl); (try omega))
    · exact par_val (fun θ => by rfl) (fun θ l W hg => hg.other 7 (by omega) (by omega) (by omega)) (fun θ l W hl hc hd hg => by go_simp; (try with_reducible rfl); (try omega))
    · exact par_val (fun θ => by rfl) (fun θ l W hg => hg.other 8 (by omega) (by omega) (by omega)) (fun θ l W hl hc hd hg => by go_simp; (try with_reducible rfl); (try omega))
    · exact par_val (fun θ => by rfl) (fun θ l W hg => hg.other 9 (by omega) (by omega) (by omega)) (fun θ l W hl hc hd hg => by go_simp; (try with_reducible rfl); (try omega))
    · exact par_run (fun θ => by rfl) (fun θ l W hl hc hd hg => by
        have h11 : l 11 = false := (by cases h11 : l 11 with | false => rfl | true => exact absurd (hc 11 10 (by kernel_rfl) h11) (by rw [hl]; decide))
        refine ⟨_, _, run_allocX rfl zero9, next_set (by kernel_rfl) (W.heap.size, θ.2) [(9, .pointer (some ⟨W.heap.size, 0, none⟩), 10)] (by simp only [List.foldl_cons, List.foldl_nil, List.setIfInBounds_toArray, List.set_cons_zero, List.set_cons_succ]) (by kernel_rfl) (fun t ht => by simp at ht; subst ht; exact hl) (fun d hd => by cases hd; rfl) (hg.alloc h11)⟩)
    · exact par_skip (fun θ => by rfl) (fun θ l W hl hc hd hg => by
        have h5 : l 5 = true := hd 5 (by kernel_rfl)
        have h10 : l 10 = true := hd 10 (by kernel_rfl)
        obtain ⟨hth, hst⟩ := hg.store h5 h10 hl rfl
        refine ⟨_, run_storeX rfl (b := θ.1) (k := 0) (by rfl) (cs := [.int .u32 (sr : Nat), .int .u32 (ds : Nat), .int .u8 (pr : Nat), .int .u8 (tt : Nat), .int .u16 (id : Nat), .bool false, .bool false, .int .i64 0, .slice θ.2.2.1 zs.length θ.2.2.2]) (by rfl) hth (by kernel_rfl) (by intro v hv; simp at hv; rcases hv with rfl | rfl | rfl | rfl | rfl | rfl | rfl | rfl | rfl <;> rfl), ⟨θ, fun _ _ _ _ _ _ => rfl, fun d hd => (by cases hd), hst⟩⟩)
    · exact par_val (fun θ => by rfl) (fun θ l W hg => hg.other 12 (by omega) (by omega) (by omega)) (fun θ l W hl hc hd hg => by go_simp; (try with_reducible rfl); (try omega))
    · exact par_val (fun θ => by rfl) (fun θ l W hg => hg.other 13 (by omega) (by omega) (by omega)) (fun θ l W hl hc hd hg => by go_simp; (try with_reducible rfl); (try omega))
  case he1 =>
  intro θ l W5 hall hg
  obtain ⟨q, kd2, ga, gc⟩ := θ
  have hst5 := hg.a1 (hall 11 (by decide))
  have hq5 := hg.a3 (hall 10 (by decide))
  obtain ⟨G5, F5, A5⟩ := hg.a5 (hall 5 (by decide))
  clear hg hall
  dsimp only at hst5 hq5 G5 F5 A5
  have S5 := h.grow G5 F5.1
  clear hadd HKC hPW hkf
  dsimp only
  have t1 := S5.ct.cell 0 _ rfl
  have t2 := S5.thAt hk
  have t2f := S5.th.free k
  have t3 := S5.cf.cell 0 _ rfl
  have t3f := S5.cf.free 0
  obtain ⟨LF, hLF⟩ : ∃ LF, LF = K - ks.length := ⟨_, rfl⟩
  rw [← hLF] at t3
  have hL0 : LF = 1 := by omega
  have hm := hnk
  have hbfl := h.lt
  have S6 := S5.mark hk hm
  rw [show K - (ks.length + 1) = 0 by omega] at S6
  have HP : Hid (∃ kd', WhS w0 ((W5.setCell ⟨gt, k, none⟩ (.bool true)).setCell ⟨bf, 0, none⟩ (.int .i64 ((0 : Nat) : Int))) kd' br bl bt bf bp p gt sr ds pr tt id a c zs (some ⟨gl, 0, none⟩) K lc ps P mtu A' (ks ++ [k])) := ⟨kd2, S6⟩
  rw [decide_eq_false hm] at t2
  rw [hL0] at t3
  obtain ⟨sg, sgk⟩ := F5.2 rfl
  have hst6 := (hst5.other gt k (.bool true) (by omega)).other bf 0 (.int .i64 ((0 : Nat) : Int)) (by omega)
  have f1 := Fr.setCell (fun b => b = gt ∨ b = bf) W5 ⟨gt, k, none⟩ (.bool true) (.inl rfl)
  have f2 := f1.trans (Fr.setCell (fun b => b = gt ∨ b = bf) (W5.setCell ⟨gt, k, none⟩ (.bool true)) ⟨bf, 0, none⟩ (.int .i64 ((0 : Nat) : Int)) (.inr rfl))
  have sg6 := Sl.frX sg f2 (fun b off hb e => by rcases e with e | e; exact A5 gt (by omega) rfl b off hb e.symm; exact A5 bf (by omega) rfl b off hb e.symm)
  obtain ⟨w6, hw6⟩ : ∃ W, W = (W5.setCell ⟨gt, k, none⟩ (.bool true)).setCell ⟨bf, 0, none⟩ (.int .i64 0) := ⟨_, rfl⟩
  have hw7 : w6 = (W5.setCell ⟨gt, k, none⟩ (.bool true)).setCell ⟨bf, 0, none⟩ (.int .i64 ((0 : Nat) : Int)) := hw6
  rw [← hw7] at S6 HP hst6 sg6
  have hsm := isame_any sr ds pr tt id false false 0 ga zs.length gc zs a c w6 sg6 S6.sl
  have hgf : gt ≠ bf := by omega
  have q0 := hst6.cell 0 _ rfl
  have q1 := hst6.cell 1 _ rfl
  have q2 := hst6.cell 2 _ rfl
  have q3 := hst6.cell 3 _ rfl
  have q4 := hst6.cell 4 _ rfl
  have q5 := hst6.cell 5 _ rfl
  have q6 := hst6.cell 6 _ rfl
  have q7 := hst6.cell 7 _ rfl
  have q8 := hst6.cell 8 _ rfl
  have r0 := S6.cp.cell 0 _ rfl
  have r1 := S6.cp.cell 1 _ rfl
  have r2 := S6.cp.cell 2 _ rfl
  have r3 := S6.cp.cell 3 _ rfl
  have r4 := S6.cp.cell 4 _ rfl
  have r5 := S6.cp.cell 5 _ rfl
  have r6 := S6.cp.cell 6 _ rfl
  have r7 := S6.cp.cell 7 _ rfl
  have r8 := S6.cp.cell 8 _ rfl
  rw [hw6] at q0 q1 q2 q3 q4 q5 q6 q7 q8 r0 r1 r2 r3 r4 r5 r6 r7 r8
  clear hLF hL0 S5 hst5 G5 F5 A5 h hst6 f1 f2 sg sgk sg6 hw7
  go_wp2_with fail
  rw [← hw6]
  clear hw6
  refine hsm.mono ?_
  rintro e w7 ⟨rfl, b7⟩
  have HP7 : Hid (∃ kd', WhS w0 w7 kd' br bl bt bf bp p gt sr ds pr tt id a c zs (some ⟨gl, 0, none⟩) K lc ps P mtu A' (ks ++ [k])) := ⟨kd2, S6.below b7⟩
  clear hsm S6 HP b7 q0 q1 q2 q3 q4 q5 q6 q7 q8 r0 r1 r2 r3 r4 r5 r6 r7 r8
  go_wp2
  go_ret2
  exact ⟨rfl, HP7.out⟩
end Go.Proofs.Ytnbagloifbllbaa
