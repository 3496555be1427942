/- The program's tracker and the reference's one beside it: what law04's same, do and play answer. -/
import Derived.Test.YtlgpabdadnfbeaaGapR4
import Derived.Test.YtlgpabdadnfbeaaGapR5
import Derived.Test.YtlgpabdadnfbeaaGapY
import Derived.Test.YtlgpabdadnfbeaaGapO
import Derived.Test.YtlgpabdadnfbeaaDeedR
namespace Go.Proofs.Ytlgpabdadnfbeaa
open Go.RowKit
theorem radd_any (B p : Nat) (fb db : Option Nat) (cum : Nat) (S : Nat → Bool) (ds : List Nat) (t : Nat) (w : World) (h : RTk w B p fb db cum (farN S) ds) (ht : t < 4294967296) (hout : ∀ n, ¬ (1 ≤ n ∧ n ≤ 256) → S n = false) (hd16 : ds.length ≤ 16) :
    Calls Try.prog 38 #[.pointer (some ⟨p, 0, none⟩), .int .u32 t] w fun e w' => e = .returned (.int .i64 (addE cum S t : Nat)) ∧ ∃ fb' db', RTk w' B p fb' db' (addC cum S t) (farN (addS cum S t)) (addD cum S ds t) ∧ Fr (fun k => k = p) w w' ∧ Fresh w fb fb' ∧ Fresh w db db' := by
  cases hv : hasV cum S t with
  | true =>
    have hE : addE cum S t = 17 := by unfold addE; rw [if_pos hv]
    have hC : addC cum S t = cum := by unfold addC; rw [hE, if_neg (by omega)]
    have hS : addS cum S t = S := by unfold addS; rw [hE, if_neg (by omega)]
    have hD : addD cum S ds t = noteV ds t := by unfold addD; rw [hE, if_pos rfl]
    rw [hE, hC, hS, hD]
    refine (radd_known B p fb db cum S ds t w h ht hv hd16).mono ?_
    rintro e w' ⟨he, db', h1, h2, h3⟩
    exact ⟨he, fb, db', h1, h2, Fresh.refl _ _, h3⟩
  | false =>
    by_cases hf : 256 < aheadV 4294967296 cum t
    · have hE : addE cum S t = 10 := by unfold addE; rw [hv, if_neg Bool.false_ne_true, if_pos hf]
      have hC : addC cum S t = cum := by unfold addC; rw [hE, if_neg (by omega)]
      have hS : addS cum S t = S := by unfold addS; rw [hE, if_neg (by omega)]
      have hD : addD cum S ds t = ds := by unfold addD; rw [hE, if_neg (by omega)]
      rw [hE, hC, hS, hD]
      refine (radd_full B p fb db cum S ds t w h ht hv hf).mono ?_
      rintro e w' ⟨he, h1, h2⟩
      exact ⟨he, fb, db, h1, Fr.of_below h2, Fresh.refl _ _, Fresh.refl _ _⟩
    · have hE : addE cum S t = 0 := by unfold addE; rw [hv, if_neg Bool.false_ne_true, if_neg hf]
      have hD : addD cum S ds t = ds := by unfold addD; rw [hE, if_neg (by omega)]
      rw [hE, hD]
      refine (radd_ok B p fb db cum S ds t w h ht hv hf hout).mono ?_
      rintro e w' ⟨he, fb', h1, h2, h3⟩
      exact ⟨he, fb', db, h1, h2, h3, Fresh.refl _ _⟩
/-- Both trackers hold the same. -/
structure Both (w : World) (B px : Nat) (dbx : Option Nat) (py : Nat) (fb db : Option Nat) (cum : Nat) (S : Nat → Bool) (ds : List Nat) : Prop where
  x : Trk w B px dbx cum S ds
  y : RTk w B py fb db cum (farN S) ds
  apart : ∀ k, ownT px dbx k → ¬ ownR py fb db k
theorem Both.below {w w' : World} {B px : Nat} {dbx : Option Nat} {py : Nat} {fb db : Option Nat} {cum : Nat} {S : Nat → Bool} {ds : List Nat} (h : Both w B px dbx py fb db cum S ds) (hb : Below w.heap.size w w') : Both w' B px dbx py fb db cum S ds :=
  ⟨h.x.below hb, h.y.below hb, h.apart⟩
theorem Both.fr {P : Nat → Prop} {w w' : World} {B px : Nat} {dbx : Option Nat} {py : Nat} {fb db : Option Nat} {cum : Nat} {S : Nat → Bool} {ds : List Nat} (h : Both w B px dbx py fb db cum S ds) (hf : Fr P w w') (h1 : ∀ k, ownT px dbx k → ¬ P k) (h2 : ∀ k, ownR py fb db k → ¬ P k) : Both w' B px dbx py fb db cum S ds :=
  ⟨h.x.fr hf h1, h.y.fr hf h2, h.apart⟩
theorem Both.len {w : World} {B px : Nat} {dbx : Option Nat} {py : Nat} {fb db : Option Nat} {cum : Nat} {S : Nat → Bool} {ds : List Nat} (h : Both w B px dbx py fb db cum S ds) : ds.length ≤ 16 := by
  obtain ⟨a, n, c, _, ho, _, hn⟩ := h.x.dup
  rw [ho.len]; exact hn
theorem Both.own_lt {w : World} {B px : Nat} {dbx : Option Nat} {py : Nat} {fb db : Option Nat} {cum : Nat} {S : Nat → Bool} {ds : List Nat} (h : Both w B px dbx py fb db cum S ds) : ∀ k, ownT px dbx k → B ≤ k ∧ k < w.heap.size := by
  rintro k (rfl | hk)
  · exact ⟨h.x.base, h.x.lt⟩
  · exact h.x.dlt k hk
set_option maxRecDepth 100000 in
set_option maxHeartbeats 2000000 in
theorem lsame_any (B px : Nat) (dbx : Option Nat) (py : Nat) (fb db : Option Nat) (cum : Nat) (S : Nat → Bool) (ds : List Nat) (t : Nat) (w : World) (h : Both w B px dbx py fb db cum S ds) (ht : t < 4294967296) :
    Calls Try.prog 25 #[.pointer (some ⟨px, 0, none⟩), .pointer (some ⟨py, 0, none⟩), .int .u32 t] w fun e w' => e = .returned (.bool true) ∧ Below w.heap.size w w' := by
  obtain ⟨R, hR⟩ : ∃ R, R = (blkP (farTo S 256)).take 16 := ⟨_, rfl⟩
  have hl16 : R.length ≤ 16 := by rw [hR]; simp; omega
  have hbx : ∀ W, Trk W B px dbx cum S ds → Calls Try.prog 11 #[.pointer (some ⟨px, 0, none⟩)] W fun e w' => ∃ a c, e = .returned (.slice a R.length c) ∧ OwnQ w' W.heap.size a R.length c R ∧ Below W.heap.size W w' := by
    intro W hT
    rw [hR]
    exact callsIn_wide.1 (blocks_in B px dbx cum S ds W hT)
  have hby : ∀ W, RTk W B py fb db cum (farN S) ds → Calls Try.prog 42 #[.pointer (some ⟨py, 0, none⟩)] W fun e w' => ∃ a c, e = .returned (.slice a R.length c) ∧ OwnQ w' W.heap.size a R.length c R ∧ Below W.heap.size W w' := by
    intro W hT
    rw [hR]
    exact rblocks_any B py fb db cum S ds W hT
  have htx := fun W hT => top_any B px dbx cum S ds W hT
  have hty := fun W hT => rtop_any B py fb db cum (farN S) ds W hT
  have htt : addV 4294967296 cum (lastS (farTo S 256) : Nat) = addV 4294967296 cum (topF (farN S) : Nat) := by rw [lastS_farN]; rfl
  rw [← htt] at hty
  have hhx := fun W hT => thas_any B px dbx cum S ds t W hT ht
  have hhy := fun W hT => rhas_any B py fb db cum (farN S) ds t W hT ht
  have hvv : (decide (aheadV 4294967296 cum t ≤ 0) || anyV (farN S) (aheadV 4294967296 cum t)) = hasV cum S t := (hasV_mem cum S t).symm
  rw [hvv] at hhy
  generalize addV 4294967296 cum (lastS (farTo S 256) : Nat) = tp at *
  generalize hasV cum S t = hv at *
  clear hR htt hvv
  have hX := h.x
  have hY := h.y
  clear h
  generalize farN S = F at *
  go_enter Try.func25, Try.ntmps25
  go_wp2_with fail
  refine (cum_any px cum _ hX.c0).mono ?_
  rintro e w' ⟨rfl, hw'⟩
  subst w'
  go_wp2_with fail
  refine (rcum_any py cum _ hY.c0).mono ?_
  rintro e w' ⟨rfl, hw'⟩
  subst w'
  go_wp2_with fail
  refine (htx _ hX).mono ?_
  rintro e w1 ⟨rfl, hb1⟩
  have hX1 := hX.below hb1
  have hY1 := hY.below hb1
  clear htx hX hY
  go_wp2_with fail
  refine (hty _ hY1).mono ?_
  rintro e w2 ⟨rfl, hb2⟩
  have hX2 := hX1.below hb2
  have hY2 := hY1.below hb2
  have hB2 : Below w.heap.size w w2 := hb1.trans (hb2.mono hb1.size)
  clear hty hX1 hY1 hb1 hb2
  go_wp2_with fail
  refine (hhx _ hX2).mono ?_
  rintro e w3 ⟨rfl, hb3⟩
  have hX3 := hX2.below hb3
  have hY3 := hY2.below hb3
  have hB3 : Below w.heap.size w w3 := hB2.trans (hb3.mono hB2.size)
  clear hhx hX2 hY2 hb3 hB2
  go_wp2_with fail
  refine (hhy _ hY3).mono ?_
  rintro e w4 ⟨rfl, hb4⟩
  have hX4 := hX3.below hb4
  have hY4 := hY3.below hb4
  have hB4 : Below w.heap.size w w4 := hB3.trans (hb4.mono hB3.size)
  clear hhy hX3 hY3 hb4 hB3
  have hvv : (hv == hv) = true := by simp
  go_wp2_with fail
  refine (hbx _ hX4).mono ?_
  rintro e w8 ⟨a8, c8, rfl, hq8, hb8⟩
  have hY8 := hY4.below hb8
  have hbel8 : Below w.heap.size w w8 := hB4.trans (hb8.mono hB4.size)
  clear hbx hX4 hY4 hB4 hb8
  go_wp2_with fail
  refine (hby _ hY8).mono ?_
  rintro e w9 ⟨a9, c9, rfl, hq9, hb9⟩
  have hq89 := hq8.below hb9
  have hbel9 : Below w.heap.size w w9 := hbel8.trans (hb9.mono hbel8.size)
  clear hby hY8 hb9 hbel8 hq8
  go_wp2_with fail
  refine (sameb_any _ _ _ _ _ _ _ _ _ _ _ hq89 hq9 (by omega) (by omega)).mono ?_
  rintro e wA ⟨rfl, q, hwA⟩
  rw [sameQ_refl]
  have hbelA : Below w.heap.size w wA := by rw [hwA]; exact hbel9.trans ((drewN_belowG _ q).mono hbel9.size)
  clear hbel9 hq9 hq89 hwA
  go_wp2
  go_ret
  exact ⟨rfl, hbelA⟩
theorem lsame_at (B px : Nat) (dbx : Option Nat) (py : Nat) (fb db : Option Nat) (cum : Nat) (S : Nat → Bool) (ds : List Nat) (t : Nat) (w : World) (h : Both w B px dbx py fb db cum S ds) (ht : t < 4294967296) (v : Value) (hv : v = .int .u32 (t : Nat)) :
    Calls Try.prog 25 #[.pointer (some ⟨px, 0, none⟩), .pointer (some ⟨py, 0, none⟩), v] w fun e w' => e = .returned (.bool true) ∧ Below w.heap.size w w' := by
  subst hv; exact lsame_any B px dbx py fb db cum S ds t w h ht
def doC (q : Bool) (cum : Nat) (S : Nat → Bool) (t : Nat) : Nat := if q = true then cum else addC cum S t
def doS (q : Bool) (cum : Nat) (S : Nat → Bool) (t : Nat) : Nat → Bool := if q = true then S else addS cum S t
def doD (q : Bool) (cum : Nat) (S : Nat → Bool) (ds : List Nat) (t : Nat) : List Nat := if q = true then [] else addD cum S ds t
set_option maxRecDepth 100000 in
set_option maxHeartbeats 2000000 in
theorem ldo_any (B px : Nat) (dbx : Option Nat) (py : Nat) (fb db : Option Nat) (cum : Nat) (S : Nat → Bool) (ds : List Nat) (f : Nat) (b : Int) (q : Bool) (w : World) (h : Both w B px dbx py fb db cum S ds) (_hf : f < 4294967296) :
    Calls Try.prog 24 #[.pointer (some ⟨px, 0, none⟩), .pointer (some ⟨py, 0, none⟩), .int .u32 f, .agg #[.int .i16 b, .bool q]] w fun e w' => e = .returned (.bool true) ∧ ∃ dbx' fb' db', Both w' B px dbx' py fb' db' (doC q cum S (addV 4294967296 f b)) (doS q cum S (addV 4294967296 f b)) (doD q cum S ds (addV 4294967296 f b)) ∧ Fr (fun k => ownT px dbx k ∨ k = py) w w' ∧ Fresh w dbx dbx' ∧ Fresh w fb fb' ∧ Fresh w db db' := by
  have hX := h.x
  have hY := h.y
  have hap := h.apart
  have hd16 := h.len
  cases q with
  | true =>
    have HP : Hid (doC true cum S (addV 4294967296 f b) = cum ∧ doS true cum S (addV 4294967296 f b) = S ∧ doD true cum S ds (addV 4294967296 f b) = []) := ⟨rfl, rfl, rfl⟩
    clear h
    go_enter Try.func24, Try.ntmps24
    go_wp2_with fail
    have hA := (Below.refl w.heap.size w).alloc (Nat.le_refl _) (.cells #[.int .i16 b, .bool true] 41)
    replace hX := hX.below hA
    replace hY := hY.below hA
    generalize w.alloc (.cells #[.int .i16 b, .bool true] 41) = W at *
    refine (tdups_any B px dbx cum S ds _ hX).mono ?_
    rintro e w1 ⟨a1, c1, rfl, ho1, hbk1, _, hX1, hF1⟩
    have hY1 := hY.fr hF1 (fun k hk e => hap px (.inl rfl) (by rw [← e]; exact hk))
    go_wp2_with fail
    refine (rdups_any B py fb db cum (farN S) ds _ hY1).mono ?_
    rintro e w2 ⟨a2, c2, rfl, hs2, hbk2, hY2, hF2⟩
    have hX2 := hX1.fr hF2 (fun k hk e => hap k (by rcases hk with hk | hk; exact .inl hk; cases hk) (.inl e))
    have ho2 := ho1.fr hF2 (fun k hk e => hap k (.inr (by rw [← hbk1]; exact hk)) (.inl e))
    have hF : Fr (fun k => ownT px dbx k ∨ k = py) w w2 := (Fr.of_below hA).trans <| (hF1.mono (fun k _ hk => .inl (.inl hk))).trans (hF2.mono (fun k _ hk => .inr hk))
    clear hX hY hX1 hY1 hF1 hF2 ho1
    go_wp2_with fail
    refine (same_any _ _ _ _ _ _ _ _ _ (ho2.sl (by omega)) hs2).mono ?_
    rintro e w3 ⟨rfl, q, hw3⟩
    rw [sameB_refl]
    have hb3 : Below w2.heap.size w2 w3 := by rw [hw3]; exact drewN_belowR _ _
    clear hw3 ho2 hs2
    go_wp2
    go_ret
    refine ⟨rfl, none, fb, none, ?_, hF.trans (Fr.of_below hb3), (fun k hk => by cases hk), Fresh.refl _ _, (fun k hk => by cases hk)⟩
    rw [HP.out.1, HP.out.2.1, HP.out.2.2]
    refine ⟨hX2.below hb3, hY2.below hb3, fun k hk hr => hap k (by rcases hk with hk | hk; exact .inl hk; cases hk) ?_⟩
    rcases hr with h1 | h1 | h1
    · exact .inl h1
    · exact .inr (.inl h1)
    · cases h1
  | false =>
    have HP : Hid (doC false cum S (addV 4294967296 f b) = addC cum S (addV 4294967296 f b) ∧ doS false cum S (addV 4294967296 f b) = addS cum S (addV 4294967296 f b) ∧ doD false cum S ds (addV 4294967296 f b) = addD cum S ds (addV 4294967296 f b)) := ⟨rfl, rfl, rfl⟩
    have htl := addV_lt 4294967296 f b (by omega)
    have HI1 : Hid (((addV 4294967296 f b : Nat) : Int) = ((f : Int) + b) % 4294967296) := addV_int 4294967296 f b (by omega)
    have ax := fun W (hT : Trk W B px dbx cum S ds) => tadd_any B px dbx cum S ds (addV 4294967296 f b) W hT htl
    have ay := fun W (hT : RTk W B py fb db cum (farN S) ds) => radd_any B py fb db cum S ds (addV 4294967296 f b) W hT htl hX.out hd16
    have hsm := fun W dbx' fb' db' (hB : Both W B px dbx' py fb' db' (addC cum S (addV 4294967296 f b)) (addS cum S (addV 4294967296 f b)) (addD cum S ds (addV 4294967296 f b))) v (hv : v = Value.int .u32 (((addV 4294967296 f b + 1) % 4294967296 : Nat) : Int)) => lsame_at B px dbx' py fb' db' _ _ _ ((addV 4294967296 f b + 1) % 4294967296) W hB (Nat.mod_lt _ (by omega)) v hv
    rw [show (((addV 4294967296 f b + 1) % 4294967296 : Nat) : Int) = (((addV 4294967296 f b : Nat) : Int) + 1) % 4294967296 from by omega] at hsm
    generalize addC cum S (addV 4294967296 f b) = c1 at *
    generalize addS cum S (addV 4294967296 f b) = S1 at *
    generalize addD cum S ds (addV 4294967296 f b) = d1 at *
    generalize addE cum S (addV 4294967296 f b) = e1 at *
    rw [HI1.out] at ax ay hsm
    clear h
    go_enter Try.func24, Try.ntmps24
    go_wp2_with fail
    have hA := (Below.refl w.heap.size w).alloc (Nat.le_refl _) (.cells #[.int .i16 b, .bool false] 41)
    replace hX := hX.below hA
    replace hY := hY.below hA
    generalize w.alloc (.cells #[.int .i16 b, .bool false] 41) = W at *
    refine (ax _ hX).mono ?_
    rintro e w1 ⟨rfl, dbx', hX1, hF1, hn1⟩
    have hY1 := hY.fr hF1 (fun k hk e => hap k e hk)
    clear ax
    go_wp2_with fail
    refine (ay _ hY1).mono ?_
    rintro e w2 ⟨rfl, fb', db', hY2, hF2, hn2, hn3⟩
    have hpy : ¬ ownT px dbx' py := by
      rintro (h1 | h1)
      · exact hap py (.inl h1) (.inl rfl)
      · rcases hn1 py h1 with h2 | h2
        · exact hap py (.inr h2) (.inl rfl)
        · have := hY.lt; omega
    have hX2 := hX1.fr hF2 (fun k hk e => hpy (by rw [← e]; exact hk))
    have hap2 : ∀ k, ownT px dbx' k → ¬ ownR py fb' db' k := by
      intro k hk hr
      have hkl : k < w1.heap.size := by
        rcases hk with rfl | hk
        · exact hX1.lt
        · exact (hX1.dlt k hk).2
      have hold : ∀ k, ownT px dbx' k → ownR py fb db k → False := by
        intro k hk hr
        have hkw : k < W.heap.size := (hY.own_ge k hr).2
        rcases hk with hk | hk
        · exact hap k (.inl hk) hr
        · rcases hn1 k hk with h2 | h2
          · exact hap k (.inr h2) hr
          · omega
      rcases hr with h1 | h1 | h1
      · exact hold k hk (.inl h1)
      · rcases hn2 k h1 with h2 | h2
        · exact hold k hk (.inr (.inl h2))
        · omega
      · rcases hn3 k h1 with h2 | h2
        · exact hold k hk (.inr (.inr h2))
        · omega
    have hB2 : Both w2 B px dbx' py fb' db' c1 S1 d1 := ⟨hX2, hY2, hap2⟩
    have hF : Fr (fun k => ownT px dbx k ∨ k = py) w w2 := (Fr.of_below hA).trans <| (hF1.mono (fun k _ hk => .inl hk)).trans (hF2.mono (fun k _ hk => .inr hk))
    have hz1 := hF1.size
    have hz0 := hA.size
    clear ay hX hY hX1 hY1 hF1 hF2 hX2 hY2 hap2 hpy
    go_wp2_with fail
    refine (hsm _ _ _ _ hB2 _ (by congr 1; omega)).mono ?_
    rintro e w3 ⟨rfl, hb3⟩
    clear hsm
    go_wp2
    go_ret
    refine ⟨rfl, dbx', fb', db', ?_, hF.trans (Fr.of_below hb3), fun k hk => (hn1 k hk).imp id (fun h => Nat.le_trans hz0 h), fun k hk => (hn2 k hk).imp id (fun h => Nat.le_trans hz0 (Nat.le_trans hz1 h)), fun k hk => (hn3 k hk).imp id (fun h => Nat.le_trans hz0 (Nat.le_trans hz1 h))⟩
    rw [HP.out.1, HP.out.2.1, HP.out.2.2]
    exact hB2.below hb3
end Go.Proofs.Ytlgpabdadnfbeaa
