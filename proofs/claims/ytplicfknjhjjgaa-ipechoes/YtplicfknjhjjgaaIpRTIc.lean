/- What ref10.TakeIcmp answers. -/
import Derived.Test.YtplicfknjhjjgaaIpTIc
import Derived.Test.YtplicfknjhjjgaaIpLy
import Derived.Test.YtplicfknjhjjgaaRefNetI
import Derived.Test.YtplicfknjhjjgaaRefNum
import Derived.Deep.RegionHeld3
namespace Go.Proofs.Ytplicfknjhjjgaa
open Go.RowKit
theorem numV_oneI (zs : List Nat) (p : Nat) (h : p < zs.length) : numV zs (p : Int) ((1 : Nat) : Int) = zs.getD p 0 := by
  unfold numV
  have e : nspanE zs.length (p : Int) ((1 : Nat) : Int) = 0 := by
    unfold nspanE spanE
    rw [if_neg (by omega), if_neg (by omega), if_neg (by omega)]
  rw [if_pos e, Int.toNat_natCast, Int.toNat_natCast, List.take_one, List.head?_drop, List.getD_eq_getElem?_getD]
  rw [List.getElem?_eq_getElem h]
  simp [numB]
set_option maxRecDepth 100000 in
set_option maxHeartbeats 1000000 in
theorem number10I_any (a : Option Addr) (n c : Nat) (zs : List Nat) (p k : Nat) (r : Nat) (hr : numV zs (p : Int) (k : Int) = r) (hrb : r < 4294967296) (w : World) (hs : Sl w a n c zs) (v1 v2 v3 : Value) (e1 : v1 = .slice a n c) (e2 : v2 = .int .i64 (p : Nat)) (e3 : v3 = .int .i64 (k : Nat)) :
    Calls Try.prog 40 #[v1, v2, v3] w fun e w' => e = .returned (.int .i64 (r : Nat)) ∧ w' = w := by
  subst e1 e2 e3
  have hn := refnum_any a n c zs (p : Int) (k : Int) w hs
  rw [hr] at hn
  go_enter Try.func40, Try.ntmps40
  go_wp2_with fail
  refine hn.mono ?_
  rintro e w' ⟨rfl, hw'⟩
  subst w'
  go_wp2
  go_ret
  exact ⟨rfl, rfl⟩
set_option maxRecDepth 100000 in
set_option maxHeartbeats 4000000 in
theorem rtakeIcmp_any (a : Option Addr) (n c : Nat) (zs : List Nat) (w : World) (hs : Sl w a n c zs) (hn : n ≤ 140737488355328) :
    Calls Try.prog 20 #[.slice a n c] w fun e w' => TicP zs w e w' := by
  have hl := hs.len
  have hcap := hs.cap
  have HBAD : Hid (∀ k, icE zs = k → ¬ k = 0 → _) := fun k h hk => ic_bad zs k hk h
  have hb0 : Below w.heap.size w (w.alloc (.cells #[.int .u8 0, .int .u8 0, .int .u32 0, .slice none 0 0] 28)) := (Below.refl _ _).alloc (Nat.le_refl _) _
  have hR0 := Stc.new w [.int .u8 0, .int .u8 0, .int .u32 0, .slice none 0 0] 28 (w.alloc (.cells #[.int .u8 0, .int .u8 0, .int .u32 0, .slice none 0 0] 28)) rfl
  by_cases h1 : n < 8
  · have hn1 : (n : Int) < 8 := by omega
    have HE : Hid (icE zs = 3) := by show _ = _; unfold icE; rw [if_pos (by omega)]
    have HN := HBAD.out 3 HE.out (by omega)
    have HRG := (show Hid _ from hR0.range)
    have HBB := (show Hid _ from hb0)
    clear hR0 hb0
    go_enter Try.func20, Try.ntmps20
    go_wp2
    try simp only [Exit.inBlock, Exit.then]
    refine bodyPost_ret (results_cellE2 rfl _ _ w.heap.size 0 [.int .u8 0, .int .u8 0, .int .u32 0, .slice none 0 0] _ rfl HRG.out Try.underlying28 rfl (by kernel_rfl)) rfl ?_
    exact ⟨⟨none, 0, by rw [HN.1, HE.out]; exact HN.2, by rw [HN.1]; exact OwnB.nil _ _⟩, HBB.out⟩
  have hn1 : ¬ (n : Int) < 8 := by omega
  rcases hs.at_ with h00 | ⟨b, off, rfl, hltb, hcellw⟩
  · omega
  clear hcellw
  obtain ⟨W0, hW0⟩ : ∃ W0, W0 = w.alloc (.cells #[.int .u8 0, .int .u8 0, .int .u32 0, .slice none 0 0] 28) := ⟨_, rfl⟩
  rw [← hW0] at hb0 hR0
  have hs0 := hs.below hb0
  have HIC : Hid (icE zs = if net zs ≠ 0 then 5 else 0) := by show _ = _; unfold icE; rw [if_neg (by omega)]
  go_enter Try.func20, Try.ntmps20
  go_wp2_with fail
  rw [← hW0]
  clear hW0
  refine (refnet_any (some ⟨b, off, none⟩) n c zs W0 hs0).mono ?_
  rintro e w' ⟨rfl, hw'⟩
  subst w'
  generalize net zs = NT at *
  by_cases g6 : NT = 0
  case neg =>
    have HE : Hid (icE zs = 5) := by show _ = _; rw [HIC.out, if_pos g6]
    have HN := HBAD.out 5 HE.out (by omega)
    have t6 : ¬ (NT : Int) = 0 := by omega
    have t6b : ((NT : Int) != 0) = true := by simpa using t6
    have r0 := hR0.cell 0 _ rfl
    have r1 := hR0.cell 1 _ rfl
    have r2 := hR0.cell 2 _ rfl
    have r3 := hR0.cell 3 _ rfl
    have r0f := hR0.free 0
    have r1f := hR0.free 1
    have r2f := hR0.free 2
    have r3f := hR0.free 3
    have hR9 := ((((hR0.set 0 (.int .u8 0)).set 1 (.int .u8 0)).set 2 (.int .u32 0)).set 3 (.slice none 0 0))
    have hb9 := ((((hb0.setCell (p := ⟨w.heap.size, 0, none⟩) (Nat.le_refl _) (.int .u8 0)).setCell (p := ⟨w.heap.size, 1, none⟩) (Nat.le_refl _) (.int .u8 0)).setCell (p := ⟨w.heap.size, 2, none⟩) (Nat.le_refl _) (.int .u32 0)).setCell (p := ⟨w.heap.size, 3, none⟩) (Nat.le_refl _) (.slice none 0 0))
    have HRG := (show Hid _ from hR9.range)
    have HBB := (show Hid _ from hb9)
    clear hR9 hb9 hR0 hb0
    go_wp2
    try simp only [Exit.inBlock, Exit.then]
    refine bodyPost_ret (results_cellE2 rfl _ _ w.heap.size 0 [.int .u8 0, .int .u8 0, .int .u32 0, .slice none 0 0] _ rfl HRG.out Try.underlying28 rfl (by kernel_rfl)) rfl ?_
    exact ⟨⟨none, 0, by rw [HN.1, HE.out]; exact HN.2, by rw [HN.1]; exact OwnB.nil _ _⟩, HBB.out⟩
  case pos =>
  subst g6
  have HE : Hid (icE zs = 0) := by show _ = _; rw [HIC.out, if_neg (by simp)]
  obtain ⟨V0, hV0⟩ : ∃ V, V = numV zs 0 1 := ⟨_, rfl⟩
  obtain ⟨V1, hV1⟩ : ∃ V, V = numV zs 1 1 := ⟨_, rfl⟩
  obtain ⟨V4, hV4⟩ : ∃ V, V = numV zs 4 4 := ⟨_, rfl⟩
  have q0 : V0 < 256 := by rw [hV0]; exact numV_lt zs 0 1 hs.bnd
  have q1 : V1 < 256 := by rw [hV1]; exact numV_lt zs 1 1 hs.bnd
  have q4 : V4 < 4294967296 := by rw [hV4]; exact numV_lt zs 4 4 hs.bnd
  have HOK : Hid (icN zs 0 1 = V0 ∧ icN zs 1 1 = V1 ∧ icN zs 4 4 = V4 ∧ icB zs = zs.drop 8) := by
    show _ ∧ _
    unfold icN icB
    rw [if_pos HE.out, if_pos HE.out, if_pos HE.out, if_pos HE.out]
    exact ⟨hV0.symm, hV1.symm, hV4.symm, rfl⟩
  rcases hs.at_ with h00 | ⟨b', off', e', _, hc0⟩
  · omega
  injection e' with e'
  injection e' with e1' e2'
  subst e1' e2'
  have c0 := hc0 0 (by omega)
  rw [Nat.add_zero, ← numV_oneI zs 0 (by omega)] at c0
  have c1 := hc0 1 (by omega)
  rw [← numV_oneI zs 1 (by omega)] at c1
  rw [show numV zs ((0 : Nat) : Int) ((1 : Nat) : Int) = V0 from hV0.symm] at c0
  rw [show numV zs ((1 : Nat) : Int) ((1 : Nat) : Int) = V1 from hV1.symm] at c1
  have HV4 := (show Hid _ from hV4.symm)
  clear hV0 hV1 hV4 hc0
  have m4 : (V4 : Int) % 4294967296 = (V4 : Int) := by omega
  have mw4 : IntKind.u32.wrap (V4 : Int) = (V4 : Int) := by rw [IntKind.wrap_u32]; omega
  have HSW : Hid (∀ W', Below w.heap.size w W' → Sl W' (some ⟨b, off, none⟩) n c zs ∧ W'.cell? ⟨b, off, none⟩ = some (.int .u8 (V0 : Nat)) ∧ W'.cell? ⟨b, off + 1, none⟩ = some (.int .u8 (V1 : Nat))) := fun W' h => ⟨hs.below h, (h.cell (p := ⟨b, off, none⟩) hltb).trans c0, (h.cell (p := ⟨b, off + 1, none⟩) hltb).trans c1⟩
  obtain ⟨ab0, hab, hab2⟩ := slice_from b off n c 8 8 rfl (by omega) hcap
  have hsd := hs0.dropE 8 (by omega) ab0 hab2
  obtain ⟨m, hm⟩ : ∃ m, m = n - 8 := ⟨_, rfl⟩
  rw [← hm] at hsd
  have HD : Hid ((zs.drop 8).length = m) := hsd.len
  simp only [← hm] at hab
  have hmb : m ≤ 140737488355328 := by omega
  clear hm
  obtain ⟨BY, hBY⟩ : ∃ B, B = zs.drop 8 := ⟨_, rfl⟩
  rw [← hBY] at hsd HD HOK
  clear hBY
  have hi1 : (1 : Int) < (n : Int) := by omega
  have hi0 : (0 : Int) < (n : Int) := by omega
  have hi0n : 0 < n := by omega
  have bD : Below W0.heap.size W0 W0.drew := (Below.refl _ _).drew
  have bE0 : Below W0.heap.size W0 (W0.alloc (.cells #[] 5)) := (Below.refl _ _).alloc (Nat.le_refl _) _
  have bE : Below W0.heap.size W0 (W0.alloc (.cells #[] 5)).drew := bE0.drew
  have oE : OwnB (W0.alloc (.cells #[] 5)).drew W0.heap.size (some ⟨W0.heap.size, 0, none⟩) 0 0 [] := (own_empty W0).below (Below.refl _ _).drew
  have sBE := hsd.below bE
  have zD : W0.drew.heap.size = W0.heap.size := rfl
  have wD := hb0.trans (bD.mono hb0.size)
  have wE := hb0.trans (bE.mono hb0.size)
  obtain ⟨hsD, c0D, c1D⟩ := HSW.out _ wD
  have hlw := hR0.lt
  clear bE0 c0 c1
  go_wp2_with fail
  go_region_held3 (fun w' => Sl w' (some ⟨b, off, none⟩) n c zs ∧ w'.cell? ⟨b, off, none⟩ = some (.int .u8 (V0 : Nat)) ∧ w'.cell? ⟨b, off + 1, none⟩ = some (.int .u8 (V1 : Nat))) (first | with_reducible exact HSW.out _ wD | with_reducible exact HSW.out _ wE | with_reducible exact HSW.out _ w5b | with_reducible exact HSW.out _ w9b | fail) (first
    | (go_at_call 40; refine (number10I_any _ n c zs 4 4 V4 HV4.out q4 _ (by first | with_reducible exact (HSW.out _ wD).1 | with_reducible exact (HSW.out _ wE).1 | with_reducible exact (HSW.out _ w5b).1 | with_reducible exact (HSW.out _ w9b).1) _ _ _ (by rfl) (by rfl) (by rfl)).mono ?_; rintro e w' ⟨rfl, hw'⟩; subst w')
    | (refine app_step2 (by rfl) _ _ (by rfl) W0.heap.size _ 0 0 [] (by rfl) (by with_reducible exact oE) _ m (c - 8) BY (by rfl) (by with_reducible exact sBE) (by omega) bE.size ?_; intro a5 c5 w5 o5 g5 p5; have b5 : Below W0.heap.size W0 w5 := bE.trans (oE.up g5 bE.size); have o6 : OwnB w5 W0.heap.size a5 m c5 BY := (by simpa using o5); have w5b := hb0.trans (b5.mono hb0.size); have w9b := ((((w5b.setCell (p := ⟨w.heap.size, 0, none⟩) (Nat.le_refl _) (.int .u8 (V0 : Nat))).setCell (p := ⟨w.heap.size, 1, none⟩) (Nat.le_refl _) (.int .u8 (V1 : Nat))).setCell (p := ⟨w.heap.size, 2, none⟩) (Nat.le_refl _) (.int .u32 (V4 : Nat))).setCell (p := ⟨w.heap.size, 3, none⟩) (Nat.le_refl _) (.slice a5 m c5)); have hR5 := hR0.below b5; have r0 := hR5.cell 0 _ rfl; have r0f := hR5.free 0; have r1 := hR5.cell 1 _ rfl; have r1f := hR5.free 1; have r2 := hR5.cell 2 _ rfl; have r2f := hR5.free 2; have r3 := hR5.cell 3 _ rfl; have r3f := hR5.free 3)
    | fail)
  all_goals
    have bb5 := w5b
    have hR9 := ((((hR5.set 0 (.int .u8 (V0 : Nat))).set 1 (.int .u8 (V1 : Nat))).set 2 (.int .u32 (V4 : Nat))).set 3 (.slice a5 m c5))
    have hb9 := ((((bb5.setCell (p := ⟨w.heap.size, 0, none⟩) (Nat.le_refl _) (.int .u8 (V0 : Nat))).setCell (p := ⟨w.heap.size, 1, none⟩) (Nat.le_refl _) (.int .u8 (V1 : Nat))).setCell (p := ⟨w.heap.size, 2, none⟩) (Nat.le_refl _) (.int .u32 (V4 : Nat))).setCell (p := ⟨w.heap.size, 3, none⟩) (Nat.le_refl _) (.slice a5 m c5))
    have HOF := (show Hid _ from ((((o6.setOther w.heap.size 0 (.int .u8 (V0 : Nat)) hlw).setOther w.heap.size 1 (.int .u8 (V1 : Nat)) hlw).setOther w.heap.size 2 (.int .u32 (V4 : Nat)) hlw).setOther w.heap.size 3 (.slice a5 m c5) hlw).base (Nat.le_of_lt hlw))
    have HRG := (show Hid _ from hR9.range)
    have HBB := (show Hid _ from hb9)
    clear hR9 hb9 hR5 bb5 o6 hR0 hb0 bD bE oE sBE o5 g5 p5 wD wE w5b w9b HSW hsD c0D c1D hsd
    go_wp2
    try simp only [Exit.inBlock, Exit.then]
    refine bodyPost_ret (results_cellE2 rfl _ _ w.heap.size 0 [.int .u8 (V0 : Nat), .int .u8 (V1 : Nat), .int .u32 (V4 : Nat), .slice a5 m c5] _ rfl HRG.out Try.underlying28 rfl (by kernel_rfl)) rfl ?_
    obtain ⟨e1, e2, e3, e4⟩ := HOK.out
    refine ⟨⟨a5, c5, ?_, ?_⟩, HBB.out⟩
    · rw [e1, e2, e3, e4, HD.out, HE.out]; rfl
    · rw [e4, HD.out]; exact HOF.out
end Go.Proofs.Ytplicfknjhjjgaa
