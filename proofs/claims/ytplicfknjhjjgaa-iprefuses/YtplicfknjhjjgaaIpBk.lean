/- What ip.back answers. -/
import Derived.Test.YtplicfknjhjjgaaIpPIc
import Derived.Test.YtplicfknjhjjgaaIpTIc
import Derived.Deep.RegionHeld3
namespace Go.Proofs.Ytplicfknjhjjgaa
open Go.RowKit
set_option maxRecDepth 100000 in
set_option maxHeartbeats 2000000 in
theorem back_any (sr ds pr tt id : Nat) (dn mo : Bool) (of : Int) (pa : Option Addr) (pn pc : Nat) (ty co re : Nat) (a : Option Addr) (n c : Nat) (zs : List Nat) (w : World) (hty : ty < 256) (hco : co < 256) (hre : re < 4294967296) (hs : Sl w a n c zs) (hn : n ≤ 140737488355320) :
    Calls Try.prog 19 #[.agg #[.int .u32 (sr : Nat), .int .u32 (ds : Nat), .int .u8 (pr : Nat), .int .u8 (tt : Nat), .int .u16 (id : Nat), .bool dn, .bool mo, .int .i64 of, .slice pa pn pc], .agg #[.int .u8 (ty : Nat), .int .u8 (co : Nat), .int .u32 (re : Nat), .slice a n c]] w fun e w' => ∃ a' c', e = .returned (.agg #[.int .u32 (ds : Nat), .int .u32 (sr : Nat), .int .u8 1, .int .u8 64, .int .u16 0, .bool false, .bool false, .int .i64 0, .slice a' (8 + n) c']) ∧ OwnB w' w.heap.size a' (8 + n) c' (icV ty co re zs) ∧ Below w.heap.size w w' := by
  obtain ⟨W1, hW1⟩ : ∃ W, W = w.alloc (.cells #[.int .u32 (sr : Nat), .int .u32 (ds : Nat), .int .u8 (pr : Nat), .int .u8 (tt : Nat), .int .u16 (id : Nat), .bool dn, .bool mo, .int .i64 of, .slice pa pn pc] 26) := ⟨_, rfl⟩
  obtain ⟨W2, hW2⟩ : ∃ W, W = W1.alloc (.cells #[.int .u8 (ty : Nat), .int .u8 (co : Nat), .int .u32 (re : Nat), .slice a n c] 28) := ⟨_, rfl⟩
  obtain ⟨W3, hW3⟩ : ∃ W, W = W2.alloc (.cells #[.int .u32 0, .int .u32 0, .int .u8 0, .int .u8 0, .int .u16 0, .bool false, .bool false, .int .i64 0, .slice none 0 0] 26) := ⟨_, rfl⟩
  have z1 : W1.heap.size = w.heap.size + 1 := by rw [hW1]; simp
  have z2 : W2.heap.size = w.heap.size + 1 + 1 := by rw [hW2]; simp; omega
  have b1 : Below w.heap.size w W1 := by rw [hW1]; exact (Below.refl _ _).alloc (Nat.le_refl _) _
  have b2 : Below W1.heap.size W1 W2 := by rw [hW2]; exact (Below.refl _ _).alloc (Nat.le_refl _) _
  have b3 : Below W2.heap.size W2 W3 := by rw [hW3]; exact (Below.refl _ _).alloc (Nat.le_refl _) _
  have sP := ((Stc.new w [.int .u32 (sr : Nat), .int .u32 (ds : Nat), .int .u8 (pr : Nat), .int .u8 (tt : Nat), .int .u16 (id : Nat), .bool dn, .bool mo, .int .i64 of, .slice pa pn pc] 26 W1 hW1).below b2).below b3
  have sX := (Stc.new W1 [.int .u8 (ty : Nat), .int .u8 (co : Nat), .int .u32 (re : Nat), .slice a n c] 28 W2 hW2).below b3
  have sR := Stc.new W2 [.int .u32 0, .int .u32 0, .int .u8 0, .int .u8 0, .int .u16 0, .bool false, .bool false, .int .i64 0, .slice none 0 0] 26 W3 hW3
  rw [z1] at sX
  rw [z2] at sR
  have b13 : Below W1.heap.size W1 W3 := b2.trans (b3.mono b2.size)
  have b03 : Below w.heap.size w W3 := b1.trans (b13.mono b1.size)
  have hlr := sR.lt
  have HSW : Hid (∀ w', Below (w.heap.size + 1 + 1) W3 w' → w'.cell? ⟨w.heap.size, 0, none⟩ = some (.int .u32 (sr : Nat)) ∧ w'.cell? ⟨w.heap.size, 1, none⟩ = some (.int .u32 (ds : Nat)) ∧ w'.cell? ⟨w.heap.size + 1, 0, none⟩ = some (.int .u8 (ty : Nat)) ∧ w'.cell? ⟨w.heap.size + 1, 1, none⟩ = some (.int .u8 (co : Nat)) ∧ w'.cell? ⟨w.heap.size + 1, 2, none⟩ = some (.int .u32 (re : Nat)) ∧ w'.cell? ⟨w.heap.size + 1, 3, none⟩ = some (.slice a n c)) := fun w' hb => by
    have p := fun i v h => (hb.cell (p := ⟨w.heap.size, i, none⟩) (by show w.heap.size < w.heap.size + 1 + 1; omega)).trans (sP.cell i v h)
    have x := fun i v h => (hb.cell (p := ⟨w.heap.size + 1, i, none⟩) (by show w.heap.size + 1 < w.heap.size + 1 + 1; omega)).trans (sX.cell i v h)
    exact ⟨p 0 _ rfl, p 1 _ rfl, x 0 _ rfl, x 1 _ rfl, x 2 _ rfl, x 3 _ rfl⟩
  have bD : Below W3.heap.size W3 W3.drew := (Below.refl _ _).drew
  have hsD := hs.below (b03.trans (bD.mono b03.size))
  have bDm := bD.mono (Nat.le_of_lt hlr)
  have HR := (show Hid _ from sR)
  clear b1 b2 b3 b13 sP sX sR z1 z2
  go_enter Try.func19, Try.ntmps19
  go_wp2_with fail
  rw [← hW1, ← hW2, ← hW3]
  clear hW1 hW2 hW3
  go_region_held3 (fun w' => w'.cell? ⟨w.heap.size, 0, none⟩ = some (.int .u32 (sr : Nat)) ∧ w'.cell? ⟨w.heap.size, 1, none⟩ = some (.int .u32 (ds : Nat)) ∧ w'.cell? ⟨w.heap.size + 1, 0, none⟩ = some (.int .u8 (ty : Nat)) ∧ w'.cell? ⟨w.heap.size + 1, 1, none⟩ = some (.int .u8 (co : Nat)) ∧ w'.cell? ⟨w.heap.size + 1, 2, none⟩ = some (.int .u32 (re : Nat)) ∧ w'.cell? ⟨w.heap.size + 1, 3, none⟩ = some (.slice a n c)) (first | with_reducible exact HSW.out _ bDm | with_reducible exact HSW.out _ b4m | with_reducible exact HSW.out _ b9m | fail) (first
    | (go_at_call 39; refine (putIcmp_any ty co re a n c zs _ hty hco hre hsD hn).mono ?_; rintro e w4 ⟨a4, c4, rfl, o4, b4'⟩; have b4 : Below W3.heap.size W3 w4 := bD.trans b4'; have b4m := b4.mono (Nat.le_of_lt hlr); have b9m := (((((((((b4m.setCell (p := ⟨w.heap.size + 1 + 1, 0, none⟩) (Nat.le_refl _) (.int .u32 (ds : Nat))).setCell (p := ⟨w.heap.size + 1 + 1, 1, none⟩) (Nat.le_refl _) (.int .u32 (sr : Nat))).setCell (p := ⟨w.heap.size + 1 + 1, 2, none⟩) (Nat.le_refl _) (.int .u8 1)).setCell (p := ⟨w.heap.size + 1 + 1, 3, none⟩) (Nat.le_refl _) (.int .u8 64)).setCell (p := ⟨w.heap.size + 1 + 1, 4, none⟩) (Nat.le_refl _) (.int .u16 0)).setCell (p := ⟨w.heap.size + 1 + 1, 5, none⟩) (Nat.le_refl _) (.bool false)).setCell (p := ⟨w.heap.size + 1 + 1, 6, none⟩) (Nat.le_refl _) (.bool false)).setCell (p := ⟨w.heap.size + 1 + 1, 7, none⟩) (Nat.le_refl _) (.int .i64 0)).setCell (p := ⟨w.heap.size + 1 + 1, 8, none⟩) (Nat.le_refl _) (.slice a4 (8 + n) c4)); have hR4 := HR.out.below b4; have r0 := hR4.cell 0 _ rfl; have r1 := hR4.cell 1 _ rfl; have r2 := hR4.cell 2 _ rfl; have r3 := hR4.cell 3 _ rfl; have r4 := hR4.cell 4 _ rfl; have r5 := hR4.cell 5 _ rfl; have r6 := hR4.cell 6 _ rfl; have r7 := hR4.cell 7 _ rfl; have r8 := hR4.cell 8 _ rfl; have r0f := hR4.free 0; have r1f := hR4.free 1; have r2f := hR4.free 2; have r3f := hR4.free 3; have r4f := hR4.free 4; have r5f := hR4.free 5; have r6f := hR4.free 6; have r7f := hR4.free 7; have r8f := hR4.free 8)
    | fail)
  all_goals
    have bb := b03.trans (b4.mono b03.size)
    have o5 : OwnB w4 W3.heap.size a4 (8 + n) c4 (icV ty co re zs) := o4
    have hR9 := (((((((((hR4.set 0 (.int .u32 (ds : Nat))).set 1 (.int .u32 (sr : Nat))).set 2 (.int .u8 1)).set 3 (.int .u8 64)).set 4 (.int .u16 0)).set 5 (.bool false)).set 6 (.bool false)).set 7 (.int .i64 0)).set 8 (.slice a4 (8 + n) c4))
    have hb9 := (((((((((bb.setCell (p := ⟨w.heap.size + 1 + 1, 0, none⟩) (by show w.heap.size ≤ w.heap.size + 1 + 1; omega) (.int .u32 (ds : Nat))).setCell (p := ⟨w.heap.size + 1 + 1, 1, none⟩) (by show w.heap.size ≤ w.heap.size + 1 + 1; omega) (.int .u32 (sr : Nat))).setCell (p := ⟨w.heap.size + 1 + 1, 2, none⟩) (by show w.heap.size ≤ w.heap.size + 1 + 1; omega) (.int .u8 1)).setCell (p := ⟨w.heap.size + 1 + 1, 3, none⟩) (by show w.heap.size ≤ w.heap.size + 1 + 1; omega) (.int .u8 64)).setCell (p := ⟨w.heap.size + 1 + 1, 4, none⟩) (by show w.heap.size ≤ w.heap.size + 1 + 1; omega) (.int .u16 0)).setCell (p := ⟨w.heap.size + 1 + 1, 5, none⟩) (by show w.heap.size ≤ w.heap.size + 1 + 1; omega) (.bool false)).setCell (p := ⟨w.heap.size + 1 + 1, 6, none⟩) (by show w.heap.size ≤ w.heap.size + 1 + 1; omega) (.bool false)).setCell (p := ⟨w.heap.size + 1 + 1, 7, none⟩) (by show w.heap.size ≤ w.heap.size + 1 + 1; omega) (.int .i64 0)).setCell (p := ⟨w.heap.size + 1 + 1, 8, none⟩) (by show w.heap.size ≤ w.heap.size + 1 + 1; omega) (.slice a4 (8 + n) c4))
    have HOF := (show Hid _ from (((((((((o5.setOther (w.heap.size + 1 + 1) 0 (.int .u32 (ds : Nat)) hlr).setOther (w.heap.size + 1 + 1) 1 (.int .u32 (sr : Nat)) hlr).setOther (w.heap.size + 1 + 1) 2 (.int .u8 1) hlr).setOther (w.heap.size + 1 + 1) 3 (.int .u8 64) hlr).setOther (w.heap.size + 1 + 1) 4 (.int .u16 0) hlr).setOther (w.heap.size + 1 + 1) 5 (.bool false) hlr).setOther (w.heap.size + 1 + 1) 6 (.bool false) hlr).setOther (w.heap.size + 1 + 1) 7 (.int .i64 0) hlr).setOther (w.heap.size + 1 + 1) 8 (.slice a4 (8 + n) c4) hlr).base b03.size)
    have HRG := (show Hid _ from hR9.range)
    have HBB := (show Hid _ from hb9)
    clear hR9 hb9 hR4 bb o4 o5 b4' HSW
    go_wp2
    try simp only [Exit.inBlock, Exit.then]
    refine bodyPost_ret (results_cellE rfl _ _ (w.heap.size + 1 + 1) 0 [.int .u32 (ds : Nat), .int .u32 (sr : Nat), .int .u8 1, .int .u8 64, .int .u16 0, .bool false, .bool false, .int .i64 0, .slice a4 (8 + n) c4] _ rfl HRG.out Try.underlying26 rfl (by kernel_rfl)) rfl ?_
    exact ⟨a4, c4, rfl, HOF.out, HBB.out⟩
end Go.Proofs.Ytplicfknjhjjgaa
