/- What cookie.New, Turn and Fork answer. -/
import Derived.Test.YtlkclaehamidbaaDoorCkOp
import Derived.Test.YtlkclaehamidbaaDoorCln
import Derived.Deep.RegionWith
namespace Go.Proofs.YtlkclaehamidbaaDoor
open Go.RowKit
theorem own_blk {w : World} {B : Nat} {a : Option Addr} {n c : Nat} {zs : List Nat} (h : OwnB w B a n c zs) : ∀ k, blkOf a n = some k → B ≤ k ∧ k < w.heap.size := by
  intro k hk
  unfold blkOf at hk
  split at hk
  · cases hk
  · rename_i hn
    have h2 : (Value.slice a n c).ownBlock = some k := by
      rcases h.own.2 with ⟨_, h0⟩ | ⟨g, cap, cur, hv, _⟩
      · exact absurd h0 hn
      · injection hv with e1
        subst e1
        injection hk with hk
        subst hk
        rfl
    exact h.own.lt k h2
/-- Keys are answered. -/
structure KyP (cur : List Nat) (fm : Option (List Nat)) (w : World) (e : Ending) (w' : World) : Prop where
  ans : ∃ kp, e = .returned (.pointer (some ⟨kp, 0, none⟩)) ∧ Ky w' kp cur fm ∧ w.heap.size ≤ kp
  bel : Below w.heap.size w w'
set_option maxRecDepth 100000 in
set_option maxHeartbeats 1000000 in
theorem knew_any (a : Option Addr) (n c : Nat) (zs : List Nat) (w : World) (hs : Sl w a n c zs) (hn : n ≤ 140737488355328) :
    Calls Tryd.prog 11 #[.slice a n c] w fun e w' => KyP zs none w e w' := by
  go_enter Tryd.func11, Tryd.ntmps11
  go_wp2_with fail
  refine (clone_anyW a n c zs w hs hn).mono ?_
  rintro e w1 ⟨a1, c1, rfl, o1, _, b1⟩
  have hlt := own_blk o1
  obtain ⟨w2, hw2⟩ : ∃ W, W = w1.alloc (.cells #[.slice a1 n c1, .slice none 0 0, .bool false] 58) := ⟨_, rfl⟩
  have b12 : Below w1.heap.size w1 w2 := by rw [hw2]; exact (Below.refl _ _).alloc (Nat.le_refl _) _
  have sK := Stc.new w1 [.slice a1 n c1, .slice none 0 0, .bool false] 58 w2 hw2
  have HK : Hid (Ky w2 w1.heap.size zs none) := ⟨a1, n, c1, none, 0, 0, sK, slB_of ((o1.below b12).sl (by omega)), slB_of (SlK.nil _ _ _ (by omega)), hn, by omega, fun k hk => by have := (hlt k hk).2; omega, fun k hk => by cases hk⟩
  have HB : Hid (Below w.heap.size w w2) := b1.trans (b12.mono b1.size)
  have HZ : Hid (w.heap.size ≤ w1.heap.size) := b1.size
  clear o1 hlt sK b12
  go_wp2
  go_ret
  subst hw2
  exact ⟨⟨_, rfl, HK.out, HZ.out⟩, HB.out⟩
/-- The keys have turned. -/
structure TuP (kp : Nat) (cur : List Nat) (fm : Option (List Nat)) (w : World) (e : Ending) (w' : World) : Prop where
  ans : e = .returned (.int .i64 0)
  ky : Ky w' kp cur fm
  fr : Fr (fun b => b = kp) w w'
set_option maxRecDepth 100000 in
set_option maxHeartbeats 2000000 in
theorem turn_any (kp : Nat) (cur : List Nat) (fm : Option (List Nat)) (a : Option Addr) (n c : Nat) (zs : List Nat) (w : World) (hk : Ky w kp cur fm) (hs : Sl w a n c zs) (hn : n ≤ 140737488355328) :
    Calls Tryd.prog 15 #[.pointer (some ⟨kp, 0, none⟩), .slice a n c] w fun e w' => TuP kp zs (some cur) w e w' := by
  obtain ⟨p1, m1, d1, p2, m2, d2, k1, k2, k3, k4, k5, k6, k7⟩ := hk.ex
  have hlt := k1.lt
  have bd : Below w.heap.size w w.drew := (Below.refl _ _).drew
  have hsD := hs.below bd
  have kD := k1.below bd
  have x0 := kD.cell 0 _ rfl
  have HST : Hid (∀ a1 c1 w1, OwnB w1 w.heap.size a1 n c1 zs → Below w.heap.size w.drew w1 → (w1.cell? ⟨kp, 0, none⟩ = some (.slice p1 m1 d1) ∧ w1.cell? ⟨kp, 1, none⟩ = some (.slice p2 m2 d2) ∧ w1.cell? ⟨kp, 2, none⟩ = some (.bool fm.isSome) ∧ w1.frozen? ⟨kp, 0, none⟩ = false ∧ w1.frozen? ⟨kp, 1, none⟩ = false ∧ w1.frozen? ⟨kp, 2, none⟩ = false) ∧ TuP kp zs (some cur) w (.returned (.int .i64 0)) (((w1.setCell ⟨kp, 1, none⟩ (.slice p1 m1 d1)).setCell ⟨kp, 0, none⟩ (.slice a1 n c1)).setCell ⟨kp, 2, none⟩ (.bool true))) := by
    intro a1 c1 w1 o1 b1'
    have b1 : Below w.heap.size w w1 := bd.trans b1'
    have s1 := k1.below b1
    refine ⟨⟨s1.cell 0 _ rfl, s1.cell 1 _ rfl, s1.cell 2 _ rfl, s1.free 0, s1.free 1, s1.free 2⟩, rfl, ?_, ?_⟩
    · have s9 := ((s1.set 1 (.slice p1 m1 d1)).set 0 (.slice a1 n c1)).set 2 (.bool true)
      have f9 : Fr (fun b => b = kp) w1 (((w1.setCell ⟨kp, 1, none⟩ (.slice p1 m1 d1)).setCell ⟨kp, 0, none⟩ (.slice a1 n c1)).setCell ⟨kp, 2, none⟩ (.bool true)) := ((Fr.setCell (fun b => b = kp) _ _ _ rfl).trans (Fr.setCell (fun b => b = kp) _ _ _ rfl)).trans (Fr.setCell (fun b => b = kp) _ _ _ rfl)
      have o9 := ((o1.setOther kp 1 (.slice p1 m1 d1) hlt).setOther kp 0 (.slice a1 n c1) hlt).setOther kp 2 (.bool true) hlt
      refine ⟨a1, n, c1, p1, m1, d1, s9, slB_of (o9.sl (by omega)), ?_, hn, k4, fun k hk => ?_, k6⟩
      · have hc := (k2.below b1).1
        refine slB_of ⟨hc.len, hc.cap, hc.room, hc.small, hc.nz, hc.bnd, ?_⟩
        rcases hc.at_ with h0 | ⟨b, off, e, hl, hcell⟩
        · exact .inl h0
        · by_cases hm : m1 = 0
          · exact .inl hm
          · refine .inr ⟨b, off, e, Nat.lt_of_lt_of_le hl f9.size, fun i hi => ?_⟩
            rw [f9.cell ⟨b, off + i, none⟩ hl (fun e2 => k6 b (by unfold blkOf; rw [if_neg hm, e]; rfl) e2)]
            exact hcell i hi
      · have := (own_blk o1 k hk).1
        omega
    · exact ((Fr.of_below b1).trans (((Fr.setCell (fun b => b = kp) _ _ _ rfl).trans (Fr.setCell (fun b => b = kp) _ _ _ rfl)).trans (Fr.setCell (fun b => b = kp) _ _ _ rfl)))
  clear hk k1 k2 k3 k6 k7 kD
  go_enter Tryd.func15, Tryd.ntmps15
  go_wp2_with fail
  go_region_with (first
    | (go_at_call 20; refine (clone_anyW a n c zs _ hsD hn).mono ?_; rintro e w1 ⟨a1, c1, rfl, o1, _, b1⟩; obtain ⟨⟨y0, y1, y2, y0f, y1f, y2f⟩, hT⟩ := HST.out a1 c1 w1 o1 b1)
    | fail)
  all_goals
    have HT := (show Hid _ from hT)
    clear hT
    go_wp2
    go_ret
    exact HT.out
set_option maxRecDepth 100000 in
set_option maxHeartbeats 1000000 in
theorem kfork_any (kp : Nat) (cur : List Nat) (fm : Option (List Nat)) (w : World) (hk : Ky w kp cur fm) :
    Calls Tryd.prog 16 #[.pointer (some ⟨kp, 0, none⟩)] w fun e w' => KyP cur fm w e w' := by
  obtain ⟨p1, m1, d1, p2, m2, d2, k1, k2, k3, k4, k5, k6, k7⟩ := hk.ex
  have x0 := k1.cell 0 _ rfl
  have x1 := k1.cell 1 _ rfl
  have x2 := k1.cell 2 _ rfl
  obtain ⟨W, hW⟩ : ∃ W, W = w.alloc (.cells #[.slice p1 m1 d1, .slice p2 m2 d2, .bool fm.isSome] 58) := ⟨_, rfl⟩
  have bW : Below w.heap.size w W := by rw [hW]; exact (Below.refl _ _).alloc (Nat.le_refl _) _
  have sK := Stc.new w [.slice p1 m1 d1, .slice p2 m2 d2, .bool fm.isSome] 58 W hW
  have HK : Hid (Ky W w.heap.size cur fm) := ⟨p1, m1, d1, p2, m2, d2, sK, k2.below bW, k3.below bW, k4, k5, fun k hk => by have := k2.2 k hk; omega, fun k hk => by have := k3.2 k hk; omega⟩
  have HB : Hid (Below w.heap.size w W) := bW
  generalize fm.isSome = t at *
  clear k2 k3 k6 k7 sK bW k1
  go_enter Tryd.func16, Tryd.ntmps16
  go_wp2
  go_ret
  subst hW
  exact ⟨⟨_, rfl, HK.out, Nat.le_refl _⟩, HB.out⟩
end Go.Proofs.YtlkclaehamidbaaDoor
