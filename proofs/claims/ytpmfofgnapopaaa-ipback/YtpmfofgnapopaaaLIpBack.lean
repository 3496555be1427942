/- Whatever packet, and bytes behind it: the walk of law10.IpBack ends with true. -/
import Derived.Test.YtpmfofgnapopaaaIpBkM
import Derived.Test.YtpmfofgnapopaaaIpSame
import Derived.Test.YtpmfofgnapopaaaIpLive
import Derived.Test.YtpmfofgnapopaaaOwnW
namespace Go.Proofs.Ytpmfofgnapopaaa
open Go.RowKit
set_option maxRecDepth 100000 in
set_option maxHeartbeats 1000000 in
theorem walk_IpBack (sr ds pr tt id : Nat) (dn mo : Bool) (of : Int) (a : Option Addr) (n c : Nat) (zs : List Nat) (a0 : Option Addr) (n0 c0 : Nat) (ys : List Nat) (w : World) (hsr : sr < 4294967296) (hds : ds < 4294967296) (hpr : pr < 256) (htt : tt < 256) (hid : id < 65536) (_hof : (Lit.int .i64 of).wf = true) (h0 : Sl w a n c zs ∧ c ≤ 140737488351232) (h1 : Sl w a0 n0 c0 ys ∧ c0 * 1 ≤ 140737488351232) :
    Calls Try.prog 5 #[.agg #[.int .u32 (sr : Nat), .int .u32 (ds : Nat), .int .u8 (pr : Nat), .int .u8 (tt : Nat), .int .u16 (id : Nat), .bool dn, .bool mo, .int .i64 of, .slice a n c], .slice a0 n0 c0] w fun e w' => e = .returned (.bool true) ∧ Below w.heap.size w w' := by
  obtain ⟨h0, hcb⟩ := h0
  obtain ⟨h1, hcb1⟩ := h1
  have hn0 : n0 ≤ 140737488351232 := by have := h1.cap; omega
  clear hcb hcb1
  have hl := h0.len
  obtain ⟨W, hW⟩ : ∃ W, W = w.alloc (.cells #[.int .u32 (sr : Nat), .int .u32 (ds : Nat), .int .u8 (pr : Nat), .int .u8 (tt : Nat), .int .u16 (id : Nat), .bool dn, .bool mo, .int .i64 of, .slice a n c] 26) := ⟨_, rfl⟩
  have hX := Stc.new w [.int .u32 (sr : Nat), .int .u32 (ds : Nat), .int .u8 (pr : Nat), .int .u8 (tt : Nat), .int .u16 (id : Nat), .bool dn, .bool mo, .int .i64 of, .slice a n c] 26 W hW
  have hbW : Below w.heap.size w W := by rw [hW]; exact (Below.refl _ _).alloc (Nat.le_refl _) _
  have hsW := h0.below hbW
  have hyW := h1.below hbW
  have x0 := hX.cell 0 _ rfl
  have x1 := hX.cell 1 _ rfl
  have x2 := hX.cell 2 _ rfl
  have x3 := hX.cell 3 _ rfl
  have x4 := hX.cell 4 _ rfl
  have x5 := hX.cell 5 _ rfl
  have x6 := hX.cell 6 _ rfl
  have x7 := hX.cell 7 _ rfl
  have x8 := hX.cell 8 _ rfl
  have hpt := iput_any sr ds pr tt id dn mo of a n c zs W hsr hds hpr htt hid hsW
  by_cases hE : mbE mo of n = 0
  case neg =>
    have hne : ¬ ((mbE mo of n : Nat) : Int) = 0 := by omega
    have hne2 : (((mbE mo of n : Nat) : Int) != 0) = true := by simpa using hne
    have hV : ipV sr ds pr tt id dn mo of zs = [] := by unfold ipV; rw [hl, if_neg hE]
    rw [hV] at hpt
    generalize mbE mo of n = E at *
    go_enter Try.func5, Try.ntmps5
    go_wp2_with fail
    rw [← hW]
    clear hW
    refine hpt.mono ?_
    rintro e w1 ⟨⟨a1, c1, rfl, o1⟩, b1⟩
    have bb1 : Below w.heap.size w w1 := hbW.trans (b1.mono hbW.size)
    go_wp2_with fail
    refine (live10_any w1).mono ?_
    rintro e w2 ⟨rfl, b2⟩
    go_wp2
    go_ret
    exact ⟨rfl, bb1.trans (b2.mono bb1.size)⟩
  case pos =>
  have HBK := (show Hid _ from ip_back sr ds pr tt id dn mo of zs ys hsr hds hpr htt hid (by rw [hl]; exact hE))
  have hVl : (ipV sr ds pr tt id dn mo of zs).length = 20 + n := by unfold ipV; rw [hl, if_pos hE, List.length_append, ipHd_len, hl]
  obtain ⟨q1, q2, q3, q4, q5⟩ := mbE_ok hE
  rw [hE] at hpt
  generalize ipV sr ds pr tt id dn mo of zs = V at *
  clear hE q3 q4
  go_enter Try.func5, Try.ntmps5
  go_wp2_with fail
  rw [← hW]
  clear hW
  refine hpt.mono ?_
  rintro e w1 ⟨⟨a1, c1, rfl, o1⟩, b1⟩
  rw [hVl] at o1 ⊢
  have hX1 := hX.below b1
  have hs1 := hsW.below b1
  have hy1 := hyW.below b1
  have bb1 : Below w.heap.size w w1 := hbW.trans (b1.mono hbW.size)
  have hz1 := bb1.size
  have hq1 : w.heap.size < w1.heap.size := hX1.lt
  clear x0 x1 x2 x3 x4 x5 x6 x7 x8 hX hsW hyW b1 hbW hpt
  have ho : OwnB (w1.alloc (.cells #[] 5)) w1.heap.size (some ⟨w1.heap.size, 0, none⟩) 0 0 [] := own_empty w1
  have b12 : Below w1.heap.size w1 (w1.alloc (.cells #[] 5)) := (Below.refl _ _).alloc (Nat.le_refl _) _
  have r1 := (o1.sl (by omega)).below b12
  go_wp2_with (at_builtin; go_must (refine app_list rfl _ _ rfl w1.heap.size _ 0 0 [] rfl ho _ (20 + n) c1 V rfl r1 (by omega) (by simp) ?_))
  intro a2 c2 w2 ho2 hg2
  have hb2 : Below w1.heap.size w1 w2 := b12.trans (ho.up hg2 (by simp))
  have hz2 := hb2.size
  have hy2 := hy1.below hb2
  clear ho hg2 b12 r1 hy1 o1
  have ho2' : OwnB w2 w1.heap.size a2 (20 + n) c2 V := by simpa using ho2
  clear ho2
  go_wp2_with (at_builtin; go_must (refine app_listW rfl _ _ rfl w1.heap.size _ (20 + n) c2 V (by simp [Act.eval]) ho2' _ n0 c0 ys rfl hy2 (by omega) (by omega) ?_))
  intro a3 c3 w3 ho3 hg3
  have hb3 : Below w1.heap.size w1 w3 := hb2.trans (ho2'.up hg3 (by omega))
  have hX3 := hX1.below hb3
  have hs3 := hs1.below hb3
  have bb3 : Below w.heap.size w w3 := bb1.trans (hb3.mono bb1.size)
  clear ho2' hg3 hy2 hb2 hX1 hs1
  go_wp2_with fail
  refine (itake_any a3 (20 + n + n0) c3 (V ++ ys) w3 (ho3.sl (by omega))).mono ?_
  obtain ⟨k0, k1, k2, k3, k4, k5, k6, k7, k8, k9⟩ := HBK.out
  rintro e w4 ⟨⟨a4, c4, rfl, o4⟩, b4⟩
  rw [k0, k1, k2, k3, k4, k5, k6, k7, k8, k9, hl]
  rw [k9, hl] at o4
  have hX4 := hX3.below b4
  have hs4 := hs3.below b4
  have r4 := o4.sl (by omega)
  have bb4 : Below w.heap.size w w4 := bb3.trans (b4.mono bb3.size)
  obtain ⟨w5, hw5⟩ : ∃ w5, w5 = w4.alloc (.cells #[.int .u32 (sr : Nat), .int .u32 (ds : Nat), .int .u8 (pr : Nat), .int .u8 (tt : Nat), .int .u16 (id : Nat), .bool dn, .bool mo, .int .i64 of, .slice a4 n c4] 26) := ⟨_, rfl⟩
  have b45 : Below w4.heap.size w4 w5 := by rw [hw5]; exact (Below.refl _ _).alloc (Nat.le_refl _) _
  have hY5 := Stc.new w4 [.int .u32 (sr : Nat), .int .u32 (ds : Nat), .int .u8 (pr : Nat), .int .u8 (tt : Nat), .int .u16 (id : Nat), .bool dn, .bool mo, .int .i64 of, .slice a4 n c4] 26 w5 hw5
  have hX5 := hX4.below b45
  have hs5 := hs4.below b45
  have r5 := r4.below b45
  have bb5 : Below w.heap.size w w5 := bb4.trans (b45.mono bb4.size)
  clear k0 k1 k2 k3 k4 k5 k6 k7 k8 k9 hX3 hX4 ho3 hb3 bb3 bb4 b4 b45 bb1 hs3 hs4 r4 o4
  go_wp2_with fail
  rw [← hw5]
  clear hw5
  refine (live10_any w5).mono ?_
  rintro e w6 ⟨rfl, b6⟩
  have hX6 := hX5.below b6
  have hY6 := hY5.below b6
  have hs6 := hs5.below b6
  have r6 := r5.below b6
  have bb6 : Below w.heap.size w w6 := bb5.trans (b6.mono bb5.size)
  have x0 := hX6.cell 0 _ rfl
  have x1 := hX6.cell 1 _ rfl
  have x2 := hX6.cell 2 _ rfl
  have x3 := hX6.cell 3 _ rfl
  have x4 := hX6.cell 4 _ rfl
  have x5 := hX6.cell 5 _ rfl
  have x6 := hX6.cell 6 _ rfl
  have x7 := hX6.cell 7 _ rfl
  have x8 := hX6.cell 8 _ rfl
  have y0 := hY6.cell 0 _ rfl
  have y1 := hY6.cell 1 _ rfl
  have y2 := hY6.cell 2 _ rfl
  have y3 := hY6.cell 3 _ rfl
  have y4 := hY6.cell 4 _ rfl
  have y5 := hY6.cell 5 _ rfl
  have y6 := hY6.cell 6 _ rfl
  have y7 := hY6.cell 7 _ rfl
  have y8 := hY6.cell 8 _ rfl
  clear hX5 hY5 hX6 hY6 bb5 b6 hs5 r5
  go_wp2_with fail
  refine (isame_any sr ds pr tt id dn mo of a n c zs a4 c4 w6 hs6 r6).mono ?_
  rintro e w7 ⟨rfl, b7⟩
  go_wp2
  go_ret
  exact ⟨rfl, bb6.trans (b7.mono bb6.size)⟩
end Go.Proofs.Ytpmfofgnapopaaa
