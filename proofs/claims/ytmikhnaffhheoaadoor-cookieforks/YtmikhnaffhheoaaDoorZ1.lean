/- Keys in memory whose secrets lie in blocks of X; Turn keeps to it. -/
import Derived.Test.YtmikhnaffhheoaaDoorCkOp
import Derived.Test.YtmikhnaffhheoaaDoorCln
import Derived.Deep.RegionWith
import Derived.Deep.AppendLies
namespace Go.Proofs.YtmikhnaffhheoaaDoor
open Go.RowKit
theorem own_blk {w : World} {B : Nat} {a : Option Addr} {n c : Nat} {zs : List Nat} (h : OwnB w B a n c zs) : ∀ k, blkOf a n = some k → B ≤ k ∧ k < w.heap.size := by
  intro k hk
  unfold blkOf at hk
  split at hk
  · cases hk
  · rename_i hn
    have h2 : (Value.slice a n c).ownBlock = some k := by
      rcases h.own.2 with ⟨_, h0⟩ | ⟨g, cap, cur, hv, _⟩
      · exact absurd h0 hn
      · injection hv with e1
        subst e1
        injection hk with hk
        subst hk
        rfl
    exact h.own.lt k h2
/-- Keys are answered. -/
structure KyP (cur : List Nat) (fm : Option (List Nat)) (w : World) (e : Ending) (w' : World) : Prop where
  ans : ∃ kp, e = .returned (.pointer (some ⟨kp, 0, none⟩)) ∧ Ky w' kp cur fm ∧ w.heap.size ≤ kp
  bel : Below w.heap.size w w'
set_option maxRecDepth 100000 in
set_option maxHeartbeats 1000000 in
theorem knew_any (a : Option Addr) (n c : Nat) (zs : List Nat) (w : World) (hs : Sl w a n c zs) (hn : n ≤ 140737488355328) :
    Calls Tryd.prog 11 #[.slice a n c] w fun e w' => KyP zs none w e w' := by
  go_enter Tryd.func11, Tryd.ntmps11
  go_wp2_with fail
  refine (clone_anyW a n c zs w hs hn).mono ?_
  rintro e w1 ⟨a1, c1, rfl, o1, _, b1⟩
  have hlt := own_blk o1
  obtain ⟨w2, hw2⟩ : ∃ W, W = w1.alloc (.cells #[.slice a1 n c1, .slice none 0 0, .bool false] 51) := ⟨_, rfl⟩
  have b12 : Below w1.heap.size w1 w2 := by rw [hw2]; exact (Below.refl _ _).alloc (Nat.le_refl _) _
  have sK := Stc.new w1 [.slice a1 n c1, .slice none 0 0, .bool false] 51 w2 hw2
  have HK : Hid (Ky w2 w1.heap.size zs none) := ⟨a1, n, c1, none, 0, 0, sK, slB_of ((o1.below b12).sl (by omega)), slB_of (SlK.nil _ _ _ (by omega)), hn, by omega, fun k hk => by have := (hlt k hk).2; omega, fun k hk => by cases hk⟩
  have HB : Hid (Below w.heap.size w w2) := b1.trans (b12.mono b1.size)
  have HZ : Hid (w.heap.size ≤ w1.heap.size) := b1.size
  clear o1 hlt sK b12
  go_wp2
  go_ret
  subst hw2
  exact ⟨⟨_, rfl, HK.out, HZ.out⟩, HB.out⟩
/-- The keys have turned. -/
structure TuP (kp : Nat) (cur : List Nat) (fm : Option (List Nat)) (w : World) (e : Ending) (w' : World) : Prop where
  ans : e = .returned (.int .i64 0)
  ky : Ky w' kp cur fm
  fr : Fr (fun b => b = kp) w w'
set_option maxRecDepth 100000 in
set_option maxHeartbeats 2000000 in
theorem turn_any (kp : Nat) (cur : List Nat) (fm : Option (List Nat)) (a : Option Addr) (n c : Nat) (zs : List Nat) (w : World) (hk : Ky w kp cur fm) (hs : Sl w a n c zs) (hn : n ≤ 140737488355328) :
    Calls Tryd.prog 14 #[.pointer (some ⟨kp, 0, none⟩), .slice a n c] w fun e w' => TuP kp zs (some cur) w e w' := by
  obtain ⟨p1, m1, d1, p2, m2, d2, k1, k2, k3, k4, k5, k6, k7⟩ := hk.ex
  have hlt := k1.lt
  have bd : Below w.heap.size w w.drew := (Below.refl _ _).drew
  have hsD := hs.below bd
  have kD := k1.below bd
  have x0 := kD.cell 0 _ rfl
  have HST : Hid (∀ a1 c1 w1, OwnB w1 w.heap.size a1 n c1 zs → Below w.heap.size w.drew w1 → (w1.cell? ⟨kp, 0, none⟩ = some (.slice p1 m1 d1) ∧ w1.cell? ⟨kp, 1, none⟩ = some (.slice p2 m2 d2) ∧ w1.cell? ⟨kp, 2, none⟩ = some (.bool fm.isSome) ∧ w1.frozen? ⟨kp, 0, none⟩ = false ∧ w1.frozen? ⟨kp, 1, none⟩ = false ∧ w1.frozen? ⟨kp, 2, none⟩ = false) ∧ TuP kp zs (some cur) w (.returned (.int .i64 0)) (((w1.setCell ⟨kp, 1, none⟩ (.slice p1 m1 d1)).setCell ⟨kp, 0, none⟩ (.slice a1 n c1)).setCell ⟨kp, 2, none⟩ (.bool true))) := by
    intro a1 c1 w1 o1 b1'
    have b1 : Below w.heap.size w w1 := bd.trans b1'
    have s1 := k1.below b1
    refine ⟨⟨s1.cell 0 _ rfl, s1.cell 1 _ rfl, s1.cell 2 _ rfl, s1.free 0, s1.free 1, s1.free 2⟩, rfl, ?_, ?_⟩
    · have s9 := ((s1.set 1 (.slice p1 m1 d1)).set 0 (.slice a1 n c1)).set 2 (.bool true)
      have f9 : Fr (fun b => b = kp) w1 (((w1.setCell ⟨kp, 1, none⟩ (.slice p1 m1 d1)).setCell ⟨kp, 0, none⟩ (.slice a1 n c1)).setCell ⟨kp, 2, none⟩ (.bool true)) := ((Fr.setCell (fun b => b = kp) _ _ _ rfl).trans (Fr.setCell (fun b => b = kp) _ _ _ rfl)).trans (Fr.setCell (fun b => b = kp) _ _ _ rfl)
      have o9 := ((o1.setOther kp 1 (.slice p1 m1 d1) hlt).setOther kp 0 (.slice a1 n c1) hlt).setOther kp 2 (.bool true) hlt
      refine ⟨a1, n, c1, p1, m1, d1, s9, slB_of (o9.sl (by omega)), ?_, hn, k4, fun k hk => ?_, k6⟩
      · have hc := (k2.below b1).1
        refine slB_of ⟨hc.len, hc.cap, hc.room, hc.small, hc.nz, hc.bnd, ?_⟩
        rcases hc.at_ with h0 | ⟨b, off, e, hl, hcell⟩
        · exact .inl h0
        · by_cases hm : m1 = 0
          · exact .inl hm
          · refine .inr ⟨b, off, e, Nat.lt_of_lt_of_le hl f9.size, fun i hi => ?_⟩
            rw [f9.cell ⟨b, off + i, none⟩ hl (fun e2 => k6 b (by unfold blkOf; rw [if_neg hm, e]; rfl) e2)]
            exact hcell i hi
      · have := (own_blk o1 k hk).1
        omega
    · exact ((Fr.of_below b1).trans (((Fr.setCell (fun b => b = kp) _ _ _ rfl).trans (Fr.setCell (fun b => b = kp) _ _ _ rfl)).trans (Fr.setCell (fun b => b = kp) _ _ _ rfl)))
  clear hk k1 k2 k3 k6 k7 kD
  go_enter Tryd.func14, Tryd.ntmps14
  go_wp2_with fail
  go_region_with (first
    | (go_at_call 23; refine (clone_anyW a n c zs _ hsD hn).mono ?_; rintro e w1 ⟨a1, c1, rfl, o1, _, b1⟩; obtain ⟨⟨y0, y1, y2, y0f, y1f, y2f⟩, hT⟩ := HST.out a1 c1 w1 o1 b1)
    | fail)
  all_goals
    have HT := (show Hid _ from hT)
    clear hT
    go_wp2
    go_ret
    exact HT.out
set_option maxRecDepth 100000 in
set_option maxHeartbeats 1000000 in
theorem kfork_any (kp : Nat) (cur : List Nat) (fm : Option (List Nat)) (w : World) (hk : Ky w kp cur fm) :
    Calls Tryd.prog 7 #[.pointer (some ⟨kp, 0, none⟩)] w fun e w' => KyP cur fm w e w' := by
  obtain ⟨p1, m1, d1, p2, m2, d2, k1, k2, k3, k4, k5, k6, k7⟩ := hk.ex
  have x0 := k1.cell 0 _ rfl
  have x1 := k1.cell 1 _ rfl
  have x2 := k1.cell 2 _ rfl
  obtain ⟨W, hW⟩ : ∃ W, W = w.alloc (.cells #[.slice p1 m1 d1, .slice p2 m2 d2, .bool fm.isSome] 51) := ⟨_, rfl⟩
  have bW : Below w.heap.size w W := by rw [hW]; exact (Below.refl _ _).alloc (Nat.le_refl _) _
  have sK := Stc.new w [.slice p1 m1 d1, .slice p2 m2 d2, .bool fm.isSome] 51 W hW
  have HK : Hid (Ky W w.heap.size cur fm) := ⟨p1, m1, d1, p2, m2, d2, sK, k2.below bW, k3.below bW, k4, k5, fun k hk => by have := k2.2 k hk; omega, fun k hk => by have := k3.2 k hk; omega⟩
  have HB : Hid (Below w.heap.size w W) := bW
  generalize fm.isSome = t at *
  clear k2 k3 k6 k7 sK bW k1
  go_enter Tryd.func7, Tryd.ntmps7
  go_wp2
  go_ret
  subst hW
  exact ⟨⟨_, rfl, HK.out, Nat.le_refl _⟩, HB.out⟩
end Go.Proofs.YtmikhnaffhheoaaDoor
namespace Go.Proofs.YtmikhnaffhheoaaDoor
open Go.RowKit
/-- A secret in memory. -/
structure Sec where
  a : Option Addr
  n : Nat
  c : Nat
  zs : List Nat
def secV (rs : List Sec) : List Value := rs.map fun x => .slice x.a x.n x.c
theorem rows_info : (Tryd.prog.info? 22).map (fun i => (i.zero, i.size, i.bytes)) = some (some (.slice none 0 0), 1, 24) := by kernel_rfl
/-- The reference's keys in a block: all secrets, the current one last. -/
structure RKy (w : World) (kp : Nat) (rs : List Sec) : Prop where
  ex : ∃ g n c, Stc w kp [.slice (some ⟨g, 0, none⟩) n c] ∧ w.ownsRow 0 22 1 (.slice (some ⟨g, 0, none⟩) n c) n (secV rs) ∧ rs.length = n ∧ n ≤ 1000 ∧ g < w.heap.size ∧ g ≠ kp
  each : ∀ x ∈ rs, Sl w x.a x.n x.c x.zs ∧ x.n ≤ 140737488354000 ∧ ∀ k, blkOf x.a x.n = some k → k < w.heap.size ∧ k ≠ kp
theorem RKy.below {w w' : World} {kp : Nat} {rs : List Sec} (h : RKy w kp rs) (hb : Below w.heap.size w w') : RKy w' kp rs := by
  obtain ⟨g, n, c, h1, h2, h3, h4, h5, h6⟩ := h.ex
  refine ⟨⟨g, n, c, h1.below hb, ?_, h3, h4, Nat.lt_of_lt_of_le h5 hb.size, h6⟩, fun x hx => ?_⟩
  · exact World.ownsRow.kept (row := none) h2 ⟨hb.os, hb.tape, hb.output, hb.size, fun k hk _ => hb.block k hk⟩ (.inr (by simp [Value.ownBlock]))
  · obtain ⟨k1, k2, k3⟩ := h.each x hx
    exact ⟨k1.below hb, k2, fun k hk => ⟨Nat.lt_of_lt_of_le (k3 k hk).1 hb.size, (k3 k hk).2⟩⟩
/-- A secret at its place. -/
theorem RKy.at_ {w : World} {kp : Nat} {rs : List Sec} (h : RKy w kp rs) : ∃ g n c, Stc w kp [.slice (some ⟨g, 0, none⟩) n c] ∧ rs.length = n ∧ n ≤ 1000 ∧ g < w.heap.size ∧ n ≤ c ∧ ∀ (i : Nat) x, rs[i]? = some x → w.cell? ⟨g, i, none⟩ = some (.slice x.a x.n x.c) := by
  obtain ⟨g, n, c, h1, h2, h3, h4, h5, h6⟩ := h.ex
  refine ⟨g, n, c, h1, h3, h4, h5, ?_, fun i x hx => ?_⟩
  · rcases h2.2 with ⟨hv, _⟩ | ⟨g', cap, cur, hv, _, _, hcap, _⟩
    · cases hv
    · injection hv with _ _ e3
      omega
  · have hi := (List.getElem?_eq_some_iff.1 hx).1
    rw [World.ownsRow.cellAt h2 i (by omega)]
    simp [secV, List.getElem?_map, hx]
structure RKyP (z : List (List Nat)) (w : World) (e : Ending) (w' : World) : Prop where
  ans : ∃ kp rs, e = .returned (.pointer (some ⟨kp, 0, none⟩)) ∧ RKy w' kp rs ∧ rs.map (·.zs) = z ∧ w.heap.size ≤ kp
  bel : Below w.heap.size w w'
theorem row_one (w : World) (x : Value) (B : Nat) (hB : B ≤ w.heap.size) : (w.alloc (.cells #[x] 22)).ownsRow B 22 1 (.slice (some ⟨w.heap.size, 0, none⟩) 1 1) 1 [x] := by
  refine ⟨rfl, .inr ⟨w.heap.size, 1, #[x], rfl, hB, ?_, Nat.le_refl _, by unfold maxLen; omega, rfl, rfl⟩⟩
  show (w.heap.push _)[w.heap.size]? = _
  simp
set_option maxRecDepth 100000 in
set_option maxHeartbeats 1000000 in
theorem rknew_any (a : Option Addr) (n c : Nat) (zs : List Nat) (w : World) (hs : Sl w a n c zs) (hn : n ≤ 140737488354000) :
    Calls Tryd.prog 12 #[.slice a n c] w fun e w' => RKyP [zs] w e w' := by
  have oE := own_empty w
  have sE := hs.alloc (.cells #[] 5)
  go_enter Tryd.func12, Tryd.ntmps12
  go_wp2_with (at_builtin; go_must (refine app_list rfl _ _ rfl w.heap.size _ 0 0 [] rfl oE _ n c zs rfl sE (by omega) (by simp) ?_))
  intro a1 c1 w1 o1 g1
  have b1 : Below w.heap.size w w1 := ((Below.refl _ _).alloc (Nat.le_refl _) _).trans (oE.up g1 (by simp))
  have o1' : OwnB w1 w.heap.size a1 n c1 zs := by simpa using o1
  have hlt := own_blk o1'
  obtain ⟨w2, hw2⟩ : ∃ W, W = w1.alloc (.cells #[.slice a1 n c1] 22) := ⟨_, rfl⟩
  obtain ⟨w3, hw3⟩ : ∃ W, W = w2.alloc (.cells #[.slice (some ⟨w1.heap.size, 0, none⟩) 1 1] 54) := ⟨_, rfl⟩
  have z2 : w2.heap.size = w1.heap.size + 1 := by rw [hw2]; simp
  have b12 : Below w1.heap.size w1 w2 := by rw [hw2]; exact (Below.refl _ _).alloc (Nat.le_refl _) _
  have b23 : Below w2.heap.size w2 w3 := by rw [hw3]; exact (Below.refl _ _).alloc (Nat.le_refl _) _
  have b13 : Below w1.heap.size w1 w3 := b12.trans (b23.mono b12.size)
  have sK := Stc.new w2 [.slice (some ⟨w1.heap.size, 0, none⟩) 1 1] 54 w3 hw3
  have r2 : w2.ownsRow 0 22 1 (.slice (some ⟨w1.heap.size, 0, none⟩) 1 1) 1 [.slice a1 n c1] := by rw [hw2]; exact row_one w1 _ 0 (Nat.zero_le _)
  have r3 := World.ownsRow.kept (row := none) r2 ⟨b23.os, b23.tape, b23.output, b23.size, fun k hk _ => b23.block k hk⟩ (.inr (by simp [Value.ownBlock]))
  have zw := b1.size
  have z13 := b13.size
  have z23 := b23.size
  have HK : Hid (RKy w3 w2.heap.size [⟨a1, n, c1, zs⟩]) := by
    refine ⟨⟨w1.heap.size, 1, 1, sK, r3, rfl, by omega, by omega, by omega⟩, fun x hx => ?_⟩
    simp only [List.mem_singleton] at hx
    subst hx
    exact ⟨(o1'.below b13).sl (by omega), hn, fun k hk => by have := hlt k hk; omega⟩
  have HB : Hid (Below w.heap.size w w3) := b1.trans (b13.mono b1.size)
  have HZ : Hid (w.heap.size ≤ w2.heap.size) := by show _ ≤ _; omega
  clear o1 o1' hlt sK r2 r3 b12 b23 b13 oE sE g1
  go_wp2
  go_ret
  subst hw3
  exact ⟨⟨w2.heap.size, _, by rw [z2]; rfl, by subst hw2; exact HK.out, rfl, HZ.out⟩, by subst hw2; exact HB.out⟩
set_option maxRecDepth 100000 in
set_option maxHeartbeats 1000000 in
theorem rkfork_any (kp : Nat) (rs : List Sec) (w : World) (hk : RKy w kp rs) :
    Calls Tryd.prog 8 #[.pointer (some ⟨kp, 0, none⟩)] w fun e w' => RKyP (rs.map (·.zs)) w e w' := by
  obtain ⟨g, n, c, h1, h2, h3, h4, h5, h6⟩ := hk.ex
  have x0 := h1.cell 0 _ rfl
  obtain ⟨W, hW⟩ : ∃ W, W = w.alloc (.cells #[.slice (some ⟨g, 0, none⟩) n c] 54) := ⟨_, rfl⟩
  have bW : Below w.heap.size w W := by rw [hW]; exact (Below.refl _ _).alloc (Nat.le_refl _) _
  have sK := Stc.new w [.slice (some ⟨g, 0, none⟩) n c] 54 W hW
  have HK : Hid (RKy W w.heap.size rs) := by
    refine ⟨⟨g, n, c, sK, ?_, h3, h4, Nat.lt_of_lt_of_le h5 bW.size, by omega⟩, fun x hx => ?_⟩
    · exact World.ownsRow.kept (row := none) h2 ⟨bW.os, bW.tape, bW.output, bW.size, fun k hk _ => bW.block k hk⟩ (.inr (by simp [Value.ownBlock]))
    · obtain ⟨k1, k2, k3⟩ := hk.each x hx
      exact ⟨k1.below bW, k2, fun k hk => ⟨Nat.lt_of_lt_of_le (k3 k hk).1 bW.size, by have := (k3 k hk).1; omega⟩⟩
  have HB : Hid (Below w.heap.size w W) := bW
  clear h1 h2 sK bW hk
  go_enter Tryd.func8, Tryd.ntmps8
  go_wp2
  go_ret
  subst hW
  exact ⟨⟨_, rs, rfl, HK.out, rfl, Nat.le_refl _⟩, HB.out⟩
end Go.Proofs.YtmikhnaffhheoaaDoor
namespace Go.Proofs.YtmikhnaffhheoaaDoor
open Go.RowKit
/-- Rows of rows: what is appended. -/
theorem app_secs {ops : Array Oper} {rest : List Oper} {o : Oper} {a : Act} (w : World) {Q : Exit → Act → World → Prop} (hgd : o.guard = none) (s x : Operand)
    (ho : o.op = .call { callee := .builtin .append, args := #[s, x], argTypes := #[52, 52] })
    (B : Nat) (v : Value) (rs : List Sec) (hs : a.eval s = v) (hown : w.ownsRow B 22 1 v rs.length (secV rs))
    (ad : Addr) (m mc : Nat) (ys : List Sec) (hm : ys.length = m) (hx : a.eval x = .slice (some ad) m mc) (hcell : ∀ (i : Nat) y, ys[i]? = some y → w.cell? (ad.add i) = some (.slice y.a y.n y.c)) (h1 : 1 ≤ m) (hb : rs.length + m ≤ 10000) (hB : B ≤ w.heap.size)
    (h : ∀ g cap w', w'.ownsRow B 22 1 (.slice (some ⟨g, 0, none⟩) (rs.length + m) cap) (rs.length + m) (secV (rs ++ ys)) → w.grownBy w' v.ownBlock → (v.ownBlock = some g ∨ g = w.heap.size) → wpList Tryd.prog ops Q rest (a.put o.dst (.slice (some ⟨g, 0, none⟩) (rs.length + m) cap)) w') : wpList Tryd.prog ops Q (o :: rest) a w := by
  obtain ⟨i, hi, hz0, hz1, hz2⟩ := info_parts rows_info
  refine wpList_append_lies w hgd s x _ ho B 22 i (.slice none 0 0) 1 24 Tryd.underlying52 hi hz0 hz1 hz2 rfl (by omega) v rs.length _ hs hown ad m mc (secV ys) hx (by simp [secV, hm]) ?_ (by simp [secV, Value.oneCell']) (by omega) (by unfold maxLen; omega) (by omega) hB _ rfl ?_
  · intro k u hk
    simp only [secV, List.getElem?_map, Option.map_eq_some_iff] at hk
    obtain ⟨y, hy, rfl⟩ := hk
    exact hcell k y hy
  · intro g cap w' h2 h3 h4 _
    refine h g cap w' ?_ h3 h4
    rw [show secV (rs ++ ys) = secV rs ++ secV ys by simp [secV]]
    exact h2
theorem row_none (w : World) (B : Nat) (hB : B ≤ w.heap.size) : (w.alloc (.cells #[] 22)).ownsRow B 22 1 (.slice (some ⟨w.heap.size, 0, none⟩) 0 0) 0 [] := by
  refine ⟨rfl, .inr ⟨w.heap.size, 0, #[], rfl, hB, ?_, Nat.le_refl _, by unfold maxLen; omega, rfl, rfl⟩⟩
  show (w.heap.push _)[w.heap.size]? = _
  simp
theorem sl_setK {w : World} {a : Option Addr} {n c : Nat} {zs : List Nat} (h : Sl w a n c zs) (q o : Nat) (v : Value) (hq : ∀ k, blkOf a n = some k → k ≠ q) : Sl (w.setCell ⟨q, o, none⟩ v) a n c zs := by
  refine ⟨h.len, h.cap, h.room, h.small, h.nz, h.bnd, ?_⟩
  rcases h.at_ with h0 | ⟨b, off, e, hl, hcell⟩
  · exact .inl h0
  · by_cases hm : n = 0
    · exact .inl hm
    · refine .inr ⟨b, off, e, by simpa [World.setCell] using hl, fun i hi => ?_⟩
      rw [World.cell?_setCell_other _ _ _ _ (by intro e2; injection e2 with e3 _; exact hq b (by unfold blkOf; rw [if_neg hm, e]; rfl) e3.symm)]
      exact hcell i hi
theorem rows_base {w : World} {B : Nat} {v : Value} {n : Nat} {xs : List Value} (h : w.ownsRow B 22 1 v n xs) : w.ownsRow 0 22 1 v n xs := by
  obtain ⟨h2, h3⟩ := h
  refine ⟨h2, ?_⟩
  rcases h3 with h3 | ⟨g, cap, cur, hv, hb, hr⟩
  · exact .inl h3
  · exact .inr ⟨g, cap, cur, hv, Nat.zero_le _, hr⟩
structure RTuP (kp : Nat) (z : List (List Nat)) (w : World) (e : Ending) (w' : World) : Prop where
  ans : e = .returned (.int .i64 0)
  ky : ∃ rs, RKy w' kp rs ∧ rs.map (·.zs) = z
  fr : Fr (fun b => b = kp) w w'
set_option maxRecDepth 100000 in
set_option maxHeartbeats 2000000 in
theorem rkturn_any (kp : Nat) (rs : List Sec) (a : Option Addr) (n c : Nat) (zs : List Nat) (w : World) (hk : RKy w kp rs) (hr1 : 1 ≤ rs.length) (hr : rs.length ≤ 900) (hs : Sl w a n c zs) (hn : n ≤ 140737488354000) :
    Calls Tryd.prog 15 #[.pointer (some ⟨kp, 0, none⟩), .slice a n c] w fun e w' => RTuP kp (rs.map (·.zs) ++ [zs]) w e w' := by
  obtain ⟨g, m, d, s1, hlen, hm, hg, hd, hcells⟩ := hk.at_
  have hkl := s1.lt
  have x0 := s1.cell 0 _ rfl
  obtain ⟨W, hW⟩ : ∃ W, W = w.alloc (.cells #[] 22) := ⟨_, rfl⟩
  have bW : Below w.heap.size w W := by rw [hW]; exact (Below.refl _ _).alloc (Nat.le_refl _) _
  have rW : W.ownsRow w.heap.size 22 1 (.slice (some ⟨w.heap.size, 0, none⟩) 0 0) ([] : List Sec).length (secV []) := by rw [hW]; exact row_none w _ (Nat.le_refl _)
  have cW : ∀ (i : Nat) y, rs[i]? = some y → W.cell? ((⟨g, 0, none⟩ : Addr).add i) = some (.slice y.a y.n y.c) := fun i y hy => by
    rw [Addr.add_mid, Nat.zero_add]
    exact (bW.cell (p := ⟨g, i, none⟩) hg).trans (hcells i y hy)
  go_enter Tryd.func15, Tryd.ntmps15
  go_wp2_with (at_builtin; rw [← hW]; clear hW; go_must (refine app_secs W rfl _ _ rfl w.heap.size _ [] rfl rW ⟨g, 0, none⟩ m d rs hlen rfl cW (by omega) (by simp; omega) bW.size ?_))
  intro g1 d1 w1 r1 gr1 _
  have r1' : w1.ownsRow w.heap.size 22 1 (.slice (some ⟨g1, 0, none⟩) m d1) rs.length (secV rs) := by rw [hlen]; simpa using r1
  have b1 : Below w.heap.size w w1 := bW.trans ((Below.refl w.heap.size W).grown gr1 bW.size (fun k hk => by simp [Value.ownBlock] at hk; omega))
  have hs1 := hs.below b1
  have oE := own_empty w1
  have sE := hs1.alloc (.cells #[] 5)
  try simp only [List.length_nil, Nat.zero_add]
  have r1K := r1'
  clear r1 gr1 rW cW bW
  go_wp2_with (at_builtin; go_must (refine app_list rfl _ _ rfl w1.heap.size _ 0 0 [] rfl oE _ n c zs rfl sE (by omega) (by simp) ?_))
  intro a2 c2 w2 o2 g2
  have b12 : Below w1.heap.size w1 w2 := ((Below.refl _ _).alloc (Nat.le_refl _) _).trans (oE.up g2 (by simp))
  have o2' : OwnB w2 w1.heap.size a2 n c2 zs := by simpa using o2
  have r2 := World.ownsRow.kept (row := none) r1' ⟨b12.os, b12.tape, b12.output, b12.size, fun k hk _ => b12.block k hk⟩ (.inr (by simp [Value.ownBlock]))
  obtain ⟨w3, hw3⟩ : ∃ W, W = w2.alloc (.cells #[.slice a2 n c2] 22) := ⟨_, rfl⟩
  have b23 : Below w2.heap.size w2 w3 := by rw [hw3]; exact (Below.refl _ _).alloc (Nat.le_refl _) _
  have r3 := World.ownsRow.kept (row := none) r2 ⟨b23.os, b23.tape, b23.output, b23.size, fun k hk _ => b23.block k hk⟩ (.inr (by simp [Value.ownBlock]))
  have c3 : ∀ (i : Nat) y, [(⟨a2, n, c2, zs⟩ : Sec)][i]? = some y → w3.cell? ((⟨w2.heap.size, 0, none⟩ : Addr).add i) = some (.slice y.a y.n y.c) := fun i y hy => by
    cases i with
    | zero => simp at hy; subst hy; rw [Addr.add_mid, hw3, World.cell?_alloc_mark]; rfl
    | succ i => simp at hy
  have b13 : Below w1.heap.size w1 w3 := b12.trans (b23.mono b12.size)
  have b03 : Below w.heap.size w w3 := b1.trans (b13.mono b1.size)
  have hz3 := b03.size
  clear oE sE r1' r2 g2 o2
  go_wp2_with (at_builtin; rw [← hw3]; clear hw3; go_must (refine app_secs w3 rfl _ _ rfl w.heap.size _ rs rfl (by first | exact r3 | (rw [hlen] at r3 ⊢; exact r3)) ⟨w2.heap.size, 0, none⟩ 1 1 [⟨a2, n, c2, zs⟩] rfl rfl c3 (by omega) (by omega) hz3 ?_))
  intro g4 d4 w4 r4 gr4 _
  have hg1 : ∀ k, (Value.slice (some ⟨g1, 0, none⟩) m d1).ownBlock = some k → w.heap.size ≤ k := fun k hk => (World.ownsRow.lt r3 k hk).1
  have b34 : Below w.heap.size w3 w4 := (Below.refl w.heap.size w3).grown gr4 hz3 hg1
  have b04 : Below w.heap.size w w4 := b03.trans b34
  have s4 := s1.below b04
  have hg4 := World.ownsRow.lt r4 g4 rfl
  have z4 := b04.size
  have o4 : OwnB w4 w1.heap.size a2 n c2 zs := (o2'.below b23).kept gr4 (by
    cases hq : (Value.slice a2 n c2).ownBlock with
    | none => exact .inl rfl
    | some q => exact .inr (fun e => by have h1 := (o2'.own.lt q hq).1; have h2 := World.ownsRow.lt r1K g1 rfl; simp [Value.ownBlock] at e; omega))
  have y0 := s4.cell 0 _ rfl
  have y0f := s4.free 0
  have HK : Hid (RKy (w4.setCell ⟨kp, 0, none⟩ (.slice (some ⟨g4, 0, none⟩) (m + 1) d4)) kp (rs ++ [⟨a2, n, c2, zs⟩])) := by
    have hgs : w4.grownBy (w4.setCell ⟨kp, 0, none⟩ (.slice (some ⟨g4, 0, none⟩) (m + 1) d4)) (some kp) := (Fr.setCell (fun b => b = kp) w4 ⟨kp, 0, none⟩ _ rfl) |> fun h => ⟨h.os, h.tape, h.output, h.size, fun k hk hn => h.block k hk (fun e => hn (by rw [e]))⟩
    refine ⟨⟨g4, m + 1, d4, s4.set 0 _, World.ownsRow.kept (rows_base r4) hgs (.inr (by simp [Value.ownBlock]; omega)), by simp [hlen], by omega, by simp [World.setCell]; exact hg4.2, by omega⟩, fun x hx => ?_⟩
    rcases List.mem_append.1 hx with hx | hx
    · obtain ⟨k1, k2, k3⟩ := hk.each x hx
      exact ⟨sl_setK (k1.below b04) kp 0 _ (fun k hk => (k3 k hk).2), k2, fun k hk => ⟨by simp [World.setCell]; have := (k3 k hk).1; omega, (k3 k hk).2⟩⟩
    · simp only [List.mem_singleton] at hx
      subst hx
      have hb := own_blk o4
      exact ⟨sl_setK (o4.sl (by omega)) kp 0 _ (fun k hk => by have := (hb k hk).1; have := b1.size; omega), hn, fun k hk => ⟨by simp [World.setCell]; exact (hb k hk).2, by have := (hb k hk).1; have := b1.size; omega⟩⟩
  have HF : Hid (Fr (fun b => b = kp) w (w4.setCell ⟨kp, 0, none⟩ (.slice (some ⟨g4, 0, none⟩) (m + 1) d4))) := (Fr.of_below b04).trans (Fr.setCell (fun b => b = kp) _ _ _ rfl)
  clear r3 r4 gr4 o2' o4 c3 s4 r1K
  go_wp2
  go_ret
  exact ⟨rfl, ⟨_, HK.out, by simp⟩, HF.out⟩
end Go.Proofs.YtmikhnaffhheoaaDoor
namespace Go.Proofs.YtmikhnaffhheoaaDoor
open Go.RowKit
structure KyX (w : World) (kp : Nat) (cur : List Nat) (fm : Option (List Nat)) (X : Nat → Prop) : Prop where
  ex : ∃ a1 n1 c1 a2 n2 c2, Stc w kp [.slice a1 n1 c1, .slice a2 n2 c2, .bool fm.isSome] ∧ SlB w a1 n1 c1 cur ∧ SlB w a2 n2 c2 (fm.getD []) ∧ n1 ≤ 140737488355328 ∧ n2 ≤ 140737488355328 ∧ (∀ k, blkOf a1 n1 = some k → k ≠ kp) ∧ (∀ k, blkOf a2 n2 = some k → k ≠ kp) ∧ (∀ k, blkOf a1 n1 = some k → X k) ∧ (∀ k, blkOf a2 n2 = some k → X k)
theorem KyX.ky {w : World} {kp : Nat} {cur : List Nat} {fm : Option (List Nat)} {X : Nat → Prop} (h : KyX w kp cur fm X) : Ky w kp cur fm := by
  obtain ⟨a1, n1, c1, a2, n2, c2, k1, k2, k3, k4, k5, k6, k7, _⟩ := h.ex
  exact ⟨a1, n1, c1, a2, n2, c2, k1, k2, k3, k4, k5, k6, k7⟩
theorem KyX.lt {w : World} {kp : Nat} {cur : List Nat} {fm : Option (List Nat)} {X : Nat → Prop} (h : KyX w kp cur fm X) : kp < w.heap.size := by
  obtain ⟨a1, n1, c1, a2, n2, c2, k1, _⟩ := h.ex
  exact k1.lt
theorem KyX.sub {w : World} {kp : Nat} {cur : List Nat} {fm : Option (List Nat)} {X Y : Nat → Prop} (h : KyX w kp cur fm X) (hy : ∀ k, k < w.heap.size → X k → Y k) : KyX w kp cur fm Y := by
  obtain ⟨a1, n1, c1, a2, n2, c2, k1, k2, k3, k4, k5, k6, k7, k8, k9⟩ := h.ex
  exact ⟨a1, n1, c1, a2, n2, c2, k1, k2, k3, k4, k5, k6, k7, fun k hk => hy k (k2.2 k hk) (k8 k hk), fun k hk => hy k (k3.2 k hk) (k9 k hk)⟩
theorem KyX.fr {P : Nat → Prop} {w w' : World} {kp : Nat} {cur : List Nat} {fm : Option (List Nat)} {X : Nat → Prop} (h : KyX w kp cur fm X) (hf : Fr P w w') (hp : ¬ P kp) (hX : ∀ k, X k → ¬ P k) : KyX w' kp cur fm X := by
  obtain ⟨a1, n1, c1, a2, n2, c2, k1, k2, k3, k4, k5, k6, k7, k8, k9⟩ := h.ex
  exact ⟨a1, n1, c1, a2, n2, c2, k1.fr hf hp, slB_of (k2.1.frH hf (fun k hk => hX k (k8 k hk))), slB_of (k3.1.frH hf (fun k hk => hX k (k9 k hk))), k4, k5, k6, k7, k8, k9⟩
theorem KyX.below {w w' : World} {kp : Nat} {cur : List Nat} {fm : Option (List Nat)} {X : Nat → Prop} (h : KyX w kp cur fm X) (hb : Below w.heap.size w w') : KyX w' kp cur fm X :=
  h.fr (Fr.of_below (P := fun _ => False) hb) (fun e => e) (fun _ _ e => e)
structure RKyX (w : World) (kp : Nat) (rs : List Sec) (X : Nat → Prop) : Prop where
  ex : ∃ g n c, Stc w kp [.slice (some ⟨g, 0, none⟩) n c] ∧ w.ownsRow 0 22 1 (.slice (some ⟨g, 0, none⟩) n c) n (secV rs) ∧ rs.length = n ∧ n ≤ 1000 ∧ g < w.heap.size ∧ g ≠ kp ∧ X g
  each : ∀ x ∈ rs, Sl w x.a x.n x.c x.zs ∧ x.n ≤ 140737488354000 ∧ ∀ k, blkOf x.a x.n = some k → k < w.heap.size ∧ k ≠ kp ∧ X k
theorem RKyX.rk {w : World} {kp : Nat} {rs : List Sec} {X : Nat → Prop} (h : RKyX w kp rs X) : RKy w kp rs := by
  obtain ⟨g, n, c, h1, h2, h3, h4, h5, h6, _⟩ := h.ex
  exact ⟨⟨g, n, c, h1, h2, h3, h4, h5, h6⟩, fun x hx => ⟨(h.each x hx).1, (h.each x hx).2.1, fun k hk => ⟨((h.each x hx).2.2 k hk).1, ((h.each x hx).2.2 k hk).2.1⟩⟩⟩
theorem RKyX.lt {w : World} {kp : Nat} {rs : List Sec} {X : Nat → Prop} (h : RKyX w kp rs X) : kp < w.heap.size := by
  obtain ⟨g, n, c, h1, _⟩ := h.ex
  exact h1.lt
theorem RKyX.sub {w : World} {kp : Nat} {rs : List Sec} {X Y : Nat → Prop} (h : RKyX w kp rs X) (hy : ∀ k, k < w.heap.size → X k → Y k) : RKyX w kp rs Y := by
  obtain ⟨g, n, c, h1, h2, h3, h4, h5, h6, h7⟩ := h.ex
  exact ⟨⟨g, n, c, h1, h2, h3, h4, h5, h6, hy g h5 h7⟩, fun x hx => ⟨(h.each x hx).1, (h.each x hx).2.1, fun k hk => by
    obtain ⟨e1, e2, e3⟩ := (h.each x hx).2.2 k hk
    exact ⟨e1, e2, hy k e1 e3⟩⟩⟩
theorem rows_fr {P : Nat → Prop} {w w' : World} {g n c m : Nat} {xs : List Value} (h : w.ownsRow 0 22 1 (.slice (some ⟨g, 0, none⟩) n c) m xs) (hg : g < w.heap.size) (hf : Fr P w w') (hp : ¬ P g) : w'.ownsRow 0 22 1 (.slice (some ⟨g, 0, none⟩) n c) m xs := by
  refine ⟨h.1, ?_⟩
  rcases h.2 with ⟨hv, h0⟩ | ⟨g0, cap, cur, hv, hB, hh, h2, h3, h4, h5⟩
  · exact .inl ⟨hv, h0⟩
  · injection hv with e1 e2 e3
    injection e1 with e1
    injection e1 with e1
    subst e1
    exact .inr ⟨g, cap, cur, by rw [e2, e3], hB, by rw [hf.block g hg hp]; exact hh, h2, h3, h4, h5⟩
theorem RKyX.fr {P : Nat → Prop} {w w' : World} {kp : Nat} {rs : List Sec} {X : Nat → Prop} (h : RKyX w kp rs X) (hf : Fr P w w') (hp : ¬ P kp) (hX : ∀ k, X k → ¬ P k) : RKyX w' kp rs X := by
  obtain ⟨g, n, c, h1, h2, h3, h4, h5, h6, h7⟩ := h.ex
  exact ⟨⟨g, n, c, h1.fr hf hp, rows_fr h2 h5 hf (hX g h7), h3, h4, Nat.lt_of_lt_of_le h5 hf.size, h6, h7⟩, fun x hx => by
    obtain ⟨e1, e2, e3⟩ := h.each x hx
    exact ⟨e1.frH hf (fun k hk => hX k (e3 k hk).2.2), e2, fun k hk => ⟨Nat.lt_of_lt_of_le (e3 k hk).1 hf.size, (e3 k hk).2⟩⟩⟩
theorem RKyX.below {w w' : World} {kp : Nat} {rs : List Sec} {X : Nat → Prop} (h : RKyX w kp rs X) (hb : Below w.heap.size w w') : RKyX w' kp rs X :=
  h.fr (Fr.of_below (P := fun _ => False) hb) (fun e => e) (fun _ _ e => e)
structure TuX (kp : Nat) (cur : List Nat) (fm : Option (List Nat)) (X : Nat → Prop) (w : World) (e : Ending) (w' : World) : Prop where
  ans : e = .returned (.int .i64 0)
  ky : KyX w' kp cur fm X
  fr : Fr (fun b => b = kp) w w'
set_option maxRecDepth 100000 in
set_option maxHeartbeats 2000000 in
theorem turnX_any (X : Nat → Prop) (kp : Nat) (cur : List Nat) (fm : Option (List Nat)) (a : Option Addr) (n c : Nat) (zs : List Nat) (w : World) (hk : KyX w kp cur fm X) (hX : ∀ k, w.heap.size ≤ k → X k) (hs : Sl w a n c zs) (hn : n ≤ 140737488355328) :
    Calls Tryd.prog 14 #[.pointer (some ⟨kp, 0, none⟩), .slice a n c] w fun e w' => TuX kp zs (some cur) X w e w' := by
  obtain ⟨p1, m1, d1, p2, m2, d2, k1, k2, k3, k4, k5, k6, k7, k8, k9⟩ := hk.ex
  have hlt := k1.lt
  have bd : Below w.heap.size w w.drew := (Below.refl _ _).drew
  have hsD := hs.below bd
  have kD := k1.below bd
  have x0 := kD.cell 0 _ rfl
  have HST : Hid (∀ a1 c1 w1, OwnB w1 w.heap.size a1 n c1 zs → Below w.heap.size w.drew w1 → (w1.cell? ⟨kp, 0, none⟩ = some (.slice p1 m1 d1) ∧ w1.cell? ⟨kp, 1, none⟩ = some (.slice p2 m2 d2) ∧ w1.cell? ⟨kp, 2, none⟩ = some (.bool fm.isSome) ∧ w1.frozen? ⟨kp, 0, none⟩ = false ∧ w1.frozen? ⟨kp, 1, none⟩ = false ∧ w1.frozen? ⟨kp, 2, none⟩ = false) ∧ TuX kp zs (some cur) X w (.returned (.int .i64 0)) (((w1.setCell ⟨kp, 1, none⟩ (.slice p1 m1 d1)).setCell ⟨kp, 0, none⟩ (.slice a1 n c1)).setCell ⟨kp, 2, none⟩ (.bool true))) := by
    intro a1 c1 w1 o1 b1'
    have b1 : Below w.heap.size w w1 := bd.trans b1'
    have s1 := k1.below b1
    refine ⟨⟨s1.cell 0 _ rfl, s1.cell 1 _ rfl, s1.cell 2 _ rfl, s1.free 0, s1.free 1, s1.free 2⟩, rfl, ?_, ?_⟩
    · have s9 := ((s1.set 1 (.slice p1 m1 d1)).set 0 (.slice a1 n c1)).set 2 (.bool true)
      have f9 : Fr (fun b => b = kp) w1 (((w1.setCell ⟨kp, 1, none⟩ (.slice p1 m1 d1)).setCell ⟨kp, 0, none⟩ (.slice a1 n c1)).setCell ⟨kp, 2, none⟩ (.bool true)) := ((Fr.setCell (fun b => b = kp) _ _ _ rfl).trans (Fr.setCell (fun b => b = kp) _ _ _ rfl)).trans (Fr.setCell (fun b => b = kp) _ _ _ rfl)
      have o9 := ((o1.setOther kp 1 (.slice p1 m1 d1) hlt).setOther kp 0 (.slice a1 n c1) hlt).setOther kp 2 (.bool true) hlt
      refine ⟨a1, n, c1, p1, m1, d1, s9, slB_of (o9.sl (by omega)), ?_, hn, k4, fun k hk => ?_, k6, fun k hk => hX k (own_blk o1 k hk).1, k8⟩
      · have hc := (k2.below b1).1
        refine slB_of ⟨hc.len, hc.cap, hc.room, hc.small, hc.nz, hc.bnd, ?_⟩
        rcases hc.at_ with h0 | ⟨b, off, e, hl, hcell⟩
        · exact .inl h0
        · by_cases hm : m1 = 0
          · exact .inl hm
          · refine .inr ⟨b, off, e, Nat.lt_of_lt_of_le hl f9.size, fun i hi => ?_⟩
            rw [f9.cell ⟨b, off + i, none⟩ hl (fun e2 => k6 b (by unfold blkOf; rw [if_neg hm, e]; rfl) e2)]
            exact hcell i hi
      · have := (own_blk o1 k hk).1
        omega
    · exact ((Fr.of_below b1).trans (((Fr.setCell (fun b => b = kp) _ _ _ rfl).trans (Fr.setCell (fun b => b = kp) _ _ _ rfl)).trans (Fr.setCell (fun b => b = kp) _ _ _ rfl)))
  clear hk k1 k2 k3 k6 k7 kD k8 k9 hX
  go_enter Tryd.func14, Tryd.ntmps14
  go_wp2_with fail
  go_region_with (first
    | (go_at_call 23; refine (clone_anyW a n c zs _ hsD hn).mono ?_; rintro e w1 ⟨a1, c1, rfl, o1, _, b1⟩; obtain ⟨⟨y0, y1, y2, y0f, y1f, y2f⟩, hT⟩ := HST.out a1 c1 w1 o1 b1)
    | fail)
  all_goals
    have HT := (show Hid _ from hT)
    clear hT
    go_wp2
    go_ret
    exact HT.out
structure RTuX (kp : Nat) (z : List (List Nat)) (X : Nat → Prop) (w : World) (e : Ending) (w' : World) : Prop where
  ans : e = .returned (.int .i64 0)
  ky : ∃ rs, RKyX w' kp rs X ∧ rs.map (·.zs) = z
  fr : Fr (fun b => b = kp) w w'
set_option maxRecDepth 100000 in
set_option maxHeartbeats 2000000 in
theorem rkturnX_any (X : Nat → Prop) (kp : Nat) (rs : List Sec) (a : Option Addr) (n c : Nat) (zs : List Nat) (w : World) (hkX : RKyX w kp rs X) (hX : ∀ k, w.heap.size ≤ k → X k) (hr1 : 1 ≤ rs.length) (hr : rs.length ≤ 900) (hs : Sl w a n c zs) (hn : n ≤ 140737488354000) :
    Calls Tryd.prog 15 #[.pointer (some ⟨kp, 0, none⟩), .slice a n c] w fun e w' => RTuX kp (rs.map (·.zs) ++ [zs]) X w e w' := by
  have hk := hkX.rk
  obtain ⟨g, m, d, s1, hlen, hm, hg, hd, hcells⟩ := hk.at_
  have hkl := s1.lt
  have x0 := s1.cell 0 _ rfl
  obtain ⟨W, hW⟩ : ∃ W, W = w.alloc (.cells #[] 22) := ⟨_, rfl⟩
  have bW : Below w.heap.size w W := by rw [hW]; exact (Below.refl _ _).alloc (Nat.le_refl _) _
  have rW : W.ownsRow w.heap.size 22 1 (.slice (some ⟨w.heap.size, 0, none⟩) 0 0) ([] : List Sec).length (secV []) := by rw [hW]; exact row_none w _ (Nat.le_refl _)
  have cW : ∀ (i : Nat) y, rs[i]? = some y → W.cell? ((⟨g, 0, none⟩ : Addr).add i) = some (.slice y.a y.n y.c) := fun i y hy => by
    rw [Addr.add_mid, Nat.zero_add]
    exact (bW.cell (p := ⟨g, i, none⟩) hg).trans (hcells i y hy)
  go_enter Tryd.func15, Tryd.ntmps15
  go_wp2_with (at_builtin; rw [← hW]; clear hW; go_must (refine app_secs W rfl _ _ rfl w.heap.size _ [] rfl rW ⟨g, 0, none⟩ m d rs hlen rfl cW (by omega) (by simp; omega) bW.size ?_))
  intro g1 d1 w1 r1 gr1 _
  have r1' : w1.ownsRow w.heap.size 22 1 (.slice (some ⟨g1, 0, none⟩) m d1) rs.length (secV rs) := by rw [hlen]; simpa using r1
  have b1 : Below w.heap.size w w1 := bW.trans ((Below.refl w.heap.size W).grown gr1 bW.size (fun k hk => by simp [Value.ownBlock] at hk; omega))
  have hs1 := hs.below b1
  have oE := own_empty w1
  have sE := hs1.alloc (.cells #[] 5)
  try simp only [List.length_nil, Nat.zero_add]
  have r1K := r1'
  clear r1 gr1 rW cW bW
  go_wp2_with (at_builtin; go_must (refine app_list rfl _ _ rfl w1.heap.size _ 0 0 [] rfl oE _ n c zs rfl sE (by omega) (by simp) ?_))
  intro a2 c2 w2 o2 g2
  have b12 : Below w1.heap.size w1 w2 := ((Below.refl _ _).alloc (Nat.le_refl _) _).trans (oE.up g2 (by simp))
  have o2' : OwnB w2 w1.heap.size a2 n c2 zs := by simpa using o2
  have r2 := World.ownsRow.kept (row := none) r1' ⟨b12.os, b12.tape, b12.output, b12.size, fun k hk _ => b12.block k hk⟩ (.inr (by simp [Value.ownBlock]))
  obtain ⟨w3, hw3⟩ : ∃ W, W = w2.alloc (.cells #[.slice a2 n c2] 22) := ⟨_, rfl⟩
  have b23 : Below w2.heap.size w2 w3 := by rw [hw3]; exact (Below.refl _ _).alloc (Nat.le_refl _) _
  have r3 := World.ownsRow.kept (row := none) r2 ⟨b23.os, b23.tape, b23.output, b23.size, fun k hk _ => b23.block k hk⟩ (.inr (by simp [Value.ownBlock]))
  have c3 : ∀ (i : Nat) y, [(⟨a2, n, c2, zs⟩ : Sec)][i]? = some y → w3.cell? ((⟨w2.heap.size, 0, none⟩ : Addr).add i) = some (.slice y.a y.n y.c) := fun i y hy => by
    cases i with
    | zero => simp at hy; subst hy; rw [Addr.add_mid, hw3, World.cell?_alloc_mark]; rfl
    | succ i => simp at hy
  have b13 : Below w1.heap.size w1 w3 := b12.trans (b23.mono b12.size)
  have b03 : Below w.heap.size w w3 := b1.trans (b13.mono b1.size)
  have hz3 := b03.size
  clear oE sE r1' r2 g2 o2
  go_wp2_with (at_builtin; rw [← hw3]; clear hw3; go_must (refine app_secs w3 rfl _ _ rfl w.heap.size _ rs rfl (by first | exact r3 | (rw [hlen] at r3 ⊢; exact r3)) ⟨w2.heap.size, 0, none⟩ 1 1 [⟨a2, n, c2, zs⟩] rfl rfl c3 (by omega) (by omega) hz3 ?_))
  intro g4 d4 w4 r4 gr4 _
  have hg1 : ∀ k, (Value.slice (some ⟨g1, 0, none⟩) m d1).ownBlock = some k → w.heap.size ≤ k := fun k hk => (World.ownsRow.lt r3 k hk).1
  have b34 : Below w.heap.size w3 w4 := (Below.refl w.heap.size w3).grown gr4 hz3 hg1
  have b04 : Below w.heap.size w w4 := b03.trans b34
  have s4 := s1.below b04
  have hg4 := World.ownsRow.lt r4 g4 rfl
  have z4 := b04.size
  have o4 : OwnB w4 w1.heap.size a2 n c2 zs := (o2'.below b23).kept gr4 (by
    cases hq : (Value.slice a2 n c2).ownBlock with
    | none => exact .inl rfl
    | some q => exact .inr (fun e => by have h1 := (o2'.own.lt q hq).1; have h2 := World.ownsRow.lt r1K g1 rfl; simp [Value.ownBlock] at e; omega))
  have y0 := s4.cell 0 _ rfl
  have y0f := s4.free 0
  have HK : Hid (RKyX (w4.setCell ⟨kp, 0, none⟩ (.slice (some ⟨g4, 0, none⟩) (m + 1) d4)) kp (rs ++ [⟨a2, n, c2, zs⟩]) X) := by
    have hgs : w4.grownBy (w4.setCell ⟨kp, 0, none⟩ (.slice (some ⟨g4, 0, none⟩) (m + 1) d4)) (some kp) := (Fr.setCell (fun b => b = kp) w4 ⟨kp, 0, none⟩ _ rfl) |> fun h => ⟨h.os, h.tape, h.output, h.size, fun k hk hn => h.block k hk (fun e => hn (by rw [e]))⟩
    refine ⟨⟨g4, m + 1, d4, s4.set 0 _, World.ownsRow.kept (rows_base r4) hgs (.inr (by simp [Value.ownBlock]; omega)), by simp [hlen], by omega, by simp [World.setCell]; exact hg4.2, by omega, hX g4 hg4.1⟩, fun x hx => ?_⟩
    rcases List.mem_append.1 hx with hx | hx
    · obtain ⟨k1, k2, k3⟩ := hkX.each x hx
      exact ⟨sl_setK (k1.below b04) kp 0 _ (fun k hk => (k3 k hk).2.1), k2, fun k hk => ⟨by simp [World.setCell]; have := (k3 k hk).1; omega, (k3 k hk).2.1, (k3 k hk).2.2⟩⟩
    · simp only [List.mem_singleton] at hx
      subst hx
      have hb := own_blk o4
      exact ⟨sl_setK (o4.sl (by omega)) kp 0 _ (fun k hk => by have := (hb k hk).1; have := b1.size; omega), hn, fun k hk => ⟨by simp [World.setCell]; exact (hb k hk).2, by have := (hb k hk).1; have := b1.size; omega, hX k (by have := (hb k hk).1; have := b1.size; omega)⟩⟩
  have HF : Hid (Fr (fun b => b = kp) w (w4.setCell ⟨kp, 0, none⟩ (.slice (some ⟨g4, 0, none⟩) (m + 1) d4))) := (Fr.of_below b04).trans (Fr.setCell (fun b => b = kp) _ _ _ rfl)
  clear r3 r4 gr4 o2' o4 c3 s4 r1K hkX hX hk
  go_wp2
  go_ret
  exact ⟨rfl, ⟨_, HK.out, by simp⟩, HF.out⟩
theorem Ky.toX {w : World} {kp : Nat} {cur : List Nat} {fm : Option (List Nat)} (h : Ky w kp cur fm) : KyX w kp cur fm (fun k => k < w.heap.size ∧ k ≠ kp) := by
  obtain ⟨a1, n1, c1, a2, n2, c2, k1, k2, k3, k4, k5, k6, k7⟩ := h.ex
  exact ⟨a1, n1, c1, a2, n2, c2, k1, k2, k3, k4, k5, k6, k7, fun k hk => ⟨k2.2 k hk, k6 k hk⟩, fun k hk => ⟨k3.2 k hk, k7 k hk⟩⟩
structure KyPX (cur : List Nat) (fm : Option (List Nat)) (X : Nat → Prop) (w : World) (e : Ending) (w' : World) : Prop where
  ans : ∃ kp, e = .returned (.pointer (some ⟨kp, 0, none⟩)) ∧ KyX w' kp cur fm X ∧ w.heap.size ≤ kp
  bel : Below w.heap.size w w'
structure RKyPX (z : List (List Nat)) (X : Nat → Prop) (w : World) (e : Ending) (w' : World) : Prop where
  ans : ∃ kp rs, e = .returned (.pointer (some ⟨kp, 0, none⟩)) ∧ RKyX w' kp rs X ∧ rs.map (·.zs) = z ∧ w.heap.size ≤ kp
  bel : Below w.heap.size w w'
set_option maxRecDepth 100000 in
set_option maxHeartbeats 1000000 in
theorem kforkX_any (X : Nat → Prop) (kp : Nat) (cur : List Nat) (fm : Option (List Nat)) (w : World) (hk : KyX w kp cur fm X) :
    Calls Tryd.prog 7 #[.pointer (some ⟨kp, 0, none⟩)] w fun e w' => KyPX cur fm X w e w' := by
  obtain ⟨p1, m1, d1, p2, m2, d2, k1, k2, k3, k4, k5, k6, k7, k8, k9⟩ := hk.ex
  have x0 := k1.cell 0 _ rfl
  have x1 := k1.cell 1 _ rfl
  have x2 := k1.cell 2 _ rfl
  obtain ⟨W, hW⟩ : ∃ W, W = w.alloc (.cells #[.slice p1 m1 d1, .slice p2 m2 d2, .bool fm.isSome] 51) := ⟨_, rfl⟩
  have bW : Below w.heap.size w W := by rw [hW]; exact (Below.refl _ _).alloc (Nat.le_refl _) _
  have sK := Stc.new w [.slice p1 m1 d1, .slice p2 m2 d2, .bool fm.isSome] 51 W hW
  have HK : Hid (KyX W w.heap.size cur fm X) := ⟨p1, m1, d1, p2, m2, d2, sK, k2.below bW, k3.below bW, k4, k5, fun k hk => by have := k2.2 k hk; omega, fun k hk => by have := k3.2 k hk; omega, k8, k9⟩
  have HB : Hid (Below w.heap.size w W) := bW
  generalize fm.isSome = t at *
  clear k2 k3 k6 k7 sK bW k1 k8 k9 hk
  go_enter Tryd.func7, Tryd.ntmps7
  go_wp2
  go_ret
  subst hW
  exact ⟨⟨_, rfl, HK.out, Nat.le_refl _⟩, HB.out⟩
set_option maxRecDepth 100000 in
set_option maxHeartbeats 1000000 in
theorem rknewX_any (X : Nat → Prop) (a : Option Addr) (n c : Nat) (zs : List Nat) (w : World) (hX : ∀ k, w.heap.size ≤ k → X k) (hs : Sl w a n c zs) (hn : n ≤ 140737488354000) :
    Calls Tryd.prog 12 #[.slice a n c] w fun e w' => RKyPX [zs] X w e w' := by
  have oE := own_empty w
  have sE := hs.alloc (.cells #[] 5)
  go_enter Tryd.func12, Tryd.ntmps12
  go_wp2_with (at_builtin; go_must (refine app_list rfl _ _ rfl w.heap.size _ 0 0 [] rfl oE _ n c zs rfl sE (by omega) (by simp) ?_))
  intro a1 c1 w1 o1 g1
  have b1 : Below w.heap.size w w1 := ((Below.refl _ _).alloc (Nat.le_refl _) _).trans (oE.up g1 (by simp))
  have o1' : OwnB w1 w.heap.size a1 n c1 zs := by simpa using o1
  have hlt := own_blk o1'
  obtain ⟨w2, hw2⟩ : ∃ W, W = w1.alloc (.cells #[.slice a1 n c1] 22) := ⟨_, rfl⟩
  obtain ⟨w3, hw3⟩ : ∃ W, W = w2.alloc (.cells #[.slice (some ⟨w1.heap.size, 0, none⟩) 1 1] 54) := ⟨_, rfl⟩
  have z2 : w2.heap.size = w1.heap.size + 1 := by rw [hw2]; simp
  have b12 : Below w1.heap.size w1 w2 := by rw [hw2]; exact (Below.refl _ _).alloc (Nat.le_refl _) _
  have b23 : Below w2.heap.size w2 w3 := by rw [hw3]; exact (Below.refl _ _).alloc (Nat.le_refl _) _
  have b13 : Below w1.heap.size w1 w3 := b12.trans (b23.mono b12.size)
  have sK := Stc.new w2 [.slice (some ⟨w1.heap.size, 0, none⟩) 1 1] 54 w3 hw3
  have r2 : w2.ownsRow 0 22 1 (.slice (some ⟨w1.heap.size, 0, none⟩) 1 1) 1 [.slice a1 n c1] := by rw [hw2]; exact row_one w1 _ 0 (Nat.zero_le _)
  have r3 := World.ownsRow.kept (row := none) r2 ⟨b23.os, b23.tape, b23.output, b23.size, fun k hk _ => b23.block k hk⟩ (.inr (by simp [Value.ownBlock]))
  have zw := b1.size
  have z13 := b13.size
  have z23 := b23.size
  have HK : Hid (RKyX w3 w2.heap.size [⟨a1, n, c1, zs⟩] X) := by
    refine ⟨⟨w1.heap.size, 1, 1, sK, r3, rfl, by omega, by omega, by omega, hX _ zw⟩, fun x hx => ?_⟩
    simp only [List.mem_singleton] at hx
    subst hx
    exact ⟨(o1'.below b13).sl (by omega), hn, fun k hk => by have := hlt k hk; exact ⟨by omega, by omega, hX k this.1⟩⟩
  have HB : Hid (Below w.heap.size w w3) := b1.trans (b13.mono b1.size)
  have HZ : Hid (w.heap.size ≤ w2.heap.size) := by show _ ≤ _; omega
  clear hX o1 o1' hlt sK r2 r3 b12 b23 b13 oE sE g1
  go_wp2
  go_ret
  subst hw3
  exact ⟨⟨w2.heap.size, _, by rw [z2]; rfl, by subst hw2; exact HK.out, rfl, HZ.out⟩, by subst hw2; exact HB.out⟩
set_option maxRecDepth 100000 in
set_option maxHeartbeats 1000000 in
theorem rkforkX_any (X : Nat → Prop) (kp : Nat) (rs : List Sec) (w : World) (hk : RKyX w kp rs X) :
    Calls Tryd.prog 8 #[.pointer (some ⟨kp, 0, none⟩)] w fun e w' => RKyPX (rs.map (·.zs)) X w e w' := by
  obtain ⟨g, n, c, h1, h2, h3, h4, h5, h6, h7⟩ := hk.ex
  have x0 := h1.cell 0 _ rfl
  obtain ⟨W, hW⟩ : ∃ W, W = w.alloc (.cells #[.slice (some ⟨g, 0, none⟩) n c] 54) := ⟨_, rfl⟩
  have bW : Below w.heap.size w W := by rw [hW]; exact (Below.refl _ _).alloc (Nat.le_refl _) _
  have sK := Stc.new w [.slice (some ⟨g, 0, none⟩) n c] 54 W hW
  have HK : Hid (RKyX W w.heap.size rs X) := by
    refine ⟨⟨g, n, c, sK, ?_, h3, h4, Nat.lt_of_lt_of_le h5 bW.size, by omega, h7⟩, fun x hx => ?_⟩
    · exact World.ownsRow.kept (row := none) h2 ⟨bW.os, bW.tape, bW.output, bW.size, fun k hk _ => bW.block k hk⟩ (.inr (by simp [Value.ownBlock]))
    · obtain ⟨k1, k2, k3⟩ := hk.each x hx
      exact ⟨k1.below bW, k2, fun k hk => ⟨Nat.lt_of_lt_of_le (k3 k hk).1 bW.size, by have := (k3 k hk).1; omega, (k3 k hk).2.2⟩⟩
  have HB : Hid (Below w.heap.size w W) := bW
  clear h1 h2 sK bW hk
  go_enter Tryd.func8, Tryd.ntmps8
  go_wp2
  go_ret
  subst hW
  exact ⟨⟨_, rs, rfl, HK.out, rfl, Nat.le_refl _⟩, HB.out⟩
end Go.Proofs.YtmikhnaffhheoaaDoor
