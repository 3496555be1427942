/- What Take takes: chunks that Check passes, no greater than the bytes they were read from; as a row that Put takes. -/
import Derived.Test.YtifdfkkjmjabnaaDoorKE
import Derived.Test.YtifdfkkjmjabnaaDoorKB
namespace Go.Proofs.YtifdfkkjmjabnaaDoor
open Go.RowKit
/-- A failure that was taken back: nothing but the error is answered. -/
structure RnP (w : World) (er : Int) (e : Ending) (w' : World) : Prop where
  out : e = .returned (.tuple #[.agg #[.int .u16 0, .int .u16 0, .int .u32 0], .slice none 0 0, .int .i64 er])
  bel : Below w.heap.size w w'
theorem catch_fault (p : Addr) (x er : Int) (w : World) (hc : w.cell? p = some (.int .i64 x)) (hz : w.frozen? p = false) :
    CallsD Tryd.prog 54 #[.pointer (some p)] (.panicking (flt er)) w fun e u' w' => e = .returned (.tuple #[]) ∧ u' = .panicking [{ v := .iface 102 (.int .i64 er), recovered := true }] ∧ w' = w.setCell p (.int .i64 er) := by
  have hta : ∀ (I : TypeId) (w : World), (Instr.typeAssert (.iface 102 (.int .i64 er)) I 102 false).run Tryd.prog w = .ok (.int .i64 er) w := fun I w => by
    simp only [Instr.typeAssert, Sem.run_bind, Result.andThen_ok, run_underlying Tryd.underlying102]
    simp
  refine callsD_of_wpS Tryd.func54 rfl fun c₀ cs hu => ?_
  unfold flt at hu
  apply wpS_seq
  apply wpS_region
  simp [wpOpsS, go_sem, recoverD, hu, Tryd.ntmps54, Exit.thenS]
  apply wpS_seq
  apply wpS_region
  simp [wpOpsS, go_sem, Exit.thenS]
  refine wpS_cond (t := true) (by simp [Act.eval, Array.replicate]) ?_
  simp only [if_true]
  apply wpS_region
  simp [wpOpsS, go_sem, hta, hc, hz, bodyPostS, results, Tryd.results54]
set_option linter.unusedVariables false in
set_option maxRecDepth 100000 in
set_option maxHeartbeats 4000000 in
theorem readp_gen {w : World} {b off m c : Nat} {zs : List Nat} (hs : Sl w (some ⟨b, off, none⟩) m c zs) (h12 : 12 ≤ zs.length) (n : Nat) (C : List CD) (hnl : n = C.length)
    (hrc : ∀ q W, RdW w W q (zs.drop 12) 3 → Calls Tryd.prog 56 #[.pointer (some ⟨q, 0, none⟩)] W (RdL2 w W q C 3)) :
    Calls Tryd.prog 37 #[.slice (some ⟨b, off, none⟩) m c] w fun e w' => ∃ la lc, e = .returned (.tuple #[.agg #[.int .u16 (numB (zs.take 2) : Nat), .int .u16 (numB ((zs.drop 2).take 2) : Nat), .int .u32 (numB ((zs.drop 4).take 4) : Nat)], .slice la n lc, .int .i64 0]) ∧ ChsO w' w.heap.size la n lc C ∧ Below w.heap.size w w' := by
  have hmf : ∀ (fn : Fn) (first cap : Array Value) (w : World), (Instr.makeFunc fn first cap).run Tryd.prog w = .ok (.func fn first cap) w := fun _ _ _ _ => rfl
  have hz := zero_head
  have HNL := (show Hid _ from hnl)
  clear hnl
  obtain ⟨W1, hW1⟩ : ∃ W1, W1 = w.alloc (.cells #[.int .u16 0, .int .u16 0, .int .u32 0] 36) := ⟨_, rfl⟩
  obtain ⟨W2, hW2⟩ : ∃ W2, W2 = W1.alloc (.cells #[.int .i64 0] 31) := ⟨_, rfl⟩
  obtain ⟨W3, hW3⟩ : ∃ W3, W3 = W2.alloc (.cells #[.slice (some ⟨b, off, none⟩) m c, .int .i64 3] 105) := ⟨_, rfl⟩
  have z1 : W1.heap.size = w.heap.size + 1 := by rw [hW1]; simp
  have z2 : W2.heap.size = w.heap.size + 1 + 1 := by rw [hW2]; simp [z1]
  have b1 : Below w.heap.size w W1 := by rw [hW1]; exact (Below.refl _ _).alloc (Nat.le_refl _) _
  have b2 : Below W1.heap.size W1 W2 := by rw [hW2]; exact (Below.refl _ _).alloc (Nat.le_refl _) _
  have b3 : Below W2.heap.size W2 W3 := by rw [hW3]; exact (Below.refl _ _).alloc (Nat.le_refl _) _
  have s1 := ((Stc.new w [.int .u16 0, .int .u16 0, .int .u32 0] 36 W1 hW1).below b2).below b3
  have s2 := (Stc.new W1 [.int .i64 0] 31 W2 hW2).below b3
  have s3 := Stc.new W2 [.slice (some ⟨b, off, none⟩) m c, .int .i64 3] 105 W3 hW3
  rw [z1] at s2
  rw [z2] at s3
  have b13 : Below w.heap.size w W3 := (b1.trans (b2.mono b1.size)).trans (b3.mono (Nat.le_trans b1.size b2.size))
  have hrw : RdW w W3 (w.heap.size + 1 + 1) zs 3 := ⟨⟨b, off, m, c, s3, hs⟩, b13, by omega⟩
  have HU : Hid (RuS w w (w.heap.size + 1 + 1) zs 3 W3 ∧ Stc W3 w.heap.size [.int .u16 0, .int .u16 0, .int .u32 0] ∧ Stc W3 (w.heap.size + 1) [.int .i64 0]) := ⟨⟨hrw, Fr.of_below b13⟩, s1, s2⟩
  have HN := (show Hid _ from rhead_any hrw h12)
  have HR := (show Hid _ from hrc)
  obtain ⟨n1, hn1⟩ : ∃ n1, n1 = numB (zs.take 2) := ⟨_, rfl⟩
  obtain ⟨n2, hn2⟩ : ∃ n2, n2 = numB ((zs.drop 2).take 2) := ⟨_, rfl⟩
  obtain ⟨n3, hn3⟩ : ∃ n3, n3 = numB ((zs.drop 4).take 4) := ⟨_, rfl⟩
  rw [← hn1, ← hn2, ← hn3] at HN ⊢
  clear hn1 hn2 hn3 hrc z1 z2 b1 b2 b3 s1 s2 s3 b13 hrw hs h12
  go_enter_defers Tryd.func37, Tryd.ntmps37
  go_wp2_with fail
  rw [← hW1, ← hW2, ← hW3]
  clear hW1 hW2 hW3
  refine Calls.mono HN.out ?_
  clear HN
  rintro e w4 hP
  have he := hP.out
  subst he
  have HU4 : Hid (RuS w w (w.heap.size + 1 + 1) (zs.drop 12) 3 w4 ∧ Stc w4 w.heap.size [.int .u16 0, .int .u16 0, .int .u32 0] ∧ Stc w4 (w.heap.size + 1) [.int .i64 0]) := ⟨HU.out.1.next hP, HU.out.2.1.fr hP.fr (by omega), HU.out.2.2.fr hP.fr (by omega)⟩
  obtain ⟨W5, hW5⟩ : ∃ W5, W5 = w4.alloc (.cells #[.int .u16 (n1 : Nat), .int .u16 (n2 : Nat), .int .u32 (n3 : Nat)] 36) := ⟨_, rfl⟩
  have b5 : Below w4.heap.size w4 W5 := by rw [hW5]; exact (Below.refl _ _).alloc (Nat.le_refl _) _
  have s5 := Stc.new w4 [.int .u16 (n1 : Nat), .int .u16 (n2 : Nat), .int .u32 (n3 : Nat)] 36 W5 hW5
  obtain ⟨x, hx⟩ : ∃ x, x = w4.heap.size := ⟨_, rfl⟩
  have hxw : w.heap.size + 1 < x := by rw [hx]; exact HU4.out.2.2.lt
  have hxq : w.heap.size + 1 + 1 < x := by rw [hx]; exact HU4.out.1.rd.lt
  rw [← hx] at s5
  have bd : Below W5.heap.size W5 W5.drew := (Below.refl _ _).drew
  have hu5 := (HU4.out.1.below b5).below bd
  have s5d := s5.below bd
  have hrd5 := hu5.rd
  have HRC := (show Hid _ from HR.out _ _ hrd5)
  have HU5 : Hid (RuS w w (w.heap.size + 1 + 1) (zs.drop 12) 3 W5.drew ∧ Stc W5.drew w.heap.size [.int .u16 0, .int .u16 0, .int .u32 0] ∧ Stc W5.drew (w.heap.size + 1) [.int .i64 0] ∧ Stc W5.drew x [.int .u16 (n1 : Nat), .int .u16 (n2 : Nat), .int .u32 (n3 : Nat)]) := ⟨hu5, (HU4.out.2.1.below b5).below bd, (HU4.out.2.2.below b5).below bd, s5d⟩
  have k0 := s5d.cell 0 _ rfl
  have k1 := s5d.cell 1 _ rfl
  have k2 := s5d.cell 2 _ rfl
  have HAF : Hid (∀ e w6, RdL2 w W5.drew (w.heap.size + 1 + 1) C 3 e w6 → ∃ la lc, e = .returned (.slice la n lc) ∧ Rq6 w x n C [.int .u16 (n1 : Nat), .int .u16 (n2 : Nat), .int .u32 (n3 : Nat)] (la, lc) [.int .u16 0, .int .u16 0, .int .u32 0] w6) := fun e w6 hL => by
    obtain ⟨la, lc, he, ho⟩ := hL.ex
    rw [← HNL.out] at he ho
    have h2 := HU5.out.2.2.1.lt
    have hfr : Fr (fun k => k = w.heap.size + 1 + 1 ∨ w.heap.size ≤ k) w w6 := hu5.fr.trans (hL.fr.mono (fun _ _ hk => .inl hk))
    refine ⟨la, lc, he, ho.base (by omega), hfr.below _ (Nat.le_refl _) (fun k hk => by omega), HU5.out.2.1.fr hL.fr (by omega), HU5.out.2.2.1.fr hL.fr (by omega), HU5.out.2.2.2.fr hL.fr (by omega)⟩
  have HK5 : Hid (W5.drew.cell? ⟨x, 0, none⟩ = some (.int .u16 (n1 : Nat)) ∧ W5.drew.cell? ⟨x, 1, none⟩ = some (.int .u16 (n2 : Nat)) ∧ W5.drew.cell? ⟨x, 2, none⟩ = some (.int .u32 (n3 : Nat))) := ⟨k0, k1, k2⟩
  have HXW : Hid (w.heap.size + 1 < x) := hxw
  clear k0 k1 k2
  clear HU hP b5 s5 bd hu5 s5d hrd5
  go_wp2_with fail
  rw [← hW5, ← hx]
  clear hW5 hx
  refine wp_region_parW mixedX (fun θ : Option Addr × Nat => [(13, .agg #[.int .u16 (n1 : Nat), .int .u16 (n2 : Nat), .int .u32 (n3 : Nat)]), (14, .pointer (some ⟨w.heap.size + 1 + 1, 0, none⟩)), (15, .slice θ.1 n θ.2), (3, .slice θ.1 n θ.2)]) (fun θ l V => RqG w W5.drew x n C [.int .u16 (n1 : Nat), .int .u16 (n2 : Nat), .int .u32 (n3 : Nat)] θ l V) (none, 0) ?Z1 ?hZ1 (by kernel_rfl) (by kernel_rfl) (fun θ => by kernel_rfl) (by kernel_rfl) ?h01 ?hops1 ?he1
  case hZ1 => intro θ; simp only [List.foldl_cons, List.foldl_nil, List.setIfInBounds_toArray, List.set_cons_zero, List.set_cons_succ]; rfl
  case h01 => exact RqG.start
  case hops1 =>
    refine ⟨?_, ?_, ?_, ?_, ?_, ?_, trivial⟩
    · exact par_val (fun θ => by rfl) (fun θ l V hg => hg.other 0 (by decide) (by decide) (by decide)) (fun θ l V hl hc hd hg => by
        have h3 : l 3 = false := (by cases h : l 3 with | false => rfl | true => exact absurd (hc 3 0 (by kernel_rfl) h) (by rw [hl]; decide))
        obtain ⟨j0, j1, j2⟩ : V.cell? ⟨x, 0, none⟩ = some (.int .u16 (n1 : Nat)) ∧ V.cell? ⟨x, 1, none⟩ = some (.int .u16 (n2 : Nat)) ∧ V.cell? ⟨x, 2, none⟩ = some (.int .u32 (n3 : Nat)) := by
          cases h2 : l 2 with
          | false => rw [hg.a0 h2]; exact HK5.out
          | true => have s := (hg.a1 h2 h3).sx; exact ⟨s.cell 0 _ rfl, s.cell 1 _ rfl, s.cell 2 _ rfl⟩
        go_simp; (try with_reducible rfl))
    · exact par_val (fun θ => by rfl) (fun θ l V hg => hg.other 1 (by decide) (by decide) (by decide)) (fun θ l V hl hc hd hg => by go_simp; (try with_reducible rfl))
    · exact par_call (fun θ => by rfl) rfl (vs := fun _ => [.pointer (some ⟨w.heap.size + 1 + 1, 0, none⟩)]) (fun θ => by rfl) Tryd.func56 (by rfl) (by rfl) (fun θ l V hl hc hd hg => by
        have h3 : l 3 = false := (by cases h : l 3 with | false => rfl | true => exact absurd (hc 3 2 (by kernel_rfl) h) (by rw [hl]; decide))
        have h4 : l 4 = false := (by cases h : l 4 with | false => rfl | true => exact absurd (hc 4 2 (by kernel_rfl) h) (by rw [hl]; decide))
        have h5 : l 5 = false := (by cases h : l 5 with | false => rfl | true => exact absurd (hc 5 2 (by kernel_rfl) h) (by rw [hl]; decide))
        rw [hg.a0 hl]
        refine Calls.mono HRC.out ?_
        intro e w6 hL
        obtain ⟨la, lc, rfl, hP6⟩ := HAF.out _ _ hL
        exact ⟨_, rfl, next_set (by kernel_rfl) ((la, lc) : Option Addr × Nat) [(15, .slice la n lc, 2), (3, .slice la n lc, 4)] (by simp only [List.foldl_cons, List.foldl_nil, List.setIfInBounds_toArray, List.set_cons_zero, List.set_cons_succ]) (by kernel_rfl) (fun y hy => by simp at hy; rcases hy with rfl | rfl; exact hl; exact h4) (fun d hd => by cases hd; rfl) (RqG.call h3 h5 hP6)⟩)
    · exact par_skip (fun θ => by rfl) (fun θ l V hl hc hd hg => by
        have h2 : l 2 = true := hd 2 (by kernel_rfl)
        have h5 : l 5 = false := (by cases h : l 5 with | false => rfl | true => exact absurd (hc 5 3 (by kernel_rfl) h) (by rw [hl]; decide))
        obtain ⟨hth, hst⟩ := hg.put3 h2 hl h5 rfl HXW.out
        exact ⟨_, run_storeX rfl (b := w.heap.size) (k := 0) (by rfl) (cs := [.int .u16 (n1 : Nat), .int .u16 (n2 : Nat), .int .u32 (n3 : Nat)]) (by rfl) hth (by kernel_rfl) (by intro v hv; simp at hv; rcases hv with rfl | rfl | rfl <;> rfl), ⟨θ, fun _ _ _ _ _ _ => rfl, fun d hd => (by cases hd), hst⟩⟩)
    · exact par_val (fun θ => by rfl) (fun θ l V hg => hg.other 4 (by decide) (by decide) (by decide)) (fun θ l V hl hc hd hg => by go_simp; (try with_reducible rfl))
    · exact par_skip (fun θ => by rfl) (fun θ l V hl hc hd hg => by
        have h4 : l 4 = true := hd 4 (by kernel_rfl)
        have h3 : l 3 = true := hc 4 3 (by kernel_rfl) h4
        have h2 : l 2 = true := hc 4 2 (by kernel_rfl) h4
        obtain ⟨c5, f5, l5, hst⟩ := hg.put5 h3 h2 hl HXW.out
        exact ⟨_, by go_simp; (try with_reducible rfl), ⟨θ, fun _ _ _ _ _ _ => rfl, fun d hd => (by cases hd), hst⟩⟩)
  case he1 =>
  rintro ⟨la, lc⟩ l V hall hg
  have h8 := hg.a3 (hall 5 (by decide))
  clear hall hg HRC HAF
  dsimp only at h8 ⊢
  have y0 := h8.s0.cell 0 _ rfl
  have y1 := h8.s0.cell 1 _ rfl
  have y2 := h8.s0.cell 2 _ rfl
  have y3 := h8.s1.cell 0 _ rfl
  have HE := (show Hid _ from h8)
  clear h8
  go_wp2
  refine leaves_cons (f := 54) (args := #[.pointer (some ⟨w.heap.size + 1, 0, none⟩)]) (by simp) (by simp [go_sem]) ?_
  refine (catch_idle ⟨w.heap.size + 1, 0, none⟩ _).mono ?_
  rintro e u' w'' ⟨rfl, rfl, rfl⟩
  simp [Leaves, settle, results, Tryd.results37, go_sem, y0, y1, y2, y3]
  exact ⟨la, lc, ⟨rfl, rfl⟩, HE.out.own.base (by omega), HE.out.bel⟩
set_option linter.unusedVariables false in
set_option maxRecDepth 100000 in
set_option maxHeartbeats 4000000 in
theorem readp_no {w : World} {b off m c : Nat} {zs : List Nat} (hs : Sl w (some ⟨b, off, none⟩) m c zs) (h12 : 12 ≤ zs.length) (er : Int)
    (hrc : ∀ q W, RdW w W q (zs.drop 12) 3 → Calls Tryd.prog 56 #[.pointer (some ⟨q, 0, none⟩)] W (RdF W q er)) :
    Calls Tryd.prog 37 #[.slice (some ⟨b, off, none⟩) m c] w (RnP w er) := by
  have hmf : ∀ (fn : Fn) (first cap : Array Value) (w : World), (Instr.makeFunc fn first cap).run Tryd.prog w = .ok (.func fn first cap) w := fun _ _ _ _ => rfl
  have hz := zero_head
  obtain ⟨W1, hW1⟩ : ∃ W1, W1 = w.alloc (.cells #[.int .u16 0, .int .u16 0, .int .u32 0] 36) := ⟨_, rfl⟩
  obtain ⟨W2, hW2⟩ : ∃ W2, W2 = W1.alloc (.cells #[.int .i64 0] 31) := ⟨_, rfl⟩
  obtain ⟨W3, hW3⟩ : ∃ W3, W3 = W2.alloc (.cells #[.slice (some ⟨b, off, none⟩) m c, .int .i64 3] 105) := ⟨_, rfl⟩
  have z1 : W1.heap.size = w.heap.size + 1 := by rw [hW1]; simp
  have z2 : W2.heap.size = w.heap.size + 1 + 1 := by rw [hW2]; simp [z1]
  have b1 : Below w.heap.size w W1 := by rw [hW1]; exact (Below.refl _ _).alloc (Nat.le_refl _) _
  have b2 : Below W1.heap.size W1 W2 := by rw [hW2]; exact (Below.refl _ _).alloc (Nat.le_refl _) _
  have b3 : Below W2.heap.size W2 W3 := by rw [hW3]; exact (Below.refl _ _).alloc (Nat.le_refl _) _
  have s1 := ((Stc.new w [.int .u16 0, .int .u16 0, .int .u32 0] 36 W1 hW1).below b2).below b3
  have s2 := (Stc.new W1 [.int .i64 0] 31 W2 hW2).below b3
  have s3 := Stc.new W2 [.slice (some ⟨b, off, none⟩) m c, .int .i64 3] 105 W3 hW3
  rw [z1] at s2
  rw [z2] at s3
  have b13 : Below w.heap.size w W3 := (b1.trans (b2.mono b1.size)).trans (b3.mono (Nat.le_trans b1.size b2.size))
  have hrw : RdW w W3 (w.heap.size + 1 + 1) zs 3 := ⟨⟨b, off, m, c, s3, hs⟩, b13, by omega⟩
  have HU : Hid (RuS w w (w.heap.size + 1 + 1) zs 3 W3 ∧ Stc W3 w.heap.size [.int .u16 0, .int .u16 0, .int .u32 0] ∧ Stc W3 (w.heap.size + 1) [.int .i64 0]) := ⟨⟨hrw, Fr.of_below b13⟩, s1, s2⟩
  have HN := (show Hid _ from rhead_any hrw h12)
  have HR := (show Hid _ from hrc)
  obtain ⟨n1, hn1⟩ : ∃ n1, n1 = numB (zs.take 2) := ⟨_, rfl⟩
  obtain ⟨n2, hn2⟩ : ∃ n2, n2 = numB ((zs.drop 2).take 2) := ⟨_, rfl⟩
  obtain ⟨n3, hn3⟩ : ∃ n3, n3 = numB ((zs.drop 4).take 4) := ⟨_, rfl⟩
  rw [← hn1, ← hn2, ← hn3] at HN
  clear hn1 hn2 hn3 hrc z1 z2 b1 b2 b3 s1 s2 s3 b13 hrw hs h12
  go_enter_defers Tryd.func37, Tryd.ntmps37
  go_wp2_with fail
  rw [← hW1, ← hW2, ← hW3]
  clear hW1 hW2 hW3
  refine Calls.mono HN.out ?_
  clear HN
  rintro e w4 hP
  have he := hP.out
  subst he
  have HU4 : Hid (RuS w w (w.heap.size + 1 + 1) (zs.drop 12) 3 w4 ∧ Stc w4 w.heap.size [.int .u16 0, .int .u16 0, .int .u32 0] ∧ Stc w4 (w.heap.size + 1) [.int .i64 0]) := ⟨HU.out.1.next hP, HU.out.2.1.fr hP.fr (by omega), HU.out.2.2.fr hP.fr (by omega)⟩
  obtain ⟨W5, hW5⟩ : ∃ W5, W5 = w4.alloc (.cells #[.int .u16 (n1 : Nat), .int .u16 (n2 : Nat), .int .u32 (n3 : Nat)] 36) := ⟨_, rfl⟩
  have b5 : Below w4.heap.size w4 W5 := by rw [hW5]; exact (Below.refl _ _).alloc (Nat.le_refl _) _
  have s5 := Stc.new w4 [.int .u16 (n1 : Nat), .int .u16 (n2 : Nat), .int .u32 (n3 : Nat)] 36 W5 hW5
  obtain ⟨x, hx⟩ : ∃ x, x = w4.heap.size := ⟨_, rfl⟩
  have hxw : w.heap.size + 1 < x := by rw [hx]; exact HU4.out.2.2.lt
  have hxq : w.heap.size + 1 + 1 < x := by rw [hx]; exact HU4.out.1.rd.lt
  rw [← hx] at s5
  have bd : Below W5.heap.size W5 W5.drew := (Below.refl _ _).drew
  have hu5 := (HU4.out.1.below b5).below bd
  have s5d := s5.below bd
  have hrd5 := hu5.rd
  have HRC := (show Hid _ from HR.out _ _ hrd5)
  have HU5 : Hid (RuS w w (w.heap.size + 1 + 1) (zs.drop 12) 3 W5.drew ∧ Stc W5.drew w.heap.size [.int .u16 0, .int .u16 0, .int .u32 0] ∧ Stc W5.drew (w.heap.size + 1) [.int .i64 0] ∧ Stc W5.drew x [.int .u16 (n1 : Nat), .int .u16 (n2 : Nat), .int .u32 (n3 : Nat)]) := ⟨hu5, (HU4.out.2.1.below b5).below bd, (HU4.out.2.2.below b5).below bd, s5d⟩
  have k0 := s5d.cell 0 _ rfl
  have k1 := s5d.cell 1 _ rfl
  have k2 := s5d.cell 2 _ rfl
  have HK5 : Hid (W5.drew.cell? ⟨x, 0, none⟩ = some (.int .u16 (n1 : Nat)) ∧ W5.drew.cell? ⟨x, 1, none⟩ = some (.int .u16 (n2 : Nat)) ∧ W5.drew.cell? ⟨x, 2, none⟩ = some (.int .u32 (n3 : Nat))) := ⟨k0, k1, k2⟩
  have HXW : Hid (w.heap.size + 1 < x) := hxw
  clear k0 k1 k2
  clear HU hP b5 s5 bd hu5 s5d hrd5
  go_wp2_with fail
  rw [← hW5, ← hx]
  clear hW5 hx
  refine wp_region_seqF mixedX [] (fun l V => V = W5.drew ∧ l 2 = false) (fun i ch V => i = 2 ∧ ch = flt er ∧ Fr (fun k => k = w.heap.size + 1 + 1) W5.drew V) [(13, .agg #[.int .u16 (n1 : Nat), .int .u16 (n2 : Nat), .int .u32 (n3 : Nat)]), (14, .pointer (some ⟨w.heap.size + 1 + 1, 0, none⟩)), (15, undef), (3, undef)] ?Z1 ?hZ1 (by kernel_rfl) (by kernel_rfl) (by kernel_rfl) (by kernel_rfl) ?h01 ?hops1 ?hq1 ?he1
  case hZ1 => simp only [List.foldl_cons, List.foldl_nil, List.setIfInBounds_toArray, List.set_cons_zero, List.set_cons_succ]; rfl
  case h01 => exact ⟨rfl, rfl⟩
  case hops1 =>
    refine ⟨?_, ?_, ?_, ?_, ?_, ?_, trivial⟩
    · exact seqF_val (by rfl) (fun l V hg => by exact ⟨hg.1, by simpa [updL] using hg.2⟩) (fun l V hl hc hg => by obtain ⟨rfl, _⟩ := hg; obtain ⟨k0, k1, k2⟩ := HK5.out; go_simp; (try with_reducible rfl); (try omega))
    · exact seqF_val (by rfl) (fun l V hg => by exact ⟨hg.1, by simpa [updL] using hg.2⟩) (fun l V hl hc hg => by obtain ⟨rfl, _⟩ := hg; obtain ⟨k0, k1, k2⟩ := HK5.out; go_simp; (try with_reducible rfl); (try omega))
    · exact seqF_call (vs := [.pointer (some ⟨w.heap.size + 1 + 1, 0, none⟩)]) (by rfl) rfl (by rfl) Tryd.func56 (by rfl) (by rfl) (fun l V hl hd hc hg => by
        obtain ⟨rfl, _⟩ := hg
        exact Calls.mono HRC.out (fun e V h => .inr ⟨_, h.out, rfl, rfl, h.fr⟩))
    · exact fun l V hl hd hc hg => absurd (hd 2 (by kernel_rfl)) (by have h2 : l 2 = false := hg.2; intro hj; rw [h2] at hj; cases hj)
    · exact fun l V hl hd hc hg => absurd (hd 3 (by kernel_rfl)) (by have h2 : l 2 = false := hg.2; intro hj; have := hc 3 2 (by kernel_rfl) hj; rw [h2] at this; cases this)
    · exact fun l V hl hd hc hg => absurd (hd 4 (by kernel_rfl)) (by have h2 : l 2 = false := hg.2; intro hj; have := hc 4 2 (by kernel_rfl) hj; rw [h2] at this; cases this)
  case hq1 => 
    rintro i ch ⟨At, Ad⟩ w' hdf hsz hoff ⟨rfl, rfl, hf⟩
    dsimp only at hdf hsz hoff
    subst hdf
    have t2 := hoff 2 (by kernel_rfl)
    have t3 := hoff 3 (by kernel_rfl)
    have t4 := hoff 4 (by kernel_rfl)
    have s0 := HU5.out.2.1.fr hf (by omega)
    have s1 := HU5.out.2.2.1.fr hf (by omega)
    have hb := HU5.out.1.fr.trans (hf.mono (fun _ _ hk => .inl hk))
    go_wp2
    refine leaves_cons (f := 54) (args := #[.pointer (some ⟨w.heap.size + 1, 0, none⟩)]) (by simp) (by simp [go_sem]) ?_
    refine (catch_fault ⟨w.heap.size + 1, 0, none⟩ 0 er w' (s1.cell 0 _ rfl) (s1.free 0)).mono ?_
    rintro e u' w'' ⟨rfl, rfl, rfl⟩
    simp at t2 t3 t4
    obtain ⟨V9, hV9⟩ : ∃ V9, V9 = w'.setCell ⟨w.heap.size + 1, 0, none⟩ (.int .i64 er) := ⟨_, rfl⟩
    have hf9 : Fr (fun k => k = w.heap.size + 1) w' V9 := by rw [hV9]; exact Fr.setCell _ _ _ _ rfl
    have z0 := s0.fr hf9 (by omega)
    have z1 : Stc V9 (w.heap.size + 1) [.int .i64 er] := by rw [hV9]; exact s1.set 0 _
    have hb9 : Below w.heap.size w V9 := (hb.below _ (Nat.le_refl _) (fun k hk => by omega)).trans (hf9.below _ hb.size (fun k hk => by omega))
    rw [← hV9]
    have y0 := z0.cell 0 _ rfl
    have y1 := z0.cell 1 _ rfl
    have y2 := z0.cell 2 _ rfl
    have y3 := z1.cell 0 _ rfl
    simp [Leaves, settle, results, Tryd.results37, go_sem, t2, t3, t4, y0, y1, y2, y3]
    exact ⟨rfl, hb9⟩
  case he1 =>

  rintro l V hall ⟨_, hg⟩
  rw [hall 2 (by decide)] at hg
  cases hg
end Go.Proofs.YtifdfkkjmjabnaaDoor
namespace Go.Proofs.YtifdfkkjmjabnaaDoor
open Go.RowKit
set_option linter.unusedVariables false in
set_option maxRecDepth 100000 in
set_option maxHeartbeats 4000000 in
theorem take_short {w : World} {a : Option Addr} {m c : Nat} (hm : m < 16) :
    Calls Tryd.prog 16 #[.slice a m c] w (TkE w 3) := by
  have hz := zero_head
  have hm1 : (m : Int) < 16 := by omega
  obtain ⟨w2, hW1⟩ : ∃ w2, w2 = w.alloc (.cells #[.int .u16 0, .int .u16 0, .int .u32 0] 36) := ⟨_, rfl⟩
  have b1 : Below w.heap.size w w2 := by rw [hW1]; exact (Below.refl _ _).alloc (Nat.le_refl _) _
  have s1 := Stc.new w [.int .u16 0, .int .u16 0, .int .u32 0] 36 w2 hW1
  have HS2 := (show Hid _ from And.intro s1 b1)
  clear b1 s1
  go_enter Tryd.func16, Tryd.ntmps16
  go_wp2
  try simp only [Exit.inBlock, Exit.then]
  obtain ⟨s3, hb⟩ := HS2.out
  subst hW1
  refine bodyPost_ret (results_cellE3 rfl _ _ w.heap.size 0 [.int .u16 0, .int .u16 0, .int .u32 0] _ rfl s3.range Tryd.underlying36 rfl (by kernel_rfl)) rfl ?_
  exact ⟨rfl, hb⟩
set_option linter.unusedVariables false in
set_option maxRecDepth 100000 in
set_option maxHeartbeats 4000000 in
theorem take_long {w : World} {a : Option Addr} {m c : Nat} (hm : 1480 < m) :
    Calls Tryd.prog 16 #[.slice a m c] w (TkE w 6) := by
  have hz := zero_head
  have hm1 : (1480 : Int) < (m : Int) := by omega
  have hm2 : ¬ (m : Int) < 16 := by omega
  obtain ⟨w2, hW1⟩ : ∃ w2, w2 = w.alloc (.cells #[.int .u16 0, .int .u16 0, .int .u32 0] 36) := ⟨_, rfl⟩
  have b1 : Below w.heap.size w w2 := by rw [hW1]; exact (Below.refl _ _).alloc (Nat.le_refl _) _
  have s1 := Stc.new w [.int .u16 0, .int .u16 0, .int .u32 0] 36 w2 hW1
  have HS2 := (show Hid _ from And.intro s1 b1)
  clear b1 s1
  go_enter Tryd.func16, Tryd.ntmps16
  go_wp2
  try simp only [Exit.inBlock, Exit.then]
  obtain ⟨s3, hb⟩ := HS2.out
  subst hW1
  refine bodyPost_ret (results_cellE3 rfl _ _ w.heap.size 0 [.int .u16 0, .int .u16 0, .int .u32 0] _ rfl s3.range Tryd.underlying36 rfl (by kernel_rfl)) rfl ?_
  exact ⟨rfl, hb⟩
set_option linter.unusedVariables false in
set_option maxRecDepth 100000 in
set_option maxHeartbeats 4000000 in
theorem take_bad {w : World} {b off m c : Nat} {zs : List Nat} (er : Int) (hs : Sl w (some ⟨b, off, none⟩) m c zs) (h16 : 16 ≤ m) (h1480 : m ≤ 1480) (hsum : stampedB zs = true)
    (hrp : ∀ W, Below w.heap.size w W → Calls Tryd.prog 37 #[.slice (some ⟨b, off, none⟩) m c] W (RnP W er)) :
    Calls Tryd.prog 16 #[.slice (some ⟨b, off, none⟩) m c] w (TkE w er) := by
  have hl := hs.len
  have hz := zero_head
  obtain ⟨W1, hW1⟩ : ∃ W1, W1 = w.alloc (.cells #[.int .u16 0, .int .u16 0, .int .u32 0] 36) := ⟨_, rfl⟩
  have b1 : Below w.heap.size w W1 := by rw [hW1]; exact (Below.refl _ _).alloc (Nat.le_refl _) _
  have s1 := Stc.new w [.int .u16 0, .int .u16 0, .int .u32 0] 36 W1 hW1
  have HST := (show Hid _ from stamped_any _ m c zs W1 (hs.below b1) (by omega))
  rw [hsum] at HST
  have HS1 := (show Hid _ from And.intro s1 b1)
  have HRP := (show Hid _ from hrp)
  clear b1 s1 hs hsum hl hrp
  go_enter Tryd.func16, Tryd.ntmps16
  go_wp2_with fail
  rw [← hW1]
  clear hW1 hz
  refine Calls.mono HST.out ?_
  clear HST
  rintro e w2 ⟨rfl, b2⟩
  have hb2 : Below w.heap.size w w2 := HS1.out.2.trans (b2.mono HS1.out.2.size)
  have HN := (show Hid _ from HRP.out w2 hb2)
  have HS9 : Hid (Stc w2 w.heap.size [.int .u16 0, .int .u16 0, .int .u32 0] ∧ Below w.heap.size w w2) := ⟨HS1.out.1.below b2, hb2⟩
  clear HRP HS1 b2 hb2
  go_wp2_with fail
  refine Calls.mono HN.out ?_
  clear HN
  rintro e w3 hP
  obtain ⟨rfl, b3⟩ := hP
  have s3 := HS9.out.1.below b3
  have HS2 : Hid (Stc w3 w.heap.size [.int .u16 0, .int .u16 0, .int .u32 0] ∧ Below w.heap.size w w3) := ⟨s3, HS9.out.2.trans (b3.mono HS9.out.2.size)⟩
  have g0 := s3.free 0
  have g1 := s3.free 1
  have g2 := s3.free 2
  have d0 := s3.cell 0 _ rfl
  have d1 := s3.cell 1 _ rfl
  have d2 := s3.cell 2 _ rfl
  clear HS9 b3 s3
  go_wp2
  try simp only [Exit.inBlock, Exit.then]
  obtain ⟨s3, hb⟩ := HS2.out
  have hput := s3.put [.int .u16 0, .int .u16 0, .int .u32 0] rfl
  have hff := fr_setCellsX w.heap.size [.int .u16 0, .int .u16 0, .int .u32 0] 0 w3
  refine bodyPost_ret (results_cellE3 rfl _ _ w.heap.size 0 [.int .u16 0, .int .u16 0, .int .u32 0] _ rfl hput.range Tryd.underlying36 rfl (by kernel_rfl)) rfl ?_
  exact ⟨rfl, hb.trans (hff.below _ hb.size (fun k hk => by omega))⟩
set_option linter.unusedVariables false in
set_option maxRecDepth 100000 in
set_option maxHeartbeats 4000000 in
theorem take_good {w : World} {b off m c : Nat} {zs : List Nat} (hs : Sl w (some ⟨b, off, none⟩) m c zs) (h16 : 16 ≤ m) (h1480 : m ≤ 1480) (hsum : stampedB zs = true) (n : Nat) (C : List CD)
    (hrp : ∀ W, Below w.heap.size w W → Calls Tryd.prog 37 #[.slice (some ⟨b, off, none⟩) m c] W fun e w' => ∃ la lc, e = .returned (.tuple #[.agg #[.int .u16 (numB (zs.take 2) : Nat), .int .u16 (numB ((zs.drop 2).take 2) : Nat), .int .u32 (numB ((zs.drop 4).take 4) : Nat)], .slice la n lc, .int .i64 0]) ∧ ChsO w' W.heap.size la n lc C ∧ Below W.heap.size W w') :
    Calls Tryd.prog 16 #[.slice (some ⟨b, off, none⟩) m c] w (TkC w (numB (zs.take 2)) (numB ((zs.drop 2).take 2)) (numB ((zs.drop 4).take 4)) n C) := by
  have hl := hs.len
  have hz := zero_head
  obtain ⟨W1, hW1⟩ : ∃ W1, W1 = w.alloc (.cells #[.int .u16 0, .int .u16 0, .int .u32 0] 36) := ⟨_, rfl⟩
  have b1 : Below w.heap.size w W1 := by rw [hW1]; exact (Below.refl _ _).alloc (Nat.le_refl _) _
  have s1 := Stc.new w [.int .u16 0, .int .u16 0, .int .u32 0] 36 W1 hW1
  have HST := (show Hid _ from stamped_any _ m c zs W1 (hs.below b1) (by omega))
  rw [hsum] at HST
  have HRP := (show Hid _ from hrp)
  obtain ⟨n1, hn1⟩ : ∃ n1, n1 = numB (zs.take 2) := ⟨_, rfl⟩
  obtain ⟨n2, hn2⟩ : ∃ n2, n2 = numB ((zs.drop 2).take 2) := ⟨_, rfl⟩
  obtain ⟨n3, hn3⟩ : ∃ n3, n3 = numB ((zs.drop 4).take 4) := ⟨_, rfl⟩
  rw [← hn1, ← hn2, ← hn3] at HRP ⊢
  have HS1 := (show Hid _ from And.intro s1 b1)
  clear hn1 hn2 hn3 hrp b1 s1 hs hsum hl
  go_enter Tryd.func16, Tryd.ntmps16
  go_wp2_with fail
  rw [← hW1]
  clear hW1 hz
  refine Calls.mono HST.out ?_
  clear HST
  rintro e w2 ⟨rfl, b2⟩
  have hb2 : Below w.heap.size w w2 := HS1.out.2.trans (b2.mono HS1.out.2.size)
  have HN := (show Hid _ from HRP.out w2 hb2)
  have HS2 : Hid (Stc w2 w.heap.size [.int .u16 0, .int .u16 0, .int .u32 0] ∧ Below w.heap.size w w2) := ⟨HS1.out.1.below b2, hb2⟩
  clear HRP HS1 b2 hb2
  go_wp2_with fail
  refine Calls.mono HN.out ?_
  clear HN
  rintro e w3 ⟨la, lc, rfl, ho, b3⟩
  have s3 := HS2.out.1.below b3
  have hsz : w.heap.size + 1 ≤ w2.heap.size := HS2.out.1.lt
  have HF : Hid (ChsO w3 (w.heap.size + 1) la n lc C ∧ Below w.heap.size w w3 ∧ Stc w3 w.heap.size [.int .u16 0, .int .u16 0, .int .u32 0]) := ⟨ho.base hsz, HS2.out.2.trans (b3.mono HS2.out.2.size), s3⟩
  have g0 := s3.free 0
  have g1 := s3.free 1
  have g2 := s3.free 2
  have d0 := s3.cell 0 _ rfl
  have d1 := s3.cell 1 _ rfl
  have d2 := s3.cell 2 _ rfl
  clear ho b3 s3 HS2 hsz
  go_wp2
  try simp only [Exit.inBlock, Exit.then]
  obtain ⟨ho, hb, s3⟩ := HF.out
  have hput := s3.put [.int .u16 (n1 : Nat), .int .u16 (n2 : Nat), .int .u32 (n3 : Nat)] rfl
  have hff := fr_setCellsX w.heap.size [.int .u16 (n1 : Nat), .int .u16 (n2 : Nat), .int .u32 (n3 : Nat)] 0 w3
  refine bodyPost_ret (results_cellE3 rfl _ _ w.heap.size 0 [.int .u16 (n1 : Nat), .int .u16 (n2 : Nat), .int .u32 (n3 : Nat)] _ rfl hput.range Tryd.underlying36 rfl (by kernel_rfl)) rfl ?_
  exact ⟨⟨la, lc, rfl, (ho.fr hff (fun g hg _ e => by have : g = w.heap.size := e; omega)).base (by omega)⟩, hb.trans (hff.below _ hb.size (fun k hk => by omega))⟩
/-- The chunks of a packet's bytes, or the error. -/
def takR (zs : List Nat) : Except Int (List CD) :=
  if zs.length < 16 then .error 3
  else if 1480 < zs.length then .error 6
  else if stampedB zs = true then chsR ((zs.drop 12).length + 1) 0 (zs.drop 12) else .error 5
structure TkX (w : World) (zs : List Nat) (e : Ending) (w' : World) : Prop where
  ok : ∀ C, takR zs = .ok C → TkC w (numB (zs.take 2)) (numB ((zs.drop 2).take 2)) (numB ((zs.drop 4).take 4)) C.length C e w'
  no : ∀ er, takR zs = .error er → TkE w er e w'
theorem takeX {w : World} {a : Option Addr} {m c : Nat} {zs : List Nat} (hs : Sl w a m c zs) : Calls Tryd.prog 16 #[.slice a m c] w (TkX w zs) := by
  have hl := hs.len
  have bad : ∀ er, takR zs = .error er → Calls Tryd.prog 16 #[.slice a m c] w (TkE w er) → Calls Tryd.prog 16 #[.slice a m c] w (TkX w zs) := fun er h1 h2 => Calls.mono h2 (fun e V hP => ⟨fun C e' => (by rw [h1] at e'; cases e'), fun er' e' => by rw [h1] at e'; injection e' with e'; subst e'; exact hP⟩)
  by_cases h16 : m < 16
  · exact bad 3 (by unfold takR; rw [if_pos (by omega)]) (take_short h16)
  by_cases h14 : 1480 < m
  · exact bad 6 (by unfold takR; rw [if_neg (by omega), if_pos (by omega)]) (take_long h14)
  obtain ⟨b, off, ha⟩ : ∃ b off, a = some ⟨b, off, none⟩ := by
    rcases hs.at_ with h0 | ⟨b, off, e1, _⟩
    · omega
    · exact ⟨b, off, e1⟩
  subst ha
  cases hst : stampedB zs with
  | false => exact bad 5 (by unfold takR; rw [if_neg (by omega), if_neg (by omega), hst]; rfl) (take_sum hs (by omega) (by omega) hst)
  | true =>
    have eT : takR zs = chsR ((zs.drop 12).length + 1) 0 (zs.drop 12) := by unfold takR; rw [if_neg (by omega), if_neg (by omega), hst]; rfl
    have hd : (zs.drop 12).length ≤ 2000 := by rw [List.length_drop]; omega
    cases hr : chsR ((zs.drop 12).length + 1) 0 (zs.drop 12) with
    | error er =>
      refine bad er (eT.trans hr) (take_bad er hs (by omega) (by omega) hst (fun W hW => readp_no (hs.below hW) (by omega) er (fun q V hV => ?_)))
      exact Calls.mono (rchunksX (zs.drop 12) hV hd) (fun e V' hP => hP.no er hr)
    | ok C =>
      refine Calls.mono (take_good hs (by omega) (by omega) hst C.length C (fun W hW => readp_gen (hs.below hW) (by omega) C.length C rfl (fun q V hV => ?_))) (fun e V hP => ⟨fun C' e' => ?_, fun er e' => by rw [eT, hr] at e'; cases e'⟩)
      · exact Calls.mono (rchunksX (zs.drop 12) hV hd) (fun e V' hP => hP.ok C hr)
      · rw [eT, hr] at e'
        injection e' with e'
        subst e'
        exact hP
end Go.Proofs.YtifdfkkjmjabnaaDoor
namespace Go.Proofs.YtifdfkkjmjabnaaDoor
open Go.RowKit
/-- Are all fields that stand there told by the kind's value? -/
def qOf (c : Ck) : Bool :=
  if c.k = 0 then decide (c.tg = 0 ∧ c.rm = 0 ∧ c.os = 0 ∧ c.is_ = 0 ∧ c.b2 = 0 ∧ c.d2 = 0 ∧ c.p2 = 0)
  else if c.k = 1 ∨ c.k = 2 then decide (c.st = 0 ∧ c.ss = 0 ∧ c.pp = 0 ∧ c.b2 = 0 ∧ c.d2 = 0 ∧ c.x2 = 0)
  else if c.k = 3 then decide (c.st = 0 ∧ c.ss = 0 ∧ c.pp = 0 ∧ c.tg = 0 ∧ c.os = 0 ∧ c.is_ = 0 ∧ c.p2 = 0 ∧ c.x2 = 0)
  else if c.k = 4 ∨ c.k = 5 ∨ c.k = 6 ∨ c.k = 9 then decide (c.t = 0 ∧ c.st = 0 ∧ c.ss = 0 ∧ c.pp = 0 ∧ c.tg = 0 ∧ c.rm = 0 ∧ c.os = 0 ∧ c.is_ = 0 ∧ c.b2 = 0 ∧ c.d2 = 0 ∧ c.x2 = 0)
  else if c.k = 7 then decide (c.st = 0 ∧ c.ss = 0 ∧ c.pp = 0 ∧ c.tg = 0 ∧ c.rm = 0 ∧ c.os = 0 ∧ c.is_ = 0 ∧ c.b2 = 0 ∧ c.d2 = 0 ∧ c.p2 = 0 ∧ c.x2 = 0)
  else if c.k = 8 ∨ c.k = 11 ∨ c.k = 14 then decide (c.t = 0 ∧ c.st = 0 ∧ c.ss = 0 ∧ c.pp = 0 ∧ c.tg = 0 ∧ c.rm = 0 ∧ c.os = 0 ∧ c.is_ = 0 ∧ c.b2 = 0 ∧ c.d2 = 0 ∧ c.p2 = 0 ∧ c.x2 = 0)
  else decide (c.t = 0 ∧ c.st = 0 ∧ c.ss = 0 ∧ c.pp = 0 ∧ c.tg = 0 ∧ c.rm = 0 ∧ c.os = 0 ∧ c.is_ = 0 ∧ c.b2 = 0 ∧ c.d2 = 0 ∧ c.p2 = 0)
/-- Check's number in its parts. -/
theorem chk_parts {w : World} {x : ChQ} (h : x.Wf w) : ∃ m : Bool, chkOf x.ck = chkN (qOf x.ck) (decide (x.k = 0 ∧ x.xN = 0)) m (spcN x.cd) ∧ (m = true → 16 < x.pN ∨ 16 < x.bN ∨ 16 < x.dN) ∧
    (qOf x.ck = true → (16 < x.pN ∨ 16 < x.bN ∨ 16 < x.dN ∨ 1480 < x.xN → m = true ∨ 1468 < spcN x.cd) ∧ ((∃ p ∈ x.pD.map PqD.pm, 1480 < p.zs.length) → m = true ∨ 1468 < spcN x.cd)) := by
  unfold ChQ.Wf at h
  obtain ⟨g1, g2, g3, g4, g5, g6, g7, g8, g9, g10, g11, g12, g13, g14, _⟩ := h
  have gP := g13.pmR
  have lx := g14.len
  have lp := gP.len
  have lb := g11.len
  have ld := SlK.len g12
  have hps := fun p (hp : p ∈ x.pD.map PqD.pm) => pm_psz hp
  have hpl := pmsV_len (x.pD.map PqD.pm)
  have hnp : (∃ p ∈ x.pD.map PqD.pm, 1480 < p.zs.length) → 1480 < psz ((x.pD.map PqD.pm).map (fun p => p.zs.length)) := by
    rintro ⟨p, hp, hl⟩
    have := hps p hp
    omega
  have hn0 : x.pN = 0 → ¬ ∃ p ∈ x.pD.map PqD.pm, 1480 < p.zs.length := by
    rintro e ⟨p, hp, _⟩
    rw [List.eq_nil_of_length_eq_zero (lp.trans e)] at hp
    cases hp
  clear hps
  by_cases h0 : x.k = 0
  · have eL : (valB x.cd).length = 12 + x.xN := by unfold valB; rw [if_pos (show x.cd.kind = 0 from h0)]; simp [bytesB_len]; rw [show x.cd.xs.length = x.xN from lx]; omega
    have eS : spcN x.cd = 4 + (12 + x.xN) + padN (12 + x.xN) := by unfold spcN; rw [eL]
    have eq : qOf x.ck = decide (x.tg = 0 ∧ x.rm = 0 ∧ x.os = 0 ∧ x.is = 0 ∧ x.bN = 0 ∧ x.dN = 0 ∧ x.pN = 0) := by unfold qOf; rw [if_pos (show x.ck.k = 0 from h0)]; rfl
    have el : decide (x.k = 0 ∧ x.xN = 0) = decide (x.xN = 0) := by simp [h0]
    refine ⟨false, ?_, ?_, ?_⟩
    · rw [el, eS, eq]; unfold chkOf; rw [if_pos (show x.ck.k = 0 from h0)]; rfl
    · intro hm; cases hm
    · intro hq
      rw [eq] at hq
      have hq := of_decide_eq_true hq
      rw [eS]
      replace hq : x.tg = 0 ∧ x.rm = 0 ∧ x.os = 0 ∧ x.is = 0 ∧ x.bN = 0 ∧ x.dN = 0 ∧ x.pN = 0 := hq
      refine ⟨fun hb => ?_, fun hp => ?_⟩
      · omega
      · exact absurd hp (hn0 (by omega))
  by_cases h1 : x.k = 1 ∨ x.k = 2
  · have eL : (valB x.cd).length = 16 + psz ((x.pD.map PqD.pm).map (fun p => p.zs.length)) := by unfold valB; rw [if_neg (show ¬ (x.cd.kind = 0) from h0), if_pos (show x.cd.kind = 1 ∨ x.cd.kind = 2 from h1)]; simp only [List.length_append, bytesB_len]; rw [show (pmsV x.cd.ps).length = _ from hpl]; omega
    have eS : spcN x.cd = 4 + (16 + psz ((x.pD.map PqD.pm).map (fun p => p.zs.length))) + padN (16 + psz ((x.pD.map PqD.pm).map (fun p => p.zs.length))) := by unfold spcN; rw [eL]
    have eq : qOf x.ck = decide (x.st = 0 ∧ x.ss = 0 ∧ x.pp = 0 ∧ x.bN = 0 ∧ x.dN = 0 ∧ x.xN = 0) := by unfold qOf; rw [if_neg (show ¬ (x.ck.k = 0) from h0), if_pos (show x.ck.k = 1 ∨ x.ck.k = 2 from h1)]; rfl
    have el : decide (x.k = 0 ∧ x.xN = 0) = false := by exact decide_eq_false (by omega)
    refine ⟨decide (16 < x.pN), ?_, ?_, ?_⟩
    · rw [el, eS, eq]; unfold chkOf; rw [if_neg (show ¬ (x.ck.k = 0) from h0), if_pos (show x.ck.k = 1 ∨ x.ck.k = 2 from h1)]; rfl
    · intro hm; have := of_decide_eq_true hm; omega
    · intro hq
      rw [eq] at hq
      have hq := of_decide_eq_true hq
      rw [eS]
      replace hq : x.st = 0 ∧ x.ss = 0 ∧ x.pp = 0 ∧ x.bN = 0 ∧ x.dN = 0 ∧ x.xN = 0 := hq
      refine ⟨fun hb => ?_, fun hp => ?_⟩
      · rw [decide_eq_true_iff]; omega
      · have := hnp hp
        exact .inr (by omega)
  by_cases h3 : x.k = 3
  · have eL : (valB x.cd).length = 12 + 4 * x.bN + 4 * x.dN := by unfold valB; rw [if_neg (show ¬ (x.cd.kind = 0) from h0), if_neg (show ¬ (x.cd.kind = 1 ∨ x.cd.kind = 2) from h1), if_pos (show x.cd.kind = 3 from h3)]; unfold sackB; simp only [List.length_append, bytesB_len, bksB_len, dusB_len]; rw [show x.cd.bs.length = x.bN from lb, show x.cd.ds.length = x.dN from ld]; omega
    have eS : spcN x.cd = 4 + (12 + 4 * x.bN + 4 * x.dN) + padN (12 + 4 * x.bN + 4 * x.dN) := by unfold spcN; rw [eL]
    have eq : qOf x.ck = decide (x.st = 0 ∧ x.ss = 0 ∧ x.pp = 0 ∧ x.tg = 0 ∧ x.os = 0 ∧ x.is = 0 ∧ x.pN = 0 ∧ x.xN = 0) := by unfold qOf; rw [if_neg (show ¬ (x.ck.k = 0) from h0), if_neg (show ¬ (x.ck.k = 1 ∨ x.ck.k = 2) from h1), if_pos (show x.ck.k = 3 from h3)]; rfl
    have el : decide (x.k = 0 ∧ x.xN = 0) = false := by exact decide_eq_false (by omega)
    refine ⟨decide (16 < x.bN ∨ 16 < x.dN), ?_, ?_, ?_⟩
    · rw [el, eS, eq]; unfold chkOf; rw [if_neg (show ¬ (x.ck.k = 0) from h0), if_neg (show ¬ (x.ck.k = 1 ∨ x.ck.k = 2) from h1), if_pos (show x.ck.k = 3 from h3)]; rfl
    · intro hm; have := of_decide_eq_true hm; omega
    · intro hq
      rw [eq] at hq
      have hq := of_decide_eq_true hq
      rw [eS]
      replace hq : x.st = 0 ∧ x.ss = 0 ∧ x.pp = 0 ∧ x.tg = 0 ∧ x.os = 0 ∧ x.is = 0 ∧ x.pN = 0 ∧ x.xN = 0 := hq
      refine ⟨fun hb => ?_, fun hp => ?_⟩
      · rw [decide_eq_true_iff]; omega
      · exact absurd hp (hn0 (by omega))
  by_cases h4 : x.k = 4 ∨ x.k = 5 ∨ x.k = 6 ∨ x.k = 9
  · have eL : (valB x.cd).length = psz ((x.pD.map PqD.pm).map (fun p => p.zs.length)) := by unfold valB; rw [if_neg (show ¬ (x.cd.kind = 0) from h0), if_neg (show ¬ (x.cd.kind = 1 ∨ x.cd.kind = 2) from h1), if_neg (show ¬ (x.cd.kind = 3) from h3), if_pos (show x.cd.kind = 4 ∨ x.cd.kind = 5 ∨ x.cd.kind = 6 ∨ x.cd.kind = 9 from h4)]; exact hpl
    have eS : spcN x.cd = 4 + (psz ((x.pD.map PqD.pm).map (fun p => p.zs.length))) + padN (psz ((x.pD.map PqD.pm).map (fun p => p.zs.length))) := by unfold spcN; rw [eL]
    have eq : qOf x.ck = decide (x.t = 0 ∧ x.st = 0 ∧ x.ss = 0 ∧ x.pp = 0 ∧ x.tg = 0 ∧ x.rm = 0 ∧ x.os = 0 ∧ x.is = 0 ∧ x.bN = 0 ∧ x.dN = 0 ∧ x.xN = 0) := by unfold qOf; rw [if_neg (show ¬ (x.ck.k = 0) from h0), if_neg (show ¬ (x.ck.k = 1 ∨ x.ck.k = 2) from h1), if_neg (show ¬ (x.ck.k = 3) from h3), if_pos (show x.ck.k = 4 ∨ x.ck.k = 5 ∨ x.ck.k = 6 ∨ x.ck.k = 9 from h4)]; rfl
    have el : decide (x.k = 0 ∧ x.xN = 0) = false := by exact decide_eq_false (by omega)
    refine ⟨decide (16 < x.pN), ?_, ?_, ?_⟩
    · rw [el, eS, eq]; unfold chkOf; rw [if_neg (show ¬ (x.ck.k = 0) from h0), if_neg (show ¬ (x.ck.k = 1 ∨ x.ck.k = 2) from h1), if_neg (show ¬ (x.ck.k = 3) from h3), if_pos (show x.ck.k = 4 ∨ x.ck.k = 5 ∨ x.ck.k = 6 ∨ x.ck.k = 9 from h4)]; rfl
    · intro hm; have := of_decide_eq_true hm; omega
    · intro hq
      rw [eq] at hq
      have hq := of_decide_eq_true hq
      rw [eS]
      replace hq : x.t = 0 ∧ x.st = 0 ∧ x.ss = 0 ∧ x.pp = 0 ∧ x.tg = 0 ∧ x.rm = 0 ∧ x.os = 0 ∧ x.is = 0 ∧ x.bN = 0 ∧ x.dN = 0 ∧ x.xN = 0 := hq
      refine ⟨fun hb => ?_, fun hp => ?_⟩
      · rw [decide_eq_true_iff]; omega
      · have := hnp hp
        exact .inr (by omega)
  by_cases h7 : x.k = 7
  · have eL : (valB x.cd).length = 4 := by unfold valB; rw [if_neg (show ¬ (x.cd.kind = 0) from h0), if_neg (show ¬ (x.cd.kind = 1 ∨ x.cd.kind = 2) from h1), if_neg (show ¬ (x.cd.kind = 3) from h3), if_neg (show ¬ (x.cd.kind = 4 ∨ x.cd.kind = 5 ∨ x.cd.kind = 6 ∨ x.cd.kind = 9) from h4), if_pos (show x.cd.kind = 7 from h7)]; exact bytesB_len _ _
    have eS : spcN x.cd = 4 + (4) + padN (4) := by unfold spcN; rw [eL]
    have eq : qOf x.ck = decide (x.st = 0 ∧ x.ss = 0 ∧ x.pp = 0 ∧ x.tg = 0 ∧ x.rm = 0 ∧ x.os = 0 ∧ x.is = 0 ∧ x.bN = 0 ∧ x.dN = 0 ∧ x.pN = 0 ∧ x.xN = 0) := by unfold qOf; rw [if_neg (show ¬ (x.ck.k = 0) from h0), if_neg (show ¬ (x.ck.k = 1 ∨ x.ck.k = 2) from h1), if_neg (show ¬ (x.ck.k = 3) from h3), if_neg (show ¬ (x.ck.k = 4 ∨ x.ck.k = 5 ∨ x.ck.k = 6 ∨ x.ck.k = 9) from h4), if_pos (show x.ck.k = 7 from h7)]; rfl
    have el : decide (x.k = 0 ∧ x.xN = 0) = false := by exact decide_eq_false (by omega)
    refine ⟨false, ?_, ?_, ?_⟩
    · rw [el, eS, eq]; unfold chkOf; rw [if_neg (show ¬ (x.ck.k = 0) from h0), if_neg (show ¬ (x.ck.k = 1 ∨ x.ck.k = 2) from h1), if_neg (show ¬ (x.ck.k = 3) from h3), if_neg (show ¬ (x.ck.k = 4 ∨ x.ck.k = 5 ∨ x.ck.k = 6 ∨ x.ck.k = 9) from h4), if_pos (show x.ck.k = 7 from h7)]; rfl
    · intro hm; cases hm
    · intro hq
      rw [eq] at hq
      have hq := of_decide_eq_true hq
      rw [eS]
      replace hq : x.st = 0 ∧ x.ss = 0 ∧ x.pp = 0 ∧ x.tg = 0 ∧ x.rm = 0 ∧ x.os = 0 ∧ x.is = 0 ∧ x.bN = 0 ∧ x.dN = 0 ∧ x.pN = 0 ∧ x.xN = 0 := hq
      refine ⟨fun hb => ?_, fun hp => ?_⟩
      · omega
      · exact absurd hp (hn0 (by omega))
  by_cases h8 : x.k = 8 ∨ x.k = 11 ∨ x.k = 14
  · have eL : (valB x.cd).length = 0 := by unfold valB; rw [if_neg (show ¬ (x.cd.kind = 0) from h0), if_neg (show ¬ (x.cd.kind = 1 ∨ x.cd.kind = 2) from h1), if_neg (show ¬ (x.cd.kind = 3) from h3), if_neg (show ¬ (x.cd.kind = 4 ∨ x.cd.kind = 5 ∨ x.cd.kind = 6 ∨ x.cd.kind = 9) from h4), if_neg (show ¬ (x.cd.kind = 7) from h7), if_pos (show x.cd.kind = 8 ∨ x.cd.kind = 11 ∨ x.cd.kind = 14 from h8)]; rfl
    have eS : spcN x.cd = 4 + (0) + padN (0) := by unfold spcN; rw [eL]
    have eq : qOf x.ck = decide (x.t = 0 ∧ x.st = 0 ∧ x.ss = 0 ∧ x.pp = 0 ∧ x.tg = 0 ∧ x.rm = 0 ∧ x.os = 0 ∧ x.is = 0 ∧ x.bN = 0 ∧ x.dN = 0 ∧ x.pN = 0 ∧ x.xN = 0) := by unfold qOf; rw [if_neg (show ¬ (x.ck.k = 0) from h0), if_neg (show ¬ (x.ck.k = 1 ∨ x.ck.k = 2) from h1), if_neg (show ¬ (x.ck.k = 3) from h3), if_neg (show ¬ (x.ck.k = 4 ∨ x.ck.k = 5 ∨ x.ck.k = 6 ∨ x.ck.k = 9) from h4), if_neg (show ¬ (x.ck.k = 7) from h7), if_pos (show x.ck.k = 8 ∨ x.ck.k = 11 ∨ x.ck.k = 14 from h8)]; rfl
    have el : decide (x.k = 0 ∧ x.xN = 0) = false := by exact decide_eq_false (by omega)
    refine ⟨false, ?_, ?_, ?_⟩
    · rw [el, eS, eq]; unfold chkOf; rw [if_neg (show ¬ (x.ck.k = 0) from h0), if_neg (show ¬ (x.ck.k = 1 ∨ x.ck.k = 2) from h1), if_neg (show ¬ (x.ck.k = 3) from h3), if_neg (show ¬ (x.ck.k = 4 ∨ x.ck.k = 5 ∨ x.ck.k = 6 ∨ x.ck.k = 9) from h4), if_neg (show ¬ (x.ck.k = 7) from h7), if_pos (show x.ck.k = 8 ∨ x.ck.k = 11 ∨ x.ck.k = 14 from h8)]; rfl
    · intro hm; cases hm
    · intro hq
      rw [eq] at hq
      have hq := of_decide_eq_true hq
      rw [eS]
      replace hq : x.t = 0 ∧ x.st = 0 ∧ x.ss = 0 ∧ x.pp = 0 ∧ x.tg = 0 ∧ x.rm = 0 ∧ x.os = 0 ∧ x.is = 0 ∧ x.bN = 0 ∧ x.dN = 0 ∧ x.pN = 0 ∧ x.xN = 0 := hq
      refine ⟨fun hb => ?_, fun hp => ?_⟩
      · omega
      · exact absurd hp (hn0 (by omega))
  have eL : (valB x.cd).length = x.xN := by unfold valB; rw [if_neg (show ¬ (x.cd.kind = 0) from h0), if_neg (show ¬ (x.cd.kind = 1 ∨ x.cd.kind = 2) from h1), if_neg (show ¬ (x.cd.kind = 3) from h3), if_neg (show ¬ (x.cd.kind = 4 ∨ x.cd.kind = 5 ∨ x.cd.kind = 6 ∨ x.cd.kind = 9) from h4), if_neg (show ¬ (x.cd.kind = 7) from h7), if_neg (show ¬ (x.cd.kind = 8 ∨ x.cd.kind = 11 ∨ x.cd.kind = 14) from h8)]; exact lx
  have eS : spcN x.cd = 4 + (x.xN) + padN (x.xN) := by unfold spcN; rw [eL]
  have eq : qOf x.ck = decide (x.t = 0 ∧ x.st = 0 ∧ x.ss = 0 ∧ x.pp = 0 ∧ x.tg = 0 ∧ x.rm = 0 ∧ x.os = 0 ∧ x.is = 0 ∧ x.bN = 0 ∧ x.dN = 0 ∧ x.pN = 0) := by unfold qOf; rw [if_neg (show ¬ (x.ck.k = 0) from h0), if_neg (show ¬ (x.ck.k = 1 ∨ x.ck.k = 2) from h1), if_neg (show ¬ (x.ck.k = 3) from h3), if_neg (show ¬ (x.ck.k = 4 ∨ x.ck.k = 5 ∨ x.ck.k = 6 ∨ x.ck.k = 9) from h4), if_neg (show ¬ (x.ck.k = 7) from h7), if_neg (show ¬ (x.ck.k = 8 ∨ x.ck.k = 11 ∨ x.ck.k = 14) from h8)]; rfl
  have el : decide (x.k = 0 ∧ x.xN = 0) = false := by exact decide_eq_false (by omega)
  refine ⟨false, ?_, ?_, ?_⟩
  · rw [el, eS, eq]; unfold chkOf; rw [if_neg (show ¬ (x.ck.k = 0) from h0), if_neg (show ¬ (x.ck.k = 1 ∨ x.ck.k = 2) from h1), if_neg (show ¬ (x.ck.k = 3) from h3), if_neg (show ¬ (x.ck.k = 4 ∨ x.ck.k = 5 ∨ x.ck.k = 6 ∨ x.ck.k = 9) from h4), if_neg (show ¬ (x.ck.k = 7) from h7), if_neg (show ¬ (x.ck.k = 8 ∨ x.ck.k = 11 ∨ x.ck.k = 14) from h8)]; rfl
  · intro hm; cases hm
  · intro hq
    rw [eq] at hq
    have hq := of_decide_eq_true hq
    rw [eS]
    replace hq : x.t = 0 ∧ x.st = 0 ∧ x.ss = 0 ∧ x.pp = 0 ∧ x.tg = 0 ∧ x.rm = 0 ∧ x.os = 0 ∧ x.is = 0 ∧ x.bN = 0 ∧ x.dN = 0 ∧ x.pN = 0 := hq
    refine ⟨fun hb => ?_, fun hp => ?_⟩
    · omega
    · exact absurd hp (hn0 (by omega))
end Go.Proofs.YtifdfkkjmjabnaaDoor
namespace Go.Proofs.YtifdfkkjmjabnaaDoor
open Go.RowKit
theorem parP_err : ∀ (f k : Nat) (zs : List Nat) (er : Int), parP f k zs = .error er → er = 4 ∨ er = 6
  | 0, k, zs, er, h => (by cases h)
  | f + 1, k, zs, er, h => by
    unfold parP at h
    split at h
    · cases h
    · split at h
      · injection h with h; exact .inl h.symm
      · split at h
        · injection h with h; exact .inr h.symm
        · cases hr : parP f (k + 1) (nextP zs) with
          | error e =>
            rw [hr] at h
            injection h with h
            subst h
            exact parP_err f (k + 1) (nextP zs) e hr
          | ok l => rw [hr] at h; cases h
theorem parP_ok : ∀ (f k : Nat) (zs : List Nat) (ps : List Pm), zs.length < f → zs.length ≤ 2000 → (∀ i, zs.getD i 0 < 256) → parP f k zs = .ok ps → (pmsV ps).length ≤ zs.length ∧ (∀ p ∈ ps, p.k < 65536 ∧ p.zs.length ≤ 2000) ∧ (ps ≠ [] → zs ≠ [])
  | 0, k, zs, ps, hf, _, _, _ => (by omega)
  | f + 1, k, zs, ps, hf, hz, hb, h => by
    unfold parP at h
    split at h
    · injection h with h
      subst h
      exact ⟨by simp [pmsV], fun p hp => (by cases hp), fun e => absurd rfl e⟩
    · rename_i hne
      split at h
      · cases h
      · rename_i hbad
        split at h
        · cases h
        · cases hr : parP f (k + 1) (nextP zs) with
          | error e => rw [hr] at h; cases h
          | ok l =>
            rw [hr] at h
            injection h with h
            subst h
            have hl := nextP_len zs hbad
            have hbn : ∀ i, (nextP zs).getD i 0 < 256 := drop_bnd (drop_bnd (drop_bnd hb 4) _) _
            obtain ⟨h1, h2, h3⟩ := parP_ok f (k + 1) (nextP zs) l (by omega) (by omega) hbn hr
            have hbad' := hbad
            unfold badP at hbad'
            refine ⟨?_, fun p hp => ?_, fun _ => hne⟩
            · show (pmsV (pmOf zs :: l)).length ≤ _
              rw [pmsV_cons]
              have hml : (pmOf zs).zs.length = numB ((zs.drop 2).take 2) - 4 := by
                unfold pmOf
                dsimp only
                rw [List.length_take, List.length_drop]
                omega
              split
              · unfold pmV
                simp only [List.length_append, bytesB_len]
                omega
              · rename_i hln
                have hnn := h3 hln
                rw [List.length_append, pmB_len, hml]
                have hnx : (nextP zs).length + (4 + (numB ((zs.drop 2).take 2) - 4)) + padN (numB ((zs.drop 2).take 2) - 4) ≤ zs.length := by
                  have hpos : (nextP zs).length ≠ 0 := fun e => hnn (List.eq_nil_of_length_eq_zero e)
                  unfold nextP at hpos ⊢
                  simp only [List.length_drop] at hpos ⊢
                  omega
                omega
            · rcases List.mem_append.1 hp with hp | hp
              · simp at hp
                subst hp
                refine ⟨?_, ?_⟩
                · exact numB_take hb 2 (by omega)
                · unfold pmOf
                  dsimp only
                  rw [List.length_take, List.length_drop]
                  omega
              · exact h2 p hp
theorem valR_err (kind flags : Nat) (vz : List Nat) (er : Int) (h : valR kind flags vz = .error er) : er = 4 ∨ er = 6 := by
  unfold valR at h
  repeat' split at h
  all_goals first
    | (injection h with h; subst h; exact parP_err _ _ _ _ (by assumption))
    | (injection h with h; subst h; first | exact .inl rfl | exact .inr rfl)
    | cases h
/-- A chunk that was read: as Put lays it, it has no more bytes than were read. -/
structure RdOk (kind flags : Nat) (vz : List Nat) (c : CD) : Prop where
  cd : CdB c (valB c)
  kd : c.kind = kind
  fl : c.flags = flags
  le : (valB c).length ≤ vz.length
set_option maxHeartbeats 2000000 in
theorem valR_ok {kind flags : Nat} {vz : List Nat} {c : CD} (hz : vz.length ≤ 2000) (hb : ∀ i, vz.getD i 0 < 256) (h : valR kind flags vz = .ok c) : RdOk kind flags vz c := by
  unfold valR at h
  by_cases h0 : kind = 0
  · rw [if_pos h0] at h
    split at h
    · cases h
    · rename_i hl
      injection h with h
      subst h
      subst h0
      have e : valB ⟨0, flags, numB (vz.take 4), numB ((vz.drop 4).take 2), numB ((vz.drop 6).take 2), numB ((vz.drop 8).take 4), 0, 0, 0, 0, [], [], [], vz.drop 12⟩ = bytesB (numB (vz.take 4)) 4 ++ (bytesB (numB ((vz.drop 4).take 2)) 2 ++ (bytesB (numB ((vz.drop 6).take 2)) 2 ++ (bytesB (numB ((vz.drop 8).take 4)) 4 ++ vz.drop 12))) := rfl
      refine ⟨?_, rfl, rfl, ?_⟩
      · rw [e]
        exact CdB.data flags _ _ _ _ _ (numB_take hb 4 (by omega)) (numB_take (drop_bnd hb 4) 2 (by rw [List.length_drop]; omega)) (numB_take (drop_bnd hb 6) 2 (by rw [List.length_drop]; omega)) (numB_take (drop_bnd hb 8) 4 (by rw [List.length_drop]; omega)) (by rw [List.length_drop]; omega) (by rw [List.length_drop]; omega)
      · rw [e]
        simp only [List.length_append, bytesB_len, List.length_drop]
        omega
  rw [if_neg h0] at h
  by_cases h1 : kind = 1 ∨ kind = 2
  · rw [if_pos h1] at h
    split at h
    · cases h
    · rename_i hl
      cases hp : parP ((vz.drop 16).length + 1) 0 (vz.drop 16) with
      | error e => rw [hp] at h; cases h
      | ok ps =>
        rw [hp] at h
        injection h with h
        subst h
        have hd : (vz.drop 16).length = vz.length - 16 := List.length_drop
        obtain ⟨p1, p2, _⟩ := parP_ok _ _ _ _ (by omega) (by omega) (drop_bnd hb 16) hp
        have p3 := parP_len _ _ _ _ (by omega) hp
        have e : valB ⟨kind, flags, numB ((vz.drop 12).take 4), 0, 0, 0, numB (vz.take 4), numB ((vz.drop 4).take 4), numB ((vz.drop 8).take 2), numB ((vz.drop 10).take 2), [], [], ps, []⟩ = bytesB (numB (vz.take 4)) 4 ++ (bytesB (numB ((vz.drop 4).take 4)) 4 ++ (bytesB (numB ((vz.drop 8).take 2)) 2 ++ (bytesB (numB ((vz.drop 10).take 2)) 2 ++ (bytesB (numB ((vz.drop 12).take 4)) 4 ++ pmsV ps)))) := by
          unfold valB
          rw [if_neg h0, if_pos h1]
        refine ⟨?_, rfl, rfl, ?_⟩
        · rw [e]
          exact CdB.init kind flags _ _ _ _ _ ps h1 (numB_take (drop_bnd hb 12) 4 (by rw [List.length_drop]; omega)) (numB_take hb 4 (by omega)) (numB_take (drop_bnd hb 4) 4 (by rw [List.length_drop]; omega)) (numB_take (drop_bnd hb 8) 2 (by rw [List.length_drop]; omega)) (numB_take (drop_bnd hb 10) 2 (by rw [List.length_drop]; omega)) (by omega) p2
        · rw [e]
          simp only [List.length_append, bytesB_len]
          omega
  rw [if_neg h1] at h
  by_cases h3 : kind = 3
  · rw [if_pos h3] at h
    split at h
    · cases h
    · rename_i hl
      split at h
      · cases h
      · rename_i hl2
        split at h
        · cases h
        · rename_i hl3
          injection h with h
          subst h
          subst h3
          have l12 := drop_bnd hb 12
          have d12 : (vz.drop 12).length = vz.length - 12 := List.length_drop
          have e : valB ⟨3, flags, numB (vz.take 4), 0, 0, 0, 0, numB ((vz.drop 4).take 4), 0, 0, bsOf (vz.drop 12) (numB ((vz.drop 8).take 2)), dsOf ((vz.drop 12).drop (4 * numB ((vz.drop 8).take 2))) (numB ((vz.drop 10).take 2)), [], []⟩ = sackB (numB (vz.take 4)) (numB ((vz.drop 4).take 4)) (bsOf (vz.drop 12) (numB ((vz.drop 8).take 2))) (dsOf ((vz.drop 12).drop (4 * numB ((vz.drop 8).take 2))) (numB ((vz.drop 10).take 2))) := rfl
          have b1 := bsOf_bnd l12 (numB ((vz.drop 8).take 2)) (by omega)
          have b2 := dsOf_bnd (drop_bnd l12 (4 * numB ((vz.drop 8).take 2))) (numB ((vz.drop 10).take 2)) (by rw [List.length_drop]; omega)
          refine ⟨?_, rfl, rfl, ?_⟩
          · rw [e]
            exact CdB.sack flags _ _ _ _ (numB_take hb 4 (by omega)) (numB_take (drop_bnd hb 4) 4 (by rw [List.length_drop]; omega)) (by rw [bsOf_len]; omega) (by rw [dsOf_len]; omega) b1 b2
          · rw [e]
            unfold sackB
            simp only [List.length_append, bytesB_len, bksB_len, dusB_len, bsOf_len, dsOf_len]
            omega
  rw [if_neg h3] at h
  by_cases h4 : kind = 4 ∨ kind = 5 ∨ kind = 6 ∨ kind = 9
  · rw [if_pos h4] at h
    cases hp : parP (vz.length + 1) 0 vz with
    | error e => rw [hp] at h; cases h
    | ok ps =>
      rw [hp] at h
      injection h with h
      subst h
      obtain ⟨p1, p2, _⟩ := parP_ok _ _ _ _ (by omega) hz hb hp
      have p3 := parP_len _ _ _ _ (by omega) hp
      have e : valB ⟨kind, flags, 0, 0, 0, 0, 0, 0, 0, 0, [], [], ps, []⟩ = pmsV ps := by
        unfold valB
        rw [if_neg h0, if_neg h1, if_neg h3, if_pos h4]
      exact ⟨by rw [e]; exact CdB.prms kind flags ps h4 (by omega) p2, rfl, rfl, by rw [e]; exact p1⟩
  rw [if_neg h4] at h
  by_cases h7 : kind = 7
  · rw [if_pos h7] at h
    split at h
    · cases h
    · rename_i hl
      injection h with h
      subst h
      subst h7
      have e : valB ⟨7, flags, numB (vz.take 4), 0, 0, 0, 0, 0, 0, 0, [], [], [], []⟩ = bytesB (numB (vz.take 4)) 4 := rfl
      exact ⟨by rw [e]; exact CdB.tsnv flags _ (numB_take hb 4 (by omega)), rfl, rfl, by rw [e, bytesB_len]; omega⟩
  rw [if_neg h7] at h
  by_cases h8 : kind = 8 ∨ kind = 11 ∨ kind = 14
  · rw [if_pos h8] at h
    split at h
    · cases h
    · injection h with h
      subst h
      have e : valB ⟨kind, flags, 0, 0, 0, 0, 0, 0, 0, 0, [], [], [], []⟩ = [] := by
        unfold valB
        rw [if_neg h0, if_neg h1, if_neg h3, if_neg h4, if_neg h7, if_pos h8]
      exact ⟨by rw [e]; exact CdB.none kind flags h8, rfl, rfl, by rw [e]; simp⟩
  · rw [if_neg h8] at h
    injection h with h
    subst h
    have e : valB ⟨kind, flags, 0, 0, 0, 0, 0, 0, 0, 0, [], [], [], vz⟩ = vz := by
      unfold valB
      rw [if_neg h0, if_neg h1, if_neg h3, if_neg h4, if_neg h7, if_neg h8]
    exact ⟨by rw [e]; exact CdB.raw kind flags vz (by omega) (by omega), rfl, rfl, by rw [e]; omega⟩
theorem headO_err {zs : List Nat} {i : Nat} {er : Int} (h : headO zs i = some er) : er = 3 ∨ er = 4 ∨ er = 6 := by
  unfold headO at h
  repeat' split at h
  all_goals first | (injection h with h; subst h; first | exact .inl rfl | exact .inr (.inl rfl) | exact .inr (.inr rfl)) | cases h
theorem chuR_err {zs : List Nat} {i : Nat} {er : Int} (h : chuR zs i = .error er) : er = 3 ∨ er = 4 ∨ er = 6 := by
  unfold chuR at h
  cases hh : headO zs i with
  | some e =>
    rw [hh] at h
    injection h with h
    subst h
    exact headO_err hh
  | none =>
    rw [hh] at h
    rcases valR_err _ _ _ _ h with e | e
    · exact .inr (.inl e)
    · exact .inr (.inr e)
/-- How many bytes the chunks have as Put lays them. -/
def spcS (C : List CD) : Nat := (C.map spcN).sum
/-- A chunk of a packet that was read. -/
structure PkC (c : CD) : Prop where
  cd : CdB c (valB c)
  kd : c.kind < 256
  fl : c.flags < 256
theorem chuR_good {zs : List Nat} {i : Nat} {c : CD} (hz : zs.length ≤ 2000) (hb : ∀ i, zs.getD i 0 < 256) (h : chuR zs i = .ok c) : PkC c ∧ spcN c + (restC zs).length ≤ zs.length := by
  obtain ⟨hh, _, hr⟩ := chuR_ok h
  have h2 := h
  unfold chuR at h2
  rw [hh] at h2
  have hvb : ∀ i, (valC zs).getD i 0 < 256 := take_bnd (drop_bnd hb 4) _
  have hvl : (valC zs).length ≤ 2000 := by unfold valC; rw [List.length_take, List.length_drop]; omega
  have r := valR_ok hvl hvb h2
  have h4 : 4 ≤ zs.length := by omega
  refine ⟨⟨r.cd, by rw [r.kd]; exact numB_take hb 1 (by omega), by rw [r.fl]; exact numB_take (drop_bnd hb 1) 1 (by rw [List.length_drop]; omega)⟩, ?_⟩
  have hle := r.le
  unfold headO at hh
  split at hh
  · cases hh
  · split at hh
    · cases hh
    · split at hh
      · cases hh
      · rename_i hl
        unfold valC at hle
        unfold restC spcN
        simp only [List.length_take, List.length_drop] at hle ⊢
        have hp1 : padN (valB c).length = (4 - (valB c).length % 4) % 4 := rfl
        have hp2 : padN (lenC zs) = (4 - (lenC zs) % 4) % 4 := rfl
        omega
theorem chsR_err : ∀ (f i : Nat) (zs : List Nat) (er : Int), chsR f i zs = .error er → er = 3 ∨ er = 4 ∨ er = 6
  | 0, _, _, _, h => (by cases h)
  | f + 1, i, zs, er, h => by
    unfold chsR at h
    split at h
    · cases h
    · cases hc : chuR zs i with
      | error e =>
        rw [hc] at h
        injection h with h
        subst h
        exact chuR_err hc
      | ok c =>
        rw [hc] at h
        cases hr : chsR f (i + 1) (restC zs) with
        | error e =>
          rw [hr] at h
          injection h with h
          subst h
          exact chsR_err f (i + 1) (restC zs) e hr
        | ok l => rw [hr] at h; cases h
theorem chsR_good : ∀ (f i : Nat) (zs : List Nat) (C : List CD), zs.length < f → i ≤ 32 → zs.length ≤ 2000 → (∀ i, zs.getD i 0 < 256) → chsR f i zs = .ok C → (∀ c ∈ C, PkC c) ∧ i + C.length ≤ 32 ∧ spcS C ≤ zs.length ∧ (zs ≠ [] → C ≠ [])
  | 0, i, zs, C, hf, _, _, _, _ => (by omega)
  | f + 1, i, zs, C, hf, hi, hz, hb, h => by
    unfold chsR at h
    split at h
    · rename_i e
      injection h with h
      subst h
      exact ⟨fun c hc => (by cases hc), by simpa using hi, by simp [spcS], fun hn => absurd e hn⟩
    · cases hc : chuR zs i with
      | error e => rw [hc] at h; cases h
      | ok c =>
        rw [hc] at h
        cases hr : chsR f (i + 1) (restC zs) with
        | error e => rw [hr] at h; cases h
        | ok l =>
          rw [hr] at h
          injection h with h
          subst h
          obtain ⟨_, hi2, hl⟩ := chuR_ok hc
          obtain ⟨g1, g2⟩ := chuR_good hz hb hc
          have hbr : ∀ i, (restC zs).getD i 0 < 256 := drop_bnd (drop_bnd (drop_bnd hb 4) _) _
          obtain ⟨k1, k2, k3, _⟩ := chsR_good f (i + 1) (restC zs) l (by omega) (by omega) (by omega) hbr hr
          refine ⟨fun x hx => ?_, by simp; omega, ?_, fun _ => by simp⟩
          · rcases List.mem_append.1 hx with hx | hx
            · simp at hx
              subst hx
              exact g1
            · exact k1 x hx
          · unfold spcS at k3 ⊢
            simp only [List.singleton_append, List.map_cons, List.sum_cons]
            omega
theorem takR_err {zs : List Nat} {er : Int} (h : takR zs = .error er) : ¬ er = 0 := by
  unfold takR at h
  split at h
  · injection h with h; omega
  · split at h
    · injection h with h; omega
    · split at h
      · rcases chsR_err _ _ _ _ h with e | e | e <;> omega
      · injection h with h; omega
/-- What is known of a packet that was taken. -/
structure TkG (zs : List Nat) (C : List CD) : Prop where
  ok : ∀ c ∈ C, PkC c
  one : 1 ≤ C.length
  le : C.length ≤ 32
  sum : 12 + spcS C ≤ zs.length
  len : zs.length ≤ 1480
theorem takR_good {zs : List Nat} {C : List CD} (hb : ∀ i, zs.getD i 0 < 256) (h : takR zs = .ok C) : TkG zs C := by
  unfold takR at h
  split at h
  · cases h
  · split at h
    · cases h
    · split at h
      · have hd : (zs.drop 12).length = zs.length - 12 := List.length_drop
        obtain ⟨h1, h2, h3, h4⟩ := chsR_good _ _ _ _ (by omega) (by omega) (by omega) (drop_bnd hb 12) h
        have hne : zs.drop 12 ≠ [] := fun e => by rw [e] at hd; simp at hd; omega
        have := List.length_pos_iff.2 (h4 hne)
        exact ⟨h1, by omega, by omega, by omega, by omega⟩
      · cases h
theorem chk_cd {w : World} {x : ChQ} (h : x.Wf w) (hc : CdB x.cd (valB x.cd)) (hs : spcN x.cd ≤ 1468) : chkOf x.ck = 0 := by
  have hw := h
  unfold ChQ.Wf at hw
  obtain ⟨_, _, _, _, _, _, _, _, _, _, g11, g12, g13, g14, _⟩ := hw
  have lx := g14.len
  have lp := g13.pmR.len
  have lb := g11.len
  have ld := SlK.len g12
  obtain ⟨m, e0, hm, _⟩ := chk_parts h
  obtain ⟨⟨n1, _⟩, ⟨n2, _⟩, ⟨n3, _⟩, _⟩ := hc.bnd
  have n1 : x.bD.length ≤ 16 := n1
  have n2 : x.dD.length ≤ 16 := n2
  have n3 : (x.pD.map PqD.pm).length ≤ 16 := n3
  have hm0 : m = false := by
    cases m with
    | false => rfl
    | true => have := hm rfl; omega
  have hq : qOf x.ck = true ∧ ¬ (x.k = 0 ∧ x.xN = 0) := by
    generalize hcd : x.cd = c at hc
    generalize valB c = vz at hc
    unfold ChQ.cd at hcd
    cases hc with
    | data flags tsn stream ssn ppid xs h1 h2 h3 h4 hx hb =>
      injection hcd with e1 e2 e3 e4 e5 e6 e7 e8 e9 e10 e11 e12 e13 e14
      rw [e11] at lb
      rw [e12] at ld
      rw [e13] at lp
      rw [e14] at lx
      simp at lb ld lp
      refine ⟨?_, fun e => by omega⟩
      unfold qOf
      rw [if_pos (show x.ck.k = 0 from e1)]
      exact decide_eq_true ⟨e7, e8, e9, e10, lb.symm, ld.symm, lp.symm⟩
    | init kind flags tsn tag room outs ins ps hk h1 h2 h3 h4 h5 h16 hpk =>
      injection hcd with e1 e2 e3 e4 e5 e6 e7 e8 e9 e10 e11 e12 e13 e14
      rw [e11] at lb
      rw [e12] at ld
      rw [e14] at lx
      simp at lb ld lx
      refine ⟨?_, fun e => by omega⟩
      unfold qOf
      rw [if_neg (show ¬ x.ck.k = 0 from by show ¬ x.k = 0; omega), if_pos (show x.ck.k = 1 ∨ x.ck.k = 2 from by show x.k = 1 ∨ x.k = 2; omega)]
      exact decide_eq_true ⟨e4, e5, e6, lb.symm, ld.symm, lx.symm⟩
    | sack flags tsn room bs ds h1 h2 hbn hdn hbb hdb =>
      injection hcd with e1 e2 e3 e4 e5 e6 e7 e8 e9 e10 e11 e12 e13 e14
      rw [e13] at lp
      rw [e14] at lx
      simp at lp lx
      refine ⟨?_, fun e => by omega⟩
      unfold qOf
      rw [if_neg (show ¬ x.ck.k = 0 from by show ¬ x.k = 0; omega), if_neg (show ¬ (x.ck.k = 1 ∨ x.ck.k = 2) from by show ¬ (x.k = 1 ∨ x.k = 2); omega), if_pos (show x.ck.k = 3 from e1)]
      exact decide_eq_true ⟨e4, e5, e6, e7, e9, e10, lp.symm, lx.symm⟩
    | prms kind flags ps hk h16 hpk =>
      injection hcd with e1 e2 e3 e4 e5 e6 e7 e8 e9 e10 e11 e12 e13 e14
      rw [e11] at lb
      rw [e12] at ld
      rw [e14] at lx
      simp at lb ld lx
      refine ⟨?_, fun e => by omega⟩
      unfold qOf
      rw [if_neg (show ¬ x.ck.k = 0 from by show ¬ x.k = 0; omega), if_neg (show ¬ (x.ck.k = 1 ∨ x.ck.k = 2) from by show ¬ (x.k = 1 ∨ x.k = 2); omega), if_neg (show ¬ x.ck.k = 3 from by show ¬ x.k = 3; omega), if_pos (show x.ck.k = 4 ∨ x.ck.k = 5 ∨ x.ck.k = 6 ∨ x.ck.k = 9 from by show x.k = 4 ∨ x.k = 5 ∨ x.k = 6 ∨ x.k = 9; omega)]
      exact decide_eq_true ⟨e3, e4, e5, e6, e7, e8, e9, e10, lb.symm, ld.symm, lx.symm⟩
    | tsnv flags tsn h1 =>
      injection hcd with e1 e2 e3 e4 e5 e6 e7 e8 e9 e10 e11 e12 e13 e14
      rw [e11] at lb
      rw [e12] at ld
      rw [e13] at lp
      rw [e14] at lx
      simp at lb ld lp lx
      refine ⟨?_, fun e => by omega⟩
      unfold qOf
      rw [if_neg (show ¬ x.ck.k = 0 from by show ¬ x.k = 0; omega), if_neg (show ¬ (x.ck.k = 1 ∨ x.ck.k = 2) from by show ¬ (x.k = 1 ∨ x.k = 2); omega), if_neg (show ¬ x.ck.k = 3 from by show ¬ x.k = 3; omega), if_neg (show ¬ (x.ck.k = 4 ∨ x.ck.k = 5 ∨ x.ck.k = 6 ∨ x.ck.k = 9) from by show ¬ (x.k = 4 ∨ x.k = 5 ∨ x.k = 6 ∨ x.k = 9); omega), if_pos (show x.ck.k = 7 from e1)]
      exact decide_eq_true ⟨e4, e5, e6, e7, e8, e9, e10, lb.symm, ld.symm, lp.symm, lx.symm⟩
    | none kind flags hk =>
      injection hcd with e1 e2 e3 e4 e5 e6 e7 e8 e9 e10 e11 e12 e13 e14
      rw [e11] at lb
      rw [e12] at ld
      rw [e13] at lp
      rw [e14] at lx
      simp at lb ld lp lx
      refine ⟨?_, fun e => by omega⟩
      unfold qOf
      rw [if_neg (show ¬ x.ck.k = 0 from by show ¬ x.k = 0; omega), if_neg (show ¬ (x.ck.k = 1 ∨ x.ck.k = 2) from by show ¬ (x.k = 1 ∨ x.k = 2); omega), if_neg (show ¬ x.ck.k = 3 from by show ¬ x.k = 3; omega), if_neg (show ¬ (x.ck.k = 4 ∨ x.ck.k = 5 ∨ x.ck.k = 6 ∨ x.ck.k = 9) from by show ¬ (x.k = 4 ∨ x.k = 5 ∨ x.k = 6 ∨ x.k = 9); omega), if_neg (show ¬ x.ck.k = 7 from by show ¬ x.k = 7; omega), if_pos (show x.ck.k = 8 ∨ x.ck.k = 11 ∨ x.ck.k = 14 from by show x.k = 8 ∨ x.k = 11 ∨ x.k = 14; omega)]
      exact decide_eq_true ⟨e3, e4, e5, e6, e7, e8, e9, e10, lb.symm, ld.symm, lp.symm, lx.symm⟩
    | raw kind flags xs hk hb =>
      injection hcd with e1 e2 e3 e4 e5 e6 e7 e8 e9 e10 e11 e12 e13 e14
      rw [e11] at lb
      rw [e12] at ld
      rw [e13] at lp
      simp at lb ld lp
      refine ⟨?_, fun e => by omega⟩
      unfold qOf
      rw [if_neg (show ¬ x.ck.k = 0 from by show ¬ x.k = 0; omega), if_neg (show ¬ (x.ck.k = 1 ∨ x.ck.k = 2) from by show ¬ (x.k = 1 ∨ x.k = 2); omega), if_neg (show ¬ x.ck.k = 3 from by show ¬ x.k = 3; omega), if_neg (show ¬ (x.ck.k = 4 ∨ x.ck.k = 5 ∨ x.ck.k = 6 ∨ x.ck.k = 9) from by show ¬ (x.k = 4 ∨ x.k = 5 ∨ x.k = 6 ∨ x.k = 9); omega), if_neg (show ¬ x.ck.k = 7 from by show ¬ x.k = 7; omega), if_neg (show ¬ (x.ck.k = 8 ∨ x.ck.k = 11 ∨ x.ck.k = 14) from by show ¬ (x.k = 8 ∨ x.k = 11 ∨ x.k = 14); omega)]
      exact decide_eq_true ⟨e3, e4, e5, e6, e7, e8, e9, e10, lb.symm, ld.symm, lp.symm⟩
  rw [e0, hq.1, decide_eq_false hq.2, hm0]
  unfold chkN
  rw [decide_eq_false (by omega)]
  rfl
end Go.Proofs.YtifdfkkjmjabnaaDoor
