/- host: small functions. -/
import Derived.Test.YtfjpckaphfdfnaaGreatDoorRg2
import Derived.Test.YtfjpckaphfdfnaaGreatDoorEtPut
namespace Go.Proofs.YtfjpckaphfdfnaaGreatDoor
open Go.RowKit
abbrev cfgC : List Value := [.int .u64 10, .int .u64 11, .int .u32 1, .int .u32 2, .int .u32 3, .int .u32 4, .int .i64 200, .int .i64 16, .int .i64 2]
set_option maxRecDepth 100000 in
theorem config_any (w : World) : Calls Tryz.prog 58 #[] w fun e w' => e = .returned (.agg #[.int .u64 10, .int .u64 11, .int .u32 1, .int .u32 2, .int .u32 3, .int .u32 4, .int .i64 200, .int .i64 16, .int .i64 2]) ∧ Below w.heap.size w w' := by
  have hS := Stc.new w cfgC 72 _ rfl
  go_enter Tryz.func58, Tryz.ntmps58
  go_wp2
  refine bodyPost_ret (results_cellE rfl _ _ w.heap.size 0 cfgC _ rfl hS.range Tryz.underlying72 rfl (by kernel_rfl)) rfl ?_
  exact ⟨rfl, (Below.refl _ _).alloc (Nat.le_refl _) _⟩
theorem hisCard_any (i : Int) (w : World) : Calls Tryz.prog 64 #[.int .i64 i] w fun e w' => e = .returned (.bool (decide (i = 0 ∨ i = 1))) ∧ Below w.heap.size w w' := by
  by_cases h0 : i < 0
  · have hd : decide (i = 0 ∨ i = 1) = false := by simp; omega
    rw [hd]
    clear hd
    go_enter Tryz.func64, Tryz.ntmps64
    go_wp2
    go_ret
    exact ⟨rfl, Below.refl _ _⟩
  · by_cases h2 : i < 2
    · have hd : decide (i = 0 ∨ i = 1) = true := by simp; omega
      have h0' : 0 ≤ i := by omega
      rw [hd]
      clear hd h0
      go_enter Tryz.func64, Tryz.ntmps64
      go_wp2
      go_ret
      exact ⟨rfl, Below.refl _ _⟩
    · have hd : decide (i = 0 ∨ i = 1) = false := by simp; omega
      have h0' : 0 ≤ i := by omega
      rw [hd]
      clear hd h0
      go_enter Tryz.func64, Tryz.ntmps64
      go_wp2
      go_ret
      exact ⟨rfl, Below.refl _ _⟩
theorem mayUse_any (p : Nat) (i : Int) (w : World) : Calls Tryz.prog 35 #[.pointer (some ⟨p, 0, none⟩), .int .i64 i] w fun e w' => e = .returned (.int .i64 (if i = 0 ∨ i = 1 then 0 else 2)) ∧ Below w.heap.size w w' := by
  have hc := hisCard_any i w
  by_cases h : i = 0 ∨ i = 1
  · rw [if_pos h]
    rw [decide_eq_true h] at hc
    go_enter Tryz.func35, Tryz.ntmps35
    go_wp2_with fail
    refine hc.mono ?_
    rintro e w1 ⟨rfl, hb⟩
    clear hc h
    go_wp2
    go_ret
    exact ⟨rfl, hb⟩
  · rw [if_neg h]
    rw [decide_eq_false h] at hc
    go_enter Tryz.func35, Tryz.ntmps35
    go_wp2_with fail
    refine hc.mono ?_
    rintro e w1 ⟨rfl, hb⟩
    clear hc h
    go_wp2
    go_ret
    exact ⟨rfl, hb⟩
/-- lift's post where a frame stands. -/
structure LiftP (B : Nat) (X : Nat → Prop) (p g N gv tk d : Nat) (b : Nat) (zs : List Nat) (rs : List (Nat × List Nat)) (w : World) (e : Ending) (w' : World) : Prop where
  ret : ∃ c, e = .returned (.tuple #[.slice (some ⟨b, 0, none⟩) zs.length c, .int .i64 0]) ∧ OwnB w' B (some ⟨b, 0, none⟩) zs.length c zs
  fr : Fr (fun k => k = p ∨ k = g) w w'
  out : Rng w' B X p g N ((gv + 1) % N) tk d rs
theorem lift_none (B : Nat) (X : Nat → Prop) (p g N gv tk d : Nat) (w : World) (h : Rng w B X p g N gv tk d []) :
    Calls Tryz.prog 36 #[.pointer (some ⟨p, 0, none⟩)] w fun e w' => e = .returned (.tuple #[.slice none 0 0, .int .i64 13]) ∧ w' = w := by
  have ht := take_none B X p g N gv tk d w h
  clear h
  go_enter Tryz.func36, Tryz.ntmps36
  go_wp2_with fail
  refine ht.mono ?_
  rintro e w1 ⟨rfl, rfl⟩
  clear ht
  go_wp2
  go_ret2
  exact ⟨rfl, rfl⟩
theorem lift_some (B : Nat) (X : Nat → Prop) (p g N gv tk d : Nat) (b : Nat) (zs : List Nat) (rs : List (Nat × List Nat)) (w : World) (h : Rng w B X p g N gv tk d ((b, zs) :: rs)) :
    Calls Tryz.prog 36 #[.pointer (some ⟨p, 0, none⟩)] w (LiftP B X p g N gv tk d b zs rs w) := by
  have ht := (show Hid _ from take_some B X p g N gv tk d b zs rs w h)
  have hX := h.xp
  have hXg := h.xg
  have hbX : ¬ X b := (h.row 0 b zs rfl).1
  have HX := (show Hid _ from And.intro hX (And.intro hXg hbX))
  clear h hX hXg hbX
  go_enter Tryz.func36, Tryz.ntmps36
  go_wp2_with fail
  refine Calls.mono ht.out ?_
  rintro e w1 ⟨⟨c, rfl, hO⟩, hfr, hR⟩
  have HG := (show Hid _ from give_some B X p g N gv tk d rs w1 hR)
  have HO := (show Hid _ from And.intro hO hfr)
  clear ht hO hfr hR
  go_wp2_with fail
  refine Calls.mono HG.out ?_
  rintro e w2 ⟨rfl, hfr2, hR2⟩
  have HR := (show Hid _ from And.intro hfr2 hR2)
  clear HG hfr2 hR2
  go_wp2
  go_ret2
  obtain ⟨hO, hfr⟩ := HO.out
  obtain ⟨hfr2, hR2⟩ := HR.out
  obtain ⟨hX, hXg, hbX⟩ := HX.out
  exact ⟨⟨c, rfl, hO.fr hfr2 (fun e => by rcases e with e | e <;> rw [e] at hbX <;> contradiction)⟩, hfr.trans hfr2, hR2⟩
end Go.Proofs.YtfjpckaphfdfnaaGreatDoor
