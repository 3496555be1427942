/- law17: begun, drain. -/
import Derived.Test.YtfjpckaphfdfnaaGreatDoorKB
import Derived.Test.YtfjpckaphfdfnaaGreatDoorKA
import Derived.Test.YtfjpckaphfdfnaaGreatDoorEtArp
import Derived.Test.YtfjpckaphfdfnaaGreatDoorCopy
import Derived.Test.YtfjpckaphfdfnaaGreatDoorStr
import Derived.Lib.SlBytesConst
import Derived.Test.YtfjpckaphfdfnaaGreatDoorArT
namespace Go.Proofs.YtfjpckaphfdfnaaGreatDoor
open Go.RowKit Go.MapKept Go.Maps
set_option maxRecDepth 100000 in
theorem hport_any (st : Int) (pt pn : Nat) (bx : Nat) (w : World) (hb : Stc w bx [.int .u16 (pn : Nat)]) :
    Calls Tryz.prog 25 #[.agg #[.int .i64 st, .int .u16 (pt : Nat), .pointer none, .slice none 0 0, .pointer none, .bool false], .pointer (some ⟨bx, 0, none⟩)] w fun e w' => e = .returned (.bool (decide (pt = pn))) ∧ Below w.heap.size w w' := by
  have c0 := hb.cell 0 _ rfl
  have hlt := hb.lt
  have HD : Hid (decide ((pt : Int) = (pn : Int)) = decide (pt = pn)) := by show _ = _; rw [decide_eq_decide]; omega
  clear hb
  go_enter Tryz.func25, Tryz.ntmps25
  go_wp2
  go_ret
  exact ⟨by rw [← HD.out]; rfl, (Below.refl _ _).alloc (Nat.le_refl _) _⟩
set_option maxRecDepth 100000 in
theorem hfree_any (st : Int) (pt : Nat) (w : World) :
    Calls Tryz.prog 61 #[.agg #[.int .i64 st, .int .u16 (pt : Nat), .pointer none, .slice none 0 0, .pointer none, .bool false]] w fun e w' => e = .returned (.bool (decide (st = 0))) ∧ Below w.heap.size w w' := by
  go_enter Tryz.func61, Tryz.ntmps61
  go_wp2
  go_ret
  exact ⟨rfl, (Below.refl _ _).alloc (Nat.le_refl _) _⟩
section
variable {w0 w : World} {p : Nat} {s : HSt} {R : Nat → RSt} {C : Nat → CSt}
theorem HoW.stc (h : HoW w0 w p s R C) : Stc w p (hoCs s R C) := by
  obtain ⟨ro, h⟩ := h
  exact h.st
set_option maxRecDepth 100000 in
set_option maxHeartbeats 8000000 in
theorem hidx_port (h : HoW w0 w p s R C) (pn bx : Nat) (hb0 : Stc w bx [.int .u16 (pn : Nat)]) (hpn : pn ≠ 0) :
    Calls Tryz.prog 60 #[.slice (some ⟨p, 18, none⟩) 8 8, .func (.func 25) #[] #[.pointer (some ⟨bx, 0, none⟩)]] w fun e w' => e = .returned (.int .i64 (if s.pt = pn then 0 else -1)) ∧ Below w.heap.size w w' := by
  have HH := (show Hid _ from h)
  have HBX := (show Hid _ from hb0)
  have HPN := (show Hid _ from hpn)
  have hpl := h.stc.lt
  clear h hb0 hpn
  go_enter Tryz.func60, Tryz.ntmps60
  go_wp2_with fail
  go_loopw [8] (fun iv wr => ∃ i : Nat, i ≤ 8 ∧ iv = .int .i64 (i : Nat) ∧ Below w.heap.size w wr ∧ (0 < i → ¬ s.pt = pn)) (fun iv _ => 8 - (intOf iv).toNat)
  case atStart => exact ⟨0, by omega, rfl, Below.refl _ _, fun e => by omega⟩
  case round =>
    obtain ⟨i, hi, rfl, hb, hn⟩ := hrel
    have hi8 : i = 0 ∨ i = 1 ∨ i = 2 ∨ i = 3 ∨ i = 4 ∨ i = 5 ∨ i = 6 ∨ i = 7 ∨ i = 8 := by omega
    have HB := (show Hid _ from hb)
    have HN := (show Hid _ from hn)
    clear hb hi hn
    rcases hi8 with rfl | rfl | rfl | rfl | rfl | rfl | rfl | rfl | rfl
    · have hst := (HoW.below HH.out HB.out).stc
      have q0 := hst.cell 18 _ rfl
      have q1 := hst.cell 19 _ rfl
      have q2 := hst.cell 20 _ rfl
      have q3 := hst.cell 21 _ rfl
      have q4 := hst.cell 22 _ rfl
      have q5 := hst.cell 23 _ rfl
      have HCK := (show Hid _ from hport_any s.st s.pt pn bx wr (HBX.out.below HB.out))
      clear hst
      go_wp2_with fail
      refine Calls.mono HCK.out ?_
      rintro e w3 ⟨rfl, hb3⟩
      have HB3 := (show Hid _ from HB.out.trans (hb3.mono HB.out.size))
      clear hb3 HCK
      by_cases ht : s.pt = pn
      · rw [decide_eq_true ht]
        clear q0 q1 q2 q3 q4 q5
        have HT := (show Hid _ from ht)
        clear ht
        go_wp2
        go_ret
        first | exact ⟨rfl, HB3.out⟩ | exact ⟨by rw [if_pos HT.out]; rfl, HB3.out⟩
      · rw [decide_eq_false ht]
        have HT := (show Hid _ from ht)
        clear ht q0 q1 q2 q3 q4 q5
        go_wp2
        exact ⟨⟨1, by omega, rfl, HB3.out, fun _ => HT.out⟩, by simp [intOf]⟩
    · have hst := (HoW.below HH.out HB.out).stc
      have q0 := hst.cell 24 _ rfl
      have q1 := hst.cell 25 _ rfl
      have q2 := hst.cell 26 _ rfl
      have q3 := hst.cell 27 _ rfl
      have q4 := hst.cell 28 _ rfl
      have q5 := hst.cell 29 _ rfl
      have HCK := (show Hid _ from hport_any 0 0 pn bx wr (HBX.out.below HB.out))
      clear hst
      go_wp2_with fail
      refine Calls.mono HCK.out ?_
      rintro e w3 ⟨rfl, hb3⟩
      have HB3 := (show Hid _ from HB.out.trans (hb3.mono HB.out.size))
      clear hb3 HCK
      rw [decide_eq_false (fun e => HPN.out e.symm)]
      clear q0 q1 q2 q3 q4 q5
      go_wp2
      exact ⟨⟨2, by omega, rfl, HB3.out, fun _ => HN.out (by omega)⟩, by simp [intOf]⟩
    · have hst := (HoW.below HH.out HB.out).stc
      have q0 := hst.cell 30 _ rfl
      have q1 := hst.cell 31 _ rfl
      have q2 := hst.cell 32 _ rfl
      have q3 := hst.cell 33 _ rfl
      have q4 := hst.cell 34 _ rfl
      have q5 := hst.cell 35 _ rfl
      have HCK := (show Hid _ from hport_any 0 0 pn bx wr (HBX.out.below HB.out))
      clear hst
      go_wp2_with fail
      refine Calls.mono HCK.out ?_
      rintro e w3 ⟨rfl, hb3⟩
      have HB3 := (show Hid _ from HB.out.trans (hb3.mono HB.out.size))
      clear hb3 HCK
      rw [decide_eq_false (fun e => HPN.out e.symm)]
      clear q0 q1 q2 q3 q4 q5
      go_wp2
      exact ⟨⟨3, by omega, rfl, HB3.out, fun _ => HN.out (by omega)⟩, by simp [intOf]⟩
    · have hst := (HoW.below HH.out HB.out).stc
      have q0 := hst.cell 36 _ rfl
      have q1 := hst.cell 37 _ rfl
      have q2 := hst.cell 38 _ rfl
      have q3 := hst.cell 39 _ rfl
      have q4 := hst.cell 40 _ rfl
      have q5 := hst.cell 41 _ rfl
      have HCK := (show Hid _ from hport_any 0 0 pn bx wr (HBX.out.below HB.out))
      clear hst
      go_wp2_with fail
      refine Calls.mono HCK.out ?_
      rintro e w3 ⟨rfl, hb3⟩
      have HB3 := (show Hid _ from HB.out.trans (hb3.mono HB.out.size))
      clear hb3 HCK
      rw [decide_eq_false (fun e => HPN.out e.symm)]
      clear q0 q1 q2 q3 q4 q5
      go_wp2
      exact ⟨⟨4, by omega, rfl, HB3.out, fun _ => HN.out (by omega)⟩, by simp [intOf]⟩
    · have hst := (HoW.below HH.out HB.out).stc
      have q0 := hst.cell 42 _ rfl
      have q1 := hst.cell 43 _ rfl
      have q2 := hst.cell 44 _ rfl
      have q3 := hst.cell 45 _ rfl
      have q4 := hst.cell 46 _ rfl
      have q5 := hst.cell 47 _ rfl
      have HCK := (show Hid _ from hport_any 0 0 pn bx wr (HBX.out.below HB.out))
      clear hst
      go_wp2_with fail
      refine Calls.mono HCK.out ?_
      rintro e w3 ⟨rfl, hb3⟩
      have HB3 := (show Hid _ from HB.out.trans (hb3.mono HB.out.size))
      clear hb3 HCK
      rw [decide_eq_false (fun e => HPN.out e.symm)]
      clear q0 q1 q2 q3 q4 q5
      go_wp2
      exact ⟨⟨5, by omega, rfl, HB3.out, fun _ => HN.out (by omega)⟩, by simp [intOf]⟩
    · have hst := (HoW.below HH.out HB.out).stc
      have q0 := hst.cell 48 _ rfl
      have q1 := hst.cell 49 _ rfl
      have q2 := hst.cell 50 _ rfl
      have q3 := hst.cell 51 _ rfl
      have q4 := hst.cell 52 _ rfl
      have q5 := hst.cell 53 _ rfl
      have HCK := (show Hid _ from hport_any 0 0 pn bx wr (HBX.out.below HB.out))
      clear hst
      go_wp2_with fail
      refine Calls.mono HCK.out ?_
      rintro e w3 ⟨rfl, hb3⟩
      have HB3 := (show Hid _ from HB.out.trans (hb3.mono HB.out.size))
      clear hb3 HCK
      rw [decide_eq_false (fun e => HPN.out e.symm)]
      clear q0 q1 q2 q3 q4 q5
      go_wp2
      exact ⟨⟨6, by omega, rfl, HB3.out, fun _ => HN.out (by omega)⟩, by simp [intOf]⟩
    · have hst := (HoW.below HH.out HB.out).stc
      have q0 := hst.cell 54 _ rfl
      have q1 := hst.cell 55 _ rfl
      have q2 := hst.cell 56 _ rfl
      have q3 := hst.cell 57 _ rfl
      have q4 := hst.cell 58 _ rfl
      have q5 := hst.cell 59 _ rfl
      have HCK := (show Hid _ from hport_any 0 0 pn bx wr (HBX.out.below HB.out))
      clear hst
      go_wp2_with fail
      refine Calls.mono HCK.out ?_
      rintro e w3 ⟨rfl, hb3⟩
      have HB3 := (show Hid _ from HB.out.trans (hb3.mono HB.out.size))
      clear hb3 HCK
      rw [decide_eq_false (fun e => HPN.out e.symm)]
      clear q0 q1 q2 q3 q4 q5
      go_wp2
      exact ⟨⟨7, by omega, rfl, HB3.out, fun _ => HN.out (by omega)⟩, by simp [intOf]⟩
    · have hst := (HoW.below HH.out HB.out).stc
      have q0 := hst.cell 60 _ rfl
      have q1 := hst.cell 61 _ rfl
      have q2 := hst.cell 62 _ rfl
      have q3 := hst.cell 63 _ rfl
      have q4 := hst.cell 64 _ rfl
      have q5 := hst.cell 65 _ rfl
      have HCK := (show Hid _ from hport_any 0 0 pn bx wr (HBX.out.below HB.out))
      clear hst
      go_wp2_with fail
      refine Calls.mono HCK.out ?_
      rintro e w3 ⟨rfl, hb3⟩
      have HB3 := (show Hid _ from HB.out.trans (hb3.mono HB.out.size))
      clear hb3 HCK
      rw [decide_eq_false (fun e => HPN.out e.symm)]
      clear q0 q1 q2 q3 q4 q5
      go_wp2
      exact ⟨⟨8, by omega, rfl, HB3.out, fun _ => HN.out (by omega)⟩, by simp [intOf]⟩
    · have hne : ¬ s.pt = pn := HN.out (by omega)
      go_wp2
      go_ret
      exact ⟨rfl, HB.out⟩
set_option maxRecDepth 100000 in
set_option maxHeartbeats 8000000 in
theorem hidx_free (h : HoW w0 w p s R C) :
    Calls Tryz.prog 60 #[.slice (some ⟨p, 18, none⟩) 8 8, .func (.func 61) #[] #[]] w fun e w' => e = .returned (.int .i64 (if s.st = 0 then 0 else 1)) ∧ Below w.heap.size w w' := by
  have HH := (show Hid _ from h)
  have hpl := h.stc.lt
  clear h
  go_enter Tryz.func60, Tryz.ntmps60
  go_wp2_with fail
  go_loopw [8] (fun iv wr => ∃ i : Nat, i ≤ 1 ∧ iv = .int .i64 (i : Nat) ∧ Below w.heap.size w wr ∧ (0 < i → ¬ s.st = 0)) (fun iv _ => 8 - (intOf iv).toNat)
  case atStart => exact ⟨0, by omega, rfl, Below.refl _ _, fun e => by omega⟩
  case round =>
    obtain ⟨i, hi, rfl, hb, hn⟩ := hrel
    have hi8 : i = 0 ∨ i = 1 := by omega
    have HB := (show Hid _ from hb)
    have HN := (show Hid _ from hn)
    clear hb hi hn
    rcases hi8 with rfl | rfl
    · have hst := (HoW.below HH.out HB.out).stc
      have q0 := hst.cell 18 _ rfl
      have q1 := hst.cell 19 _ rfl
      have q2 := hst.cell 20 _ rfl
      have q3 := hst.cell 21 _ rfl
      have q4 := hst.cell 22 _ rfl
      have q5 := hst.cell 23 _ rfl
      have HCK := (show Hid _ from hfree_any s.st s.pt wr)
      clear hst
      go_wp2_with fail
      refine Calls.mono HCK.out ?_
      rintro e w3 ⟨rfl, hb3⟩
      have HB3 := (show Hid _ from HB.out.trans (hb3.mono HB.out.size))
      clear hb3 HCK
      by_cases ht : s.st = 0
      · rw [decide_eq_true ht]
        clear q0 q1 q2 q3 q4 q5
        go_wp2
        go_ret
        exact ⟨rfl, HB3.out⟩
      · rw [decide_eq_false ht]
        have HT := (show Hid _ from ht)
        clear ht q0 q1 q2 q3 q4 q5
        go_wp2
        exact ⟨⟨1, by omega, rfl, HB3.out, fun _ => HT.out⟩, by simp [intOf]⟩
    · have hst := (HoW.below HH.out HB.out).stc
      have q0 := hst.cell 24 _ rfl
      have q1 := hst.cell 25 _ rfl
      have q2 := hst.cell 26 _ rfl
      have q3 := hst.cell 27 _ rfl
      have q4 := hst.cell 28 _ rfl
      have q5 := hst.cell 29 _ rfl
      have HCK := (show Hid _ from hfree_any 0 0 wr)
      clear hst
      go_wp2_with fail
      refine Calls.mono HCK.out ?_
      rintro e w3 ⟨rfl, hb3⟩
      have HB3 := (show Hid _ from HB.out.trans (hb3.mono HB.out.size))
      clear hb3 HCK
      simp only [decide_true]
      have hne : ¬ s.st = 0 := HN.out (by omega)
      clear q0 q1 q2 q3 q4 q5
      go_wp2
      go_ret
      exact ⟨rfl, HB3.out⟩
set_option maxRecDepth 100000 in
set_option maxHeartbeats 2000000 in
theorem hcont_any (h : HoW w0 w p s R C) (pn bx : Nat) (hb0 : Stc w bx [.int .u16 (pn : Nat)]) (hpn : pn ≠ 0) :
    Calls Tryz.prog 24 #[.slice (some ⟨p, 18, none⟩) 8 8, .func (.func 25) #[] #[.pointer (some ⟨bx, 0, none⟩)]] w fun e w' => e = .returned (.bool (decide (s.pt = pn))) ∧ Below w.heap.size w w' := by
  have hx := hidx_port h pn bx hb0 hpn
  clear h hb0 hpn
  by_cases ht : s.pt = pn
  · rw [if_pos ht] at hx
    rw [decide_eq_true ht]
    clear ht
    go_enter Tryz.func24, Tryz.ntmps24
    go_wp2_with fail
    refine hx.mono ?_
    rintro e w1 ⟨rfl, hb⟩
    clear hx
    go_wp2
    go_ret
    exact ⟨rfl, hb⟩
  · rw [if_neg ht] at hx
    rw [decide_eq_false ht]
    clear ht
    go_enter Tryz.func24, Tryz.ntmps24
    go_wp2_with fail
    refine hx.mono ?_
    rintro e w1 ⟨rfl, hb⟩
    clear hx
    go_wp2
    go_ret
    exact ⟨rfl, hb⟩
set_option maxRecDepth 100000 in
set_option maxHeartbeats 2000000 in
theorem hleast_any (h : HoW w0 w p s R C) :
    Calls Tryz.prog 26 #[.pointer (some ⟨p, 0, none⟩)] w fun e w' => e = .returned (.int .i64 (if s.st = 0 then 1 else 2)) ∧ Below w.heap.size w w' := by
  have hx := hidx_free h
  clear h
  by_cases ht : s.st = 0
  · rw [if_pos ht] at hx ⊢
    clear ht
    go_enter Tryz.func26, Tryz.ntmps26
    go_wp2_with fail
    refine hx.mono ?_
    rintro e w1 ⟨rfl, hb⟩
    clear hx
    go_wp2
    go_ret
    exact ⟨rfl, hb⟩
  · rw [if_neg ht] at hx ⊢
    clear ht
    go_enter Tryz.func26, Tryz.ntmps26
    go_wp2_with fail
    refine hx.mono ?_
    rintro e w1 ⟨rfl, hb⟩
    clear hx
    go_wp2
    go_ret
    exact ⟨rfl, hb⟩
set_option maxRecDepth 100000 in
set_option maxHeartbeats 2000000 in
theorem hat_one (p : Nat) (w : World) :
    Calls Tryz.prog 27 #[.pointer (some ⟨p, 0, none⟩), .int .i64 1] w fun e w' => e = .returned (.pointer (some ⟨p, 18, none⟩)) ∧ w' = w := by
  go_enter Tryz.func27, Tryz.ntmps27
  go_wp2
  go_ret
  exact ⟨rfl, rfl⟩
end
end Go.Proofs.YtfjpckaphfdfnaaGreatDoor
namespace Go.Proofs.YtfjpckaphfdfnaaGreatDoor
open Go.RowKit Go.MapKept Go.Maps
section
variable {w0 w : World} {p : Nat} {s : HSt} {R : Nat → RSt} {C : Nat → CSt}
set_option maxRecDepth 100000 in
set_option maxHeartbeats 4000000 in
theorem hbind_taken (h : HoW w0 w p s R C) (pn : Nat) (hpn : pn ≠ 0) (ht : s.pt = pn) :
    Calls Tryz.prog 4 #[.pointer (some ⟨p, 0, none⟩), .int .u16 (pn : Nat)] w fun e w' => e = .returned (.tuple #[.int .i64 0, .int .i64 15]) ∧ HoW w0 w' p s R C := by
  obtain ⟨W1, hW1⟩ : ∃ W1, W1 = w.alloc (.cells #[.int .u16 (pn : Nat)] 22) := ⟨_, rfl⟩
  have hb1 : Below w.heap.size w W1 := by rw [hW1]; exact (Below.refl _ _).alloc (Nat.le_refl _) _
  have sB := Stc.new w [.int .u16 (pn : Nat)] 22 W1 hW1
  have h1 := HoW.below h hb1
  have hct := hcont_any h1 pn w.heap.size sB hpn
  rw [decide_eq_true ht] at hct
  have HCT := (show Hid _ from hct)
  have H1 := (show Hid _ from h1)
  have g0 : ¬ (pn : Int) = 0 := by omega
  have hm := hmf
  clear h sB hb1 h1 hct ht hpn
  go_enter Tryz.func4, Tryz.ntmps4
  go_wp2_with fail
  rw [← hW1]
  clear hW1
  refine Calls.mono HCT.out ?_
  rintro e w2 ⟨rfl, hb2⟩
  have HB := (show Hid _ from hb2)
  clear hb2
  go_wp2
  go_ret2
  exact ⟨rfl, HoW.below H1.out HB.out⟩
set_option maxRecDepth 100000 in
set_option maxHeartbeats 4000000 in
theorem hbind_new (h : HoW w0 w p s R C) (pn : Nat) (hpn : pn ≠ 0) (ht : ¬ s.pt = pn) (hst : s.st = 0) :
    Calls Tryz.prog 4 #[.pointer (some ⟨p, 0, none⟩), .int .u16 (pn : Nat)] w fun e w' => e = .returned (.tuple #[.int .i64 1, .int .i64 0]) ∧ HoW w0 w' p { s with st := 1, pt := pn } R C := by
  obtain ⟨W1, hW1⟩ : ∃ W1, W1 = w.alloc (.cells #[.int .u16 (pn : Nat)] 22) := ⟨_, rfl⟩
  have hb1 : Below w.heap.size w W1 := by rw [hW1]; exact (Below.refl _ _).alloc (Nat.le_refl _) _
  have sB := Stc.new w [.int .u16 (pn : Nat)] 22 W1 hW1
  have h1 := HoW.below h hb1
  have hct := hcont_any h1 pn w.heap.size sB hpn
  rw [decide_eq_false ht] at hct
  have HCT := (show Hid _ from hct)
  have hpl := h.stc.lt
  have H1 := (show Hid _ from And.intro h1 (And.intro sB (show p ≠ w.heap.size by omega)))
  have HS := (show Hid _ from hst)
  have g0 : ¬ (pn : Int) = 0 := by omega
  have hm := hmf
  clear h sB hb1 h1 hct ht hpn hst hpl
  go_enter Tryz.func4, Tryz.ntmps4
  go_wp2_with fail
  rw [← hW1]
  clear hW1
  refine Calls.mono HCT.out ?_
  rintro e w2 ⟨rfl, hb2⟩
  have h2 := HoW.below H1.out.1 hb2
  have hle := hleast_any h2
  rw [if_pos HS.out] at hle
  have HLE := (show Hid _ from hle)
  have H2 := (show Hid _ from hb2)
  clear hb2 h2 hle HCT
  go_wp2_with fail
  refine Calls.mono HLE.out ?_
  rintro e w3 ⟨rfl, hb3⟩
  have hb13 : Below W1.heap.size W1 w3 := H2.out.trans (hb3.mono H2.out.size)
  have h3 := HoW.below H1.out.1 hb13
  have s3 := H1.out.2.1.below hb13
  have hst3 := h3.stc
  have H3 := (show Hid _ from And.intro h3 s3)
  have q0 := hst3.cell 18 _ rfl
  have q1 := hst3.cell 19 _ rfl
  have q2 := hst3.cell 20 _ rfl
  have q3 := hst3.cell 21 _ rfl
  have q4 := hst3.cell 22 _ rfl
  have q5 := hst3.cell 23 _ rfl
  have f0 := hst3.free 18
  have f1 := hst3.free 19
  have f2 := hst3.free 20
  have f3 := hst3.free 21
  have f4 := hst3.free 22
  have f5 := hst3.free 23
  have hbx := s3.cell 0 _ rfl
  have HAT := (show Hid _ from hat_one p)
  clear hb3 hb13 h3 s3 hst3 HLE H2
  go_wp2_with fail
  go_region_with ((go_at_call 27; refine Calls.mono (HAT.out _) ?_; rintro e w4 ⟨rfl, rfl⟩))
  all_goals
    have HR : Hid (HoW w0 ((((((w3.setCell ⟨p, 18, none⟩ (.int .i64 1)).setCell ⟨p, 19, none⟩ (.int .u16 (pn : Nat))).setCell ⟨p, 20, none⟩ (.pointer none)).setCell ⟨p, 21, none⟩ (.slice none 0 0)).setCell ⟨p, 22, none⟩ (.pointer none)).setCell ⟨p, 23, none⟩ (.bool false)).drew p { s with st := 1, pt := pn } R C) := by
      obtain ⟨ro, x⟩ := H3.out.1
      exact x.own { s with st := 1, pt := pn } rfl rfl rfl
        (((((((Fr.setCell (fun g => g = p) _ ⟨p, 18, none⟩ _ rfl).trans (Fr.setCell (fun g => g = p) _ ⟨p, 19, none⟩ _ rfl)).trans (Fr.setCell (fun g => g = p) _ ⟨p, 20, none⟩ _ rfl)).trans (Fr.setCell (fun g => g = p) _ ⟨p, 21, none⟩ _ rfl)).trans (Fr.setCell (fun g => g = p) _ ⟨p, 22, none⟩ _ rfl)).trans (Fr.setCell (fun g => g = p) _ ⟨p, 23, none⟩ _ rfl)).trans (Fr.of_below (Below.refl _ _).drew))
        (((((((x.st.set 18 (.int .i64 1)).set 19 (.int .u16 (pn : Nat))).set 20 (.pointer none)).set 21 (.slice none 0 0)).set 22 (.pointer none)).set 23 (.bool false)).below (Below.refl _ _).drew)
    clear q0 q1 q2 q3 q4 q5 f0 f1 f2 f3 f4 f5 hbx
    go_wp2
    go_ret2
    exact ⟨rfl, HR.out⟩
end
end Go.Proofs.YtfjpckaphfdfnaaGreatDoor
namespace Go.Proofs.YtfjpckaphfdfnaaGreatDoor
open Go.RowKit Go.MapKept Go.Maps
set_option maxRecDepth 100000 in
set_option maxHeartbeats 2000000 in
theorem hright_ok (m0 m1 a0 a1 p0 p1 rg : Nat) (mtu sm : Int) (w : World) (h1 : 192 ≤ mtu) (h2 : mtu ≤ 1500) (h3 : 1 ≤ sm) (h4 : sm ≤ 8) (h5 : a0 ≠ a1) (h6 : p0 ≠ p1) :
    Calls Tryz.prog 99 #[.agg #[.int .u64 (m0 : Nat), .int .u64 (m1 : Nat), .int .u32 (a0 : Nat), .int .u32 (a1 : Nat), .int .u32 (p0 : Nat), .int .u32 (p1 : Nat), .int .i64 mtu, .int .i64 (rg : Nat), .int .i64 sm]] w fun e w' => e = .returned (.bool true) ∧ Below w.heap.size w w' := by
  have g5 : ((a0 : Int) != (a1 : Int)) = true := by simp; omega
  have g6 : ((p0 : Int) != (p1 : Int)) = true := by simp; omega
  go_enter Tryz.func99, Tryz.ntmps99
  go_wp2
  go_ret
  exact ⟨rfl, (Below.refl _ _).alloc (Nat.le_refl _) _⟩
/-- A card's three as they are made. -/
structure CdW (w : World) (B lo hi N m ip i gi o g n : Nat) : Prop where
  r0 : RgS w B ⟨i, gi, N, 0, 0, 0, []⟩
  r1 : RgS w B ⟨o, g, N, 0, 0, 0, []⟩
  ca : Stc w n (CaC m ip 0 (.map none) 0)
  od : lo ≤ i ∧ lo ≤ gi ∧ lo ≤ o ∧ lo ≤ g ∧ lo ≤ n ∧ i < hi ∧ gi < hi ∧ o < hi ∧ g < hi ∧ n < hi ∧ i < o ∧ i < g ∧ gi < o ∧ gi < g ∧ i < n ∧ gi < n ∧ o < n ∧ g < n
theorem CdW.below {w w' : World} {B lo hi N m ip i gi o g n : Nat} (h : CdW w B lo hi N m ip i gi o g n) (hb : Below w.heap.size w w') : CdW w' B lo hi N m ip i gi o g n :=
  ⟨h.r0.below hb, h.r1.below hb, h.ca.below hb, h.od⟩
theorem CdW.fr {Q : Nat → Prop} {w w' : World} {B lo hi N m ip i gi o g n : Nat} (h : CdW w B lo hi N m ip i gi o g n) (hf : Fr Q w w') (hq : ∀ k, Q k → k < lo ∨ hi ≤ k) : CdW w' B lo hi N m ip i gi o g n := by
  obtain ⟨o1, o2, o3, o4, o5, o6, o7, o8, o9, o10, o11⟩ := h.od
  have hn : ∀ k, lo ≤ k → k < hi → ¬ Q k := fun k k1 k2 hk => by rcases hq k hk with e | e <;> omega
  exact ⟨h.r0.fr hf (hn _ o1 o6) (hn _ o2 o7) (fun x hx => by cases hx), h.r1.fr hf (hn _ o3 o8) (hn _ o4 o9) (fun x hx => by cases hx), h.ca.fr hf (hn _ o5 o10), h.od⟩
set_option maxRecDepth 100000 in
set_option maxHeartbeats 4000000 in
theorem hcard0 (m0 m1 a0 a1 p0 p1 rg : Nat) (mtu sm : Int) (w : World) (B : Nat) (hB : B ≤ w.heap.size) (h1 : 1 ≤ rg) (h2 : rg ≤ 64) (hm : m0 < 281474976710655) :
    Calls Tryz.prog 101 #[.agg #[.int .u64 (m0 : Nat), .int .u64 (m1 : Nat), .int .u32 (a0 : Nat), .int .u32 (a1 : Nat), .int .u32 (p0 : Nat), .int .u32 (p1 : Nat), .int .i64 mtu, .int .i64 (rg : Nat), .int .i64 sm], .int .i64 0] w fun e w' => (∃ i gi o g n, e = .returned (.tuple #[.agg #[.pointer (some ⟨i, 0, none⟩), .pointer (some ⟨o, 0, none⟩), .pointer (some ⟨n, 0, none⟩)], .bool true]) ∧ CdW w' B w.heap.size w'.heap.size rg m0 a0 i gi o g n) ∧ Below w.heap.size w w' := by
  have hr := fun W => rnew_any rg W h1 h2
  have hc := fun W => anew_ok m0 a0 W hm
  have HR := (show Hid _ from hr)
  have HC := (show Hid _ from hc)
  clear hr hc
  obtain ⟨W0, hW0⟩ : ∃ W, W = (w.alloc (.cells #[.int .u64 (m0 : Nat), .int .u64 (m1 : Nat), .int .u32 (a0 : Nat), .int .u32 (a1 : Nat), .int .u32 (p0 : Nat), .int .u32 (p1 : Nat), .int .i64 mtu, .int .i64 (rg : Nat), .int .i64 sm] 72)).alloc (.cells #[.pointer none, .pointer none, .pointer none] 76) := ⟨_, rfl⟩
  have z0 : W0.heap.size = w.heap.size + 2 := by rw [hW0]; simp
  have hb0 : Below w.heap.size w W0 := by rw [hW0]; exact ((Below.refl _ _).alloc (Nat.le_refl _) _).alloc (by simp) _
  have sC : Stc W0 w.heap.size [.int .u64 (m0 : Nat), .int .u64 (m1 : Nat), .int .u32 (a0 : Nat), .int .u32 (a1 : Nat), .int .u32 (p0 : Nat), .int .u32 (p1 : Nat), .int .i64 mtu, .int .i64 (rg : Nat), .int .i64 sm] := (Stc.new w [.int .u64 (m0 : Nat), .int .u64 (m1 : Nat), .int .u32 (a0 : Nat), .int .u32 (a1 : Nat), .int .u32 (p0 : Nat), .int .u32 (p1 : Nat), .int .i64 mtu, .int .i64 (rg : Nat), .int .i64 sm] 72 _ rfl).below (by rw [hW0]; exact (Below.refl _ _).alloc (Nat.le_refl _) _)
  have sR : Stc W0 (w.heap.size + 1) [.pointer none, .pointer none, .pointer none] := by
    have := Stc.new (w.alloc (.cells #[.int .u64 (m0 : Nat), .int .u64 (m1 : Nat), .int .u32 (a0 : Nat), .int .u32 (a1 : Nat), .int .u32 (p0 : Nat), .int .u32 (p1 : Nat), .int .i64 mtu, .int .i64 (rg : Nat), .int .i64 sm] 72)) [.pointer none, .pointer none, .pointer none] 76 W0 hW0
    rw [show (w.alloc (.cells #[.int .u64 (m0 : Nat), .int .u64 (m1 : Nat), .int .u32 (a0 : Nat), .int .u32 (a1 : Nat), .int .u32 (p0 : Nat), .int .u32 (p1 : Nat), .int .i64 mtu, .int .i64 (rg : Nat), .int .i64 sm] 72)).heap.size = w.heap.size + 1 by simp] at this
    exact this
  have HZ := (show Hid _ from And.intro z0 (And.intro hb0 (And.intro sC sR)))
  clear z0 hb0 sC sR
  go_enter Tryz.func101, Tryz.ntmps101
  go_wp2_with fail
  rw [← hW0]
  clear hW0
  refine Calls.mono (HR.out W0) ?_
  rintro e w1 ⟨pi, rfl, ⟨gi, hi⟩, hb1⟩
  obtain ⟨z0, hb0, sC, sR⟩ := HZ.out
  have c7 : w1.cell? ⟨w.heap.size, 7, none⟩ = some (.int .i64 (rg : Nat)) := (sC.below hb1).cell 7 _ rfl
  have H1 := (show Hid _ from And.intro hi hb1)
  clear hi hb1 z0 hb0 sC sR
  go_wp2_with fail
  refine Calls.mono (HR.out w1) ?_
  rintro e w2 ⟨po, rfl, ⟨go, ho⟩, hb2⟩
  obtain ⟨z0, hb0, sC, sR⟩ := HZ.out
  have HALL : Hid (∀ V, Below w2.heap.size w2 V → V.cell? ⟨w.heap.size, 0, none⟩ = some (.int .u64 (m0 : Nat)) ∧ V.cell? ⟨w.heap.size, 2, none⟩ = some (.int .u32 (a0 : Nat))) := fun V hV => ⟨(((sC.below H1.out.2).below hb2).below hV).cell 0 _ rfl, (((sC.below H1.out.2).below hb2).below hV).cell 2 _ rfl⟩
  have H2 := (show Hid _ from And.intro ho hb2)
  clear ho hb2 z0 hb0 sC sR c7
  have hd : Below w2.heap.size w2 w2.drew := (Below.refl _ _).drew
  go_wp2_with fail
  obtain ⟨s0, s1⟩ := HALL.out _ hd
  go_region_held3 (fun w' => w'.cell? ⟨w.heap.size, 0, none⟩ = some (.int .u64 (m0 : Nat)) ∧ w'.cell? ⟨w.heap.size, 2, none⟩ = some (.int .u32 (a0 : Nat))) (first | exact ⟨by assumption, by assumption⟩ | go_keep | fail) (first
    | (go_at_call 130; refine (HC.out _).mono ?_; rintro e w3 ⟨rfl, hs3, hb3⟩; obtain ⟨t0, t1⟩ := HALL.out _ (hd.trans (hb3.mono hd.size)))
    | fail)
  all_goals
    obtain ⟨z0, hb0, sC, sR⟩ := HZ.out
    obtain ⟨hi, hb1⟩ := H1.out
    obtain ⟨ho, hb2⟩ := H2.out
    have hb3' : Below w2.heap.size w2 w3 := hd.trans (hb3.mono hd.size)
    have z1 := hb1.size
    have z2 := hb2.size
    have z3 := hs3.lt
    have zd : w2.drew.heap.size = w2.heap.size := rfl
    rw [zd] at z3
    have hR3 := ((sR.below hb1).below hb2).below hb3'
    have R0 : RgS w3 B ⟨pi, gi, rg, 0, 0, 0, []⟩ := (((hi.below hb2).below hb3').rebase (by omega))
    have R1 : RgS w3 B ⟨po, go, rg, 0, 0, 0, []⟩ := ((ho.below hb3').rebase (by omega))
    have q1 := hi.lt
    have q2 := hi.glt
    have q3 := ho.lt
    have q4 := ho.glt
    have q5 := hi.bp
    have q6 := hi.bg
    have q7 := ho.bp
    have q8 := ho.bg
    have r0 := hR3.cell 0 _ rfl
    have r1 := hR3.cell 1 _ rfl
    have r2 := hR3.cell 2 _ rfl
    have f0 := hR3.free 0
    have f1 := hR3.free 1
    have f2 := hR3.free 2
    have HF := (show Hid _ from And.intro R0 (And.intro R1 (And.intro hs3 (And.intro hR3 (hb0.trans ((hb1.trans ((hb2.trans (hb3'.mono hb2.size)).mono hb1.size)).mono (by omega)))))))
    have HQ := (show Hid _ from And.intro z0 (And.intro z1 (And.intro z2 (And.intro z3 (And.intro q1 (And.intro q2 (And.intro q3 (And.intro q4 (And.intro q5 (And.intro q6 (And.intro q7 q8)))))))))))
    clear z0 z1 z2 z3 zd q1 q2 q3 q4 q5 q6 q7 q8 R0 R1 hR3 hb3' hb0 hb1 hb2 hb3 hs3 sC sR hi ho t0 t1 s0 s1
    go_wp2
    obtain ⟨R0, R1, hs3, hR3, hbw⟩ := HF.out
    obtain ⟨z0, z1, z2, z3, q1, q2, q3, q4, q5, q6, q7, q8⟩ := HQ.out
    have hS := ((hR3.set 0 (.pointer (some ⟨pi, 0, none⟩))).set 1 (.pointer (some ⟨po, 0, none⟩))).set 2 (.pointer (some ⟨w2.heap.size, 0, none⟩))
    have hf : Fr (fun k => k = w.heap.size + 1) w3 (((w3.setCell ⟨w.heap.size + 1, 0, none⟩ (.pointer (some ⟨pi, 0, none⟩))).setCell ⟨w.heap.size + 1, 1, none⟩ (.pointer (some ⟨po, 0, none⟩))).setCell ⟨w.heap.size + 1, 2, none⟩ (.pointer (some ⟨w2.heap.size, 0, none⟩))) :=
      ((Fr.setCell (fun k => k = w.heap.size + 1) _ ⟨w.heap.size + 1, 0, none⟩ _ rfl).trans (Fr.setCell (fun k => k = w.heap.size + 1) _ ⟨w.heap.size + 1, 1, none⟩ _ rfl)).trans (Fr.setCell (fun k => k = w.heap.size + 1) _ ⟨w.heap.size + 1, 2, none⟩ _ rfl)
    refine bodyPost_ret (results_cellE2 rfl _ _ (w.heap.size + 1) 0 [.pointer (some ⟨pi, 0, none⟩), .pointer (some ⟨po, 0, none⟩), .pointer (some ⟨w2.heap.size, 0, none⟩)] _ rfl hS.range Tryz.underlying76 rfl (by kernel_rfl)) rfl ?_
    have zf := hf.size
    exact ⟨⟨pi, gi, po, go, w2.heap.size, rfl, ⟨R0.fr hf (show ¬ pi = w.heap.size + 1 by omega) (show ¬ gi = w.heap.size + 1 by omega) (fun x hx => by cases hx), R1.fr hf (show ¬ po = w.heap.size + 1 by omega) (show ¬ go = w.heap.size + 1 by omega) (fun x hx => by cases hx), hs3.fr hf (show ¬ w2.heap.size = w.heap.size + 1 by omega), by omega⟩⟩, hbw.trans (hf.below _ hbw.size (fun k hk => by omega))⟩
set_option maxRecDepth 100000 in
set_option maxHeartbeats 4000000 in
theorem hcard1 (m0 m1 a0 a1 p0 p1 rg : Nat) (mtu sm : Int) (w : World) (B : Nat) (hB : B ≤ w.heap.size) (h1 : 1 ≤ rg) (h2 : rg ≤ 64) (hm : m1 < 281474976710655) :
    Calls Tryz.prog 101 #[.agg #[.int .u64 (m0 : Nat), .int .u64 (m1 : Nat), .int .u32 (a0 : Nat), .int .u32 (a1 : Nat), .int .u32 (p0 : Nat), .int .u32 (p1 : Nat), .int .i64 mtu, .int .i64 (rg : Nat), .int .i64 sm], .int .i64 1] w fun e w' => (∃ i gi o g n, e = .returned (.tuple #[.agg #[.pointer (some ⟨i, 0, none⟩), .pointer (some ⟨o, 0, none⟩), .pointer (some ⟨n, 0, none⟩)], .bool true]) ∧ CdW w' B w.heap.size w'.heap.size rg m1 a1 i gi o g n) ∧ Below w.heap.size w w' := by
  have hr := fun W => rnew_any rg W h1 h2
  have hc := fun W => anew_ok m1 a1 W hm
  have HR := (show Hid _ from hr)
  have HC := (show Hid _ from hc)
  clear hr hc
  obtain ⟨W0, hW0⟩ : ∃ W, W = (w.alloc (.cells #[.int .u64 (m0 : Nat), .int .u64 (m1 : Nat), .int .u32 (a0 : Nat), .int .u32 (a1 : Nat), .int .u32 (p0 : Nat), .int .u32 (p1 : Nat), .int .i64 mtu, .int .i64 (rg : Nat), .int .i64 sm] 72)).alloc (.cells #[.pointer none, .pointer none, .pointer none] 76) := ⟨_, rfl⟩
  have z0 : W0.heap.size = w.heap.size + 2 := by rw [hW0]; simp
  have hb0 : Below w.heap.size w W0 := by rw [hW0]; exact ((Below.refl _ _).alloc (Nat.le_refl _) _).alloc (by simp) _
  have sC : Stc W0 w.heap.size [.int .u64 (m0 : Nat), .int .u64 (m1 : Nat), .int .u32 (a0 : Nat), .int .u32 (a1 : Nat), .int .u32 (p0 : Nat), .int .u32 (p1 : Nat), .int .i64 mtu, .int .i64 (rg : Nat), .int .i64 sm] := (Stc.new w [.int .u64 (m0 : Nat), .int .u64 (m1 : Nat), .int .u32 (a0 : Nat), .int .u32 (a1 : Nat), .int .u32 (p0 : Nat), .int .u32 (p1 : Nat), .int .i64 mtu, .int .i64 (rg : Nat), .int .i64 sm] 72 _ rfl).below (by rw [hW0]; exact (Below.refl _ _).alloc (Nat.le_refl _) _)
  have sR : Stc W0 (w.heap.size + 1) [.pointer none, .pointer none, .pointer none] := by
    have := Stc.new (w.alloc (.cells #[.int .u64 (m0 : Nat), .int .u64 (m1 : Nat), .int .u32 (a0 : Nat), .int .u32 (a1 : Nat), .int .u32 (p0 : Nat), .int .u32 (p1 : Nat), .int .i64 mtu, .int .i64 (rg : Nat), .int .i64 sm] 72)) [.pointer none, .pointer none, .pointer none] 76 W0 hW0
    rw [show (w.alloc (.cells #[.int .u64 (m0 : Nat), .int .u64 (m1 : Nat), .int .u32 (a0 : Nat), .int .u32 (a1 : Nat), .int .u32 (p0 : Nat), .int .u32 (p1 : Nat), .int .i64 mtu, .int .i64 (rg : Nat), .int .i64 sm] 72)).heap.size = w.heap.size + 1 by simp] at this
    exact this
  have HZ := (show Hid _ from And.intro z0 (And.intro hb0 (And.intro sC sR)))
  clear z0 hb0 sC sR
  go_enter Tryz.func101, Tryz.ntmps101
  go_wp2_with fail
  rw [← hW0]
  clear hW0
  refine Calls.mono (HR.out W0) ?_
  rintro e w1 ⟨pi, rfl, ⟨gi, hi⟩, hb1⟩
  obtain ⟨z0, hb0, sC, sR⟩ := HZ.out
  have c7 : w1.cell? ⟨w.heap.size, 7, none⟩ = some (.int .i64 (rg : Nat)) := (sC.below hb1).cell 7 _ rfl
  have H1 := (show Hid _ from And.intro hi hb1)
  clear hi hb1 z0 hb0 sC sR
  go_wp2_with fail
  refine Calls.mono (HR.out w1) ?_
  rintro e w2 ⟨po, rfl, ⟨go, ho⟩, hb2⟩
  obtain ⟨z0, hb0, sC, sR⟩ := HZ.out
  have HALL : Hid (∀ V, Below w2.heap.size w2 V → V.cell? ⟨w.heap.size, 1, none⟩ = some (.int .u64 (m1 : Nat)) ∧ V.cell? ⟨w.heap.size, 3, none⟩ = some (.int .u32 (a1 : Nat))) := fun V hV => ⟨(((sC.below H1.out.2).below hb2).below hV).cell 1 _ rfl, (((sC.below H1.out.2).below hb2).below hV).cell 3 _ rfl⟩
  have H2 := (show Hid _ from And.intro ho hb2)
  clear ho hb2 z0 hb0 sC sR c7
  have hd : Below w2.heap.size w2 w2.drew := (Below.refl _ _).drew
  go_wp2_with fail
  obtain ⟨s0, s1⟩ := HALL.out _ hd
  go_region_held3 (fun w' => w'.cell? ⟨w.heap.size, 1, none⟩ = some (.int .u64 (m1 : Nat)) ∧ w'.cell? ⟨w.heap.size, 3, none⟩ = some (.int .u32 (a1 : Nat))) (first | exact ⟨by assumption, by assumption⟩ | go_keep | fail) (first
    | (go_at_call 130; refine (HC.out _).mono ?_; rintro e w3 ⟨rfl, hs3, hb3⟩; obtain ⟨t0, t1⟩ := HALL.out _ (hd.trans (hb3.mono hd.size)))
    | fail)
  all_goals
    obtain ⟨z0, hb0, sC, sR⟩ := HZ.out
    obtain ⟨hi, hb1⟩ := H1.out
    obtain ⟨ho, hb2⟩ := H2.out
    have hb3' : Below w2.heap.size w2 w3 := hd.trans (hb3.mono hd.size)
    have z1 := hb1.size
    have z2 := hb2.size
    have z3 := hs3.lt
    have zd : w2.drew.heap.size = w2.heap.size := rfl
    rw [zd] at z3
    have hR3 := ((sR.below hb1).below hb2).below hb3'
    have R0 : RgS w3 B ⟨pi, gi, rg, 0, 0, 0, []⟩ := (((hi.below hb2).below hb3').rebase (by omega))
    have R1 : RgS w3 B ⟨po, go, rg, 0, 0, 0, []⟩ := ((ho.below hb3').rebase (by omega))
    have q1 := hi.lt
    have q2 := hi.glt
    have q3 := ho.lt
    have q4 := ho.glt
    have q5 := hi.bp
    have q6 := hi.bg
    have q7 := ho.bp
    have q8 := ho.bg
    have r0 := hR3.cell 0 _ rfl
    have r1 := hR3.cell 1 _ rfl
    have r2 := hR3.cell 2 _ rfl
    have f0 := hR3.free 0
    have f1 := hR3.free 1
    have f2 := hR3.free 2
    have HF := (show Hid _ from And.intro R0 (And.intro R1 (And.intro hs3 (And.intro hR3 (hb0.trans ((hb1.trans ((hb2.trans (hb3'.mono hb2.size)).mono hb1.size)).mono (by omega)))))))
    have HQ := (show Hid _ from And.intro z0 (And.intro z1 (And.intro z2 (And.intro z3 (And.intro q1 (And.intro q2 (And.intro q3 (And.intro q4 (And.intro q5 (And.intro q6 (And.intro q7 q8)))))))))))
    clear z0 z1 z2 z3 zd q1 q2 q3 q4 q5 q6 q7 q8 R0 R1 hR3 hb3' hb0 hb1 hb2 hb3 hs3 sC sR hi ho t0 t1 s0 s1
    go_wp2
    obtain ⟨R0, R1, hs3, hR3, hbw⟩ := HF.out
    obtain ⟨z0, z1, z2, z3, q1, q2, q3, q4, q5, q6, q7, q8⟩ := HQ.out
    have hS := ((hR3.set 0 (.pointer (some ⟨pi, 0, none⟩))).set 1 (.pointer (some ⟨po, 0, none⟩))).set 2 (.pointer (some ⟨w2.heap.size, 0, none⟩))
    have hf : Fr (fun k => k = w.heap.size + 1) w3 (((w3.setCell ⟨w.heap.size + 1, 0, none⟩ (.pointer (some ⟨pi, 0, none⟩))).setCell ⟨w.heap.size + 1, 1, none⟩ (.pointer (some ⟨po, 0, none⟩))).setCell ⟨w.heap.size + 1, 2, none⟩ (.pointer (some ⟨w2.heap.size, 0, none⟩))) :=
      ((Fr.setCell (fun k => k = w.heap.size + 1) _ ⟨w.heap.size + 1, 0, none⟩ _ rfl).trans (Fr.setCell (fun k => k = w.heap.size + 1) _ ⟨w.heap.size + 1, 1, none⟩ _ rfl)).trans (Fr.setCell (fun k => k = w.heap.size + 1) _ ⟨w.heap.size + 1, 2, none⟩ _ rfl)
    refine bodyPost_ret (results_cellE2 rfl _ _ (w.heap.size + 1) 0 [.pointer (some ⟨pi, 0, none⟩), .pointer (some ⟨po, 0, none⟩), .pointer (some ⟨w2.heap.size, 0, none⟩)] _ rfl hS.range Tryz.underlying76 rfl (by kernel_rfl)) rfl ?_
    have zf := hf.size
    exact ⟨⟨pi, gi, po, go, w2.heap.size, rfl, ⟨R0.fr hf (show ¬ pi = w.heap.size + 1 by omega) (show ¬ gi = w.heap.size + 1 by omega) (fun x hx => by cases hx), R1.fr hf (show ¬ po = w.heap.size + 1 by omega) (show ¬ go = w.heap.size + 1 by omega) (fun x hx => by cases hx), hs3.fr hf (show ¬ w2.heap.size = w.heap.size + 1 by omega), by omega⟩⟩, hbw.trans (hf.below _ hbw.size (fun k hk => by omega))⟩
end Go.Proofs.YtfjpckaphfdfnaaGreatDoor
namespace Go.Proofs.YtfjpckaphfdfnaaGreatDoor
open Go.RowKit Go.MapKept Go.Maps
set_option maxRecDepth 100000 in
theorem hrnew_any (w : World) : Calls Tryz.prog 100 #[] w fun e w' => e = .returned (.pointer (some ⟨w.heap.size, 0, none⟩)) ∧ Stc w' w.heap.size [.int .i64 0, .slice none 0 0, .int .i64 0] ∧ w.heap.size < w'.heap.size ∧ Below w.heap.size w w' := by
  have hp := Stc.new w [.int .i64 0, .slice none 0 0, .int .i64 0] 157 _ rfl
  go_enter Tryz.func100, Tryz.ntmps100
  go_wp2
  go_ret
  exact ⟨rfl, hp, by simp, (Below.refl _ _).alloc (Nat.le_refl _) _⟩
def hst0 (m0 m1 a0 a1 p0 p1 rg : Nat) (mtu sm : Int) (sec : Value) (q : Nat) : HSt := ⟨m0, m1, a0, a1, p0, p1, mtu, (rg : Int), sm, sec, 0, q, 0, 0, .slice none 0 0, 0, 0, 0, 0, 0, 0, []⟩
/-- How far New's loop has come: k cards stand in the host's cells. -/
structure NwS (w wr : World) (p q rg m0 m1 a0 a1 : Nat) (s0 : HSt) (cfg : List Value) (k : Nat) : Prop where
  bel : Below w.heap.size w wr
  pq : Stc wr q [.int .i64 0, .slice none 0 0, .int .i64 0]
  cf : Stc wr w.heap.size cfg
  od : w.heap.size < q ∧ q < p ∧ p < wr.heap.size
  ex : (k = 0 ∧ Stc wr p (hoCv s0 (.pointer none) (.pointer none) (.pointer none) (.pointer none) (.pointer none) (.pointer none)))
    ∨ ∃ i gi o g n hi, p < hi ∧ hi ≤ wr.heap.size ∧ CdW wr w.heap.size (p + 1) hi rg m0 a0 i gi o g n
      ∧ ((k = 1 ∧ Stc wr p (hoCv s0 (.pointer (some ⟨i, 0, none⟩)) (.pointer (some ⟨o, 0, none⟩)) (.pointer (some ⟨n, 0, none⟩)) (.pointer none) (.pointer none) (.pointer none)))
        ∨ (k = 2 ∧ ∃ i2 gi2 o2 g2 n2, CdW wr w.heap.size hi wr.heap.size rg m1 a1 i2 gi2 o2 g2 n2 ∧ Stc wr p (hoC s0 i o n i2 o2 n2)))
theorem CaW.mk0 {w : World} {n mac ip : Nat} (h : Stc w n (CaC mac ip 0 (.map none) 0)) (hm : mac < 281474976710655) (hi : ip < 4294967296) :
    CaW w (fun g => if g = n then .cache else .no) n mac ip 0 0 [] :=
  ⟨if_pos rfl, .inl ⟨h, rfl⟩, fun y hy => (by cases hy), List.Pairwise.nil, Nat.zero_le _, fun g hg => if_neg (by have := h.lt; omega), hm, hi, by omega, by omega⟩
theorem CdW.wide {w : World} {B lo hi lo' hi' N m ip i gi o g n : Nat} (h : CdW w B lo hi N m ip i gi o g n) (h1 : lo' ≤ lo) (h2 : hi ≤ hi') : CdW w B lo' hi' N m ip i gi o g n := by
  obtain ⟨o1, o2, o3, o4, o5, o6, o7, o8, o9, o10, o11⟩ := h.od
  exact ⟨h.r0, h.r1, h.ca, by omega, by omega, by omega, by omega, by omega, by omega, by omega, by omega, by omega, by omega, o11⟩
section
variable {w wr w3 W4 : World} {p q rg m0 m1 a0 a1 : Nat} {s0 : HSt} {cfg : List Value} {i gi o g n : Nat}
theorem NwS.first (hN : NwS w wr p q rg m0 m1 a0 a1 s0 cfg 0) (hcd : CdW w3 w.heap.size wr.heap.size w3.heap.size rg m0 a0 i gi o g n) (hb3 : Below wr.heap.size wr w3) (hb4 : Below w3.heap.size w3 W4) :
    NwS w (((W4.setCell ⟨p, 11, none⟩ (.pointer (some ⟨i, 0, none⟩))).setCell ⟨p, 12, none⟩ (.pointer (some ⟨o, 0, none⟩))).setCell ⟨p, 13, none⟩ (.pointer (some ⟨n, 0, none⟩))).drew p q rg m0 m1 a0 a1 s0 cfg 1 := by
  obtain ⟨d1, d2, d3⟩ := hN.od
  have z3 := hb3.size
  have z4 := hb4.size
  have zw := hN.bel.size
  have hf : Fr (fun k => k = p) W4 (((W4.setCell ⟨p, 11, none⟩ (.pointer (some ⟨i, 0, none⟩))).setCell ⟨p, 12, none⟩ (.pointer (some ⟨o, 0, none⟩))).setCell ⟨p, 13, none⟩ (.pointer (some ⟨n, 0, none⟩))).drew :=
    (((Fr.setCell (fun k => k = p) _ ⟨p, 11, none⟩ _ rfl).trans (Fr.setCell (fun k => k = p) _ ⟨p, 12, none⟩ _ rfl)).trans (Fr.setCell (fun k => k = p) _ ⟨p, 13, none⟩ _ rfl)).trans (Fr.of_below (Below.refl _ _).drew)
  have zf := hf.size
  have hbx : Below w.heap.size w W4 := hN.bel.trans ((hb3.trans (hb4.mono z3)).mono zw)
  refine ⟨hbx.trans (hf.below _ hbx.size (fun k hk => by omega)), ((hN.pq.below hb3).below hb4).fr hf (by omega), ((hN.cf.below hb3).below hb4).fr hf (by omega), ⟨d1, d2, by omega⟩, .inr ⟨i, gi, o, g, n, w3.heap.size, by omega, by omega, ((hcd.wide (lo' := p + 1) (by omega) (Nat.le_refl _)).below hb4).fr hf (fun k hk => .inl (by omega)), .inl ⟨rfl, ?_⟩⟩⟩
  rcases hN.ex with ⟨_, h⟩ | ⟨i, gi, o, g, n, hi, _, _, _, ⟨h, _⟩ | ⟨h, _⟩⟩
  · exact ((((((h.below hb3).below hb4).set 11 (.pointer (some ⟨_, 0, none⟩))).set 12 (.pointer (some ⟨_, 0, none⟩))).set 13 (.pointer (some ⟨_, 0, none⟩)))).below (Below.refl _ _).drew
  · omega
  · omega
theorem NwS.second (hN : NwS w wr p q rg m0 m1 a0 a1 s0 cfg 1) (hcd : CdW w3 w.heap.size wr.heap.size w3.heap.size rg m1 a1 i gi o g n) (hb3 : Below wr.heap.size wr w3) (hb4 : Below w3.heap.size w3 W4) :
    NwS w (((W4.setCell ⟨p, 14, none⟩ (.pointer (some ⟨i, 0, none⟩))).setCell ⟨p, 15, none⟩ (.pointer (some ⟨o, 0, none⟩))).setCell ⟨p, 16, none⟩ (.pointer (some ⟨n, 0, none⟩))).drew p q rg m0 m1 a0 a1 s0 cfg 2 := by
  obtain ⟨d1, d2, d3⟩ := hN.od
  have z3 := hb3.size
  have z4 := hb4.size
  have zw := hN.bel.size
  have hf : Fr (fun k => k = p) W4 (((W4.setCell ⟨p, 14, none⟩ (.pointer (some ⟨i, 0, none⟩))).setCell ⟨p, 15, none⟩ (.pointer (some ⟨o, 0, none⟩))).setCell ⟨p, 16, none⟩ (.pointer (some ⟨n, 0, none⟩))).drew :=
    (((Fr.setCell (fun k => k = p) _ ⟨p, 14, none⟩ _ rfl).trans (Fr.setCell (fun k => k = p) _ ⟨p, 15, none⟩ _ rfl)).trans (Fr.setCell (fun k => k = p) _ ⟨p, 16, none⟩ _ rfl)).trans (Fr.of_below (Below.refl _ _).drew)
  have zf := hf.size
  have hbx : Below w.heap.size w W4 := hN.bel.trans ((hb3.trans (hb4.mono z3)).mono zw)
  rcases hN.ex with ⟨h, _⟩ | ⟨i', gi', o', g', n', hi, k1, k2, k3, ⟨_, h⟩ | ⟨h, _⟩⟩
  · omega
  · refine ⟨hbx.trans (hf.below _ hbx.size (fun k hk => by omega)), ((hN.pq.below hb3).below hb4).fr hf (by omega), ((hN.cf.below hb3).below hb4).fr hf (by omega), ⟨d1, d2, by omega⟩, .inr ⟨i', gi', o', g', n', hi, k1, by omega, ((k3.below hb3).below hb4).fr hf (fun k hk => .inl (by omega)), .inr ⟨rfl, i, gi, o, g, n, ((hcd.wide (lo' := hi) k2 (Nat.le_trans z4 zf)).below hb4).fr hf (fun k hk => .inl (by omega)), ?_⟩⟩⟩
    exact ((((((h.below hb3).below hb4).set 14 (.pointer (some ⟨i, 0, none⟩))).set 15 (.pointer (some ⟨o, 0, none⟩))).set 16 (.pointer (some ⟨n, 0, none⟩)))).below (Below.refl _ _).drew
  · omega
def newR (N i gi o g i2 gi2 o2 g2 : Nat) : Nat → RSt := fun k => if k = 0 then ⟨i, gi, N, 0, 0, 0, []⟩ else if k = 1 then ⟨o, g, N, 0, 0, 0, []⟩ else if k = 2 then ⟨i2, gi2, N, 0, 0, 0, []⟩ else ⟨o2, g2, N, 0, 0, 0, []⟩
def newC (m0 a0 n m1 a1 n2 : Nat) : Nat → CSt := fun k => if k = 0 then ⟨n, m0, a0, 0, 0, []⟩ else ⟨n2, m1, a1, 0, 0, []⟩
set_option maxHeartbeats 4000000 in
theorem NwS.done (hN : NwS w wr p q rg m0 m1 a0 a1 s0 cfg 2) (hq : s0.q = q) (hpn : s0.pn = 0) (hE : s0.E = []) (hm0 : m0 < 281474976710655) (hm1 : m1 < 281474976710655) (ha0 : a0 < 4294967296) (ha1 : a1 < 4294967296) :
    ∃ i gi o g n i2 gi2 o2 g2 n2, HoW w wr p s0 (newR rg i gi o g i2 gi2 o2 g2) (newC m0 a0 n m1 a1 n2) := by
  obtain ⟨d1, d2, d3⟩ := hN.od
  rcases hN.ex with ⟨h, _⟩ | ⟨i, gi, o, g, n, hi, k1, k2, k3, ⟨h, _⟩ | ⟨_, i2, gi2, o2, g2, n2, k4, k5⟩⟩
  · omega
  · omega
  obtain ⟨x1, x2, x3, x4, x5, x6, x7, x8, x9, x10, x11, x12, x13, x14, x15, x16, x17, x18⟩ := k3.od
  obtain ⟨y1, y2, y3, y4, y5, y6, y7, y8, y9, y10, y11, y12, y13, y14, y15, y16, y17, y18⟩ := k4.od
  obtain ⟨ro, hro⟩ : ∃ ro : Nat → Nat, ro = fun k => if k = p then 1 else if k = q then 2 else if k = i ∨ k = gi then 10 else if k = o ∨ k = g then 11 else if k = i2 ∨ k = gi2 then 12 else if k = o2 ∨ k = g2 then 13 else if k = n then 20 else if k = n2 then 21 else 0 := ⟨_, rfl⟩
  have hv : ∀ k, ro k = if k = p then 1 else if k = q then 2 else if k = i ∨ k = gi then 10 else if k = o ∨ k = g then 11 else if k = i2 ∨ k = gi2 then 12 else if k = o2 ∨ k = g2 then 13 else if k = n then 20 else if k = n2 then 21 else 0 := fun k => by rw [hro]
  refine ⟨i, gi, o, g, n, i2, gi2, o2, g2, n2, ro, k5, by rw [hv]; simp, by rw [hq, hpn]; exact hN.pq, by rw [hv, hq]; rw [if_neg (by omega), if_pos rfl], fun k hk => ?_, fun k hk => ?_, fun k hk => ?_, fun k hk => ?_, (fun x hx => by rw [hE] at hx; cases hx), hN.bel⟩
  · have hk4 : k = 0 ∨ k = 1 ∨ k = 2 ∨ k = 3 := by omega
    rcases hk4 with rfl | rfl | rfl | rfl
    · exact ⟨k3.r0, (by show ro i = 10; rw [hv]; (repeat rw [if_neg (by omega)]); rw [if_pos (by omega)]), (by show ro gi = 10; rw [hv]; (repeat rw [if_neg (by omega)]); rw [if_pos (by omega)]), fun x hx => by cases hx⟩
    · exact ⟨k3.r1, (by show ro o = 11; rw [hv]; (repeat rw [if_neg (by omega)]); rw [if_pos (by omega)]), (by show ro g = 11; rw [hv]; (repeat rw [if_neg (by omega)]); rw [if_pos (by omega)]), fun x hx => by cases hx⟩
    · exact ⟨k4.r0, (by show ro i2 = 12; rw [hv]; (repeat rw [if_neg (by omega)]); rw [if_pos (by omega)]), (by show ro gi2 = 12; rw [hv]; (repeat rw [if_neg (by omega)]); rw [if_pos (by omega)]), fun x hx => by cases hx⟩
    · exact ⟨k4.r1, (by show ro o2 = 13; rw [hv]; (repeat rw [if_neg (by omega)]); rw [if_pos (by omega)]), (by show ro g2 = 13; rw [hv]; (repeat rw [if_neg (by omega)]); rw [if_pos (by omega)]), fun x hx => by cases hx⟩
  · have hk2 : k = 0 ∨ k = 1 := by omega
    rcases hk2 with rfl | rfl
    · refine ⟨_, CaW.mk0 k3.ca hm0 ha0, fun j hj => ?_⟩
      have : j = n := by rcases Nat.decEq j n with e | e; exact absurd (if_neg e) hj; exact e
      subst this
      rw [hv]; (repeat rw [if_neg (by omega)]); rw [if_pos rfl]
    · refine ⟨_, CaW.mk0 k4.ca hm1 ha1, fun j hj => ?_⟩
      have : j = n2 := by rcases Nat.decEq j n2 with e | e; exact absurd (if_neg e) hj; exact e
      subst this
      rw [hv]; (repeat rw [if_neg (by omega)]); rw [if_pos rfl]
  · rw [hv]; (repeat rw [if_neg (by omega)])
  · rcases Nat.lt_or_ge k w.heap.size with hl | hl
    · exfalso
      apply hk
      rw [hv]; (repeat rw [if_neg (by omega)])
    · exact hl
end
set_option maxRecDepth 100000 in
set_option maxHeartbeats 4000000 in
theorem zero_ho (m0 m1 a0 a1 p0 p1 rg : Nat) (mtu sm : Int) (xa : Option Addr) (sn xc q : Nat) : (((((((((((Tryz.zeroCells83.setIfInBounds 0 (.int .u64 (m0 : Nat))).setIfInBounds 1 (.int .u64 (m1 : Nat))).setIfInBounds 2 (.int .u32 (a0 : Nat))).setIfInBounds 3 (.int .u32 (a1 : Nat))).setIfInBounds 4 (.int .u32 (p0 : Nat))).setIfInBounds 5 (.int .u32 (p1 : Nat))).setIfInBounds 6 (.int .i64 mtu)).setIfInBounds 7 (.int .i64 (rg : Nat))).setIfInBounds 8 (.int .i64 sm)).setIfInBounds 9 (.slice xa sn xc)).setIfInBounds 17 (.pointer (some ⟨q, 0, none⟩))) = (hoCv (hst0 m0 m1 a0 a1 p0 p1 rg mtu sm (.slice xa sn xc) q) (.pointer none) (.pointer none) (.pointer none) (.pointer none) (.pointer none) (.pointer none)).toArray := by kernel_rfl
set_option maxRecDepth 100000 in
set_option maxHeartbeats 4000000 in
theorem hnew_ok (m0 m1 a0 a1 p0 p1 rg : Nat) (mtu sm : Int) (sa : Option Addr) (sn sc : Nat) (zs : List Nat) (w : World) (hs : Sl w sa sn sc zs) (hn : sn ≤ 140737488351232) (h1 : 192 ≤ mtu) (h2 : mtu ≤ 1500) (h3 : 1 ≤ sm) (h4 : sm ≤ 8) (h5 : a0 ≠ a1) (h6 : p0 ≠ p1) (hr1 : 1 ≤ rg) (hr2 : rg ≤ 64) (hm0 : m0 < 281474976710655) (hm1 : m1 < 281474976710655) (ha0 : a0 < 4294967296) (ha1 : a1 < 4294967296) :
    Calls Tryz.prog 57 #[.agg #[.int .u64 (m0 : Nat), .int .u64 (m1 : Nat), .int .u32 (a0 : Nat), .int .u32 (a1 : Nat), .int .u32 (p0 : Nat), .int .u32 (p1 : Nat), .int .i64 mtu, .int .i64 (rg : Nat), .int .i64 sm], .slice sa sn sc] w fun e w' => ∃ p q sec i gi o g n i2 gi2 o2 g2 n2, e = .returned (.tuple #[.pointer (some ⟨p, 0, none⟩), .int .i64 0]) ∧ HoW w w' p (hst0 m0 m1 a0 a1 p0 p1 rg mtu sm sec q) (newR rg i gi o g i2 gi2 o2 g2) (newC m0 a0 n m1 a1 n2) := by
  have HRT := (show Hid _ from fun W => hright_ok m0 m1 a0 a1 p0 p1 rg mtu sm W h1 h2 h3 h4 h5 h6)
  have HRN := (show Hid _ from hrnew_any)
  obtain ⟨W0, hW0⟩ : ∃ W, W = w.alloc (.cells #[.int .u64 (m0 : Nat), .int .u64 (m1 : Nat), .int .u32 (a0 : Nat), .int .u32 (a1 : Nat), .int .u32 (p0 : Nat), .int .u32 (p1 : Nat), .int .i64 mtu, .int .i64 (rg : Nat), .int .i64 sm] 72) := ⟨_, rfl⟩
  have hb0 : Below w.heap.size w W0 := by rw [hW0]; exact (Below.refl _ _).alloc (Nat.le_refl _) _
  have sC : Stc W0 w.heap.size [.int .u64 (m0 : Nat), .int .u64 (m1 : Nat), .int .u32 (a0 : Nat), .int .u32 (a1 : Nat), .int .u32 (p0 : Nat), .int .u32 (p1 : Nat), .int .i64 mtu, .int .i64 (rg : Nat), .int .i64 sm] := Stc.new w [.int .u64 (m0 : Nat), .int .u64 (m1 : Nat), .int .u32 (a0 : Nat), .int .u32 (a1 : Nat), .int .u32 (p0 : Nat), .int .u32 (p1 : Nat), .int .i64 mtu, .int .i64 (rg : Nat), .int .i64 sm] 72 _ hW0
  have HCL := (show Hid _ from fun W (hW : Below w.heap.size w W) => clone_any sa sn sc zs W (hs.below hW) hn)
  have HC0 := (show Hid _ from fun W B hB => hcard0 m0 m1 a0 a1 p0 p1 rg mtu sm W B hB hr1 hr2 hm0)
  have HC1 := (show Hid _ from fun W B hB => hcard1 m0 m1 a0 a1 p0 p1 rg mtu sm W B hB hr1 hr2 hm1)
  have HSC := (show Hid _ from And.intro sC hb0)
  have hr := sC.range
  clear hs hn h1 h2 h3 h4 h5 h6 hr1 hr2 sC hb0
  obtain ⟨cs, hcs⟩ : ∃ cs : List Value, cs = [.int .u64 (m0 : Nat), .int .u64 (m1 : Nat), .int .u32 (a0 : Nat), .int .u32 (a1 : Nat), .int .u32 (p0 : Nat), .int .u32 (p1 : Nat), .int .i64 mtu, .int .i64 (rg : Nat), .int .i64 sm] := ⟨_, rfl⟩
  have hi9 : (Tryz.prog.info? 72).map (·.size) = some cs.length := by rw [hcs]; kernel_rfl
  rw [← hcs] at hr
  have HCS := (show Hid _ from hcs)
  go_enter Tryz.func57, Tryz.ntmps57
  go_wp2_with (first | refine wpList_load_mid rfl 72 _ rfl w.heap.size 0 rfl cs _ hr Tryz.underlying72 rfl hi9 ?_)
  rw [← hW0]
  clear hW0 hr
  refine Calls.mono (HRT.out W0) ?_
  rintro e w1 ⟨rfl, hb1⟩
  obtain ⟨sC, hb0⟩ := HSC.out
  have HALL : Hid (∀ V, Below w1.heap.size w1 V → V.cell? ⟨w.heap.size, 0, none⟩ = some (.int .u64 (m0 : Nat)) ∧ V.cell? ⟨w.heap.size, 1, none⟩ = some (.int .u64 (m1 : Nat)) ∧ V.cell? ⟨w.heap.size, 2, none⟩ = some (.int .u32 (a0 : Nat)) ∧ V.cell? ⟨w.heap.size, 3, none⟩ = some (.int .u32 (a1 : Nat)) ∧ V.cell? ⟨w.heap.size, 4, none⟩ = some (.int .u32 (p0 : Nat)) ∧ V.cell? ⟨w.heap.size, 5, none⟩ = some (.int .u32 (p1 : Nat)) ∧ V.cell? ⟨w.heap.size, 6, none⟩ = some (.int .i64 mtu) ∧ V.cell? ⟨w.heap.size, 7, none⟩ = some (.int .i64 (rg : Nat)) ∧ V.cell? ⟨w.heap.size, 8, none⟩ = some (.int .i64 sm)) := fun V hV => ⟨((sC.below hb1).below hV).cell 0 _ rfl, ((sC.below hb1).below hV).cell 1 _ rfl, ((sC.below hb1).below hV).cell 2 _ rfl, ((sC.below hb1).below hV).cell 3 _ rfl, ((sC.below hb1).below hV).cell 4 _ rfl, ((sC.below hb1).below hV).cell 5 _ rfl, ((sC.below hb1).below hV).cell 6 _ rfl, ((sC.below hb1).below hV).cell 7 _ rfl, ((sC.below hb1).below hV).cell 8 _ rfl⟩
  have HST : Hid (∀ V, Below w1.heap.size w1 V → Stc V w.heap.size [.int .u64 (m0 : Nat), .int .u64 (m1 : Nat), .int .u32 (a0 : Nat), .int .u32 (a1 : Nat), .int .u32 (p0 : Nat), .int .u32 (p1 : Nat), .int .i64 mtu, .int .i64 (rg : Nat), .int .i64 sm]) := fun V hV => (sC.below hb1).below hV
  have HB1 := (show Hid _ from hb0.trans (hb1.mono hb0.size))
  clear hb0 hb1 sC hcs
  go_wp2_with fail
  have hB' : Below w1.heap.size w1 w1.drew := (Below.refl _ _).drew
  have hc0 := HALL.out _ hB'
  go_region_held3 (fun w' => w'.cell? ⟨w.heap.size, 0, none⟩ = some (.int .u64 (m0 : Nat)) ∧ w'.cell? ⟨w.heap.size, 1, none⟩ = some (.int .u64 (m1 : Nat)) ∧ w'.cell? ⟨w.heap.size, 2, none⟩ = some (.int .u32 (a0 : Nat)) ∧ w'.cell? ⟨w.heap.size, 3, none⟩ = some (.int .u32 (a1 : Nat)) ∧ w'.cell? ⟨w.heap.size, 4, none⟩ = some (.int .u32 (p0 : Nat)) ∧ w'.cell? ⟨w.heap.size, 5, none⟩ = some (.int .u32 (p1 : Nat)) ∧ w'.cell? ⟨w.heap.size, 6, none⟩ = some (.int .i64 mtu) ∧ w'.cell? ⟨w.heap.size, 7, none⟩ = some (.int .i64 (rg : Nat)) ∧ w'.cell? ⟨w.heap.size, 8, none⟩ = some (.int .i64 sm)) (first | exact hc0 | exact hc1 | exact hc2 | exact HALL.out _ (hB'.alloc hB'.size _) | go_keep | fail) (first
    | (go_at_call 97; refine (HCL.out _ (HB1.out.trans (hB'.mono HB1.out.size))).mono ?_; rintro e wF ⟨xa, xc, rfl, -, -, hbF⟩; (try (have hPl := hPl.below hbF)); have hB' := hB'.trans (hbF.mono hB'.size); have hc1 := HALL.out _ hB')
    | (go_at_call 100; refine (HRN.out _).mono ?_; rintro e wG ⟨rfl, hPl, hql, hbG⟩; have hB' := hB'.trans (hbG.mono hB'.size); have hc2 := HALL.out _ hB')
    | fail)
  all_goals
    obtain ⟨s0, hs0⟩ : ∃ s0, s0 = hst0 m0 m1 a0 a1 p0 p1 rg mtu sm (.slice xa sn xc) wF.heap.size := ⟨_, rfl⟩
    obtain ⟨W2, hW2⟩ : ∃ W2, W2 = wG.alloc (.cells (hoCv s0 (.pointer none) (.pointer none) (.pointer none) (.pointer none) (.pointer none) (.pointer none)).toArray 83) := ⟨_, rfl⟩
    have hA : (((((((((((Tryz.zeroCells83.setIfInBounds 0 (.int .u64 (m0 : Nat))).setIfInBounds 1 (.int .u64 (m1 : Nat))).setIfInBounds 2 (.int .u32 (a0 : Nat))).setIfInBounds 3 (.int .u32 (a1 : Nat))).setIfInBounds 4 (.int .u32 (p0 : Nat))).setIfInBounds 5 (.int .u32 (p1 : Nat))).setIfInBounds 6 (.int .i64 mtu)).setIfInBounds 7 (.int .i64 (rg : Nat))).setIfInBounds 8 (.int .i64 sm)).setIfInBounds 9 (.slice xa sn xc)).setIfInBounds 17 (.pointer (some ⟨wF.heap.size, 0, none⟩))) = (hoCv s0 (.pointer none) (.pointer none) (.pointer none) (.pointer none) (.pointer none) (.pointer none)).toArray := by
      rw [hs0]
      exact zero_ho _ _ _ _ _ _ _ _ _ _ _ _ _
    rw [hA, ← hW2]
    have st2 := Stc.new wG _ 83 W2 hW2
    have hb2 : Below wG.heap.size wG W2 := by rw [hW2]; exact (Below.refl _ _).alloc (Nat.le_refl _) _
    have hbw := HB1.out.trans (hB'.mono HB1.out.size)
    have hbw2 : Below w.heap.size w W2 := hbw.trans (hb2.mono hbw.size)
    have st2q : Stc W2 wF.heap.size [.int .i64 0, .slice none 0 0, .int .i64 0] := (hPl.below hb2)
    have st2c : Stc W2 w.heap.size [.int .u64 (m0 : Nat), .int .u64 (m1 : Nat), .int .u32 (a0 : Nat), .int .u32 (a1 : Nat), .int .u32 (p0 : Nat), .int .u32 (p1 : Nat), .int .i64 mtu, .int .i64 (rg : Nat), .int .i64 sm] := HST.out _ (hB'.trans (hb2.mono hB'.size))
    have zq : wF.heap.size < wG.heap.size := hql
    have zc : w.heap.size < wF.heap.size := by have := (HST.out _ (Below.refl _ _)).lt; have := hbF.size; have : w1.drew.heap.size = w1.heap.size := rfl; omega
    have zp : wG.heap.size < W2.heap.size := st2.lt
    have HN0 := (show Hid _ from And.intro st2 (And.intro hbw2 (And.intro st2q (And.intro st2c (And.intro zq (And.intro zc zp))))))
    obtain ⟨q, hq⟩ : ∃ q, q = wF.heap.size := ⟨_, rfl⟩
    obtain ⟨p, hp⟩ : ∃ p, p = wG.heap.size := ⟨_, rfl⟩
    rw [← hq, ← hp] at HN0
    rw [← hq] at hs0
    rw [← hp]
    clear hA hb2 hbw hbw2 st2q st2c zq zc zp st2 hW2 hB' hPl hql hbG hbF hc0 hc1 hc2
    generalize Value.agg (hoCv s0 (.pointer none) (.pointer none) (.pointer none) (.pointer none) (.pointer none) (.pointer none)).toArray = A17
    have HW0 : Hid (NwS w W2 p q rg m0 m1 a0 a1 s0 [.int .u64 (m0 : Nat), .int .u64 (m1 : Nat), .int .u32 (a0 : Nat), .int .u32 (a1 : Nat), .int .u32 (p0 : Nat), .int .u32 (p1 : Nat), .int .i64 mtu, .int .i64 (rg : Nat), .int .i64 sm] 0) := by
      obtain ⟨x1, x2, x3, x4, x5, x6, x7⟩ := HN0.out
      exact ⟨x2, x3, x4, ⟨x6, x5, x7⟩, .inl ⟨rfl, x1⟩⟩
    clear HN0 hq hp
    go_wp2_with fail
    go_loopw [19] (fun iv wr => ∃ k : Nat, k ≤ 2 ∧ iv = .int .i64 (k : Nat) ∧ NwS w wr p q rg m0 m1 a0 a1 s0 [.int .u64 (m0 : Nat), .int .u64 (m1 : Nat), .int .u32 (a0 : Nat), .int .u32 (a1 : Nat), .int .u32 (p0 : Nat), .int .u32 (p1 : Nat), .int .i64 mtu, .int .i64 (rg : Nat), .int .i64 sm] k) (fun iv _ => 2 - (intOf iv).toNat)
    case atStart => exact ⟨0, by omega, rfl, HW0.out⟩
    case round =>
      obtain ⟨k, hk, rfl, hN⟩ := hrel
      clear HW0
      have hk3 : k = 0 ∨ k = 1 ∨ k = 2 := by omega
      rcases hk3 with rfl | rfl | rfl
      · have hr := hN.cf.range
        have HN := (show Hid _ from hN)
        rw [← HCS.out] at hr
        clear hN hk
        go_wp2_with (first | refine wpList_load_mid rfl 72 _ rfl w.heap.size 0 rfl cs _ hr Tryz.underlying72 rfl hi9 ?_)
        have hcsa : cs.toArray = #[.int .u64 (m0 : Nat), .int .u64 (m1 : Nat), .int .u32 (a0 : Nat), .int .u32 (a1 : Nat), .int .u32 (p0 : Nat), .int .u32 (p1 : Nat), .int .i64 mtu, .int .i64 (rg : Nat), .int .i64 sm] := by rw [HCS.out]
        rw [hcsa]
        clear hcsa hr
        refine Calls.mono (HC0.out wr w.heap.size HN.out.bel.size) ?_
        rintro e w3 ⟨⟨i, gi, o, g, n, rfl, hcd⟩, hb3⟩
        have H3 := (show Hid _ from And.intro hcd hb3)
        have hz := HN.out.od.2.2
        have hz3 := hb3.size
        clear hcd hb3
        go_wp2_with fail
        obtain ⟨W4, hW4⟩ : ∃ W4, W4 = w3.alloc (.cells #[.pointer (some ⟨i, 0, none⟩), .pointer (some ⟨o, 0, none⟩), .pointer (some ⟨n, 0, none⟩)] 76) := ⟨_, rfl⟩
        have sM := Stc.new w3 [.pointer (some ⟨i, 0, none⟩), .pointer (some ⟨o, 0, none⟩), .pointer (some ⟨n, 0, none⟩)] 76 W4 hW4
        have hb4 : Below w3.heap.size w3 W4 := by rw [hW4]; exact (Below.refl _ _).alloc (Nat.le_refl _) _
        obtain ⟨hcd, hb3⟩ := H3.out
        have sP : Stc W4 p (hoCv s0 (.pointer none) (.pointer none) (.pointer none) (.pointer none) (.pointer none) (.pointer none)) := by
          rcases HN.out.ex with ⟨_, h⟩ | ⟨i, gi, o, g, n, hi, _, _, _, ⟨h, _⟩ | ⟨h, _⟩⟩
          · exact (h.below hb3).below hb4
          · omega
          · omega
        have hd : Below W4.heap.size W4 W4.drew := (Below.refl _ _).drew
        have e0 := sM.cell 0 _ rfl
        have e1 := sM.cell 1 _ rfl
        have e2 := sM.cell 2 _ rfl
        have t0 := sP.cell 11 _ rfl
        have t1 := sP.cell 12 _ rfl
        have t2 := sP.cell 13 _ rfl
        have f0 := sP.free 11
        have f1 := sP.free 12
        have f2 := sP.free 13
        have H4 := (show Hid _ from And.intro sP (And.intro hb4 hd))
        clear sP hb4 hd sM hcd hb3
        rw [← hW4]
        clear hW4
        go_region
        all_goals
          have HF := (show Hid _ from NwS.first HN.out H3.out.1 H3.out.2 H4.out.2.1)
          go_wp2
          go_roundw
          case rel => exact ⟨1, by omega, by go_num, HF.out⟩
          case measure => simp [intOf]
      · have hr := hN.cf.range
        have HN := (show Hid _ from hN)
        rw [← HCS.out] at hr
        clear hN hk
        go_wp2_with (first | refine wpList_load_mid rfl 72 _ rfl w.heap.size 0 rfl cs _ hr Tryz.underlying72 rfl hi9 ?_)
        have hcsa : cs.toArray = #[.int .u64 (m0 : Nat), .int .u64 (m1 : Nat), .int .u32 (a0 : Nat), .int .u32 (a1 : Nat), .int .u32 (p0 : Nat), .int .u32 (p1 : Nat), .int .i64 mtu, .int .i64 (rg : Nat), .int .i64 sm] := by rw [HCS.out]
        rw [hcsa]
        clear hcsa hr
        refine Calls.mono (HC1.out wr w.heap.size HN.out.bel.size) ?_
        rintro e w3 ⟨⟨i, gi, o, g, n, rfl, hcd⟩, hb3⟩
        have H3 := (show Hid _ from And.intro hcd hb3)
        have hz := HN.out.od.2.2
        have hz3 := hb3.size
        clear hcd hb3
        go_wp2_with fail
        obtain ⟨W4, hW4⟩ : ∃ W4, W4 = w3.alloc (.cells #[.pointer (some ⟨i, 0, none⟩), .pointer (some ⟨o, 0, none⟩), .pointer (some ⟨n, 0, none⟩)] 76) := ⟨_, rfl⟩
        have sM := Stc.new w3 [.pointer (some ⟨i, 0, none⟩), .pointer (some ⟨o, 0, none⟩), .pointer (some ⟨n, 0, none⟩)] 76 W4 hW4
        have hb4 : Below w3.heap.size w3 W4 := by rw [hW4]; exact (Below.refl _ _).alloc (Nat.le_refl _) _
        obtain ⟨hcd, hb3⟩ := H3.out
        have sP : ∃ i' o' n', Stc W4 p (hoCv s0 (.pointer (some ⟨i', 0, none⟩)) (.pointer (some ⟨o', 0, none⟩)) (.pointer (some ⟨n', 0, none⟩)) (.pointer none) (.pointer none) (.pointer none)) := by
          rcases HN.out.ex with ⟨h, _⟩ | ⟨i', gi', o', g', n', hi, _, _, _, ⟨_, h⟩ | ⟨h, _⟩⟩
          · omega
          · exact ⟨i', o', n', (h.below hb3).below hb4⟩
          · omega
        obtain ⟨i', o', n', sP⟩ := sP
        have hd : Below W4.heap.size W4 W4.drew := (Below.refl _ _).drew
        have e0 := sM.cell 0 _ rfl
        have e1 := sM.cell 1 _ rfl
        have e2 := sM.cell 2 _ rfl
        have t0 := sP.cell 14 _ rfl
        have t1 := sP.cell 15 _ rfl
        have t2 := sP.cell 16 _ rfl
        have f0 := sP.free 14
        have f1 := sP.free 15
        have f2 := sP.free 16
        have H4 := (show Hid _ from And.intro sP (And.intro hb4 hd))
        clear sP hb4 hd sM hcd hb3
        rw [← hW4]
        clear hW4
        go_region
        all_goals
          have HF := (show Hid _ from NwS.second HN.out H3.out.1 H3.out.2 H4.out.2.1)
          go_wp2
          go_roundw
          case rel => exact ⟨2, by omega, by go_num, HF.out⟩
          case measure => simp [intOf]
      · have HD := (show Hid _ from hN.done (by rw [hs0]; rfl) (by rw [hs0]; rfl) (by rw [hs0]; rfl) hm0 hm1 ha0 ha1)
        clear hN
        go_wp2
        go_ret2
        obtain ⟨i, gi, o, g, n, i2, gi2, o2, g2, n2, h⟩ := HD.out
        exact ⟨p, q, .slice xa sn xc, i, gi, o, g, n, i2, gi2, o2, g2, n2, rfl, by rw [← hs0]; exact h⟩
end Go.Proofs.YtfjpckaphfdfnaaGreatDoor
namespace Go.Proofs.YtfjpckaphfdfnaaGreatDoor
open Go.RowKit
def paE (op : Int) (fm tm : Nat) : Nat := if (op = 1 ∨ op = 2) ∧ fm < 281474976710656 ∧ tm < 281474976710656 then 0 else 2
def paV (op : Int) (fm fi tm ti : Nat) : List Nat := if paE op fm tm = 0 then arpB op.toNat fm fi tm ti else []
set_option maxRecDepth 100000 in
set_option maxHeartbeats 2000000 in
theorem putArp_any (op : Int) (fm fi tm ti : Nat) (w : World) (hfm : fm < 18446744073709551616) (hfi : fi < 4294967296) (htm : tm < 18446744073709551616) (hti : ti < 4294967296) :
    Calls Tryz.prog 157 #[.agg #[.int .i64 op, .int .u64 (fm : Nat), .int .u32 (fi : Nat), .int .u64 (tm : Nat), .int .u32 (ti : Nat)]] w fun e w' => RowE w (paV op fm fi tm ti) (paE op fm tm) e w' := by
  have hco := fun W => isOp_any op W
  have hct := fun W => isCard_any fm W hfm
  have hcf := fun W => isCard_any tm W htm
  have hbW : Below w.heap.size w (w.alloc (.cells #[.int .i64 op, .int .u64 (fm : Nat), .int .u32 (fi : Nat), .int .u64 (tm : Nat), .int .u32 (ti : Nat)] 251)) := (Below.refl _ _).alloc (Nat.le_refl _) _
  by_cases h1 : op = 1 ∨ op = 2
  case neg =>
    rw [decide_eq_false h1] at hco
    clear hct hcf
    have HE : Hid (paE op fm tm = 2) := by show _ = _; unfold paE; rw [if_neg (by omega)]
    have HV : Hid (paV op fm fi tm ti = []) := by show _ = _; unfold paV; rw [HE.out]; rfl
    go_enter Tryz.func157, Tryz.ntmps157
    go_wp2_with fail
    refine (hco _).mono ?_
    rintro e w' ⟨rfl, hw'⟩
    subst w'
    go_wp2
    go_ret2
    rw [HE.out, HV.out]
    exact ⟨⟨none, 0, rfl, OwnB.nil _ _⟩, hbW⟩
  case pos =>
  by_cases h2 : fm < 281474976710656
  case neg =>
    rw [decide_eq_true h1] at hco
    rw [decide_eq_false h2] at hct
    clear hcf
    have HE : Hid (paE op fm tm = 2) := by show _ = _; unfold paE; rw [if_neg (by omega)]
    have HV : Hid (paV op fm fi tm ti = []) := by show _ = _; unfold paV; rw [HE.out]; rfl
    go_enter Tryz.func157, Tryz.ntmps157
    go_wp2_with fail
    refine (hco _).mono ?_
    rintro e w' ⟨rfl, hw'⟩
    subst w'
    go_wp2_with fail
    refine (hct _).mono ?_
    rintro e w' ⟨rfl, hw'⟩
    subst w'
    go_wp2
    go_ret2
    rw [HE.out, HV.out]
    exact ⟨⟨none, 0, rfl, OwnB.nil _ _⟩, hbW⟩
  case pos =>
  by_cases h3 : tm < 281474976710656
  case neg =>
    rw [decide_eq_true h1] at hco
    rw [decide_eq_true h2] at hct
    rw [decide_eq_false h3] at hcf
    skip
    have HE : Hid (paE op fm tm = 2) := by show _ = _; unfold paE; rw [if_neg (by omega)]
    have HV : Hid (paV op fm fi tm ti = []) := by show _ = _; unfold paV; rw [HE.out]; rfl
    go_enter Tryz.func157, Tryz.ntmps157
    go_wp2_with fail
    refine (hco _).mono ?_
    rintro e w' ⟨rfl, hw'⟩
    subst w'
    go_wp2_with fail
    refine (hct _).mono ?_
    rintro e w' ⟨rfl, hw'⟩
    subst w'
    go_wp2_with fail
    refine (hcf _).mono ?_
    rintro e w' ⟨rfl, hw'⟩
    subst w'
    go_wp2
    go_ret2
    rw [HE.out, HV.out]
    exact ⟨⟨none, 0, rfl, OwnB.nil _ _⟩, hbW⟩
  case pos =>
    have hop : op.toNat = 1 ∨ op.toNat = 2 := by omega
    have he : op = ((op.toNat : Nat) : Int) := by omega
    have hE : paE op fm tm = 0 := by unfold paE; rw [if_pos ⟨h1, h2, h3⟩]
    have hV : paV op fm fi tm ti = arpB op.toNat fm fi tm ti := by unfold paV; rw [if_pos hE]
    have := putArp_ok op.toNat fm fi tm ti w hop h2 hfi h3 hti
    rw [← he] at this
    rw [hE, hV]
    exact this
end Go.Proofs.YtfjpckaphfdfnaaGreatDoor
namespace Go.Proofs.YtfjpckaphfdfnaaGreatDoor
open Go.RowKit
theorem own_lit (w : World) (L : List Nat) (hb : L.all (· < 256) = true) (hn : L.length ≤ 1000) : OwnB (w.alloc (.cells (vals L).toArray 5)) w.heap.size (some ⟨w.heap.size, 0, none⟩) L.length L.length L := by
  refine ⟨rfl, ⟨by simp [vals], .inr ⟨w.heap.size, L.length, (vals L).toArray, rfl, Nat.le_refl _, ?_, Nat.le_refl _, by unfold maxLen; omega, by simp [vals], ?_⟩⟩, getD_bnd L hb⟩
  · show (w.heap.push _)[w.heap.size]? = _
    simp
  · rw [List.take_of_length_le (by simp [vals])]
set_option maxRecDepth 100000 in
set_option maxHeartbeats 4000000 in
theorem rputArp_any (op : Int) (fm fi tm ti : Nat) (w : World) (hfm : fm < 18446744073709551616) (hfi : fi < 4294967296) (htm : tm < 18446744073709551616) (hti : ti < 4294967296) :
    Calls Tryz.prog 131 #[.agg #[.int .i64 op, .int .u64 (fm : Nat), .int .u32 (fi : Nat), .int .u64 (tm : Nat), .int .u32 (ti : Nat)]] w fun e w' => RowE w (paV op fm fi tm ti) (paE op fm tm) e w' := by
  have hct := fun W => card_any fm W hfm
  have hcf := fun W => card_any tm W htm
  have hbW : Below w.heap.size w (w.alloc (.cells #[.int .i64 op, .int .u64 (fm : Nat), .int .u32 (fi : Nat), .int .u64 (tm : Nat), .int .u32 (ti : Nat)] 251)) := (Below.refl _ _).alloc (Nat.le_refl _) _
  by_cases h1 : op = 1 ∨ op = 2
  case neg =>
    have q1 : (op != 1) = true := by simp; omega
    have q2 : (op != 2) = true := by simp; omega
    clear hct hcf
    have HE : Hid (paE op fm tm = 2) := by show _ = _; unfold paE; rw [if_neg (by omega)]
    have HV : Hid (paV op fm fi tm ti = []) := by show _ = _; unfold paV; rw [HE.out]; rfl
    go_enter Tryz.func131, Tryz.ntmps131
    go_wp2
    go_ret2
    rw [HE.out, HV.out]
    exact ⟨⟨none, 0, rfl, OwnB.nil _ _⟩, hbW⟩
  case pos =>
  by_cases h2 : fm < 281474976710656
  case neg =>
    rw [decide_eq_false h2] at hct
    have HE : Hid (paE op fm tm = 2) := by show _ = _; unfold paE; rw [if_neg (by omega)]
    have HV : Hid (paV op fm fi tm ti = []) := by show _ = _; unfold paV; rw [HE.out]; rfl
    rcases h1 with rfl | rfl
    all_goals
      clear hcf
      go_enter Tryz.func131, Tryz.ntmps131
      go_wp2_with fail
      refine (hct _).mono ?_
      rintro e w' ⟨rfl, hw'⟩
      subst w'
      go_wp2
      go_ret2
      rw [HE.out, HV.out]
      exact ⟨⟨none, 0, rfl, OwnB.nil _ _⟩, hbW⟩
  case pos =>
  by_cases h3 : tm < 281474976710656
  case neg =>
    rw [decide_eq_true h2] at hct
    rw [decide_eq_false h3] at hcf
    have HE : Hid (paE op fm tm = 2) := by show _ = _; unfold paE; rw [if_neg (by omega)]
    have HV : Hid (paV op fm fi tm ti = []) := by show _ = _; unfold paV; rw [HE.out]; rfl
    rcases h1 with rfl | rfl
    all_goals
      skip
      go_enter Tryz.func131, Tryz.ntmps131
      go_wp2_with fail
      refine (hct _).mono ?_
      rintro e w' ⟨rfl, hw'⟩
      subst w'
      go_wp2_with fail
      refine (hcf _).mono ?_
      rintro e w' ⟨rfl, hw'⟩
      subst w'
      go_wp2
      go_ret2
      rw [HE.out, HV.out]
      exact ⟨⟨none, 0, rfl, OwnB.nil _ _⟩, hbW⟩
  case pos =>
  rw [decide_eq_true h2] at hct
  rw [decide_eq_true h3] at hcf
  by_cases h4 : op = 1
  case pos =>
    subst h4
    have HE : Hid (paE 1 fm tm = 0) := by show _ = _; unfold paE; rw [if_pos ⟨by decide, h2, h3⟩]
    have HV : Hid (paV 1 fm fi tm ti = ((([0, 1, 8, 0, 6, 4, 0, 1] ++ bytesB fm 6) ++ bytesB fi 4) ++ bytesB tm 6) ++ bytesB ti 4) := by show _ = _; unfold paV; rw [HE.out]; rfl
    obtain ⟨W, hW⟩ : ∃ W, W = w.alloc (.cells #[.int .i64 1, .int .u64 (fm : Nat), .int .u32 (fi : Nat), .int .u64 (tm : Nat), .int .u32 (ti : Nat)] 251) := ⟨_, rfl⟩
    have hX := Stc.new w [.int .i64 1, .int .u64 (fm : Nat), .int .u32 (fi : Nat), .int .u64 (tm : Nat), .int .u32 (ti : Nat)] 251 W hW
    rw [← hW] at hbW
    have x0 := hX.cell 0 _ rfl
    have x1 := hX.cell 1 _ rfl
    have x3 := hX.cell 3 _ rfl
    obtain ⟨W2, hW2⟩ : ∃ W2, W2 = W.alloc (.cells #[.int .u8 0, .int .u8 1, .int .u8 8, .int .u8 0, .int .u8 6, .int .u8 4, .int .u8 0, .int .u8 1] 5) := ⟨_, rfl⟩
    have o0 : OwnB W2 W.heap.size (some ⟨W.heap.size, 0, none⟩) 8 8 [0, 1, 8, 0, 6, 4, 0, 1] := by rw [hW2]; exact own_lit W [0, 1, 8, 0, 6, 4, 0, 1] (by decide) (by decide)
    have bW2 : Below W.heap.size W W2 := by rw [hW2]; exact (Below.refl _ _).alloc (Nat.le_refl _) _
    have hX2 := hX.below bW2
    have y1 := hX2.cell 1 _ rfl
    have y1' := y1
    rw [hW2] at y1'
    have hz2 := bW2.size
    obtain ⟨L0, hL0⟩ : ∃ L0 : List Nat, L0 = [0, 1, 8, 0, 6, 4, 0, 1] := ⟨_, rfl⟩
    obtain ⟨L1, hL1⟩ : ∃ L1, L1 = L0 ++ bytesB fm 6 := ⟨_, rfl⟩
    obtain ⟨L2, hL2⟩ : ∃ L2, L2 = L1 ++ bytesB fi 4 := ⟨_, rfl⟩
    obtain ⟨L3, hL3⟩ : ∃ L3, L3 = L2 ++ bytesB tm 6 := ⟨_, rfl⟩
    obtain ⟨L4, hL4⟩ : ∃ L4, L4 = L3 ++ bytesB ti 4 := ⟨_, rfl⟩
    have k0 : L0.length = 8 := by rw [hL0]; rfl
    have k1 : L1.length = 14 := by rw [hL1]; simp [bytesB_len, k0]
    have k2 : L2.length = 18 := by rw [hL2]; simp [bytesB_len, k1]
    have k3 : L3.length = 24 := by rw [hL3]; simp [bytesB_len, k2]
    have k4 : L4.length = 28 := by rw [hL4]; simp [bytesB_len, k3]
    rw [← hL0, ← hL1, ← hL2, ← hL3, ← hL4] at HV
    rw [← hL0] at o0
    have H1 := (show Hid _ from hL1)
    have H2 := (show Hid _ from hL2)
    have H3 := (show Hid _ from hL3)
    have H4 := (show Hid _ from hL4)
    have K1 := (show Hid _ from k1)
    have K2 := (show Hid _ from k2)
    have K3 := (show Hid _ from k3)
    have K4 := (show Hid _ from k4)
    clear hL0 hL1 hL2 hL3 hL4 k0 k1 k2 k3 k4 h1
    go_enter Tryz.func131, Tryz.ntmps131
    go_wp2_with fail
    rw [← hW]
    clear hW
    refine (hct _).mono ?_
    rintro e w' ⟨rfl, hw'⟩
    subst w'
    go_wp2_with fail
    refine (hcf _).mono ?_
    rintro e w' ⟨rfl, hw'⟩
    subst w'
    go_wp2_with fail
    rw [← hW2]
    clear hW2 y1'
    refine (rlay_any W.heap.size (some ⟨W.heap.size, 0, none⟩) 8 8 L0 fm 6 W2 o0 hz2 (by show fm < 256 ^ 6; omega) (by omega) (by omega) (by omega)).mono ?_
    rintro e w1 ⟨⟨a1, c1, rfl, o1⟩, b1⟩
    rw [← H1.out, K1.out] at o1 ⊢
    have b01 : Below W.heap.size W w1 := bW2.trans b1
    have hz1 := b01.size
    have hX3 := hX.below b01
    have y2 := hX3.cell 2 _ rfl
    clear o0 y1 x0 x1 x3 hX2 b1
    go_wp2_with fail
    refine (rlay_any W.heap.size a1 14 c1 L1 fi 4 w1 o1 hz1 (by show fi < 256 ^ 4; omega) (by omega) (by omega) (by omega)).mono ?_
    rintro e w2 ⟨⟨a2, c2, rfl, o2⟩, b2⟩
    rw [← H2.out, K2.out] at o2 ⊢
    have b02 : Below W.heap.size W w2 := b01.trans b2
    have hz2 := b02.size
    have hX4 := hX.below b02
    have y3 := hX4.cell 3 _ rfl
    clear o1 y2 hX3 b2
    go_wp2_with fail
    refine (rlay_any W.heap.size a2 18 c2 L2 tm 6 w2 o2 hz2 (by show tm < 256 ^ 6; omega) (by omega) (by omega) (by omega)).mono ?_
    rintro e w3 ⟨⟨a3, c3, rfl, o3⟩, b3⟩
    rw [← H3.out, K3.out] at o3 ⊢
    have b03 : Below W.heap.size W w3 := b02.trans b3
    have hz3 := b03.size
    have hX5 := hX.below b03
    have y4 := hX5.cell 4 _ rfl
    clear o2 y3 hX4 b3
    go_wp2_with fail
    refine (rlay_any W.heap.size a3 24 c3 L3 ti 4 w3 o3 hz3 (by show ti < 256 ^ 4; omega) (by omega) (by omega) (by omega)).mono ?_
    rintro e w4 ⟨⟨a4, c4, rfl, o4⟩, b4⟩
    rw [← H4.out, K4.out] at o4 ⊢
    have b04 : Below W.heap.size W w4 := b03.trans b4
    have hb4 : Below w.heap.size w w4 := hbW.trans (b04.mono hbW.size)
    have o4' := o4.base hbW.size
    clear o3 y4 hX5 b4
    go_wp2
    go_ret2
    exact ⟨⟨a4, c4, by rw [HV.out, K4.out, HE.out]; rfl, by rw [HV.out, K4.out]; exact o4'⟩, hb4⟩
  case neg =>
    obtain rfl : op = 2 := by omega
    clear h4
    have HE : Hid (paE 2 fm tm = 0) := by show _ = _; unfold paE; rw [if_pos ⟨by decide, h2, h3⟩]
    have HV : Hid (paV 2 fm fi tm ti = ((([0, 1, 8, 0, 6, 4, 0, 2] ++ bytesB fm 6) ++ bytesB fi 4) ++ bytesB tm 6) ++ bytesB ti 4) := by show _ = _; unfold paV; rw [HE.out]; rfl
    obtain ⟨W, hW⟩ : ∃ W, W = w.alloc (.cells #[.int .i64 2, .int .u64 (fm : Nat), .int .u32 (fi : Nat), .int .u64 (tm : Nat), .int .u32 (ti : Nat)] 251) := ⟨_, rfl⟩
    have hX := Stc.new w [.int .i64 2, .int .u64 (fm : Nat), .int .u32 (fi : Nat), .int .u64 (tm : Nat), .int .u32 (ti : Nat)] 251 W hW
    rw [← hW] at hbW
    have x0 := hX.cell 0 _ rfl
    have x1 := hX.cell 1 _ rfl
    have x3 := hX.cell 3 _ rfl
    obtain ⟨W2, hW2⟩ : ∃ W2, W2 = W.alloc (.cells #[.int .u8 0, .int .u8 1, .int .u8 8, .int .u8 0, .int .u8 6, .int .u8 4, .int .u8 0, .int .u8 2] 5) := ⟨_, rfl⟩
    have o0 : OwnB W2 W.heap.size (some ⟨W.heap.size, 0, none⟩) 8 8 [0, 1, 8, 0, 6, 4, 0, 2] := by rw [hW2]; exact own_lit W [0, 1, 8, 0, 6, 4, 0, 2] (by decide) (by decide)
    have bW2 : Below W.heap.size W W2 := by rw [hW2]; exact (Below.refl _ _).alloc (Nat.le_refl _) _
    have hX2 := hX.below bW2
    have y1 := hX2.cell 1 _ rfl
    have y1' := y1
    rw [hW2] at y1'
    have hz2 := bW2.size
    obtain ⟨L0, hL0⟩ : ∃ L0 : List Nat, L0 = [0, 1, 8, 0, 6, 4, 0, 2] := ⟨_, rfl⟩
    obtain ⟨L1, hL1⟩ : ∃ L1, L1 = L0 ++ bytesB fm 6 := ⟨_, rfl⟩
    obtain ⟨L2, hL2⟩ : ∃ L2, L2 = L1 ++ bytesB fi 4 := ⟨_, rfl⟩
    obtain ⟨L3, hL3⟩ : ∃ L3, L3 = L2 ++ bytesB tm 6 := ⟨_, rfl⟩
    obtain ⟨L4, hL4⟩ : ∃ L4, L4 = L3 ++ bytesB ti 4 := ⟨_, rfl⟩
    have k0 : L0.length = 8 := by rw [hL0]; rfl
    have k1 : L1.length = 14 := by rw [hL1]; simp [bytesB_len, k0]
    have k2 : L2.length = 18 := by rw [hL2]; simp [bytesB_len, k1]
    have k3 : L3.length = 24 := by rw [hL3]; simp [bytesB_len, k2]
    have k4 : L4.length = 28 := by rw [hL4]; simp [bytesB_len, k3]
    rw [← hL0, ← hL1, ← hL2, ← hL3, ← hL4] at HV
    rw [← hL0] at o0
    have H1 := (show Hid _ from hL1)
    have H2 := (show Hid _ from hL2)
    have H3 := (show Hid _ from hL3)
    have H4 := (show Hid _ from hL4)
    have K1 := (show Hid _ from k1)
    have K2 := (show Hid _ from k2)
    have K3 := (show Hid _ from k3)
    have K4 := (show Hid _ from k4)
    clear hL0 hL1 hL2 hL3 hL4 k0 k1 k2 k3 k4 h1
    go_enter Tryz.func131, Tryz.ntmps131
    go_wp2_with fail
    rw [← hW]
    clear hW
    refine (hct _).mono ?_
    rintro e w' ⟨rfl, hw'⟩
    subst w'
    go_wp2_with fail
    refine (hcf _).mono ?_
    rintro e w' ⟨rfl, hw'⟩
    subst w'
    go_wp2_with fail
    rw [← hW2]
    clear hW2 y1'
    refine (rlay_any W.heap.size (some ⟨W.heap.size, 0, none⟩) 8 8 L0 fm 6 W2 o0 hz2 (by show fm < 256 ^ 6; omega) (by omega) (by omega) (by omega)).mono ?_
    rintro e w1 ⟨⟨a1, c1, rfl, o1⟩, b1⟩
    rw [← H1.out, K1.out] at o1 ⊢
    have b01 : Below W.heap.size W w1 := bW2.trans b1
    have hz1 := b01.size
    have hX3 := hX.below b01
    have y2 := hX3.cell 2 _ rfl
    clear o0 y1 x0 x1 x3 hX2 b1
    go_wp2_with fail
    refine (rlay_any W.heap.size a1 14 c1 L1 fi 4 w1 o1 hz1 (by show fi < 256 ^ 4; omega) (by omega) (by omega) (by omega)).mono ?_
    rintro e w2 ⟨⟨a2, c2, rfl, o2⟩, b2⟩
    rw [← H2.out, K2.out] at o2 ⊢
    have b02 : Below W.heap.size W w2 := b01.trans b2
    have hz2 := b02.size
    have hX4 := hX.below b02
    have y3 := hX4.cell 3 _ rfl
    clear o1 y2 hX3 b2
    go_wp2_with fail
    refine (rlay_any W.heap.size a2 18 c2 L2 tm 6 w2 o2 hz2 (by show tm < 256 ^ 6; omega) (by omega) (by omega) (by omega)).mono ?_
    rintro e w3 ⟨⟨a3, c3, rfl, o3⟩, b3⟩
    rw [← H3.out, K3.out] at o3 ⊢
    have b03 : Below W.heap.size W w3 := b02.trans b3
    have hz3 := b03.size
    have hX5 := hX.below b03
    have y4 := hX5.cell 4 _ rfl
    clear o2 y3 hX4 b3
    go_wp2_with fail
    refine (rlay_any W.heap.size a3 24 c3 L3 ti 4 w3 o3 hz3 (by show ti < 256 ^ 4; omega) (by omega) (by omega) (by omega)).mono ?_
    rintro e w4 ⟨⟨a4, c4, rfl, o4⟩, b4⟩
    rw [← H4.out, K4.out] at o4 ⊢
    have b04 : Below W.heap.size W w4 := b03.trans b4
    have hb4 : Below w.heap.size w w4 := hbW.trans (b04.mono hbW.size)
    have o4' := o4.base hbW.size
    clear o3 y4 hX5 b4
    go_wp2
    go_ret2
    exact ⟨⟨a4, c4, by rw [HV.out, K4.out, HE.out]; rfl, by rw [HV.out, K4.out]; exact o4'⟩, hb4⟩
end Go.Proofs.YtfjpckaphfdfnaaGreatDoor
namespace Go.Proofs.YtfjpckaphfdfnaaGreatDoor
open Go.RowKit Go.MapKept Go.Maps
theorem cfg_addrs (w : World) : (Instr.field 72 (.agg #[.int .u64 10, .int .u64 11, .int .u32 1, .int .u32 2, .int .u32 3, .int .u32 4, .int .i64 200, .int .i64 16, .int .i64 2]) 1).run Tryz.prog w = .ok (.agg #[.int .u32 1, .int .u32 2]) w := by kernel_rfl
theorem cfg_peers (w : World) : (Instr.field 72 (.agg #[.int .u64 10, .int .u64 11, .int .u32 1, .int .u32 2, .int .u32 3, .int .u32 4, .int .i64 200, .int .i64 16, .int .i64 2]) 2).run Tryz.prog w = .ok (.agg #[.int .u32 3, .int .u32 4]) w := by kernel_rfl
theorem two_at0 (x y : Nat) (w : World) : (Instr.index 70 (.agg #[.int .u32 (x : Nat), .int .u32 (y : Nat)]) (.int .i64 0)).run Tryz.prog w = .ok (.int .u32 (x : Nat)) w := by kernel_rfl
theorem two_at1 (x y : Nat) (w : World) : (Instr.index 70 (.agg #[.int .u32 (x : Nat), .int .u32 (y : Nat)]) (.int .i64 1)).run Tryz.prog w = .ok (.int .u32 (y : Nat)) w := by kernel_rfl
theorem pq0 : paV 1 48 3 0 1 = arpB 1 48 3 0 1 ∧ paE 1 48 0 = 0 := by decide +kernel
set_option maxRecDepth 100000 in
set_option maxHeartbeats 2000000 in
theorem question0 (w : World) : Calls Tryz.prog 102 #[.int .i64 0, .int .u64 48, .int .u32 3] w fun e w' => (∃ a n c, e = .returned (.slice a n c) ∧ Sl w' a n c (epV 281474976710655 48 2054 (arpB 1 48 3 0 1))) ∧ Below w.heap.size w w' := by
  have HC := (show Hid _ from config_any)
  have HPA : Hid (∀ W, Calls Tryz.prog 131 #[.agg #[.int .i64 1, .int .u64 48, .int .u32 3, .int .u64 0, .int .u32 1]] W fun e w' => RowE W (arpB 1 48 3 0 1) 0 e w') := fun W => by
    have := rputArp_any 1 48 3 0 1 W (by decide) (by decide) (by decide) (by decide)
    rw [pq0.1, pq0.2] at this
    exact this
  have HPU : Hid (∀ W a n c, Sl W a n c (arpB 1 48 3 0 1) → Calls Tryz.prog 132 #[.agg #[.int .u64 281474976710655, .int .u64 48, .int .u16 2054, .slice a n c]] W fun e w' => RowE W (epV 281474976710655 48 2054 (arpB 1 48 3 0 1)) (epE 281474976710655 48 2054 n) e w') := fun W a n c hs => rput_any 281474976710655 48 2054 a n c _ W (by decide) (by decide) (by decide) hs
  have hfd := cfg_addrs
  have hx : ∀ w : World, (Instr.index 70 (.agg #[.int .u32 1, .int .u32 2]) (.int .i64 0)).run Tryz.prog w = .ok (.int .u32 1) w := fun w => two_at0 1 2 w
  go_enter Tryz.func102, Tryz.ntmps102
  go_wp2_with fail
  refine Calls.mono (HC.out _) ?_
  rintro e w1 ⟨rfl, hb1⟩
  have HB1 := (show Hid _ from hb1)
  clear hb1
  go_wp2_with fail
  refine Calls.mono (HPA.out _) ?_
  rintro e w2 ⟨⟨a, c, rfl, hO⟩, hb2⟩
  have hl : (arpB 1 48 3 0 1).length = 28 := by decide +kernel
  rw [hl] at hO ⊢
  have HP := (show Hid _ from HPU.out w2 a 28 c (hO.sl (by decide)))
  have HB2 := (show Hid _ from HB1.out.trans (hb2.mono HB1.out.size))
  clear hO hb2 hl HB1 hfd hx
  go_wp2_with fail
  refine Calls.mono HP.out ?_
  rintro e w3 ⟨⟨a3, c3, rfl, hO3⟩, hb3⟩
  rw [ql0] at hO3 ⊢
  have HF := (show Hid _ from And.intro (hO3.sl (by decide)) (HB2.out.trans (hb3.mono HB2.out.size)))
  clear hO3 hb3 HB2 HP
  go_wp2
  go_ret
  exact ⟨⟨a3, 42, c3, rfl, HF.out.1⟩, HF.out.2⟩
theorem pq1 : paV 1 49 4 0 2 = arpB 1 49 4 0 2 ∧ paE 1 49 0 = 0 := by decide +kernel
set_option maxRecDepth 100000 in
set_option maxHeartbeats 2000000 in
theorem question1 (w : World) : Calls Tryz.prog 102 #[.int .i64 1, .int .u64 49, .int .u32 4] w fun e w' => (∃ a n c, e = .returned (.slice a n c) ∧ Sl w' a n c (epV 281474976710655 49 2054 (arpB 1 49 4 0 2))) ∧ Below w.heap.size w w' := by
  have HC := (show Hid _ from config_any)
  have HPA : Hid (∀ W, Calls Tryz.prog 131 #[.agg #[.int .i64 1, .int .u64 49, .int .u32 4, .int .u64 0, .int .u32 2]] W fun e w' => RowE W (arpB 1 49 4 0 2) 0 e w') := fun W => by
    have := rputArp_any 1 49 4 0 2 W (by decide) (by decide) (by decide) (by decide)
    rw [pq1.1, pq1.2] at this
    exact this
  have HPU : Hid (∀ W a n c, Sl W a n c (arpB 1 49 4 0 2) → Calls Tryz.prog 132 #[.agg #[.int .u64 281474976710655, .int .u64 49, .int .u16 2054, .slice a n c]] W fun e w' => RowE W (epV 281474976710655 49 2054 (arpB 1 49 4 0 2)) (epE 281474976710655 49 2054 n) e w') := fun W a n c hs => rput_any 281474976710655 49 2054 a n c _ W (by decide) (by decide) (by decide) hs
  have hfd := cfg_addrs
  have hx : ∀ w : World, (Instr.index 70 (.agg #[.int .u32 1, .int .u32 2]) (.int .i64 1)).run Tryz.prog w = .ok (.int .u32 2) w := fun w => two_at1 1 2 w
  go_enter Tryz.func102, Tryz.ntmps102
  go_wp2_with fail
  refine Calls.mono (HC.out _) ?_
  rintro e w1 ⟨rfl, hb1⟩
  have HB1 := (show Hid _ from hb1)
  clear hb1
  go_wp2_with fail
  refine Calls.mono (HPA.out _) ?_
  rintro e w2 ⟨⟨a, c, rfl, hO⟩, hb2⟩
  have hl : (arpB 1 49 4 0 2).length = 28 := by decide +kernel
  rw [hl] at hO ⊢
  have HP := (show Hid _ from HPU.out w2 a 28 c (hO.sl (by decide)))
  have HB2 := (show Hid _ from HB1.out.trans (hb2.mono HB1.out.size))
  clear hO hb2 hl HB1 hfd hx
  go_wp2_with fail
  refine Calls.mono HP.out ?_
  rintro e w3 ⟨⟨a3, c3, rfl, hO3⟩, hb3⟩
  rw [ql1] at hO3 ⊢
  have HF := (show Hid _ from And.intro (hO3.sl (by decide)) (HB2.out.trans (hb3.mono HB2.out.size)))
  clear hO3 hb3 HB2 HP
  go_wp2
  go_ret
  exact ⟨⟨a3, 42, c3, rfl, HF.out.1⟩, HF.out.2⟩
end Go.Proofs.YtfjpckaphfdfnaaGreatDoor
namespace Go.Proofs.YtfjpckaphfdfnaaGreatDoor
open Go.RowKit Go.MapKept Go.Maps
section
variable {w0 w w' : World} {p : Nat} {s : HSt} {R : Nat → RSt} {C : Nat → CSt}
/-- As of an older world. -/
theorem HoW.old {u0 : World} (h : HoW w0 w p s R C) (hb : Below u0.heap.size u0 w0) : HoW u0 w p s R C := by
  obtain ⟨ro, h⟩ := h
  exact ⟨ro, h.st, h.rp, h.pq, h.rq, fun k hk => ⟨(h.ring k hk).1.rebase hb.size, (h.ring k hk).2⟩, h.cache, h.new, fun g hg => Nat.le_trans hb.size (h.low g hg), fun x hx => ⟨(h.ext x hx).1, Nat.le_trans hb.size (h.ext x hx).2.1, (h.ext x hx).2.2⟩, hb.trans (h.bel.mono hb.size)⟩
end
set_option maxRecDepth 100000 in
set_option maxHeartbeats 2000000 in
theorem begun_any (w : World) : Calls Tryz.prog 22 #[] w fun e w' => ∃ p q sec i gi o g n i2 gi2 o2 g2 n2, e = .returned (.tuple #[.pointer (some ⟨p, 0, none⟩), .bool true]) ∧ HoW w w' p (hst0 10 11 1 2 3 4 16 200 2 sec q) (newR 16 i gi o g i2 gi2 o2 g2) (newC 10 1 n 11 2 n2) := by
  have HC := (show Hid _ from config_any)
  have kc := fun (w : World) (C : Array Value) (n c : Nat) => Lib.run_convert_bytes_const (P := Tryz.prog) w 24 5 C n c Tryz.underlying24 Tryz.underlying5
  go_enter Tryz.func22, Tryz.ntmps22
  go_wp2_with fail
  refine Calls.mono (HC.out _) ?_
  rintro e w1 ⟨rfl, hb1⟩
  obtain ⟨W2, hW2⟩ : ∃ W2, W2 = w1.alloc (.cells #[.int .u8 115, .int .u8 101, .int .u8 99, .int .u8 114, .int .u8 101, .int .u8 116] 5 (6, 7)) := ⟨_, rfl⟩
  have hb2 : Below w1.heap.size w1 W2 := by rw [hW2]; exact (Below.refl _ _).alloc (Nat.le_refl _) _
  have hs2 : Sl W2 (some ⟨w1.heap.size, 0, none⟩) 6 6 [115, 101, 99, 114, 101, 116] := by rw [hW2]; exact sl_new w1 5 (6, 7) [115, 101, 99, 114, 101, 116] rfl (by decide) _ rfl
  have HNW : Hid (Calls Tryz.prog 57 #[.agg #[.int .u64 10, .int .u64 11, .int .u32 1, .int .u32 2, .int .u32 3, .int .u32 4, .int .i64 200, .int .i64 16, .int .i64 2], .slice (some ⟨w1.heap.size, 0, none⟩) 6 6] W2 fun e w' => ∃ p q sec i gi o g n i2 gi2 o2 g2 n2, e = .returned (.tuple #[.pointer (some ⟨p, 0, none⟩), .int .i64 0]) ∧ HoW W2 w' p (hst0 10 11 1 2 3 4 16 200 2 sec q) (newR 16 i gi o g i2 gi2 o2 g2) (newC 10 1 n 11 2 n2)) :=
    hnew_ok 10 11 1 2 3 4 16 200 2 _ _ _ _ W2 hs2 (by decide) (by decide) (by decide) (by decide) (by decide) (by decide) (by decide) (by decide) (by decide) (by decide) (by decide) (by decide) (by decide)
  have HB := (show Hid _ from hb1.trans (hb2.mono hb1.size))
  clear hb1 hb2 hs2
  go_wp2_with fail
  rw [← hW2]
  clear hW2 kc
  refine Calls.mono HNW.out ?_
  rintro e w3 ⟨p, q, sec, i, gi, o, g, n, i2, gi2, o2, g2, n2, rfl, hR⟩
  have HR := (show Hid _ from HoW.old hR HB.out)
  clear hR HNW
  go_wp2
  go_ret2
  exact ⟨p, q, sec, i, gi, o, g, n, i2, gi2, o2, g2, n2, rfl, HR.out⟩
section
variable {w0 w : World} {p : Nat} {s : HSt} {R : Nat → RSt} {C : Nat → CSt}
set_option maxRecDepth 100000 in
set_option maxHeartbeats 4000000 in
theorem hdrain0 (h : HoW w0 w p s R C) {b : Nat} {zs : List Nat} (he : (R 1).rs = [(b, zs)]) :
    Calls Tryz.prog 103 #[.pointer (some ⟨p, 0, none⟩), .int .i64 0] w fun e w' => (∃ a c, e = .returned (.slice a 1 c)) ∧ HoW w0 w' p s (upd R 1 (giveR (R 1))) C := by
  have HO := (show Hid _ from fun W (hW : HoW w0 W p s R C) => hout0_some hW he)
  have HN := (show Hid _ from fun W (hW : HoW w0 W p s (upd R 1 (giveR (R 1))) C) => hout0_none hW (by show (giveR (R 1)).rs = []; unfold giveR; dsimp only; rw [he]; rfl))
  have HH := (show Hid _ from h)
  clear h he
  go_enter Tryz.func103, Tryz.ntmps103
  go_wp2_with fail
  go_loopw [5, 6] (fun ov iv wr => (iv = .int .i64 0 ∧ ov = .slice none 0 0 ∧ HoW w0 wr p s R C) ∨ (iv = .int .i64 1 ∧ (∃ a c, ov = .slice a 1 c) ∧ HoW w0 wr p s (upd R 1 (giveR (R 1))) C)) (fun _ iv _ => 2 - (intOf iv).toNat)
  case atStart => exact .inl ⟨rfl, rfl, HH.out⟩
  case round =>
    clear HH
    rcases hrel with ⟨rfl, rfl, h⟩ | ⟨rfl, ⟨a, c, rfl⟩, h⟩
    · have HO1 := (show Hid _ from HO.out wr h)
      clear h
      go_wp2_with fail
      refine Calls.mono HO1.out ?_
      rintro e w2 ⟨⟨b2, c2, rfl, hO, -⟩, h2⟩
      have H2 := (show Hid _ from h2)
      clear hO h2 HO1
      go_wp2_with fail
      exact ⟨.inr ⟨rfl, ⟨_, _, rfl⟩, HoW.below H2.out (((Below.refl _ _).alloc (Nat.le_refl _) _).alloc (by simp) _).drew⟩, by simp [intOf]⟩
    · have HN1 := (show Hid _ from HN.out wr h)
      have H2 := (show Hid _ from h)
      clear h
      go_wp2_with fail
      refine Calls.mono HN1.out ?_
      rintro e w2 ⟨rfl, hb2⟩
      have HB2 := (show Hid _ from hb2)
      clear hb2 HN1
      go_wp2
      go_ret
      exact ⟨⟨a, c, rfl⟩, HoW.below H2.out HB2.out⟩
set_option maxRecDepth 100000 in
set_option maxHeartbeats 4000000 in
theorem hdrain1 (h : HoW w0 w p s R C) {b : Nat} {zs : List Nat} (he : (R 3).rs = [(b, zs)]) :
    Calls Tryz.prog 103 #[.pointer (some ⟨p, 0, none⟩), .int .i64 1] w fun e w' => (∃ a c, e = .returned (.slice a 1 c)) ∧ HoW w0 w' p s (upd R 3 (giveR (R 3))) C := by
  have HO := (show Hid _ from fun W (hW : HoW w0 W p s R C) => hout1_some hW he)
  have HN := (show Hid _ from fun W (hW : HoW w0 W p s (upd R 3 (giveR (R 3))) C) => hout1_none hW (by show (giveR (R 3)).rs = []; unfold giveR; dsimp only; rw [he]; rfl))
  have HH := (show Hid _ from h)
  clear h he
  go_enter Tryz.func103, Tryz.ntmps103
  go_wp2_with fail
  go_loopw [5, 6] (fun ov iv wr => (iv = .int .i64 0 ∧ ov = .slice none 0 0 ∧ HoW w0 wr p s R C) ∨ (iv = .int .i64 1 ∧ (∃ a c, ov = .slice a 1 c) ∧ HoW w0 wr p s (upd R 3 (giveR (R 3))) C)) (fun _ iv _ => 2 - (intOf iv).toNat)
  case atStart => exact .inl ⟨rfl, rfl, HH.out⟩
  case round =>
    clear HH
    rcases hrel with ⟨rfl, rfl, h⟩ | ⟨rfl, ⟨a, c, rfl⟩, h⟩
    · have HO1 := (show Hid _ from HO.out wr h)
      clear h
      go_wp2_with fail
      refine Calls.mono HO1.out ?_
      rintro e w2 ⟨⟨b2, c2, rfl, hO, -⟩, h2⟩
      have H2 := (show Hid _ from h2)
      clear hO h2 HO1
      go_wp2_with fail
      exact ⟨.inr ⟨rfl, ⟨_, _, rfl⟩, HoW.below H2.out (((Below.refl _ _).alloc (Nat.le_refl _) _).alloc (by simp) _).drew⟩, by simp [intOf]⟩
    · have HN1 := (show Hid _ from HN.out wr h)
      have H2 := (show Hid _ from h)
      clear h
      go_wp2_with fail
      refine Calls.mono HN1.out ?_
      rintro e w2 ⟨rfl, hb2⟩
      have HB2 := (show Hid _ from hb2)
      clear hb2 HN1
      go_wp2
      go_ret
      exact ⟨⟨a, c, rfl⟩, HoW.below H2.out HB2.out⟩
end
end Go.Proofs.YtfjpckaphfdfnaaGreatDoor
