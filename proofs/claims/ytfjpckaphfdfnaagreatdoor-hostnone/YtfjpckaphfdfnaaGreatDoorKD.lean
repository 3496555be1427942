/- A row of api.Msg, as it lies in a world. -/
import Derived.Test.YtfjpckaphfdfnaaGreatDoorKC
import Derived.Test.YtfjpckaphfdfnaaGreatDoorHo1
import Derived.Test.YtfjpckaphfdfnaaGreatDoorEtArp
import Derived.Deep.MidRow
import Derived.Test.YtfjpckaphfdfnaaGreatDoorProg
import Derived.Test.YtfjpckaphfdfnaaGreatDoorBase
import Derived.Deep.Strs
import Derived.RowKit
import Derived.ChangeSlices
import Derived.SizedLaws
import Derived.ProofKit
import Derived.OpenShut
import Derived.ChangeArms
import Derived.WideShapes
namespace Go.Proofs.YtfjpckaphfdfnaaGreatDoor
open Go.RowKit Go.MapKept Go.Maps
theorem fillE_new {zs : List Nat} (h : zs.length = 42) : fillE 16 0 [] zs = 0 := by
  unfold fillE
  rw [h]
  decide
set_option maxRecDepth 100000 in
set_option maxHeartbeats 8000000 in
theorem known_any (w : World) : Calls Tryz.prog 59 #[] w fun e w' => ∃ p s R C, e = .returned (.tuple #[.pointer (some ⟨p, 0, none⟩), .bool true]) ∧ HoW w w' p s R C ∧ s.st = 0 ∧ s.pt = 0 ∧ (C 0).D = [(3, knX 48 1)] := by
  have HBG := (show Hid _ from begun_any w)
  go_enter Tryz.func59, Tryz.ntmps59
  go_wp2_with fail
  refine Calls.mono HBG.out ?_
  clear HBG
  rintro e w1 ⟨p, q, sec, i, gi, o, g, n, i2, gi2, o2, g2, n2, rfl, hW⟩
  obtain ⟨R, hR⟩ : ∃ R, R = newR 16 i gi o g i2 gi2 o2 g2 := ⟨_, rfl⟩
  obtain ⟨C, hC⟩ : ∃ C, C = newC 10 1 n 11 2 n2 := ⟨_, rfl⟩
  obtain ⟨s, hs⟩ : ∃ s, s = hst0 10 11 1 2 3 4 16 200 2 sec q := ⟨_, rfl⟩
  rw [← hR, ← hC, ← hs] at hW
  have HR0 : Hid ((R 0).N = 16 ∧ (R 0).tk = 0 ∧ (R 0).rs = [] ∧ (R 0).d = 0) := by rw [hR]; exact ⟨rfl, rfl, rfl, rfl⟩
  have HR1 : Hid ((R 1).N = 16 ∧ (R 1).tk = 0 ∧ (R 1).rs = [] ∧ (R 1).d = 0) := by rw [hR]; exact ⟨rfl, rfl, rfl, rfl⟩
  have HR2 : Hid ((R 2).N = 16 ∧ (R 2).tk = 0 ∧ (R 2).rs = [] ∧ (R 2).d = 0) := by rw [hR]; exact ⟨rfl, rfl, rfl, rfl⟩
  have HR3 : Hid ((R 3).N = 16 ∧ (R 3).tk = 0 ∧ (R 3).rs = [] ∧ (R 3).d = 0) := by rw [hR]; exact ⟨rfl, rfl, rfl, rfl⟩
  have HC0 : Hid ((C 0).mac = 10 ∧ (C 0).ip = 1 ∧ (C 0).now = 0 ∧ (C 0).lost = 0 ∧ (C 0).D = []) := by rw [hC]; exact ⟨rfl, rfl, rfl, rfl, rfl⟩
  have HC1 : Hid ((C 1).mac = 11 ∧ (C 1).ip = 2 ∧ (C 1).now = 0 ∧ (C 1).lost = 0 ∧ (C 1).D = []) := by rw [hC]; exact ⟨rfl, rfl, rfl, rfl, rfl⟩
  have HS0 : Hid (s.E = [] ∧ s.past = .slice none 0 0 ∧ s.now = 0 ∧ s.pn = 0 ∧ s.st = 0 ∧ s.pt = 0) := by rw [hs]; exact ⟨rfl, rfl, rfl, rfl, rfl, rfl⟩
  have HW := (show Hid _ from hW)
  clear hR hC hs hW
  go_wp2_with fail
  go_loopw [4] (fun iv wr => (iv = .int .i64 0 ∧ HoW w wr p s R C) ∨ (iv = .int .i64 1 ∧ ∃ b0, HoW w wr p s (upd R 0 (fillR (R 0) b0 (epV 281474976710655 48 2054 (arpB 1 48 3 0 1)))) C) ∨ (iv = .int .i64 2 ∧ ∃ b0 b2, HoW w wr p s (upd (upd R 0 (fillR (R 0) b0 (epV 281474976710655 48 2054 (arpB 1 48 3 0 1)))) 2 (fillR (R 2) b2 (epV 281474976710655 49 2054 (arpB 1 49 4 0 2)))) C)) (fun iv _ => 2 - (intOf iv).toNat)
  case atStart => exact .inl ⟨rfl, HW.out⟩
  case round =>
    clear HW
    rcases hrel with ⟨rfl, h⟩ | ⟨rfl, b0, h⟩ | ⟨rfl, b0, b2, h⟩
    · have hfd := cfg_peers
      have hx : ∀ w : World, (Instr.index 70 (.agg #[.int .u32 3, .int .u32 4]) (.int .i64 0)).run Tryz.prog w = .ok (.int .u32 3) w := fun w => two_at0 3 4 w
      have HP := (show Hid _ from h)
      clear h
      go_wp2_with fail
      refine Calls.mono (config_any _) ?_
      rintro e w2 ⟨rfl, hb2⟩
      have HB2 := (show Hid _ from hb2)
      clear hb2
      go_wp2_with fail
      refine Calls.mono (question0 _) ?_
      rintro e w3 ⟨⟨qa, qn, qc, rfl, hq⟩, hb3⟩
      have hW3 := HoW.below HP.out (HB2.out.trans (hb3.mono HB2.out.size))
      have HFR := (show Hid _ from hframe0 hW3 hq (by rw [HR0.out.2.2.2]; decide))
      have HF0 : Hid (fillE (R 0).N (R 0).tk (R 0).rs (epV 281474976710655 48 2054 (arpB 1 48 3 0 1)) = 0) := by rw [HR0.out.1, HR0.out.2.1, HR0.out.2.2.1]; exact fillE_new ql0
      clear hq hb3 hW3 hfd hx
      go_wp2_with fail
      refine Calls.mono HFR.out ?_
      rintro e w4 ⟨bn, rfl, h4⟩
      have H4 := (show Hid _ from h4)
      rw [show (fillE (R 0).N (R 0).tk (R 0).rs (epV 281474976710655 48 2054 (arpB 1 48 3 0 1)) : Nat) = 0 from HF0.out]
      clear h4 HFR
      go_wp2
      exact ⟨.inr (.inl ⟨rfl, bn, H4.out⟩), by simp [intOf]⟩
    · have hfd := cfg_peers
      have hx : ∀ w : World, (Instr.index 70 (.agg #[.int .u32 3, .int .u32 4]) (.int .i64 1)).run Tryz.prog w = .ok (.int .u32 4) w := fun w => two_at1 3 4 w
      have HP := (show Hid _ from h)
      clear h
      go_wp2_with fail
      refine Calls.mono (config_any _) ?_
      rintro e w2 ⟨rfl, hb2⟩
      have HB2 := (show Hid _ from hb2)
      clear hb2
      go_wp2_with fail
      refine Calls.mono (question1 _) ?_
      rintro e w3 ⟨⟨qa, qn, qc, rfl, hq⟩, hb3⟩
      have hW3 := HoW.below HP.out (HB2.out.trans (hb3.mono HB2.out.size))
      have HFR := (show Hid _ from hframe1 hW3 hq (by show (R 2).d ≤ 1000000; rw [HR2.out.2.2.2]; decide))
      have HF0 : Hid (fillE (R 2).N (R 2).tk (R 2).rs (epV 281474976710655 49 2054 (arpB 1 49 4 0 2)) = 0) := by rw [HR2.out.1, HR2.out.2.1, HR2.out.2.2.1]; exact fillE_new ql1
      clear hq hb3 hW3 hfd hx
      go_wp2_with fail
      refine Calls.mono HFR.out ?_
      rintro e w4 ⟨bn, rfl, h4⟩
      have H4 := (show Hid _ from h4)
      rw [show (fillE ((upd R 0 (fillR (R 0) b0 (epV 281474976710655 48 2054 (arpB 1 48 3 0 1)))) 2).N ((upd R 0 (fillR (R 0) b0 (epV 281474976710655 48 2054 (arpB 1 48 3 0 1)))) 2).tk ((upd R 0 (fillR (R 0) b0 (epV 281474976710655 48 2054 (arpB 1 48 3 0 1)))) 2).rs (epV 281474976710655 49 2054 (arpB 1 49 4 0 2)) : Nat) = 0 from HF0.out]
      clear h4 HFR
      go_wp2
      exact ⟨.inr (.inr ⟨rfl, b0, bn, H4.out⟩), by simp [intOf]⟩
    · have F0 : fillE (R 0).N (R 0).tk (R 0).rs (epV 281474976710655 48 2054 (arpB 1 48 3 0 1)) = 0 := by rw [HR0.out.1, HR0.out.2.1, HR0.out.2.2.1]; exact fillE_new ql0
      have F2 : fillE (R 2).N (R 2).tk (R 2).rs (epV 281474976710655 49 2054 (arpB 1 49 4 0 2)) = 0 := by rw [HR2.out.1, HR2.out.2.1, HR2.out.2.2.1]; exact fillE_new ql1
      have HST := (show Hid _ from hstep_two h HS0.out.1 HS0.out.2.1 1 1 (by decide) (by decide) (by rw [HS0.out.2.2.1]; decide) (by rw [HS0.out.2.2.2.1]; decide)
        (by show (fillR (R 0) b0 (epV 281474976710655 48 2054 (arpB 1 48 3 0 1))).rs = [(b0, (epV 281474976710655 48 2054 (arpB 1 48 3 0 1)))]; unfold fillR; dsimp only; rw [if_pos F0, HR0.out.2.2.1]; rfl)
        (by show (fillR (R 2) b2 (epV 281474976710655 49 2054 (arpB 1 49 4 0 2))).rs = [(b2, (epV 281474976710655 49 2054 (arpB 1 49 4 0 2)))]; unfold fillR; dsimp only; rw [if_pos F2, HR2.out.2.2.1]; rfl)
        (by show (R 1).d ≤ 1000000; rw [HR1.out.2.2.2]; decide) (by show (R 3).d ≤ 1000000; rw [HR3.out.2.2.2]; decide)
        (by show fillE (R 1).N (R 1).tk (R 1).rs (ansF 10 1 48 3) = 0; rw [HR1.out.1, HR1.out.2.1, HR1.out.2.2.1]; exact fillE_new al0)
        (by show fillE (R 3).N (R 3).tk (R 3).rs (ansF 11 2 49 4) = 0; rw [HR3.out.1, HR3.out.2.1, HR3.out.2.2.1]; exact fillE_new al1)
        HC0.out.1 HC1.out.1 HC0.out.2.1 HC1.out.2.1 (by rw [HC0.out.2.2.1]; decide) (by rw [HC1.out.2.2.1]; decide) HC0.out.2.2.2.1 HC1.out.2.2.2.1 HC0.out.2.2.2.2 HC1.out.2.2.2.2 HR1.out.2.2.1 HR3.out.2.2.1)
      clear h F0 F2
      go_wp2_with fail
      refine Calls.mono HST.out ?_
      rintro e w5 ⟨rfl, s', R', C', h5, e1, e2, ⟨b1, r1⟩, ⟨b3, r3⟩, d0⟩
      have HD0 := (show Hid _ from hdrain0 h5 r1)
      have HX := (show Hid _ from And.intro (e1.trans HS0.out.2.2.2.2.1) (And.intro (e2.trans HS0.out.2.2.2.2.2) (And.intro r3 d0)))
      clear h5 e1 e2 r1 r3 d0 HST
      go_wp2_with fail
      refine Calls.mono HD0.out ?_
      rintro e w6 ⟨⟨xa, xc, rfl⟩, h6⟩
      have HD1 := (show Hid _ from hdrain1 h6 (b := b3) (zs := (ansF 11 2 49 4)) HX.out.2.2.1)
      clear h6 HD0
      go_wp2_with fail
      refine Calls.mono HD1.out ?_
      rintro e w7 ⟨⟨ya, yc, rfl⟩, h7⟩
      have H7 := (show Hid _ from h7)
      clear h7 HD1
      go_wp2
      go_ret2
      exact ⟨p, s', _, C', rfl, H7.out, HX.out.1, HX.out.2.1, HX.out.2.2.2⟩
set_option maxRecDepth 100000 in
set_option maxHeartbeats 4000000 in
theorem live17_any (w : World) : Calls Tryz.prog 23 #[] w fun e w' => e = .returned (.bool true) ∧ Below w.heap.size w w' := by
  go_enter Tryz.func23, Tryz.ntmps23
  go_wp2_with fail
  refine Calls.mono (known_any w) ?_
  rintro e w1 ⟨p, s, R, C, rfl, h1, hst, hpt, hD⟩
  have HB1 : Hid (Calls Tryz.prog 4 #[.pointer (some ⟨p, 0, none⟩), .int .u16 5] w1 fun e w' => e = .returned (.tuple #[.int .i64 1, .int .i64 0]) ∧ HoW w w' p { s with st := 1, pt := 5 } R C) := hbind_new h1 5 (by decide) (by rw [hpt]; decide) hst
  have HD := (show Hid _ from hD)
  clear h1 hst hpt hD
  go_wp2_with fail
  refine Calls.mono HB1.out ?_
  rintro e w2 ⟨rfl, h2⟩
  have HB2 : Hid (Calls Tryz.prog 4 #[.pointer (some ⟨p, 0, none⟩), .int .u16 5] w2 fun e w' => e = .returned (.tuple #[.int .i64 0, .int .i64 15]) ∧ HoW w w' p { s with st := 1, pt := 5 } R C) := hbind_taken h2 5 (by decide) rfl
  clear h2 HB1
  go_wp2_with fail
  refine Calls.mono HB2.out ?_
  rintro e w3 ⟨rfl, h3⟩
  have HNR := (show Hid _ from hnear0 h3)
  have HF3 := (show Hid _ from HoW.bel h3)
  clear h3 HB2
  go_wp2_with fail
  refine Calls.mono HNR.out ?_
  rintro e w4 ⟨⟨a, c, rfl, hO⟩, hb4⟩
  rw [HD.out] at hO ⊢
  obtain ⟨gg, rfl, _, _, hnc, _, hcell, _⟩ := OwnG.at_ hO (fun _ => rfl) (by simp)
  have n0 := hcell 0 _ rfl 0 _ rfl
  have n1 : w4.cell? ⟨gg, 1, none⟩ = some (.int .u64 48) := hcell 0 _ rfl 1 _ rfl
  have n2 : w4.cell? ⟨gg, 2, none⟩ = some (.bool true) := hcell 0 _ rfl 2 _ rfl
  have HB := (show Hid _ from HF3.out.trans (hb4.mono HF3.out.size))
  have hln : ([(3, knX 48 1)] : List (Nat × Nbr)).length = 1 := rfl
  rw [hln]
  clear hO hnc hcell hb4 n0 HNR HF3 hln
  go_wp2
  go_ret
  exact ⟨rfl, HB.out⟩
end Go.Proofs.YtfjpckaphfdfnaaGreatDoor
namespace Go.Proofs.YtfjpckaphfdfnaaGreatDoor
open Go.RowKit
set_option linter.unusedVariables false in
set_option maxRecDepth 100000 in
set_option maxHeartbeats 1000000 in
theorem hmay_nil (i : Int) (w : World) :
    Calls Tryz.prog 35 #[.pointer none, .int .i64 i] w fun e w' => e = .returned (.int .i64 1) ∧ Below w.heap.size w w' := by
  go_enter Tryz.func35, Tryz.ntmps35
  go_wp2
  go_ret
  exact ⟨rfl, by repeat (first | exact Below.refl _ _ | refine Below.alloc ?_ (by first | exact Nat.le_refl _ | (simp; done) | (simp; omega)) _)⟩
set_option linter.unusedVariables false in
set_option maxRecDepth 100000 in
set_option maxHeartbeats 1000000 in
theorem hmayStep_nil (i : Int) (w : World) :
    Calls Tryz.prog 48 #[.pointer none, .int .i64 i] w fun e w' => e = .returned (.int .i64 1) ∧ Below w.heap.size w w' := by
  go_enter Tryz.func48, Tryz.ntmps48
  go_wp2
  go_ret
  exact ⟨rfl, by repeat (first | exact Below.refl _ _ | refine Below.alloc ?_ (by first | exact Nat.le_refl _ | (simp; done) | (simp; omega)) _)⟩
set_option linter.unusedVariables false in
set_option maxRecDepth 100000 in
set_option maxHeartbeats 1000000 in
theorem hhanded_nil (i : Int) (w : World) :
    Calls Tryz.prog 46 #[.pointer none, .int .i64 i] w fun e w' => e = .returned (.tuple #[.pointer none, .int .i64 1]) ∧ Below w.heap.size w w' := by
  go_enter Tryz.func46, Tryz.ntmps46
  go_wp2
  go_ret2
  exact ⟨rfl, by repeat (first | exact Below.refl _ _ | refine Below.alloc ?_ (by first | exact Nat.le_refl _ | (simp; done) | (simp; omega)) _)⟩
set_option linter.unusedVariables false in
set_option maxRecDepth 100000 in
set_option maxHeartbeats 1000000 in
theorem hstand_nil (i j : Int) (w : World) :
    Calls Tryz.prog 28 #[.pointer none, .int .i64 i, .int .i64 j] w fun e w' => e = .returned (.tuple #[.pointer none, .int .i64 1]) ∧ Below w.heap.size w w' := by
  go_enter Tryz.func28, Tryz.ntmps28
  go_wp2_with fail
  refine (hhanded_nil i w).mono ?_
  rintro e w1 ⟨rfl, hb⟩
  have HB : Hid (Below w.heap.size w w1) := by
    show Below _ _ _
    first
      | exact hb
      | exact ((Below.refl _ _).alloc (Nat.le_refl _) _).trans (hb.mono (by simp; done))
      | exact (((Below.refl _ _).alloc (Nat.le_refl _) _).alloc (by simp) _).trans (hb.mono (by simp; omega))
  clear hb
  go_wp2
  go_ret2
  exact ⟨rfl, by first | exact HB.out | exact HB.out.alloc HB.out.size _⟩
set_option linter.unusedVariables false in
set_option maxRecDepth 100000 in
set_option maxHeartbeats 1000000 in
theorem hassoc_nil (i : Int) (w : World) :
    Calls Tryz.prog 30 #[.pointer none, .int .i64 i] w fun e w' => e = .returned (.tuple #[.pointer none, .int .i64 1]) ∧ Below w.heap.size w w' := by
  go_enter Tryz.func30, Tryz.ntmps30
  go_wp2_with fail
  refine (hstand_nil i 3 w).mono ?_
  rintro e w1 ⟨rfl, hb⟩
  have HB : Hid (Below w.heap.size w w1) := by
    show Below _ _ _
    first
      | exact hb
      | exact ((Below.refl _ _).alloc (Nat.le_refl _) _).trans (hb.mono (by simp; done))
      | exact (((Below.refl _ _).alloc (Nat.le_refl _) _).alloc (by simp) _).trans (hb.mono (by simp; omega))
  clear hb
  go_wp2
  go_ret2
  exact ⟨rfl, by first | exact HB.out | exact HB.out.alloc HB.out.size _⟩
set_option linter.unusedVariables false in
set_option maxRecDepth 100000 in
set_option maxHeartbeats 1000000 in
theorem hbind_nil (i : Int) (w : World) :
    Calls Tryz.prog 4 #[.pointer none, .int .u16 i] w fun e w' => e = .returned (.tuple #[.int .i64 0, .int .i64 1]) ∧ Below w.heap.size w w' := by
  go_enter Tryz.func4, Tryz.ntmps4
  go_wp2
  go_ret2
  exact ⟨rfl, by repeat (first | exact Below.refl _ _ | refine Below.alloc ?_ (by first | exact Nat.le_refl _ | (simp; done) | (simp; omega)) _)⟩
set_option linter.unusedVariables false in
set_option maxRecDepth 100000 in
set_option maxHeartbeats 1000000 in
theorem haccept_nil (i : Int) (w : World) :
    Calls Tryz.prog 5 #[.pointer none, .int .i64 i] w fun e w' => e = .returned (.tuple #[.int .i64 0, .int .i64 1]) ∧ Below w.heap.size w w' := by
  go_enter Tryz.func5, Tryz.ntmps5
  go_wp2_with fail
  refine (hstand_nil i 2 _).mono ?_
  rintro e w1 ⟨rfl, hb⟩
  have HB : Hid (Below w.heap.size w w1) := by
    show Below _ _ _
    first
      | exact hb
      | exact ((Below.refl _ _).alloc (Nat.le_refl _) _).trans (hb.mono (by simp; done))
      | exact (((Below.refl _ _).alloc (Nat.le_refl _) _).alloc (by simp) _).trans (hb.mono (by simp; omega))
  clear hb
  go_wp2
  go_ret2
  exact ⟨rfl, by first | exact HB.out | exact HB.out.alloc HB.out.size _⟩
set_option linter.unusedVariables false in
set_option maxRecDepth 100000 in
set_option maxHeartbeats 1000000 in
theorem hnotice_nil (i : Int) (w : World) :
    Calls Tryz.prog 7 #[.pointer none, .int .i64 i] w fun e w' => e = .returned (.tuple #[.int .i64 0, .int .i64 1]) ∧ Below w.heap.size w w' := by
  go_enter Tryz.func7, Tryz.ntmps7
  go_wp2_with fail
  refine (hassoc_nil i _).mono ?_
  rintro e w1 ⟨rfl, hb⟩
  have HB : Hid (Below w.heap.size w w1) := by
    show Below _ _ _
    first
      | exact hb
      | exact ((Below.refl _ _).alloc (Nat.le_refl _) _).trans (hb.mono (by simp; done))
      | exact (((Below.refl _ _).alloc (Nat.le_refl _) _).alloc (by simp) _).trans (hb.mono (by simp; omega))
  clear hb
  go_wp2
  go_ret2
  exact ⟨rfl, by first | exact HB.out | exact HB.out.alloc HB.out.size _⟩
set_option linter.unusedVariables false in
set_option maxRecDepth 100000 in
set_option maxHeartbeats 1000000 in
theorem hstate_nil (i : Int) (w : World) :
    Calls Tryz.prog 8 #[.pointer none, .int .i64 i] w fun e w' => e = .returned (.tuple #[.int .i64 0, .int .i64 1]) ∧ Below w.heap.size w w' := by
  go_enter Tryz.func8, Tryz.ntmps8
  go_wp2_with fail
  refine (hassoc_nil i _).mono ?_
  rintro e w1 ⟨rfl, hb⟩
  have HB : Hid (Below w.heap.size w w1) := by
    show Below _ _ _
    first
      | exact hb
      | exact ((Below.refl _ _).alloc (Nat.le_refl _) _).trans (hb.mono (by simp; done))
      | exact (((Below.refl _ _).alloc (Nat.le_refl _) _).alloc (by simp) _).trans (hb.mono (by simp; omega))
  clear hb
  go_wp2
  go_ret2
  exact ⟨rfl, by first | exact HB.out | exact HB.out.alloc HB.out.size _⟩
set_option linter.unusedVariables false in
set_option maxRecDepth 100000 in
set_option maxHeartbeats 1000000 in
theorem htags_nil (i : Int) (w : World) :
    Calls Tryz.prog 9 #[.pointer none, .int .i64 i] w fun e w' => e = .returned (.tuple #[.int .u32 0, .int .u32 0, .int .i64 1]) ∧ Below w.heap.size w w' := by
  go_enter Tryz.func9, Tryz.ntmps9
  go_wp2_with fail
  refine (hassoc_nil i _).mono ?_
  rintro e w1 ⟨rfl, hb⟩
  have HB : Hid (Below w.heap.size w w1) := by
    show Below _ _ _
    first
      | exact hb
      | exact ((Below.refl _ _).alloc (Nat.le_refl _) _).trans (hb.mono (by simp; done))
      | exact (((Below.refl _ _).alloc (Nat.le_refl _) _).alloc (by simp) _).trans (hb.mono (by simp; omega))
  clear hb
  go_wp2
  go_ret3
  exact ⟨rfl, by first | exact HB.out | exact HB.out.alloc HB.out.size _⟩
set_option linter.unusedVariables false in
set_option maxRecDepth 100000 in
set_option maxHeartbeats 1000000 in
theorem hout_nil (i : Int) (w : World) :
    Calls Tryz.prog 10 #[.pointer none, .int .i64 i] w fun e w' => e = .returned (.tuple #[.slice none 0 0, .int .i64 1]) ∧ Below w.heap.size w w' := by
  go_enter Tryz.func10, Tryz.ntmps10
  go_wp2_with fail
  refine (hmay_nil i _).mono ?_
  rintro e w1 ⟨rfl, hb⟩
  have HB : Hid (Below w.heap.size w w1) := by
    show Below _ _ _
    first
      | exact hb
      | exact ((Below.refl _ _).alloc (Nat.le_refl _) _).trans (hb.mono (by simp; done))
      | exact (((Below.refl _ _).alloc (Nat.le_refl _) _).alloc (by simp) _).trans (hb.mono (by simp; omega))
  clear hb
  go_wp2
  go_ret2
  exact ⟨rfl, by first | exact HB.out | exact HB.out.alloc HB.out.size _⟩
set_option linter.unusedVariables false in
set_option maxRecDepth 100000 in
set_option maxHeartbeats 1000000 in
theorem hused_nil (w : World) :
    Calls Tryz.prog 11 #[.pointer none] w fun e w' => e = .returned (.tuple #[.int .i64 0, .int .i64 0, .int .i64 0]) ∧ Below w.heap.size w w' := by
  go_enter Tryz.func11, Tryz.ntmps11
  go_wp2
  go_ret3
  exact ⟨rfl, by repeat (first | exact Below.refl _ _ | refine Below.alloc ?_ (by first | exact Nat.le_refl _ | (simp; done) | (simp; omega)) _)⟩
set_option linter.unusedVariables false in
set_option maxRecDepth 100000 in
set_option maxHeartbeats 1000000 in
theorem hnear_nil (i : Int) (w : World) :
    Calls Tryz.prog 12 #[.pointer none, .int .i64 i] w fun e w' => e = .returned (.slice none 0 0) ∧ Below w.heap.size w w' := by
  go_enter Tryz.func12, Tryz.ntmps12
  go_wp2_with fail
  refine (hmay_nil i _).mono ?_
  rintro e w1 ⟨rfl, hb⟩
  have HB : Hid (Below w.heap.size w w1) := by
    show Below _ _ _
    first
      | exact hb
      | exact ((Below.refl _ _).alloc (Nat.le_refl _) _).trans (hb.mono (by simp; done))
      | exact (((Below.refl _ _).alloc (Nat.le_refl _) _).alloc (by simp) _).trans (hb.mono (by simp; omega))
  clear hb
  go_wp2
  go_ret
  exact ⟨rfl, by first | exact HB.out | exact HB.out.alloc HB.out.size _⟩
set_option linter.unusedVariables false in
set_option maxRecDepth 100000 in
set_option maxHeartbeats 1000000 in
theorem hlisten_nil (i : Int) (w : World) :
    Calls Tryz.prog 14 #[.pointer none, .int .i64 i] w fun e w' => e = .returned (.int .i64 1) ∧ Below w.heap.size w w' := by
  go_enter Tryz.func14, Tryz.ntmps14
  go_wp2_with fail
  refine (hstand_nil i 1 _).mono ?_
  rintro e w1 ⟨rfl, hb⟩
  have HB : Hid (Below w.heap.size w w1) := by
    show Below _ _ _
    first
      | exact hb
      | exact ((Below.refl _ _).alloc (Nat.le_refl _) _).trans (hb.mono (by simp; done))
      | exact (((Below.refl _ _).alloc (Nat.le_refl _) _).alloc (by simp) _).trans (hb.mono (by simp; omega))
  clear hb
  go_wp2
  go_ret
  exact ⟨rfl, by first | exact HB.out | exact HB.out.alloc HB.out.size _⟩
set_option linter.unusedVariables false in
set_option maxRecDepth 100000 in
set_option maxHeartbeats 1000000 in
theorem hconnect_nil (i : Int) (x y : Int) (w : World) :
    Calls Tryz.prog 15 #[.pointer none, .int .i64 i, .int .u16 x, .int .u64 y] w fun e w' => e = .returned (.int .i64 1) ∧ Below w.heap.size w w' := by
  go_enter Tryz.func15, Tryz.ntmps15
  go_wp2_with fail
  refine (hstand_nil i 1 _).mono ?_
  rintro e w1 ⟨rfl, hb⟩
  have HB : Hid (Below w.heap.size w w1) := by
    show Below _ _ _
    first
      | exact hb
      | exact ((Below.refl _ _).alloc (Nat.le_refl _) _).trans (hb.mono (by simp; done))
      | exact (((Below.refl _ _).alloc (Nat.le_refl _) _).alloc (by simp) _).trans (hb.mono (by simp; omega))
  clear hb
  go_wp2
  go_ret
  exact ⟨rfl, by first | exact HB.out | exact HB.out.alloc HB.out.size _⟩
set_option linter.unusedVariables false in
set_option maxRecDepth 100000 in
set_option maxHeartbeats 1000000 in
theorem hsend_nil (i : Int) (m0 m1 m2 m3 m4 : Value) (w : World) :
    Calls Tryz.prog 16 #[.pointer none, .int .i64 i, .agg #[m0, m1, m2, m3, m4]] w fun e w' => e = .returned (.int .i64 1) ∧ Below w.heap.size w w' := by
  go_enter Tryz.func16, Tryz.ntmps16
  go_wp2_with fail
  refine (hassoc_nil i _).mono ?_
  rintro e w1 ⟨rfl, hb⟩
  have HB : Hid (Below w.heap.size w w1) := by
    show Below _ _ _
    first
      | exact hb
      | exact ((Below.refl _ _).alloc (Nat.le_refl _) _).trans (hb.mono (by simp; done))
      | exact (((Below.refl _ _).alloc (Nat.le_refl _) _).alloc (by simp) _).trans (hb.mono (by simp; omega))
  clear hb
  go_wp2
  go_ret
  exact ⟨rfl, by first | exact HB.out | exact HB.out.alloc HB.out.size _⟩
set_option linter.unusedVariables false in
set_option maxRecDepth 100000 in
set_option maxHeartbeats 1000000 in
theorem hshutdown_nil (i : Int) (w : World) :
    Calls Tryz.prog 17 #[.pointer none, .int .i64 i] w fun e w' => e = .returned (.int .i64 1) ∧ Below w.heap.size w w' := by
  go_enter Tryz.func17, Tryz.ntmps17
  go_wp2_with fail
  refine (hassoc_nil i _).mono ?_
  rintro e w1 ⟨rfl, hb⟩
  have HB : Hid (Below w.heap.size w w1) := by
    show Below _ _ _
    first
      | exact hb
      | exact ((Below.refl _ _).alloc (Nat.le_refl _) _).trans (hb.mono (by simp; done))
      | exact (((Below.refl _ _).alloc (Nat.le_refl _) _).alloc (by simp) _).trans (hb.mono (by simp; omega))
  clear hb
  go_wp2
  go_ret
  exact ⟨rfl, by first | exact HB.out | exact HB.out.alloc HB.out.size _⟩
set_option linter.unusedVariables false in
set_option maxRecDepth 100000 in
set_option maxHeartbeats 1000000 in
theorem habort_nil (i : Int) (w : World) :
    Calls Tryz.prog 18 #[.pointer none, .int .i64 i] w fun e w' => e = .returned (.int .i64 1) ∧ Below w.heap.size w w' := by
  go_enter Tryz.func18, Tryz.ntmps18
  go_wp2_with fail
  refine (hassoc_nil i _).mono ?_
  rintro e w1 ⟨rfl, hb⟩
  have HB : Hid (Below w.heap.size w w1) := by
    show Below _ _ _
    first
      | exact hb
      | exact ((Below.refl _ _).alloc (Nat.le_refl _) _).trans (hb.mono (by simp; done))
      | exact (((Below.refl _ _).alloc (Nat.le_refl _) _).alloc (by simp) _).trans (hb.mono (by simp; omega))
  clear hb
  go_wp2
  go_ret
  exact ⟨rfl, by first | exact HB.out | exact HB.out.alloc HB.out.size _⟩
set_option linter.unusedVariables false in
set_option maxRecDepth 100000 in
set_option maxHeartbeats 1000000 in
theorem hclose_nil (i : Int) (w : World) :
    Calls Tryz.prog 19 #[.pointer none, .int .i64 i] w fun e w' => e = .returned (.int .i64 1) ∧ Below w.heap.size w w' := by
  go_enter Tryz.func19, Tryz.ntmps19
  go_wp2_with fail
  refine (hhanded_nil i _).mono ?_
  rintro e w1 ⟨rfl, hb⟩
  have HB : Hid (Below w.heap.size w w1) := by
    show Below _ _ _
    first
      | exact hb
      | exact ((Below.refl _ _).alloc (Nat.le_refl _) _).trans (hb.mono (by simp; done))
      | exact (((Below.refl _ _).alloc (Nat.le_refl _) _).alloc (by simp) _).trans (hb.mono (by simp; omega))
  clear hb
  go_wp2
  go_ret
  exact ⟨rfl, by first | exact HB.out | exact HB.out.alloc HB.out.size _⟩
set_option linter.unusedVariables false in
set_option maxRecDepth 100000 in
set_option maxHeartbeats 1000000 in
theorem hstep_nil (i : Int) (dr : Value) (w : World) :
    Calls Tryz.prog 20 #[.pointer none, .int .i64 i, dr] w fun e w' => e = .returned (.int .i64 1) ∧ Below w.heap.size w w' := by
  go_enter Tryz.func20, Tryz.ntmps20
  go_wp2_with fail
  refine (hmayStep_nil i _).mono ?_
  rintro e w1 ⟨rfl, hb⟩
  have HB : Hid (Below w.heap.size w w1) := by
    show Below _ _ _
    first
      | exact hb
      | exact ((Below.refl _ _).alloc (Nat.le_refl _) _).trans (hb.mono (by simp; done))
      | exact (((Below.refl _ _).alloc (Nat.le_refl _) _).alloc (by simp) _).trans (hb.mono (by simp; omega))
  clear hb
  go_wp2
  go_ret
  exact ⟨rfl, by first | exact HB.out | exact HB.out.alloc HB.out.size _⟩
set_option linter.unusedVariables false in
set_option maxRecDepth 100000 in
set_option maxHeartbeats 1000000 in
theorem hframe_nil (i : Int) (b : Value) (w : World) :
    Calls Tryz.prog 21 #[.pointer none, .int .i64 i, b] w fun e w' => e = .returned (.int .i64 1) ∧ Below w.heap.size w w' := by
  go_enter Tryz.func21, Tryz.ntmps21
  go_wp2_with fail
  refine (hmay_nil i _).mono ?_
  rintro e w1 ⟨rfl, hb⟩
  have HB : Hid (Below w.heap.size w w1) := by
    show Below _ _ _
    first
      | exact hb
      | exact ((Below.refl _ _).alloc (Nat.le_refl _) _).trans (hb.mono (by simp; done))
      | exact (((Below.refl _ _).alloc (Nat.le_refl _) _).alloc (by simp) _).trans (hb.mono (by simp; omega))
  clear hb
  go_wp2
  go_ret
  exact ⟨rfl, by first | exact HB.out | exact HB.out.alloc HB.out.size _⟩
end Go.Proofs.YtfjpckaphfdfnaaGreatDoor
namespace Go.Proofs.YtfjpckaphfdfnaaGreatDoor
open Go.RowKit
theorem zeroCnt (w : World) : (zeroValue 49).run Tryz.prog w = .ok (.agg #[.int .i64 0, .int .i64 0, .int .i64 0, .int .i64 0]) w := by kernel_rfl
theorem zeroMg (w : World) : (zeroValue 26).run Tryz.prog w = .ok (.agg #[.int .u16 0, .int .u16 0, .int .u32 0, .bool false, .slice none 0 0]) w := by kernel_rfl
set_option linter.unusedVariables false in
set_option maxRecDepth 100000 in
set_option maxHeartbeats 1000000 in
theorem hcount_nil (w : World) :
    Calls Tryz.prog 13 #[.pointer none] w fun e w' => e = .returned (.agg #[.int .i64 0, .int .i64 0, .int .i64 0, .int .i64 0]) ∧ Below w.heap.size w w' := by
  have hz := zeroCnt
  obtain ⟨W0, hW0⟩ : ∃ W0, W0 = w.alloc (.cells #[.int .i64 0, .int .i64 0, .int .i64 0, .int .i64 0] 49) := ⟨_, rfl⟩
  have hs := Stc.new w [.int .i64 0, .int .i64 0, .int .i64 0, .int .i64 0] 49 W0 hW0
  have hb : Below w.heap.size w W0 := by rw [hW0]; exact (Below.refl _ _).alloc (Nat.le_refl _) _
  have HS := (show Hid _ from hs.range)
  have HW := (show Hid _ from hW0)
  have HB := (show Hid _ from hb)
  clear hs hb hW0
  go_enter Tryz.func13, Tryz.ntmps13
  go_wp2
  rw [← HW.out]
  try simp only [Exit.inBlock, Exit.then]
  refine bodyPost_ret (results_cellE rfl _ _ w.heap.size 0 [.int .i64 0, .int .i64 0, .int .i64 0, .int .i64 0] _ rfl HS.out Tryz.underlying49 rfl (by kernel_rfl)) rfl ?_
  exact ⟨rfl, HB.out⟩
set_option linter.unusedVariables false in
set_option maxRecDepth 100000 in
set_option maxHeartbeats 4000000 in
theorem hrecv_nil (i : Int) (w : World) :
    Calls Tryz.prog 6 #[.pointer none, .int .i64 i] w fun e w' => e = .returned (.tuple #[.agg #[.int .u16 0, .int .u16 0, .int .u32 0, .bool false, .slice none 0 0], .int .i64 1]) ∧ Below w.heap.size w w' := by
  have hz := zeroMg
  obtain ⟨W0, hW0⟩ : ∃ W0, W0 = w.alloc (.cells #[.int .u16 0, .int .u16 0, .int .u32 0, .bool false, .slice none 0 0] 26) := ⟨_, rfl⟩
  have hs := Stc.new w [.int .u16 0, .int .u16 0, .int .u32 0, .bool false, .slice none 0 0] 26 W0 hW0
  have hb : Below w.heap.size w W0 := by rw [hW0]; exact (Below.refl _ _).alloc (Nat.le_refl _) _
  have HS := (show Hid _ from hs)
  have HW := (show Hid _ from hW0)
  have HB := (show Hid _ from hb)
  clear hs hb hW0
  go_enter Tryz.func6, Tryz.ntmps6
  go_wp2_with fail
  rw [← HW.out]
  refine (hassoc_nil i W0).mono ?_
  rintro e w1 ⟨rfl, hb1⟩
  have s1 := HS.out.below hb1
  have hth : w1.there w.heap.size 0 (#[.int .u16 0, .int .u16 0, .int .u32 0, .bool false, .slice none 0 0] : Array Value).size := fun i hi => by
    have hi' : i < 5 := hi
    refine ⟨?_, by rw [Nat.zero_add]; exact s1.free i⟩
    rw [Nat.zero_add]
    rcases (show i = 0 ∨ i = 1 ∨ i = 2 ∨ i = 3 ∨ i = 4 by omega) with e | e | e | e | e <;> subst e
    · rw [s1.cell 0 _ rfl]; rfl
    · rw [s1.cell 1 _ rfl]; rfl
    · rw [s1.cell 2 _ rfl]; rfl
    · rw [s1.cell 3 _ rfl]; rfl
    · rw [s1.cell 4 _ rfl]; rfl
  have hi47 : (Tryz.prog.info? 26).map (·.size) = some (#[.int .u16 0, .int .u16 0, .int .u32 0, .bool false, .slice none 0 0] : Array Value).size := by kernel_rfl
  obtain ⟨w2, hw2⟩ : ∃ w2, w2 = w1.setCells w.heap.size 0 [.int .u16 0, .int .u16 0, .int .u32 0, .bool false, .slice none 0 0] := ⟨_, rfl⟩
  have s2 : Stc w2 w.heap.size [.int .u16 0, .int .u16 0, .int .u32 0, .bool false, .slice none 0 0] := by
    rw [hw2]
    exact ((((s1.set 0 (.int .u16 0)).set 1 (.int .u16 0)).set 2 (.int .u32 0)).set 3 (.bool false)).set 4 (.slice none 0 0)
  have HB2 : Hid (Below w.heap.size w w2) := by
    show Below _ _ _
    rw [hw2]
    have hbb := HB.out.trans (hb1.mono HB.out.size)
    exact ((((hbb.setCell (p := ⟨w.heap.size, 0, none⟩) (Nat.le_refl _) (.int .u16 0)).setCell (p := ⟨w.heap.size, 1, none⟩) (Nat.le_refl _) (.int .u16 0)).setCell (p := ⟨w.heap.size, 2, none⟩) (Nat.le_refl _) (.int .u32 0)).setCell (p := ⟨w.heap.size, 3, none⟩) (Nat.le_refl _) (.bool false)).setCell (p := ⟨w.heap.size, 4, none⟩) (Nat.le_refl _) (.slice none 0 0)
  have HR := (show Hid _ from s2.range)
  have C1 := (show Hid _ from s1)
  have HW2 := (show Hid _ from hw2)
  clear s1 hb1 s2 hth hi47 hw2
  have c0 := C1.out.cell 0 _ rfl
  have f0 := C1.out.free 0
  have f1 := C1.out.free 1
  have f2 := C1.out.free 2
  have f3 := C1.out.free 3
  have f4 := C1.out.free 4
  have c1 := C1.out.cell 1 _ rfl
  have c2 := C1.out.cell 2 _ rfl
  have c3 := C1.out.cell 3 _ rfl
  have c4 := C1.out.cell 4 _ rfl
  go_wp2
  try simp only [Exit.inBlock, Exit.then]
  rw [show (((((w1.setCell ⟨w.heap.size, 0, none⟩ (.int .u16 0)).setCell ⟨w.heap.size, 1, none⟩ (.int .u16 0)).setCell ⟨w.heap.size, 2, none⟩ (.int .u32 0)).setCell ⟨w.heap.size, 3, none⟩ (.bool false)).setCell ⟨w.heap.size, 4, none⟩ (.slice none 0 0)) = w2 from HW2.out.symm]
  clear c0 c1 c2 c3 c4 f0 f1 f2 f3 f4
  refine bodyPost_ret (results_cellE2 rfl _ _ w.heap.size 0 [.int .u16 0, .int .u16 0, .int .u32 0, .bool false, .slice none 0 0] _ rfl HR.out Tryz.underlying26 rfl (by kernel_rfl)) rfl ?_
  exact ⟨rfl, HB2.out⟩
end Go.Proofs.YtfjpckaphfdfnaaGreatDoor
namespace Go.Proofs.YtfjpckaphfdfnaaGreatDoor
open Go.RowKit
/-- Out's answer where no frame waits. -/
def ouE (i : Int) : Int := if i = 0 ∨ i = 1 then 13 else 2
section
variable {w0 w : World} {p : Nat} {s : HSt} {R : Nat → RSt} {C : Nat → CSt}
set_option maxRecDepth 100000 in
set_option maxHeartbeats 1000000 in
theorem hout_any (h : HoW w0 w p s R C) (h1 : (R 1).rs = []) (h3 : (R 3).rs = []) (i : Int) :
    Calls Tryz.prog 10 #[.pointer (some ⟨p, 0, none⟩), .int .i64 i] w fun e w' => e = .returned (.tuple #[.slice none 0 0, .int .i64 (ouE i)]) ∧ Below w.heap.size w w' := by
  by_cases hi : i = 0 ∨ i = 1
  · rw [show ouE i = 13 from if_pos hi]
    rcases hi with rfl | rfl
    · exact hout0_none h h1
    · exact hout1_none h h3
  · have hm := mayUse_any p i w
    rw [if_neg hi] at hm
    rw [show ouE i = 2 from if_neg hi]
    clear h hi h1 h3
    go_enter Tryz.func10, Tryz.ntmps10
    go_wp2_with fail
    refine hm.mono ?_
    rintro e w1 ⟨rfl, hb⟩
    clear hm
    go_wp2
    go_ret2
    exact ⟨rfl, hb⟩
end
/-- Step's answer of a host that has just begun. -/
def beE (t : Int) : Int := if t < 0 ∨ 1099511627176 < t then 2 else 0
theorem hstep_begun {w0 w : World} {p q i gi o g n i2 gi2 o2 g2 n2 : Nat} {sec : Value} (h : HoW w0 w p (hst0 10 11 1 2 3 4 16 200 2 sec q) (newR 16 i gi o g i2 gi2 o2 g2) (newC 10 1 n 11 2 n2)) (t : Int) :
    Calls Tryz.prog 20 #[.pointer (some ⟨p, 0, none⟩), .int .i64 t, .int .u64 1] w fun e w' => e = .returned (.int .i64 (beE t)) ∧ ∃ s' R' C', HoW w0 w' p s' R' C' ∧ (beE t = 0 → s'.now = t) := by
  by_cases ht : t < 0 ∨ 1099511627176 < t
  · have hE : beE t = 2 := if_pos ht
    refine (hstep_bad h t (.int .u64 1) (.inl ht)).mono ?_
    rintro e w1 ⟨rfl, h1⟩
    rw [if_pos ht]
    exact ⟨by rw [hE], _, _, _, h1, fun h => by rw [hE] at h; cases h⟩
  · have hE : beE t = 0 := if_neg ht
    refine (hstep_none h rfl rfl t 1 (by omega) (by omega) (show (0 : Int) ≤ t by omega) (show (0 : Int) ≤ t by omega) rfl rfl (by show atkE 0 t = 0; unfold atkE; rw [if_neg (by omega), if_neg (by omega)]) (by show atkE 0 t = 0; unfold atkE; rw [if_neg (by omega), if_neg (by omega)]) rfl rfl rfl rfl).mono ?_
    rintro e w1 ⟨rfl, s', C', h1, h2⟩
    exact ⟨by rw [hE], _, _, _, h1, fun _ => h2⟩
end Go.Proofs.YtfjpckaphfdfnaaGreatDoor
namespace Go.Proofs.YtfjpckaphfdfnaaGreatDoor
open Go.RowKit Go.ChangeShapes Go.WideShapes Go.ChangeAt
structure MgD where
  st : Nat
  ss : Nat
  pp : Nat
  fr : Bool
  daA : Option Addr
  daN : Nat
  daC : Nat
  daZ : List Nat
instance : Inhabited MgD := ⟨⟨0, 0, 0, false, none, 0, 0, []⟩⟩
def MgD.vals (x : MgD) : List Value := [.int .u16 (x.st : Nat), .int .u16 (x.ss : Nat), .int .u32 (x.pp : Nat), .bool x.fr, .slice x.daA x.daN x.daC]
def MgD.Wf (w : World) (x : MgD) : Prop := x.st < 65536 ∧ x.ss < 65536 ∧ x.pp < 4294967296 ∧ (Sl w x.daA x.daN x.daC x.daZ ∧ x.daC ≤ 140737488351232)
structure SlMg (w : World) (a : Option Addr) (n c : Nat) (dd : List MgD) : Prop where
  len : dd.length = n
  cap : n ≤ c
  small : n ≤ 281474976710656
  at_ : n = 0 ∨ ∃ b off, a = some ⟨b, off, none⟩ ∧ b < w.heap.size ∧ ∀ i x, dd[i]? = some x → ∀ j v, x.vals[j]? = some v → w.cell? ⟨b, off + i * 5 + j, none⟩ = some v
  wf : ∀ x ∈ dd, x.Wf w
theorem SlMg.below {w w' : World} {a : Option Addr} {n c : Nat} {dd : List MgD} (h : SlMg w a n c dd) (hb : Below w.heap.size w w') : SlMg w' a n c dd := by
  refine ⟨h.len, h.cap, h.small, ?_, fun x hx => ?_⟩
  · rcases h.at_ with h0 | ⟨b, off, rfl, hlt, hc⟩
    · exact .inl h0
    · exact .inr ⟨b, off, rfl, Nat.lt_of_lt_of_le hlt hb.size, fun i x hx j v hv => (hb.cell (p := ⟨b, off + i * 5 + j, none⟩) hlt).trans (hc i x hx j v hv)⟩
  · have hh := h.wf x hx
    unfold MgD.Wf at hh ⊢
    obtain ⟨h0, h1, h2, h3⟩ := hh
    exact ⟨h0, h1, h2, ⟨h3.1.below hb, h3.2⟩⟩
theorem SlMg.wAll_mem {H : Type} {P : Program} {e : TypeId} : ∀ {ds : List (DataW H)} {d : DataW H}, d ∈ ds → ∀ n ∈ d.weights P e, n ∈ DataW.weightsAll P e ds
  | x :: ds, d, hd, n, hn => by
    unfold DataW.weightsAll
    rcases List.mem_cons.1 hd with rfl | h
    · exact List.mem_append_left _ hn
    · exact List.mem_append_right _ (SlMg.wAll_mem h n hn)
theorem SlMg.cells_uint16 : Tryz.prog.cellsOf 22 = 1 := by kernel_rfl
theorem SlMg.cells_uint32 : Tryz.prog.cellsOf 23 = 1 := by kernel_rfl
theorem SlMg.cells_bool : Tryz.prog.cellsOf 4 = 1 := by kernel_rfl
theorem SlMg.cells___uint8 : Tryz.prog.cellsOf 24 = 1 := by kernel_rfl
theorem SlMg.bytes_u8 : Tryz.prog.bytesOf 5 = 1 := by kernel_rfl
theorem SlMg.open_bytes {H : Type} {enc : TypeId × Value → H} {w : World} {base : Nat} {held : Bool} {fuel : Nat} {v : Value} {y : DataW H × List MemPlace}
    (h : DataW.trod enc Tryz.prog w base (fun _ => true) held fuel 24 [v] = some y) (hw : ∀ n ∈ y.1.weights Tryz.prog 24, n ≤ reachBytes) : ∃ a n c zs, v = .slice a n c ∧ Sl w a n c zs ∧ c ≤ 140737488351232 := by
  rcases open_ints Tryz.underlying24 Tryz.underlying5 (by kernel_rfl) h with ⟨hcs, _⟩ | ⟨x, l, c, zs, hcs, _, hl, hm, hz, hx, hcell, hwz⟩
  · simp at hcs
    exact ⟨none, 0, 0, [], hcs, SlK.nil _ _ _ (by omega), by omega⟩
  · simp at hcs
    have hz' : zs.length = c := by simpa using hz
    have hb : (lits (H := H) .u8 (zs.take l)).length + (lits (H := H) .u8 (zs.drop l)).length ≤ reachBytes := by
      have := hw (((lits (H := H) .u8 (zs.take l)).length + (lits (H := H) .u8 (zs.drop l)).length) * Tryz.prog.bytesOf 5) (by
        rw [hx]
        unfold DataW.weights
        rw [Tryz.underlying24]
        simp)
      rwa [SlMg.bytes_u8, Nat.mul_one] at this
    simp only [lits, List.length_map, List.length_take, List.length_drop, reachBytes] at hb
    exact ⟨_, _, _, _, hcs, SlK.of_ints (by omega) (fun z hz => by simp [Lit.wf, IntKind.min, IntKind.max, IntKind.signed, IntKind.bits] at hz; omega) hl hm hz' (by omega) hcell hwz, by omega⟩
theorem SlMg.open_all_fields : ∃ f0 f1 f2 f3 f4 : Field, Tryz.prog.underlying 26 = some (.struct #[f0, f1, f2, f3, f4]) ∧ f0.offset = 0 ∧ f1.offset = 1 ∧ f2.offset = 2 ∧ f3.offset = 3 ∧ f4.offset = 4 ∧ f0.type = 22 ∧ f1.type = 22 ∧ f2.type = 23 ∧ f3.type = 4 ∧ f4.type = 24 := ⟨_, _, _, _, _, Tryz.underlying26, rfl, rfl, rfl, rfl, rfl, rfl, rfl, rfl, rfl, rfl⟩
set_option linter.unusedVariables false in
set_option maxRecDepth 100000 in
theorem SlMg.open_all {H : Type} {enc : TypeId × Value → H} {w : World} {base : Nat} {held : Bool} {fuel : Nat} {cl : List Value} {y : DataW H × List MemPlace} (hl : cl.length = 5)
    (h : DataW.trod enc Tryz.prog w base (fun _ => true) held fuel 26 cl = some y) (hw : ∀ n ∈ y.1.weights Tryz.prog 26, n ≤ reachBytes) :
    ∃ (st : Nat) (ss : Nat) (pp : Nat) (fr : Bool) (daA : Option Addr) (daN daC : Nat) (daZ : List Nat), cl = [.int .u16 (st : Nat), .int .u16 (ss : Nat), .int .u32 (pp : Nat), .bool fr, .slice daA daN daC] ∧ st < 65536 ∧ ss < 65536 ∧ pp < 4294967296 ∧ (Sl w daA daN daC daZ ∧ daC ≤ 140737488351232) := by
  obtain ⟨f0, f1, f2, f3, f4, he, o0, o1, o2, o3, o4, t0, t1, t2, t3, t4⟩ := SlMg.open_all_fields
  obtain ⟨xs, m, _, hx, _, hlen, hfs⟩ := DataW.trod_struct he h
  have hlen2 : xs.length = 5 := hlen
  match cl, hl, xs, hlen2 with
  | [v0, v1, v2, v3, v4], _, [y0, y1, y2, y3, y4], _ =>
    have hd := congrArg Prod.fst hx
    simp only [List.map_cons, List.map_nil] at hd
    have g0 := hfs 0 f0 rfl
    simp [o0, t0, SlMg.cells_uint16] at g0
    have g1 := hfs 1 f1 rfl
    simp [o1, t1, SlMg.cells_uint16] at g1
    have g2 := hfs 2 f2 rfl
    simp [o2, t2, SlMg.cells_uint32] at g2
    have g3 := hfs 3 f3 rfl
    simp [o3, t3, SlMg.cells_bool] at g3
    have g4 := hfs 4 f4 rfl
    simp [o4, t4, SlMg.cells___uint8] at g4
    obtain ⟨stz, e0, _, w0⟩ := DataW.trod_int Tryz.underlying22 g0
    simp at e0
    subst e0
    obtain ⟨st, rfl⟩ : ∃ m : Nat, stz = (m : Int) := ⟨stz.toNat, by have := bounds_u16 w0; omega⟩
    have b0 : st < 65536 := by have := bounds_u16 w0; omega
    obtain ⟨ssz, e1, _, w1⟩ := DataW.trod_int Tryz.underlying22 g1
    simp at e1
    subst e1
    obtain ⟨ss, rfl⟩ : ∃ m : Nat, ssz = (m : Int) := ⟨ssz.toNat, by have := bounds_u16 w1; omega⟩
    have b1 : ss < 65536 := by have := bounds_u16 w1; omega
    obtain ⟨ppz, e2, _, w2⟩ := DataW.trod_int Tryz.underlying23 g2
    simp at e2
    subst e2
    obtain ⟨pp, rfl⟩ : ∃ m : Nat, ppz = (m : Int) := ⟨ppz.toNat, by have := bounds_u32 w2; omega⟩
    have b2 : pp < 4294967296 := by have := bounds_u32 w2; omega
    obtain ⟨fr, e3, _⟩ := DataW.trod_bool Tryz.underlying4 g3
    simp at e3
    subst e3
    obtain ⟨daA, daN, daC, daZ, rfl, s4, b4⟩ := SlMg.open_bytes g4 (fun q hq => hw q (by
      rw [hd]
      unfold DataW.weights
      rw [he]
      exact DataW.weights_mem_each (j := 4) (t := f4.type) (d := y4.1) rfl rfl q (by rw [t4]; exact hq)))
    exact ⟨st, ss, pp, fr, daA, daN, daC, daZ, rfl, b0, b1, b2, ⟨s4, b4⟩⟩
theorem SlMg.cellsAll : Tryz.prog.cellsOf 26 = 5 := by kernel_rfl
theorem SlMg.bytesAll : Tryz.prog.bytesOf 26 = 40 := by kernel_rfl
theorem SlMg.open {H : Type} {enc : TypeId × Value → H} {w : World} {base : Nat} {held : Bool} {fuel : Nat} {a : Option Addr} {n c : Nat} {y : DataW H × List MemPlace}
    (h : DataW.trod enc Tryz.prog w base (fun _ => true) held fuel 145 [.slice a n c] = some y) (hw : ∀ n ∈ y.1.weights Tryz.prog 145, n ≤ reachBytes) : ∃ dd, SlMg w a n c dd := by
  rcases Go.Deep.open_slice Tryz.underlying145 h with ⟨hcs, _⟩ | ⟨x, l, k, m, fn, D, Pl, hcs, hb, hl, hm, hmm, hx, hc⟩
  · simp at hcs
    obtain ⟨rfl, rfl, rfl⟩ := hcs
    exact ⟨[], rfl, Nat.le_refl _, by omega, .inl rfl, fun x hx => (by cases hx)⟩
  · simp at hcs
    obtain ⟨rfl, rfl, rfl⟩ := hcs
    have hmc : m = c := by simpa using hmm
    subst hmc
    subst hx
    have hsz : m * 40 ≤ reachBytes := by
      have := hw ((((List.range n).map D).length + ((List.range (m - n)).map fun j => D (n + j)).length) * Tryz.prog.bytesOf 26) (by
        unfold DataW.weights
        rw [Tryz.underlying145]
        simp)
      rw [SlMg.bytesAll] at this
      simp at this
      omega
    simp only [reachBytes] at hsz
    rw [SlMg.cellsAll] at hc
    have hwi : ∀ i, i < n → ∀ q ∈ (D i).weights Tryz.prog 26, q ≤ reachBytes := by
      intro i hi q hq
      refine hw q ?_
      unfold DataW.weights
      rw [Tryz.underlying145]
      simp only [List.mem_cons, List.mem_append]
      exact .inr (.inl (SlMg.wAll_mem (List.mem_map.2 ⟨i, List.mem_range.2 hi, rfl⟩) q hq))
    have each : ∀ i, i < n → ∃ q : MgD, (∀ j v, q.vals[j]? = some v → w.cell? (x.add (i * 5 + j)) = some v) ∧ q.Wf w := by
      intro i hi
      obtain ⟨cs', h1, h2⟩ := hc i (by omega)
      obtain ⟨_, hlen, hcell⟩ := World.cells?_some h1
      obtain ⟨st, ss, pp, fr, daA, daN, daC, daZ, rfl, Hst, Hss, Hpp, Hda⟩ := SlMg.open_all hlen h2 (hwi i hi)
      refine ⟨⟨st, ss, pp, fr, daA, daN, daC, daZ⟩, fun j v hv => ?_, ⟨Hst, Hss, Hpp, Hda⟩⟩
      have hj : j < 5 := (List.getElem?_eq_some_iff.1 hv).1
      have e := hcell j hj
      rw [Go.Deep.add_add] at e
      rw [e]
      exact hv
    obtain ⟨q, hq⟩ := Go.Deep.choose_lt each
    have hget : ∀ i z, ((List.range n).map q)[i]? = some z → i < n ∧ z = q i := fun i z hz => by
      have hi := (List.getElem?_eq_some_iff.1 hz).1
      simp at hi
      rw [List.getElem?_map, List.getElem?_range hi] at hz
      simp at hz
      exact ⟨hi, hz.symm⟩
    refine ⟨(List.range n).map q, by simp, hl, by omega, ?_, fun z hz => ?_⟩
    · by_cases h0 : n = 0
      · exact .inl h0
      · obtain ⟨b, off, spot⟩ := x
        have hc0 := (hq 0 (by omega)).1 0 _ rfl
        have hspot : spot = none := by simpa [Addr.add] using World.cell?_spot hc0
        subst hspot
        have hlt : b < w.heap.size := by
          have := hc0
          simp only [Addr.add, World.cell?] at this
          rcases Nat.lt_or_ge b w.heap.size with h9 | h9
          · exact h9
          · simp [h9] at this
        refine .inr ⟨b, off, rfl, hlt, fun i z hz j v hv => ?_⟩
        obtain ⟨hi, rfl⟩ := hget i z hz
        have h1 := (hq i hi).1 j v hv
        have ea : ∀ j, (⟨b, off, none⟩ : Addr).add j = ⟨b, off + j, none⟩ := by
          intro j
          unfold Addr.add
          split
          · subst_vars; rfl
          · rfl
        rw [ea] at h1
        rw [Nat.add_assoc]
        exact h1
    · obtain ⟨i, hi⟩ := List.getElem?_of_mem hz
      obtain ⟨hin, rfl⟩ := hget i z hi
      exact (hq i hin).2
set_option maxRecDepth 100000 in
/-- One, by value, as a parameter. -/
theorem SlMg.openV {H : Type} {enc : TypeId × Value → H} {w : World} {b0 base : Nat} {held : Bool} {v : Value} {d : DataW H} {p : List MemPlace}
    (hv : Value.okWide Tryz.prog w .any b0 26 v) (h : DataW.Trod enc Tryz.prog w base (fun _ => true) held 26 v d p) (hw : ∀ n ∈ d.weights Tryz.prog 26, n ≤ reachBytes) : ∃ x : MgD, v = .agg x.vals.toArray ∧ x.Wf w := by
  obtain ⟨f0, f1, f2, f3, f4, he, _⟩ := SlMg.open_all_fields
  obtain ⟨cs, rfl, hsz⟩ := okWide_struct he hv
  rw [SlMg.cellsAll] at hsz
  obtain ⟨cl⟩ := cs
  obtain ⟨fuel, hf⟩ := h
  have hf2 : DataW.trod enc Tryz.prog w base (fun _ => true) held fuel 26 cl = some (d, p) := hf
  obtain ⟨st, ss, pp, fr, daA, daN, daC, daZ, rfl, Hst, Hss, Hpp, Hda⟩ := SlMg.open_all hsz hf2 hw
  exact ⟨⟨st, ss, pp, fr, daA, daN, daC, daZ⟩, rfl, ⟨Hst, Hss, Hpp, Hda⟩⟩
end Go.Proofs.YtfjpckaphfdfnaaGreatDoor
