/-
  Whatever the input, trunklinelaw13.StreamsForks answers true and leaves what it was handed as it was.
  (The statement is Rows.StreamsForksSaid; no condition of our own.)
-/
import Derived.Test.YtjaheelgcjafcaaLD
import Derived.Test.YtjaheelgcjafcaaLR
import Derived.Test.YtjaheelgcjafcaaRows
import Derived.ProofKit
import Derived.OpenShut
import Derived.ShutString
import Derived.ChangeOld
import Derived.SizedLaws
namespace Go.Proofs.Ytjaheelgcjafcaa
open Go.RowKit Go.MapKept Go.Maps
set_option linter.unusedVariables false in
set_option maxRecDepth 100000 in
set_option maxHeartbeats 8000000 in
theorem walk_StreamsForks (a : Option Addr) (n c : Nat) (dd : List ChQ) (a2 : Option Addr) (n2 c2 : Nat) (dd2 : List ChQ) (w : World) (hs : SlCq w a n c dd) (hs2 : SlCq w a2 n2 c2 dd2) :
    Calls Try.prog 8 #[.slice a n c, .slice a2 n2 c2] w fun e w' => e = .returned (.bool true) ∧ Below w.heap.size w w' := by
  have HPL := (show Hid _ from play_any 4 hs)
  have hnl : n2 ≤ 281474976710656 := hs2.small
  have HS := (show Hid _ from hs2)
  have hcap := hs2.cap
  clear hs hs2
  go_enter Try.func8, Try.ntmps8
  go_wp2_with fail
  refine Calls.mono HPL.out ?_
  clear HPL
  rintro e w1 ⟨⟨P1, P2, rfl, h0⟩, -⟩
  rcases h0 with ⟨-, -, hno⟩ | ⟨px, nb, mb, wb, py, rfl, rfl, hB⟩
  · exact absurd (⟨by decide, by decide⟩ : (1 : Int) ≤ 4 ∧ (4 : Int) ≤ 8) hno
  have HFK := (show Hid _ from forks_any hB)
  have HBX := (show Hid _ from hB)
  clear hB
  go_wp2_with fail
  refine Calls.mono HFK.out ?_
  clear HFK
  rintro e w2 ⟨q, g, m1, m2, rfl, -, hF2⟩
  have HF2 := (show Hid _ from hF2)
  clear hF2
  go_wp2_with fail
  refine Calls.mono HF2.out ?_
  clear HF2
  rintro e w3 ⟨q2, rfl, hBG⟩
  have HBG := (show Hid _ from hBG)
  clear hBG
  go_wp2_with fail
  go_loopw [10] (fun iv wr => ∃ i : Nat, i ≤ n2 ∧ iv = .int .i64 (i : Nat) ∧ BoS w1 wr q g m1 m2 q2) (fun iv _ => n2 - (intOf iv).toNat)
  case atStart => exact ⟨0, by omega, rfl, HBG.out⟩
  case round =>
    obtain ⟨i, hi, rfl, hB⟩ := hrel
    clear HBG
    have hbl9 := HBX.out.bel.trans (hB.bel.mono HBX.out.bel.size)
    by_cases hlt : i < n2 ∧ i < 200
    · --
      obtain ⟨hl1, hl2⟩ := hlt
      have g1 : (i : Int) < (n2 : Int) := by omega
      have g2 : (i : Int) < 200 := by omega
      have g0 : (0 : Int) ≤ (i : Int) := by omega
      obtain ⟨b, off, rfl, hbl, hcl⟩ := HS.out.at_.resolve_left (by omega)
      obtain ⟨x, hx⟩ : ∃ x, dd2[i]? = some x := ⟨_, List.getElem?_eq_getElem (by rw [HS.out.len]; exact hl1)⟩
      have hxw := HS.out.wf x (List.mem_of_getElem? hx)
      have hcx : ∀ j u, x.vals[j]? = some u → wr.cell? ⟨b, off + i * 14 + j, none⟩ = some u := fun j u hu => (hbl9.cell (p := ⟨b, off + i * 14 + j, none⟩) hbl).trans (hcl i x hx j u hu)
      have x0 : wr.cell? ⟨b, off + i * 14, none⟩ = some (.int .u8 (x.k : Nat)) := hcx 0 _ rfl
      have x1 : wr.cell? ⟨b, off + i * 14 + 1, none⟩ = some (.int .u8 (x.f : Nat)) := hcx 1 _ rfl
      have x2 : wr.cell? ⟨b, off + i * 14 + 2, none⟩ = some (.int .u32 (x.t : Nat)) := hcx 2 _ rfl
      have x3 : wr.cell? ⟨b, off + i * 14 + 3, none⟩ = some (.int .u16 (x.st : Nat)) := hcx 3 _ rfl
      have x4 : wr.cell? ⟨b, off + i * 14 + 4, none⟩ = some (.int .u16 (x.ss : Nat)) := hcx 4 _ rfl
      have x5 : wr.cell? ⟨b, off + i * 14 + 5, none⟩ = some (.int .u32 (x.pp : Nat)) := hcx 5 _ rfl
      have x6 : wr.cell? ⟨b, off + i * 14 + 6, none⟩ = some (.int .u32 (x.tg : Nat)) := hcx 6 _ rfl
      have x7 : wr.cell? ⟨b, off + i * 14 + 7, none⟩ = some (.int .u32 (x.rm : Nat)) := hcx 7 _ rfl
      have x8 : wr.cell? ⟨b, off + i * 14 + 8, none⟩ = some (.int .u16 (x.os : Nat)) := hcx 8 _ rfl
      have x9 : wr.cell? ⟨b, off + i * 14 + 9, none⟩ = some (.int .u16 (x.is : Nat)) := hcx 9 _ rfl
      have x10 : wr.cell? ⟨b, off + i * 14 + 10, none⟩ = some (.slice x.bA x.bN x.bC) := hcx 10 _ rfl
      have x11 : wr.cell? ⟨b, off + i * 14 + 11, none⟩ = some (.slice x.dA x.dN x.dC) := hcx 11 _ rfl
      have x12 : wr.cell? ⟨b, off + i * 14 + 12, none⟩ = some (.slice x.pA x.pN x.pC) := hcx 12 _ rfl
      have x13 : wr.cell? ⟨b, off + i * 14 + 13, none⟩ = some (.slice x.xA x.xN x.xC) := hcx 13 _ rfl
      have hdo : Calls Try.prog 19 #[.pointer (some ⟨q, 0, none⟩), .pointer (some ⟨q2, 0, none⟩), .agg #[.int .u8 (x.k : Nat), .int .u8 (x.f : Nat), .int .u32 (x.t : Nat), .int .u16 (x.st : Nat), .int .u16 (x.ss : Nat), .int .u32 (x.pp : Nat), .int .u32 (x.tg : Nat), .int .u32 (x.rm : Nat), .int .u16 (x.os : Nat), .int .u16 (x.is : Nat), .slice x.bA x.bN x.bC, .slice x.dA x.dN x.dC, .slice x.pA x.pN x.pC, .slice x.xA x.xN x.xC]] wr fun e w' => e = .returned (.bool true) ∧ BoS w1 w' q g m1 m2 q2 := do_any hB x (ChQ.wf_below hxw HBX.out.bel)
      have HDO := (show Hid _ from hdo)
      clear hB hx hxw hcx hcl hdo hbl9
      go_wp2_with fail
      refine Calls.mono HDO.out ?_
      clear HDO
      rintro e w9 ⟨rfl, hB3⟩
      have HB3 := (show Hid _ from hB3)
      clear hB3
      go_wp2
      go_roundw
      case rel => exact ⟨i + 1, by omega, by go_num, HB3.out⟩
      case measure => simp [intOf]; omega
    · have hBx := HBX.out.below hB.bel
      have HSX := (show Hid _ from same_any hBx)
      have HSG : Hid (∀ V, Below wr.heap.size wr V → Calls Try.prog 20 #[.pointer (some ⟨q, 0, none⟩), .pointer (some ⟨q2, 0, none⟩)] V fun e w' => e = .returned (.bool true) ∧ Below V.heap.size V w') := fun V hV => same_any (hB.below hV)
      clear HBX
      have HBX := (show Hid _ from hBx)
      clear hB hBx hbl9
      by_cases hl1 : i < n2
      · have g1 : (i : Int) < (n2 : Int) := by omega
        have g2 : ¬ (i : Int) < 200 := by omega
        go_wp2_with fail
        refine Calls.mono HSX.out ?_
        clear HSX
        rintro e w5 ⟨rfl, hb5⟩
        have HSY := (show Hid _ from HSG.out w5 hb5)
        have HB5 := (show Hid _ from hb5)
        clear HSG hb5
        go_wp2_with fail
        refine Calls.mono HSY.out ?_
        clear HSY
        rintro e w6 ⟨rfl, hb6⟩
        have HB6 : Hid (BoS w w6 px nb mb wb py) := HBX.out.below (HB5.out.trans (hb6.mono HB5.out.size))
        clear HBX HB5 hb6
        go_wp2_with fail
        go_loopw [11] (fun iv wr => ∃ i : Nat, i ≤ n2 ∧ iv = .int .i64 (i : Nat) ∧ BoS w wr px nb mb wb py) (fun iv _ => n2 - (intOf iv).toNat)
        case atStart => exact ⟨0, by omega, rfl, HB6.out⟩
        case round =>
          obtain ⟨i, hi, rfl, hB⟩ := hrel
          clear HB6
          have hbl9 := hB.bel
          by_cases hlt : i < n2 ∧ i < 20
          · --
            obtain ⟨hl1, hl2⟩ := hlt
            have g1 : (i : Int) < (n2 : Int) := by omega
            have g2 : (i : Int) < 20 := by omega
            have g0 : (0 : Int) ≤ (i : Int) := by omega
            obtain ⟨b, off, rfl, hbl, hcl⟩ := HS.out.at_.resolve_left (by omega)
            obtain ⟨x, hx⟩ : ∃ x, dd2[i]? = some x := ⟨_, List.getElem?_eq_getElem (by rw [HS.out.len]; exact hl1)⟩
            have hxw := HS.out.wf x (List.mem_of_getElem? hx)
            have hcx : ∀ j u, x.vals[j]? = some u → wr.cell? ⟨b, off + i * 14 + j, none⟩ = some u := fun j u hu => (hbl9.cell (p := ⟨b, off + i * 14 + j, none⟩) hbl).trans (hcl i x hx j u hu)
            have x0 : wr.cell? ⟨b, off + i * 14, none⟩ = some (.int .u8 (x.k : Nat)) := hcx 0 _ rfl
            have x1 : wr.cell? ⟨b, off + i * 14 + 1, none⟩ = some (.int .u8 (x.f : Nat)) := hcx 1 _ rfl
            have x2 : wr.cell? ⟨b, off + i * 14 + 2, none⟩ = some (.int .u32 (x.t : Nat)) := hcx 2 _ rfl
            have x3 : wr.cell? ⟨b, off + i * 14 + 3, none⟩ = some (.int .u16 (x.st : Nat)) := hcx 3 _ rfl
            have x4 : wr.cell? ⟨b, off + i * 14 + 4, none⟩ = some (.int .u16 (x.ss : Nat)) := hcx 4 _ rfl
            have x5 : wr.cell? ⟨b, off + i * 14 + 5, none⟩ = some (.int .u32 (x.pp : Nat)) := hcx 5 _ rfl
            have x6 : wr.cell? ⟨b, off + i * 14 + 6, none⟩ = some (.int .u32 (x.tg : Nat)) := hcx 6 _ rfl
            have x7 : wr.cell? ⟨b, off + i * 14 + 7, none⟩ = some (.int .u32 (x.rm : Nat)) := hcx 7 _ rfl
            have x8 : wr.cell? ⟨b, off + i * 14 + 8, none⟩ = some (.int .u16 (x.os : Nat)) := hcx 8 _ rfl
            have x9 : wr.cell? ⟨b, off + i * 14 + 9, none⟩ = some (.int .u16 (x.is : Nat)) := hcx 9 _ rfl
            have x10 : wr.cell? ⟨b, off + i * 14 + 10, none⟩ = some (.slice x.bA x.bN x.bC) := hcx 10 _ rfl
            have x11 : wr.cell? ⟨b, off + i * 14 + 11, none⟩ = some (.slice x.dA x.dN x.dC) := hcx 11 _ rfl
            have x12 : wr.cell? ⟨b, off + i * 14 + 12, none⟩ = some (.slice x.pA x.pN x.pC) := hcx 12 _ rfl
            have x13 : wr.cell? ⟨b, off + i * 14 + 13, none⟩ = some (.slice x.xA x.xN x.xC) := hcx 13 _ rfl
            have hdo : Calls Try.prog 19 #[.pointer (some ⟨px, 0, none⟩), .pointer (some ⟨py, 0, none⟩), .agg #[.int .u8 (x.k : Nat), .int .u8 (x.f : Nat), .int .u32 (x.t : Nat), .int .u16 (x.st : Nat), .int .u16 (x.ss : Nat), .int .u32 (x.pp : Nat), .int .u32 (x.tg : Nat), .int .u32 (x.rm : Nat), .int .u16 (x.os : Nat), .int .u16 (x.is : Nat), .slice x.bA x.bN x.bC, .slice x.dA x.dN x.dC, .slice x.pA x.pN x.pC, .slice x.xA x.xN x.xC]] wr fun e w' => e = .returned (.bool true) ∧ BoS w w' px nb mb wb py := do_any hB x (hxw)
            have HDO := (show Hid _ from hdo)
            clear hB hx hxw hcx hcl hdo hbl9
            go_wp2_with fail
            refine Calls.mono HDO.out ?_
            clear HDO
            rintro e w9 ⟨rfl, hB3⟩
            have HB3 := (show Hid _ from hB3)
            clear hB3
            go_wp2
            go_roundw
            case rel => exact ⟨i + 1, by omega, by go_num, HB3.out⟩
            case measure => simp [intOf]; omega
          · have hb9 := hB.bel
            clear hB hbl9
            by_cases hl1 : i < n2
            · have g1 : (i : Int) < (n2 : Int) := by omega
              have g2 : ¬ (i : Int) < 20 := by omega
              go_wp2_with fail
              refine Calls.mono (live13_any _) ?_
              rintro e w10 ⟨rfl, hb10⟩
              have HF := (show Hid _ from hb9.trans (hb10.mono hb9.size))
              clear hb9 hb10
              go_wp2
              go_ret
              exact ⟨rfl, HF.out⟩
            · have g1 : ¬ (i : Int) < (n2 : Int) := by omega
              go_wp2_with fail
              refine Calls.mono (live13_any _) ?_
              rintro e w10 ⟨rfl, hb10⟩
              have HF := (show Hid _ from hb9.trans (hb10.mono hb9.size))
              clear hb9 hb10
              go_wp2
              go_ret
              exact ⟨rfl, HF.out⟩
      · have g1 : ¬ (i : Int) < (n2 : Int) := by omega
        go_wp2_with fail
        refine Calls.mono HSX.out ?_
        clear HSX
        rintro e w5 ⟨rfl, hb5⟩
        have HSY := (show Hid _ from HSG.out w5 hb5)
        have HB5 := (show Hid _ from hb5)
        clear HSG hb5
        go_wp2_with fail
        refine Calls.mono HSY.out ?_
        clear HSY
        rintro e w6 ⟨rfl, hb6⟩
        have HB6 : Hid (BoS w w6 px nb mb wb py) := HBX.out.below (HB5.out.trans (hb6.mono HB5.out.size))
        clear HBX HB5 hb6
        go_wp2_with fail
        go_loopw [11] (fun iv wr => ∃ i : Nat, i ≤ n2 ∧ iv = .int .i64 (i : Nat) ∧ BoS w wr px nb mb wb py) (fun iv _ => n2 - (intOf iv).toNat)
        case atStart => exact ⟨0, by omega, rfl, HB6.out⟩
        case round =>
          obtain ⟨i, hi, rfl, hB⟩ := hrel
          clear HB6
          have hbl9 := hB.bel
          by_cases hlt : i < n2 ∧ i < 20
          · --
            obtain ⟨hl1, hl2⟩ := hlt
            have g1 : (i : Int) < (n2 : Int) := by omega
            have g2 : (i : Int) < 20 := by omega
            have g0 : (0 : Int) ≤ (i : Int) := by omega
            obtain ⟨b, off, rfl, hbl, hcl⟩ := HS.out.at_.resolve_left (by omega)
            obtain ⟨x, hx⟩ : ∃ x, dd2[i]? = some x := ⟨_, List.getElem?_eq_getElem (by rw [HS.out.len]; exact hl1)⟩
            have hxw := HS.out.wf x (List.mem_of_getElem? hx)
            have hcx : ∀ j u, x.vals[j]? = some u → wr.cell? ⟨b, off + i * 14 + j, none⟩ = some u := fun j u hu => (hbl9.cell (p := ⟨b, off + i * 14 + j, none⟩) hbl).trans (hcl i x hx j u hu)
            have x0 : wr.cell? ⟨b, off + i * 14, none⟩ = some (.int .u8 (x.k : Nat)) := hcx 0 _ rfl
            have x1 : wr.cell? ⟨b, off + i * 14 + 1, none⟩ = some (.int .u8 (x.f : Nat)) := hcx 1 _ rfl
            have x2 : wr.cell? ⟨b, off + i * 14 + 2, none⟩ = some (.int .u32 (x.t : Nat)) := hcx 2 _ rfl
            have x3 : wr.cell? ⟨b, off + i * 14 + 3, none⟩ = some (.int .u16 (x.st : Nat)) := hcx 3 _ rfl
            have x4 : wr.cell? ⟨b, off + i * 14 + 4, none⟩ = some (.int .u16 (x.ss : Nat)) := hcx 4 _ rfl
            have x5 : wr.cell? ⟨b, off + i * 14 + 5, none⟩ = some (.int .u32 (x.pp : Nat)) := hcx 5 _ rfl
            have x6 : wr.cell? ⟨b, off + i * 14 + 6, none⟩ = some (.int .u32 (x.tg : Nat)) := hcx 6 _ rfl
            have x7 : wr.cell? ⟨b, off + i * 14 + 7, none⟩ = some (.int .u32 (x.rm : Nat)) := hcx 7 _ rfl
            have x8 : wr.cell? ⟨b, off + i * 14 + 8, none⟩ = some (.int .u16 (x.os : Nat)) := hcx 8 _ rfl
            have x9 : wr.cell? ⟨b, off + i * 14 + 9, none⟩ = some (.int .u16 (x.is : Nat)) := hcx 9 _ rfl
            have x10 : wr.cell? ⟨b, off + i * 14 + 10, none⟩ = some (.slice x.bA x.bN x.bC) := hcx 10 _ rfl
            have x11 : wr.cell? ⟨b, off + i * 14 + 11, none⟩ = some (.slice x.dA x.dN x.dC) := hcx 11 _ rfl
            have x12 : wr.cell? ⟨b, off + i * 14 + 12, none⟩ = some (.slice x.pA x.pN x.pC) := hcx 12 _ rfl
            have x13 : wr.cell? ⟨b, off + i * 14 + 13, none⟩ = some (.slice x.xA x.xN x.xC) := hcx 13 _ rfl
            have hdo : Calls Try.prog 19 #[.pointer (some ⟨px, 0, none⟩), .pointer (some ⟨py, 0, none⟩), .agg #[.int .u8 (x.k : Nat), .int .u8 (x.f : Nat), .int .u32 (x.t : Nat), .int .u16 (x.st : Nat), .int .u16 (x.ss : Nat), .int .u32 (x.pp : Nat), .int .u32 (x.tg : Nat), .int .u32 (x.rm : Nat), .int .u16 (x.os : Nat), .int .u16 (x.is : Nat), .slice x.bA x.bN x.bC, .slice x.dA x.dN x.dC, .slice x.pA x.pN x.pC, .slice x.xA x.xN x.xC]] wr fun e w' => e = .returned (.bool true) ∧ BoS w w' px nb mb wb py := do_any hB x (hxw)
            have HDO := (show Hid _ from hdo)
            clear hB hx hxw hcx hcl hdo hbl9
            go_wp2_with fail
            refine Calls.mono HDO.out ?_
            clear HDO
            rintro e w9 ⟨rfl, hB3⟩
            have HB3 := (show Hid _ from hB3)
            clear hB3
            go_wp2
            go_roundw
            case rel => exact ⟨i + 1, by omega, by go_num, HB3.out⟩
            case measure => simp [intOf]; omega
          · have hb9 := hB.bel
            clear hB hbl9
            by_cases hl1 : i < n2
            · have g1 : (i : Int) < (n2 : Int) := by omega
              have g2 : ¬ (i : Int) < 20 := by omega
              go_wp2_with fail
              refine Calls.mono (live13_any _) ?_
              rintro e w10 ⟨rfl, hb10⟩
              have HF := (show Hid _ from hb9.trans (hb10.mono hb9.size))
              clear hb9 hb10
              go_wp2
              go_ret
              exact ⟨rfl, HF.out⟩
            · have g1 : ¬ (i : Int) < (n2 : Int) := by omega
              go_wp2_with fail
              refine Calls.mono (live13_any _) ?_
              rintro e w10 ⟨rfl, hb10⟩
              have HF := (show Hid _ from hb9.trans (hb10.mono hb9.size))
              clear hb9 hb10
              go_wp2
              go_ret
              exact ⟨rfl, HF.out⟩
end Go.Proofs.Ytjaheelgcjafcaa
namespace Go.Proofs.Ytjaheelgcjafcaa.streamsForks
open Go.ChangeShapes Go.WideShapes Go.ChangeAt Go.RowKit
open Go.ChangeMaps (open_string shut_string)
set_option linter.unusedVariables false
theorem own : ownKnob Try.prog.godebug = none := by kernel_rfl
theorem laidOut : laidOutB Try.prog = true := by kernel_rfl


set_option maxRecDepth 100000 in
theorem lifted (os : Os) (started : os.Started) (H : Type) (enc : TypeId × Value → H) :
    ReturnsInHanded {} Try.checked os 8 .any (Rows.streamsForksSpec.pre6 enc Try.prog Try.f8 Rows.streamsForksRow.domain false) (Rows.streamsForksSpec.post enc Try.prog Try.f8 false true false false) := by
  refine returnsInHanded_of_change_sized (C := Try.checked) own started (by kernel_rfl) Try.func8
    (ChangeSpec.witness6 (enc := enc) (C := Try.checked) false ⟨#[], #[.slice none 0 0, .slice none 0 0], []⟩ 8 (by kernel_rfl) (by kernel_rfl) (by kernel_rfl) (by kernel_rfl)) ?_
  intro W base args ds gs before hval0 hW hcnd hsz0 _
  have hval : ∀ (j : Nat) t v, Try.f8.params[j]? = some t → args[j]? = some v → Value.okWide Try.prog W .any base t v := hval0
  have hsz : (DataW.weightsEach Try.prog (Try.f8.params.toList ++ Rows.streamsForksSpec.plain.varTypes Try.prog) (ds ++ gs)).all (· ≤ reachBytes) = true := hsz0
  clear hsz0
  have hW' := hW
  obtain ⟨p, q, hA0, hV, rfl, hfz, hnd⟩ := hW
  have hA : DataW.TrodAll enc Try.prog W 0 (fun _ => true) true Try.f8.params.toList args.toList ds p := hA0
  rw [Try.params8] at hA hval hsz
  obtain ⟨v0, vs0, d0, ds0, p0, q0, hargs, rfl, rfl, h0, r0⟩ := trodAll_cons hA
  obtain ⟨v1, vs1, d1, ds1, p1, q1, rfl, rfl, rfl, h1, r1⟩ := trodAll_cons r0
  obtain ⟨rfl, rfl, rfl⟩ := trodAll_nil r1
  obtain rfl : args = #[v0, v1] := by cases args; simp_all
  obtain ⟨rfl, rfl⟩ := trodVars_none hV
  obtain ⟨a0, len0, cap0, rfl⟩ := okWide_slice Try.underlying22 (hval 0 22 v0 rfl rfl)
  have k0 := h0
  have lt0 : ∀ x ∈ p0, x.block < W.heap.size := by obtain ⟨m, hm⟩ := k0; exact DataW.trod_lt m _ _ _ hm
  obtain ⟨z0, w0⟩ : ∃ dd, SlCq W a0 len0 cap0 dd := by
    clear k0 lt0
    obtain ⟨fuel, hf⟩ := h0
    exact SlCq.open hf (fun q hq => by
      have := List.all_eq_true.1 hsz q (DataW.weights_mem_each (j := 0) (t := 22) (d := d0) rfl rfl q hq)
      simpa using this)
  obtain ⟨a1, len1, cap1, rfl⟩ := okWide_slice Try.underlying22 (hval 1 22 v1 rfl rfl)
  have k1 := h1
  have lt1 : ∀ x ∈ p1, x.block < W.heap.size := by obtain ⟨m, hm⟩ := k1; exact DataW.trod_lt m _ _ _ hm
  obtain ⟨z1, w1⟩ : ∃ dd, SlCq W a1 len1 cap1 dd := by
    clear k1 lt1
    obtain ⟨fuel, hf⟩ := h1
    exact SlCq.open hf (fun q hq => by
      have := List.all_eq_true.1 hsz q (DataW.weights_mem_each (j := 1) (t := 22) (d := d1) rfl rfl q hq)
      simpa using this)
  clear hA0 hval0 hsz
  refine (walk_StreamsForks a0 len0 cap0 z0 a1 len1 cap1 z1 W w0 w1).mono fun e W' ⟨he, bel⟩ => ?_
  subst he
  exact ⟨_, rfl, _, _, _, [], _, [], hW', trodAll_mk1 (shut_bool Try.underlying4 _), (trodAll_cons_mk (Below.trod laidOut (by kernel_rfl) (of_decide_eq_true (by kernel_rfl)) k0 bel lt0) (trodAll_cons_mk (Below.trod laidOut (by kernel_rfl) (of_decide_eq_true (by kernel_rfl)) k1 bel lt1) trodAll_mk0)), rfl, bel.frame _, fun h => by cases h⟩
theorem over : Rows.streamsForksRow.holds Try.pinned (OpenSpec.ofChange Rows.streamsForksSpec) :=
  OpenClaim.holds_of_wide 8 Try.f8 rfl rfl rfl rfl rfl rfl rfl ⟨rfl, rfl, rfl, rfl, rfl⟩ rfl rfl rfl rfl rfl (by kernel_rfl) Try.func8 (by kernel_rfl)
    (of_decide_eq_true (by kernel_rfl)) (by unfold Func.isWrapper; first | (rw [if_pos (by decide +kernel)]; kernel_rfl) | (rw [if_neg (by decide +kernel)]; exact ⟨rfl, rfl⟩))
    (fun os started H enc _ => lifted os started H enc)
end Go.Proofs.Ytjaheelgcjafcaa.streamsForks
namespace Go.Proofs.Ytjaheelgcjafcaa
theorem StreamsForks_holds : Rows.StreamsForksSaid := streamsForks.over
#print axioms StreamsForks_holds
end Go.Proofs.Ytjaheelgcjafcaa
