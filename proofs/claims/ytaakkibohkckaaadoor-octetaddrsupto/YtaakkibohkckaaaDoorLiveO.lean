/- What live of layer 1 answers: true. -/
import Derived.Test.YtaakkibohkckaaaDoorBytes
import Derived.Test.YtaakkibohkckaaaDoorNum
import Derived.Test.YtaakkibohkckaaaDoorUnhex
import Derived.Test.YtaakkibohkckaaaDoorStr
namespace Go.Proofs.YtaakkibohkckaaaDoor
open Go.RowKit
theorem ad_c : adOf ⟨#[49, 48, 46, 48, 46, 48, 46, 55]⟩ = (167772167, 0, 0) := by decide +kernel
theorem uh_c : uhOf ⟨#[48, 195, 164]⟩ = ([], 1, 4) := by decide +kernel
theorem by_c : bytesV 258 3 = [0, 1, 2] := by decide +kernel
theorem be_c : bytesE 258 3 = 0 := by decide +kernel
theorem nu_c : numV [9, 1, 2] 1 2 = 258 := by decide +kernel
theorem ne_c : nspanE 3 1 2 = 0 := by decide +kernel
set_option maxHeartbeats 1000000 in
theorem live_any (w : World) :
    Calls Tryd.prog 8 #[] w fun e w' => e = .returned (.bool true) ∧ Below w.heap.size w w' := by
  go_enter Tryd.func8, Tryd.ntmps8
  go_wp2_with fail
  refine (bytes_any 258 3 _ (by omega)).mono ?_
  rintro e w1 ⟨a1, c1, rfl, ho1, hb1⟩
  rw [by_c] at *
  rw [be_c]
  go_wp2_with fail
  have h2 : Sl (w1.alloc (.cells #[.int .u8 9, .int .u8 1, .int .u8 2] 5)) (some ⟨w1.heap.size, 0, none⟩) 3 3 [9, 1, 2] :=
    sl_new w1 5 (0, 0) [9, 1, 2] rfl (by decide) _ rfl
  refine (num_any _ 3 3 [9, 1, 2] 1 2 _ h2).mono ?_
  rintro e w2 ⟨rfl, rfl⟩
  rw [nu_c, ne_c]
  have ho2 := ho1.alloc (.cells #[.int .u8 9, .int .u8 1, .int .u8 2] 5)
  have hb2 := hb1.alloc hb1.size (.cells #[.int .u8 9, .int .u8 1, .int .u8 2] 5)
  clear h2
  generalize w1.alloc (.cells #[.int .u8 9, .int .u8 1, .int .u8 2] 5) = w3 at *
  go_wp2_with fail
  refine (addr_any _ _ (by decide)).mono ?_
  rintro e w4 ⟨rfl, hb4⟩
  rw [ad_c]
  have ho4 := ho2.below hb4
  have hb5 := hb2.trans (hb4.mono hb2.size)
  clear ho1 hb1 ho2 hb2 hb4
  go_wp2_with fail
  refine (unhex_any _ _ (by decide)).mono ?_
  rintro e w6 ⟨a6, c6, rfl, ho6, hb6⟩
  rw [uh_c] at *
  have ho7 := ho4.below hb6
  have hb7 := hb5.trans (hb6.mono hb5.size)
  clear ho4 hb5 hb6 ho6
  have ho8 : OwnB w6 w.heap.size a1 3 c1 [0, 1, 2] := ho7
  have hcv := conv_str (ho8.sl (by omega))
  have hst : strOf [0, 1, 2] = ⟨#[0, 1, 2]⟩ := by decide +kernel
  rw [hst] at hcv
  clear hst ho7 ho8
  go_wp2
  go_ret
  exact ⟨rfl, hb7⟩
end Go.Proofs.YtaakkibohkckaaaDoor
