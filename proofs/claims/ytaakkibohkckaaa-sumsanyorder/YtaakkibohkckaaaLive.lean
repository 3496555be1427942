/- What live answers: true. -/
import Derived.Test.YtaakkibohkckaaaCrc
import Derived.Test.YtaakkibohkckaaaNet
import Derived.Lib.SlBytesConst
import Derived.Deep.QuietTactic
import Derived.BigQuiet
namespace Go.Proofs.Ytaakkibohkckaaa
open Go.RowKit
theorem crc_123 : crc [49, 50, 51, 52, 53, 54, 55, 56, 57] = 3808858755 := by decide +kernel
theorem net_4 : net [0, 1, 242, 3] = 3579 := by decide +kernel
set_option maxHeartbeats 400000 in
theorem live_any (w : World) :
    Calls Try.prog 10 #[] w fun e w' => e = .returned (.bool true) ∧ Below w.heap.size w w' := by
  have kc := fun (w : World) (C : Array Value) (n c : Nat) => Lib.run_convert_bytes_const (P := Try.prog) w 22 5 C n c Try.underlying22 Try.underlying5
  go_enter Try.func10, Try.ntmps10
  go_wp2_with fail
  have h1 : Sl (w.alloc (.cells #[.int .u8 49, .int .u8 50, .int .u8 51, .int .u8 52, .int .u8 53, .int .u8 54, .int .u8 55, .int .u8 56, .int .u8 57] 5 (9, 10))) (some ⟨w.heap.size, 0, none⟩) 9 9 [49, 50, 51, 52, 53, 54, 55, 56, 57] :=
    sl_new w 5 (9, 10) [49, 50, 51, 52, 53, 54, 55, 56, 57] rfl (by decide) _ rfl
  refine (crc_any _ _ _ _ _ h1).mono ?_
  rintro e w' ⟨rfl, rfl⟩
  rw [crc_123]
  clear h1
  generalize ho : Obj.cells #[.int .u8 49, .int .u8 50, .int .u8 51, .int .u8 52, .int .u8 53, .int .u8 54, .int .u8 55, .int .u8 56, .int .u8 57] 5 (9, 10) = o at *
  clear ho
  go_wp2_with fail
  have h2 : Sl ((w.alloc o).alloc (.cells #[.int .u8 0, .int .u8 1, .int .u8 242, .int .u8 3] 5)) (some ⟨w.heap.size + 1, 0, none⟩) 4 4 [0, 1, 242, 3] :=
    sl_new (w.alloc o) 5 (0, 0) [0, 1, 242, 3] rfl (by decide) _ (by simp)
  refine (net_any _ _ _ _ _ h2).mono ?_
  rintro e w' ⟨rfl, hb⟩
  rw [net_4]
  go_wp2
  go_ret
  exact ⟨rfl, (((Below.refl _ _).alloc (Nat.le_refl _) _).alloc (by simp) _).trans (hb.mono (by simp; omega))⟩
end Go.Proofs.Ytaakkibohkckaaa
