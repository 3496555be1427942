/- What sums.Swap and the reference's Swap answer. -/
import Derived.Test.YthjjjdnhjedbpacNet
import Derived.Test.YthjjjdnhjedbpacRefNet
namespace Go.Proofs.Ythjjjdnhjedbpac
open Go.RowKit
set_option maxHeartbeats 400000 in
theorem swap_any (s o i : Nat) (w : World) (hs : s ≤ 65535) (ho : o ≤ 65535) (hi : i ≤ 65535) :
    Calls Try.prog 16 #[.int .u16 s, .int .u16 o, .int .u16 i] w fun e w' => e = .returned (.int .u16 (swap s o i)) ∧ w' = w := by
  have h1 := not16 s (by omega)
  have h2 := not16 o (by omega)
  have HA : Hid (swap s o i = 65535 - ar ((65535 - s) + (65535 - o) + i)) := rfl
  have hq := ar_le ((65535 - s) + (65535 - o) + i)
  have HN := (show Hid _ from not16 (ar ((65535 - s) + (65535 - o) + i)) (by omega))
  go_enter Try.func16, Try.ntmps16
  go_wp2_with fail
  rw [show (((65535 - s : Nat) : Int) + ((65535 - o : Nat) : Int) + (i : Int)) % 4294967296 = (((65535 - s) + (65535 - o) + i : Nat) : Int) from by omega]
  refine (around_any _ _ (by omega)).mono ?_
  rintro e w' ⟨rfl, rfl⟩
  generalize ar ((65535 - s) + (65535 - o) + i) = q at *
  go_wp2
  go_ret
  exact ⟨ret_int (by rw [HA.out, ← HN.out]), rfl⟩
set_option maxHeartbeats 400000 in
theorem refswap_any (s o i : Nat) (w : World) (hs : s ≤ 65535) (ho : o ≤ 65535) (hi : i ≤ 65535) :
    Calls Try.prog 17 #[.int .u16 s, .int .u16 o, .int .u16 i] w fun e w' => e = .returned (.int .u16 (swap s o i)) ∧ w' = w := by
  have HA : Hid (swap s o i = 65535 - ar (ar ((65535 - s) + (65535 - o)) + i)) := by show _ = _; rw [ar_add]; rfl
  have hq := ar_le ((65535 - s) + (65535 - o))
  have hq2 := ar_le (ar ((65535 - s) + (65535 - o)) + i)
  go_enter Try.func17, Try.ntmps17
  go_wp2_with fail
  rw [show ((65535 : Int) - s) = ((65535 - s : Nat) : Int) from by omega, show ((65535 : Int) - o) = ((65535 - o : Nat) : Int) from by omega]
  refine (add_any _ _ _ (by omega) (by omega)).mono ?_
  rintro e w' ⟨rfl, rfl⟩
  generalize ar ((65535 - s) + (65535 - o)) = q at *
  go_wp2_with fail
  refine (add_any _ _ _ hq hi).mono ?_
  rintro e w' ⟨rfl, rfl⟩
  generalize ar (q + i) = p at *
  go_wp2
  go_ret
  exact ⟨ret_int (by rw [HA.out]; omega), rfl⟩
end Go.Proofs.Ythjjjdnhjedbpac
