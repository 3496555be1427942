/- What sums.Swap answers. -/
import Derived.Test.YthjjjdnhjedbpadNet
namespace Go.Proofs.Ythjjjdnhjedbpad
open Go.RowKit
set_option maxHeartbeats 400000 in
theorem swap_any (s o i : Nat) (w : World) (hs : s ≤ 65535) (ho : o ≤ 65535) (hi : i ≤ 65535) :
    Calls Try.prog 6 #[.int .u16 s, .int .u16 o, .int .u16 i] w fun e w' => e = .returned (.int .u16 (swap s o i)) ∧ w' = w := by
  have h1 := not16 s (by omega)
  have h2 := not16 o (by omega)
  have HA : Hid (swap s o i = 65535 - ar ((65535 - s) + (65535 - o) + i)) := rfl
  have hq := ar_le ((65535 - s) + (65535 - o) + i)
  have HN := (show Hid _ from not16 (ar ((65535 - s) + (65535 - o) + i)) (by omega))
  go_enter Try.func6, Try.ntmps6
  go_wp2_with fail
  rw [show (((65535 - s : Nat) : Int) + ((65535 - o : Nat) : Int) + (i : Int)) % 4294967296 = (((65535 - s) + (65535 - o) + i : Nat) : Int) from by omega]
  refine (around_any _ _ (by omega)).mono ?_
  rintro e w' ⟨rfl, rfl⟩
  generalize ar ((65535 - s) + (65535 - o) + i) = q at *
  go_wp2
  go_ret
  exact ⟨ret_int (by rw [HA.out, ← HN.out]), rfl⟩
end Go.Proofs.Ythjjjdnhjedbpad
