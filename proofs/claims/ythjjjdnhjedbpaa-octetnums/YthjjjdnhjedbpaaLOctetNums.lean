/- Whatever bytes and numbers: the walk of trunklinelaw01.OctetNums ends with true, and writes nothing that was there. -/
import Derived.Test.YthjjjdnhjedbpaaLiveO
import Derived.Test.YthjjjdnhjedbpaaRefNum
namespace Go.Proofs.Ythjjjdnhjedbpaa
open Go.RowKit
set_option maxHeartbeats 1000000 in
theorem walk_OctetNums (a : Option Addr) (n c : Nat) (zs : List Nat) (p k : Int) (w : World) (hl0 : Sl w a n c zs ∧ c * 1 ≤ 140737488351232) (_hp : (Lit.int .i64 p).wf = true) (_hk : (Lit.int .i64 k).wf = true) :
    Calls Try.prog 3 #[.slice a n c, .int .i64 p, .int .i64 k] w fun e w' => e = .returned (.bool true) ∧ Below w.heap.size w w' := by
  obtain ⟨hl, _⟩ := hl0
  go_enter Try.func3, Try.ntmps3
  go_wp2_with fail
  refine (num_any _ _ _ zs p k _ hl).mono ?_
  rintro e w1 ⟨rfl, rfl⟩
  go_wp2_with fail
  refine (refnum_any _ _ _ zs p k _ hl).mono ?_
  rintro e w2 ⟨rfl, rfl⟩
  go_wp2_with fail
  refine (live_any _).mono ?_
  rintro e w3 ⟨rfl, hb1⟩
  go_wp2
  go_ret
  exact ⟨rfl, hb1⟩
end Go.Proofs.Ythjjjdnhjedbpaa
