/- Whatever numbers: the walk of trunklinelaw01.OctetBytes ends with true, and writes nothing that was there. -/
import Derived.Test.YthjjjdnhjedbpaaLiveO
import Derived.Test.YthjjjdnhjedbpaaRefBytes
namespace Go.Proofs.Ythjjjdnhjedbpaa
open Go.RowKit
set_option maxHeartbeats 1000000 in
theorem walk_OctetBytes (v : Nat) (k : Int) (w : World) (hv : v < 18446744073709551616) (_hk : (Lit.int .i64 k).wf = true) :
    Calls Try.prog 4 #[.int .u64 (v : Nat), .int .i64 k] w fun e w' => e = .returned (.bool true) ∧ Below w.heap.size w w' := by
  have hlen := bytesV_len v k
  go_enter Try.func4, Try.ntmps4
  go_wp2_with fail
  refine (bytes_any v k _ hv).mono ?_
  rintro e w1 ⟨a1, c1, rfl, ho1, hb1⟩
  go_wp2_with fail
  refine (refbytes_any v k _ hv).mono ?_
  rintro e w2 ⟨a2, c2, rfl, ho2, hb2⟩
  have ho3 := ho1.below hb2
  have hb3 := hb1.trans (hb2.mono hb1.size)
  clear ho1 hb1 hb2
  go_wp2_with fail
  refine (live_any _).mono ?_
  rintro e w3 ⟨rfl, hb4⟩
  have hc1 := conv_str ((ho3.below hb4).sl (by omega))
  have hc2 := conv_str ((ho2.below hb4).sl (by omega))
  clear ho2 ho3
  generalize bytesV v k = ys at *
  go_wp2
  go_ret
  exact ⟨rfl, hb3.trans (hb4.mono hb3.size)⟩
end Go.Proofs.Ythjjjdnhjedbpaa
