/- Whatever bytes and text: the walk of trunklinelaw01.OctetHexes ends with true, and writes nothing that was there. -/
import Derived.Test.YtaakkibohkckaaaDoorLiveO
import Derived.Test.YtaakkibohkckaaaDoorRefUnhex
import Derived.Test.YtaakkibohkckaaaDoorRefHex
namespace Go.Proofs.YtaakkibohkckaaaDoor
open Go.RowKit
theorem uhRun_len (s : ByteArray) : ∀ f pos place high out, (uhRun s f pos place high out).1.length ≤ out.length + f := by
  intro f
  induction f with
  | zero => intro pos place high out; simp [uhRun]
  | succ f ih =>
    intro pos place high out
    rw [uhRun]
    split
    · cases hexv (Utf8.decode s pos).1 with
      | none => simp
      | some v =>
        simp only
        split
        · have := ih (pos + (Utf8.decode s pos).2) (place + 1) v out; omega
        · have := ih (pos + (Utf8.decode s pos).2) (place + 1) high (out ++ [high * 16 + v])
          rw [List.length_append, List.length_singleton] at this
          omega
    · split <;> simp
theorem uhOf_len (s : ByteArray) : (uhOf s).1.length ≤ 4097 := by
  unfold uhOf
  split
  · simp
  · have := uhRun_len s (s.size + 1) 0 0 0 []
    simp only [List.length_nil] at this
    omega
set_option maxHeartbeats 1000000 in
theorem walk_OctetHexes (a : Option Addr) (n c : Nat) (zs : List Nat) (s : ByteArray) (w : World) (hl0 : Sl w a n c zs ∧ c * 1 ≤ 140737488351232) (hs : s.size ≤ 281474976710656) (hT : Lib.Utf8Tabs 0 1 w) :
    Calls Tryd.prog 3 #[.slice a n c, .string s] w fun e w' => e = .returned (.bool true) ∧ Below w.heap.size w w' := by
  obtain ⟨hl, hcb⟩ := hl0
  have hn : n ≤ 140737488351232 := by have := hl.cap; omega
  have hlen := uhOf_len s
  go_enter Tryd.func3, Tryd.ntmps3
  go_wp2_with fail
  refine (unhex_any s _ hs).mono ?_
  rintro e w1 ⟨a1, c1, rfl, ho1, hb1⟩
  go_wp2_with fail
  refine (refunhex_any s _ (tabs_below hT hb1) hs).mono ?_
  rintro e w2 ⟨a2, c2, rfl, ho2, hb2⟩
  have ho3 := ho1.below hb2
  have hb3 := hb1.trans (hb2.mono hb1.size)
  clear ho1 hb1 hb2
  go_wp2_with fail
  refine (live_any _).mono ?_
  rintro e w3 ⟨rfl, hb4⟩
  have hb5 := hb3.trans (hb4.mono hb3.size)
  go_wp2_with fail
  refine (hex_any _ _ _ zs _ (hl.below hb5) hn).mono ?_
  rintro e w4 ⟨rfl, hb6⟩
  have hb7 := hb5.trans (hb6.mono hb5.size)
  go_wp2_with fail
  refine (refhex_any _ _ _ zs _ (hl.below hb7) hn).mono ?_
  rintro e w5 ⟨rfl, hb8⟩
  have hb9 := hb7.trans (hb8.mono hb7.size)
  have hc1 := conv_str ((((ho3.below hb4).below hb6).below hb8).sl (by omega))
  have hc2 := conv_str ((((ho2.below hb4).below hb6).below hb8).sl (by omega))
  clear ho2 ho3 hb3 hb4 hb5 hb6 hb7 hb8 hl
  generalize (uhOf s).1 = ys at *
  generalize (uhOf s).2.1 = p at *
  generalize (uhOf s).2.2 = f at *
  generalize strOf (hexL zs) = t at *
  go_wp2
  go_ret
  exact ⟨rfl, hb9⟩
end Go.Proofs.YtaakkibohkckaaaDoor
