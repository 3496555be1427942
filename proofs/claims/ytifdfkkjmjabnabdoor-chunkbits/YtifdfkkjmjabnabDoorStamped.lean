/- What sums.Stamped answers. -/
import Derived.Test.YtifdfkkjmjabnabDoorStamp
namespace Go.Proofs.YtifdfkkjmjabnabDoor
open Go.RowKit
set_option maxHeartbeats 1000000 in
theorem equal_any (a : Option Addr) (n c : Nat) (zs : List Nat) (a2 : Option Addr) (n2 c2 : Nat) (ys : List Nat) (w : World) (hs : Sl w a n c zs) (hs2 : Sl w a2 n2 c2 ys) :
    Calls Tryd.prog 41 #[.slice a n c, .slice a2 n2 c2] w fun e w' => e = .returned (.bool ((strOf zs).toList == (strOf ys).toList)) ∧ w' = w := by
  have h1 := conv_str hs
  have h2 := conv_str hs2
  clear hs hs2
  go_enter Tryd.func41, Tryd.ntmps41
  go_wp2
  go_ret
  exact ⟨rfl, rfl⟩
/-- What Stamped answers. -/
def stampedB (zs : List Nat) : Bool := if zs.length < 12 then false else (strOf (stampV zs)).toList == (strOf zs).toList
set_option maxHeartbeats 1000000 in
theorem stamped_any (a : Option Addr) (n c : Nat) (zs : List Nat) (w : World) (hs : Sl w a n c zs) (hn : n ≤ 140737488351232) :
    Calls Tryd.prog 26 #[.slice a n c] w fun e w' => e = .returned (.bool (stampedB zs)) ∧ Below w.heap.size w w' := by
  have hl := hs.len
  by_cases h12 : n < 12
  · have HE : Hid (stampE n = 3) := by show _ = _; unfold stampE; rw [if_pos h12]
    have HS : Hid (stampedB zs = false) := by show _ = _; unfold stampedB; rw [if_pos (by omega)]
    go_enter Tryd.func26, Tryd.ntmps26
    go_wp2_with fail
    refine (stamp_any _ _ _ zs _ hs hn).mono ?_
    rintro e w1 ⟨a1, c1, rfl, ho1, hb1⟩
    rw [HE.out]
    go_wp2
    go_ret
    exact ⟨by rw [HS.out]; rfl, hb1⟩
  · have HE : Hid (stampE n = 0) := by show _ = _; unfold stampE; rw [if_neg h12]
    have HS : Hid (stampedB zs = ((strOf (stampV zs)).toList == (strOf zs).toList)) := by show _ = _; unfold stampedB; rw [if_neg (by omega)]
    have hlen : (stampV zs).length = n := by rw [stampV_len zs (by omega), hl]
    go_enter Tryd.func26, Tryd.ntmps26
    go_wp2_with fail
    refine (stamp_any _ _ _ zs _ hs hn).mono ?_
    rintro e w1 ⟨a1, c1, rfl, ho1, hb1⟩
    rw [HE.out, hlen]
    rw [hlen] at ho1
    clear hlen
    go_wp2_with fail
    refine (equal_any _ _ _ (stampV zs) _ _ _ zs _ (ho1.sl (by omega)) (hs.below hb1)).mono ?_
    rintro e w2 ⟨rfl, hw2⟩
    subst hw2
    rw [← HS.out]
    clear HS
    go_wp2
    go_ret
    exact ⟨rfl, hb1⟩
end Go.Proofs.YtifdfkkjmjabnabDoor
