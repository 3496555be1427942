/- bytes.Equal, by the lists. -/
import Derived.Test.YtnbagloifbllbaaStr
namespace Go.Proofs.Ytnbagloifbllbaa
open Go.RowKit
theorem strOf_beq {A B : List Nat} (hA : ∀ i, A.getD i 0 < 256) (hB : ∀ i, B.getD i 0 < 256) : ((strOf A).toList == (strOf B).toList) = decide (A = B) := by
  by_cases h : A = B
  · subst h; simp
  · rw [decide_eq_false h]
    cases e : ((strOf A).toList == (strOf B).toList) with
    | false => rfl
    | true =>
      refine absurd (strOf_inj hA hB ?_) h
      have h1 : (strOf A).toList = (strOf B).toList := by simpa using e
      have h2 := congrArg List.toArray h1
      have e1 : ∀ zs, (strOf zs).toList = zs.map UInt8.ofNat := fun zs => by
        rw [ByteArray.toList_eq]
        simp [strOf]
      rw [e1, e1] at h1
      unfold strOf
      rw [h1]
set_option maxHeartbeats 1000000 in
theorem equal_any (a : Option Addr) (n c : Nat) (zs : List Nat) (b : Option Addr) (m k : Nat) (ys : List Nat) (w : World) (h1 : Sl w a n c zs) (h2 : Sl w b m k ys) :
    Calls Try.prog 48 #[.slice a n c, .slice b m k] w fun e w' => e = .returned (.bool (decide (zs = ys))) ∧ w' = w := by
  have c1 := conv_str h1
  have c2 := conv_str h2
  have HB : Hid _ := strOf_beq h1.bnd h2.bnd
  clear h1 h2
  go_enter Try.func48, Try.ntmps48
  go_wp2
  go_ret
  rw [HB.out]
  exact ⟨rfl, rfl⟩
end Go.Proofs.Ytnbagloifbllbaa
