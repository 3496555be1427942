/- What the reference's part and value answer. -/
import Derived.Test.YtaakkibohkckaaaDoorRefNumber
import Derived.Test.YtaakkibohkckaaaDoorLets
namespace Go.Proofs.YtaakkibohkckaaaDoor
open Go.RowKit
def dval (l : List Nat) : Nat := l.foldl (fun a d => a * 10 + (d - 48)) 0
theorem dval_dig (n : Nat) (hn : n < 256) : dval (dig n) = n := by
  unfold dig
  split
  · simp [dval]
  · split
    · simp [dval]; omega
    · simp [dval]; omega
theorem dig_inj {n m : Nat} (hn : n < 256) (hm : m < 256) (h : dig n = dig m) : n = m := by
  rw [← dval_dig n hn, ← dval_dig m hm, h]
theorem natsOf_numS (n : Nat) (hn : n < 256) : natsOf (numS n) = dig n := nats_back _ (dig_bnd n hn)
theorem numS_inj {n m : Nat} (hn : n < 256) (hm : m < 256) (h : numS n = numS m) : n = m := by
  apply dig_inj hn hm
  rw [← natsOf_numS n hn, ← natsOf_numS m hm, h]
def isNum (x : ByteArray) : Prop := ∃ n, n < 256 ∧ numS n = x
theorem beq_no {x y : ByteArray} (h : ¬ x = y) : (x.toList == y.toList) = false := by
  rw [Lib.toList_data, Lib.toList_data]
  cases hb : x.data.toList == y.data.toList with
  | false => rfl
  | true =>
    have e := eq_of_beq hb
    cases x
    cases y
    simp at e
    exact absurd (by rw [e]) h
theorem empty_no {x : ByteArray} (h : ¬ x.size = 0) : x.toList.isEmpty = false := by
  rw [Lib.toList_data]
  have : x.data.toList.length = x.size := by simp
  cases e : x.data.toList with
  | nil => rw [e] at this; exact absurd this.symm h
  | cons a b => rfl
set_option maxHeartbeats 1000000 in
theorem part_any (x : ByteArray) (b : Bool) (w : World) (hb : b = true ↔ isNum x) (h0 : ¬ x.size = 0) :
    Calls Tryd.prog 24 #[.string x] w fun e w' => e = .returned (.bool b) ∧ Below w.heap.size w w' := by
  have HB := (show Hid _ from hb)
  have h1 := empty_no h0
  clear hb h0
  go_enter Tryd.func24, Tryd.ntmps24
  go_wp2
  go_loopw [3] (fun i wr => ∃ j : Nat, j ≤ 256 ∧ i = .int .i64 j ∧ Hid (∀ k, k < j → numS k ≠ x) ∧ Below w.heap.size w wr) (fun i _ => 256 - (intOf i).toNat)
  case atStart => exact ⟨0, by omega, rfl, (fun k hk => by omega), Below.refl _ _⟩
  case round =>
    obtain ⟨j, hj, rfl, HK, hbel⟩ := hrel
    by_cases hlt : j < 256
    · have hi : (j : Int) < 256 := by omega
      have HLT : Hid (j < 256) := hlt
      clear hlt
      go_wp2_with fail
      refine (number_any j HLT.out _).mono ?_
      rintro e w2 ⟨rfl, hb2⟩
      have hb02 := hbel.trans (hb2.mono hbel.size)
      by_cases he : numS j = x
      · have HT : Hid (b = true) := HB.out.2 ⟨j, HLT.out, he⟩
        rw [he]
        clear HK h1
        go_wp2
        go_ret
        exact ⟨by rw [HT.out]; rfl, hb02⟩
      · have hne := beq_no he
        have HR : Hid (∀ k, k < j + 1 → numS k ≠ x) := by
          intro k hk
          by_cases hkj : k = j
          · rw [hkj]; exact he
          · exact HK.out k (by omega)
        generalize numS j = y at *
        clear HK hbel hb2
        go_wp2
        go_roundw
        case rel => exact ⟨j + 1, by have := HLT.out; omega, by go_num, HR, hb02⟩
        case measure => simp [intOf]; omega
    · obtain rfl : j = 256 := by omega
      have HT : Hid (b = false) := by
        show _ = _
        cases b with
        | false => rfl
        | true =>
          obtain ⟨k, hk, e⟩ := HB.out.1 rfl
          exact absurd e (HK.out k hk)
      clear HK
      go_wp2
      go_ret
      exact ⟨by rw [HT.out]; rfl, hbel⟩
set_option maxHeartbeats 1000000 in
theorem value_any (m : Nat) (hm : m < 256) (w : World) :
    Calls Tryd.prog 23 #[.string (numS m)] w fun e w' => e = .returned (.int .u32 (m : Nat)) ∧ Below w.heap.size w w' := by
  have HI : Hid (∀ k, k < 256 → k ≠ m → ¬ numS k = numS m) := fun k hk hne e => hne (numS_inj hk hm e)
  have HM : Hid (m < 256) := hm
  clear hm
  go_enter Tryd.func23, Tryd.ntmps23
  go_wp2
  go_loopw [3] (fun i wr => ∃ j : Nat, j ≤ m ∧ i = .int .i64 j ∧ Below w.heap.size w wr) (fun i _ => 256 - (intOf i).toNat)
  case atStart => exact ⟨0, by omega, rfl, Below.refl _ _⟩
  case round =>
    obtain ⟨j, hj, rfl, hbel⟩ := hrel
    have hi : (j : Int) < 256 := by have := HM.out; omega
    go_wp2_with fail
    refine (number_any j (by have := HM.out; omega) _).mono ?_
    rintro e w2 ⟨rfl, hb2⟩
    have hb02 := hbel.trans (hb2.mono hbel.size)
    clear hbel hb2
    by_cases he : j = m
    · subst he
      go_wp2
      go_ret
      exact ⟨rfl, hb02⟩
    · have hne := beq_no (HI.out j (by have := HM.out; omega) he)
      have hle : j + 1 ≤ m := by omega
      generalize numS j = y at *
      go_wp2
      go_roundw
      case rel => exact ⟨j + 1, by omega, by go_num, hb02⟩
      case measure => simp [intOf]; omega
end Go.Proofs.YtaakkibohkckaaaDoor
