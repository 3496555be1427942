/- Plain mathematics of a window of 256 bits in four words. Nothing of the program. -/
import Derived.Test.YtlgpabdadnfbeaaSerM
namespace Go.Proofs.Ytlgpabdadnfbeaa
/-- The bit at a place. -/
def bitW (ws : List Nat) (j : Nat) : Bool := (ws.getD (j / 64) 0).testBit (j % 64)
def setW (ws : List Nat) (j : Nat) : List Nat := ws.set (j / 64) (ws.getD (j / 64) 0 ||| 2 ^ (j % 64))
def clrW (ws : List Nat) (j : Nat) : List Nat := ws.set (j / 64) (ws.getD (j / 64) 0 &&& (18446744073709551615 - 2 ^ (j % 64)))
theorem and_bit (x k : Nat) : (x &&& 2 ^ k = 0) ↔ x.testBit k = false := by
  constructor
  · intro h
    have : (x &&& 2 ^ k).testBit k = false := by rw [h]; simp
    rw [Nat.testBit_and, Nat.testBit_two_pow_self] at this
    simpa using this
  · intro h
    apply Nat.eq_of_testBit_eq
    intro i
    rw [Nat.testBit_and, Nat.testBit_two_pow, Nat.zero_testBit]
    by_cases e : k = i
    · subst e; simp [h]
    · simp [e]
theorem or_bit (x k i : Nat) : (x ||| 2 ^ k).testBit i = (x.testBit i || decide (k = i)) := by
  rw [Nat.testBit_or, Nat.testBit_two_pow]
theorem bitW_set (ws : List Nat) (hl : ws.length = 4) (j i : Nat) (hj : j < 256) (_hi : i < 256) : bitW (setW ws j) i = (bitW ws i || decide (j = i)) := by
  unfold bitW setW
  by_cases h : j / 64 = i / 64
  · rw [List.getD_eq_getElem?_getD, ← h, List.getElem?_set_self (by omega)]
    rw [Option.getD_some, or_bit]
    congr 1
    rw [decide_eq_decide]
    omega
  · rw [List.getD_eq_getElem?_getD, List.getElem?_set_ne h]
    have : ¬ j = i := fun e => h (by rw [e])
    simp [this, List.getD_eq_getElem?_getD]
theorem sub_bit (x k i : Nat) (hk : k < 64) (hi : i < 64) : (x &&& (18446744073709551615 - 2 ^ k)).testBit i = (x.testBit i && !decide (k = i)) := by
  have hp : 2 ^ k < 2 ^ 64 := Nat.pow_lt_pow_right (by omega) hk
  have h := Nat.testBit_two_pow_sub_succ hp i
  rw [show (2 : Nat) ^ 64 - (2 ^ k + 1) = 18446744073709551615 - 2 ^ k from by omega] at h
  rw [Nat.testBit_and, h, Nat.testBit_two_pow]
  simp [hi]
theorem bitW_clr (ws : List Nat) (hl : ws.length = 4) (j i : Nat) (hj : j < 256) (_hi : i < 256) : bitW (clrW ws j) i = (bitW ws i && !decide (j = i)) := by
  unfold bitW clrW
  by_cases h : j / 64 = i / 64
  · rw [List.getD_eq_getElem?_getD, ← h, List.getElem?_set_self (by omega)]
    rw [Option.getD_some, sub_bit _ _ _ (by omega) (by omega)]
    congr 2
    rw [decide_eq_decide]
    omega
  · rw [List.getD_eq_getElem?_getD, List.getElem?_set_ne h]
    have : ¬ j = i := fun e => h (by rw [e])
    simp [this, List.getD_eq_getElem?_getD]
theorem setW_len (ws : List Nat) (j : Nat) : (setW ws j).length = ws.length := by simp [setW]
theorem clrW_len (ws : List Nat) (j : Nat) : (clrW ws j).length = ws.length := by simp [clrW]
end Go.Proofs.Ytlgpabdadnfbeaa
