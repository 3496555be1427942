/- What the reference's AddrText answers: the text of the address. -/
import Derived.Test.YtaakkibohkckaaaDoorRefNumber
namespace Go.Proofs.YtaakkibohkckaaaDoor
open Go.RowKit
theorem cat_any (xs ys : List Nat) (h : xs.length + ys.length ≤ 1000) (w : World) : (Op.stringOp .add (strOf xs) (strOf ys)).run Tryd.prog w = .ok (.string (strOf (xs ++ ys))) w := by
  rw [run_string_add_sum w _ _ (by rw [strOf_len, strOf_len]; omega), strOf_app]
theorem cat_dot (xs : List Nat) (h : xs.length ≤ 100) (w : World) : (Op.stringOp .add (strOf xs) ⟨#[46]⟩).run Tryd.prog w = .ok (.string (strOf (xs ++ [46]))) w := cat_any xs [46] (by simp; omega) w
set_option maxHeartbeats 1000000 in
theorem reftext_any (a : Nat) (ha : a < 4294967296) (w : World) :
    Calls Tryd.prog 14 #[.int .u32 (a : Nat)] w fun e w' => e = .returned (.string (adStr a)) ∧ Below w.heap.size w w' := by
  have HS : Hid (strOf (dig (a / 16777216) ++ [46] ++ dig (a / 65536 % 256) ++ [46] ++ dig (a / 256 % 256) ++ [46] ++ dig (a % 256)) = adStr a) := by
    show _ = _
    unfold adStr adText strOf
    simp only [aheadT, List.nil_append, List.append_assoc]
    rw [show a / 256 / 256 / 256 % 256 = a / 16777216 from by omega, show a / 256 / 256 % 256 = a / 65536 % 256 from by omega]
  have l1 := dig_len (a / 16777216)
  have l2 := dig_len (a / 65536 % 256)
  have l3 := dig_len (a / 256 % 256)
  have l4 := dig_len (a % 256)
  have q1 := cat_dot (dig (a / 16777216)) (by omega)
  have q2 := cat_any (dig (a / 16777216) ++ [46]) (dig (a / 65536 % 256)) (by simp; omega)
  have q3 := cat_dot (dig (a / 16777216) ++ [46] ++ dig (a / 65536 % 256)) (by simp; omega)
  have q4 := cat_any (dig (a / 16777216) ++ [46] ++ dig (a / 65536 % 256) ++ [46]) (dig (a / 256 % 256)) (by simp; omega)
  have q5 := cat_dot (dig (a / 16777216) ++ [46] ++ dig (a / 65536 % 256) ++ [46] ++ dig (a / 256 % 256)) (by simp; omega)
  have q6 := cat_any (dig (a / 16777216) ++ [46] ++ dig (a / 65536 % 256) ++ [46] ++ dig (a / 256 % 256) ++ [46]) (dig (a % 256)) (by simp; omega)
  rw [HS.out] at q6
  have t2 : Int.tmod ((a : Int) / 65536) 256 = (a : Int) / 65536 % 256 := by rw [Int.tmod_eq_emod_of_nonneg (by omega)]
  have t3 : Int.tmod ((a : Int) / 256) 256 = (a : Int) / 256 % 256 := by rw [Int.tmod_eq_emod_of_nonneg (by omega)]
  have t4 : Int.tmod (a : Int) 256 = (a : Int) % 256 := by rw [Int.tmod_eq_emod_of_nonneg (by omega)]
  have n1 := number_any (a / 16777216) (by omega)
  have n2 := number_any (a / 65536 % 256) (by omega)
  have n3 := number_any (a / 256 % 256) (by omega)
  have n4 := number_any (a % 256) (by omega)
  simp only [numS_str] at n1 n2 n3 n4
  have N1 := (show Hid _ from n1)
  have N2 := (show Hid _ from n2)
  have N3 := (show Hid _ from n3)
  have N4 := (show Hid _ from n4)
  clear n1 n2 n3 n4 l1 l2 l3 l4 HS
  generalize strOf (dig (a / 16777216)) = s1 at *
  generalize strOf (dig (a / 65536 % 256)) = s2 at *
  generalize strOf (dig (a / 256 % 256)) = s3 at *
  generalize strOf (dig (a % 256)) = s4 at *
  generalize strOf (dig (a / 16777216) ++ [46]) = c1 at *
  generalize strOf (dig (a / 16777216) ++ [46] ++ dig (a / 65536 % 256)) = c2 at *
  generalize strOf (dig (a / 16777216) ++ [46] ++ dig (a / 65536 % 256) ++ [46]) = c3 at *
  generalize strOf (dig (a / 16777216) ++ [46] ++ dig (a / 65536 % 256) ++ [46] ++ dig (a / 256 % 256)) = c4 at *
  generalize strOf (dig (a / 16777216) ++ [46] ++ dig (a / 65536 % 256) ++ [46] ++ dig (a / 256 % 256) ++ [46]) = c5 at *
  go_enter Tryd.func14, Tryd.ntmps14
  go_wp2_with fail
  rw [show ((a : Int) / 16777216) = ((a / 16777216 : Nat) : Int) from by omega]
  refine Calls.mono (N1.out _) ?_
  rintro e w1 ⟨rfl, hb1⟩
  go_wp2_with fail
  rw [show ((a : Int) / 65536 % 256) = ((a / 65536 % 256 : Nat) : Int) from by omega]
  refine Calls.mono (N2.out _) ?_
  rintro e w2 ⟨rfl, hb2⟩
  go_wp2_with fail
  rw [show ((a : Int) / 256 % 256) = ((a / 256 % 256 : Nat) : Int) from by omega]
  refine Calls.mono (N3.out _) ?_
  rintro e w3 ⟨rfl, hb3⟩
  go_wp2_with fail
  rw [show ((a : Int) % 256) = ((a % 256 : Nat) : Int) from by omega]
  refine Calls.mono (N4.out _) ?_
  rintro e w4 ⟨rfl, hb4⟩
  go_wp2
  go_ret
  exact ⟨rfl, hb1.trans ((hb2.mono hb1.size).trans ((hb3.mono (Nat.le_trans hb1.size hb2.size)).trans (hb4.mono (Nat.le_trans hb1.size (Nat.le_trans hb2.size hb3.size)))))⟩
end Go.Proofs.YtaakkibohkckaaaDoor
