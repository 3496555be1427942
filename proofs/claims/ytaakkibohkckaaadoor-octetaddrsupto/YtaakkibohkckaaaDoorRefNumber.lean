/- What the reference's number answers: a number below 256 in digits. -/
import Derived.Test.YtaakkibohkckaaaDoorText
import Derived.Test.YtaakkibohkckaaaDoorStr
namespace Go.Proofs.YtaakkibohkckaaaDoor
open Go.RowKit
theorem numS_str (n : Nat) : numS n = strOf (dig n) := rfl
theorem strOf_app (xs ys : List Nat) : strOf xs ++ strOf ys = strOf (xs ++ ys) := by
  unfold strOf
  apply ByteArray.ext
  simp
theorem conv_one (w : World) (x : Int) (d : Nat) (hx : x = (d : Int)) (hd : d < 256) : (convert 22 9 (.slice (some ⟨w.heap.size, 0, none⟩) 1 1)).run Tryd.prog (w.alloc (.cells #[.int .u8 x] 5)) = .ok (.string (strOf [d])) (w.alloc (.cells #[.int .u8 x] 5)) :=
  conv_str (sl_one w 5 x d hx hd)
theorem strOf_len (xs : List Nat) : (strOf xs).size = xs.length := by
  show (xs.map UInt8.ofNat).toArray.size = _
  simp
set_option maxHeartbeats 1000000 in
theorem number_any (n : Nat) (hn : n < 256) (w : World) :
    Calls Tryd.prog 27 #[.int .i64 (n : Nat)] w fun e w' => e = .returned (.string (numS n)) ∧ Below w.heap.size w w' := by
  have ht : Int.tmod (n : Int) 10 = (n : Int) % 10 := by rw [Int.tmod_eq_emod_of_nonneg (by omega)]
  have c1 : ∀ w : World, (convert 22 9 (.slice (some ⟨w.heap.size, 0, none⟩) 1 1)).run Tryd.prog (w.alloc (.cells #[.int .u8 (48 + (n : Int) % 10)] 5)) = _ := fun w => conv_one w _ (48 + n % 10) (by omega) (by omega)
  by_cases h1 : n < 10
  · have HS : Hid (numS n = strOf [48 + n % 10]) := by show _ = _; rw [numS_str]; unfold dig; rw [if_pos h1, show n % 10 = n from by omega]
    go_enter Tryd.func27, Tryd.ntmps27
    go_wp2
    go_ret
    exact ⟨by rw [HS.out]; rfl, (Below.refl _ _).alloc (Nat.le_refl _) _⟩
  · have ht2 : Int.tdiv (n : Int) 10 = (n : Int) / 10 := by rw [Int.tdiv_eq_ediv_of_nonneg (by omega)]
    have ht3 : Int.tmod ((n : Int) / 10) 10 = (n : Int) / 10 % 10 := by rw [Int.tmod_eq_emod_of_nonneg (by omega)]
    have c2 : ∀ (w : World) (o : Obj), (convert 22 9 (.slice (some ⟨w.heap.size + 1, 0, none⟩) 1 1)).run Tryd.prog ((w.alloc o).alloc (.cells #[.int .u8 (48 + (n : Int) / 10 % 10)] 5)) = .ok (.string (strOf [48 + n / 10 % 10])) ((w.alloc o).alloc (.cells #[.int .u8 (48 + (n : Int) / 10 % 10)] 5)) := by
      intro w o
      have := conv_one (w.alloc o) (48 + (n : Int) / 10 % 10) (48 + n / 10 % 10) (by omega) (by omega)
      simpa using this
    have q2 : ∀ w, (Op.stringOp .add (strOf [48 + n / 10 % 10]) (strOf [48 + n % 10])).run Tryd.prog w = .ok (.string (strOf [48 + n / 10 % 10, 48 + n % 10])) w := by
      intro w
      rw [run_string_add_sum w _ _ (by rw [strOf_len, strOf_len]; simp), strOf_app]
      rfl
    by_cases h2 : n < 100
    · have HS : Hid (numS n = strOf [48 + n / 10 % 10, 48 + n % 10]) := by show _ = _; rw [numS_str]; unfold dig; rw [if_neg h1, if_pos h2, show n / 10 % 10 = n / 10 from by omega]
      go_enter Tryd.func27, Tryd.ntmps27
      go_wp2
      go_ret
      exact ⟨by rw [HS.out]; rfl, ((Below.refl _ _).alloc (Nat.le_refl _) _).alloc (by simp) _⟩
    · have ht4 : Int.tdiv (n : Int) 100 = (n : Int) / 100 := by rw [Int.tdiv_eq_ediv_of_nonneg (by omega)]
      have c3 : ∀ (w : World) (o p : Obj), (convert 22 9 (.slice (some ⟨w.heap.size + 1 + 1, 0, none⟩) 1 1)).run Tryd.prog (((w.alloc o).alloc p).alloc (.cells #[.int .u8 (48 + (n : Int) / 100)] 5)) = .ok (.string (strOf [48 + n / 100])) (((w.alloc o).alloc p).alloc (.cells #[.int .u8 (48 + (n : Int) / 100)] 5)) := by
        intro w o p
        have := conv_one ((w.alloc o).alloc p) (48 + (n : Int) / 100) (48 + n / 100) (by omega) (by omega)
        simpa using this
      have c4 : ∀ (w : World) (o p : Obj), (convert 22 9 (.slice (some ⟨w.heap.size + 2, 0, none⟩) 1 1)).run Tryd.prog (((w.alloc o).alloc p).alloc (.cells #[.int .u8 (48 + (n : Int) / 100)] 5)) = .ok (.string (strOf [48 + n / 100])) (((w.alloc o).alloc p).alloc (.cells #[.int .u8 (48 + (n : Int) / 100)] 5)) := c3
      have q3 : ∀ w, (Op.stringOp .add (strOf [48 + n / 100]) (strOf [48 + n / 10 % 10, 48 + n % 10])).run Tryd.prog w = .ok (.string (strOf [48 + n / 100, 48 + n / 10 % 10, 48 + n % 10])) w := by
        intro w
        rw [run_string_add_sum w _ _ (by rw [strOf_len, strOf_len]; simp), strOf_app]
        rfl
      have HS : Hid (numS n = strOf [48 + n / 100, 48 + n / 10 % 10, 48 + n % 10]) := by show _ = _; rw [numS_str]; unfold dig; rw [if_neg h1, if_neg h2]
      go_enter Tryd.func27, Tryd.ntmps27
      go_wp2
      go_ret
      exact ⟨by rw [HS.out]; rfl, (((Below.refl _ _).alloc (Nat.le_refl _) _).alloc (by simp) _).alloc (by simp; omega) _⟩
end Go.Proofs.YtaakkibohkckaaaDoor
