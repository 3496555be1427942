/- What octet.AddrText answers: the text of the address. -/
import Derived.Test.YtaakkibohkckaaaDoorAdBack
import Derived.Test.YtaakkibohkckaaaDoorStrL
import Derived.Test.YtaakkibohkckaaaDoorShelf
import Derived.Lib.SmallJoins
namespace Go.Proofs.YtaakkibohkckaaaDoor
open Go.RowKit
theorem below_up (w : World) (k : Nat) (os : Array Obj) : Below w.heap.size w (Sort.grow (w.drewN k) os) :=
  ⟨rfl, rfl, rfl, by show w.heap.size ≤ (w.heap ++ os).size; rw [Array.size_append]; omega, fun j hj => by show (w.heap ++ os)[j]? = w.heap[j]?; exact Array.getElem?_append_left hj⟩
theorem pow_at : Tryd.prog.globalNamed "internal/strconv.uint64pow10" = some 2 := by kernel_rfl
theorem dig_len (n : Nat) : (dig n).length ≤ 3 := by
  unfold dig
  split
  · simp
  · split <;> simp
theorem adText_len (a : Nat) : (adText a).length ≤ 15 := by
  unfold adText
  simp only [aheadT, List.length_append, List.length_nil, List.length_singleton]
  have := dig_len (a / 256 / 256 / 256 % 256)
  have := dig_len (a / 256 / 256 % 256)
  have := dig_len (a / 256 % 256)
  have := dig_len (a % 256)
  omega
theorem adStr_size (a : Nat) : (adStr a).size ≤ 15 := by
  have := adText_len a
  show ((adText a).map UInt8.ofNat).toArray.size ≤ 15
  simpa using this
theorem dec_all : ∀ n, n < 256 → Lib.decDigits n = (dig n).map UInt8.ofNat := by
  intro n hn
  unfold dig
  rw [Lib.decDigits]
  by_cases h1 : n < 10
  · rw [dif_pos h1, if_pos h1]; rfl
  · rw [dif_neg h1, if_neg h1, Lib.decDigits]
    by_cases h2 : n < 100
    · rw [dif_pos (by omega), if_pos h2]; rfl
    · rw [dif_neg (by omega), if_neg h2, Lib.decDigits, dif_pos (by omega)]
      rw [show n / 10 / 10 = n / 100 from by omega]
      rfl
theorem and255 (q : Nat) (h : q < 4294967296) : bits .and .u32 (q : Int) 255 = ((q % 256 : Nat) : Int) := by
  have := u32_and_nat q 255 h (by omega)
  rw [show q &&& 255 = q % 256 from Nat.and_two_pow_sub_one_eq_mod q 8] at this
  exact this
/-- The number at a place, as a Go string. -/
def numS (n : Nat) : ByteArray := ⟨((dig n).map UInt8.ofNat).toArray⟩
theorem itoa_num (n : Nat) (hn : n < 256) : (⟨(Lib.itoa (n : Int)).toArray⟩ : ByteArray) = numS n := by
  unfold numS Lib.itoa
  rw [if_neg (by omega), Int.toNat_natCast, dec_all n hn]
def numL (a : Nat) (j : Nat) : List ByteArray := ([numS (a / 16777216 % 256), numS (a / 65536 % 256), numS (a / 256 % 256), numS (a % 256)] : List ByteArray).take j
theorem join_num (a : Nat) : (⟨(Lib.join ((numL a 4).map (·.data.toList)) [46]).toArray⟩ : ByteArray) = adStr a := by
  unfold adStr adText
  simp only [numL, aheadT, List.take, List.map_cons, List.map_nil, numS, List.nil_append, List.map_append]
  rw [Lib.join_cons]
  simp only [Lib.joinTail, List.map_cons, List.map_nil, List.flatten_cons, List.flatten_nil, List.append_nil, List.append_assoc]
  rw [show a / 256 / 256 / 256 = a / 16777216 from by omega, show a / 256 / 256 = a / 65536 from by omega]
  rfl
theorem numL_snoc (a j : Nat) (hj : j < 4) : numL a (j + 1) = numL a j ++ [numS (a / 2 ^ (24 - 8 * j) % 256)] := by
  rcases (show j = 0 ∨ j = 1 ∨ j = 2 ∨ j = 3 by omega) with rfl | rfl | rfl | rfl <;> simp [numL]
theorem numS_size (n : Nat) : (numS n).size ≤ 3 := by
  have := dig_len n
  show ((dig n).map UInt8.ofNat).toArray.size ≤ 3
  simpa using this
set_option maxHeartbeats 1000000 in
theorem text_any (a : Nat) (w : World) (ha : a < 4294967296) (htab : Lib.TabIs Tryd.prog w "internal/strconv.uint64pow10" .u64 Lib.pow10Tab) :
    Calls Tryd.prog 13 #[.int .u32 (a : Nat)] w fun e w' => e = .returned (.string (adStr a)) ∧ Below w.heap.size w w' := by
  have HJ := (show Hid _ from join_num a)
  go_enter Tryd.func13, Tryd.ntmps13
  go_wp2
  go_loopw [3, 4] (fun vn sh wr => ∃ j : Nat, j ≤ 4 ∧ sh = .int .i64 (24 - 8 * (j : Int)) ∧ OwnS wr w.heap.size vn j (numL a j) ∧ Below w.heap.size w wr) (fun _ sh _ => (intOf sh + 8).toNat)
  case atStart => exact ⟨0, by omega, rfl, OwnS.nil _ _, Below.refl _ _⟩
  case round =>
    obtain ⟨j, hj, rfl, hown, hbel⟩ := hrel
    have htab2 : Lib.TabIs Tryd.prog wr "internal/strconv.uint64pow10" .u64 Lib.pow10Tab := Joins.var_stays pow_at htab hbel (Nat.le_refl _)
    by_cases h4 : j < 4
    · obtain ⟨n, hn, hn2⟩ : ∃ n, n = a / 2 ^ (24 - 8 * j) % 256 ∧ n < 256 := ⟨_, rfl, by omega⟩
      have HN := (show Hid _ from (numL_snoc a j h4))
      rw [← hn] at HN
      have hA : bits .and .u32 ((a : Int) / ((2 ^ (24 - 8 * j) : Nat) : Int)) 255 = (n : Int) := by
        have := and255 (a / 2 ^ (24 - 8 * j)) (Nat.lt_of_le_of_lt (Nat.div_le_self _ _) ha)
        rw [hn, ← this]
        congr 1
      generalize numL a j = L at *
      clear hn
      rcases (show j = 0 ∨ j = 1 ∨ j = 2 ∨ j = 3 by omega) with rfl | rfl | rfl | rfl
      all_goals
        simp at hA
        go_wp2_with fail
        refine (Tryd.strconv_Itoa (n : Int) (by omega) (by omega) _ htab2).mono ?_
        rintro e w2 ⟨rfl, k, os, rfl⟩
        rw [itoa_num n hn2]
        have hb1 := below_up wr k os
        have hb2 : Below w.heap.size w (Sort.grow (wr.drewN k) os) := hbel.trans (hb1.mono hbel.size)
        have hown2 := hown.below hb1
        generalize Sort.grow (wr.drewN k) os = w2 at *
        have hsz := hb2.size
        go_wp2_with (at_builtin; go_must (refine app_str rfl _ _ rfl w.heap.size _ _ L rfl (hown2.alloc _) ⟨w2.heap.size, 0, none⟩ (numS n) rfl (by simp [Addr.add]) (by omega) (by simp; omega) ?_))
        intro v3 w3 ho3 hg3
        have hb3 : Below w.heap.size w w3 := (hb2.alloc hsz _).trans ((hown2.alloc _).up hg3 (by simp; omega))
        rw [← HN.out] at ho3
        go_wp2
        go_roundw
        case rel => exact ⟨_, by omega, by go_num, ho3, hb3⟩
        case measure => simp [intOf]
    · obtain rfl : j = 4 := by omega
      obtain ⟨g, c, hv, hc⟩ : ∃ g c, u3 = .slice (some ⟨g, 0, none⟩) 4 c ∧ 4 ≤ c := by
        rcases hown.2 with ⟨_, h0⟩ | ⟨g, cap, cur, hv, _, _, hcap, _⟩
        · omega
        · exact ⟨g, cap, hv, hcap⟩
      subst hv
      have hlt := (World.ownsRow.lt hown g rfl).2
      have hlen : (Lib.join ((numL a 4).map (·.data.toList)) [46]).length ≤ 15 := by
        have h1 := adStr_size a
        rw [← HJ.out] at h1
        have h2 : (Lib.join ((numL a 4).map (·.data.toList)) [46]).toArray.size ≤ 15 := h1
        simpa using h2
      have HL := (show Hid _ from hlen)
      clear hlen htab htab2
      go_wp2_with fail
      refine (Tryd.strings_Join g 0 c (numL a 4) ⟨#[46]⟩ wr hown.cells hlt (by show 4 ≤ _; omega) (by show 4 ≤ c; exact hc) (Nat.le_trans HL.out (by omega))).mono ?_
      rintro e w2 ⟨rfl, hb⟩
      go_wp2
      go_ret
      exact ⟨congrArg (fun x => Ending.returned (.string x)) HJ.out, hbel.trans (hb.mono hbel.size)⟩
end Go.Proofs.YtaakkibohkckaaaDoor
