/- What ether.MacText answers where it may be. -/
import Derived.Test.YtplicfknjhjjgaaDoorLy
import Derived.Test.YtplicfknjhjjgaaDoorHexE
import Derived.Test.YtplicfknjhjjgaaDoorStrL
import Derived.Test.YtplicfknjhjjgaaDoorShelf
import Derived.Lib.SmallJoins
namespace Go.Proofs.YtplicfknjhjjgaaDoor
open Go.RowKit
theorem below_upE (w : World) (k : Nat) (os : Array Obj) : Below w.heap.size w (Sort.grow (w.drewN k) os) :=
  ⟨rfl, rfl, rfl, by show w.heap.size ≤ (w.heap ++ os).size; rw [Array.size_append]; omega, fun j hj => by show (w.heap ++ os)[j]? = w.heap[j]?; exact Array.getElem?_append_left hj⟩
def hx2 (x : Nat) : ByteArray := strOf (hexL [x])
def mcL (m j : Nat) : List ByteArray := ((bytesB m 6).take j).map hx2
def macS (m : Nat) : ByteArray := ⟨(Lib.join ((mcL m 6).map (·.data.toList)) [58]).toArray⟩
theorem mcL_snoc (m j : Nat) (hj : j < 6) : mcL m (j + 1) = mcL m j ++ [hx2 ((bytesB m 6).getD j 0)] := by
  unfold mcL
  rw [take_snocN _ _ (by rw [bytesB_len]; exact hj), List.map_append]
  rfl
theorem mac10 : macS 10 = ⟨#[48, 48, 58, 48, 48, 58, 48, 48, 58, 48, 48, 58, 48, 48, 58, 48, 97]⟩ := by decide +kernel
theorem mac_len (m : Nat) : (Lib.join ((mcL m 6).map (·.data.toList)) [58]).length ≤ 100 := by
  have e : mcL m 6 = [hx2 (m / 256 ^ 5 % 256), hx2 (m / 256 ^ 4 % 256), hx2 (m / 256 ^ 3 % 256), hx2 (m / 256 ^ 2 % 256), hx2 (m / 256 ^ 1 % 256), hx2 (m / 256 ^ 0 % 256)] := rfl
  have h2 : ∀ x, (hx2 x).data.toList.length = 2 := fun x => by simp [hx2, strOf, hexL]
  rw [e]
  simp only [List.map_cons, List.map_nil]
  rw [Lib.join_cons]
  simp only [Lib.joinTail, List.map_cons, List.map_nil, List.flatten_cons, List.flatten_nil, List.append_nil, List.length_append, List.length_cons, List.length_nil, h2]
  omega
set_option maxRecDepth 100000 in
set_option maxHeartbeats 2000000 in
theorem macText_ok (m : Nat) (w : World) (hm : m < 281474976710656) :
    Calls Tryd.prog 4 #[.int .u64 (m : Nat)] w fun e w' => e = .returned (.tuple #[.string (macS m), .int .i64 0]) ∧ Below w.heap.size w w' := by
  have hby := bytes_any m 6 w (by omega)
  rw [show (6 : Int) = ((6 : Nat) : Int) from rfl, bytesE_in m 6 (by show m < 256 ^ 6; omega) (by omega) (by omega), bytesV_in m 6 (by show m < 256 ^ 6; omega) (by omega) (by omega), bytesB_len] at hby
  go_enter Tryd.func4, Tryd.ntmps4
  go_wp2_with fail
  refine hby.mono ?_
  rintro e w1 ⟨ad, cd, rfl, hod, hb1⟩
  go_wp2_with fail
  have hsd := hod.sl (by omega)
  have hdl := bytesB_len m 6
  obtain ⟨D, hD⟩ : ∃ D, D = bytesB m 6 := ⟨_, rfl⟩
  have HSN : Hid (∀ j, j < 6 → mcL m (j + 1) = mcL m j ++ [hx2 (D.getD j 0)]) := by rw [hD]; exact mcL_snoc m
  rw [← hD] at hsd hdl
  have HJ : Hid (macS m = ⟨(Lib.join ((mcL m 6).map (·.data.toList)) [58]).toArray⟩) := rfl
  clear hod hD hby
  go_loopw [6, 18] (fun vt iv wr => ∃ j : Nat, j ≤ 6 ∧ iv = .int .i64 j ∧ OwnS wr w1.heap.size vt j (mcL m j) ∧ Below w1.heap.size w1 wr) (fun _ iv _ => 6 - (intOf iv).toNat)
  case atStart => exact ⟨0, by omega, rfl, OwnS.nil _ _, Below.refl _ _⟩
  case round =>
    obtain ⟨j, hj, rfl, hown, hbel⟩ := hrel
    by_cases h6 : j < 6
    · have hsr := hsd.below hbel
      rcases hsr.at_ with h0 | ⟨b, off, rfl, hlt, hcell⟩
      · omega
      have hc := hcell j h6
      have hxb := hsr.bnd j
      have HN := (show Hid _ from HSN.out j h6)
      generalize D.getD j 0 = x at *
      generalize mcL m j = L at *
      have hji : (j : Int) < 6 := by omega
      have hz := hbel.size
      have hhx := hex_any (some ⟨wr.heap.size, 0, none⟩) 1 1 [x] (wr.alloc (.cells #[.int .u8 (x : Nat)] 5)) (sl_one wr 5 _ x rfl hxb) (by omega)
      clear hcell hsr
      go_wp2_with fail
      refine hhx.mono ?_
      rintro e w2 ⟨rfl, hb2⟩
      have hb12 : Below w1.heap.size w1 w2 := (hbel.alloc hz _).trans (hb2.mono (by simp; omega))
      have hown2 := (hown.alloc (.cells #[.int .u8 (x : Nat)] 5)).below hb2
      have hz2 := hb12.size
      obtain ⟨hs, hhs⟩ : ∃ hs, hs = hx2 x := ⟨_, rfl⟩
      rw [show strOf (hexL [x]) = hs from hhs.symm]
      rw [← hhs] at HN
      clear hhs hhx hb2
      go_wp2_with (at_builtin; go_must (refine app_str rfl _ _ rfl w1.heap.size _ _ L rfl (hown2.alloc _) ⟨w2.heap.size, 0, none⟩ hs rfl (by simp [Addr.add]) (by omega) (by simp; omega) ?_))
      intro v3 w3 ho3 hg3
      have hb3 : Below w1.heap.size w1 w3 := (hb12.alloc hz2 _).trans ((hown2.alloc _).up hg3 (by simp; omega))
      rw [← HN.out] at ho3
      go_wp2
      go_roundw
      case rel => exact ⟨j + 1, by omega, by go_num, ho3, hb3⟩
      case measure => simp [intOf]; omega
    · obtain rfl : j = 6 := by omega
      obtain ⟨g, c, hv, hc⟩ : ∃ g c, u6 = .slice (some ⟨g, 0, none⟩) 6 c ∧ 6 ≤ c := by
        rcases hown.2 with ⟨_, h0⟩ | ⟨g, cap, cur, hv, _, _, hcap, _⟩
        · omega
        · exact ⟨g, cap, hv, hcap⟩
      subst hv
      have hlt := (World.ownsRow.lt hown g rfl).2
      have HL := (show Hid _ from mac_len m)
      go_wp2_with fail
      refine (Tryd.strings_Join g 0 c (mcL m 6) ⟨#[58]⟩ wr hown.cells hlt (by show 6 ≤ _; omega) (by show 6 ≤ c; exact hc) (Nat.le_trans HL.out (by omega))).mono ?_
      rintro e w2 ⟨rfl, hb⟩
      rw [show (⟨(Lib.join ((mcL m 6).map (·.data.toList)) (ByteArray.data ⟨#[58]⟩).toList).toArray⟩ : ByteArray) = macS m from rfl]
      go_wp2
      go_ret2
      exact ⟨rfl, hb1.trans ((hbel.trans (hb.mono hbel.size)).mono hb1.size)⟩
end Go.Proofs.YtplicfknjhjjgaaDoor
