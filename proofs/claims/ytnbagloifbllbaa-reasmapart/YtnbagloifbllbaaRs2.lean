/- slices.IndexFunc and ContainsFunc at reasm's types, whatever the test. -/
import Derived.Test.YtnbagloifbllbaaRs1
namespace Go.Proofs.Ytnbagloifbllbaa
open Go.RowKit
set_option maxRecDepth 100000 in
set_option maxHeartbeats 1000000 in
theorem idxT_any (F : Nat) (caps : Array Value) (p : Pt → Bool) (B : Nat) (a : Option Addr) (n c : Nat) (ts : List Pt) (w : World) (ho : OwnT w B a n c ts) (hcf : ∀ args W, (callFunc F args).run Try.prog W = .ok (.enter F args) W)
    (hf : ∀ W, Below w.heap.size w W → ∀ x ∈ ts, Calls Try.prog F (#[.agg #[.int .u32 (x.sr : Nat), .int .u32 (x.ds : Nat), .int .u8 (x.pr : Nat), .int .u16 (x.id : Nat), .int .i64 x.si, .slice x.a x.n x.c]] ++ caps) W fun e w' => e = .returned (.bool (p x)) ∧ Below W.heap.size W w') :
    Calls Try.prog 46 #[.slice a n c, .func (.func F) #[] caps] w fun e w' => ∃ v, e = .returned (.int .i64 v) ∧ IdxP p ts v ∧ Below w.heap.size w w' := by
  have hnb : n ≤ 9223372036854775807 := by have h1 := ho.cap; unfold maxLen at h1; omega
  have hlen := ho.len
  have HLEN := (show Hid _ from hlen)
  clear hlen
  go_enter Try.func46, Try.ntmps46
  go_wp2_with fail
  go_loopw [5, 8] (fun _ iv wr => ∃ j : Nat, j ≤ n ∧ iv = .int .i64 (j : Nat) ∧ (∀ k y, k < j → ts[k]? = some y → p y = false) ∧ Below w.heap.size w wr) (fun _ iv _ => n - (intOf iv).toNat)
  case atStart => exact ⟨0, by omega, rfl, fun k y h => absurd h (Nat.not_lt_zero k), Below.refl _ _⟩
  case round =>
    obtain ⟨j, hj, rfl, hno, hbel⟩ := hrel
    by_cases hjn : j < n
    · have hji : (j : Int) < (n : Int) := by omega
      obtain ⟨x, hx⟩ : ∃ x, ts[j]? = some x := ⟨_, List.getElem?_eq_getElem (by rw [HLEN.out]; exact hjn)⟩
      have hor := ho.below hbel
      obtain ⟨g, rfl, _, hgl, hcap, _, hcell, _⟩ := hor.at_ (fun _ => rfl) (by omega)
      have l0 := hcell j x hx 0 _ rfl
      have l1 := hcell j x hx 1 _ rfl
      have l2 := hcell j x hx 2 _ rfl
      have l3 := hcell j x hx 3 _ rfl
      have l4 := hcell j x hx 4 _ rfl
      have l5 := hcell j x hx 5 _ rfl
      simp only [Nat.add_zero] at l0
      have hc := hf wr hbel x (List.mem_of_getElem? hx)
      clear hcell hor
      go_wp2_with fail
      refine hc.mono ?_
      rintro e w1 ⟨rfl, b1⟩
      have bb1 : Below w.heap.size w w1 := hbel.trans (b1.mono hbel.size)
      clear l0 l1 l2 l3 l4 l5 hc b1
      obtain ⟨px, hpx⟩ : ∃ px, p x = px := ⟨_, rfl⟩
      have HP := (show Hid _ from hpx)
      simp only [hpx]
      clear hpx
      cases px with
      | true =>
        go_wp2
        go_ret
        exact ⟨_, rfl, .inr ⟨j, x, rfl, hx, HP.out, hno⟩, bb1⟩
      | false =>
        go_wp2
        go_roundw
        case rel =>
          refine ⟨j + 1, by omega, by go_num, fun k y hk hy => ?_, bb1⟩
          by_cases hkj : k = j
          · subst hkj
            rw [hx] at hy
            injection hy with hy
            rw [← hy]
            exact HP.out
          · exact hno k y (by omega) hy
        case measure => simp [intOf]; omega
    · have hji : ¬ (j : Int) < (n : Int) := by omega
      go_wp2
      go_ret
      refine ⟨_, rfl, .inl ⟨rfl, fun x hx => ?_⟩, hbel⟩
      obtain ⟨k, hk⟩ := List.getElem?_of_mem hx
      exact hno k x (by have := (List.getElem?_eq_some_iff.1 hk).1; rw [HLEN.out] at this; omega) hk
set_option maxRecDepth 100000 in
set_option maxHeartbeats 1000000 in
theorem idxK_any (F : Nat) (caps : Array Value) (v : Value) (hv : v = .func (.func F) #[] caps) (p : Pk → Bool) (B : Nat) (a : Option Addr) (n c : Nat) (ts : List Pk) (w : World) (ho : OwnK w B a n c ts) (hcf : ∀ args W, (callFunc F args).run Try.prog W = .ok (.enter F args) W)
    (hf : ∀ W, Below w.heap.size w W → ∀ x ∈ ts, Calls Try.prog F (#[.agg #[.int .u32 (x.sr : Nat), .int .u32 (x.ds : Nat), .int .u8 (x.pr : Nat), .int .u8 (x.tt : Nat), .int .u16 (x.id : Nat), .bool x.dn, .bool x.mo, .int .i64 x.of, .slice x.a x.n x.c]] ++ caps) W fun e w' => e = .returned (.bool (p x)) ∧ Below W.heap.size W w') :
    Calls Try.prog 47 #[.slice a n c, v] w fun e w' => ∃ v, e = .returned (.int .i64 v) ∧ IdxP p ts v ∧ Below w.heap.size w w' := by
  subst hv
  have hnb : n ≤ 9223372036854775807 := by
    by_cases h : 0 < n
    · obtain ⟨_, _, _, _, h1, h2, _⟩ := ho.at_ h
      unfold maxLen at h2
      omega
    · omega
  have hlen := ho.len
  have HLEN := (show Hid _ from hlen)
  clear hlen
  go_enter Try.func47, Try.ntmps47
  go_wp2_with fail
  go_loopw [5, 8] (fun _ iv wr => ∃ j : Nat, j ≤ n ∧ iv = .int .i64 (j : Nat) ∧ (∀ k y, k < j → ts[k]? = some y → p y = false) ∧ Below w.heap.size w wr) (fun _ iv _ => n - (intOf iv).toNat)
  case atStart => exact ⟨0, by omega, rfl, fun k y h => absurd h (Nat.not_lt_zero k), Below.refl _ _⟩
  case round =>
    obtain ⟨j, hj, rfl, hno, hbel⟩ := hrel
    by_cases hjn : j < n
    · have hji : (j : Int) < (n : Int) := by omega
      obtain ⟨x, hx⟩ : ∃ x, ts[j]? = some x := ⟨_, List.getElem?_eq_getElem (by rw [HLEN.out]; exact hjn)⟩
      have hor := ho.below hbel
      obtain ⟨g, rfl, _, hgl, hcap, _, hcell⟩ := hor.at_ (by omega)
      have l0 := hcell j x hx 0 _ rfl
      have l1 := hcell j x hx 1 _ rfl
      have l2 := hcell j x hx 2 _ rfl
      have l3 := hcell j x hx 3 _ rfl
      have l4 := hcell j x hx 4 _ rfl
      have l5 := hcell j x hx 5 _ rfl
      have l6 := hcell j x hx 6 _ rfl
      have l7 := hcell j x hx 7 _ rfl
      have l8 := hcell j x hx 8 _ rfl
      simp only [Nat.add_zero] at l0
      have hc := hf wr hbel x (List.mem_of_getElem? hx)
      clear hcell hor
      go_wp2_with fail
      refine hc.mono ?_
      rintro e w1 ⟨rfl, b1⟩
      have bb1 : Below w.heap.size w w1 := hbel.trans (b1.mono hbel.size)
      clear l0 l1 l2 l3 l4 l5 l6 l7 l8 hc b1
      obtain ⟨px, hpx⟩ : ∃ px, p x = px := ⟨_, rfl⟩
      have HP := (show Hid _ from hpx)
      simp only [hpx]
      clear hpx
      cases px with
      | true =>
        go_wp2
        go_ret
        exact ⟨_, rfl, .inr ⟨j, x, rfl, hx, HP.out, hno⟩, bb1⟩
      | false =>
        go_wp2
        go_roundw
        case rel =>
          refine ⟨j + 1, by omega, by go_num, fun k y hk hy => ?_, bb1⟩
          by_cases hkj : k = j
          · subst hkj
            rw [hx] at hy
            injection hy with hy
            rw [← hy]
            exact HP.out
          · exact hno k y (by omega) hy
        case measure => simp [intOf]; omega
    · have hji : ¬ (j : Int) < (n : Int) := by omega
      go_wp2
      go_ret
      refine ⟨_, rfl, .inl ⟨rfl, fun x hx => ?_⟩, hbel⟩
      obtain ⟨k, hk⟩ := List.getElem?_of_mem hx
      exact hno k x (by have := (List.getElem?_eq_some_iff.1 hk).1; rw [HLEN.out] at this; omega) hk
set_option maxRecDepth 100000 in
set_option maxHeartbeats 1000000 in
theorem hasK_any (F : Nat) (caps : Array Value) (p : Pk → Bool) (B : Nat) (a : Option Addr) (n c : Nat) (ts : List Pk) (w : World) (ho : OwnK w B a n c ts) (hcf : ∀ args W, (callFunc F args).run Try.prog W = .ok (.enter F args) W)
    (hf : ∀ W, Below w.heap.size w W → ∀ x ∈ ts, Calls Try.prog F (#[.agg #[.int .u32 (x.sr : Nat), .int .u32 (x.ds : Nat), .int .u8 (x.pr : Nat), .int .u8 (x.tt : Nat), .int .u16 (x.id : Nat), .bool x.dn, .bool x.mo, .int .i64 x.of, .slice x.a x.n x.c]] ++ caps) W fun e w' => e = .returned (.bool (p x)) ∧ Below W.heap.size W w') :
    Calls Try.prog 31 #[.slice a n c, .func (.func F) #[] caps] w fun e w' => e = .returned (.bool (ts.any p)) ∧ Below w.heap.size w w' := by
  have hi := idxK_any F caps _ rfl p B a n c ts w ho hcf hf
  clear hf
  go_enter Try.func31, Try.ntmps31
  go_wp2_with fail
  refine hi.mono ?_
  rintro e w1 ⟨v, rfl, hv, b1⟩
  have HV := (show Hid _ from hv.any)
  clear hi hv
  go_wp2
  go_ret
  exact ⟨by rw [← HV.out]; rfl, b1⟩
end Go.Proofs.Ytnbagloifbllbaa
