/- reasm: the tests that take hands on; bytesOf. -/
import Derived.Test.YtnbagloifbllbaaRs4
namespace Go.Proofs.Ytnbagloifbllbaa
open Go.RowKit
set_option maxRecDepth 100000 in
set_option maxHeartbeats 1000000 in
theorem samec_any (sr1 ds1 pr1 tt1 id1 : Nat) (dn1 mo1 : Bool) (of1 : Nat) (a1 : Option Addr) (n1 c1 : Nat) (zs ys : List Nat) (pb : Nat) (x : Pk) (of2 : Nat) (w : World) (hof : x.of = (of2 : Int)) (h1 : Sl w a1 n1 c1 zs) (h2 : Sl w x.a x.n x.c ys) (hp : Stc w pb [.int .u32 (sr1 : Nat), .int .u32 (ds1 : Nat), .int .u8 (pr1 : Nat), .int .u8 (tt1 : Nat), .int .u16 (id1 : Nat), .bool dn1, .bool mo1, .int .i64 (of1 : Nat), .slice a1 n1 c1]) :
    Calls Try.prog 32 #[.agg #[.int .u32 (x.sr : Nat), .int .u32 (x.ds : Nat), .int .u8 (x.pr : Nat), .int .u8 (x.tt : Nat), .int .u16 (x.id : Nat), .bool x.dn, .bool x.mo, .int .i64 x.of, .slice x.a x.n x.c], .pointer (some ⟨pb, 0, none⟩)] w fun e w' => e = .returned (.bool (decide (of1 = of2) && (mo1 == x.mo && decide (zs = ys)))) ∧ Below w.heap.size w w' := by
  obtain ⟨sr2, ds2, pr2, tt2, id2, dn2, mo2, o2, a2, n2, c2⟩ := x
  dsimp only at hof h2 ⊢
  subst hof
  have bW : Below w.heap.size w (w.alloc (.cells #[.int .u32 (sr2 : Nat), .int .u32 (ds2 : Nat), .int .u8 (pr2 : Nat), .int .u8 (tt2 : Nat), .int .u16 (id2 : Nat), .bool dn2, .bool mo2, .int .i64 (of2 : Nat), .slice a2 n2 c2] 26)) := (Below.refl _ _).alloc (Nat.le_refl _) _
  have hc := isSame_any sr1 ds1 pr1 tt1 id1 dn1 mo1 of1 a1 n1 c1 sr2 ds2 pr2 tt2 id2 dn2 mo2 of2 a2 n2 c2 zs ys _ (h1.below bW) (h2.below bW) _ _ rfl rfl
  have hpl := hp.lt
  have q0 := hp.cell 0 _ rfl
  have q1 := hp.cell 1 _ rfl
  have q2 := hp.cell 2 _ rfl
  have q3 := hp.cell 3 _ rfl
  have q4 := hp.cell 4 _ rfl
  have q5 := hp.cell 5 _ rfl
  have q6 := hp.cell 6 _ rfl
  have q7 := hp.cell 7 _ rfl
  have q8 := hp.cell 8 _ rfl
  go_enter Try.func32, Try.ntmps32
  go_wp2_with fail
  refine hc.mono ?_
  rintro e w1 ⟨rfl, b1⟩
  have HB := (show Hid _ from bW.trans (b1.mono bW.size))
  clear hc q0 q1 q2 q3 q4 q5 q6 q7 q8 hp h1 h2 bW b1
  go_wp2
  go_ret
  exact ⟨rfl, HB.out⟩
set_option maxRecDepth 100000 in
set_option maxHeartbeats 1000000 in
theorem clashc_no (sr1 ds1 pr1 tt1 id1 : Nat) (dn1 mo1 : Bool) (of1 : Nat) (a1 : Option Addr) (n1 c1 : Nat) (pb : Nat) (x : Pk) (of2 : Nat) (w : World) (hof : x.of = (of2 : Int)) (ho1 : of1 ≤ 100000) (hn1 : n1 ≤ 100000) (ho2 : of2 ≤ 100000) (hn2 : x.n ≤ 100000) (hcl : clashB of1 n1 mo1 of2 x.n x.mo = false) (hp : Stc w pb [.int .u32 (sr1 : Nat), .int .u32 (ds1 : Nat), .int .u8 (pr1 : Nat), .int .u8 (tt1 : Nat), .int .u16 (id1 : Nat), .bool dn1, .bool mo1, .int .i64 (of1 : Nat), .slice a1 n1 c1]) :
    Calls Try.prog 34 #[.agg #[.int .u32 (x.sr : Nat), .int .u32 (x.ds : Nat), .int .u8 (x.pr : Nat), .int .u8 (x.tt : Nat), .int .u16 (x.id : Nat), .bool x.dn, .bool x.mo, .int .i64 x.of, .slice x.a x.n x.c], .pointer (some ⟨pb, 0, none⟩)] w fun e w' => e = .returned (.bool false) ∧ Below w.heap.size w w' := by
  obtain ⟨sr2, ds2, pr2, tt2, id2, dn2, mo2, o2, a2, n2, c2⟩ := x
  dsimp only at hof hn2 hcl ⊢
  subst hof
  have hc := clash_no sr1 ds1 pr1 tt1 id1 dn1 mo1 of1 a1 n1 c1 sr2 ds2 pr2 tt2 id2 dn2 mo2 of2 a2 n2 c2 (w.alloc (.cells #[.int .u32 (sr2 : Nat), .int .u32 (ds2 : Nat), .int .u8 (pr2 : Nat), .int .u8 (tt2 : Nat), .int .u16 (id2 : Nat), .bool dn2, .bool mo2, .int .i64 (of2 : Nat), .slice a2 n2 c2] 26)) ho1 hn1 ho2 hn2 hcl _ _ rfl rfl
  have bW : Below w.heap.size w (w.alloc (.cells #[.int .u32 (sr2 : Nat), .int .u32 (ds2 : Nat), .int .u8 (pr2 : Nat), .int .u8 (tt2 : Nat), .int .u16 (id2 : Nat), .bool dn2, .bool mo2, .int .i64 (of2 : Nat), .slice a2 n2 c2] 26)) := (Below.refl _ _).alloc (Nat.le_refl _) _
  have hpl := hp.lt
  have q0 := hp.cell 0 _ rfl
  have q1 := hp.cell 1 _ rfl
  have q2 := hp.cell 2 _ rfl
  have q3 := hp.cell 3 _ rfl
  have q4 := hp.cell 4 _ rfl
  have q5 := hp.cell 5 _ rfl
  have q6 := hp.cell 6 _ rfl
  have q7 := hp.cell 7 _ rfl
  have q8 := hp.cell 8 _ rfl
  clear hcl
  go_enter Try.func34, Try.ntmps34
  go_wp2_with fail
  refine hc.mono ?_
  rintro e w1 ⟨rfl, b1⟩
  have HB := (show Hid _ from bW.trans (b1.mono bW.size))
  clear hc q0 q1 q2 q3 q4 q5 q6 q7 q8 hp bW b1
  go_wp2
  go_ret
  exact ⟨rfl, HB.out⟩
def sumK (ts : List Pk) : Nat := (ts.map (·.n)).sum
theorem sumK_take (ts : List Pk) (j : Nat) (x : Pk) (h : ts[j]? = some x) : sumK (ts.take (j + 1)) = sumK (ts.take j) + x.n := by
  unfold sumK
  rw [List.take_add_one, h]
  simp
theorem sumK_le (ts : List Pk) (j : Nat) : sumK (ts.take j) ≤ sumK ts := by
  have h : sumK ts = sumK (ts.take j) + sumK (ts.drop j) := by
    unfold sumK
    rw [← List.sum_append, ← List.map_append, List.take_append_drop]
  omega
set_option maxRecDepth 100000 in
set_option maxHeartbeats 1000000 in
theorem bytesOf_any (B : Nat) (a : Option Addr) (n c : Nat) (ts : List Pk) (w : World) (ho : OwnK w B a n c ts) (hb : sumK ts ≤ 1000000000) :
    Calls Try.prog 21 #[.slice a n c] w fun e w' => e = .returned (.int .i64 (sumK ts : Nat)) ∧ Below w.heap.size w w' := by
  have hnb : n ≤ 9223372036854775807 := by
    by_cases h : 0 < n
    · obtain ⟨_, _, _, _, h1, h2, _⟩ := ho.at_ h
      unfold maxLen at h2
      omega
    · omega
  have hlen := ho.len
  have HLEN := (show Hid _ from hlen)
  clear hlen
  go_enter Try.func21, Try.ntmps21
  go_wp2_with fail
  go_loopw [3, 5, 8] (fun sv _ iv wr => ∃ j : Nat, j ≤ n ∧ iv = .int .i64 (j : Nat) ∧ sv = .int .i64 (sumK (ts.take j) : Nat) ∧ Below w.heap.size w wr) (fun _ _ iv _ => n - (intOf iv).toNat)
  case atStart => exact ⟨0, by omega, rfl, by simp [sumK], Below.refl _ _⟩
  case round =>
    obtain ⟨j, hj, rfl, rfl, hbel⟩ := hrel
    by_cases hjn : j < n
    · have hji : (j : Int) < (n : Int) := by omega
      obtain ⟨x, hx⟩ : ∃ x, ts[j]? = some x := ⟨_, List.getElem?_eq_getElem (by rw [HLEN.out]; exact hjn)⟩
      have hor := ho.below hbel
      obtain ⟨g, rfl, _, hgl, hcap, _, hcell⟩ := hor.at_ (by omega)
      have hst := sumK_take ts j x hx
      have hsl := sumK_le ts (j + 1)
      have HST := (show Hid _ from hst)
      obtain ⟨S, hS⟩ : ∃ S, S = sumK (ts.take j) := ⟨_, rfl⟩
      rw [← hS]
      have HS := (show Hid _ from hS)
      have hSb : S + x.n ≤ 1000000000 := by omega
      clear hst hsl hS
      have l0 := hcell j x hx 0 _ rfl
      have l1 := hcell j x hx 1 _ rfl
      have l2 := hcell j x hx 2 _ rfl
      have l3 := hcell j x hx 3 _ rfl
      have l4 := hcell j x hx 4 _ rfl
      have l5 := hcell j x hx 5 _ rfl
      have l6 := hcell j x hx 6 _ rfl
      have l7 := hcell j x hx 7 _ rfl
      have l8 := hcell j x hx 8 _ rfl
      simp only [Nat.add_zero] at l0
      clear hcell hor
      have hz := hbel.size
      have bA := fun o => (hbel.alloc hz o)
      go_wp2
      go_roundw
      case rel => exact ⟨j + 1, by omega, by go_num, by rw [HST.out, ← HS.out]; simp, bA _⟩
      case measure => simp [intOf]; omega
    · have hji : ¬ (j : Int) < (n : Int) := by omega
      have HJ : Hid (sumK (ts.take j) = sumK ts) := by show _ = _; rw [List.take_of_length_le (by rw [HLEN.out]; omega)]
      rw [HJ.out]
      go_wp2
      go_ret
      exact ⟨rfl, hbel⟩
end Go.Proofs.Ytnbagloifbllbaa
