/- slices.DeleteFunc at reasm's type, where the test holds of just one. -/
import Derived.Test.YtnbagloifbllbaaRs7
import Derived.Test.YtnbagloifbllbaaOwnGS
namespace Go.Proofs.Ytnbagloifbllbaa
open Go.RowKit
theorem elT : Try.prog.elem 48 = 58 := by simp [Program.elem, Try.underlying48]
theorem cellsT : Try.prog.cellsOf 58 = 6 := by kernel_rfl
theorem undT : Try.prog.underlying 48 = some (.slice (Try.prog.elem 48)) := by rw [elT]; exact Try.underlying48
theorem sizeT (w : World) : (sizeOf (Try.prog.elem 48)).run Try.prog w = .ok 6 w := by
  obtain ⟨z, hinfo, _⟩ := layPt.info
  obtain ⟨i, hi, hz0, hz1, hz2⟩ := info_parts hinfo
  rw [elT, run_sizeOf w hi, cellsT]
theorem sliceT_to (a : Option Addr) (n c j : Nat) (h : j ≤ c) (w : World) : (Instr.slice 48 (.slice a n c) none (some (.int .i64 (j : Int))) none).run Try.prog w = .ok (.slice a j c) w := by
  rw [run_slice_h w 48 _ n c undT .i64 j (by omega) (by omega), sizeT]
  cases a <;> simp [Result.andThen, sliced, Addr.add]
theorem sliceT_from (g n c l : Nat) (hl : l < n) (hc : n ≤ c) : ∀ w, (Instr.slice 48 (.slice (some ⟨g, 0, none⟩) n c) (some (.int .i64 (l : Int))) none none).run Try.prog w = .ok (.slice (some ⟨g, l * 6, none⟩) (n - l) (c - l)) w := by
  intro w
  rw [run_slice_l w 48 _ n c undT .i64 l (by omega) (by omega), sizeT]
  simp only [Result.andThen, sliced, Int.toNat_natCast]
  rw [if_neg (by omega)]
  simp [Addr.add_mid]
def zeroT : Pt := ⟨0, 0, 0, 0, 0, none, 0, 0⟩
theorem zeroV_T (w : World) : (zeroValue 58).run Try.prog w = .ok (.agg zeroT.cells.toArray) w := by
  have h : ∀ w, (zeroValue 58).run Try.prog w = .ok (.agg #[.int .u32 0, .int .u32 0, .int .u8 0, .int .u16 0, .int .i64 0, .slice none 0 0]) w := fun w => by kernel_rfl
  exact h w
structure DelP (a : Option Addr) (n c : Nat) (ts : List Pt) (B i : Nat) (w : World) (e : Ending) (w' : World) : Prop where
  ans : e = .returned (.slice a (n - 1) c)
  row : OwnT w' B a (n - 1) c (ts.eraseIdx i)
  fr : Fr (fun b => (Value.slice a n c).ownBlock = some b) w w'
set_option maxRecDepth 100000 in
set_option maxHeartbeats 1000000 in
theorem delT_one (F : Nat) (caps : Array Value) (p : Pt → Bool) (B : Nat) (a : Option Addr) (n c : Nat) (ts : List Pt) (w : World) (ho : OwnT w B a n c ts) (hcf : ∀ args W, (callFunc F args).run Try.prog W = .ok (.enter F args) W)
    (hf : ∀ W, Fr (fun b => (Value.slice a n c).ownBlock = some b) w W → ∀ x : Pt, Calls Try.prog F (#[.agg #[.int .u32 (x.sr : Nat), .int .u32 (x.ds : Nat), .int .u8 (x.pr : Nat), .int .u16 (x.id : Nat), .int .i64 x.si, .slice x.a x.n x.c]] ++ caps) W fun e w' => e = .returned (.bool (p x)) ∧ Below W.heap.size W w')
    (i : Nat) (xi : Pt) (hi : ts[i]? = some xi) (hpi : p xi = true) (hun : ∀ j x, ts[j]? = some x → j ≠ i → p x = false) :
    Calls Try.prog 52 #[.slice a n c, .func (.func F) #[] caps] w (DelP a n c ts B i w) := by
  have hlen := ho.len
  have hin : i < n := by have := (List.getElem?_eq_some_iff.1 hi).1; omega
  have hcap := ho.cap
  have hnb : n ≤ 9223372036854775807 := by unfold maxLen at hcap; omega
  have hix := idxT_any F caps p B a n c ts w ho hcf (fun W hW x _ => hf W (Fr.of_below hW) x)
  obtain ⟨g, rfl, hBg, hgl, _, _, _, _⟩ := ho.at_ (fun _ => rfl) (by omega)
  have HLEN := (show Hid _ from hlen)
  clear hlen
  go_enter Try.func52, Try.ntmps52
  go_wp2_with fail
  refine hix.mono ?_
  rintro e w1 ⟨v, rfl, hv, b1⟩
  obtain rfl : v = (i : Int) := by
    rcases hv with ⟨_, hno⟩ | ⟨j, x, rfl, hx, hp, _⟩
    · have := hno xi (List.mem_of_getElem? hi)
      rw [hpi] at this
      cases this
    · by_cases hji : j = i
      · rw [hji]
      · have := hun j x hx hji
        rw [hp] at this
        cases this
  clear hix hv
  have fr1 : Fr (fun b => (Value.slice (some ⟨g, 0, none⟩) n c).ownBlock = some b) w w1 := Fr.of_below b1
  have ho1 := ho.below b1
  have hine : ¬ ((i : Nat) : Int) = -1 := by omega
  have hine2 : (((i : Nat) : Int) == -1) = false := by simp
  go_wp2_with fail
  try simp only [hine2]
  clear hine hine2
  go_loopw [5, 6, 7] (fun iv jv _ wr => ∃ (q : Nat) (E : List Pt), i ≤ q ∧ q + 1 ≤ n ∧ iv = .int .i64 (q : Nat) ∧ jv = .int .i64 ((q + 1 : Nat) : Int) ∧ (∀ k, E[k]? = if i ≤ k ∧ k < q then ts[k + 1]? else ts[k]?) ∧ OwnT wr B (some ⟨g, 0, none⟩) n c E ∧ Fr (fun b => (Value.slice (some ⟨g, 0, none⟩) n c).ownBlock = some b) w wr) (fun _ jv _ _ => n - (intOf jv).toNat)
  case atStart => exact ⟨i, ts, by omega, by omega, rfl, by go_num, fun k => by rw [if_neg (by omega)], ho1, fr1⟩
  case round =>
    obtain ⟨q, E, hj1, hj2, rfl, rfl, hE, hoE, hfr⟩ := hrel
    by_cases hjn : q + 1 < n
    · have hji : ((q + 1 : Nat) : Int) < (n : Int) := by omega
      have hqi : ((q : Nat) : Int) < (n : Int) := by omega
      obtain ⟨j, hj⟩ : ∃ j, j = q + 1 := ⟨_, rfl⟩
      rw [← hj] at hji hjn ⊢
      have HJ := (show Hid _ from hj)
      have hj3 : j ≤ q + 1 := by omega
      have hj4 : q + 1 ≤ j := by omega
      clear hj
      obtain ⟨x, hx⟩ : ∃ x, ts[j]? = some x := ⟨_, List.getElem?_eq_getElem (by rw [HLEN.out]; exact hjn)⟩
      have hEx : E[j]? = some x := by rw [hE j, if_neg (by omega)]; exact hx
      obtain ⟨y, hy⟩ : ∃ y, E[q]? = some y := ⟨_, List.getElem?_eq_getElem (by rw [hoE.len]; omega)⟩
      obtain ⟨g2, hg2, _, hgl2, _, _, hcell, hfree⟩ := hoE.at_ (fun _ => rfl) (by omega)
      injection hg2 with hg2
      injection hg2 with hg2
      subst hg2
      have hpx := hun j x hx (by omega)
      have l0 := hcell j x hEx 0 _ rfl
      have l1 := hcell j x hEx 1 _ rfl
      have l2 := hcell j x hEx 2 _ rfl
      have l3 := hcell j x hEx 3 _ rfl
      have l4 := hcell j x hEx 4 _ rfl
      have l5 := hcell j x hEx 5 _ rfl
      simp only [Nat.add_zero] at l0
      obtain ⟨wb, hwb⟩ : ∃ wb, wb = wr.alloc (.cells #[.int .u32 (x.sr : Nat), .int .u32 (x.ds : Nat), .int .u8 (x.pr : Nat), .int .u16 (x.id : Nat), .int .i64 x.si, .slice x.a x.n x.c] 58) := ⟨_, rfl⟩
      have bwb : Below wr.heap.size wr wb := by rw [hwb]; exact (Below.refl _ _).alloc (Nat.le_refl _) _
      have sx := Stc.new wr [.int .u32 (x.sr : Nat), .int .u32 (x.ds : Nat), .int .u8 (x.pr : Nat), .int .u16 (x.id : Nat), .int .i64 x.si, .slice x.a x.n x.c] 58 wb hwb
      have frb := hfr.trans (Fr.of_below (P := fun b => (Value.slice (some ⟨g, 0, none⟩) n c).ownBlock = some b) bwb)
      have hc := hf wb frb x
      rw [hpx] at hc
      clear hcell
      go_wp2_with fail
      rw [← hwb]
      refine hc.mono ?_
      rintro e w2 ⟨rfl, b2⟩
      have sx2 := sx.below b2
      have fr2 := frb.trans (Fr.of_below (P := fun b => (Value.slice (some ⟨g, 0, none⟩) n c).ownBlock = some b) b2)
      have hoE2 := (hoE.below bwb).below b2
      have m0 := sx2.cell 0 _ rfl
      have m1 := sx2.cell 1 _ rfl
      have m2 := sx2.cell 2 _ rfl
      have m3 := sx2.cell 3 _ rfl
      have m4 := sx2.cell 4 _ rfl
      have m5 := sx2.cell 5 _ rfl
      have hgE : g < w2.heap.size := (hoE2.own.lt g rfl).2
      obtain ⟨g3, hg3, _, _, _, _, hcell2, hfree2⟩ := hoE2.at_ (fun _ => rfl) (by omega)
      injection hg3 with hg3
      injection hg3 with hg3
      subst hg3
      have t0 := hcell2 q y hy 0 _ rfl
      have t1 := hcell2 q y hy 1 _ rfl
      have t2 := hcell2 q y hy 2 _ rfl
      have t3 := hcell2 q y hy 3 _ rfl
      have t4 := hcell2 q y hy 4 _ rfl
      have t5 := hcell2 q y hy 5 _ rfl
      simp only [Nat.add_zero] at t0
      have f0 := hfree2 (q * 6)
      have f1 := hfree2 (q * 6 + 1)
      have f2 := hfree2 (q * 6 + 2)
      have f3 := hfree2 (q * 6 + 3)
      have f4 := hfree2 (q * 6 + 4)
      have f5 := hfree2 (q * 6 + 5)
      have hS := hoE2.setAt (fun _ => rfl) q x (by omega)
      have fr3 := fr2.trans ((fr_setCellsX g x.cells (q * 6) w2).mono (Q := fun b => (Value.slice (some ⟨g, 0, none⟩) n c).ownBlock = some b) (fun k _ hk => by subst hk; rfl))
      have HE : Hid (∀ k, (E.set q x)[k]? = if i ≤ k ∧ k < q + 1 then ts[k + 1]? else ts[k]?) := by
        show ∀ _, _
        intro k
        rw [List.getElem?_set]
        by_cases hkq : q = k
        · subst hkq
          rw [if_pos rfl, if_pos (by rw [hoE2.len]; omega), if_pos (by omega), ← HJ.out]
          exact hx.symm
        · rw [if_neg hkq, hE k]
          by_cases h1 : i ≤ k ∧ k < q
          · rw [if_pos h1, if_pos (by omega)]
          · rw [if_neg h1, if_neg (by omega)]
      clear l0 l1 l2 l3 l4 l5 hwb hc frb sx bwb b2 hoE hfr hcell2 hfree2 hoE2 fr2 hE hEx
      go_wp2
      go_roundw
      case rel => exact ⟨q + 1, E.set q x, by omega, by have := HJ.out; omega, by go_num, by rw [HJ.out]; go_num, HE.out, hS, fr3⟩
      case measure => simp [intOf]; omega
    · have hji : ¬ ((q + 1 : Nat) : Int) < (n : Int) := by omega
      have hqi : ((q : Nat) : Int) ≤ (n : Int) := by omega
      have hqn : n = q + 1 := by omega
      have hsf := sliceT_from g n c q (by omega) (by omega)
      have hst := fun W => sliceT_to (some ⟨g, 0, none⟩) n c q (by omega) W
      have hcl := clear_one (P := Try.prog) wr 48 58 0 zeroT.cells Try.underlying48 zeroV_T (layPt.one zeroT) g (q * 6) (c - q) (hoE.thereAt (fun _ => rfl) q (by omega))
      rw [show n - q = 1 by omega] at hsf
      have hS := (hoE.setAt (fun _ => rfl) q zeroT (by omega)).cutTo (fun _ => rfl) q (by omega)
      have hER : (E.set q zeroT).take q = ts.eraseIdx i := by
        apply List.ext_getElem?
        intro k
        rw [List.getElem?_eraseIdx]
        by_cases hk : k < q
        · rw [List.getElem?_take_of_lt hk, List.getElem?_set, if_neg (by omega), hE k]
          by_cases h1 : k < i
          · rw [if_neg (by omega), if_pos h1]
          · rw [if_pos (by omega), if_neg h1]
        · rw [List.getElem?_eq_none (by rw [List.length_take]; omega), if_neg (by omega)]
          symm
          apply List.getElem?_eq_none
          rw [HLEN.out]; omega
      rw [hER] at hS
      have fr3 := hfr.trans ((fr_setCellsX g zeroT.cells (q * 6) wr).mono (Q := fun b => (Value.slice (some ⟨g, 0, none⟩) n c).ownBlock = some b) (fun k _ hk => by subst hk; rfl))
      obtain ⟨wz, hwz⟩ : ∃ wz, wz = wr.setCells g (q * 6) zeroT.cells := ⟨_, rfl⟩
      rw [← hwz] at hcl hS fr3
      have HFA := (show Hid _ from (⟨by rw [show n - 1 = q by omega], by rw [show n - 1 = q by omega]; exact hS, fr3⟩ : DelP (some ⟨g, 0, none⟩) n c ts B i w (.returned (.slice (some ⟨g, 0, none⟩) q c)) wz))
      clear hS fr3 hER hoE hfr hqn hwz hE
      go_wp2
      go_ret
      exact HFA.out
end Go.Proofs.Ytnbagloifbllbaa
