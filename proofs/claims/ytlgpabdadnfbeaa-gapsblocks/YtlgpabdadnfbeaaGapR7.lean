/- What law04's play answers: both trackers go on alike. -/
import Derived.Test.YtlgpabdadnfbeaaGapR6
namespace Go.Proofs.Ytlgpabdadnfbeaa
open Go.RowKit
/-- Every double was taken before. -/
def Known (f : Nat) (A : Nat → Bool) (ds : List Nat) : Prop := ∀ t ∈ ds, ∃ b : Int, -32768 ≤ b ∧ b < 32768 ∧ t = addV 4294967296 f b ∧ (b < 0 ∨ A b.toNat = true)
theorem Known.mono {f : Nat} {A A' : Nat → Bool} {ds : List Nat} (h : Known f A ds) (hA : ∀ i, A i = true → A' i = true) : Known f A' ds := by
  intro t ht
  obtain ⟨b, h1, h2, h3, h4⟩ := h t ht
  exact ⟨b, h1, h2, h3, h4.imp id (hA _)⟩
theorem step_do {f : Nat} {A : Nat → Bool} {k cum : Nat} {S : Nat → Bool} {ds : List Nat} (hR : RepO f A k cum S) (hK : Known f A ds) (hf : f < 4294967296) (b : Int) (h1 : -32768 ≤ b) (h2 : b < 32768) (q : Bool) :
    ∃ A' k', RepO f A' k' (doC q cum S (addV 4294967296 f b)) (doS q cum S (addV 4294967296 f b)) ∧ Known f A' (doD q cum S ds (addV 4294967296 f b)) := by
  cases q with
  | true => exact ⟨A, k, hR, fun t ht => by simp [doD] at ht⟩
  | false =>
    show ∃ A' k', RepO f A' k' (addC cum S (addV 4294967296 f b)) (addS cum S (addV 4294967296 f b)) ∧ Known f A' (addD cum S ds (addV 4294967296 f b))
    rcases hR.step hf b h1 h2 with ⟨hE, _, _, k', hR', _⟩ | ⟨hE, hA, hC, hS⟩ | ⟨hE, hC, hS⟩
    · refine ⟨_, k', hR', ?_⟩
      unfold addD
      rw [hE, if_neg (by omega)]
      exact hK.mono (fun i hi => by unfold addA; rw [hi]; rfl)
    · refine ⟨A, k, by rw [hC, hS]; exact hR, ?_⟩
      unfold addD noteV
      rw [hE, if_pos rfl]
      split
      · intro t ht
        rcases List.mem_append.1 ht with ht | ht
        · exact hK t ht
        · simp at ht
          exact ⟨b, h1, h2, ht, hA⟩
      · exact hK
    · refine ⟨A, k, by rw [hC, hS]; exact hR, ?_⟩
      unfold addD
      rw [hE, if_neg (by omega)]
      exact hK
theorem Both.belowB {w a b : World} {px : Nat} {dbx : Option Nat} {py : Nat} {fb db : Option Nat} {cum : Nat} {S : Nat → Bool} {ds : List Nat} (h : Both a w.heap.size px dbx py fb db cum S ds) (hF : Fr (fun k => ownT px dbx k ∨ k = py) a b) (hB : Below w.heap.size w a) : Below w.heap.size w b :=
  hB.trans (hF.below w.heap.size hB.size (fun k hk => by
    rcases hk with hk | hk
    · exact (h.own_lt k hk).1
    · rw [hk]; exact h.y.base))
set_option maxRecDepth 100000 in
set_option maxHeartbeats 2000000 in
theorem lplay_any (f : Nat) (a : Option Addr) (n c : Nat) (bs : List Int) (qs : List Bool) (w : World) (hf : f < 4294967296) (hs : SlD w a n c bs qs) :
    Calls Try.prog 9 #[.int .u32 f, .slice a n c] w fun e w' => ∃ px py, e = .returned (.tuple #[.pointer (some ⟨px, 0, none⟩), .pointer (some ⟨py, 0, none⟩), .bool true]) ∧ ∃ dbx fb db cum S ds A k, Both w' w.heap.size px dbx py fb db cum S ds ∧ RepO f A k cum S ∧ Known f A ds ∧ Below w.heap.size w w' := by
  have hl := hs.len
  have hsm := hs.small
  go_enter Try.func9, Try.ntmps9
  go_wp2_with fail
  refine (new_any f _ hf).mono ?_
  rintro e w1 ⟨px, rfl, hX1, hb1⟩
  go_wp2_with fail
  refine (rnew_any f _ hf).mono ?_
  rintro e w2 ⟨py, rfl, hY2, hb2⟩
  have HFN : Hid (farN (fun _ => false) = []) := by
    show _ = _
    rw [List.eq_nil_iff_forall_not_mem]
    intro x hx
    have := ((farN_mem _ x).1 hx).2.2
    cases this
  have hB2 : Both w2 w.heap.size px none py none none (addV 4294967296 f (-1)) (fun _ => false) [] := by
    refine ⟨hX1.below hb2, by rw [HFN.out]; exact hY2.rebase hb1.size, ?_⟩
    rintro k (rfl | hk) hr
    · rcases hr with h | h | h
      · have := hX1.lt; have := hY2.base; omega
      · cases h
      · cases h
    · cases hk
  have hbel2 : Below w.heap.size w w2 := hb1.trans (hb2.mono hb1.size)
  have HR0 : Hid (RepO f (fun _ => false) 0 (addV 4294967296 f (-1)) (fun _ => false)) := RepO.start f
  generalize addV 4294967296 f (-1) = c0 at *
  clear hX1 hY2 hb1 hb2
  go_wp2_with fail
  refine (lsame_any w.heap.size px none py none none c0 (fun _ => false) [] f w2 hB2 hf).mono ?_
  rintro e w3 ⟨rfl, hb3⟩
  have hB3 := hB2.below hb3
  have hbel3 : Below w.heap.size w w3 := hbel2.trans (hb3.mono hbel2.size)
  clear hB2 hbel2 hb3
  go_wp2
  go_loopw [9] (fun iv wr => ∃ i : Nat, i ≤ n ∧ iv = .int .i64 i ∧ ∃ dbx fb db cum S ds A k, Both wr w.heap.size px dbx py fb db cum S ds ∧ RepO f A k cum S ∧ Known f A ds ∧ Below w.heap.size w wr) (fun iv _ => n - (intOf iv).toNat)
  case atStart => exact ⟨0, by omega, rfl, none, none, none, c0, _, [], _, 0, hB3, HR0.out, fun t ht => by simp at ht, hbel3⟩
  case round =>
    obtain ⟨i, hi, rfl, dbx, fb, db, cum, S, ds, A, k, hB, hR, hK, hbel⟩ := hrel
    clear hB3 HR0 hbel3
    by_cases hiN : i < n ∧ i < 300
    · obtain ⟨hin, hi3⟩ := hiN
      rcases hs.at_ with h0 | ⟨g, off, rfl, hlt, hcell⟩
      · omega
      have hc1 := (hbel.cell (p := ⟨g, off + i * 2, none⟩) hlt).trans (hcell i hin).1
      have hc2 := (hbel.cell (p := ⟨g, off + i * 2 + 1, none⟩) hlt).trans (hcell i hin).2
      have hz1 := hs.bnd i
      clear hcell
      generalize bs.getD i 0 = x at *
      generalize qs.getD i false = q at *
      have HST := (show Hid _ from step_do hR hK hf x hz1.1 hz1.2 q)
      have hdo := ldo_any w.heap.size px dbx py fb db cum S ds f x q wr hB hf
      have HBel := (show Hid _ from fun b (h : Fr (fun k => ownT px dbx k ∨ k = py) wr b) => hB.belowB h hbel)
      have hi1 : (i : Int) < (n : Int) := by omega
      have hi2 : (i : Int) < (300 : Int) := by omega
      clear hR hK hB
      generalize doC q cum S (addV 4294967296 f x) = c1 at *
      generalize doS q cum S (addV 4294967296 f x) = S1 at *
      generalize doD q cum S ds (addV 4294967296 f x) = d1 at *
      go_wp2_with fail
      refine hdo.mono ?_
      rintro e w4 ⟨rfl, dbx', fb', db', hB4, hF4, _, _, _⟩
      have hbel4 := HBel.out _ hF4
      obtain ⟨A', k', hR', hK'⟩ := HST.out
      have HR' := (show Hid _ from hR')
      have HK' := (show Hid _ from hK')
      clear hdo hF4 hR' hK' HBel HST hc1 hc2 hbel
      go_wp2
      go_roundw
      case rel => exact ⟨i + 1, by omega, by go_num, dbx', fb', db', c1, S1, d1, A', k', hB4, HR'.out, HK'.out, hbel4⟩
      case measure => simp [intOf]; omega
    · by_cases hin : i < n
      · have hi1 : (i : Int) < (n : Int) := by omega
        have hi2 : ¬ (i : Int) < 300 := by omega
        clear hiN
        go_wp2
        go_ret3
        exact ⟨px, py, rfl, dbx, fb, db, cum, S, ds, hB, A, ⟨k, hR⟩, hK, hbel⟩
      · have hi1 : ¬ (i : Int) < (n : Int) := by omega
        clear hiN
        go_wp2
        go_ret3
        exact ⟨px, py, rfl, dbx, fb, db, cum, S, ds, hB, A, ⟨k, hR⟩, hK, hbel⟩
end Go.Proofs.Ytlgpabdadnfbeaa
