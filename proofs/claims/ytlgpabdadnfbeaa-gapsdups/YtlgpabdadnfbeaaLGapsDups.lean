/- The walk of trunklinelaw04.GapsDups: it answers true. -/
import Derived.Test.YtlgpabdadnfbeaaGapR7
namespace Go.Proofs.Ytlgpabdadnfbeaa
open Go.RowKit
theorem OwnU.at_ {w : World} {B : Nat} {a : Option Addr} {n c : Nat} {zs : List Nat} (h : OwnU w B a n c zs) (hn : 0 < n) : ∃ g, a = some ⟨g, 0, none⟩ ∧ B ≤ g ∧ g < w.heap.size ∧ n ≤ c ∧ c ≤ maxLen ∧
    (∀ i, i < n → w.cell? ⟨g, i, none⟩ = some (.int .u32 (zs.getD i 0 : Nat))) ∧ (∀ o, w.frozen? ⟨g, o, none⟩ = false) := by
  have hl := h.len
  have ho := h.own
  rcases h.own.2 with ⟨_, h0⟩ | ⟨g, cap, cur, hv, hBg, hh, hnc, hcm, hcs, htake⟩
  · omega
  · injection hv with e1 e2 e3
    subst e1 e3
    refine ⟨g, rfl, hBg, (ho.lt g rfl).2, hnc, hcm, fun i hi => ?_, fun o => ?_⟩
    · rw [ho.cellAt i (by omega), vals_atU zs i (by omega)]
    · simp [World.frozen?, hh]
theorem RepO.known {f : Nat} {A : Nat → Bool} {k cum : Nat} {S : Nat → Bool} (h : RepO f A k cum S) (hf : f < 4294967296) (b : Int) (h1 : -32768 ≤ b) (h2 : b < 32768) (hb : b < 0 ∨ A b.toNat = true) : hasV cum S (addV 4294967296 f b) = true := by
  unfold hasV
  rw [h.far hf b h1 h2]
  by_cases hle : b + 1 - (k : Int) ≤ 0
  · rw [decide_eq_true hle]; rfl
  · have hA : A b.toNat = true := hb.resolve_left (by omega)
    have hlt : b.toNat < k + 256 := by
      rcases Nat.lt_or_ge b.toNat (k + 256) with e | e
      · exact e
      · rw [h.top _ e] at hA; cases hA
    rw [decide_eq_false hle, decide_eq_true (by omega), h.bits, if_neg (by omega), show k + (b + 1 - (k : Int)).toNat - 1 = b.toNat from by omega, hA]
    rfl
set_option maxRecDepth 100000 in
set_option maxHeartbeats 2000000 in
theorem walk_GapsDups (f : Nat) (a : Option Addr) (n c : Nat) (bs : List Int) (qs : List Bool) (w : World) (hf : f < 4294967296) (hs : SlD w a n c bs qs) :
    Calls Try.prog 7 #[.int .u32 f, .slice a n c] w fun e w' => e = .returned (.bool true) ∧ Below w.heap.size w w' := by
  go_enter Try.func7, Try.ntmps7
  go_wp2_with fail
  refine (lplay_any f a n c bs qs w hf hs).mono ?_
  rintro e w1 ⟨px, py, rfl, dbx, fb, db, cum, S, ds, A, k, hB, hR, hK, hb1⟩
  have hap := hB.apart
  have hX := hB.x
  have hY := hB.y
  have hd16 := hB.len
  have hkn : ∀ i, i < ds.length → hasV cum S (ds.getD i 0) = true := by
    intro i hi
    obtain ⟨b, h1, h2, h3, h4⟩ := hK (ds.getD i 0) (by rw [List.getD_eq_getElem?_getD, List.getElem?_eq_getElem hi]; exact List.getElem_mem _)
    rw [h3]; exact hR.known hf b h1 h2 h4
  clear hB hR hK hs
  go_wp2_with fail
  refine (tdups_any _ px dbx cum S ds _ hX).mono ?_
  rintro e w2 ⟨a1, c1, rfl, ho2, hbk2, _, hX2, hF2⟩
  have hY2 := hY.fr hF2 (fun k hk e => hap px (.inl rfl) (by rw [← e]; exact hk))
  go_wp2_with fail
  refine (rdups_any _ py fb db cum (farN S) ds _ hY2).mono ?_
  rintro e w3 ⟨a2, c2, rfl, hs3, _, hY3, hF3⟩
  have hX3 := hX2.fr hF3 (fun k hk e => hap k (by rcases hk with hk | hk; exact .inl hk; cases hk) (.inl e))
  have ho3 := ho2.fr hF3 (fun k hk e => hap k (.inr (by rw [← hbk2]; exact hk)) (.inl e))
  have hpx := hX.base
  have hpy := hY.base
  have hbel3 : Below w.heap.size w w3 := (hb1.trans (hF2.below w.heap.size hb1.size (fun k hk => by rw [hk]; exact hpx))).trans (hF3.below w.heap.size (Nat.le_trans hb1.size hF2.size) (fun k hk => by rw [hk]; exact hpy))
  have hnpx : ∀ k, (Value.slice a1 ds.length c1).ownBlock = some k → k ≠ px := fun k hk e => hX.apart (by rw [← hbk2, hk, e])
  clear hX hY hX2 hY2 hF2 hF3 ho2 hb1 hY3 hbk2 hap
  go_wp2_with fail
  refine (same_any _ _ _ _ _ _ _ _ _ (ho3.sl (by omega)) hs3).mono ?_
  rintro e w4 ⟨rfl, q, hw4⟩
  rw [sameB_refl]
  have hb4 : Below w3.heap.size w3 w4 := by rw [hw4]; exact drewN_belowR _ _
  have hX4 := hX3.below hb4
  have ho4 := ho3.below hb4
  have hbel4 : Below w.heap.size w w4 := hbel3.trans (hb4.mono hbel3.size)
  clear hw4 hs3 hX3 ho3 hbel3 hb4
  have hl16 : ¬ (16 : Int) < (ds.length : Int) := by omega
  obtain ⟨n1, hn1⟩ : ∃ n1, n1 = ds.length := ⟨_, rfl⟩
  rw [← hn1] at ho4 hl16 hd16 hkn hnpx
  rw [← hn1]
  clear hn1
  have hw0 := hbel4.size
  have hcs : n1 = 0 ∨ ∃ g, a1 = some ⟨g, 0, none⟩ ∧ w.heap.size ≤ g ∧ g < w4.heap.size ∧ g ≠ px ∧ n1 ≤ c1 ∧ (∀ j, 0 ≤ j → j < n1 → w4.cell? ⟨g, j, none⟩ = some (.int .u32 (ds.getD j 0 : Nat))) ∧ ∀ o, w4.frozen? ⟨g, o, none⟩ = false := by
    by_cases hn0 : n1 = 0
    · exact .inl hn0
    · obtain ⟨g, rfl, h1, h2, h3, _, h5, h6⟩ := ho4.at_ (by omega)
      exact .inr ⟨g, rfl, h1, h2, hnpx g rfl, h3, fun j _ hj => h5 j hj, h6⟩
  have hbd := ho4.bnd
  clear ho4 hnpx
  go_wp2
  go_loopw [10] (fun iv wr => ∃ i : Nat, i ≤ n1 ∧ iv = .int .i64 i ∧ Trk wr w.heap.size px none cum S [] ∧ Below w.heap.size w wr ∧ (n1 = 0 ∨ ∃ g, a1 = some ⟨g, 0, none⟩ ∧ w.heap.size ≤ g ∧ g < wr.heap.size ∧ g ≠ px ∧ n1 ≤ c1 ∧ (∀ j, i ≤ j → j < n1 → wr.cell? ⟨g, j, none⟩ = some (.int .u32 (ds.getD j 0 : Nat))) ∧ ∀ o, wr.frozen? ⟨g, o, none⟩ = false)) (fun iv _ => n1 - (intOf iv).toNat)
  case atStart => exact ⟨0, by omega, rfl, hX4, hbel4, hcs⟩
  case round =>
    obtain ⟨i, hi, rfl, hX, hbel, hc⟩ := hrel
    clear hcs hX4 hbel4
    by_cases hin : i < n1
    · rcases hc with h0 | ⟨g, rfl, hg1, hg2, hg3, hg4, hg5, hg6⟩
      · omega
      have hci := hg5 i (Nat.le_refl _) hin
      have hzb := hbd i
      have hhas := fun W (hT : Trk W w.heap.size px none cum S []) => thas_any w.heap.size px none cum S [] (ds.getD i 0) W hT hzb
      rw [hkn i hin] at hhas
      have HG5 := (show Hid _ from hg5)
      have HG6 := (show Hid _ from hg6)
      have HKN := (show Hid _ from hkn)
      have HBD := (show Hid _ from hbd)
      clear hg5 hg6 hkn hbd
      obtain ⟨z, hz⟩ : ∃ z, z = ds.getD i 0 := ⟨_, rfl⟩
      rw [← hz] at hci hzb hhas
      clear hz
      have hi1 : (i : Int) < (n1 : Int) := by omega
      go_wp2_with fail
      refine (hhas _ hX).mono ?_
      rintro e w5 ⟨rfl, hb5⟩
      have hX5 := hX.below hb5
      have hbel5 : Below w.heap.size w w5 := hbel.trans (hb5.mono hbel.size)
      have hci5 := (hb5.cell (p := ⟨g, i, none⟩) hg2).trans hci
      have hfr5 := (hb5.frozen (p := ⟨g, i, none⟩) hg2).trans (HG6.out i)
      have hF : ∀ v, Fr (fun k => k = g) w5 (w5.setCell ⟨g, i, none⟩ v) := fun v => Fr.setCell _ _ _ _ rfl
      have HX6 : Hid (∀ v, Trk (w5.setCell ⟨g, i, none⟩ v) w.heap.size px none cum S []) := fun v => hX5.fr (hF v) (fun k hk e => by
        rcases hk with hk | hk
        · exact hg3 (by rw [← e, hk])
        · cases hk)
      have HB6 : Hid (∀ v, Below w.heap.size w (w5.setCell ⟨g, i, none⟩ v)) := fun v => hbel5.trans ((hF v).below w.heap.size hbel5.size (fun k hk => by rw [hk]; exact hg1))
      have HC6 : Hid (∀ v, n1 = 0 ∨ ∃ g', (some ⟨g, 0, none⟩ : Option Addr) = some ⟨g', 0, none⟩ ∧ w.heap.size ≤ g' ∧ g' < (w5.setCell ⟨g, i, none⟩ v).heap.size ∧ g' ≠ px ∧ n1 ≤ c1 ∧ (∀ j, i + 1 ≤ j → j < n1 → (w5.setCell ⟨g, i, none⟩ v).cell? ⟨g', j, none⟩ = some (.int .u32 (ds.getD j 0 : Nat))) ∧ ∀ o, (w5.setCell ⟨g, i, none⟩ v).frozen? ⟨g', o, none⟩ = false) := fun v => by
        refine .inr ⟨g, rfl, hg1, by simp [World.setCell]; exact Nat.lt_of_lt_of_le hg2 hb5.size, hg3, hg4, fun j h1 h2 => ?_, fun o => by rw [World.frozen?_setCell]; exact (hb5.frozen (p := ⟨g, o, none⟩) hg2).trans (HG6.out o)⟩
        rw [World.cell?_setCell_other _ _ _ _ (by intro e2; injection e2 with _ e3; omega)]
        exact (hb5.cell (p := ⟨g, j, none⟩) hg2).trans (HG5.out j (by omega) h2)
      clear hhas hX hbel hci hX5 hbel5 hb5 hF HG5 HG6
      go_wp2
      go_roundw
      case rel => exact ⟨i + 1, by omega, by go_num, HX6.out _, HB6.out _, HC6.out _⟩
      case measure => simp [intOf]; omega
    · obtain rfl : i = n1 := by omega
      clear hc
      go_wp2_with fail
      refine (live4_any _).mono ?_
      rintro e w5 ⟨rfl, hb5⟩
      have hX5 := hX.below hb5
      have hbel5 : Below w.heap.size w w5 := hbel.trans (hb5.mono hbel.size)
      clear hX hbel hb5
      go_wp2_with fail
      refine (tdups_any _ px none cum S [] _ hX5).mono ?_
      rintro e w6 ⟨a6, c6, rfl, _, _, _, _, hF6⟩
      have hbel6 : Below w.heap.size w w6 := hbel5.trans (hF6.below w.heap.size hbel5.size (fun k hk => by rw [hk]; exact hX5.base))
      clear hX5 hbel5 hF6
      go_wp2
      go_ret
      exact ⟨rfl, hbel6⟩
end Go.Proofs.Ytlgpabdadnfbeaa
