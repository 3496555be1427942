/- The walk of trunklinelaw04.GapsForks: it answers true. -/
import Derived.Test.YtlgpabdadnfbeaaGapF
namespace Go.Proofs.Ytlgpabdadnfbeaa
open Go.RowKit
/-- What lies apart: the blocks that go on, and those that are to stay. -/
def Away (pf : Nat) (dbf : Option Nat) (pg : Nat) (px : Nat) (dbx : Option Nat) (py : Nat) (fb db : Option Nat) : Prop :=
  ∀ k, (ownT pf dbf k ∨ k = pg) → ¬ ownT px dbx k ∧ ¬ ownR py fb db k
set_option maxRecDepth 100000 in
set_option maxHeartbeats 4000000 in
theorem walk_GapsForks (f : Nat) (a : Option Addr) (n c : Nat) (bs : List Int) (qs : List Bool) (a2 : Option Addr) (n2 c2 : Nat) (bs2 : List Int) (qs2 : List Bool) (w : World) (hf : f < 4294967296) (hs : SlD w a n c bs qs) (hs2 : SlD w a2 n2 c2 bs2 qs2) :
    Calls Try.prog 8 #[.int .u32 f, .slice a n c, .slice a2 n2 c2] w fun e w' => e = .returned (.bool true) ∧ Below w.heap.size w w' := by
  have hl := hs2.len
  have hsm := hs2.small
  go_enter Try.func8, Try.ntmps8
  go_wp2_with fail
  refine (lplay_any f a n c bs qs w hf hs).mono ?_
  rintro e w1 ⟨px, py, rfl, dbx, fb, db, cum, S, ds, A, k, hB, _, _, hb1⟩
  clear hs
  go_wp2_with fail
  refine (tfork_any _ px dbx cum S ds _ hB.x).mono ?_
  rintro e w2 ⟨pf, dbf, rfl, hX2, hb2⟩
  have hB2 := hB.below hb2
  go_wp2_with fail
  refine (rfork_any _ py fb db cum (farN S) ds _ hB2.y).mono ?_
  rintro e w3 ⟨pg, rfl, hpg, hY3, hb3⟩
  have hB3 := hB2.below hb3
  have hG3 : Both w3 w.heap.size pf dbf pg fb db cum S ds := by
    refine ⟨(hX2.rebase hb1.size).below hb3, hY3, ?_⟩
    intro k hk hr
    have hk1 : w1.heap.size ≤ k ∧ k < w2.heap.size := by
      rcases hk with rfl | hk
      · exact ⟨hX2.base, hX2.lt⟩
      · exact hX2.dlt k hk
    rcases hr with h | h | h
    · omega
    · have := (hB.y.fge k h).2.1; omega
    · have := (hB.y.dge k h).2.1; omega
  have hAw : Away pf dbf pg px dbx py fb db := by
    intro k hk
    have hk1 : w1.heap.size ≤ k := by
      rcases hk with (rfl | hk) | rfl
      · exact hX2.base
      · exact (hX2.dlt k hk).1
      · exact Nat.le_trans hb2.size hpg
    refine ⟨fun h => ?_, fun h => ?_⟩
    · have := (hB.own_lt k h).2; omega
    · have := (hB.y.own_ge k h).2; omega
  have hNq : ∀ k, ownR pg fb db k → k ≠ px ∧ k ≠ py := by
    intro k hk
    rcases hk with h | h | h
    · have h1 := hB2.x.lt
      have h2 := hB2.y.lt
      exact ⟨by omega, by omega⟩
    · refine ⟨fun e => hB.apart px (.inl rfl) (.inr (.inl (by rw [h, e]))), fun e => (hB.y.fge k h).2.2 e⟩
    · refine ⟨fun e => hB.apart px (.inl rfl) (.inr (.inr (by rw [h, e]))), fun e => (hB.y.dge k h).2.2 e⟩
  have hbel3 : Below w.heap.size w w3 := (hb1.trans (hb2.mono hb1.size)).trans (hb3.mono (Nat.le_trans hb1.size hb2.size))
  clear hB hB2 hX2 hY3 hb1 hb2 hb3 hpg
  go_wp2
  go_loopw [12] (fun iv wr => ∃ i : Nat, i ≤ n2 ∧ iv = .int .i64 i ∧ ∃ dbf fg dg cg Sg dsg, Both wr w.heap.size pf dbf pg fg dg cg Sg dsg ∧ Both wr w.heap.size px dbx py fb db cum S ds ∧ Away pf dbf pg px dbx py fb db ∧ (∀ k, ownR pg fg dg k → k ≠ px ∧ k ≠ py) ∧ Below w.heap.size w wr) (fun iv _ => n2 - (intOf iv).toNat)
  case atStart => exact ⟨0, by omega, rfl, dbf, fb, db, cum, S, ds, hG3, hB3, hAw, hNq, hbel3⟩
  case round =>
    obtain ⟨i, hi, rfl, dbf', fg, dg, cg, Sg, dsg, hG, hB, hA, hN, hbel⟩ := hrel
    clear hG3 hB3 hAw hNq hbel3
    by_cases hiN : i < n2 ∧ i < 300
    · obtain ⟨hin, hi3⟩ := hiN
      rcases hs2.at_ with h0 | ⟨g, off, rfl, hlt, hcell⟩
      · omega
      have hc1 := (hbel.cell (p := ⟨g, off + i * 2, none⟩) hlt).trans (hcell i hin).1
      have hc2 := (hbel.cell (p := ⟨g, off + i * 2 + 1, none⟩) hlt).trans (hcell i hin).2
      clear hcell
      generalize bs2.getD i 0 = x at *
      generalize qs2.getD i false = q at *
      have hdo := ldo_any w.heap.size pf dbf' pg fg dg cg Sg dsg f x q wr hG hf
      have HBel := (show Hid _ from fun b (h : Fr (fun k => ownT pf dbf' k ∨ k = pg) wr b) => hG.belowB h hbel)
      have HKeep : Hid (∀ b, Fr (fun k => ownT pf dbf' k ∨ k = pg) wr b → Both b w.heap.size px dbx py fb db cum S ds) := fun b h => hB.fr h (fun k hk hp => (hA k hp).1 hk) (fun k hk hp => (hA k hp).2 hk)
      have HAw : Hid (∀ dbn, Fresh wr dbf' dbn → Away pf dbn pg px dbx py fb db) := fun dbn hn k hk => by
        rcases hk with (hk | hk) | hk
        · exact hA k (.inl (.inl hk))
        · rcases hn k hk with h | h
          · exact hA k (.inl (.inr h))
          · refine ⟨fun h2 => ?_, fun h2 => ?_⟩
            · have := (hB.own_lt k h2).2; omega
            · have := (hB.y.own_ge k h2).2; omega
        · exact hA k (.inr hk)
      have HNn : Hid (∀ fn dn, Fresh wr fg fn → Fresh wr dg dn → ∀ k, ownR pg fn dn k → k ≠ px ∧ k ≠ py) := fun fn dn h1 h2 k hk => by
        have h3 := hB.x.lt
        have h4 := hB.y.lt
        rcases hk with hk | hk | hk
        · exact hN k (.inl hk)
        · rcases h1 k hk with h | h
          · exact hN k (.inr (.inl h))
          · exact ⟨by omega, by omega⟩
        · rcases h2 k hk with h | h
          · exact hN k (.inr (.inr h))
          · exact ⟨by omega, by omega⟩
      have hi1 : (i : Int) < (n2 : Int) := by omega
      have hi2 : (i : Int) < (300 : Int) := by omega
      clear hG hB hA hN
      generalize doC q cg Sg (addV 4294967296 f x) = c1 at *
      generalize doS q cg Sg (addV 4294967296 f x) = S1 at *
      generalize doD q cg Sg dsg (addV 4294967296 f x) = d1 at *
      go_wp2_with fail
      refine hdo.mono ?_
      rintro e w4 ⟨rfl, dbx', fb', db', hB4, hF4, hn4, hn5, hn6⟩
      have hbel4 := HBel.out _ hF4
      have hK4 := HKeep.out _ hF4
      have hA4 := HAw.out _ hn4
      have hN4 := HNn.out _ _ hn5 hn6
      clear hdo hF4 HBel HKeep HAw HNn hc1 hc2 hbel hn4 hn5 hn6
      go_wp2
      go_roundw
      case rel => exact ⟨i + 1, by omega, by go_num, dbx', fb', db', c1, S1, d1, hB4, hK4, hA4, hN4, hbel4⟩
      case measure => simp [intOf]; omega
    · by_cases hin : i < n2
      · have hi1 : (i : Int) < (n2 : Int) := by omega
        have hi2 : ¬ (i : Int) < 300 := by omega
        clear hiN
        go_wp2_with fail
        refine (live4_any _).mono ?_
        rintro e w5 ⟨rfl, hb5⟩
        have hG5 := hG.below hb5
        have hB5 := hB.below hb5
        have hbel5 : Below w.heap.size w w5 := hbel.trans (hb5.mono hbel.size)
        clear hG hB hbel hb5
        go_wp2_with fail
        refine (lsame_any _ px dbx py fb db cum S ds f _ hB5 hf).mono ?_
        rintro e w6 ⟨rfl, hb6⟩
        have hG6 := hG5.below hb6
        have hB6 := hB5.below hb6
        have hbel6 : Below w.heap.size w w6 := hbel5.trans (hb6.mono hbel5.size)
        clear hG5 hB5 hbel5 hb6
        have hd16 := hB6.len
        have hg16 := hG6.len
        have hap := hB6.apart
        have hap2 := hG6.apart
        go_wp2_with fail
        refine (tdups_any _ px dbx cum S ds _ hB6.x).mono ?_
        rintro e w7 ⟨a7, c7, rfl, ho7, hbk7, _, hX7, hF7⟩
        have hY7 := hB6.y.fr hF7 (fun k hk e => hap px (.inl rfl) (by rw [← e]; exact hk))
        have hG7 : Both w7 w.heap.size pf dbf' pg fg dg cg Sg dsg := hG6.fr hF7 (fun k hk e => (hA k (.inl hk)).1 (.inl e)) (fun k hk e => (hN k hk).1 e)
        have hbel7 : Below w.heap.size w w7 := hbel6.trans (hF7.below w.heap.size hbel6.size (fun k hk => by rw [hk]; exact hB6.x.base))
        go_wp2_with fail
        refine (rdups_any _ py fb db cum (farN S) ds _ hY7).mono ?_
        rintro e w8 ⟨a8, c8, rfl, hs8, _, hY8, hF8⟩
        have ho8 := ho7.fr hF8 (fun k hk e => hap k (.inr (by rw [← hbk7]; exact hk)) (.inl e))
        have hG8 : Both w8 w.heap.size pf dbf' pg fg dg cg Sg dsg := hG7.fr hF8 (fun k hk e => (hA k (.inl hk)).2 (.inl e)) (fun k hk e => (hN k hk).2 e)
        have hbel8 : Below w.heap.size w w8 := hbel7.trans (hF8.below w.heap.size hbel7.size (fun k hk => by rw [hk]; exact hY7.base))
        clear hG6 hB6 hX7 hY7 hF7 hG7 ho7 hbel6 hbel7 hY8 hF8
        go_wp2_with fail
        refine (same_any _ _ _ _ _ _ _ _ _ (ho8.sl (by omega)) hs8).mono ?_
        rintro e w9 ⟨rfl, q, hw9⟩
        rw [sameB_refl]
        have hb9 : Below w8.heap.size w8 w9 := by rw [hw9]; exact drewN_belowR _ _
        have hG9 := hG8.below hb9
        have hbel9 : Below w.heap.size w w9 := hbel8.trans (hb9.mono hbel8.size)
        clear hw9 ho8 hs8 hG8 hbel8 hb9
        go_wp2_with fail
        refine (tdups_any _ pf dbf' cg Sg dsg _ hG9.x).mono ?_
        rintro e wA ⟨aA, cA, rfl, hoA, hbkA, _, _, hFA⟩
        have hYA := hG9.y.fr hFA (fun k hk e => hap2 pf (.inl rfl) (by rw [← e]; exact hk))
        have hbelA : Below w.heap.size w wA := hbel9.trans (hFA.below w.heap.size hbel9.size (fun k hk => by rw [hk]; exact hG9.x.base))
        go_wp2_with fail
        refine (rdups_any _ pg fg dg cg (farN Sg) dsg _ hYA).mono ?_
        rintro e wB ⟨aB, cB, rfl, hsB, _, _, hFB⟩
        have hoB := hoA.fr hFB (fun k hk e => hap2 k (.inr (by rw [← hbkA]; exact hk)) (.inl e))
        have hbelB : Below w.heap.size w wB := hbelA.trans (hFB.below w.heap.size hbelA.size (fun k hk => by rw [hk]; exact hYA.base))
        clear hG9 hbel9 hoA hFA hYA hbelA hFB
        go_wp2_with fail
        refine (same_any _ _ _ _ _ _ _ _ _ (hoB.sl (by omega)) hsB).mono ?_
        rintro e wC ⟨rfl, q2, hwC⟩
        rw [sameB_refl]
        have hbelC : Below w.heap.size w wC := by rw [hwC]; exact hbelB.trans ((drewN_belowR _ _).mono hbelB.size)
        clear hwC hoB hsB hbelB
        go_wp2
        go_ret
        exact ⟨rfl, hbelC⟩
      · have hi1 : ¬ (i : Int) < (n2 : Int) := by omega
        clear hiN
        go_wp2_with fail
        refine (live4_any _).mono ?_
        rintro e w5 ⟨rfl, hb5⟩
        have hG5 := hG.below hb5
        have hB5 := hB.below hb5
        have hbel5 : Below w.heap.size w w5 := hbel.trans (hb5.mono hbel.size)
        clear hG hB hbel hb5
        go_wp2_with fail
        refine (lsame_any _ px dbx py fb db cum S ds f _ hB5 hf).mono ?_
        rintro e w6 ⟨rfl, hb6⟩
        have hG6 := hG5.below hb6
        have hB6 := hB5.below hb6
        have hbel6 : Below w.heap.size w w6 := hbel5.trans (hb6.mono hbel5.size)
        clear hG5 hB5 hbel5 hb6
        have hd16 := hB6.len
        have hg16 := hG6.len
        have hap := hB6.apart
        have hap2 := hG6.apart
        go_wp2_with fail
        refine (tdups_any _ px dbx cum S ds _ hB6.x).mono ?_
        rintro e w7 ⟨a7, c7, rfl, ho7, hbk7, _, hX7, hF7⟩
        have hY7 := hB6.y.fr hF7 (fun k hk e => hap px (.inl rfl) (by rw [← e]; exact hk))
        have hG7 : Both w7 w.heap.size pf dbf' pg fg dg cg Sg dsg := hG6.fr hF7 (fun k hk e => (hA k (.inl hk)).1 (.inl e)) (fun k hk e => (hN k hk).1 e)
        have hbel7 : Below w.heap.size w w7 := hbel6.trans (hF7.below w.heap.size hbel6.size (fun k hk => by rw [hk]; exact hB6.x.base))
        go_wp2_with fail
        refine (rdups_any _ py fb db cum (farN S) ds _ hY7).mono ?_
        rintro e w8 ⟨a8, c8, rfl, hs8, _, hY8, hF8⟩
        have ho8 := ho7.fr hF8 (fun k hk e => hap k (.inr (by rw [← hbk7]; exact hk)) (.inl e))
        have hG8 : Both w8 w.heap.size pf dbf' pg fg dg cg Sg dsg := hG7.fr hF8 (fun k hk e => (hA k (.inl hk)).2 (.inl e)) (fun k hk e => (hN k hk).2 e)
        have hbel8 : Below w.heap.size w w8 := hbel7.trans (hF8.below w.heap.size hbel7.size (fun k hk => by rw [hk]; exact hY7.base))
        clear hG6 hB6 hX7 hY7 hF7 hG7 ho7 hbel6 hbel7 hY8 hF8
        go_wp2_with fail
        refine (same_any _ _ _ _ _ _ _ _ _ (ho8.sl (by omega)) hs8).mono ?_
        rintro e w9 ⟨rfl, q, hw9⟩
        rw [sameB_refl]
        have hb9 : Below w8.heap.size w8 w9 := by rw [hw9]; exact drewN_belowR _ _
        have hG9 := hG8.below hb9
        have hbel9 : Below w.heap.size w w9 := hbel8.trans (hb9.mono hbel8.size)
        clear hw9 ho8 hs8 hG8 hbel8 hb9
        go_wp2_with fail
        refine (tdups_any _ pf dbf' cg Sg dsg _ hG9.x).mono ?_
        rintro e wA ⟨aA, cA, rfl, hoA, hbkA, _, _, hFA⟩
        have hYA := hG9.y.fr hFA (fun k hk e => hap2 pf (.inl rfl) (by rw [← e]; exact hk))
        have hbelA : Below w.heap.size w wA := hbel9.trans (hFA.below w.heap.size hbel9.size (fun k hk => by rw [hk]; exact hG9.x.base))
        go_wp2_with fail
        refine (rdups_any _ pg fg dg cg (farN Sg) dsg _ hYA).mono ?_
        rintro e wB ⟨aB, cB, rfl, hsB, _, _, hFB⟩
        have hoB := hoA.fr hFB (fun k hk e => hap2 k (.inr (by rw [← hbkA]; exact hk)) (.inl e))
        have hbelB : Below w.heap.size w wB := hbelA.trans (hFB.below w.heap.size hbelA.size (fun k hk => by rw [hk]; exact hYA.base))
        clear hG9 hbel9 hoA hFA hYA hbelA hFB
        go_wp2_with fail
        refine (same_any _ _ _ _ _ _ _ _ _ (hoB.sl (by omega)) hsB).mono ?_
        rintro e wC ⟨rfl, q2, hwC⟩
        rw [sameB_refl]
        have hbelC : Below w.heap.size w wC := by rw [hwC]; exact hbelB.trans ((drewN_belowR _ _).mono hbelB.size)
        clear hwC hoB hsB hbelB
        go_wp2
        go_ret
        exact ⟨rfl, hbelC⟩
end Go.Proofs.Ytlgpabdadnfbeaa
