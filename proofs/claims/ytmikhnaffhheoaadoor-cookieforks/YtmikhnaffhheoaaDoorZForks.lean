/-
  Whatever the input, trunklinelaw06.CookieForks answers true and leaves what it was handed as it was.
  (The statement is Rows.CookieForksCardSaid; no condition of our own; the listed tables are tied to the program's text.)
-/
import Derived.Test.YtmikhnaffhheoaaDoorZ8
import Derived.Test.YtmikhnaffhheoaaDoorZ3
import Derived.Test.YtmikhnaffhheoaaDoorRows
import Derived.MakeChecks
import Derived.Test.YtmikhnaffhheoaaDoorCards
import Derived.Test.YtmikhnaffhheoaaDoorTie
import Derived.ProofKit
import Derived.LaidMore
import Derived.Lay
import Derived.OpenShut
import Derived.ShutString
import Derived.ChangeOld
import Derived.SizedLaws
import Derived.Stop.Joined
import Derived.SevenTiedAt
namespace Go.Proofs.YtmikhnaffhheoaaDoor
open Go.RowKit
def XB (pp kx ky B k : Nat) : Prop := PX pp kx ky k ∧ k < B
set_option maxRecDepth 100000 in
set_option maxHeartbeats 8000000 in
theorem walk_CookieForks (a : Option Addr) (n c : Nat) (zs : List Nat) (ad : Option Addr) (nd cd : Nat) (dd : List Cd) (am : Option Addr) (nm cm : Nat) (mm : List Cd) (w : World) (hs : Sl w a n c zs ∧ c * 1 ≤ 140737488351232) (hl : SlC w ad nd cd dd) (hl2 : SlC w am nm cm mm) (hkw : KW w) :
    Calls Tryd.prog 4 #[.slice a n c, .slice ad nd cd, .slice am nm cm] w fun e w' => e = .returned (.bool true) ∧ Below w.heap.size w w' := by
  have hlen := hl2.len
  have hsm := hl2.small
  go_enter Tryd.func4, Tryd.ntmps4
  go_wp2_with fail
  refine (cplay_any a n c zs ad nd cd dd w hs.1 (by omega) hl hkw).mono ?_
  rintro e w1 ⟨pp, kx, ky, cur, fm, rs, rfl, hP0⟩
  have hP : PrX w w1 pp kx ky cur fm rs 41 (XB pp kx ky w1.heap.size) := hP0.sub (fun k hk he => ⟨he, hk⟩)
  have hpl := hP.ltp
  have hxl := hP.x.lt
  have hyl := hP.y.lt
  obtain ⟨la, ln, lc, zl, p1, p2, p3, p4⟩ := hP.p
  have HALL : Hid (∀ w', Below w1.heap.size w1 w' → w'.cell? ⟨pp, 0, none⟩ = some (.pointer (some ⟨kx, 0, none⟩)) ∧ w'.cell? ⟨pp, 1, none⟩ = some (.pointer (some ⟨ky, 0, none⟩)) ∧ w'.cell? ⟨pp, 2, none⟩ = some (.slice la ln lc)) := fun w' hb => ⟨(p1.below hb).cell 0 _ rfl, (p1.below hb).cell 1 _ rfl, (p1.below hb).cell 2 _ rfl⟩
  have hfx : ∀ V, Below w1.heap.size w1 V → ∀ v, v = .pointer (some ⟨kx, 0, none⟩) → Calls Tryd.prog 7 #[v] V fun e w' => ∃ kf, e = .returned (.pointer (some ⟨kf, 0, none⟩)) ∧ (KyX w' kf cur fm (XB pp kx ky w1.heap.size) ∧ w1.heap.size ≤ kf) ∧ Below w1.heap.size w1 w' := by
    intro V hV v hv
    subst hv
    refine (kforkX_any _ kx cur fm V (hP.x.below hV)).mono ?_
    rintro e w' ⟨⟨kf, h1, h2, h3⟩, h4⟩
    exact ⟨kf, h1, ⟨h2, Nat.le_trans hV.size h3⟩, hV.trans (h4.mono hV.size)⟩
  have hfy : ∀ V, Below w1.heap.size w1 V → ∀ v, v = .pointer (some ⟨ky, 0, none⟩) → Calls Tryd.prog 8 #[v] V fun e w' => ∃ kg, e = .returned (.pointer (some ⟨kg, 0, none⟩)) ∧ ((∃ rs2, RKyX w' kg rs2 (XB pp kx ky w1.heap.size) ∧ rs2.map (·.zs) = rs.map (·.zs)) ∧ V.heap.size ≤ kg) ∧ Below V.heap.size V w' ∧ Below w1.heap.size w1 w' := by
    intro V hV v hv
    subst hv
    refine (rkforkX_any _ ky rs V (hP.y.below hV)).mono ?_
    rintro e w' ⟨⟨kg, rs2, h1, h2, h2m, h3⟩, h4⟩
    exact ⟨kg, h1, ⟨⟨rs2, h2, h2m⟩, h3⟩, h4, hV.trans (h4.mono hV.size)⟩
  have hd0 := (Below.refl w1.heap.size w1).drew
  go_wp2_with fail
  obtain ⟨s0, s1, s2⟩ := HALL.out _ hd0
  have hB' := hd0
  go_region_held3 (fun w' => w'.cell? ⟨pp, 0, none⟩ = some (.pointer (some ⟨kx, 0, none⟩)) ∧ w'.cell? ⟨pp, 1, none⟩ = some (.pointer (some ⟨ky, 0, none⟩)) ∧ w'.cell? ⟨pp, 2, none⟩ = some (.slice la ln lc)) (first | exact ⟨by assumption, by assumption, by assumption⟩ | exact HALL.out _ (hB'.alloc hB'.size _) | fail) (first
    | (go_at_call 7; refine (hfx _ (by first | exact hB' | exact Below.refl _ _) _ (by rfl)).mono ?_; rintro e wF ⟨kf, rfl, hKF, hB'⟩; obtain ⟨t0, t1, t2⟩ := HALL.out _ hB')
    | (go_at_call 8; refine (hfy _ (by first | exact hB' | exact Below.refl _ _) _ (by rfl)).mono ?_; rintro e wG ⟨kg, rfl, hRG, hbG, hB'⟩; obtain ⟨u0, u1, u2⟩ := HALL.out _ hB')
    | fail)
  all_goals
    obtain ⟨hKF, hkf⟩ := hKF
    obtain ⟨⟨rs2, hRG, hrs2⟩, hkg⟩ := hRG
    have hKG := hKF.below hbG
    have hkfl := hKF.lt
    have hkgl := hRG.lt
    have zG := hB'.size
    have hPG := hP.below hB'
    have hbA : Below wG.heap.size wG (wG.alloc (.cells #[.pointer (some ⟨kf, 0, none⟩), .pointer (some ⟨kg, 0, none⟩), .slice la ln lc] 32)) := (Below.refl _ _).alloc (Nat.le_refl _) _
    have hN := Stc.new wG [.pointer (some ⟨kf, 0, none⟩), .pointer (some ⟨kg, 0, none⟩), .slice la ln lc] 32 _ rfl
    have hQ2 : Pr w (wG.alloc (.cells #[.pointer (some ⟨kf, 0, none⟩), .pointer (some ⟨kg, 0, none⟩), .slice la ln lc] 32)) wG.heap.size kf kg cur fm rs2 41 := by
      have hl2 : rs2.length = rs.length := by have := congrArg List.length hrs2; simpa using this
      have hpl2 := hP.len
      have hb0 := hP.bel.size
      exact ⟨⟨la, ln, lc, zl, hN, (p2.below hB').below hbA, p3, fun k hk => by have := (p4 k hk).2; exact ⟨by omega, by omega, by omega⟩⟩, (hKG.sub (fun k _ he => by have := he.2; exact ⟨by omega, by omega, by omega⟩)).below hbA, (hRG.sub (fun k _ he => by have := he.2; exact ⟨by omega, by omega, by omega⟩)).below hbA, by rw [hrs2]; exact hP.L, by omega, by omega, by omega, by omega, hkw, hPG.bel.trans (hbA.mono hPG.bel.size), by omega, by omega, by omega⟩
    have hP2 := hPG.below hbA
    obtain ⟨qq, hqq⟩ : ∃ qq, qq = wG.heap.size := ⟨_, rfl⟩
    have hqb : w1.heap.size ≤ qq := by omega
    have hgb : w1.heap.size ≤ kg := Nat.le_trans (Nat.le_trans (Nat.le_of_lt_succ (Nat.lt_succ_of_le (Nat.le_of_lt (Nat.lt_of_le_of_lt hkf hkfl)))) (Nat.le_refl _)) hkg
    obtain ⟨W2, hW2⟩ : ∃ W, W = wG.alloc (.cells #[.pointer (some ⟨kf, 0, none⟩), .pointer (some ⟨kg, 0, none⟩), .slice la ln lc] 32) := ⟨_, rfl⟩
    rw [← hW2] at hQ2 hP2 ⊢
    rw [← hqq] at hQ2 ⊢
    clear hW2 hqq hN hbA hPG hKF hKG hRG hrs2 hkfl hkgl zG hB' hbG s0 s1 s2 t0 t1 t2 u0 u1 u2 HALL hfx hfy hd0 hP hP0 p1 p2 p4 hkg
    go_wp2
    go_loopw [10] (fun iv wr => ∃ (i : Nat) (cur2 : List Nat) (fm2 : Option (List Nat)) (rs3 : List Sec), iv = .int .i64 (i : Nat) ∧ i ≤ nm ∧ i ≤ 40 ∧ Pr w wr qq kf kg cur2 fm2 rs3 (41 + i) ∧ PrX w wr pp kx ky cur fm rs 41 (XB pp kx ky w1.heap.size)) (fun iv _ => nm - (intOf iv).toNat)
    case atStart => exact ⟨0, cur, fm, rs2, rfl, by omega, by omega, hQ2, hP2⟩
    case round =>
      obtain ⟨j, cur2, fm2, rs3, rfl, hjn, hj40, hQ, hP⟩ := hrel
      clear hQ2 hP2
      have hbel := hQ.bel
      by_cases hjl : j < nm ∧ j < 40
      · obtain ⟨hjl, hjk⟩ := hjl
        obtain ⟨x, hx⟩ : ∃ x, mm[j]? = some x := ⟨_, List.getElem?_eq_getElem (by omega)⟩
        have hxm := List.mem_of_getElem? hx
        have hwf := hl2.wf x hxm
        rcases hl2.at_ with h0 | ⟨lb, off, rfl, hlt, hcell⟩
        · omega
        obtain ⟨cs, hcs⟩ : ∃ cs, cs = x.vals := ⟨_, rfl⟩
        have hrg : wr.rangeAt lb (off + j * 19) cs := fun i v hv => by
          rw [hcs] at hv
          exact (hbel.cell (p := ⟨lb, off + j * 19 + i, none⟩) hlt).trans (hcell j x hx i v hv)
        have hi19 : (Tryd.prog.info? 41).map (·.size) = some cs.length := by rw [hcs]; kernel_rfl
        have hj1 : (j : Int) < (nm : Int) := by omega
        have hj2 : (j : Int) < 40 := by omega
        have hdo : ∀ W, Below wr.heap.size wr W → Calls Tryd.prog 9 #[.pointer (some ⟨qq, 0, none⟩), .agg cs.toArray] W (CdP w qq kf kg (41 + j) W) := fun W hW => by
          rw [hcs]
          exact cdo_any x qq kf kg (41 + j) cur2 fm2 rs3 w W (hQ.below hW) (by omega) hwf
        clear hcell hwf hQ hcs hx
        go_wp2_with (first | refine wpList_load_mid rfl 41 _ rfl lb (off + j * 19) rfl cs _ hrg Tryd.underlying41 rfl hi19 ?_ | fail)
        refine (hdo _ (by first | exact Below.refl _ _ | exact (Below.refl _ _).drew)).mono ?_
        rintro e w4 ⟨rfl, ⟨cur4, fm4, rs4, hQ4⟩, hf4⟩
        have hP4 : PrX w w4 pp kx ky cur fm rs 41 (XB pp kx ky w1.heap.size) := hP.fr hf4 (fun e => by omega) (fun e => by omega) (fun e => by omega) (fun k hk e => by have := hk.2; omega) hQ4.bel
        have HQ4 := (show Hid _ from hQ4)
        have HP4 := (show Hid _ from hP4)
        clear hdo hQ4 hP4 hP hf4 hbel hrg hi19
        go_wp2
        go_roundw
        case rel => exact ⟨j + 1, cur4, fm4, rs4, by go_num, by omega, by omega, HQ4.out, HP4.out⟩
        case measure => simp [intOf]; omega
      · by_cases hjl2 : j < nm
        · have hj1 : (j : Int) < (nm : Int) := by omega
          have hj2 : ¬ (j : Int) < 40 := by omega
          have hPr : Pr w wr pp kx ky cur fm rs 41 := hP.sub (fun k _ he => he.1)
          clear hP hQ hbel
          obtain ⟨Wr, hWr⟩ : ∃ W, W = wr := ⟨_, rfl⟩
          subst hWr
          obtain ⟨la2, ln2, lc2, zl2, p1, _⟩ := hPr.p
          have c0 := p1.cell 0 _ rfl
          have hsl : Calls Tryd.prog 10 #[.pointer (some ⟨kx, 0, none⟩), .agg #[.int .i64 0, .int .i64 0, .int .u16 0, .int .u16 0, .int .u32 0, .int .u32 0, .int .u32 0, .int .u32 0, .int .u32 0, .int .u16 0, .int .u16 0, .int .u32 0, .int .u32 0]] Wr fun e w' => RowC Wr (sealV cur ⟨0, 0, 0, 0, 0, 0, 0, 0, 0, 0, 0, 0, 0⟩) 0 e w' := by
            have := seal_all kx cur fm 0 0 0 0 0 0 0 0 0 0 0 0 0 Wr (by decide) (by decide) (by omega) (by omega) (by omega) (by omega) (by omega) (by omega) (by omega) (by omega) (by omega) (by omega) (by omega) hPr.x.ky (hkw.next hPr.bel)
            rw [show ckMay 0 0 = true by decide, if_pos rfl, if_pos rfl] at this
            exact this
          have hlS := sealV_len cur ⟨0, 0, 0, 0, 0, 0, 0, 0, 0, 0, 0, 0, 0⟩
          obtain ⟨SL, hSL⟩ : ∃ SL, SL = sealV cur ⟨0, 0, 0, 0, 0, 0, 0, 0, 0, 0, 0, 0, 0⟩ := ⟨_, rfl⟩
          rw [← hSL] at hsl hlS
          clear hSL
          go_wp2_with fail
          refine hsl.mono ?_
          rintro e w5 ⟨⟨a1, c1, rfl, o1⟩, b5⟩
          rw [hlS] at o1 ⊢
          obtain ⟨o, rfl, hob⟩ := own_g2 o1 (by omega)
          have hPo : PrX w w5 pp kx ky cur fm rs 41 (fun k => PX pp kx ky k ∧ k ≠ o) := (hPr.sub (fun k hk he => ⟨he, by omega⟩)).below b5
          have hpo : pp ≠ o := by have := hPr.ltp; omega
          have hxo : kx ≠ o := by have := hPr.x.lt; omega
          have hyo : ky ≠ o := by have := hPr.y.lt; omega
          have HEND : Hid (∀ wE, Fr (fun b => b = o) w5 wE → Pr w wE pp kx ky cur fm rs 41) := fun wE hf => (hPo.fr hf (fun e => hpo e) (fun e => hxo e) (fun e => hyo e) (fun k hk e => hk.2 e) (hPo.bel.trans (hf.below _ hPo.bel.size (fun k hk => by have := hPr.bel.size; omega)))).sub (fun k _ hk => hk.1)
          clear hPo hPr p1 c0 hsl b5
          go_wp2
          go_loopw [13] (fun iv wq => ∃ (i : Nat) (ys : List Nat), iv = .int .i64 (i : Nat) ∧ i ≤ 84 ∧ OwnB wq Wr.heap.size (some ⟨o, 0, none⟩) 84 c1 ys ∧ Fr (fun b => b = o) w5 wq) (fun iv _ => 84 - (intOf iv).toNat)
          case atStart => exact ⟨0, SL, rfl, by omega, o1, Fr.refl _ _⟩
          case round =>
            obtain ⟨i, ys, rfl, hi, ho, hfo⟩ := hrel
            by_cases hin : i < 84
            · have hi1 : (i : Int) < 84 := by omega
              have kc := ho.cell i hin
              have kf2 := ho.free i
              have hbd := ho.bnd i
              have hx9 : ys.getD i 0 ^^^ 9 < 256 := Nat.xor_lt_two_pow (n := 8) hbd (by decide)
              have HO : Hid (OwnB (wr.setCell ⟨o, i, none⟩ (.int .u8 ((ys.getD i 0 ^^^ 9 : Nat) : Int))) Wr.heap.size (some ⟨o, 0, none⟩) 84 c1 (ys.set i (ys.getD i 0 ^^^ 9))) := ho.store i _ hx9
              have HF : Hid (∀ v, Fr (fun b => b = o) w5 (wr.setCell ⟨o, i, none⟩ v)) := fun v => Fr.trans hfo (Fr.setCell (fun b => b = o) _ _ _ rfl)
              have hx : bits .xor .u8 ((ys.getD i 0 : Nat) : Int) 9 = ((ys.getD i 0 ^^^ 9 : Nat) : Int) := u8_xor_nat (ys.getD i 0) 9 hbd (by omega)
              clear ho hfo
              generalize ys.getD i 0 = y at *
              generalize y ^^^ 9 = z at *
              go_wp2
              go_roundw
              case rel => exact ⟨i + 1, ys.set i z, by go_num, by omega, HO.out, HF.out _⟩
              case measure => simp [intOf]; omega
            · have hi1 : ¬ (i : Int) < 84 := by omega
              have hPE := HEND.out wr hfo
              have hbE := hPE.bel
              clear ho hfo HEND
              go_wp2_with fail
              refine (live6_any wr (hkw.next hbE)).mono ?_
              rintro e w6 ⟨rfl, hb6⟩
              have hP6 := hPE.below hb6
              clear hPE hb6 hbE
              have hd1 : Calls Tryd.prog 9 #[.pointer (some ⟨pp, 0, none⟩), .agg #[.int .i64 1, .slice none 0 0, .int .i64 0, .int .i64 0, .int .u16 0, .int .u16 0, .int .u32 0, .int .u32 0, .int .u32 0, .int .u32 0, .int .u32 0, .int .u16 0, .int .u16 0, .int .u32 0, .int .u32 0, .int .i64 0, .int .u8 0, .int .u8 0, .int .u8 0]] w6 (CdP w pp kx ky 41 w6) := do_seal none 0 0 [] 0 0 0 0 0 0 0 0 0 0 0 0 0 0 0 0 0 pp kx ky 41 cur fm rs w w6 hP6 (by omega) (by decide) (by decide) (by omega) (by omega) (by omega) (by omega) (by omega) (by omega) (by omega) (by omega) (by omega) (by omega) (by omega)
              go_wp2_with fail
              refine hd1.mono ?_
              rintro e w7 ⟨rfl, ⟨cur7, fm7, rs7, hP7⟩, _⟩
              clear hd1 hP6
              have hd3 : Calls Tryd.prog 9 #[.pointer (some ⟨pp, 0, none⟩), .agg #[.int .i64 3, .slice none 0 0, .int .i64 0, .int .i64 0, .int .u16 0, .int .u16 0, .int .u32 0, .int .u32 0, .int .u32 0, .int .u32 0, .int .u32 0, .int .u16 0, .int .u16 0, .int .u32 0, .int .u32 0, .int .i64 0, .int .u8 0, .int .u8 0, .int .u8 0]] w7 (CdP w pp kx ky 42 w7) := do_last2 none 0 0 [] 0 0 0 0 0 0 0 0 0 0 0 0 0 0 0 0 0 pp kx ky 42 cur7 fm7 rs7 w w7 hP7 (by omega) (by omega) (by omega)
              go_wp2_with fail
              refine hd3.mono ?_
              rintro e w8 ⟨rfl, ⟨cur8, fm8, rs8, hP8⟩, _⟩
              have HB := (show Hid _ from hP8.bel)
              clear hd3 hP7 hP8
              go_wp2
              go_ret
              exact ⟨rfl, HB.out⟩
        · have hj1 : ¬ (j : Int) < (nm : Int) := by omega
          have hPr : Pr w wr pp kx ky cur fm rs 41 := hP.sub (fun k _ he => he.1)
          clear hP hQ hbel
          obtain ⟨Wr, hWr⟩ : ∃ W, W = wr := ⟨_, rfl⟩
          subst hWr
          obtain ⟨la2, ln2, lc2, zl2, p1, _⟩ := hPr.p
          have c0 := p1.cell 0 _ rfl
          have hsl : Calls Tryd.prog 10 #[.pointer (some ⟨kx, 0, none⟩), .agg #[.int .i64 0, .int .i64 0, .int .u16 0, .int .u16 0, .int .u32 0, .int .u32 0, .int .u32 0, .int .u32 0, .int .u32 0, .int .u16 0, .int .u16 0, .int .u32 0, .int .u32 0]] Wr fun e w' => RowC Wr (sealV cur ⟨0, 0, 0, 0, 0, 0, 0, 0, 0, 0, 0, 0, 0⟩) 0 e w' := by
            have := seal_all kx cur fm 0 0 0 0 0 0 0 0 0 0 0 0 0 Wr (by decide) (by decide) (by omega) (by omega) (by omega) (by omega) (by omega) (by omega) (by omega) (by omega) (by omega) (by omega) (by omega) hPr.x.ky (hkw.next hPr.bel)
            rw [show ckMay 0 0 = true by decide, if_pos rfl, if_pos rfl] at this
            exact this
          have hlS := sealV_len cur ⟨0, 0, 0, 0, 0, 0, 0, 0, 0, 0, 0, 0, 0⟩
          obtain ⟨SL, hSL⟩ : ∃ SL, SL = sealV cur ⟨0, 0, 0, 0, 0, 0, 0, 0, 0, 0, 0, 0, 0⟩ := ⟨_, rfl⟩
          rw [← hSL] at hsl hlS
          clear hSL
          go_wp2_with fail
          refine hsl.mono ?_
          rintro e w5 ⟨⟨a1, c1, rfl, o1⟩, b5⟩
          rw [hlS] at o1 ⊢
          obtain ⟨o, rfl, hob⟩ := own_g2 o1 (by omega)
          have hPo : PrX w w5 pp kx ky cur fm rs 41 (fun k => PX pp kx ky k ∧ k ≠ o) := (hPr.sub (fun k hk he => ⟨he, by omega⟩)).below b5
          have hpo : pp ≠ o := by have := hPr.ltp; omega
          have hxo : kx ≠ o := by have := hPr.x.lt; omega
          have hyo : ky ≠ o := by have := hPr.y.lt; omega
          have HEND : Hid (∀ wE, Fr (fun b => b = o) w5 wE → Pr w wE pp kx ky cur fm rs 41) := fun wE hf => (hPo.fr hf (fun e => hpo e) (fun e => hxo e) (fun e => hyo e) (fun k hk e => hk.2 e) (hPo.bel.trans (hf.below _ hPo.bel.size (fun k hk => by have := hPr.bel.size; omega)))).sub (fun k _ hk => hk.1)
          clear hPo hPr p1 c0 hsl b5
          go_wp2
          go_loopw [13] (fun iv wq => ∃ (i : Nat) (ys : List Nat), iv = .int .i64 (i : Nat) ∧ i ≤ 84 ∧ OwnB wq Wr.heap.size (some ⟨o, 0, none⟩) 84 c1 ys ∧ Fr (fun b => b = o) w5 wq) (fun iv _ => 84 - (intOf iv).toNat)
          case atStart => exact ⟨0, SL, rfl, by omega, o1, Fr.refl _ _⟩
          case round =>
            obtain ⟨i, ys, rfl, hi, ho, hfo⟩ := hrel
            by_cases hin : i < 84
            · have hi1 : (i : Int) < 84 := by omega
              have kc := ho.cell i hin
              have kf2 := ho.free i
              have hbd := ho.bnd i
              have hx9 : ys.getD i 0 ^^^ 9 < 256 := Nat.xor_lt_two_pow (n := 8) hbd (by decide)
              have HO : Hid (OwnB (wr.setCell ⟨o, i, none⟩ (.int .u8 ((ys.getD i 0 ^^^ 9 : Nat) : Int))) Wr.heap.size (some ⟨o, 0, none⟩) 84 c1 (ys.set i (ys.getD i 0 ^^^ 9))) := ho.store i _ hx9
              have HF : Hid (∀ v, Fr (fun b => b = o) w5 (wr.setCell ⟨o, i, none⟩ v)) := fun v => Fr.trans hfo (Fr.setCell (fun b => b = o) _ _ _ rfl)
              have hx : bits .xor .u8 ((ys.getD i 0 : Nat) : Int) 9 = ((ys.getD i 0 ^^^ 9 : Nat) : Int) := u8_xor_nat (ys.getD i 0) 9 hbd (by omega)
              clear ho hfo
              generalize ys.getD i 0 = y at *
              generalize y ^^^ 9 = z at *
              go_wp2
              go_roundw
              case rel => exact ⟨i + 1, ys.set i z, by go_num, by omega, HO.out, HF.out _⟩
              case measure => simp [intOf]; omega
            · have hi1 : ¬ (i : Int) < 84 := by omega
              have hPE := HEND.out wr hfo
              have hbE := hPE.bel
              clear ho hfo HEND
              go_wp2_with fail
              refine (live6_any wr (hkw.next hbE)).mono ?_
              rintro e w6 ⟨rfl, hb6⟩
              have hP6 := hPE.below hb6
              clear hPE hb6 hbE
              have hd1 : Calls Tryd.prog 9 #[.pointer (some ⟨pp, 0, none⟩), .agg #[.int .i64 1, .slice none 0 0, .int .i64 0, .int .i64 0, .int .u16 0, .int .u16 0, .int .u32 0, .int .u32 0, .int .u32 0, .int .u32 0, .int .u32 0, .int .u16 0, .int .u16 0, .int .u32 0, .int .u32 0, .int .i64 0, .int .u8 0, .int .u8 0, .int .u8 0]] w6 (CdP w pp kx ky 41 w6) := do_seal none 0 0 [] 0 0 0 0 0 0 0 0 0 0 0 0 0 0 0 0 0 pp kx ky 41 cur fm rs w w6 hP6 (by omega) (by decide) (by decide) (by omega) (by omega) (by omega) (by omega) (by omega) (by omega) (by omega) (by omega) (by omega) (by omega) (by omega)
              go_wp2_with fail
              refine hd1.mono ?_
              rintro e w7 ⟨rfl, ⟨cur7, fm7, rs7, hP7⟩, _⟩
              clear hd1 hP6
              have hd3 : Calls Tryd.prog 9 #[.pointer (some ⟨pp, 0, none⟩), .agg #[.int .i64 3, .slice none 0 0, .int .i64 0, .int .i64 0, .int .u16 0, .int .u16 0, .int .u32 0, .int .u32 0, .int .u32 0, .int .u32 0, .int .u32 0, .int .u16 0, .int .u16 0, .int .u32 0, .int .u32 0, .int .i64 0, .int .u8 0, .int .u8 0, .int .u8 0]] w7 (CdP w pp kx ky 42 w7) := do_last2 none 0 0 [] 0 0 0 0 0 0 0 0 0 0 0 0 0 0 0 0 0 pp kx ky 42 cur7 fm7 rs7 w w7 hP7 (by omega) (by omega) (by omega)
              go_wp2_with fail
              refine hd3.mono ?_
              rintro e w8 ⟨rfl, ⟨cur8, fm8, rs8, hP8⟩, _⟩
              have HB := (show Hid _ from hP8.bel)
              clear hd3 hP7 hP8
              go_wp2
              go_ret
              exact ⟨rfl, HB.out⟩
end Go.Proofs.YtmikhnaffhheoaaDoor
namespace Go.Proofs.YtmikhnaffhheoaaDoor.cookieForks
theorem of_laid {W : World} (h : laidMetH Tryd.prog Rows.cookieForksRow.laid W) : KW W := by
  rw [MakeChecks.laidMetH_plain _ _ _ (by kernel_rfl)] at h
  exact kw_of_laid h
end Go.Proofs.YtmikhnaffhheoaaDoor.cookieForks
namespace Go.Proofs.YtmikhnaffhheoaaDoor.cookieForks
open Go.ChangeShapes Go.WideShapes Go.ChangeAt Go.RowKit
open Go.ChangeMaps (open_string shut_string)
set_option linter.unusedVariables false
theorem own : ownKnob Tryd.prog.godebug = none := by kernel_rfl
theorem laidOut : laidOutB Tryd.prog = true := by kernel_rfl
theorem bytes_uint8 : Tryd.prog.bytesOf 5 = 1 := by kernel_rfl
set_option maxRecDepth 100000 in
theorem lifted (os : Os) (started : os.Started) (H : Type) (enc : TypeId × Value → H) :
    ReturnsInHanded {} Tryd.checked os 4 .any (fun w args => (Rows.cookieForksSpec.pre enc Tryd.prog Tryd.f4 [] false w args ∧ laidMetH Tryd.prog Rows.cookieForksRow.laid w) ∧ sizedMet enc Tryd.prog Tryd.f4 (OpenSpec.ofChange Rows.cookieForksSpec) false w args)
      (Rows.cookieForksSpec.post enc Tryd.prog Tryd.f4 false true false false) := by
  refine returnsInHanded_of_change_and (C := Tryd.checked) (X := fun w _ => laidMetH Tryd.prog Rows.cookieForksRow.laid w) (fun _ _ _ hh h => h.of_heap hh) own started (by kernel_rfl) Tryd.func4
    (ChangeSpec.witness_shaped (enc := enc) (C := Tryd.checked) (os := os) (X := fun w _ => laidMetH Tryd.prog Rows.cookieForksRow.laid w) false (World.laidAll Tryd.prog os Rows.cookieForksRow.laid) #[.slice none 0 0, .slice none 0 0, .slice none 0 0] 8 (World.laidAll_os _ _ _)
      (World.shaped_of_ZipB (by kernel_rfl) (by kernel_rfl)) (by kernel_rfl) (by kernel_rfl) (by kernel_rfl)
      (by rw [MakeChecks.laidMetH_plain _ _ _ (by kernel_rfl)]; exact laidMet_laidAll _ (by kernel_rfl) (by kernel_rfl))) ?_
  intro W base args ds gs before hval0 hW _ hsz0 hL _
  have hsz : (DataW.weightsEach Tryd.prog (Tryd.f4.params.toList ++ Rows.cookieForksSpec.plain.varTypes Tryd.prog) (ds ++ gs)).all (· ≤ reachBytes) = true := hsz0
  clear hsz0
  have hval : ∀ (j : Nat) t v, Tryd.f4.params[j]? = some t → args[j]? = some v → Value.okWide Tryd.prog W .any base t v := hval0
  have hW' := hW
  obtain ⟨p, q, hA0, hV, rfl, hfz, hnd⟩ := hW
  have hA : DataW.TrodAll enc Tryd.prog W 0 (fun _ => true) true Tryd.f4.params.toList args.toList ds p := hA0
  rw [Tryd.params4] at hA hval hsz
  obtain ⟨v0, vs0, d0, ds0, p0, q0, hargs, rfl, rfl, h0, r0⟩ := trodAll_cons hA
  obtain ⟨v1, vs1, d1, ds1, p1, q1, rfl, rfl, rfl, h1, r1⟩ := trodAll_cons r0
  obtain ⟨v2, vs2, d2, ds2, p2, q2, rfl, rfl, rfl, h2, r2⟩ := trodAll_cons r1
  obtain ⟨rfl, rfl, rfl⟩ := trodAll_nil r2
  obtain rfl : args = #[v0, v1, v2] := by cases args; simp_all
  obtain ⟨rfl, rfl⟩ := trodVars_none hV
  obtain ⟨a0, len0, cap0, rfl⟩ := okWide_slice Tryd.underlying22 (hval 0 22 v0 rfl rfl)
  have k0 := h0
  have lt0 : ∀ x ∈ p0, x.block < W.heap.size := by obtain ⟨m, hm⟩ := k0; exact DataW.trod_lt m _ _ _ hm
  obtain ⟨z0, w0⟩ : ∃ zs, SlK .u8 256 W a0 len0 cap0 zs ∧ cap0 * 1 ≤ 140737488351232 := by
    clear k0 lt0
    obtain ⟨fuel, hf⟩ := h0
    rcases open_ints Tryd.underlying22 Tryd.underlying5 (by kernel_rfl) hf with ⟨hcs, _⟩ | ⟨x, l, c, zs, hcs, _, hl, hm, hz, hx, hcell, hwz⟩
    · simp [Value.cells] at hcs
      obtain ⟨rfl, rfl, rfl⟩ := hcs
      exact ⟨[], SlK.nil _ _ _ (by omega), by omega⟩
    · simp [Value.cells] at hcs
      obtain ⟨rfl, rfl, rfl⟩ := hcs
      obtain ⟨rfl, rfl⟩ := Prod.mk.inj hx
      have hw := sized_slice hsz (j := 0) (t := 22) (e := 5) rfl rfl Tryd.underlying22
      have hz' : zs.length = cap0 := by simpa using hz
      rw [bytes_uint8] at hw
      simp only [lits, List.length_map, List.length_take, List.length_drop, reachBytes] at hw
      exact ⟨_, SlK.of_ints (by omega) (fun z hz => by have := bounds_u8 hz; omega) hl hm hz' (by omega) hcell hwz, by omega⟩
  obtain ⟨a1, len1, cap1, rfl⟩ := okWide_slice Tryd.underlying23 (hval 1 23 v1 rfl rfl)
  have k1 := h1
  have lt1 : ∀ x ∈ p1, x.block < W.heap.size := by obtain ⟨m, hm⟩ := k1; exact DataW.trod_lt m _ _ _ hm
  obtain ⟨z1, w1⟩ : ∃ dd, SlC W a1 len1 cap1 dd := by
    clear k1 lt1
    obtain ⟨fuel, hf⟩ := h1
    exact SlC.open hf (fun q hq => by
      have := List.all_eq_true.1 hsz q (DataW.weights_mem_each (j := 1) (t := 23) (d := d1) rfl rfl q hq)
      simpa using this)
  obtain ⟨a2, len2, cap2, rfl⟩ := okWide_slice Tryd.underlying23 (hval 2 23 v2 rfl rfl)
  have k2 := h2
  have lt2 : ∀ x ∈ p2, x.block < W.heap.size := by obtain ⟨m, hm⟩ := k2; exact DataW.trod_lt m _ _ _ hm
  obtain ⟨z2, w2⟩ : ∃ dd, SlC W a2 len2 cap2 dd := by
    clear k2 lt2
    obtain ⟨fuel, hf⟩ := h2
    exact SlC.open hf (fun q hq => by
      have := List.all_eq_true.1 hsz q (DataW.weights_mem_each (j := 2) (t := 23) (d := d2) rfl rfl q hq)
      simpa using this)
  clear hA0 hval0 hsz
  refine (walk_CookieForks a0 len0 cap0 z0 a1 len1 cap1 z1 a2 len2 cap2 z2 W w0 w1 w2 (of_laid hL)).mono fun e W' ⟨he, bel⟩ => ?_
  subst he
  exact ⟨_, rfl, _, _, _, [], _, [], hW', trodAll_mk1 (shut_bool Tryd.underlying4 _), (trodAll_cons_mk (Below.trod laidOut (by kernel_rfl) (of_decide_eq_true (by kernel_rfl)) k0 bel lt0) (trodAll_cons_mk (Below.trod laidOut (by kernel_rfl) (of_decide_eq_true (by kernel_rfl)) k1 bel lt1) (trodAll_cons_mk (Below.trod laidOut (by kernel_rfl) (of_decide_eq_true (by kernel_rfl)) k2 bel lt2) trodAll_mk0))), rfl, bel.frame _, fun h => by cases h⟩
theorem over : Rows.cookieForksRow.holds Tryd.pinned (OpenSpec.ofChange Rows.cookieForksSpec) :=
  OpenClaim.holds_of_wide 4 Tryd.f4 rfl rfl rfl rfl rfl rfl rfl ⟨rfl, rfl, rfl, rfl, rfl⟩ rfl rfl rfl rfl rfl (by kernel_rfl) Tryd.func4 (by kernel_rfl)
    (of_decide_eq_true (by kernel_rfl)) (by unfold Func.isWrapper; first | (rw [if_pos (by decide +kernel)]; kernel_rfl) | (rw [if_neg (by decide +kernel)]; exact ⟨rfl, rfl⟩))
    (fun os started H enc _ => lifted os started H enc)
end Go.Proofs.YtmikhnaffhheoaaDoor.cookieForks
namespace Go.Proofs.YtmikhnaffhheoaaDoor
theorem CookieForks_holds : Rows.CookieForksCardSaid :=
  Claim7.holds_tied_plain_at .later [] [.data] true (true, Rows.cookieForksCard.stood.harness.2) false
    cookieForks.over (fun _ h => by cases h) (by kernel_rfl) (fun _ h => by cases h) cookieForks_row_tie rfl ⟨rfl, rfl⟩ (by kernel_rfl) rfl
    (fun f fn hf hfn => by
      obtain rfl : f = 4 := Option.some.inj ((show Tryd.prog.funcNamed Rows.cookieForksRow.func = some 4 by kernel_rfl).symm.trans hf) |>.symm
      obtain rfl : fn = Tryd.f4 := (Option.some.inj (Tryd.func4.symm.trans hfn)).symm
      exact ⟨by kernel_rfl, fun j t ht => by
        rw [Tryd.params4] at ht
        have hm : t ∈ [22, 23] := by simpa using Array.mem_of_getElem? ht
        have hall : ([22, 23].all fun u => !Tryd.prog.wantsStandIn u) = true := by kernel_rfl
        exact (show Tryd.prog.wantsStandIn t = false by simpa using List.all_eq_true.1 hall t hm)⟩)
    (by kernel_rfl)
#print axioms CookieForks_holds
end Go.Proofs.YtmikhnaffhheoaaDoor
