/- What the reference's Unhex answers: the same. -/
import Derived.Test.YtaakkibohkckaaaDoorHexMath
import Derived.Test.YtaakkibohkckaaaDoorOwn
import Derived.Deep.RegionHeld3
namespace Go.Proofs.YtaakkibohkckaaaDoor
open Go.RowKit
theorem OwnS.form {w : World} {B : Nat} {v : Value} {n : Nat} {xs : List ByteArray} (h : OwnS w B v n xs) : (v = .slice none 0 0 ∧ n = 0) ∨ ∃ g c, v = .slice (some ⟨g, 0, none⟩) n c ∧ n ≤ c := by
  rcases h.2 with h0 | ⟨g, cap, cur, hv, _, _, hcap, _⟩
  · exact .inl h0
  · exact .inr ⟨g, cap, hv, hcap⟩
theorem OwnS.slice {w : World} {B : Nat} {v : Value} {n : Nat} {xs : List ByteArray} (h : OwnS w B v n xs) : ∃ a c, v = .slice a n c := by
  rcases h.form with ⟨rfl, rfl⟩ | ⟨g, c, rfl, _⟩
  · exact ⟨_, _, rfl⟩
  · exact ⟨_, _, rfl⟩
theorem keepc {w w' : World} {g o : Nat} {v : Value} (hb : Below w.heap.size w w') (h : w.cell? ⟨g, o, none⟩ = some v) : w'.cell? ⟨g, o, none⟩ = some v := (hb.cell (p := ⟨g, o, none⟩) (cell_lt h)).trans h
theorem keepg {w w' : World} {g o : Nat} {v : Value} {row : Option Nat} (hg : w.grownBy w' row) (h : w.cell? ⟨g, o, none⟩ = some v) (hne : some g ≠ row) : w'.cell? ⟨g, o, none⟩ = some v := by
  rw [World.cell?_of_block (a := ⟨g, o, none⟩) (hg.block g (cell_lt h) hne)]
  exact h
theorem OwnS.kept {w w' : World} {B : Nat} {v : Value} {n : Nat} {xs : List ByteArray} {row : Option Nat} (h : OwnS w B v n xs) (hg : w.grownBy w' row) (hne : v.ownBlock = none ∨ v.ownBlock ≠ row) : OwnS w' B v n xs := World.ownsRow.kept h hg hne
set_option maxHeartbeats 2000000 in
theorem refunhex_any (s : ByteArray) (w : World) (hT : Lib.Utf8Tabs 0 1 w) (hs : s.size ≤ 281474976710656) :
    Calls Tryd.prog 7 #[.string s] w fun e w' => ∃ a c, e = .returned (.tuple #[.slice a (uhOf s).1.length c, .int .i64 ((uhOf s).2.1 : Nat), .int .i64 ((uhOf s).2.2 : Nat)]) ∧ OwnB w' w.heap.size a (uhOf s).1.length c (uhOf s).1 ∧ Below w.heap.size w w' := by
  by_cases hbig : 4096 < s.size
  · have HE : Hid (uhOf s = ([], 0, 6)) := by show _ = _; unfold uhOf; rw [if_pos hbig]
    go_enter Tryd.func7, Tryd.ntmps7
    go_wp2
    go_ret3
    rw [HE.out]
    exact ⟨none, 0, rfl, OwnB.nil _ _, Below.refl _ _⟩
  · have HU := (show Hid _ from uhOf_bu s hbig)
    go_enter Tryd.func7, Tryd.ntmps7
    go_wp2_with fail
    refine (letters_any s _ (by omega) hT).mono ?_
    rintro e w1 ⟨L, v, rfl, hown, hLR, hll, hbel⟩
    have HE := (show Hid _ from HU.out L hLR)
    clear HU hLR
    obtain ⟨a1, c1, hv⟩ := hown.slice
    subst hv
    have hn : L.length ≤ 4096 := by omega
    obtain ⟨n, hnn⟩ : ∃ n, n = L.length := ⟨_, rfl⟩
    rw [← hnn] at hown hn ⊢
    have HN : Hid (n = L.length) := hnn
    clear hll hbig hnn
    go_wp2
    go_loopw [6] (fun i wr => ∃ j : Nat, j ≤ n ∧ i = .int .i64 j ∧ OwnS wr w.heap.size (.slice a1 n c1) n L ∧ Hid (∀ k, k < j → ∃ v, (L.map digS)[k]? = some (some v)) ∧ Below w.heap.size w wr) (fun i _ => n - (intOf i).toNat)
    case atStart => exact ⟨0, by omega, rfl, hown, (fun k hk => by omega), hbel⟩
    case round =>
      clear hown hbel
      obtain ⟨j, hj, rfl, hown, HK, hbel⟩ := hrel
      by_cases hlt : j < n
      · obtain ⟨g, c, hv, hc⟩ : ∃ g c, Value.slice a1 n c1 = .slice (some ⟨g, 0, none⟩) n c ∧ n ≤ c := by
          rcases hown.form with ⟨_, h0⟩ | h
          · omega
          · exact h
        injection hv with e1 _ e3
        subst e1 e3
        obtain ⟨x, hx⟩ : ∃ x, L[j]? = some x := ⟨L[j]'(by have := HN.out; omega), List.getElem?_eq_getElem (by have := HN.out; omega)⟩
        have hcell := hown.cells j x hx
        rw [Nat.zero_add] at hcell
        have hji : (j : Int) < (n : Int) := by omega
        cases hd : digS x with
        | none =>
          have HR : Hid (uhOf s = ([], j, 4)) := by
            show _ = _
            rw [HE.out, ou_bad j _ _ _ _ HK.out (by rw [List.getElem?_map, hx]; simp [hd])]
            simp
          have hI := digI_no hd
          clear HK hd hx HE
          go_wp2_with fail
          refine (digit_any x _).mono ?_
          rintro e w2 ⟨rfl, hb2⟩
          rw [hI]
          go_wp2
          go_ret3
          rw [HR.out]
          exact ⟨none, 0, rfl, OwnB.nil _ _, hbel.trans (hb2.mono hbel.size)⟩
        | some v =>
          have HR : Hid (∀ k, k < j + 1 → ∃ v, (L.map digS)[k]? = some (some v)) := by
            intro k hk
            by_cases hkj : k = j
            · subst hkj
              exact ⟨v, by rw [List.getElem?_map, hx]; simp [hd]⟩
            · exact HK.out k (by omega)
          have hI := digI_of hd
          clear HK hd hx HE
          go_wp2_with fail
          refine (digit_any x _).mono ?_
          rintro e w2 ⟨rfl, hb2⟩
          rw [hI]
          have hown2 := hown.below hb2
          have hb02 := hbel.trans (hb2.mono hbel.size)
          clear hown hbel hcell hI hb2
          go_wp2
          go_roundw
          case rel => exact ⟨j + 1, by omega, by go_num, hown2, HR, hb02⟩
          case measure => simp [intOf]; omega
      · obtain rfl : j = n := by omega
        by_cases hpar : j % 2 = 0
        · have hp1 : ((j : Int) % 2) = 0 := by omega
          have hp2 : Int.tmod (j : Int) 2 = 0 := by rw [Int.tmod_eq_emod_of_nonneg (by omega)]; exact hp1
          have hall : ∀ x ∈ L, digS x ≠ none := by
            intro x hx
            obtain ⟨k, hk, rfl⟩ := List.getElem_of_mem hx
            obtain ⟨v, hv⟩ := HK.out k (by have := HN.out; omega)
            rw [List.getElem?_map, List.getElem?_eq_getElem hk] at hv
            simp at hv
            rw [hv]
            simp
          have HR : Hid (uhOf s = (prs (L.map dv), 0, 0)) := by
            show _ = _
            rw [HE.out, all_some L hall, ou_even (j / 2) _ _ _ _ (by have := HN.out; simp; omega) rfl]
            rfl
          have HA := (show Hid _ from hall)
          clear HK HE hall
          go_wp2
          obtain ⟨W, hW⟩ : ∃ W, W = wr := ⟨_, rfl⟩
          subst hW
          have hlt1 : ∀ g, (Value.slice a1 j c1).ownBlock = some g → g < W.heap.size := fun g hg => (World.ownsRow.lt hown g hg).2
          have hB := hbel.size
          go_loopw [7, 8] (fun vo i wl => ∃ (k : Nat) (a' : Option Addr) (c' : Nat), 2 * k ≤ j ∧ i = .int .i64 ((2 * k : Nat) : Int) ∧ vo = .slice a' k c' ∧ OwnB wl W.heap.size a' k c' (prs ((L.map dv).take (2 * k))) ∧ OwnS wl w.heap.size (.slice a1 j c1) j L ∧ Below W.heap.size W wl) (fun _ i _ => j + 2 - (intOf i).toNat)
          case atStart => exact ⟨0, _, _, by omega, rfl, rfl, own_empty W, hown.alloc _, (Below.refl _ _).alloc (Nat.le_refl _) _⟩
          case round =>
            clear hown
            obtain ⟨k, a2, c2, hk, rfl, rfl, ho2, hown, hb2⟩ := hrel
            by_cases hlt : 2 * k < j
            · obtain ⟨g, c, hv, hc⟩ : ∃ g c, Value.slice a1 j c1 = .slice (some ⟨g, 0, none⟩) j c ∧ j ≤ c := by
                rcases hown.form with ⟨_, h0⟩ | h
                · omega
                · exact h
              injection hv with e1 _ e3
              subst e1 e3
              obtain ⟨x, hx⟩ : ∃ x, L[2 * k]? = some x := ⟨L[2 * k]'(by have := HN.out; omega), List.getElem?_eq_getElem (by have := HN.out; omega)⟩
              obtain ⟨y, hy⟩ : ∃ y, L[2 * k + 1]? = some y := ⟨L[2 * k + 1]'(by have := HN.out; omega), List.getElem?_eq_getElem (by have := HN.out; omega)⟩
              have hc1 := hown.cells (2 * k) x hx
              have hc2 := hown.cells (2 * k + 1) y hy
              rw [Nat.zero_add] at hc1 hc2
              have hdx : digI x = ((dv x : Nat) : Int) := by
                unfold dv
                cases h : digS x with
                | none => exact absurd h (HA.out x (List.mem_of_getElem? hx))
                | some v => exact digI_of h
              have hdy : digI y = ((dv y : Nat) : Int) := by
                unfold dv
                cases h : digS y with
                | none => exact absurd h (HA.out y (List.mem_of_getElem? hy))
                | some v => exact digI_of h
              have HP : Hid (prs ((L.map dv).take (2 * (k + 1))) = prs ((L.map dv).take (2 * k)) ++ [dv x * 16 + dv y]) := by
                show _ = _
                have e1 : (L.map dv).take (2 * (k + 1)) = (L.map dv).take (2 * k) ++ [dv x, dv y] := by
                  rw [show 2 * (k + 1) = 2 * k + 1 + 1 from by omega, List.take_add_one, List.take_add_one, List.getElem?_map, List.getElem?_map, hx, hy]
                  simp
                rw [e1, prs_snoc k _ _ _ (by have := HN.out; simp; omega)]
              have hvx := dv_lt x
              have hvy := dv_lt y
              generalize prs ((L.map dv).take (2 * k)) = out at *
              generalize dv x = vx at *
              generalize dv y = vy at *
              obtain ⟨q, hq⟩ : ∃ q, q = 2 * k := ⟨_, rfl⟩
              rw [← hq] at hc1 hc2 ⊢
              have hki : (q : Int) < (j : Int) := by omega
              have hki2 : (q : Int) + 1 < (j : Int) := by omega
              have hki3 : (0 : Int) ≤ (q : Int) + 1 := by omega
              have hkw : IntKind.i64.wrap ((q : Int) + 1) = (q : Int) + 1 := by rw [IntKind.wrap_i64]; omega
              have hm1 : IntKind.i64.wrap (16 * (vx : Int)) = 16 * (vx : Int) := by rw [IntKind.wrap_i64]; omega
              have hm2 : IntKind.i64.wrap (16 * (vx : Int) + (vy : Int)) = 16 * (vx : Int) + (vy : Int) := by rw [IntKind.wrap_i64]; omega
              have hgl := hlt1 g rfl
              have hne : some g ≠ (Value.slice a2 k c2).ownBlock := fun e => by have := (ho2.own.lt g e.symm).1; omega
              have hkk : k + 1 ≤ 4096 := by omega
              have hqn : Hid (q + 2 = 2 * (k + 1)) := by show _ = _; omega
              have hlast : Hid (2 * (k + 1) ≤ j) := by show _ ≤ _; omega
              have hod : OwnB wr.drew W.heap.size a2 k c2 out := ho2.below (Below.refl _ _).drew
              have hsd : OwnS wr.drew w.heap.size (.slice (some ⟨g, 0, none⟩) j c1) j L := hown.below (Below.refl _ _).drew
              have hbw : Below W.heap.size W wr.drew := hb2.drew
              have hsz2 := hbw.size
              clear hx hy hq ho2 hown hpar hp1 hp2 hb2
              go_wp2_with fail
              go_region_held3 (fun w' => w'.cell? ⟨g, q, none⟩ = some (.string x) ∧ w'.cell? ⟨g, q + 1, none⟩ = some (.string y)) (first | (go_split_ands; exact ⟨keepg hg3 (by assumption) hne, keepg hg3 (by assumption) hne⟩) | (go_split_ands; exact ⟨keepc hbd (by first | assumption | exact hc1), keepc hbd (by first | assumption | exact hc2)⟩) | go_keep) (first | (go_at_call 17; refine (digit_any _ _).mono ?_; rintro e wd ⟨rfl, hbd⟩; (first | rw [hdx] | rw [hdy]); have hod := hod.below hbd; have hsd := hsd.below hbd; have hbw := hbw.trans (hbd.mono hbw.size); have hsz2 := hbw.size) | (refine app_step (by rfl) _ _ (by rfl) W.heap.size _ k c2 out (by rfl) (hod.alloc _) _ 1 1 [vx * 16 + vy] (by rfl) (sl_one wd 5 _ _ (by first | rfl | (rw [IntKind.wrap_u8]; omega)) (by omega)) (by omega) (by simp; omega) ?_; intro a3 c3 w3 ho3 hg3))
              have hs3 := OwnS.kept (hsd.alloc _) hg3 (.inr (fun e => hne e))
              have hb3 : Below W.heap.size W w3 := (hbw.alloc hsz2 _).trans ((hod.alloc _).up hg3 (by simp; omega))
              clear hod hsd hbw hg3 hc1 hc2
              go_wp2
              go_roundw
              case rel =>
                refine ⟨k + 1, a3, c3, hlast.out, ?_, rfl, by rw [HP.out]; exact ho3, hs3, hb3⟩
                rw [← hqn.out]
                go_num
              case measure => simp [intOf]; omega
            · obtain rfl : 2 * k = j := by omega
              have HT : Hid ((L.map dv).take (2 * k) = L.map dv) := by show _ = _; rw [HN.out, ← List.length_map (f := dv), List.take_length]
              rw [HT.out] at ho2
              have HK := (show Hid _ from ho2.len)
              have hbase := ho2.base hB
              go_wp2
              go_ret3
              rw [HR.out]
              refine ⟨a2, c2, ?_, ?_, hbel.trans (hb2.mono hB)⟩
              · show _ = Ending.returned (.tuple #[.slice a2 (prs (L.map dv)).length c2, _, _])
                rw [HK.out]
                rfl
              · show OwnB _ _ a2 (prs (L.map dv)).length c2 _
                rw [HK.out]
                exact hbase
        · have hp1 : ((j : Int) % 2) = 1 := by omega
          have hp2 : Int.tmod (j : Int) 2 = 1 := by rw [Int.tmod_eq_emod_of_nonneg (by omega)]; exact hp1
          have HR : Hid (uhOf s = ([], j, 3)) := by
            show _ = _
            rw [HE.out, ou_odd _ _ _ _ (by rw [List.length_map, ← HN.out]; exact HK.out) (by rw [List.length_map, ← HN.out]; omega), List.length_map, ← HN.out]
            simp
          clear HK HE
          go_wp2
          go_ret3
          rw [HR.out]
          exact ⟨none, 0, rfl, OwnB.nil _ _, hbel⟩
end Go.Proofs.YtaakkibohkckaaaDoor
