/- What Span of package serial answers. -/
import Derived.Test.YtpnfghchllipnabSer1
import Derived.Test.YtpnfghchllipnabSpanM
import Derived.Test.YtpnfghchllipnabOwnP
import Derived.Outline
import Derived.WalkLawsBesides
import Derived.WalkSpells
namespace Go.Proofs.Ytpnfghchllipnab
open Go.RowKit
def spanE (b : Int) (zs : List Nat) : Nat := if chkE b zs = 0 then (if 256 < zs.length then 6 else 0) else chkE b zs
def spanR (b : Int) (zs : List Nat) : List (Nat × Nat) := if spanE b zs = 0 then spanTo (rnd b) zs zs.length else []
theorem spanR_no {b : Int} {zs : List Nat} (h : ¬ spanE b zs = 0) : spanR b zs = [] := by unfold spanR; rw [if_neg h]
theorem bnd_rnd {b : Int} {zs : List Nat} (h : ∀ z ∈ zs, z < rnd b) : ∀ i, zs.getD i 0 < rnd b := by
  intro i
  by_cases hi : i < zs.length
  · have := h _ (List.getElem_mem hi)
    simpa [List.getD_eq_getElem?_getD, hi] using this
  · simpa [List.getD_eq_getElem?_getD, hi] using rnd_pos b
set_option maxHeartbeats 2000000 in
theorem span_any (b : Int) (a : Option Addr) (n c : Nat) (zs : List Nat) (w : World) (hs : SlK .u32 4294967296 w a n c zs) :
    Calls Try.prog 13 #[.int .i64 b, .slice a n c] w fun e w' => ∃ a' c', e = .returned (.tuple #[.slice a' (spanR b zs).length c', .int .i64 (spanE b zs : Nat)]) ∧ OwnP w' w.heap.size a' (spanR b zs).length c' (spanR b zs) ∧ Below w.heap.size w w' := by
  have hck := check_any b a n c zs w hs
  have hl := hs.len
  have hsm := hs.small
  by_cases he : chkE b zs = 0
  · by_cases h256 : 256 < n
    · have HE : Hid (spanE b zs = 6) := by show _ = _; unfold spanE; rw [if_pos he, if_pos (by omega)]
      have HR : Hid (spanR b zs = []) := spanR_no (by rw [HE.out]; omega)
      rw [mostR_ok he, he] at hck
      generalize ((rnd b - 1 : Nat) : Int) = m at *
      go_enter Try.func13, Try.ntmps13
      go_wp2_with (go_at_call 24; refine hck.mono ?_; rintro e w' ⟨rfl, hw'⟩; subst w')
      go_ret2
      exact ⟨none, 0, by rw [HE.out, HR.out]; rfl, by rw [HR.out]; exact OwnP.nil _ _, Below.refl _ _⟩
    · have HE : Hid (spanE b zs = 0) := by show _ = _; unfold spanE; rw [if_pos he, if_neg (by omega)]
      have HR : Hid (spanR b zs = spanTo (rnd b) zs n) := by show _ = _; unfold spanR; rw [if_pos HE.out, hl]
      have hbn := bnd_rnd (chkE_ok he).2
      have hup := fun k => up_any b (zs.getD (k - 1) 0) (zs.getD k 0) (hbn (k - 1))
      rw [mostR_ok he, he] at hck
      have hM := rnd_le b
      clear he
      generalize hmm : ((rnd b - 1 : Nat) : Int) = m at *
      clear hmm
      generalize rnd b = M at *
      go_enter Try.func13, Try.ntmps13
      go_wp2_with (go_at_call 24; refine hck.mono ?_; rintro e w' ⟨rfl, hw'⟩; subst w')
      clear hck
      go_loopw [8, 25] (fun v i wr => ∃ (k : Nat) (a1 : Option Addr) (c1 : Nat), k ≤ n ∧ i = .int .i64 k ∧ v = .slice a1 (spanTo M zs k).length c1 ∧ OwnP wr w.heap.size a1 (spanTo M zs k).length c1 (spanTo M zs k) ∧ Below w.heap.size w wr) (fun _ i _ => n - (intOf i).toNat)
      case atStart => exact ⟨0, none, 0, by omega, rfl, rfl, OwnP.nil _ _, Below.refl _ _⟩
      case round =>
        obtain ⟨k, a1, c1, hk, rfl, rfl, hown, hbel⟩ := hrel
        by_cases hkn : k < n
        · rcases hs.at_ with h0 | ⟨g, off, rfl, hlt, hcell⟩
          · omega
          have hc := (hbel.cell (p := ⟨g, off + k, none⟩) hlt).trans (hcell k hkn)
          have hx := hbn k
          have hll := spanTo_len M zs k
          have hsz := hbel.size
          have hR : (spanTo M zs k).length ≤ 256 := by omega
          have hx32 : zs.getD k 0 < 4294967296 := by omega
          cases k with
          | zero =>
            have HN := (show Hid _ from spanTo_new M zs 0 (by omega))
            clear hcell hup hll
            rw [Nat.add_zero] at hc
            generalize zs.getD 0 0 = x at *
            generalize spanTo M zs 0 = R at *
            go_wp2_with (at_builtin; go_must (refine app_listP rfl _ _ rfl w.heap.size a1 R.length c1 R rfl (hown.alloc _) wr.heap.size x x rfl (by simp) (by simp) hx32 hx32 (by omega) (by simp; omega) ?_))
            intro a2 c2 w2 ho2 hg2
            have hb2 : Below w.heap.size w w2 := (hbel.alloc hsz _).trans ((hown.alloc _).up hg2 (by simp; omega))
            clear hg2 hown
            go_wp2
            go_roundw
            case rel => exact ⟨0 + 1, a2, c2, by omega, by go_num, by rw [HN.out]; simp, by rw [HN.out]; simpa using ho2, hb2⟩
            case measure => simp [intOf]; omega
          | succ j =>
            have hcp := (hbel.cell (p := ⟨g, off + j, none⟩) hlt).trans (hcell j (by omega))
            have hu := fun W => hup (j + 1) W
            rw [Nat.add_sub_cancel] at hu
            have HON : Hid (upV M (zs.getD j 0) (zs.getD (j + 1) 0) = 1 → spanTo M zs (j + 1 + 1) = setLast (spanTo M zs (j + 1)) (zs.getD (j + 1) 0)) := fun h => spanTo_on M zs (j + 1) ⟨by omega, h⟩
            have HNEW : Hid (¬ upV M (zs.getD j 0) (zs.getD (j + 1) 0) = 1 → spanTo M zs (j + 1 + 1) = spanTo M zs (j + 1) ++ [(zs.getD (j + 1) 0, zs.getD (j + 1) 0)]) := fun h => spanTo_new M zs (j + 1) (fun h2 => h (by simpa using h2.2))
            have hpos := hll.2 (by omega)
            clear hcell hup hll
            generalize zs.getD (j + 1) 0 = x at *
            generalize zs.getD j 0 = y at *
            generalize upV M y x = u at *
            generalize spanTo M zs (j + 1) = R at *
            by_cases h1 : u = 1
            · subst h1
              have H3 := (show Hid _ from HON.out rfl)
              clear HON HNEW
              obtain ⟨r, rfl, hBr, hrlt, hrc, hcm, hcells, hfr⟩ := hown.at_ hpos
              obtain ⟨L, hL⟩ : ∃ L, R.length = L + 1 := ⟨R.length - 1, by omega⟩
              have hst := hown.store L x (by omega) hx32
              have hlast := (hcells L (by omega)).2
              have hfrl := hfr (L * 2 + 1)
              have HS : Hid (setLast R x = R.set L ((R.getD L (0, 0)).1, x)) := by show _ = _; unfold setLast; rw [hL]; rfl
              have HL := (show Hid _ from hL)
              have hb2 : Below w.heap.size w (wr.setCell ⟨r, L * 2 + 1, none⟩ (.int .u32 (x : Nat))) := hbel.setCell (p := ⟨r, L * 2 + 1, none⟩) hBr _
              rw [hL] at hst hown hrc
              clear hcells hfr
              go_wp2_with (go_at_call 29; refine (hu _).mono ?_; rintro e w' ⟨rfl, hw'⟩; subst w')
              go_roundw
              case rel => exact ⟨j + 1 + 1, some ⟨r, 0, none⟩, c1, by omega, by go_num, by rw [H3.out, setLast_len, HL.out], by rw [H3.out, setLast_len, HL.out, HS.out]; exact hst, hb2⟩
              case measure => simp [intOf]; omega
            · have H3 := (show Hid _ from HNEW.out h1)
              have h1' : ((u : Int) == 1) = false := by simp; omega
              clear HON HNEW
              go_wp2_with (first | (go_at_call 29; refine (hu _).mono ?_; rintro e w' ⟨rfl, hw'⟩; subst w') | (at_builtin; go_must (refine app_listP rfl _ _ rfl w.heap.size a1 R.length c1 R rfl (hown.alloc _) wr.heap.size x x rfl (by simp) (by simp) hx32 hx32 (by omega) (by simp; omega) ?_)))
              intro a2 c2 w2 ho2 hg2
              have hb2 : Below w.heap.size w w2 := (hbel.alloc hsz _).trans ((hown.alloc _).up hg2 (by simp; omega))
              clear hg2 hown
              go_wp2
              go_roundw
              case rel => exact ⟨j + 1 + 1, a2, c2, by omega, by go_num, by rw [H3.out]; simp, by rw [H3.out]; simpa using ho2, hb2⟩
              case measure => simp [intOf]; omega
        · obtain rfl : k = n := by omega
          go_wp2
          go_ret2
          exact ⟨a1, c1, by rw [HE.out, HR.out]; rfl, by rw [HR.out]; exact hown, hbel⟩
  · have HE : Hid (spanE b zs = chkE b zs) := by show _ = _; unfold spanE; rw [if_neg he]
    have HR : Hid (spanR b zs = []) := spanR_no (by rw [HE.out]; exact he)
    rw [mostR_no he] at hck
    have hne : ((chkE b zs : Int) == 0) = false := by simp; omega
    generalize chkE b zs = q at *
    go_enter Try.func13, Try.ntmps13
    go_wp2_with (go_at_call 24; refine hck.mono ?_; rintro e w' ⟨rfl, hw'⟩; subst w')
    go_ret2
    exact ⟨none, 0, by rw [HE.out, HR.out]; rfl, by rw [HR.out]; exact OwnP.nil _ _, Below.refl _ _⟩
end Go.Proofs.Ytpnfghchllipnab
