/- chunk's writer: parameters, laid one behind the other. -/
import Derived.Test.YtifdfkkjmjabnaaDoorWr5
namespace Go.Proofs.YtifdfkkjmjabnaaDoor
open Go.RowKit
/-- A parameter as data. -/
structure Pm where
  k : Nat
  zs : List Nat
/-- A row of parameters, and what they hold. -/
structure PmR (w : World) (a : Option Addr) (n c : Nat) (ps : List Pm) : Prop where
  len : ps.length = n
  cap : n ≤ c
  small : n ≤ 281474976710656
  at_ : n = 0 ∨ ∃ b off, a = some ⟨b, off, none⟩ ∧ b < w.heap.size ∧ ∀ i p, ps[i]? = some p → p.k < 65536 ∧ ∃ va vc, w.cell? ⟨b, off + i * 2, none⟩ = some (.int .u16 (p.k : Nat)) ∧ w.cell? ⟨b, off + i * 2 + 1, none⟩ = some (.slice va p.zs.length vc) ∧ Sl w va p.zs.length vc p.zs
def pmB (p : Pm) : List Nat := bytesB p.k 2 ++ (bytesB (4 + p.zs.length) 2 ++ (p.zs ++ List.replicate (padN p.zs.length) 0))
def pmsB (ps : List Pm) : List Nat := ps.flatMap pmB
theorem padN_lt (n : Nat) : padN n ≤ 3 := by unfold padN; omega
theorem pmB_len (p : Pm) : (pmB p).length = 4 + p.zs.length + padN p.zs.length := by
  unfold pmB
  simp [bytesB_len]
  omega
theorem pmB_four (p : Pm) : (pmB p).length % 4 = 0 := by
  rw [pmB_len]
  unfold padN
  omega
theorem pmsB_four (ps : List Pm) : (pmsB ps).length % 4 = 0 := by
  induction ps with
  | nil => rfl
  | cons p ps ih =>
    have := pmB_four p
    unfold pmsB at ih ⊢
    rw [List.flatMap_cons, List.length_append]
    omega
theorem pmsB_le {M : Nat} (ps : List Pm) (h : ∀ p ∈ ps, p.zs.length ≤ M) : (pmsB ps).length ≤ ps.length * (M + 7) := by
  induction ps with
  | nil => simp [pmsB]
  | cons p ps ih =>
    have h1 := ih (fun q hq => h q (List.mem_cons_of_mem _ hq))
    have h2 := h p List.mem_cons_self
    have h3 := padN_lt p.zs.length
    unfold pmsB at h1 ⊢
    rw [List.flatMap_cons, List.length_append, pmB_len, List.length_cons, Nat.add_mul]
    omega
theorem pms_snoc (ps : List Pm) (i : Nat) (p : Pm) (h : ps[i]? = some p) : pmsB (ps.take (i + 1)) = pmsB (ps.take i) ++ pmB p := by
  unfold pmsB
  rw [List.take_add_one, h, List.flatMap_append]
  simp
theorem zero_pm (w : World) : (zeroValue 61).run Tryd.prog w = .ok (.agg #[.int .u16 0, .slice none 0 0]) w := by kernel_rfl
set_option linter.unusedVariables false in
set_option maxRecDepth 100000 in
set_option maxHeartbeats 8000000 in
theorem wlay_prms {w : World} {q : Nat} {K : Nat → Prop} {zs : List Nat} (h : WrW w q K zs) {a : Option Addr} {n c : Nat} {ps : List Pm} (W0 : World) (hp : PmR W0 a n c ps) (hW : Below W0.heap.size W0 w) (hq : W0.heap.size ≤ q) (hn : n ≤ 16) (hpm : ∀ p ∈ ps, p.zs.length ≤ 2000) (h4 : zs.length % 4 = 0) (hb : zs.length ≤ 1000000) :
    Calls Tryd.prog 99 #[.slice a n c, .pointer (some ⟨q, 0, none⟩)] w (WrP w q K (zs ++ pmsB ps)) := by
  have hcap := hp.cap
  have hlen := hp.len
  have HP := (show Hid _ from And.intro hp (And.intro hW hpm))
  have HU : Hid (WrW w q K (zs ++ pmsB (ps.take 0)) ∧ Fr (fun k => q ≤ k ∧ ¬ K k) w w) := ⟨by rw [List.take_zero]; show WrW w q K (zs ++ []); rw [List.append_nil]; exact h, Fr.refl _ _⟩
  have hz := zero_pm
  clear h hp hW hpm
  go_enter Tryd.func99, Tryd.ntmps99
  go_wp2
  go_loopw [8] (fun u8 wr => ∃ i : Nat, i ≤ n ∧ u8 = .int .i64 (i : Nat) ∧ WrW wr q K (zs ++ pmsB (ps.take i)) ∧ Fr (fun k => q ≤ k ∧ ¬ K k) w wr) (fun u8 _ => n - (intOf u8).toNat)
  case atStart => exact ⟨0, by omega, rfl, HU.out⟩
  case round =>
    obtain ⟨i, hin, rfl, hw, hfr⟩ := hrel
    have HW := (show Hid _ from And.intro hw hfr)
    clear hw hfr HU
    by_cases hlt : i < n
    · have hlt1 : (i : Int) < (n : Int) := by omega
      obtain ⟨p, hpi⟩ : ∃ p, ps[i]? = some p := ⟨_, List.getElem?_eq_getElem (by omega)⟩
      obtain ⟨b, off, hab, hbl, hrow⟩ : ∃ b off, a = some ⟨b, off, none⟩ ∧ b < W0.heap.size ∧ ∀ i p, ps[i]? = some p → p.k < 65536 ∧ ∃ va vc, W0.cell? ⟨b, off + i * 2, none⟩ = some (.int .u16 (p.k : Nat)) ∧ W0.cell? ⟨b, off + i * 2 + 1, none⟩ = some (.slice va p.zs.length vc) ∧ Sl W0 va p.zs.length vc p.zs := by
        rcases HP.out.1.at_ with e | e
        · omega
        · exact e
      subst hab
      obtain ⟨hkb, va, vc, c0, c1, hsl⟩ := hrow i p hpi
      have hbW : Below W0.heap.size W0 wr := HP.out.2.1.trans (HW.out.2.below _ HP.out.2.1.size (fun k hk => by omega))
      replace c0 := (hbW.cell (p := ⟨b, off + i * 2, none⟩) hbl).trans c0
      replace c1 := (hbW.cell (p := ⟨b, off + i * 2 + 1, none⟩) hbl).trans c1
      have hzl := HP.out.2.2 p (List.mem_of_getElem? hpi)
      have hpl : (pmsB (ps.take i)).length ≤ 16 * 2007 := Nat.le_trans (pmsB_le (M := 2000) (ps.take i) (fun p hp => HP.out.2.2 p (List.mem_of_mem_take hp))) (by rw [List.length_take]; exact Nat.mul_le_mul_right _ (by omega))
      have hp4 := pmsB_four (ps.take i)
      have HSN := (show Hid _ from pms_snoc ps i p hpi)
      have HSL := (show Hid _ from hsl)
      have HBW := (show Hid _ from hbW)
      obtain ⟨pk, pz⟩ := p
      dsimp only at hkb c0 c1 hsl hzl HSN HSL
      obtain ⟨m, hm⟩ : ∃ m, m = pz.length := ⟨_, rfl⟩
      rw [← hm] at c1 hzl HSL
      have HM := (show Hid _ from hm)
      obtain ⟨yy, hyy⟩ : ∃ yy, yy = zs ++ pmsB (ps.take i) := ⟨_, rfl⟩
      have hyl : yy.length ≤ 1100000 := by rw [hyy, List.length_append]; omega
      have hy4 : yy.length % 4 = 0 := by rw [hyy, List.length_append]; omega
      have HYY := (show Hid _ from hyy)
      have hwy := HW.out.1
      rw [← hyy] at hwy
      obtain ⟨W2, hW2⟩ : ∃ W2, W2 = wr.alloc (.cells #[.int .u16 (pk : Nat), .slice va m vc] 61) := ⟨_, rfl⟩
      have b2 : Below wr.heap.size wr W2 := by rw [hW2]; exact (Below.refl _ _).alloc (Nat.le_refl _) _
      have s2 := Stc.new wr [.int .u16 (pk : Nat), .slice va m vc] 61 W2 hW2
      have HS := (show Hid _ from hwy.start b2 s2 (Nat.le_refl _))
      have HN := (show Hid _ from whalf_any HS.out.wr pk hkb (by omega))
      clear hm hyy hwy b2 s2 hsl hbW hpl hp4 hrow hpi
      go_wp2_with fail
      rw [← hW2]
      clear hW2 c0 c1
      refine Calls.mono HN.out ?_
      clear HN
      rintro e v1 hP
      have he := hP.out
      subst he
      have HS1 := (show Hid _ from HS.out.next hP)
      clear hP HS
      have k1 := HS1.out.st.cell 1 _ rfl
      have HN := (show Hid _ from whalf_any HS1.out.wr (4 + m) (by omega) (by rw [List.length_append, bytesB_len]; omega))
      rw [show ((4 + m : Nat) : Int) = 4 + (m : Int) from by omega] at HN
      have hw4 : IntKind.u16.wrap (4 + (m : Int)) = 4 + (m : Int) := by rw [IntKind.wrap_u16]; omega
      go_wp2_with fail
      refine Calls.mono HN.out ?_
      clear HN k1 hw4
      rintro e v2 hP
      have he := hP.out
      subst he
      have HS2 := (show Hid _ from HS1.out.next hP)
      clear hP HS1
      have k1 := HS2.out.st.cell 1 _ rfl
      have HN := (show Hid _ from wraw_any HS2.out.wr (HSL.out.below (HBW.out.trans (HS2.out.fr.below _ HBW.out.size (fun k hk => by omega)))) (by rw [List.length_append, List.length_append, bytesB_len, bytesB_len]; omega))
      go_wp2_with fail
      refine Calls.mono HN.out ?_
      clear HN k1
      rintro e v3 hP
      have he := hP.out
      subst he
      have HS3 := (show Hid _ from HS2.out.next hP)
      clear hP HS2
      have hl3 : (((yy ++ bytesB pk 2) ++ bytesB (4 + m) 2) ++ pz).length = yy.length + 4 + m := by
        rw [List.length_append, List.length_append, List.length_append, bytesB_len, bytesB_len, ← HM.out]
      have HN := (show Hid _ from wpad_any HS3.out.wr (by omega))
      have hp0 : padN (((yy ++ bytesB pk 2) ++ bytesB (4 + m) 2) ++ pz).length = padN m := by rw [hl3]; unfold padN; omega
      rw [hp0] at HN
      clear hl3 hp0
      go_wp2_with fail
      refine Calls.mono HN.out ?_
      clear HN
      rintro e v4 hP
      have he := hP.out
      subst he
      have hS4 := HS3.out.next hP
      have e4 : ((((yy ++ bytesB pk 2) ++ bytesB (4 + m) 2) ++ pz) ++ List.replicate (padN m) 0) = zs ++ pmsB (ps.take (i + 1)) := by
        rw [HSN.out, HYY.out]
        unfold pmB
        dsimp only
        rw [← HM.out]
        simp only [List.append_assoc]
      rw [e4] at hS4
      have HF : Hid (WrW v4 q K (zs ++ pmsB (ps.take (i + 1))) ∧ Fr (fun k => q ≤ k ∧ ¬ K k) w v4) := ⟨hS4.wr.sub (fun _ hg => .inl hg), HW.out.2.trans hS4.fr⟩
      clear hP HS3 hS4 e4
      go_wp2
      go_roundw
      case rel => exact ⟨i + 1, by omega, by go_num, HF.out⟩
      case measure => simp [intOf]; omega
    · have hlt1 : ¬ (i : Int) < (n : Int) := by omega
      have HF : Hid (WrP w q K (zs ++ pmsB ps) (.returned (.tuple #[])) wr) := by
        have e : ps.take i = ps := List.take_of_length_le (by omega)
        have := HW.out.1
        rw [e] at this
        exact ⟨rfl, this, HW.out.2⟩
      clear HW
      go_wp2
      go_end0
      exact HF.out
end Go.Proofs.YtifdfkkjmjabnaaDoor
