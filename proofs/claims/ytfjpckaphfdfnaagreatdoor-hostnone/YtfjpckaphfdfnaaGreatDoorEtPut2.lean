/- What ether.Put answers. -/
import Derived.Test.YtfjpckaphfdfnaaGreatDoorEtPut
import Derived.Deep.RegionHeld3
import Derived.Deep.RegionHeld3
namespace Go.Proofs.YtfjpckaphfdfnaaGreatDoor
open Go.RowKit
def epE (t f k n : Nat) : Nat := if 281474976710656 ≤ t ∨ 281474976710656 ≤ f ∨ k < 1536 then 2 else if 1500 < n then 6 else 0
def epV (t f k : Nat) (zs : List Nat) : List Nat := if epE t f k zs.length = 0 then bytesB t 6 ++ (bytesB f 6 ++ (bytesB k 2 ++ zs)) else []
/-- A row and an error are answered. -/
structure RowE (w : World) (L : List Nat) (er : Nat) (e : Ending) (w' : World) : Prop where
  row : ∃ a c, e = .returned (.tuple #[.slice a L.length c, .int .i64 (er : Nat)]) ∧ OwnB w' w.heap.size a L.length c L
  bel : Below w.heap.size w w'
theorem ly_new (B q : Nat) (xs : List Value) (W W2 W3 : World) (po : Nat) (T1 T2 : TypeId) (hpo : po = W.heap.size) (hB : B ≤ W.heap.size) (hX : Stc W q xs) (hW2 : W2 = W.alloc (.cells #[.slice none 0 0] T1)) (V : World) (bd : Below W2.heap.size W2 V) (e3 : V.heap.size = W2.heap.size) (hd : W3 = V.alloc (.cells #[.pointer (some ⟨po, 0, none⟩)] T2)) :
    LyS B W2.heap.size po none [] W3 ∧ Stc W3 q xs ∧ Below W.heap.size W W3 := by
  subst hd
  have hz2 : W2.heap.size = W.heap.size + 1 := by rw [hW2]; simp
  have b2 : Below W.heap.size W W2 := by rw [hW2]; exact (Below.refl _ _).alloc (Nat.le_refl _) _
  have b3 : Below W2.heap.size W2 (V.alloc (.cells #[.pointer (some ⟨po, 0, none⟩)] T2)) := bd.alloc (by omega) _
  have b : Below W.heap.size W (V.alloc (.cells #[.pointer (some ⟨po, 0, none⟩)] T2)) := b2.trans (b3.mono b2.size)
  have s2 := (Stc.new W [.slice none 0 0] T1 W2 hW2).below b3
  have s3 := Stc.new V [.pointer (some ⟨po, 0, none⟩)] T2 _ rfl
  rw [e3] at s3
  rw [← hpo] at s2
  refine ⟨⟨by omega, Nat.le_trans hB b.size, s3.lt, s2.lt, by simp, by simp, s3.cell 0 _ rfl, ⟨none, 0, s2.cell 0 _ rfl, OwnB.nil _ _, rfl⟩, s2.free 0⟩, hX.below b, b⟩
set_option maxRecDepth 100000 in
set_option maxHeartbeats 2000000 in
theorem put_any (t f k : Nat) (a : Option Addr) (n c : Nat) (zs : List Nat) (w : World) (ht : t < 18446744073709551616) (hf : f < 18446744073709551616) (hk : k < 65536) (hs : Sl w a n c zs) :
    Calls Tryz.prog 214 #[.agg #[.int .u64 (t : Nat), .int .u64 (f : Nat), .int .u16 (k : Nat), .slice a n c]] w fun e w' => RowE w (epV t f k zs) (epE t f k n) e w' := by
  have hl := hs.len
  have hct := fun W => isCard_any t W ht
  have hcf := fun W => isCard_any f W hf
  have hbW : Below w.heap.size w (w.alloc (.cells #[.int .u64 (t : Nat), .int .u64 (f : Nat), .int .u16 (k : Nat), .slice a n c] 238)) := (Below.refl _ _).alloc (Nat.le_refl _) _
  by_cases h1 : t < 281474976710656
  · rw [decide_eq_true h1] at hct
    by_cases h2 : f < 281474976710656
    · rw [decide_eq_true h2] at hcf
      by_cases h3 : k < 1536
      · have hk3 : (k : Int) < 1536 := by omega
        have HE : Hid (epE t f k n = 2) := by show _ = _; unfold epE; rw [if_pos (by omega)]
        have HV : Hid (epV t f k zs = []) := by show _ = _; unfold epV; rw [hl, HE.out]; rfl
        go_enter Tryz.func214, Tryz.ntmps214
        go_wp2_with fail
        refine (hct _).mono ?_
        rintro e w' ⟨rfl, hw'⟩
        subst w'
        go_wp2_with fail
        refine (hcf _).mono ?_
        rintro e w' ⟨rfl, hw'⟩
        subst w'
        go_wp2
        go_ret2
        rw [HE.out, HV.out]
        exact ⟨⟨none, 0, rfl, OwnB.nil _ _⟩, hbW⟩
      · by_cases h4 : 1500 < n
        · have hk3 : ¬ (k : Int) < 1536 := by omega
          have hk4 : (1500 : Int) < n := by omega
          have HE : Hid (epE t f k n = 6) := by show _ = _; unfold epE; rw [if_neg (by omega), if_pos h4]
          have HV : Hid (epV t f k zs = []) := by show _ = _; unfold epV; rw [hl, HE.out]; rfl
          go_enter Tryz.func214, Tryz.ntmps214
          go_wp2_with fail
          refine (hct _).mono ?_
          rintro e w' ⟨rfl, hw'⟩
          subst w'
          go_wp2_with fail
          refine (hcf _).mono ?_
          rintro e w' ⟨rfl, hw'⟩
          subst w'
          go_wp2
          go_ret2
          rw [HE.out, HV.out]
          exact ⟨⟨none, 0, rfl, OwnB.nil _ _⟩, hbW⟩
        · have hk3 : ¬ (k : Int) < 1536 := by omega
          have hk4 : ¬ (1500 : Int) < n := by omega
          have HE : Hid (epE t f k n = 0) := by show _ = _; unfold epE; rw [if_neg (by omega), if_neg (by omega)]
          have HV : Hid (epV t f k zs = ((([] ++ bytesB t 6) ++ bytesB f 6) ++ bytesB k 2) ++ zs) := by show _ = _; unfold epV; rw [hl, HE.out]; simp
          obtain ⟨W, hW⟩ : ∃ W, W = w.alloc (.cells #[.int .u64 (t : Nat), .int .u64 (f : Nat), .int .u16 (k : Nat), .slice a n c] 238) := ⟨_, rfl⟩
          have hX := Stc.new w [.int .u64 (t : Nat), .int .u64 (f : Nat), .int .u16 (k : Nat), .slice a n c] 238 W hW
          rw [← hW] at hbW
          have hzW : W.heap.size = w.heap.size + 1 := by rw [hW]; simp
          have hsW := hs.below hbW
          have HZW := (show Hid _ from hzW)
          have x0 := hX.cell 0 _ rfl
          have x1 := hX.cell 1 _ rfl
          have x2 := hX.cell 2 _ rfl
          have x3 := hX.cell 3 _ rfl
          have hm := hmf
          go_enter Tryz.func214, Tryz.ntmps214
          go_wp2_with fail
          rw [← hW]
          clear hW hzW
          refine (hct _).mono ?_
          rintro e w' ⟨rfl, hw'⟩
          subst w'
          go_wp2_with fail
          refine (hcf _).mono ?_
          rintro e w' ⟨rfl, hw'⟩
          subst w'
          obtain ⟨W2, hW2⟩ : ∃ W2, W2 = W.alloc (.cells #[.slice none 0 0] 24) := ⟨_, rfl⟩
          have hXd := (hX.below (show Below W.heap.size W W2 from by rw [hW2]; exact (Below.refl _ _).alloc (Nat.le_refl _) _)).below (Below.refl _ _).drew
          have y0 := hXd.cell 0 _ rfl
          have y1 := hXd.cell 1 _ rfl
          have y2 := hXd.cell 2 _ rfl
          have y3 := hXd.cell 3 _ rfl
          go_wp2_with fail
          rw [← hW2]
          have HW2 := (show Hid _ from hW2)
          have HS0 := (show Hid _ from hs)
          clear x0 x1 x2 x3 hct hcf hs hW2
          go_region_held3 (fun w' => w'.cell? ⟨w.heap.size, 0, none⟩ = some (.int .u64 (t : Nat)) ∧ w'.cell? ⟨w.heap.size, 1, none⟩ = some (.int .u64 (f : Nat)) ∧ w'.cell? ⟨w.heap.size, 2, none⟩ = some (.int .u16 (k : Nat)) ∧ w'.cell? ⟨w.heap.size, 3, none⟩ = some (.slice a n c)) (first | exact ⟨hXd.cell 0 _ rfl, hXd.cell 1 _ rfl, hXd.cell 2 _ rfl, hXd.cell 3 _ rfl⟩ | exact ⟨hXe.cell 0 _ rfl, hXe.cell 1 _ rfl, hXe.cell 2 _ rfl, hXe.cell 3 _ rfl⟩ | exact ⟨hXl.cell 0 _ rfl, hXl.cell 1 _ rfl, hXl.cell 2 _ rfl, hXl.cell 3 _ rfl⟩ | go_keep) (first
            | (go_at_call 213; refine (laying_any W.heap.size _).mono ?_; rintro e wl ⟨rfl, hwl⟩; obtain ⟨hLS, hXl, hbl⟩ := ly_new w.heap.size w.heap.size _ W W2 wl W.heap.size 24 341 rfl (by have := HZW.out; omega) hX HW2.out _ (Below.refl _ _).drew rfl hwl; clear hwl)
            | (go_at_call 150; refine (eachHead_lay w.heap.size _ W.heap.size none [] t f k a n c wl hLS h1 h2 hk (by simp)).mono ?_; rintro e we ⟨⟨ve, rfl⟩, ⟨ge, hSe, hge⟩, hfe⟩; have hXe := hXl.fr hfe (by have := HZW.out; simp; omega))
            | fail)
          all_goals
            have hwW := HZW.out
            have hbe : Below w.heap.size w we := (hbW.trans (hbl.mono hbW.size)).trans (hfe.below w.heap.size (hbW.trans (hbl.mono hbW.size)).size (fun k e => e.elim (fun e => by omega) (fun e => by cases e)))
            have hsE := HS0.out.below hbe
            obtain ⟨a5, c5, hrow, hown, _⟩ := hSe.row
            have e3 := hXe.cell 3 _ rfl
            have hze := hSe.Bw
            obtain ⟨L, hL⟩ : ∃ L, L = (([] ++ bytesB t 6) ++ bytesB f 6) ++ bytesB k 2 := ⟨_, rfl⟩
            rw [← hL] at hrow hown HV
            have hLl : L.length = 14 := by rw [hL]; simp [bytesB_len]
            have HLl := (show Hid _ from hLl)
            rw [hLl] at hrow hown
            clear hL hLl hSe hfe hXe hXl hLS hXd y0 y1 y2 y3 hwW hbl hbW hsW
            go_wp2_with (at_builtin; go_must (refine app_list rfl _ _ rfl w.heap.size a5 14 c5 L rfl hown _ n c zs rfl hsE (by omega) hze ?_))
            intro a6 c6 w6 ho6 hg6
            have hb6 : Below w.heap.size w w6 := hbe.trans (hown.up hg6 hze)
            have HLL : Hid ((epV t f k zs).length = 14 + n) := by show _ = _; rw [HV.out]; exact ho6.len
            go_wp2
            go_ret2
            exact ⟨⟨a6, c6, by rw [HLL.out, HE.out]; rfl, by rw [HLL.out, HV.out]; exact ho6⟩, hb6⟩
    · rw [decide_eq_false h2] at hcf
      have HE : Hid (epE t f k n = 2) := by show _ = _; unfold epE; rw [if_pos (by omega)]
      have HV : Hid (epV t f k zs = []) := by show _ = _; unfold epV; rw [hl, HE.out]; rfl
      go_enter Tryz.func214, Tryz.ntmps214
      go_wp2_with fail
      refine (hct _).mono ?_
      rintro e w' ⟨rfl, hw'⟩
      subst w'
      go_wp2_with fail
      refine (hcf _).mono ?_
      rintro e w' ⟨rfl, hw'⟩
      subst w'
      go_wp2
      go_ret2
      rw [HE.out, HV.out]
      exact ⟨⟨none, 0, rfl, OwnB.nil _ _⟩, hbW⟩
  · rw [decide_eq_false h1] at hct
    have HE : Hid (epE t f k n = 2) := by show _ = _; unfold epE; rw [if_pos (by omega)]
    have HV : Hid (epV t f k zs = []) := by show _ = _; unfold epV; rw [hl, HE.out]; rfl
    go_enter Tryz.func214, Tryz.ntmps214
    go_wp2_with fail
    refine (hct _).mono ?_
    rintro e w' ⟨rfl, hw'⟩
    subst w'
    go_wp2
    go_ret2
    rw [HE.out, HV.out]
    exact ⟨⟨none, 0, rfl, OwnB.nil _ _⟩, hbW⟩
end Go.Proofs.YtfjpckaphfdfnaaGreatDoor
