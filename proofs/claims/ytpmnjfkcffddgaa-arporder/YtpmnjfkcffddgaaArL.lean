/- What law09's live answers: true. -/
import Derived.Test.YtpmnjfkcffddgaaArK
import Derived.Test.YtpmnjfkcffddgaaArB
import Derived.Test.YtpmnjfkcffddgaaEtBkM
import Derived.Test.YtpmnjfkcffddgaaStr
import Derived.Lib.SlBytesConst
namespace Go.Proofs.Ytpmnjfkcffddgaa
open Go.RowKit Go.MapKept Go.Maps
theorem GrowA.bel {kd kd' : Nat → RoleA} {w w' : World} (h : GrowA kd kd' w w') (B : Nat) (hB : B ≤ w.heap.size) (hk : ∀ g, g < B → kd g = .no) : Below B w w' ∧ ∀ g, g < B → kd' g = .no :=
  ⟨⟨h.fr.os, h.fr.tape, h.fr.output, h.fr.size, fun k hk' => h.fr.block k (by omega) (fun e => e (hk k hk'))⟩, fun g hg => h.no g (by omega) (hk g hg)⟩
/-- The first frame of a row of frames. -/
theorem FrsW.at0 {w : World} {kd : Nat → RoleA} {B : Nat} {a : Option Addr} {n c : Nat} {L : List Nat} {fs : List (List Nat)} (h : FrsW w kd B a n c (L :: fs)) : ∃ (g : Nat) (b : Bd), a = some ⟨g, 0, none⟩ ∧ n ≤ c ∧ w.cell? ⟨g, 0, none⟩ = some (.slice b.a b.n b.c) ∧ Sl w b.a b.n b.c L ∧ b.n = L.length := by
  obtain ⟨bs, h1, h2, h3, h4⟩ := h.ex
  cases bs with
  | nil => cases h1
  | cons b bs =>
    simp only [List.map_cons, List.cons.injEq] at h1
    have hl := h2.len
    simp at hl
    obtain ⟨g, rfl, _, _, hnc, _, hcell, _⟩ := OwnG.at_ h2 (fun _ => rfl) (by omega)
    have := hcell 0 b rfl 0 _ rfl
    refine ⟨g, b, rfl, hnc, by simpa using this, by rw [← h1.1]; exact (h4 b List.mem_cons_self).1, ?_⟩
    rw [← h1.1]
    exact ((h4 b List.mem_cons_self).1.len).symm
set_option maxRecDepth 100000 in
set_option maxHeartbeats 4000000 in
theorem live9_any (w : World) :
    Calls Try.prog 13 #[] w fun e w' => e = .returned (.bool true) ∧ Below w.heap.size w w' := by
  have kc := fun (w : World) (C : Array Value) (n c : Nat) => Lib.run_convert_bytes_const (P := Try.prog) w 29 5 C n c Try.underlying29 Try.underlying5
  have hnew := anew_ok 7 1 w (by decide)
  go_enter Try.func13, Try.ntmps13
  go_wp2_with fail
  refine hnew.mono ?_
  rintro e w1 ⟨rfl, hst1, hb1⟩
  have hc1 := CaW.new hst1 (by decide) (by decide)
  obtain ⟨kd0, hkd⟩ : ∃ kd0 : Nat → RoleA, kd0 = fun g => if g = w.heap.size then .cache else .no := ⟨_, rfl⟩
  have hk0 : ∀ g, g < w.heap.size → kd0 g = .no := fun g hg => by rw [hkd]; exact if_neg (by omega)
  have hkn : kd0 w1.heap.size = .no := by rw [hkd]; exact if_neg (by have := hst1.lt; omega)
  rw [← hkd] at hc1
  obtain ⟨w2, hw2⟩ : ∃ w2, w2 = w1.alloc (.cells #[.int .u8 120] 5 (1, 2)) := ⟨_, rfl⟩
  have hb2 : Below w1.heap.size w1 w2 := by rw [hw2]; exact (Below.refl _ _).alloc (Nat.le_refl _) _
  have hs2 : Sl w2 (some ⟨w1.heap.size, 0, none⟩) 1 1 [120] := by rw [hw2]; exact sl_new w1 5 (1, 2) [120] rfl (by decide) _ rfl
  have HSD := (show Hid _ from send_any (hc1.below hb2) (by omega) (by omega) 2 (by decide) hs2 (fun _ b off e => by cases e; exact hkn) 5)
  have HB2 : Hid (Below w.heap.size w w2) := hb1.trans (hb2.mono hb1.size)
  have HK0 := (show Hid _ from hk0)
  clear hnew hst1 hb1 hc1 hkd hk0 hkn hb2 hs2
  go_wp2_with fail
  rw [← hw2]
  clear hw2 kc
  refine Calls.mono HSD.out ?_
  clear HSD
  rintro e w3 ⟨kd1, now1, lost1, D1, er1, fs1, a1, n1, c1, hR, hc3, hg3, rfl, hfs3⟩
  cases hR with
  | bad h => exact absurd (by decide) h
  | full h1 h2 => exact absurd h2 (by decide)
  | known x h1 h2 h3 => cases h2
  | wait x g c b h1 h2 h3 h4 h5 => cases h2
  | ask g7 c7 b7 h1 h2 h3 h5 =>
    obtain ⟨L1, hL1⟩ : ∃ L1, L1 = epV 281474976710655 7 2054 (arpB 1 7 1 0 2) := ⟨_, rfl⟩
    have hl1 : L1.length = 42 := by rw [hL1]; decide +kernel
    rw [← hL1] at hfs3
    obtain ⟨x1, hx1⟩ : ∃ x1, x1 = askX (waitX zeroNb g7 c7 b7) 5 := ⟨_, rfl⟩
    have hD1 : putD (roomD []) 2 (askX (waitX zeroNb g7 c7 b7) 5) = [(2, x1)] := by rw [hx1]; rfl
    rw [hD1] at hc3
    have hw : wsF 7 9 x1 = [epV 9 7 2048 [120]] := by rw [hx1, ← h5]; rfl
    have HTA := (show Hid _ from take_arp hc3 2 9 2 7 1 (by decide) 6)
    have hn1 := hfs3.len
    simp at hn1
    subst hn1
    have HX := (show Hid _ from And.intro hg3 hfs3)
    clear hc3 hg3 hfs3 hx1 hD1 h1 h2 h3 h5 hL1
    go_wp2_with fail
    refine Calls.mono HTA.out ?_
    clear HTA
    rintro e w4 ⟨kd2, now2, D2, er2, fs2, a2, n2, c2, hR, hc4, hg4, rfl, hfs4⟩
    rcases hR with ⟨h1, _⟩ | ⟨h1, rfl, rfl, rfl, rfl⟩
    · exact absurd (by decide) h1
    obtain ⟨hg3, hfs3⟩ := HX.out
    have hD2 : takeD 1 [(2, x1)] 2 9 1 6 = [(2, knX 9 6)] := rfl
    have hF2 : takeF 7 1 [(2, x1)] 2 9 2 1 = [epV 9 7 2048 [120]] := by
      unfold takeF
      rw [if_neg (by simp), List.append_nil]
      exact hw
    rw [hD2] at hc4
    rw [hF2] at hfs4
    have hn2 := hfs4.len
    simp at hn2
    subst hn2
    obtain ⟨g3, b3, rfl, hnc3, k3, s3, l3⟩ := (hfs3.grow hg4).at0
    obtain ⟨g4, b4, rfl, hnc4, k4, s4, l4⟩ := hfs4.at0
    have hl4 : (epV 9 7 2048 [120]).length = 15 := by decide +kernel
    rw [hl1] at l3
    rw [hl4] at l4
    rw [l3] at k3
    have HTK := (show Hid _ from take_any _ _ _ _ w4 s4)
    obtain ⟨t1, t2, t3, t4, t5⟩ := ep_take 9 7 2048 [120] (by decide) (by decide)
    have hbw := hg3.bel w.heap.size HB2.out.size HK0.out
    have hbw2 := hg4.bel w.heap.size (Nat.le_trans HB2.out.size hbw.1.size) hbw.2
    have HX2 := (show Hid _ from And.intro hc4 (And.intro (HB2.out.trans (hbw.1.trans hbw2.1)) (And.intro t1 (And.intro t2 (And.intro t3 (And.intro t4 t5))))))
    clear hc4 hg4 hfs4 hg3 hfs3 hD2 hF2 h1 hl4 hw s3 s4 t1 t2 t3 t4 t5 hbw hbw2 hl1 l3 l4
    go_wp2_with fail
    refine Calls.mono HTK.out ?_
    clear HTK
    rintro e w5 ⟨⟨a5, c5, rfl, hs5⟩, hb5⟩
    obtain ⟨hc4, hbw, t1, t2, t3, t4, t5⟩ := HX2.out
    rw [t5] at hs5 ⊢
    rw [t1, t2, t3, t4]
    replace hs5 : Sl w5 a5 1 c5 [120] := hs5
    have hc5 := hc4.below hb5
    have hbw5 : Below w.heap.size w w5 := hbw.trans (hb5.mono hbw.size)
    clear HX2 hc4 hbw t1 t2 t3 t4 t5 hb5
    obtain ⟨w6, hw6⟩ : ∃ w6, w6 = w5.alloc (.cells #[.int .u64 9, .int .u64 7, .int .u16 2048, .slice a5 1 c5] 51) := ⟨_, rfl⟩
    have hb6 : Below w5.heap.size w5 w6 := by rw [hw6]; exact (Below.refl _ _).alloc (Nat.le_refl _) _
    have hcs := conv_str (hs5.below hb6)
    have HTB := (show Hid _ from table_any (hc5.below hb6))
    have hs0 : (strOf [120]) = { data := #[120] } := by decide
    rw [hs0] at hcs
    have HB6 : Hid (Below w.heap.size w w6) := hbw5.trans (hb6.mono hbw5.size)
    clear hs5 hc5 hbw5 hb6 hs0
    rw [hw6] at hcs
    go_wp2_with fail
    rw [← hw6]
    clear hw6 hcs
    refine Calls.mono HTB.out ?_
    clear HTB
    rintro e w7 ⟨⟨a7, c7, rfl, ho7⟩, hb7⟩
    have HB7 : Hid (Below w.heap.size w w7) := HB6.out.trans (hb7.mono HB6.out.size)
    clear ho7 hb7
    go_wp2
    go_ret
    exact ⟨rfl, HB7.out⟩
end Go.Proofs.Ytpmnjfkcffddgaa
