/- law13.live: what must be whatever is asked. -/
import Derived.Test.YtjaheelgcjafcabSfX
import Derived.Test.YtjaheelgcjafcabStr
import Derived.Lib.SlBytesConst
namespace Go.Proofs.Ytjaheelgcjafcab
open Go.RowKit Go.MapKept Go.Maps
def dataC (f t st ss pp : Nat) (a : Option Addr) (n c : Nat) (zs : List Nat) : Ck := ⟨0, f, t, st, ss, pp, 0, 0, 0, 0, none, 0, 0, none, 0, 0, none, 0, 0, a, n, c, [], zs⟩
theorem dataC_W {w : World} {f t st ss pp : Nat} {a : Option Addr} {n c : Nat} {zs : List Nat} (hf : f < 256) (ht : t < 4294967296) (hst : st < 65536) (hss : ss < 65536) (hpp : pp < 4294967296) (hs : Sl w a n c zs) : CkW w (dataC f t st ss pp a n c zs) :=
  ⟨⟨by show 0 < 256; decide, hf, ht, hst, hss, hpp, Nat.zero_le _, Nat.zero_le _⟩, ⟨rfl, Nat.zero_le _, fun l hl => (by cases hl), .inl rfl⟩, hs⟩
theorem dataC_ok {f t st ss pp : Nat} {a : Option Addr} {n c : Nat} {zs : List Nat} (h0 : 0 < n) (h1 : n ≤ 1000) : chkOf (dataC f t st ss pp a n c zs) = 0 := by
  have hp : padN (12 + n) ≤ 3 := by unfold padN; omega
  unfold chkOf dataC chkN
  dsimp only
  rw [if_pos rfl]
  have e1 : decide (n = 0) = false := decide_eq_false (by omega)
  have e2 : decide (1468 < 4 + (12 + n) + padN (12 + n)) = false := decide_eq_false (by omega)
  rw [e1, e2]
  rfl
/-- One message told: where it lies. -/
theorem MsgsW.get1 {w : World} {B : Nat} {a : Option Addr} {n c : Nat} {m : Mg} (h : MsgsW w B a n c [m]) (hz : m.zs.length ≤ 281474976710656) : ∃ g ma mc, a = some ⟨g, 0, none⟩ ∧ n = 1 ∧ 1 ≤ c ∧ w.cell? ⟨g, 0, none⟩ = some (.int .u16 (m.st : Nat)) ∧ w.cell? ⟨g, 2, none⟩ = some (.int .u32 (m.pp : Nat)) ∧ w.cell? ⟨g, 4, none⟩ = some (.slice ma m.zs.length mc) ∧ Sl w ma m.zs.length mc m.zs := by
  have hn := h.len
  obtain ⟨xs, h1, h2, h3⟩ := h.ex
  match xs, h1 with
  | [x], h1 =>
    simp at h1
    subst h1
    obtain rfl : n = 1 := hn
    obtain ⟨g, rfl, _, _, hc, _, hcell, _⟩ := OwnG.at_ h2 (fun _ => rfl) (by omega)
    have hm := h3 x List.mem_cons_self
    refine ⟨g, x.2.1, x.2.2, rfl, rfl, hc, by simpa using hcell 0 x rfl 0 _ rfl, by simpa using hcell 0 x rfl 2 _ rfl, by simpa using hcell 0 x rfl 4 _ rfl, hm.sl hz⟩
set_option maxRecDepth 100000 in
set_option maxHeartbeats 4000000 in
theorem live13_any (w : World) :
    Calls Try.prog 7 #[] w fun e w' => e = .returned (.bool true) ∧ Below w.heap.size w w' := by
  have kc := fun (w : World) (C : Array Value) (n c : Nat) => Lib.run_convert_bytes_const (P := Try.prog) w 27 5 C n c Try.underlying27 Try.underlying5
  have hnew := snew_ok 2 w (by decide) (by decide)
  go_enter Try.func7, Try.ntmps7
  go_wp2_with fail
  refine Calls.mono hnew ?_
  rintro e w1 ⟨rfl, hw1⟩
  have hsm1 := SmW.new 2 (by decide) (by decide) hw1
  have hb1 : Below w.heap.size w w1 := by rw [hw1]; exact (((((Below.refl _ _).alloc (Nat.le_refl _) _).alloc (by simp) _).alloc (by simp; omega) _).alloc (by simp; omega) _)
  clear hw1 hnew
  obtain ⟨w2, hw2⟩ : ∃ w2, w2 = w1.alloc (.cells #[.int .u8 98] 5 (1, 2)) := ⟨_, rfl⟩
  have hb2 : Below w1.heap.size w1 w2 := by rw [hw2]; exact (Below.refl _ _).alloc (Nat.le_refl _) _
  have hs2 : Sl w2 (some ⟨w1.heap.size, 0, none⟩) 1 1 [98] := by rw [hw2]; exact sl_new w1 5 (1, 2) [98] rfl (by decide) _ rfl
  have HAD := (show Hid _ from fun v hv => sadd_ck (hsm1.below hb2) (dataC 1 2 1 0 0 (some ⟨w1.heap.size, 0, none⟩) 1 1 [98]) (dataC_W (by decide) (by decide) (by decide) (by decide) (by decide) hs2) v hv)
  have HB2 : Hid (Below w.heap.size w w2) := hb1.trans (hb2.mono hb1.size)
  clear hsm1 hb1 hb2 hs2
  go_wp2_with fail
  rw [← hw2]
  clear hw2
  refine (HAD.out _ (by rfl)).mono ?_
  clear HAD
  rintro e w3 hR
  rw [dataC_ok (by decide) (by decide)] at hR
  cases hR with
  | bad hz _ _ => exact absurd rfl hz
  | ok da dc a m c B wr' Y' hz he hms hsm hfr hB hY =>
    subst he
    have e1 : SmS.add ⟨List.replicate 2 0, [], []⟩ 2 ⟨1, 1, 0, 0, da, 1, dc, [98]⟩ = (⟨[0, 0], [(2, ⟨1, 1, 0, 0, da, 1, dc, [98]⟩)], []⟩, []) := by kernel_rfl
    have hms1 : MsgsW w3 B a m c (SmS.add ⟨List.replicate 2 0, [], []⟩ 2 ⟨1, 1, 0, 0, da, 1, dc, [98]⟩).2 := hms
    have hsm3 : SmW w3 (w.heap.size + 3) w.heap.size (w.heap.size + 1) (w.heap.size + 2) wr' Y' (SmS.add ⟨List.replicate 2 0, [], []⟩ 2 ⟨1, 1, 0, 0, da, 1, dc, [98]⟩).1 := hsm
    rw [e1] at hms1 hsm3
    obtain rfl : m = 0 := hms1.len
    have hb3 : Below w.heap.size w w3 := HB2.out.trans (hfr.below _ HB2.out.size (fun k hk => by rcases hk with e | e | e <;> omega))
    clear hms hms1 hsm hfr hz hB hY HB2
    obtain ⟨w4, hw4⟩ : ∃ w4, w4 = w3.alloc (.cells #[.int .u8 97] 5 (1, 2)) := ⟨_, rfl⟩
    have hb4 : Below w3.heap.size w3 w4 := by rw [hw4]; exact (Below.refl _ _).alloc (Nat.le_refl _) _
    have hs4 : Sl w4 (some ⟨w3.heap.size, 0, none⟩) 1 1 [97] := by rw [hw4]; exact sl_new w3 5 (1, 2) [97] rfl (by decide) _ rfl
    have HAD := (show Hid _ from fun v hv => sadd_ck (hsm3.below hb4) (dataC 2 1 1 0 7 (some ⟨w3.heap.size, 0, none⟩) 1 1 [97]) (dataC_W (by decide) (by decide) (by decide) (by decide) (by decide) hs4) v hv)
    have HB4 : Hid (Below w.heap.size w w4) := hb3.trans (hb4.mono hb3.size)
    clear hsm3 hb3 hb4 hs4
    go_wp2_with fail
    rw [← hw4]
    clear hw4 kc
    refine (HAD.out _ (by rfl)).mono ?_
    clear HAD
    rintro e w5 hR
    rw [dataC_ok (by decide) (by decide)] at hR
    cases hR with
    | bad hz _ _ => exact absurd rfl hz
    | ok da2 dc2 a2 m2 c2 B2 wr2 Y2 hz he hms hsm hfr hB hY =>
      subst he
      have e2 : SmS.add ⟨[0, 0], [(2, ⟨1, 1, 0, 0, da, 1, dc, [98]⟩)], []⟩ 1 ⟨2, 1, 0, 7, da2, 1, dc2, [97]⟩ = (⟨[0, 1], [], []⟩, [⟨1, 0, 7, false, [97, 98]⟩]) := by kernel_rfl
      have hms1 : MsgsW w5 B2 a2 m2 c2 (SmS.add ⟨[0, 0], [(2, ⟨1, 1, 0, 0, da, 1, dc, [98]⟩)], []⟩ 1 ⟨2, 1, 0, 7, da2, 1, dc2, [97]⟩).2 := hms
      have hsm5 : SmW w5 (w.heap.size + 3) w.heap.size (w.heap.size + 1) (w.heap.size + 2) wr2 Y2 (SmS.add ⟨[0, 0], [(2, ⟨1, 1, 0, 0, da, 1, dc, [98]⟩)], []⟩ 1 ⟨2, 1, 0, 7, da2, 1, dc2, [97]⟩).1 := hsm
      rw [e2] at hms1 hsm5
      have hb5 : Below w.heap.size w w5 := HB4.out.trans (hfr.below _ HB4.out.size (fun k hk => by rcases hk with e | e | e <;> omega))
      obtain ⟨g, ma, mc, rfl, rfl, hc1, q0, q2, q4, hsl⟩ := hms1.get1 (by decide)
      have hnx := snext_any hsm5 1
      rw [if_pos (by decide)] at hnx
      have HNX := (show Hid _ from hnx)
      have HQ : Hid (∀ V, Below w5.heap.size w5 V → V.cell? ⟨g, 2, none⟩ = some (.int .u32 7) ∧ V.cell? ⟨g, 4, none⟩ = some (.slice ma 2 mc) ∧ Sl V ma 2 mc [97, 98] ∧ Below w.heap.size w V) := fun V hV => by
        have hgl : g < w5.heap.size := by
          have := q0
          simp only [World.cell?] at this
          rcases Nat.lt_or_ge g w5.heap.size with h9 | h9
          · exact h9
          · simp [h9] at this
        exact ⟨(hV.cell (p := ⟨g, 2, none⟩) hgl).trans q2, (hV.cell (p := ⟨g, 4, none⟩) hgl).trans q4, hsl.below hV, hb5.trans (hV.mono hb5.size)⟩
      clear hms hms1 hsm hfr hz hB hY hsm5 hb5 q0 q2 q4 hsl hnx HB4
      go_wp2_with fail
      refine Calls.mono HNX.out ?_
      rintro e w6 ⟨rfl, hb6⟩
      obtain ⟨q2, q4, hsl, hbf⟩ := HQ.out w6 hb6
      have hcs := conv_str hsl
      have hs0 : (strOf [97, 98]) = { data := #[97, 98] } := by decide
      rw [hs0] at hcs
      have HBF := (show Hid _ from hbf)
      clear HQ HNX hb6 hsl hbf hs0
      dsimp only
      go_wp2
      go_ret
      exact ⟨rfl, HBF.out⟩
end Go.Proofs.Ytjaheelgcjafcab
