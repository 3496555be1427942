/- law13.live: what must be whatever is asked. -/
import Derived.Test.YtjaheelgcjafcaaLC
import Derived.Test.YtjaheelgcjafcaaKL
import Derived.Test.YtjaheelgcjafcaaKM
import Derived.Lib.SlBytesConst
namespace Go.Proofs.Ytjaheelgcjafcaa
open Go.RowKit Go.MapKept Go.Maps
def nextP (nx : List Nat) (n : Int) : Nat × Int := if 0 ≤ n ∧ n < nx.length then (nx.getD n.toNat 0, 0) else (0, 14)
theorem nextP_eq (nx : List Nat) (n : Int) : (if 0 ≤ n ∧ n < nx.length then Value.tuple #[.int .u16 (nx.getD n.toNat 0 : Nat), .int .i64 0] else .tuple #[.int .u16 0, .int .i64 14]) = .tuple #[.int .u16 ((nextP nx n).1 : Nat), .int .i64 (nextP nx n).2] := by
  unfold nextP
  split <;> rfl
set_option maxRecDepth 100000 in
set_option maxHeartbeats 4000000 in
theorem same_any {W0 w : World} {px nb mb wb py : Nat} (h : BoS W0 w px nb mb wb py) :
    Calls Try.prog 20 #[.pointer (some ⟨px, 0, none⟩), .pointer (some ⟨py, 0, none⟩)] w fun e w' => e = .returned (.bool true) ∧ Below w.heap.size w w' := by
  obtain ⟨s, wr0, Y, r, E, V, Z, h1, h2, h3, h4, h5⟩ := h.ex
  have HX : Hid (∀ W (n : Int), Below w.heap.size w W → Calls Try.prog 22 #[.pointer (some ⟨px, 0, none⟩), .int .i64 n] W fun e w' => e = .returned (.tuple #[.int .u16 ((nextP s.nx n).1 : Nat), .int .i64 (nextP s.nx n).2]) ∧ Below W.heap.size W w') := fun W n hW => by
    rw [← nextP_eq]
    refine (snext_any (h1.below hW) n).mono ?_
    rintro e w' ⟨he, hb⟩
    refine ⟨?_, hb⟩
    rw [he]
  have HY : Hid (∀ W (n : Int), Below w.heap.size w W → Calls Try.prog 35 #[.pointer (some ⟨py, 0, none⟩), .int .i64 n] W fun e w' => e = .returned (.tuple #[.int .u16 ((nextP s.nx n).1 : Nat), .int .i64 (nextP s.nx n).2]) ∧ Below W.heap.size W w') := fun W n hW => by
    rw [← nextP_eq]
    exact rnext_any (h2.below hW) n
  obtain ⟨hn, hhn⟩ : ∃ n, n = s.heldN := ⟨_, rfl⟩
  obtain ⟨hb, hhb⟩ : ∃ n, n = s.heldB := ⟨_, rfl⟩
  have HHX : Hid (∀ W, Below w.heap.size w W → Calls Try.prog 16 #[.pointer (some ⟨px, 0, none⟩)] W fun e w' => e = .returned (.tuple #[.int .i64 (hn : Nat), .int .i64 (hb : Nat)]) ∧ Below W.heap.size W w') := fun W hW => by
    rw [hhn, hhb]
    exact held_any (h1.below hW)
  have HHY : Hid (∀ W, Below w.heap.size w W → Calls Try.prog 36 #[.pointer (some ⟨py, 0, none⟩)] W fun e w' => e = .returned (.tuple #[.int .i64 (hn : Nat), .int .i64 (hb : Nat)]) ∧ Below W.heap.size W w') := fun W hW => by
    rw [hhn, hhb, h3.heldN, h3.heldB h2.ok]
    exact rHeld_any (h2.below hW)
  clear h h1 h2 h3 h4 h5 hhn hhb
  go_enter Try.func20, Try.ntmps20
  go_wp2_with fail
  go_loopw [5] (fun iv wr => ∃ i : Nat, i ≤ 10 ∧ iv = .int .i64 ((i : Int) - 1) ∧ Below w.heap.size w wr) (fun iv _ => 10 - (intOf iv + 1).toNat)
  case atStart => exact ⟨0, by omega, rfl, Below.refl _ _⟩
  case round =>
    obtain ⟨i, hi, rfl, hbw⟩ := hrel
    obtain ⟨q, hq⟩ : ∃ q : Int, q = (i : Int) - 1 := ⟨_, rfl⟩
    rw [← hq]
    have HB := (show Hid _ from And.intro hbw hq)
    by_cases hlt : i < 10
    · have g1 : q ≤ 8 := by omega
      have g2 : -1 ≤ q := by omega
      obtain ⟨v, hv⟩ : ∃ v, v = (nextP s.nx q).1 := ⟨_, rfl⟩
      obtain ⟨er, her⟩ : ∃ v, v = (nextP s.nx q).2 := ⟨_, rfl⟩
      have HN1 := HX.out wr q hbw
      rw [← hv, ← her] at HN1
      have HN := (show Hid _ from HN1)
      have HV := (show Hid _ from And.intro hv her)
      clear HN1 hv her hbw hq
      go_wp2_with fail
      refine Calls.mono HN.out ?_
      clear HN
      rintro e w1 ⟨rfl, hb1⟩
      have hbw1 := HB.out.1.trans (hb1.mono HB.out.1.size)
      have HN2 := HY.out w1 q hbw1
      rw [← HV.out.1, ← HV.out.2] at HN2
      have HN3 := (show Hid _ from HN2)
      have HB1 := (show Hid _ from hbw1)
      clear hb1 HN2 hbw1
      go_wp2_with fail
      refine Calls.mono HN3.out ?_
      clear HN3
      rintro e w2 ⟨rfl, hb2⟩
      have HB2 := (show Hid _ from HB1.out.trans (hb2.mono HB1.out.size))
      clear hb2
      go_wp2
      go_roundw
      case rel => exact ⟨i + 1, by omega, by rw [HB.out.2]; congr 1; omega, HB2.out⟩
      case measure => have := HB.out.2; simp [intOf]; omega
    · have g1 : ¬ q ≤ 8 := by omega
      have HN := (show Hid _ from HHX.out wr hbw)
      clear hbw hq
      go_wp2_with fail
      refine Calls.mono HN.out ?_
      clear HN
      rintro e w1 ⟨rfl, hb1⟩
      have hbw1 := HB.out.1.trans (hb1.mono HB.out.1.size)
      have HN3 := (show Hid _ from HHY.out w1 hbw1)
      have HB1 := (show Hid _ from hbw1)
      clear hb1 hbw1
      go_wp2_with fail
      refine Calls.mono HN3.out ?_
      clear HN3
      rintro e w2 ⟨rfl, hb2⟩
      have HB2 := (show Hid _ from HB1.out.trans (hb2.mono HB1.out.size))
      clear hb2
      go_wp2
      go_ret
      exact ⟨rfl, HB2.out⟩
end Go.Proofs.Ytjaheelgcjafcaa
namespace Go.Proofs.Ytjaheelgcjafcaa
open Go.RowKit Go.MapKept Go.Maps
theorem made_u16 (n : Nat) : (madeCells #[Value.int .u16 0] n).toList = u16L (List.replicate n 0) := by
  apply List.ext_getElem?
  intro i
  unfold u16L
  rw [List.map_replicate, Array.getElem?_toList]
  by_cases hi : i < n
  · simp [madeCells, hi, Nat.mod_one]
  · simp [madeCells, hi]
theorem RfS.new {w w' : World} (n : Nat) (h1 : 1 ≤ n) (h8 : n ≤ 8) (W0 : World) (hb0 : Below W0.heap.size W0 w) (hw : w' = ((w.alloc (.cells (madeCells #[.int .u16 0] n) 42)).alloc (.cells #[.slice (some ⟨w.heap.size, 0, none⟩) n n, .slice none 0 0, .slice none 0 0] 93))) :
    RfS W0 w' (w.heap.size + 1) ⟨some ⟨w.heap.size, 0, none⟩, n, none, 0, none, 0⟩ (List.replicate n 0) [] [] (fun g => g = w.heap.size) := by
  obtain ⟨W1, hW1⟩ : ∃ W, W = w.alloc (.cells (madeCells #[.int .u16 0] n) 42) := ⟨_, rfl⟩
  rw [← hW1] at hw
  have z1 : W1.heap.size = w.heap.size + 1 := by rw [hW1]; simp
  have b1 : Below w.heap.size w W1 := by rw [hW1]; exact (Below.refl _ _).alloc (Nat.le_refl _) _
  have b2 : Below W1.heap.size W1 w' := by rw [hw]; exact (Below.refl _ _).alloc (Nat.le_refl _) _
  have hs := Stc.new W1 [.slice (some ⟨w.heap.size, 0, none⟩) n n, .slice none 0 0, .slice none 0 0] 93 w' hw
  rw [z1] at hs
  have hrow : Stc W1 w.heap.size (u16L (List.replicate n 0)) := by
    have := Stc.new w (madeCells #[.int .u16 0] n).toList 42 W1 (by rw [hW1])
    rwa [made_u16] at this
  have hr := hrow.below b2
  have hl : (List.replicate n 0).length = n := List.length_replicate
  have hzl : w.heap.size < w'.heap.size := hr.lt
  have hb := hb0.trans ((b1.trans (b2.mono b1.size)).mono hb0.size)
  refine ⟨by rw [hl]; exact hs, ?_, ⟨rfl, ⟨Nat.le_refl _, Nat.zero_le _⟩, .inl rfl⟩, ⟨rfl, ⟨Nat.le_refl _, Nat.zero_le _⟩, .inl rfl⟩, (fun x hx => by cases hx), hb, (fun x hx => by cases hx), (fun x hx => by cases hx), by rw [hl]; exact h1, by rw [hl]; exact h8, fun i => ?_, by simp, by simp, fun g hg => ⟨by omega, by omega⟩, by have := hb0.size; omega⟩
  · have := hr.rowN n ⟨by rw [hl]; exact Nat.le_refl _, by unfold maxLen; omega⟩ (fun g => g = w.heap.size) rfl
    exact this
  · simp [List.getD_eq_getElem?_getD, List.getElem?_replicate]
    split <;> simp
theorem bos_start {w w1 w2 : World} (n : Nat) (h1 : 1 ≤ n) (h8 : n ≤ 8) (hw1 : w1 = (((w.alloc (.cells (madeCells #[.int .u16 0] n) 42)).alloc (.map #[] 0)).alloc (.map #[] 0)).alloc (.cells #[.slice (some ⟨w.heap.size, 0, none⟩) n n, .map (some (w.heap.size + 1)), .map (some (w.heap.size + 2))] 76))
    (hw2 : w2 = ((w1.alloc (.cells (madeCells #[.int .u16 0] n) 42)).alloc (.cells #[.slice (some ⟨w1.heap.size, 0, none⟩) n n, .slice none 0 0, .slice none 0 0] 93))) :
    BoS w w2 (w.heap.size + 3) w.heap.size (w.heap.size + 1) (w.heap.size + 2) (w1.heap.size + 1) := by
  have s1 := SmW.new n h1 h8 hw1
  have z1 : w1.heap.size = w.heap.size + 4 := by rw [hw1]; simp
  have b1 : Below w.heap.size w w1 := by
    rw [hw1]
    exact ((((Below.refl _ _).alloc (Nat.le_refl _) _).alloc (by simp) _).alloc (by simp; omega) _).alloc (by simp; omega) _
  have b2 : Below w1.heap.size w1 w2 := by rw [hw2]; exact ((Below.refl _ _).alloc (Nat.le_refl _) _).alloc (by simp) _
  have r2 := RfS.new n h1 h8 w b1 hw2
  refine ⟨⟨_, _, _, _, [], [], _, s1.below b2, r2, ⟨⟨List.Perm.refl _, List.Pairwise.nil⟩, ⟨List.Perm.refl _, List.Pairwise.nil⟩, fun u m hW => ?_⟩, fun g hg => ⟨fun e => e, by omega, by omega, by omega, by omega⟩, fun e => e⟩, by omega, by omega, b1.trans (b2.mono b1.size)⟩
  have := hW.there 0 (by omega)
  simp [lookD] at this
/-- play's answer. -/
structure PlayR (ins : Int) (w : World) (e : Ending) (w' : World) : Prop where
  ex : ∃ P1 P2, e = .returned (.tuple #[.pointer P1, .pointer P2, .bool true]) ∧ ((P1 = none ∧ P2 = none ∧ ¬ (1 ≤ ins ∧ ins ≤ 8)) ∨ ∃ px nb mb wb py, P1 = some ⟨px, 0, none⟩ ∧ P2 = some ⟨py, 0, none⟩ ∧ BoS w w' px nb mb wb py)
  bel : Below w.heap.size w w'
set_option maxRecDepth 100000 in
set_option maxHeartbeats 8000000 in
theorem play_any (ins : Int) {w : World} {a : Option Addr} {n c : Nat} {dd : List ChQ} (hs : SlCq w a n c dd) :
    Calls Try.prog 9 #[.int .i64 ins, .slice a n c] w (PlayR ins w) := by
  by_cases hin : 1 ≤ ins ∧ ins ≤ 8
  · obtain ⟨m, rfl⟩ : ∃ m : Nat, ins = (m : Int) := ⟨ins.toNat, by omega⟩
    have hnx := snew_ok m w (by omega) (by omega)
    have hm1 : 1 ≤ m := by omega
    have hm8 : m ≤ 8 := by omega
    have hnl : n ≤ 281474976710656 := hs.small
    have HS := (show Hid _ from hs)
    have hcap := hs.cap
    clear hs hin
    go_enter Try.func9, Try.ntmps9
    go_wp2_with fail
    refine hnx.mono ?_
    clear hnx
    rintro e w1 ⟨rfl, hw1⟩
    have hny := rnew_ok m w1 hm1 hm8
    have HW1 := (show Hid _ from hw1)
    clear hw1
    go_wp2_with fail
    refine hny.mono ?_
    clear hny
    rintro e w2 ⟨rfl, hw2⟩
    have HB := (show Hid _ from bos_start m hm1 hm8 HW1.out hw2)
    obtain ⟨px, hpx⟩ : ∃ p, p = w.heap.size + 3 := ⟨_, rfl⟩
    obtain ⟨nb, hnb⟩ : ∃ p, p = w.heap.size := ⟨_, rfl⟩
    obtain ⟨py, hpy⟩ : ∃ p, p = w1.heap.size + 1 := ⟨_, rfl⟩
    have HB2 : Hid (BoS w w2 px nb (nb + 1) (nb + 2) py) := by rw [hpx, hnb, hpy]; exact HB.out
    rw [← hpx, ← hpy]
    clear HB HW1 hw2 hpx hnb hpy
    go_wp2_with fail
    go_loopw [11] (fun iv wr => ∃ i : Nat, i ≤ n ∧ iv = .int .i64 (i : Nat) ∧ BoS w wr px nb (nb + 1) (nb + 2) py) (fun iv _ => n - (intOf iv).toNat)
    case atStart => exact ⟨0, by omega, rfl, HB2.out⟩
    case round =>
      obtain ⟨i, hi, rfl, hB⟩ := hrel
      clear HB2
      by_cases hlt : i < n ∧ i < 200
      · obtain ⟨hl1, hl2⟩ := hlt
        have g1 : (i : Int) < (n : Int) := by omega
        have g2 : (i : Int) < 200 := by omega
        have g0 : (0 : Int) ≤ (i : Int) := by omega
        obtain ⟨b, off, rfl, hbl, hcl⟩ := HS.out.at_.resolve_left (by omega)
        obtain ⟨x, hx⟩ : ∃ x, dd[i]? = some x := ⟨_, List.getElem?_eq_getElem (by rw [HS.out.len]; exact hl1)⟩
        have hxw := HS.out.wf x (List.mem_of_getElem? hx)
        have hcx : ∀ j u, x.vals[j]? = some u → wr.cell? ⟨b, off + i * 14 + j, none⟩ = some u := fun j u hu => (hB.bel.cell (p := ⟨b, off + i * 14 + j, none⟩) hbl).trans (hcl i x hx j u hu)
        have x0 : wr.cell? ⟨b, off + i * 14, none⟩ = some (.int .u8 (x.k : Nat)) := hcx 0 _ rfl
        have x1 : wr.cell? ⟨b, off + i * 14 + 1, none⟩ = some (.int .u8 (x.f : Nat)) := hcx 1 _ rfl
        have x2 : wr.cell? ⟨b, off + i * 14 + 2, none⟩ = some (.int .u32 (x.t : Nat)) := hcx 2 _ rfl
        have x3 : wr.cell? ⟨b, off + i * 14 + 3, none⟩ = some (.int .u16 (x.st : Nat)) := hcx 3 _ rfl
        have x4 : wr.cell? ⟨b, off + i * 14 + 4, none⟩ = some (.int .u16 (x.ss : Nat)) := hcx 4 _ rfl
        have x5 : wr.cell? ⟨b, off + i * 14 + 5, none⟩ = some (.int .u32 (x.pp : Nat)) := hcx 5 _ rfl
        have x6 : wr.cell? ⟨b, off + i * 14 + 6, none⟩ = some (.int .u32 (x.tg : Nat)) := hcx 6 _ rfl
        have x7 : wr.cell? ⟨b, off + i * 14 + 7, none⟩ = some (.int .u32 (x.rm : Nat)) := hcx 7 _ rfl
        have x8 : wr.cell? ⟨b, off + i * 14 + 8, none⟩ = some (.int .u16 (x.os : Nat)) := hcx 8 _ rfl
        have x9 : wr.cell? ⟨b, off + i * 14 + 9, none⟩ = some (.int .u16 (x.is : Nat)) := hcx 9 _ rfl
        have x10 : wr.cell? ⟨b, off + i * 14 + 10, none⟩ = some (.slice x.bA x.bN x.bC) := hcx 10 _ rfl
        have x11 : wr.cell? ⟨b, off + i * 14 + 11, none⟩ = some (.slice x.dA x.dN x.dC) := hcx 11 _ rfl
        have x12 : wr.cell? ⟨b, off + i * 14 + 12, none⟩ = some (.slice x.pA x.pN x.pC) := hcx 12 _ rfl
        have x13 : wr.cell? ⟨b, off + i * 14 + 13, none⟩ = some (.slice x.xA x.xN x.xC) := hcx 13 _ rfl
        have hdo : Calls Try.prog 19 #[.pointer (some ⟨px, 0, none⟩), .pointer (some ⟨py, 0, none⟩), .agg #[.int .u8 (x.k : Nat), .int .u8 (x.f : Nat), .int .u32 (x.t : Nat), .int .u16 (x.st : Nat), .int .u16 (x.ss : Nat), .int .u32 (x.pp : Nat), .int .u32 (x.tg : Nat), .int .u32 (x.rm : Nat), .int .u16 (x.os : Nat), .int .u16 (x.is : Nat), .slice x.bA x.bN x.bC, .slice x.dA x.dN x.dC, .slice x.pA x.pN x.pC, .slice x.xA x.xN x.xC]] wr fun e w' => e = .returned (.bool true) ∧ BoS w w' px nb (nb + 1) (nb + 2) py := do_any hB x hxw
        have HDO := (show Hid _ from hdo)
        clear hB hx hxw hcx hcl hdo
        go_wp2_with fail
        refine Calls.mono HDO.out ?_
        clear HDO
        rintro e w3 ⟨rfl, hB3⟩
        have HB3 := (show Hid _ from hB3)
        clear hB3
        go_wp2
        go_roundw
        case rel => exact ⟨i + 1, by omega, by go_num, HB3.out⟩
        case measure => simp [intOf]; omega
      · have hsm := same_any hB
        have HSM := (show Hid _ from hsm)
        have HBB := (show Hid _ from hB)
        clear hsm hB
        by_cases hl1 : i < n
        · have g1 : (i : Int) < (n : Int) := by omega
          have g2 : ¬ (i : Int) < 200 := by omega
          go_wp2_with fail
          refine Calls.mono HSM.out ?_
          clear HSM
          rintro e w3 ⟨rfl, hb3⟩
          have HB3 := (show Hid _ from HBB.out.below hb3)
          clear hb3
          go_wp2
          go_ret3
          exact ⟨⟨_, _, rfl, .inr ⟨px, nb, nb + 1, nb + 2, py, rfl, rfl, HB3.out⟩⟩, HB3.out.bel⟩
        · have g1 : ¬ (i : Int) < (n : Int) := by omega
          go_wp2_with fail
          refine Calls.mono HSM.out ?_
          clear HSM
          rintro e w3 ⟨rfl, hb3⟩
          have HB3 := (show Hid _ from HBB.out.below hb3)
          clear hb3
          go_wp2
          go_ret3
          exact ⟨⟨_, _, rfl, .inr ⟨px, nb, nb + 1, nb + 2, py, rfl, rfl, HB3.out⟩⟩, HB3.out.bel⟩
  · have hnx := snew_bad ins w hin
    have hin2 := hin
    have HIN := (show Hid (¬ (1 ≤ ins ∧ ins ≤ 8)) from hin)
    clear hs hin
    go_enter Try.func9, Try.ntmps9
    go_wp2_with fail
    refine hnx.mono ?_
    clear hnx
    rintro e w1 ⟨rfl, hb1⟩
    have hny := rnew_bad ins w1 hin2
    have HB1 := (show Hid _ from hb1)
    clear hb1
    go_wp2_with fail
    refine hny.mono ?_
    clear hny
    rintro e w2 ⟨rfl, hb2⟩
    have HB2 := (show Hid _ from HB1.out.trans (hb2.mono HB1.out.size))
    clear hb2
    go_wp2_with fail
    go_loopw [11] (fun iv wr => iv = .int .i64 0 ∧ Below w.heap.size w wr) (fun _ _ => 0)
    case atStart => exact ⟨rfl, HB2.out⟩
    case round =>
      obtain ⟨rfl, hb⟩ := hrel
      have HB := (show Hid _ from hb)
      clear hb HB2
      go_wp2
      go_ret3
      exact ⟨⟨_, _, rfl, .inl ⟨rfl, rfl, HIN.out⟩⟩, HB.out⟩
end Go.Proofs.Ytjaheelgcjafcaa
namespace Go.Proofs.Ytjaheelgcjafcaa
open Go.RowKit Go.MapKept Go.Maps
def dataC (f t st ss pp : Nat) (a : Option Addr) (n c : Nat) (zs : List Nat) : Ck := ⟨0, f, t, st, ss, pp, 0, 0, 0, 0, none, 0, 0, none, 0, 0, none, 0, 0, a, n, c, [], zs⟩
theorem dataC_W {w : World} {f t st ss pp : Nat} {a : Option Addr} {n c : Nat} {zs : List Nat} (hf : f < 256) (ht : t < 4294967296) (hst : st < 65536) (hss : ss < 65536) (hpp : pp < 4294967296) (hs : Sl w a n c zs) : CkW w (dataC f t st ss pp a n c zs) :=
  ⟨⟨by show 0 < 256; decide, hf, ht, hst, hss, hpp, Nat.zero_le _, Nat.zero_le _⟩, ⟨rfl, Nat.zero_le _, fun l hl => (by cases hl), .inl rfl⟩, hs⟩
theorem dataC_ok {f t st ss pp : Nat} {a : Option Addr} {n c : Nat} {zs : List Nat} (h0 : 0 < n) (h1 : n ≤ 1000) : chkOf (dataC f t st ss pp a n c zs) = 0 := by
  have hp : padN (12 + n) ≤ 3 := by unfold padN; omega
  unfold chkOf dataC chkN
  dsimp only
  rw [if_pos rfl]
  have e1 : decide (n = 0) = false := decide_eq_false (by omega)
  have e2 : decide (1468 < 4 + (12 + n) + padN (12 + n)) = false := decide_eq_false (by omega)
  rw [e1, e2]
  rfl
/-- One message told: where it lies. -/
theorem MsgsW.get1 {w : World} {B : Nat} {a : Option Addr} {n c : Nat} {m : Mg} (h : MsgsW w B a n c [m]) (hz : m.zs.length ≤ 281474976710656) : ∃ g ma mc, a = some ⟨g, 0, none⟩ ∧ n = 1 ∧ 1 ≤ c ∧ w.cell? ⟨g, 0, none⟩ = some (.int .u16 (m.st : Nat)) ∧ w.cell? ⟨g, 2, none⟩ = some (.int .u32 (m.pp : Nat)) ∧ w.cell? ⟨g, 4, none⟩ = some (.slice ma m.zs.length mc) ∧ Sl w ma m.zs.length mc m.zs := by
  have hn := h.len
  obtain ⟨xs, h1, h2, h3⟩ := h.ex
  match xs, h1 with
  | [x], h1 =>
    simp at h1
    subst h1
    obtain rfl : n = 1 := hn
    obtain ⟨g, rfl, _, _, hc, _, hcell, _⟩ := OwnG.at_ h2 (fun _ => rfl) (by omega)
    have hm := h3 x List.mem_cons_self
    refine ⟨g, x.2.1, x.2.2, rfl, rfl, hc, by simpa using hcell 0 x rfl 0 _ rfl, by simpa using hcell 0 x rfl 2 _ rfl, by simpa using hcell 0 x rfl 4 _ rfl, hm.sl hz⟩
set_option maxRecDepth 100000 in
set_option maxHeartbeats 4000000 in
theorem live13_any (w : World) :
    Calls Try.prog 10 #[] w fun e w' => e = .returned (.bool true) ∧ Below w.heap.size w w' := by
  have kc := fun (w : World) (C : Array Value) (n c : Nat) => Lib.run_convert_bytes_const (P := Try.prog) w 31 5 C n c Try.underlying31 Try.underlying5
  have hnew := snew_ok 2 w (by decide) (by decide)
  go_enter Try.func10, Try.ntmps10
  go_wp2_with fail
  refine Calls.mono hnew ?_
  rintro e w1 ⟨rfl, hw1⟩
  have hsm1 := SmW.new 2 (by decide) (by decide) hw1
  have hb1 : Below w.heap.size w w1 := by rw [hw1]; exact (((((Below.refl _ _).alloc (Nat.le_refl _) _).alloc (by simp) _).alloc (by simp; omega) _).alloc (by simp; omega) _)
  clear hw1 hnew
  obtain ⟨w2, hw2⟩ : ∃ w2, w2 = w1.alloc (.cells #[.int .u8 98] 5 (1, 2)) := ⟨_, rfl⟩
  have hb2 : Below w1.heap.size w1 w2 := by rw [hw2]; exact (Below.refl _ _).alloc (Nat.le_refl _) _
  have hs2 : Sl w2 (some ⟨w1.heap.size, 0, none⟩) 1 1 [98] := by rw [hw2]; exact sl_new w1 5 (1, 2) [98] rfl (by decide) _ rfl
  have HAD := (show Hid _ from fun v hv => sadd_ck (hsm1.below hb2) (dataC 1 2 1 0 0 (some ⟨w1.heap.size, 0, none⟩) 1 1 [98]) (dataC_W (by decide) (by decide) (by decide) (by decide) (by decide) hs2) v hv)
  have HB2 : Hid (Below w.heap.size w w2) := hb1.trans (hb2.mono hb1.size)
  clear hsm1 hb1 hb2 hs2
  go_wp2_with fail
  rw [← hw2]
  clear hw2
  refine (HAD.out _ (by rfl)).mono ?_
  clear HAD
  rintro e w3 hR
  rw [dataC_ok (by decide) (by decide)] at hR
  cases hR with
  | bad hz _ _ => exact absurd rfl hz
  | ok da dc a m c B wr' Y' hz he hms hsm hfr hB hY =>
    subst he
    have e1 : SmS.add ⟨List.replicate 2 0, [], []⟩ 2 ⟨1, 1, 0, 0, da, 1, dc, [98]⟩ = (⟨[0, 0], [(2, ⟨1, 1, 0, 0, da, 1, dc, [98]⟩)], []⟩, []) := by kernel_rfl
    have hms1 : MsgsW w3 B a m c (SmS.add ⟨List.replicate 2 0, [], []⟩ 2 ⟨1, 1, 0, 0, da, 1, dc, [98]⟩).2 := hms
    have hsm3 : SmW w3 (w.heap.size + 3) w.heap.size (w.heap.size + 1) (w.heap.size + 2) wr' Y' (SmS.add ⟨List.replicate 2 0, [], []⟩ 2 ⟨1, 1, 0, 0, da, 1, dc, [98]⟩).1 := hsm
    rw [e1] at hms1 hsm3
    obtain rfl : m = 0 := hms1.len
    have hb3 : Below w.heap.size w w3 := HB2.out.trans (hfr.below _ HB2.out.size (fun k hk => by rcases hk with e | e | e <;> omega))
    clear hms hms1 hsm hfr hz hB hY HB2
    obtain ⟨w4, hw4⟩ : ∃ w4, w4 = w3.alloc (.cells #[.int .u8 97] 5 (1, 2)) := ⟨_, rfl⟩
    have hb4 : Below w3.heap.size w3 w4 := by rw [hw4]; exact (Below.refl _ _).alloc (Nat.le_refl _) _
    have hs4 : Sl w4 (some ⟨w3.heap.size, 0, none⟩) 1 1 [97] := by rw [hw4]; exact sl_new w3 5 (1, 2) [97] rfl (by decide) _ rfl
    have HAD := (show Hid _ from fun v hv => sadd_ck (hsm3.below hb4) (dataC 2 1 1 0 7 (some ⟨w3.heap.size, 0, none⟩) 1 1 [97]) (dataC_W (by decide) (by decide) (by decide) (by decide) (by decide) hs4) v hv)
    have HB4 : Hid (Below w.heap.size w w4) := hb3.trans (hb4.mono hb3.size)
    clear hsm3 hb3 hb4 hs4
    go_wp2_with fail
    rw [← hw4]
    clear hw4 kc
    refine (HAD.out _ (by rfl)).mono ?_
    clear HAD
    rintro e w5 hR
    rw [dataC_ok (by decide) (by decide)] at hR
    cases hR with
    | bad hz _ _ => exact absurd rfl hz
    | ok da2 dc2 a2 m2 c2 B2 wr2 Y2 hz he hms hsm hfr hB hY =>
      subst he
      have e2 : SmS.add ⟨[0, 0], [(2, ⟨1, 1, 0, 0, da, 1, dc, [98]⟩)], []⟩ 1 ⟨2, 1, 0, 7, da2, 1, dc2, [97]⟩ = (⟨[0, 1], [], []⟩, [⟨1, 0, 7, false, [97, 98]⟩]) := by kernel_rfl
      have hms1 : MsgsW w5 B2 a2 m2 c2 (SmS.add ⟨[0, 0], [(2, ⟨1, 1, 0, 0, da, 1, dc, [98]⟩)], []⟩ 1 ⟨2, 1, 0, 7, da2, 1, dc2, [97]⟩).2 := hms
      have hsm5 : SmW w5 (w.heap.size + 3) w.heap.size (w.heap.size + 1) (w.heap.size + 2) wr2 Y2 (SmS.add ⟨[0, 0], [(2, ⟨1, 1, 0, 0, da, 1, dc, [98]⟩)], []⟩ 1 ⟨2, 1, 0, 7, da2, 1, dc2, [97]⟩).1 := hsm
      rw [e2] at hms1 hsm5
      have hb5 : Below w.heap.size w w5 := HB4.out.trans (hfr.below _ HB4.out.size (fun k hk => by rcases hk with e | e | e <;> omega))
      obtain ⟨g, ma, mc, rfl, rfl, hc1, q0, q2, q4, hsl⟩ := hms1.get1 (by decide)
      have hnx := snext_any hsm5 1
      rw [if_pos (by decide)] at hnx
      have HNX := (show Hid _ from hnx)
      have HQ : Hid (∀ V, Below w5.heap.size w5 V → V.cell? ⟨g, 2, none⟩ = some (.int .u32 7) ∧ V.cell? ⟨g, 4, none⟩ = some (.slice ma 2 mc) ∧ Sl V ma 2 mc [97, 98] ∧ Below w.heap.size w V) := fun V hV => by
        have hgl : g < w5.heap.size := by
          have := q0
          simp only [World.cell?] at this
          rcases Nat.lt_or_ge g w5.heap.size with h9 | h9
          · exact h9
          · simp [h9] at this
        exact ⟨(hV.cell (p := ⟨g, 2, none⟩) hgl).trans q2, (hV.cell (p := ⟨g, 4, none⟩) hgl).trans q4, hsl.below hV, hb5.trans (hV.mono hb5.size)⟩
      clear hms hms1 hsm hfr hz hB hY hsm5 hb5 q0 q2 q4 hsl hnx HB4
      go_wp2_with fail
      refine Calls.mono HNX.out ?_
      rintro e w6 ⟨rfl, hb6⟩
      obtain ⟨q2, q4, hsl, hbf⟩ := HQ.out w6 hb6
      have hcs := conv_str hsl
      have hs0 : (strOf [97, 98]) = { data := #[97, 98] } := by decide
      rw [hs0] at hcs
      have HBF := (show Hid _ from hbf)
      clear HQ HNX hb6 hsl hbf hs0
      dsimp only
      go_wp2
      go_ret
      exact ⟨rfl, HBF.out⟩
end Go.Proofs.Ytjaheelgcjafcaa
