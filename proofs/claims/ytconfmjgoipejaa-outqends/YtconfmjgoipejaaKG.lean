/- outq: a piece's mark. -/
import Derived.Test.YtconfmjgoipejaaOqR
import Derived.Test.YtconfmjgoipejaaKF
import Derived.BigQuiet
import Derived.WalkSmall
import Derived.Deep.QuietTactic
import Derived.Deep.MidRow
import Derived.Lib.MinMax
import Derived.Test.YtconfmjgoipejaaOwn
import Derived.Laws.CopyOwn
import Derived.Lib.SliceRun
import Derived.Outline
import Derived.WalkLawsBesides
import Derived.WalkSpells
import Derived.Test.YtconfmjgoipejaaRgY
import Derived.Test.YtconfmjgoipejaaRfM
namespace Go.Proofs.Ytconfmjgoipejaa
open Go.RowKit Go.Shelf
/-- A Sack as a chunk. -/
def skC (t : Nat) (ba : Option Addr) (bn bc : Nat) : Ck := ⟨3, 0, t, 0, 0, 0, 0, 0, 0, 0, ba, bn, bc, none, 0, 0, none, 0, 0, none, 0, 0, [], []⟩
def skV (t : Nat) (ba : Option Addr) (bn bc : Nat) : List Value := [.int .u8 3, .int .u8 0, .int .u32 (t : Nat), .int .u16 0, .int .u16 0, .int .u32 0, .int .u32 0, .int .u32 0, .int .u16 0, .int .u16 0, .slice ba bn bc, .slice none 0 0, .slice none 0 0, .slice none 0 0]
theorem skC_ok (t : Nat) (ba : Option Addr) (bn bc : Nat) (h : bn ≤ 16) : chkOf (skC t ba bn bc) = 0 := by
  unfold chkOf skC chkN padN
  dsimp only
  rw [if_neg (by decide), if_neg (by decide), if_pos rfl]
  simp
  omega
theorem skC_W (w : World) (t : Nat) (ht : t < 4294967296) (ba : Option Addr) (bn bc : Nat) (h : bn ≤ 16) : CkW w (skC t ba bn bc) := by
  refine ⟨⟨by simp [skC], by simp [skC], ht, by simp [skC], by simp [skC], by simp [skC], ?_, by simp [skC]⟩, ⟨rfl, by simp [skC], fun l hl => (by cases hl), .inl rfl⟩, SlK.nil _ _ _ (by omega)⟩
  show bn ≤ 281474976710656
  omega
/-- May the blocks be, at a cum of G and a last piece at T? -/
def blkOk (G T : Nat) (bs : List (Nat × Nat)) : Prop := ∀ p ∈ bs, 2 ≤ p.1 ∧ p.1 ≤ p.2 ∧ G + p.2 ≤ T
set_option maxRecDepth 100000 in
set_option maxHeartbeats 4000000 in
theorem maySack_ok {w : World} {q nb : Nat} {pa : Option Addr} {cap : Nat} {L : List PcA} {cum size : Nat} {nx : List Nat} (h : QuW w q nb pa cap L cum size nx) (hL : L.length ≤ 100000) (hc : cum < 4294967296)
    (t G : Nat) (ht : t < 4294967296) (hG : aheadV 4294967296 cum t = (G : Int)) (hGT : G ≤ topL L) {ba : Option Addr} {bn bc : Nat} {bs : List (Nat × Nat)} (hB : BlR w ba bn bc bs) (h16 : bn ≤ 16) (hok : blkOk G (topL L) bs) :
    Calls Try.prog 32 #[.pointer (some ⟨q, 0, none⟩), .agg (skV t ba bn bc).toArray] w fun e w' => e = .returned (.int .i64 0) ∧ Below w.heap.size w w' := by
  obtain ⟨V, hV⟩ : ∃ V, V = w.alloc (.cells (skV t ba bn bc).toArray 47) := ⟨_, rfl⟩
  have bV : Below w.heap.size w V := by rw [hV]; exact (Below.refl _ _).alloc (Nat.le_refl _) _
  have sV := Stc.new w (skV t ba bn bc) 47 V hV
  have hTl := topL_le L
  have hck := check_all (skC t ba bn bc) V (skC_W V t ht ba bn bc h16) (.agg (skV t ba bn bc).toArray) rfl
  rw [skC_ok t ba bn bc h16] at hck
  have HCK := (show Hid _ from fun (_ : Unit) => hck)
  have HAH := (show Hid _ from fun (W : World) (hb : Below w.heap.size w W) => qahead_any (h.below hb) hc t ht)
  rw [hG] at HAH
  have HTP := (show Hid _ from fun (W : World) (hb : Below w.heap.size w W) => top_any (h.below hb) hL)
  have HBL := (show Hid _ from fun (W : World) (hb : Below w.heap.size w W) => hB.below hb)
  have HOK := (show Hid _ from hok)
  have HSV := (show Hid _ from And.intro sV bV)
  have HV := (show Hid _ from hV)
  have hbl := hB.len
  have hbcp := hB.cap
  obtain ⟨T, hT⟩ : ∃ T, T = topL L := ⟨_, rfl⟩
  rw [← hT] at HTP HOK hGT hTl
  have d0 := sV.cell 0 _ rfl
  have d1 := sV.cell 1 _ rfl
  have d2 := sV.cell 2 _ rfl
  have d3 := sV.cell 3 _ rfl
  have d4 := sV.cell 4 _ rfl
  have d5 := sV.cell 5 _ rfl
  have d6 := sV.cell 6 _ rfl
  have d7 := sV.cell 7 _ rfl
  have d8 := sV.cell 8 _ rfl
  have d9 := sV.cell 9 _ rfl
  have d10 := sV.cell 10 _ rfl
  have d11 := sV.cell 11 _ rfl
  have d12 := sV.cell 12 _ rfl
  have d13 := sV.cell 13 _ rfl
  clear hV bV sV hck h hB hok hT hG
  unfold skV at *
  go_enter Try.func32, Try.ntmps32
  go_wp2_with fail
  rw [← HV.out]
  refine Calls.mono (HCK.out ()) ?_
  clear HCK
  rintro e w1 ⟨rfl, b1⟩
  have hb1 : Below w.heap.size w w1 := HSV.out.2.trans (b1.mono HSV.out.2.size)
  have s1 := HSV.out.1.below b1
  have c0 := s1.cell 0 _ rfl
  have c2 := s1.cell 2 _ rfl
  have HS1 := (show Hid _ from And.intro s1 hb1)
  have HA1 := (show Hid _ from fun (_ : Unit) => HAH.out w1 hb1)
  clear d0 d1 d2 d3 d4 d5 d6 d7 d8 d9 d10 d11 d12 d13 b1 s1 hb1 HV HSV HAH
  go_wp2_with fail
  refine Calls.mono (HA1.out ()) ?_
  clear HA1 c0 c2
  rintro e w2 ⟨rfl, b2⟩
  have hb2 : Below w.heap.size w w2 := HS1.out.2.trans (b2.mono HS1.out.2.size)
  have HT2 := (show Hid _ from fun (_ : Unit) => HTP.out w2 hb2)
  have HS2 := (show Hid _ from And.intro (HS1.out.1.below b2) hb2)
  clear b2 hb2 HTP HS1
  go_wp2_with fail
  refine Calls.mono (HT2.out ()) ?_
  clear HT2
  rintro e w3 ⟨rfl, b3⟩
  have s3 := HS2.out.1.below b3
  have hb3 : Below w.heap.size w w3 := HS2.out.2.trans (b3.mono HS2.out.2.size)
  have c10 := s3.cell 10 _ rfl
  have HS3 := (show Hid _ from And.intro s3 hb3)
  have hlt0 : ¬ (G : Int) < 0 := by omega
  have hgt0 : ¬ (G : Int) > (T : Int) := by omega
  clear b3 s3 hb3 HS2
  go_wp2
  go_loopw [34] (fun u wr => ∃ i : Nat, i ≤ bn ∧ u = .int .i64 (i : Nat) ∧ Below w3.heap.size w3 wr) (fun u _ => bn - (intOf u).toNat)
  case atStart => exact ⟨0, by omega, rfl, Below.refl _ _⟩
  case round =>
    obtain ⟨i, hi, rfl, hb⟩ := hrel
    have HB := (show Hid _ from hb)
    clear hb
    by_cases hlt : i < bn
    · have hlt1 : (i : Int) < (bn : Int) := by omega
      obtain ⟨p, hp⟩ : ∃ p, bs[i]? = some p := ⟨_, List.getElem?_eq_getElem (by omega)⟩
      have hw : Below w.heap.size w wr := HS3.out.2.trans (HB.out.mono HS3.out.2.size)
      obtain ⟨b, off, rfl, hbl2, hcl⟩ := (HBL.out wr hw).at_.resolve_left (by omega)
      obtain ⟨p1, p2, e0, e1⟩ := hcl i p hp
      obtain ⟨o1, o2, o3⟩ := HOK.out p (List.mem_of_getElem? hp)
      obtain ⟨x, hx⟩ : ∃ x, x = p.1 := ⟨_, rfl⟩
      obtain ⟨y, hy⟩ : ∃ y, y = p.2 := ⟨_, rfl⟩
      rw [← hx] at p1 e0 o1 o2
      rw [← hy] at p2 e1 o2 o3
      clear hcl hp hx hy hw
      have g1 : ¬ (x : Int) < 2 := by omega
      have g2 : ¬ (y : Int) < (x : Int) := by omega
      have g3 : ¬ (G : Int) + (y : Int) > (T : Int) := by omega
      have hz : wr.heap.size = wr.heap.size := rfl
      go_wp2
      go_roundw
      case rel => exact ⟨i + 1, by omega, by go_num, HB.out.alloc HB.out.size _⟩
      case measure => simp [intOf]; omega
    · have hlt1 : ¬ (i : Int) < (bn : Int) := by omega
      have HW : Hid (Below w.heap.size w wr) := HS3.out.2.trans (HB.out.mono HS3.out.2.size)
      go_wp2
      go_ret
      exact ⟨rfl, HW.out⟩
end Go.Proofs.Ytconfmjgoipejaa
namespace Go.Proofs.Ytconfmjgoipejaa
open Go.RowKit Go.Shelf
theorem results_cellE2 {fn : Func} {p u : Tmp} {ty : TypeId} (h : fn.results = #[.cell p ty, .tmp u]) (tmps : Array Value) (w : World) (g o : Nat) (cs : List Value) (d : TypeDesc)
    (hp : tmps.getD p undef = .pointer (some ⟨g, o, none⟩)) (hc : w.rangeAt g o cs) (hu : Try.prog.underlying ty = some d) (hd : d.isRow = true) (hi : (Try.prog.info? ty).map (·.size) = some cs.length) :
    (results fn tmps).run Try.prog w = .ok (.tuple #[.agg cs.toArray, tmps.getD u undef]) w := by
  rw [results_cell_tmp h, hp]
  simp [asAddr, run_loadVar_mid w g o ty cs d hc hu hd hi, Result.andThen]
theorem QuW.qB_lt {w : World} {q nb : Nat} {pa : Option Addr} {cap : Nat} {L : List PcA} {cum size : Nat} {nx : List Nat} (h : QuW w q nb pa cap L cum size nx) : ∀ b, qB q nb pa b → b < w.heap.size := by
  rintro b (rfl | rfl | ⟨o, s, rfl⟩)
  · exact h.tq.lt
  · exact h.tn.lt
  · exact (h.row.own.lt b rfl).2
theorem zeroAck (w : World) : (zeroValue 58).run Try.prog w = .ok (.agg #[.int .i64 0, .int .i64 0, .bool false, .bool false]) w := by kernel_rfl
/-- What a Sack makes of the pieces. -/
def skL (bs : List (Nat × Nat)) (G : Nat) (L : List PcA) : List PcA := mapI (tkP bs) (L.drop G) (L.drop G).length
def skF (bs : List (Nat × Nat)) (G : Nat) (L : List PcA) : Nat := min (farI bs (L.drop G) (L.drop G).length - 1) (skL bs G L).length
def skM (bs : List (Nat × Nat)) (G : Nat) (L : List PcA) : List PcA := mapI (fun _ => misP) (skL bs G L) (skF bs G L)
def skB (wy : Nat) (bs : List (Nat × Nat)) (G : Nat) (L : List PcA) : Nat := sumG (cntP wy) L G + sumI (tkN wy bs) (L.drop G) (L.drop G).length
def skFast (bs : List (Nat × Nat)) (G : Nat) (L : List PcA) : Bool := decide (0 < sumG fastP (skL bs G L) (skF bs G L))
structure SckR (w : World) (q nb : Nat) (pa : Option Addr) (cap : Nat) (L : List PcA) (size : Nat) (nx : List Nat) (t : Nat) (bs : List (Nat × Nat)) (G : Nat) (e : Ending) (w' : World) : Prop where
  ex : e = .returned (.tuple #[.agg #[.int .i64 (skB 0 bs G L : Nat), .int .i64 (skB 1 bs G L : Nat), .bool (decide (0 < G)), .bool (skFast bs G L)], .int .i64 0])
  qu : QuW w' q nb pa cap (skM bs G L) t size nx
  fr : Fr (qB q nb pa) w w'
theorem drop_sum (L : List PcA) (G : Nat) : sumL (L.drop G) (L.drop G).length ≤ sumL L L.length := by
  rw [sumL_all, sumL_all]
  have h : L.map (fun x => x.1.zs.length) = (L.take G).map (fun x => x.1.zs.length) ++ (L.drop G).map (fun x => x.1.zs.length) := by rw [← List.map_append, List.take_append_drop]
  rw [h, List.sum_append]
  omega
set_option maxRecDepth 100000 in
set_option maxHeartbeats 4000000 in
theorem sack_ok {w : World} {q nb : Nat} {pa : Option Addr} {cap : Nat} {L : List PcA} {cum size : Nat} {nx : List Nat} (h : QuW w q nb pa cap L cum size nx) (hL : L.length ≤ 100000) (hS : sumL L L.length ≤ 100000) (hw : ∀ x ∈ L, x.1.is = 1 → x.1.wy < 2) (hm : ∀ x ∈ L, x.1.ms ≤ 100000) (hc : cum < 4294967296)
    (t G : Nat) (ht : t < 4294967296) (hG : aheadV 4294967296 cum t = (G : Int)) (hGT : G ≤ topL L) {ba : Option Addr} {bn bc : Nat} {bs : List (Nat × Nat)} (hB : BlR w ba bn bc bs) (hbk : ∀ b o s, ba = some ⟨b, o, s⟩ → b < w.heap.size ∧ ¬ qB q nb pa b) (h16 : bn ≤ 16) (hok : blkOk G (topL L) bs) :
    Calls Try.prog 17 #[.pointer (some ⟨q, 0, none⟩), .agg (skV t ba bn bc).toArray] w (SckR w q nb pa cap L size nx t bs G) := by
  have hTl := topL_le L
  obtain ⟨V0, hV0⟩ : ∃ V0, V0 = w.alloc (.cells (skV t ba bn bc).toArray 47) := ⟨_, rfl⟩
  obtain ⟨V1, hV1⟩ : ∃ V1, V1 = V0.alloc (.cells #[.int .i64 0, .int .i64 0, .bool false, .bool false] 58) := ⟨_, rfl⟩
  have zV0 : V0.heap.size = w.heap.size + 1 := by rw [hV0]; simp
  have bV0 : Below w.heap.size w V0 := by rw [hV0]; exact (Below.refl _ _).alloc (Nat.le_refl _) _
  have bV1 : Below V0.heap.size V0 V1 := by rw [hV1]; exact (Below.refl _ _).alloc (Nat.le_refl _) _
  have bV : Below w.heap.size w V1 := bV0.trans (bV1.mono (by omega))
  have s0 := (Stc.new w (skV t ba bn bc) 47 V0 hV0).below bV1
  have s1 : AcW (w.heap.size + 1) 0 0 false false V1 := by
    have sA := Stc.new V0 [.int .i64 0, .int .i64 0, .bool false, .bool false] 58 V1 hV1
    rw [zV0] at sA
    exact ⟨⟨_, (0, 0), by rw [hV1, ← zV0]; exact World.alloc_heap_new V0 _⟩, sA.cell 0 _ rfl, sA.cell 1 _ rfl, sA.cell 2 _ rfl, sA.cell 3 _ rfl, sA.free⟩
  have HMS := (show Hid _ from fun (_ : Unit) => maySack_ok (h.below bV) hL hc t G ht hG hGT (hB.below bV) h16 hok)
  have d0 := s0.cell 0 _ rfl
  have d1 := s0.cell 1 _ rfl
  have d2 := s0.cell 2 _ rfl
  have d3 := s0.cell 3 _ rfl
  have d4 := s0.cell 4 _ rfl
  have d5 := s0.cell 5 _ rfl
  have d6 := s0.cell 6 _ rfl
  have d7 := s0.cell 7 _ rfl
  have d8 := s0.cell 8 _ rfl
  have d9 := s0.cell 9 _ rfl
  have d10 := s0.cell 10 _ rfl
  have d11 := s0.cell 11 _ rfl
  have d12 := s0.cell 12 _ rfl
  have d13 := s0.cell 13 _ rfl
  have HH := (show Hid _ from And.intro h (And.intro hB (And.intro s0 (And.intro s1 bV))))
  have HV0 := (show Hid _ from hV0)
  have HV1 := (show Hid _ from hV1)
  have HOK := (show Hid _ from hok)
  have hlt := h.qB_lt
  have hz := zeroAck
  clear hV0 hV1 h hB s0 s1 bV bV0 bV1 hok
  unfold skV at *
  go_enter Try.func17, Try.ntmps17
  go_wp2_with fail
  rw [← HV0.out]
  try rw [zV0]
  rw [← HV1.out]
  refine Calls.mono (HMS.out ()) ?_
  clear HMS d0 d1 d2 d3 d4 d5 d6 d7 d8 d9 d10 d11 d12 d13 HV0 HV1 zV0
  rintro e w2 ⟨rfl, b2⟩
  obtain ⟨hq, hB, s0, s1, bV⟩ := HH.out
  have b02 : Below w.heap.size w w2 := bV.trans (b2.mono bV.size)
  obtain ⟨V3, hV3⟩ : ∃ V3, V3 = w2.alloc (.cells #[.int .i64 0, .int .i64 0, .bool false, .bool false] 58) := ⟨_, rfl⟩
  have b3 : Below w2.heap.size w2 V3 := by rw [hV3]; exact (Below.refl _ _).alloc (Nat.le_refl _) _
  have b03 : Below w.heap.size w V3 := b02.trans (b3.mono b02.size)
  have t0 := (s0.below b2).below b3
  have t1 := (s1.below b2).below b3
  have e2 := (s0.below b2).cell 2 _ rfl
  have hw2l : w.heap.size < w2.heap.size := (s0.below b2).lt
  have ab3 : AcW w2.heap.size 0 0 false false V3 := by
    have sA := Stc.new w2 [.int .i64 0, .int .i64 0, .bool false, .bool false] 58 V3 hV3
    exact ⟨⟨_, (0, 0), by rw [hV3]; exact World.alloc_heap_new w2 _⟩, sA.cell 0 _ rfl, sA.cell 1 _ rfl, sA.cell 2 _ rfl, sA.cell 3 _ rfl, sA.free⟩
  have hw2s : w.heap.size + 2 ≤ w2.heap.size := by have := t1.lt; have := (s1.below b2).lt; omega
  have HMV := (show Hid _ from fun (_ : Unit) => move_any (hq.below b03) hL hS hw ab3 (by omega) (by omega) t G hc ht hG (by omega))
  have HX := (show Hid _ from And.intro hq (And.intro hB (And.intro t0 (And.intro t1 b03))))
  have HV3 := (show Hid _ from hV3)
  clear hV3 b3 b03 t0 t1 ab3 hq hB s0 s1 bV b2 HH
  go_wp2_with fail
  rw [← HV3.out]
  refine Calls.mono (HMV.out ()) ?_
  clear HMV e2 HV3
  rintro e w4 ⟨rfl, hq4, ha4, hf4⟩
  obtain ⟨hq, hB, t0, t1, b03⟩ := HX.out
  have hnA : ∀ b, w.heap.size ≤ b → b ≠ w2.heap.size → ¬ qA q nb pa w2.heap.size b := fun b hb hne e => by
    rcases e with e | e
    · have := hlt b e; omega
    · exact hne e
  have u0 := t0.fr hf4 (hnA _ (Nat.le_refl _) (by omega))
  have u1 := t1.fr hf4 (hnA _ (by omega) (by omega))
  have e10 := u0.cell 10 _ rfl
  have hbk4 : ∀ b o s, ba = some ⟨b, o, s⟩ → ¬ qA q nb pa w2.heap.size b := fun b o s e e2 => by
    obtain ⟨k1, k2⟩ := hbk b o s e
    rcases e2 with e2 | e2
    · exact k2 e2
    · omega
  have hdl : (L.drop G).length = L.length - G := List.length_drop
  have hcs : ∀ wy, sumG (cntP wy) L G ≤ 100000 := fun wy => Nat.le_trans (sumG_up _ _ _) (Nat.le_trans (sumG_le (cntP_le wy) L L.length) (by rw [← sumL_G]; exact hS))
  have HTK := (show Hid _ from fun (_ : Unit) => take_any hq4 (by omega) (Nat.le_trans (drop_sum L G) hS) (fun x hx => hw x (List.mem_of_mem_drop hx)) ha4 (by have := hcs 0; omega) (by have := hcs 1; omega) ((hB.below b03).fr hf4 hbk4) hbk4)
  have HDL := (show Hid _ from hdl)
  clear hdl hcs
  have HY := (show Hid _ from And.intro u1 ((Fr.of_below (P := qA q nb pa w2.heap.size) b03).trans hf4))
  clear hq hB t0 t1 b03 hq4 ha4 hf4 u0 u1 HX
  go_wp2_with fail
  refine Calls.mono (HTK.out ()) ?_
  clear HTK e10
  rintro e w5 ⟨he, hq5, ha5, hf5⟩
  obtain ⟨far, hfar⟩ : ∃ far, far = farI bs (L.drop G) (L.drop G).length := ⟨_, rfl⟩
  rw [← hfar] at he
  subst he
  have hml : ∀ x ∈ skL bs G L, x.1.ms ≤ 100000 := by
    intro x hx
    obtain ⟨i, hi⟩ := List.getElem?_of_mem hx
    unfold skL at hi
    rw [mapI_at] at hi
    obtain ⟨y, hy, rfl⟩ := Option.map_eq_some_iff.1 hi
    have hym := hm y (List.mem_of_mem_drop (List.mem_of_getElem? hy))
    split
    · unfold tkP
      split
      · split <;> exact hym
      · split <;> exact hym
    · exact hym
  have hsl : (skL bs G L).length = L.length - G := by unfold skL; rw [mapI_len, HDL.out]
  have hfl := farI_le bs (L.drop G) (L.drop G).length
  have hdl := HDL.out
  have HMI := (show Hid _ from fun (_ : Unit) => miss_any (L := skL bs G L) hq5 (by omega) hml ha5 far (by omega))
  have HFR := (show Hid _ from hfar)
  have HZ := (show Hid _ from And.intro (HY.out.1.fr hf5 (hnA _ (by omega) (by omega))) (HY.out.2.trans hf5))
  clear hq5 ha5 hf5 HY hml hfl hdl hsl hbk4 hfar
  go_wp2_with fail
  refine Calls.mono (HMI.out ()) ?_
  clear HMI
  rintro e w6 ⟨rfl, hq6, ha6, hf6⟩
  have e0 : 0 + sumG (cntP 0) L G + sumI (tkN 0 bs) (L.drop G) (L.drop G).length = skB 0 bs G L := by unfold skB; omega
  have e1 : 0 + sumG (cntP 1) L G + sumI (tkN 1 bs) (L.drop G) (L.drop G).length = skB 1 bs G L := by unfold skB; omega
  have e3 : (false || decide (0 < sumG fastP (skL bs G L) (min (far - 1) (skL bs G L).length))) = skFast bs G L := by unfold skFast skF; rw [Bool.false_or, HFR.out]
  rw [e0, e1, e3] at ha6
  obtain ⟨B0, hB0⟩ : ∃ B0, B0 = skB 0 bs G L := ⟨_, rfl⟩
  obtain ⟨B1, hB1⟩ : ∃ B1, B1 = skB 1 bs G L := ⟨_, rfl⟩
  obtain ⟨B3, hB3⟩ : ∃ B3, B3 = skFast bs G L := ⟨_, rfl⟩
  obtain ⟨B2, hB2⟩ : ∃ B2, B2 = decide (0 < G) := ⟨_, rfl⟩
  rw [← hB0, ← hB1, ← hB2, ← hB3] at ha6
  have HBS := (show Hid _ from And.intro hB0 (And.intro hB1 (And.intro hB2 hB3)))
  clear e0 e1 e3 hB0 hB1 hB2 hB3
  have s6 := HZ.out.1.fr hf6 (hnA _ (by omega) (by omega))
  have hfr6 := HZ.out.2.trans hf6
  have a0 := ha6.c0
  have a1 := ha6.c1
  have a2 := ha6.c2
  have a3 := ha6.c3
  have g0 := s6.c0
  have g1 := s6.c1
  have g2 := s6.c2
  have g3 := s6.c3
  have f0 := s6.free 0
  have f1 := s6.free 1
  have f2 := s6.free 2
  have f3 := s6.free 3
  have HW := (show Hid _ from And.intro hq6 (And.intro hfr6 (And.intro s6 ha6)))
  clear hq6 ha6 hf6 s6 hfr6 HZ hnA hTl hGT hG hbk hw hm hS hL
  go_wp2
  obtain ⟨hq6, hfr6, s6, ha6⟩ := HW.out
  obtain ⟨rB0, rB1, rB2, rB3⟩ := HBS.out
  have sF := (((s6.put0 B0).put1 B1).put2 B2).put3 B3
  have hX : ∃ X, X = (((w6.setCell ⟨w.heap.size + 1, 0, none⟩ (.int .i64 (B0 : Nat))).setCell ⟨w.heap.size + 1, 1, none⟩ (.int .i64 (B1 : Nat))).setCell ⟨w.heap.size + 1, 2, none⟩ (.bool B2)).setCell ⟨w.heap.size + 1, 3, none⟩ (.bool B3) := ⟨_, rfl⟩
  obtain ⟨X, hX⟩ := hX
  have fX : Fr (fun b => b = w.heap.size + 1) w6 X := by
    rw [hX]
    exact (((Fr.setCell (fun b => b = w.heap.size + 1) w6 ⟨w.heap.size + 1, 0, none⟩ _ rfl).trans (Fr.setCell _ _ _ _ rfl)).trans (Fr.setCell _ _ _ _ rfl)).trans (Fr.setCell _ _ _ _ rfl)
  rw [← hX] at sF
  rw [← hX]
  have qX := hq6.fr fX (fun e => s6.bt.ne (e ▸ hq6.tq) (by decide) rfl) (fun e => s6.bt.ne (e ▸ hq6.tn) (by decide) rfl) (fun g hg e => s6.bt.ne (e ▸ hq6.row.bt g hg) (by decide) rfl) (fun g hg e => s6.bt.ne (e ▸ hg) (by decide) rfl)
  try simp only [Exit.inBlock, Exit.then]
  refine bodyPost_ret (results_cellE2 rfl _ _ (w.heap.size + 1) 0 [.int .i64 (B0 : Nat), .int .i64 (B1 : Nat), .bool B2, .bool B3] _ rfl (fun j v hv => ?_) Try.underlying58 rfl (by kernel_rfl)) rfl ?_
  · rw [Nat.zero_add]
    have hj : j < 4 := (List.getElem?_eq_some_iff.1 hv).1
    obtain rfl | rfl | rfl | rfl : j = 0 ∨ j = 1 ∨ j = 2 ∨ j = 3 := by omega
    · injection hv with hv; subst hv; exact sF.c0
    · injection hv with hv; subst hv; exact sF.c1
    · injection hv with hv; subst hv; exact sF.c2
    · injection hv with hv; subst hv; exact sF.c3
  · refine ⟨by rw [rB0, rB1, rB2, rB3]; rfl, by unfold skM skF; rw [← HFR.out]; exact qX, ?_⟩
    have hall : Fr (fun b => qA q nb pa w2.heap.size b ∨ b = w.heap.size + 1) w X := (hfr6.mono (fun b _ e => .inl e)).trans (fX.mono (fun b _ e => .inr e))
    exact hall.mono (fun b hb e => by
      rcases e with (e | e) | e
      · exact e
      · exfalso; omega
      · exfalso; omega)
end Go.Proofs.Ytconfmjgoipejaa
namespace Go.Proofs.Ytconfmjgoipejaa
open Go.RowKit Go.Shelf
/-- What mayPush answers. -/
def mpE (outs st dn tot : Nat) : Nat := if outs ≤ st then 14 else if dn = 0 ∨ 4096 < dn then 6 else if 8192 < tot + dn then 10 else 0
set_option maxRecDepth 100000 in
set_option maxHeartbeats 4000000 in
theorem mayPush_any {w : World} {q nb : Nat} {pa : Option Addr} {cap : Nat} {L : List PcA} {cum size : Nat} {nx : List Nat} (h : QuW w q nb pa cap L cum size nx) (hL : L.length ≤ 100000) (hS : sumL L L.length ≤ 100000) (st ss pp : Nat) (fr : Bool) (da : Option Addr) (dn dc : Nat) (hst : st < 65536) (hdn : dn ≤ 140737488351232) :
    Calls Try.prog 21 #[.pointer (some ⟨q, 0, none⟩), .agg #[.int .u16 (st : Nat), .int .u16 (ss : Nat), .int .u32 (pp : Nat), .bool fr, .slice da dn dc]] w fun e w' => e = .returned (.int .i64 (mpE nx.length st dn (sumL L L.length) : Nat)) ∧ Below w.heap.size w w' := by
  obtain ⟨V, hV⟩ : ∃ V, V = w.alloc (.cells #[.int .u16 (st : Nat), .int .u16 (ss : Nat), .int .u32 (pp : Nat), .bool fr, .slice da dn dc] 38) := ⟨_, rfl⟩
  have bV : Below w.heap.size w V := by rw [hV]; exact (Below.refl _ _).alloc (Nat.le_refl _) _
  have sV := Stc.new w [.int .u16 (st : Nat), .int .u16 (ss : Nat), .int .u32 (pp : Nat), .bool fr, .slice da dn dc] 38 V hV
  have HLF := (show Hid _ from fun (W : World) (hb : Below w.heap.size w W) => left_any (h.below hb) hL hS)
  have c2 := (h.below bV).c2
  have d0 := sV.cell 0 _ rfl
  have d4 := sV.cell 4 _ rfl
  have zV : w.heap.size < V.heap.size := by rw [hV]; simp
  have HV := (show Hid _ from And.intro hV (And.intro bV zV))
  obtain ⟨outs, ho⟩ : ∃ outs, outs = nx.length := ⟨_, rfl⟩
  rw [← ho] at c2 ⊢
  obtain ⟨tot, ht⟩ : ∃ tot, tot = sumL L L.length := ⟨_, rfl⟩
  rw [← ht] at HLF hS ⊢
  have hnc := h.tn.lt
  clear hV bV sV zV h ho ht
  by_cases h1 : outs ≤ st
  · have g1 : (st : Int) ≥ (outs : Int) := by omega
    have HE : Hid (mpE outs st dn tot = 14) := by show _ = _; unfold mpE; rw [if_pos h1]
    go_enter Try.func21, Try.ntmps21
    go_wp2_with fail
    rw [← HV.out.1]
    go_quiet (fail)
    all_goals
      go_wp2
      go_ret
      exact ⟨by rw [HE.out]; rfl, by first | exact HV.out.2.1 | exact below_drewN HV.out.2.1 _⟩
  · have g1 : ¬ (st : Int) ≥ (outs : Int) := by omega
    by_cases h2 : dn = 0 ∨ 4096 < dn
    · have HE : Hid (mpE outs st dn tot = 6) := by show _ = _; unfold mpE; rw [if_neg h1, if_pos h2]
      by_cases h0 : dn = 0
      · subst h0
        clear h2 h1
        go_enter Try.func21, Try.ntmps21
        go_wp2_with fail
        rw [← HV.out.1]
        go_quiet (fail)
        all_goals
          go_wp2
          go_ret
          exact ⟨by rw [HE.out]; rfl, by first | exact HV.out.2.1 | exact below_drewN HV.out.2.1 _⟩
      · have g2 : ((dn : Int) == 0) = false := by simp; omega
        have g3 : decide ((4096 : Int) < (dn : Int)) = true := by simp; omega
        have g4 : (dn : Int) > 4096 := by omega
        clear h2 h1
        go_enter Try.func21, Try.ntmps21
        go_wp2_with fail
        rw [← HV.out.1]
        go_quiet (fail)
        all_goals
          go_wp2
          go_ret
          exact ⟨by rw [HE.out]; rfl, by first | exact HV.out.2.1 | exact below_drewN HV.out.2.1 _⟩
    · have g2 : ((dn : Int) == 0) = false := by simp; omega
      have g3 : decide ((4096 : Int) < (dn : Int)) = false := by simp; omega
      have g4 : ¬ (4096 : Int) < (dn : Int) := by omega
      have hdm : dn ≤ 4096 := by omega
      have HE : Hid (mpE outs st dn tot = if 8192 < tot + dn then 10 else 0) := by show _ = _; unfold mpE; rw [if_neg h1, if_neg h2]
      clear h2 h1
      go_enter Try.func21, Try.ntmps21
      go_wp2_with fail
      rw [← HV.out.1]
      go_quiet (fail)
      all_goals
        go_wp2_with fail
        iterate 1
          refine Calls.mono (HLF.out _ (by first | exact HV.out.2.1 | exact below_drewN HV.out.2.1 _)) ?_
          rintro e w2 ⟨rfl, b2⟩
          have e4 := (b2.cell (p := ⟨w.heap.size, 4, none⟩) HV.out.2.2).trans d4
          have HB2 : Hid (Below w.heap.size w w2) := by first | exact HV.out.2.1.trans (b2.mono (Nat.le_of_lt HV.out.2.2)) | exact (below_drewN HV.out.2.1 _).trans (b2.mono (Nat.le_of_lt HV.out.2.2))
          clear b2
          by_cases h5 : 8192 < tot + dn
          · have g5 : decide ((8192 : Int) < (tot : Int) + (dn : Int)) = true := by simp; omega
            have g6 : (8192 : Int) < (tot : Int) + (dn : Int) := by omega
            have hr : mpE outs st dn tot = 10 := by rw [HE.out, if_pos h5]
            have HR := (show Hid _ from hr)
            clear h5 hr
            go_wp2_with fail
            go_ret
            exact ⟨by rw [HR.out]; rfl, HB2.out⟩
          · have g5 : decide ((8192 : Int) < (tot : Int) + (dn : Int)) = false := by simp; omega
            have g6 : ¬ (8192 : Int) < (tot : Int) + (dn : Int) := by omega
            have hr : mpE outs st dn tot = 0 := by rw [HE.out, if_neg h5]
            have HR := (show Hid _ from hr)
            clear h5 hr
            go_wp2_with fail
            go_ret
            exact ⟨by rw [HR.out]; rfl, HB2.out⟩
end Go.Proofs.Ytconfmjgoipejaa
namespace Go.Proofs.Ytconfmjgoipejaa
open Go.RowKit Go.Shelf
def numV (f st ss pp : Nat) : List Value := [.int .u8 0, .int .u8 (f : Nat), .int .u32 0, .int .u16 (st : Nat), .int .u16 (ss : Nat), .int .u32 (pp : Nat), .int .u32 0, .int .u32 0, .int .u16 0, .int .u16 0, .slice none 0 0, .slice none 0 0, .slice none 0 0, .slice none 0 0]
section
variable {w : World} {q nb : Nat} {pa : Option Addr} {cap : Nat} {L : List PcA} {cum size : Nat} {nx : List Nat}
theorem QuW.setNx (h : QuW w q nb pa cap L cum size nx) {k : Nat} (hk : k < nx.length) (c : Nat) : QuW (w.setCell ⟨nb, k, none⟩ (.int .u16 (c : Nat))) q nb pa cap L cum size (nx.set k c) := by
  obtain ⟨n1, n2, n3⟩ := h.own
  have hqn : q ≠ nb := h.tq.ne h.tn (by decide)
  have hs := setCell_at w nb k
  have h3 : (w.cell? ⟨nb, k, none⟩).isSome = true := by rw [h.nc k hk]; rfl
  have fq : Fr (fun b => b = nb) w (w.setCell ⟨nb, k, none⟩ (.int .u16 (c : Nat))) := Fr.setCell _ _ _ _ rfl
  refine ⟨h.tq.setCell _ _, h.tn.setCell _ _, ?_, ?_, ?_, ?_, fun i => ?_, fun i hi => ?_, fun i => ?_, ?_, fun x hx => ?_⟩
  · exact (fq.cell ⟨q, 0, none⟩ h.tq.lt hqn).trans h.c0
  · exact (fq.cell ⟨q, 1, none⟩ h.tq.lt hqn).trans h.c1
  · rw [List.length_set]; exact (fq.cell ⟨q, 2, none⟩ h.tq.lt hqn).trans h.c2
  · exact (fq.cell ⟨q, 3, none⟩ h.tq.lt hqn).trans h.c3
  · rw [World.frozen?_setCell]; exact h.fq i
  · rw [hs i _ h3]
    by_cases e : i = k
    · subst e
      rw [if_pos rfl, List.getD_eq_getElem?_getD, List.getElem?_set_self hk]
      rfl
    · rw [if_neg e, h.nc i (by simpa using hi)]
      simp only [List.getD_eq_getElem?_getD, List.getElem?_set_ne (fun e2 => e e2.symm)]
  · rw [World.frozen?_setCell]; exact h.fn i
  · exact h.row.fr fq (fun g hg e => (h.row.bt g hg).ne (e ▸ h.tn) (by decide) rfl)
  · exact (h.dat x hx).frY fq (fun g hg e => hg.ne (e ▸ h.tn) (by decide) rfl)
set_option maxRecDepth 100000 in
set_option maxHeartbeats 4000000 in
theorem number_free (w : World) (q st ss pp : Nat) (da : Option Addr) (dn dc : Nat) :
    Calls Try.prog 22 #[.pointer (some ⟨q, 0, none⟩), .agg #[.int .u16 (st : Nat), .int .u16 (ss : Nat), .int .u32 (pp : Nat), .bool true, .slice da dn dc]] w fun e w' => e = .returned (.agg (numV 4 st 0 pp).toArray) ∧ Below w.heap.size w w' := by
  go_enter Try.func22, Try.ntmps22
  go_wp2_with fail
  refine bodyPost_ret (results_cellE rfl _ _ (w.heap.size + 1) 0 (numV 4 st 0 pp) _ rfl (fun j v hv => ?_) Try.underlying47 rfl (by kernel_rfl)) rfl ?_
  · have s1 := Stc.new (w.alloc (.cells #[.int .u16 (st : Nat), .int .u16 (ss : Nat), .int .u32 (pp : Nat), .bool true, .slice da dn dc] 38)) (numV 4 st 0 pp) 47 _ rfl
    have z1 : (w.alloc (.cells #[.int .u16 (st : Nat), .int .u16 (ss : Nat), .int .u32 (pp : Nat), .bool true, .slice da dn dc] 38)).heap.size = w.heap.size + 1 := by simp
    rw [z1] at s1
    exact (s1.below ((Below.refl _ _).alloc (Nat.le_refl _) _)).range j v hv
  · exact ⟨rfl, ((((Below.refl _ _).alloc (Nat.le_refl _) _).alloc (by simp) _).alloc (by simp; omega) _)⟩
theorem Stc.putQ {w : World} {q : Nat} {cs : List Value} (h : Stc w q cs) {j : Nat} (hj : j < cs.length) (u : Value) : Stc (w.setCell ⟨q, j, none⟩ u) q (cs.set j u) := by
  refine ⟨by simpa [World.setCell] using h.lt, fun i v hv => ?_, fun i => by rw [World.frozen?_setCell]; exact h.free i⟩
  rw [setCell_at w q j i u (by rw [h.cell j _ (List.getElem?_eq_getElem hj)]; rfl)]
  by_cases e : i = j
  · subst e
    rw [if_pos rfl]
    rw [List.getElem?_set_self hj] at hv
    exact hv
  · rw [if_neg e]
    rw [List.getElem?_set_ne (fun e2 => e e2.symm)] at hv
    exact h.cell i v hv
theorem Stc.thereQ {w : World} {q : Nat} {cs : List Value} (h : Stc w q cs) : w.there q 0 cs.length := fun j hj => by
  rw [Nat.zero_add]
  exact ⟨by rw [h.cell j _ (List.getElem?_eq_getElem hj)]; rfl, h.free j⟩
theorem Stc.drewQ {w : World} {q : Nat} {cs : List Value} (h : Stc w q cs) : Stc w.drew q cs := ⟨h.lt, h.cell, h.free⟩
theorem Stc.otherQ {w : World} {q : Nat} {cs : List Value} (h : Stc w q cs) {b : Nat} (j : Nat) (u : Value) (hb : b ≠ q) : Stc (w.setCell ⟨b, j, none⟩ u) q cs :=
  h.fr (P := fun k => k = b) (Fr.setCell _ w ⟨b, j, none⟩ u rfl) (fun e => hb e.symm)
theorem fr_setCellsN (g : Nat) : ∀ (vs : List Value) (o : Nat) (w : World), Fr (fun k => k = g) w (w.setCells g o vs)
  | [], _, w => Fr.refl _ w
  | v :: vs, o, w => (Fr.setCell (fun k => k = g) w ⟨g, o, none⟩ v rfl).trans (fr_setCellsN g vs (o + 1) _)
theorem Fr.tail {P : Nat → Prop} {w W W' : World} (h : Fr P w W) (hb : Below w.heap.size W W') : Fr P w W' :=
  ⟨hb.os.trans h.os, hb.tape.trans h.tape, hb.output.trans h.output, Nat.le_trans h.size hb.size, fun k hk hn => (hb.block k hk).trans (h.block k hk hn)⟩
set_option maxRecDepth 100000 in
set_option maxHeartbeats 4000000 in
theorem number_due {w : World} (h : QuW w q nb pa cap L cum size nx) (st ss pp : Nat) (hst : st < nx.length) (hnx : ∀ i, nx.getD i 0 < 65536) (da : Option Addr) (dn dc : Nat) :
    Calls Try.prog 22 #[.pointer (some ⟨q, 0, none⟩), .agg #[.int .u16 (st : Nat), .int .u16 (ss : Nat), .int .u32 (pp : Nat), .bool false, .slice da dn dc]] w fun e w' => e = .returned (.agg (numV 0 st (nx.getD st 0) pp).toArray) ∧ QuW w' q nb pa cap L cum size (nx.set st ((nx.getD st 0 + 1) % 65536)) ∧ Fr (fun b => b = nb) w w' := by
  obtain ⟨V0, hV0⟩ : ∃ V, V = w.alloc (.cells #[.int .u16 (st : Nat), .int .u16 (ss : Nat), .int .u32 (pp : Nat), .bool false, .slice da dn dc] 38) := ⟨_, rfl⟩
  obtain ⟨V1, hV1⟩ : ∃ V, V = V0.alloc (.cells #[.int .u8 0, .int .u8 0, .int .u32 0, .int .u16 0, .int .u16 0, .int .u32 0, .int .u32 0, .int .u32 0, .int .u16 0, .int .u16 0, .slice none 0 0, .slice none 0 0, .slice none 0 0, .slice none 0 0] 47) := ⟨_, rfl⟩
  obtain ⟨U, hU⟩ : ∃ V, V = V1.alloc (.cells #[.int .u8 0, .int .u8 0, .int .u32 0, .int .u16 (st : Nat), .int .u16 0, .int .u32 (pp : Nat), .int .u32 0, .int .u32 0, .int .u16 0, .int .u16 0, .slice none 0 0, .slice none 0 0, .slice none 0 0, .slice none 0 0] 47) := ⟨_, rfl⟩
  have z0 : V0.heap.size = w.heap.size + 1 := by rw [hV0]; simp
  have z1 : V1.heap.size = w.heap.size + 1 + 1 := by rw [hV1]; simp [z0]
  have zU : U.heap.size = w.heap.size + 1 + 1 + 1 := by rw [hU]; simp [z1]
  have b0 : Below w.heap.size w V0 := by rw [hV0]; exact (Below.refl _ _).alloc (Nat.le_refl _) _
  have b1 : Below V0.heap.size V0 V1 := by rw [hV1]; exact (Below.refl _ _).alloc (Nat.le_refl _) _
  have bU : Below V1.heap.size V1 U := by rw [hU]; exact (Below.refl _ _).alloc (Nat.le_refl _) _
  have s0 := Stc.new w [.int .u16 (st : Nat), .int .u16 (ss : Nat), .int .u32 (pp : Nat), .bool false, .slice da dn dc] 38 V0 hV0
  have s1 := Stc.new V0 (numV 0 0 0 0) 47 V1 hV1
  have sU := Stc.new V1 (numV 0 st 0 pp) 47 U hU
  rw [z0] at s1
  rw [z1] at sU
  have t1 : BT U (w.heap.size + 1) 47 := BT.below (w := V1) ⟨_, _, by rw [hV1, ← z0]; exact World.alloc_heap_new V0 _⟩ bU
  have m0 := ((s0.below b1).below bU).cell 0 _ rfl
  have r1 := s1.below bU
  have bW : Below w.heap.size w U := b0.trans ((b1.mono (by omega)).trans (bU.mono (by omega)))
  have hQ := h.below bW
  have hqn : q ≠ nb := h.tq.ne h.tn (by decide)
  have lq := h.tq.lt
  have ln := h.tn.lt
  have hv := hnx st
  have c2 := hQ.c2
  have n0 := hQ.nc st hst
  have fn := hQ.fn
  have x4 := sU.cell 4 _ rfl
  have f4 := sU.free
  have HU := (show Hid _ from And.intro hV0 (And.intro hV1 hU))
  have H := (show Hid _ from And.intro hQ (And.intro hst (And.intro hqn (And.intro t1 (And.intro r1 (And.intro sU (And.intro bW zU)))))))
  obtain ⟨sn, hsn⟩ : ∃ sn, sn = nx.getD st 0 := ⟨_, rfl⟩
  have HS := (show Hid _ from hsn)
  rw [← hsn] at n0 hv
  obtain ⟨outs, ho⟩ : ∃ outs, outs = nx.length := ⟨_, rfl⟩
  rw [← ho] at c2 hst
  obtain ⟨s2, hs2⟩ : ∃ s2, s2 = (sn + 1) % 65536 := ⟨_, rfl⟩
  have hwr : IntKind.u16.wrap ((sn : Int) + 1) = (s2 : Nat) := by rw [hs2, IntKind.wrap_u16]; omega
  have H2 := (show Hid _ from hs2)
  have HO := (show Hid _ from ho)
  have HQ0 := (show Hid _ from h)
  clear h ho hsn hnx hV0 hV1 hU z0 z1 zU b0 b1 bU s0 s1 sU t1 r1 bW hQ hs2
  go_enter Try.func22, Try.ntmps22
  go_wp2_with fail
  rw [← HU.out.1, ← HU.out.2.1, ← HU.out.2.2]
  go_region
  obtain ⟨V5, hV5⟩ : ∃ V, V = (U.setCell ⟨w.heap.size + 1 + 1, 4, none⟩ (.int .u16 (sn : Nat))).drew := ⟨_, rfl⟩
  have b5 : Below w.heap.size U V5 := by rw [hV5]; exact ((Below.refl _ _).setCell (by show w.heap.size ≤ w.heap.size + 1 + 1; omega) _).drew
  have hQ5 : QuW V5 q nb pa cap L cum size nx := by
    have hb : Below w.heap.size w V5 := H.out.2.2.2.2.2.2.1.trans b5
    exact HQ0.out.below hb
  have c25 := hQ5.c2
  have n05 := hQ5.nc st (by have := H.out.2.1; omega)
  have fn5 := hQ5.fn
  have s5 : Stc V5 (w.heap.size + 1 + 1) (numV 0 st sn pp) := by rw [hV5]; exact (H.out.2.2.2.2.2.1.putQ (j := 4) (by show 4 < 14; omega) _).drewQ
  have r5 : Stc V5 (w.heap.size + 1) (numV 0 0 0 0) := by rw [hV5]; exact (H.out.2.2.2.2.1.otherQ 4 _ (by omega)).drewQ
  have t5 : BT V5 (w.heap.size + 1) 47 := by rw [hV5]; exact H.out.2.2.2.1.setCell _ _
  have m5 : V5.cell? ⟨w.heap.size, 0, none⟩ = some (.int .u16 (st : Nat)) := by
    rw [hV5]
    have hf : Fr (fun k => k = w.heap.size + 1 + 1) U (U.setCell ⟨w.heap.size + 1 + 1, 4, none⟩ (.int .u16 (sn : Nat))) := Fr.setCell _ _ _ _ rfl
    exact (hf.cell ⟨w.heap.size, 0, none⟩ (by show w.heap.size < U.heap.size; rw [H.out.2.2.2.2.2.2.2]; omega) (by show ¬ w.heap.size = _; omega)).trans m0
  have z5 : V5.heap.size = w.heap.size + 1 + 1 + 1 := by rw [hV5, ← H.out.2.2.2.2.2.2.2]; simp [World.setCell, World.drew]
  rw [← HS.out] at n05
  rw [← HO.out] at c25
  have H5 := (show Hid _ from And.intro hQ5 (And.intro b5 (And.intro s5 (And.intro r5 (And.intro t5 z5)))))
  rw [← hV5]
  clear hV5 hQ5 b5 s5 r5 t5 z5 c2 n0 fn x4 f4 m0
  go_wp2_with fail
  go_region
  obtain ⟨V6, hV6⟩ : ∃ V, V = (V5.setCell ⟨nb, st, none⟩ (.int .u16 (s2 : Nat))).drew := ⟨_, rfl⟩
  obtain ⟨cs, hcs⟩ : ∃ cs, cs = numV 0 st sn pp := ⟨_, rfl⟩
  obtain ⟨hQ5, b5, s5, r5, t5, z5⟩ := H5.out
  have hQ6 : QuW V6 q nb pa cap L cum size (nx.set st s2) := by rw [hV6]; exact (hQ5.setNx H.out.2.1 s2).below (Below.refl _ _).drew
  have s6 : Stc V6 (w.heap.size + 1 + 1) cs := by rw [hV6, hcs]; exact (s5.otherQ st _ (by omega)).drewQ
  have r6 : Stc V6 (w.heap.size + 1) (numV 0 0 0 0) := by rw [hV6]; exact (r5.otherQ st _ (by omega)).drewQ
  have t6 : BT V6 (w.heap.size + 1) 47 := by rw [hV6]; exact t5.setCell _ _
  have f6 : Fr (fun b => b = nb) w V6 := by rw [hV6]; exact (Fr.put (P := fun b => b = nb) (Fr.of_below (H.out.2.2.2.2.2.2.1.trans b5)) ⟨nb, st, none⟩ _ (.inl rfl)).drew
  have hl : cs.length = 14 := by rw [hcs]; rfl
  have hone : ∀ v ∈ cs, v.oneCell' = true := by rw [hcs]; simp [numV, Value.oneCell']
  have hrg := s6.range
  have hth : V6.there (w.heap.size + 1) 0 cs.toArray.size := by
    have := r6.thereQ
    rwa [show cs.toArray.size = (numV 0 0 0 0).length from hl]
  have hi14 : (Try.prog.info? 47).map (·.size) = some cs.length := by rw [hl]; kernel_rfl
  have hi142 : (Try.prog.info? 47).map (·.size) = some cs.toArray.size := hi14
  have H6 := (show Hid _ from And.intro hcs (And.intro hQ6 (And.intro t6 f6)))
  rw [← hV6]
  clear hV6 hcs hQ6 s6 r6 t6 f6 hQ5 b5 s5 r5 t5 z5 c25 n05 fn5 m5
  go_wp2_with (first
    | refine wpList_load_mid rfl 47 _ rfl (w.heap.size + 1 + 1) 0 rfl cs _ hrg Try.underlying47 rfl hi14 ?_
    | refine wpList_store_mid rfl 47 _ _ rfl (w.heap.size + 1) 0 cs.toArray rfl rfl hth hi142 (all_oneCell_toArray hone) ?_
    | fail)
  try simp only [Exit.inBlock, Exit.then]
  refine bodyPost_ret (results_cellE rfl _ _ (w.heap.size + 1) 0 cs _ rfl (World.rangeAt_setCells_same _ _ _ _ hth) Try.underlying47 rfl hi14) rfl ?_
  obtain ⟨hcs, hQ6, t6, f6⟩ := H6.out
  refine ⟨by rw [hcs, HS.out], ?_, f6.tail ((fr_setCellsN (w.heap.size + 1) cs 0 V6).below _ f6.size (fun k hk => by omega))⟩
  have hs : s2 = (nx.getD st 0 + 1) % 65536 := by rw [H2.out, HS.out]
  rw [← hs]
  exact hQ6.fr (Q := fun k => k = w.heap.size + 1) (fr_setCellsN _ _ _ _) (by omega) (by omega) (fun g hg e => (hQ6.row.bt g hg).ne (e ▸ t6) (by decide) rfl) (fun g hg e => hg.ne (e ▸ t6) (by decide) rfl)
end
end Go.Proofs.Ytconfmjgoipejaa
namespace Go.Proofs.Ytconfmjgoipejaa
open Go.RowKit Go.Shelf
attribute [local go_sem] Oper.semAt_some
set_option maxRecDepth 100000 in
theorem chunks_call (da : Option Addr) (dn dc sz : Nat) (hz : 1 ≤ sz) (w : World) : Calls Try.prog 23 #[.slice da dn dc, .int .i64 (sz : Nat)] w fun e w' =>
    e = .returned (.func (.func 39) #[] #[.pointer (some ⟨w.heap.size, 0, none⟩), .pointer (some ⟨w.heap.size + 1, 0, none⟩)]) ∧ w' = (w.alloc (.cells #[.slice da dn dc] 36)).alloc (.cells #[.int .i64 (sz : Nat)] 3) := by
  have g1 : ¬ (sz : Int) < 1 := by omega
  go_enter Try.func23, Try.ntmps23
  go_wp2
  go_ret
  exact ⟨rfl, rfl⟩
theorem el8c : Try.prog.elem 36 = 5 := by simp [Program.elem, Try.underlying36]
theorem und8c : Try.prog.underlying 36 = some (.slice (Try.prog.elem 36)) := by rw [el8c]; exact Try.underlying36
theorem size8c (w : World) : (sizeOf (Try.prog.elem 36)).run Try.prog w = .ok 1 w := by kernel_rfl
theorem slice_fromC (b off n c x : Nat) (h : x ≤ n) (_hc : n ≤ c) : ∃ a', ∀ w, (Instr.slice 36 (.slice (some ⟨b, off, none⟩) n c) (some (.int .i64 (x : Nat))) none none).run Try.prog w = .ok (.slice (some a') (n - x) (c - x)) w := by
  refine ⟨if c = x then ⟨b, off, none⟩ else ⟨b, off + x, none⟩, fun w => ?_⟩
  rw [run_slice_l w 36 _ n c und8c .i64 x (by omega) (by omega), size8c]
  simp only [Result.andThen, sliced, Int.toNat_natCast]
  split <;> simp [Addr.add]
theorem slice_part (b off n c l m : Nat) (hm : 0 < m) (h : l + m ≤ n) (hc : n ≤ c) (w : World) : (Instr.slice 36 (.slice (some ⟨b, off, none⟩) n c) (some (.int .i64 (l : Nat))) (some (.int .i64 ((l : Int) + (m : Int)))) (some (.int .i64 ((l : Int) + (m : Int))))).run Try.prog w = .ok (.slice (some ⟨b, off + l, none⟩) m m) w := by
  rw [run_slice_lhm w 36 _ n c und8c .i64 .i64 .i64 l ((l : Int) + m) ((l : Int) + m) (by omega) (by omega) (by omega) (by omega), size8c]
  have e1 : ((l : Int) + (m : Int)).toNat = l + m := by omega
  simp only [Result.andThen, sliced, Int.toNat_natCast, e1]
  rw [if_neg (by omega)]
  simp [Addr.add]
/-- What the iterator reads: the box of the row, and that of the length. -/
structure CP (Bs Bn b off dn dc sz : Nat) (W : World) : Prop where
  row : W.cell? ⟨Bs, 0, none⟩ = some (.slice (some ⟨b, off, none⟩) dn dc)
  num : W.cell? ⟨Bn, 0, none⟩ = some (.int .i64 (sz : Nat))
abbrev qC (Bs Bn : Nat) : Nat → Prop := fun b => b = Bs ∨ b = Bn
def partN (dn sz k : Nat) : Nat := min sz (dn - k * sz)
abbrev partE (b off dn sz : Nat) (k : Nat) : Array Value := #[.slice (some ⟨b, off + k * sz, none⟩) (partN dn sz k) (partN dn sz k)]
theorem CP.kq {Bs Bn b off dn dc sz B C : Nat} {W W' : World} (h : CP Bs Bn b off dn dc sz W) (hk : Kq B C (qC Bs Bn) W W') : CP Bs Bn b off dn dc sz W' :=
  ⟨(hk.cell (.inr (.inl rfl))).trans h.row, (hk.cell (.inr (.inr rfl))).trans h.num⟩
set_option maxRecDepth 100000 in
set_option maxHeartbeats 2000000 in
theorem parts_itr (Bs Bn b off dn dc sz N : Nat) (hz : 1 ≤ sz) (hsz : sz ≤ 100000) (hdn : dn ≤ 100000) (hdc : dn ≤ dc) (hN1 : ∀ k, k < N → k * sz < dn) (hN2 : dn ≤ N * sz) :
    Itr 39 #[.pointer (some ⟨Bs, 0, none⟩), .pointer (some ⟨Bn, 0, none⟩)] (partE b off dn sz) N 0 (fun _ _ => some true) (qC Bs Bn) (CP Bs Bn b off dn dc sz) := by
  intro m l J Jx W hJ hJx hP hlW hQW hY h0
  refine callsIn_of_wp Try.func39 rfl trivial ?_ rfl
  simp only [Try.ntmps39, List.size_toArray, List.length_cons, List.length_nil, Nat.reduceAdd, Nat.reduceSub, Array.replicate_succ, Array.replicate_zero, List.push_toArray, List.append_toArray, List.nil_append, List.cons_append]
  gi_wp2
  gi_loopw [4] (fun v wr => ∃ k : Nat, k ≤ N ∧ v = .int .i64 ((k * sz : Nat) : Int) ∧ J k wr ∧ CP Bs Bn b off dn dc sz wr) (fun v _ => dn - (intOf v).toNat)
  case atStart =>
    exact ⟨0, by omega, by simp, h0, hP⟩
  case round =>
    obtain ⟨k, hk, rfl, hJ1, hP1⟩ := hrel
    clear h0 hP
    have hb := hP1.row
    have hr := hP1.num
    by_cases hk2 : k = N
    · subst hk2
      obtain ⟨lo, hlo⟩ : ∃ lo, lo = k * sz := ⟨_, rfl⟩
      rw [← hlo] at hN2 ⊢
      have hge : ¬ (lo : Int) < (dn : Int) := by omega
      clear hlo
      gi_wp2
      go_end0
      exact ⟨⟨_, rfl⟩, .inl hJ1⟩
    · have hk3 : k < N := by omega
      have hlt := hN1 k hk3
      have hnext : (k + 1) * sz = k * sz + sz := by rw [Nat.add_mul, Nat.one_mul]
      have hE : partE b off dn sz k = #[.slice (some ⟨b, off + k * sz, none⟩) (partN dn sz k) (partN dn sz k)] := rfl
      obtain ⟨pm, hpm⟩ : ∃ pm, pm = partN dn sz k := ⟨_, rfl⟩
      have hpv : pm = min sz (dn - k * sz) := hpm
      rw [← hpm] at hE
      obtain ⟨lo, hlo⟩ : ∃ lo, lo = k * sz := ⟨_, rfl⟩
      rw [← hlo] at hlt hnext hE hpv ⊢
      have hlt2 : (lo : Int) < (dn : Int) := by omega
      have hpp : 0 < pm ∧ lo + pm ≤ dn := by omega
      obtain ⟨a', hs1⟩ := slice_fromC b off dn dc lo (by omega) hdc
      have hmin : min (sz : Int) ((dn - lo : Nat) : Int) = (pm : Int) := by omega
      have hs3 := slice_part b off dn dc lo pm hpp.1 hpp.2 hdc
      have hpb := hpp.2
      have HN := (show Hid _ from And.intro hnext hlo)
      have hJd : J k wr.drew := hJ k wr wr.drew none hJ1 ⟨rfl, rfl, rfl, Nat.le_refl _, fun _ _ _ => rfl⟩ (fun r e => by cases e)
      have hPd : CP Bs Bn b off dn dc sz wr.drew := ⟨hP1.row, hP1.num⟩
      rcases hY k wr.drew hk3 hJd with ⟨_, hy0⟩ | ⟨hf, _⟩
      · obtain ⟨fy, ty, ay, by1, hy, hR⟩ := hy0 (m - 1)
        rw [hE] at hy
        clear hY hE hpv hpp hpm hlo hnext hN1 hN2
        gi_wp2
        gi_region
        all_goals
          gi_wp2
          refine ⟨fun h => (by cases h), hR.mono ?_⟩
          rintro e W3 (⟨rfl, hJ3, hk3⟩ | ⟨rfl, hJx3, _⟩)
          · have hP3 := hPd.kq hk3
            have hb := hP3.row
            have hr := hP3.num
            have hwr : IntKind.i64.wrap ((lo : Int) + (sz : Int)) = ((lo + sz : Nat) : Int) := by rw [IntKind.wrap_i64]; omega
            clear hR hy hs1 hs3 hmin
            gi_wp2
            go_roundw
            case rel => exact ⟨k + 1, by omega, by rw [HN.out.1]; go_num, hJ3, hP3⟩
            case measure => simp [intOf]; omega
          · clear hR hy hs1 hs3 hmin
            gi_wp2
            refine bodyPost_ret (results_none rfl _ _ _) rfl ?_
            exact ⟨⟨_, rfl⟩, .inr hJx3⟩
      · cases hf
end Go.Proofs.Ytconfmjgoipejaa
namespace Go.Proofs.Ytconfmjgoipejaa
open Go.RowKit
/-- Bytes laid over others from a place on. -/
def lay (zs : List Nat) (p : Nat) (ys : List Nat) : List Nat := zs.take p ++ (ys ++ zs.drop (p + ys.length))
theorem lay_len (zs : List Nat) (p : Nat) (ys : List Nat) (h : p + ys.length ≤ zs.length) : (lay zs p ys).length = zs.length := by simp [lay]; omega
theorem lay_getD (zs : List Nat) (p : Nat) (ys : List Nat) (h : p + ys.length ≤ zs.length) (i : Nat) : (lay zs p ys).getD i 0 = if p ≤ i ∧ i < p + ys.length then ys.getD (i - p) 0 else zs.getD i 0 := by
  unfold lay
  rw [getD_app, List.length_take, Nat.min_eq_left (by omega), getD_app]
  by_cases h1 : i < p
  · rw [if_pos h1, if_neg (by omega)]
    simp [List.getD_eq_getElem?_getD, h1]
  · rw [if_neg h1]
    by_cases h2 : i < p + ys.length
    · rw [if_pos (by omega), if_pos (by omega)]
    · rw [if_neg (by omega), if_neg (by omega)]
      simp only [List.getD_eq_getElem?_getD, List.getElem?_drop]
      rw [show p + ys.length + (i - p - ys.length) = i from by omega]
theorem lay_nil (zs : List Nat) (p : Nat) : lay zs p [] = zs := by simp [lay]
set_option maxRecDepth 100000 in
/-- copy into a row of the call's own: its run. -/
theorem copy_run (w : World) (B g off dl dc n c : Nat) (dp : Option Addr) (zs : List Nat) (hown : OwnB w B (some ⟨g, 0, none⟩) n c zs)
    (sa : Option Addr) (m sc : Nat) (ys : List Nat) (hsrc : Sl w sa m sc ys) (hdp : 0 < m → dp = some ⟨g, off, none⟩) (hm : m ≤ dl) (hfit : off + m ≤ n) :
    ∃ w', (∀ ty, (Builtin.copy_ #[36, 36] ty #[.slice dp dl dc, .slice sa m sc]).run Try.prog w = .ok (goInt m) w') ∧ OwnB w' B (some ⟨g, 0, none⟩) n c (lay zs off ys) ∧ w.grownBy w' (some g) := by
  have hsz : (Try.prog.info? 5).map (·.size) = some 1 := by kernel_rfl
  obtain ⟨hl2, hcap2, hroom2, hsm2, hnz2, hb2, hat2⟩ := hsrc
  by_cases h0 : m = 0
  · subst h0
    obtain rfl : ys = [] := List.eq_nil_of_length_eq_zero hl2
    refine ⟨w, fun ty => run_copy_none (P := Try.prog) w 36 36 ty 5 dp sa dl dc 0 sc Try.underlying36 hsz (by simp), ?_, World.grownBy.refl w _⟩
    rw [lay_nil]; exact hown
  · rcases hat2 with h1 | ⟨b, of2, rfl, _, hcell⟩
    · omega
    have hdp' := hdp (by omega)
    subst hdp'
    rcases hown.own.2 with ⟨hv, _⟩ | ⟨g', cap, cur, hv, hBg, hh, hnc, hcm, hcs, htake⟩
    · cases hv
    injection hv with e1 e2 e3
    injection e1 with e1
    injection e1 with e1
    subst e1 e3
    have hcl : cur.toList.length = c := by simpa using hcs
    have hml : (vals ys).length = m := by simp [vals, hl2]
    have htk : cur.toList.take n = vals zs := by simpa using htake
    have hsplit : cur.toList = vals zs ++ cur.toList.drop n := by rw [← htk]; exact (List.take_append_drop n _).symm
    have hvl : (vals zs).length = n := by simp [vals, hown.len]
    have hsrc : ∀ j u, (vals ys)[j]? = some u → w.cell? ((⟨b, of2, none⟩ : Addr).add j) = some u := by
      intro j u hj
      have hjl : j < ys.length := by
        have := (List.getElem?_eq_some_iff.1 hj).1
        simpa [vals] using this
      have ea : (⟨b, of2, none⟩ : Addr).add j = ⟨b, of2 + j, none⟩ := by
        unfold Addr.add
        split
        · subst_vars; rfl
        · rfl
      rw [ea, hcell j (by omega), ← hj, vals_at ys j hjl]
    have hr := fun ty => run_copy_row (P := Try.prog) w 36 36 ty 5 g off dl dc ⟨b, of2, none⟩ m sc cur 5 (vals ys) Try.underlying36 hsz hh (by rw [hml]; exact (Nat.min_eq_left hm).symm) hsrc (by rw [hml]; omega) (vals_one ys)
    simp only [hml, List.append_assoc] at hr
    refine ⟨_, hr, ?_⟩
    have hlist : cur.toList.take off ++ (vals ys ++ cur.toList.drop (off + (vals ys).length)) = vals (lay zs off ys) ++ cur.toList.drop n := by
      have e1 : cur.toList.take off = (vals zs).take off := by
        rw [← htk, List.take_take, Nat.min_eq_left (by omega)]
      have e2 : cur.toList.drop (off + (vals ys).length) = (vals zs).drop (off + (vals ys).length) ++ cur.toList.drop n := by
        conv => lhs; rw [hsplit]
        rw [List.drop_append_of_le_length (by rw [hvl, hml]; exact hfit)]
      rw [e1, e2]
      simp [lay, vals, List.map_take, List.map_drop]
    have hll : (vals (lay zs off ys)).length = n := by
      have := lay_len zs off ys (by rw [hown.len, hl2]; exact hfit)
      simp [vals, this, hown.len]
    refine ⟨⟨?_, ⟨by rw [hll]; omega, .inr ⟨g, c, _, rfl, hBg, setRow_heap w g _ _ _ _ hh, hnc, hcm, ?_, ?_⟩⟩, fun i => ?_⟩, ⟨rfl, rfl, rfl, by simp [World.setRow], fun k _ hk => setRow_other w g k _ (fun e => hk (by rw [e]))⟩⟩
    · rw [lay_len zs off ys (by rw [hown.len, hl2]; exact hfit)]; exact hown.len
    · have := congrArg List.length hlist
      rw [hml] at this
      rw [List.size_toArray, this, List.length_append, hll, List.length_drop, hcl]
      omega
    · have hl3 := hlist
      rw [hml] at hl3
      simp only [Nat.mul_one]
      rw [hl3, List.take_append_of_le_length (by rw [hll]; exact Nat.le_refl _), List.take_of_length_le (by rw [hll]; exact Nat.le_refl _)]
    · rw [lay_getD zs off ys (by rw [hown.len, hl2]; exact hfit)]
      split
      · exact hb2 _
      · exact hown.bnd _
set_option maxHeartbeats 1000000 in
theorem clone_any (a : Option Addr) (n c : Nat) (zs : List Nat) (w : World) (hs : Sl w a n c zs) (hn : n ≤ 140737488351232) :
    Calls Try.prog 24 #[.slice a n c] w fun e w' => ∃ a' c', e = .returned (.slice a' n c') ∧ OwnB w' w.heap.size a' n c' zs ∧ (0 < n → ∃ g, a' = some ⟨g, 0, none⟩) ∧ Below w.heap.size w w' := by
  have hq := fun (a : Option Addr) (n c : Nat) (w : World) => Lib.run_eql_slice_nil (P := Try.prog) w 36 5 a n c 0 0 Try.underlying36
  cases a with
  | none =>
    have hc := hs.nz rfl
    have hn0 := hs.cap
    subst hc
    obtain rfl : n = 0 := by omega
    obtain rfl : zs = [] := List.eq_nil_of_length_eq_zero hs.len
    go_enter Try.func24, Try.ntmps24
    go_wp2
    go_ret
    exact ⟨none, 0, rfl, OwnB.nil _ _, fun h => by omega, Below.refl _ _⟩
  | some p =>
    have ho : OwnB (w.alloc (.cells #[] 5)) w.heap.size (some ⟨w.heap.size, 0, none⟩) 0 0 [] := own_empty w
    go_enter Try.func24, Try.ntmps24
    go_wp2_with (at_builtin; go_must (refine app_list rfl _ _ rfl w.heap.size _ 0 0 [] rfl ho _ n c zs rfl (hs.alloc _) (by omega) (by simp) ?_))
    intro a1 c1 w1 ho1 hg1
    have hb1 : Below w.heap.size w w1 := ((Below.refl _ _).alloc (Nat.le_refl _) _).trans (ho.up hg1 (by simp))
    go_wp2
    go_ret
    refine ⟨a1, c1, rfl, ho1, fun hpos => ?_, hb1⟩
    rcases ho1.own.2 with ⟨_, h0⟩ | ⟨g, cap, cur, hv, _⟩
    · omega
    · injection hv with e1
      exact ⟨g, e1⟩
end Go.Proofs.Ytconfmjgoipejaa
namespace Go.Proofs.Ytconfmjgoipejaa
open Go.RowKit Go.Shelf
section
variable {w : World} {q nb : Nat} {pa : Option Addr} {cap : Nat} {L : List PcA} {cum size : Nat} {nx : List Nat}
/-- What an append of a piece makes. -/
structure PshW (w Va : World) (q nb : Nat) (pa : Option Addr) (cap : Nat) (L : List PcA) (cum size : Nat) (nx : List Nat) (y : PcA) (g c2 : Nat) (Vb : World) : Prop where
  run : ∀ ty, (Builtin.append_ #[69, 69] ty #[.slice pa L.length cap, .slice (some ⟨w.heap.size, 0, none⟩) 1 1]).run Try.prog Va = .ok (.slice (some ⟨g, 0, none⟩) (L.length + 1) c2) Vb
  qc : Vb.cell? ⟨q, 3, none⟩ = some (.slice pa L.length cap)
  qf : Vb.frozen? ⟨q, 3, none⟩ = false
  qu : QuW (Vb.setCell ⟨q, 3, none⟩ (.slice (some ⟨g, 0, none⟩) (L.length + 1) c2)) q nb (some ⟨g, 0, none⟩) c2 (L ++ [y]) cum size nx
  fr : Fr (fun b => (Value.slice pa L.length cap).ownBlock = some b) w Vb
  own : (Value.slice pa L.length cap).ownBlock = some g ∨ w.heap.size ≤ g
theorem QuW.push (h : QuW w q nb pa cap L cum size nx) (hL : L.length ≤ 1000000) (y : PcA) (hy : OwnB w 0 y.2.1 y.1.zs.length y.2.2 y.1.zs) (Va : World) (hVa : Va = w.alloc (.cells (pcV y).toArray 82)) : ∃ g c2 Vb, PshW w Va q nb pa cap L cum size nx y g c2 Vb := by
  have bVa : Below w.heap.size w Va := by rw [hVa]; exact (Below.refl _ _).alloc (Nat.le_refl _) _
  have zVa : Va.heap.size = w.heap.size + 1 := by rw [hVa]; simp
  have sVa := Stc.new w (pcV y) 82 Va hVa
  have hA := h.below bVa
  obtain ⟨g, c2, Vb, hr, hown, hg, hor, _⟩ := OwnG.app layQ hA.row 0 y ⟨w.heap.size, 0, none⟩ (fun j u hj => by
    have ea : (⟨w.heap.size, 0, none⟩ : Addr).add j = ⟨w.heap.size, j, none⟩ := by
      unfold Addr.add
      split <;> simp_all
    rw [ea]
    exact sVa.cell j u hj) (by simp [maxLen]; omega) (by omega) (Nat.zero_le _)
  have hrun : ∀ ty, (Builtin.append_ #[69, 69] ty #[.slice pa L.length cap, .slice (some ⟨w.heap.size, 0, none⟩) 1 1]).run Try.prog Va = .ok (.slice (some ⟨g, 0, none⟩) (L.length + 1) c2) Vb := fun ty => hr
  have hf : Fr (fun b => (Value.slice pa L.length cap).ownBlock = some b) Va Vb := Fr.grown hg (fun k e => e)
  obtain ⟨n1, n2, n3⟩ := hA.own
  have hl : (L ++ [y]).length = L.length + 1 := by simp
  have hq2 := hA.setRow (w' := Vb) (pa2 := some ⟨g, 0, none⟩) (cap2 := c2) (L2 := L ++ [y]) (by rw [hl]; exact hown) hf (fun x hx => by
    rcases List.mem_append.1 hx with hx | hx
    · exact (hA.dat x hx).frY hf n3
    · obtain rfl := List.mem_singleton.1 hx
      exact (hy.frY (Q := fun _ => False) (Fr.of_below bVa) (fun _ _ e => e)).frY hf n3)
  rw [hl] at hq2
  exact ⟨g, c2, Vb, hrun, (hf.cell ⟨q, 3, none⟩ hA.tq.lt n1).trans hA.c3, (hf.frozen ⟨q, 3, none⟩ hA.tq.lt n1).trans (hA.fq 3), hq2, (Fr.of_below bVa).trans (hf.mono (fun _ _ e => e)), hor.imp id (fun e => by omega)⟩
end
end Go.Proofs.Ytconfmjgoipejaa
namespace Go.Proofs.Ytconfmjgoipejaa
open Go.RowKit Go.Shelf
/-- The k-th piece of a message. -/
def newPc (cum n0 f st ss pp sz : Nat) (zs : List Nat) (k : Nat) : Pc := ⟨addV 4294967296 cum ((n0 + k + 1 : Nat) : Int), f, st, ss, pp, (zs.drop (k * sz)).take sz, 0, 0, 0⟩
section
variable {w W W' : World} {q nb bq bm bc : Nat} {pa0 : Option Addr} {L0 : List PcA} {cum size : Nat} {nx : List Nat} {mv : List Value} {f : Nat → Pc} {B k : Nat} {cc : List Value}
/-- Push behind k pieces: cc: the cells of its chunk. -/
structure PuR (w : World) (q nb bq bm bc : Nat) (pa0 : Option Addr) (L0 : List PcA) (cum size : Nat) (nx : List Nat) (mv : List Value) (f : Nat → Pc) (B : Nat) (k : Nat) (cc : List Value) (pa : Option Addr) (cap : Nat) (M : List PcA) (W : World) : Prop where
  qu : QuW W q nb pa cap (L0 ++ M) cum size nx
  ml : M.map (·.1) = (List.range k).map f
  ow : ∀ b, (Value.slice pa (L0 ++ M).length cap).ownBlock = some b → (qB q nb pa0 b ∧ b < w.heap.size) ∨ B ≤ b
  xq : Cx 23 bq (.pointer (some ⟨q, 0, none⟩)) W
  tm : BT W bm 38
  sm : Stc W bm mv
  tc : BT W bc 47
  sc : Stc W bc cc
  fr : Fr (qB q nb pa0) w W
variable {pa : Option Addr} {cap : Nat} {M : List PcA}
theorem PuR.len (h : PuR w q nb bq bm bc pa0 L0 cum size nx mv f B k cc pa cap M W) : M.length = k := by
  have := congrArg List.length h.ml
  simpa using this
theorem PuR.below (h : PuR w q nb bq bm bc pa0 L0 cum size nx mv f B k cc pa cap M W) (hb : Below W.heap.size W W') : PuR w q nb bq bm bc pa0 L0 cum size nx mv f B k cc pa cap M W' :=
  ⟨h.qu.below hb, h.ml, h.ow, h.xq.below hb, h.tm.below hb, h.sm.below hb, h.tc.below hb, h.sc.below hb, h.fr.tail (hb.mono h.fr.size)⟩
theorem PuR.drew (h : PuR w q nb bq bm bc pa0 L0 cum size nx mv f B k cc pa cap M W) : PuR w q nb bq bm bc pa0 L0 cum size nx mv f B k cc pa cap M W.drew := h.below (Below.refl _ _).drew
theorem PuR.setC (h : PuR w q nb bq bm bc pa0 L0 cum size nx mv f B k cc pa cap M W) (hbc : w.heap.size ≤ bc) {j : Nat} (hj : j < cc.length) (u : Value) : PuR w q nb bq bm bc pa0 L0 cum size nx mv f B k (cc.set j u) pa cap M (W.setCell ⟨bc, j, none⟩ u) := by
  have hqc : bq ≠ bc := h.xq.bt.ne h.tc (by decide)
  have hmc : bm ≠ bc := h.tm.ne h.tc (by decide)
  exact ⟨h.qu.var ⟨bc, j, none⟩ u h.tc (by decide) (by decide) (by decide) (by decide), h.ml, h.ow, h.xq.other _ u (fun e => hqc e.symm), h.tm.setCell _ _, h.sm.otherQ j u (fun e => hmc e.symm), h.tc.setCell _ _, h.sc.putQ hj u, h.fr.put _ _ (.inr hbc)⟩
theorem PuR.push (h : PuR w q nb bq bm bc pa0 L0 cum size nx mv f B k cc pa cap M W) (hB : w.heap.size ≤ B) (hBW : B ≤ W.heap.size) (y : PcA) (hy1 : y.1 = f k) {Va Vb : World} {g c2 : Nat} (hp : PshW W Va q nb pa cap (L0 ++ M) cum size nx y g c2 Vb) :
    PuR w q nb bq bm bc pa0 L0 cum size nx mv f B (k + 1) cc (some ⟨g, 0, none⟩) c2 (M ++ [y]) (Vb.setCell ⟨q, 3, none⟩ (.slice (some ⟨g, 0, none⟩) ((L0 ++ M).length + 1) c2)) := by
  obtain ⟨n1, n2, n3⟩ := h.qu.own
  have e1 : L0 ++ (M ++ [y]) = (L0 ++ M) ++ [y] := by rw [List.append_assoc]
  have hr := h.qu.row.bt
  have kq : ∀ {b : Nat} {T : TypeId}, BT W b T → T ≠ 82 → ¬ (Value.slice pa (L0 ++ M).length cap).ownBlock = some b := fun hb hT e => hb.ne (hr _ e) hT rfl
  have kt : ∀ {b : Nat} {T : TypeId}, BT W b T → T ≠ 71 → b ≠ q := fun hb hT => hb.ne h.qu.tq hT
  have tb : ∀ {b : Nat} {T : TypeId}, BT W b T → T ≠ 82 → BT Vb b T := fun hb hT => hb.same (hp.fr.block _ hb.lt (kq hb hT))
  refine ⟨by rw [e1]; exact hp.qu, ?_, ?_, (h.xq.fr hp.fr (kq h.xq.bt (by decide))).other _ _ (fun e => kt h.xq.bt (by decide) e.symm), (tb h.tm (by decide)).setCell _ _, (h.sm.fr hp.fr (kq h.tm (by decide))).otherQ 3 _ (fun e => kt h.tm (by decide) e.symm), (tb h.tc (by decide)).setCell _ _, (h.sc.fr hp.fr (kq h.tc (by decide))).otherQ 3 _ (fun e => kt h.tc (by decide) e.symm), ?_⟩
  · rw [List.map_append, h.ml, List.range_succ, List.map_append]
    simp [hy1]
  · intro b hb
    have hb : b = g := by
      simp [Value.ownBlock] at hb
      exact hb.symm
    subst hb
    rcases hp.own with e | e
    · exact h.ow _ e
    · exact .inr (Nat.le_trans hBW e)
  · refine Fr.put (P := qB q nb pa0) ?_ ⟨q, 3, none⟩ _ (.inl (.inl rfl))
    refine ⟨hp.fr.os.trans h.fr.os, hp.fr.tape.trans h.fr.tape, hp.fr.output.trans h.fr.output, Nat.le_trans h.fr.size hp.fr.size, fun b hb hn => ?_⟩
    refine (hp.fr.block b (Nat.lt_of_lt_of_le hb h.fr.size) (fun e => ?_)).trans (h.fr.block b hb hn)
    rcases h.ow b e with e2 | e2
    · exact hn e2.1
    · omega
theorem PuR.mid (h : PuR w q nb bq bm bc pa0 L0 cum size nx mv f B k cc pa cap M W) {y : PcA} {Va Vb : World} {g c2 : Nat} (hp : PshW W Va q nb pa cap (L0 ++ M) cum size nx y g c2 Vb) : Cx 23 bq (.pointer (some ⟨q, 0, none⟩)) Vb ∧ Stc Vb bc cc := by
  have hr := h.qu.row.bt
  have kq : ∀ {b : Nat} {T : TypeId}, BT W b T → T ≠ 82 → ¬ (Value.slice pa (L0 ++ M).length cap).ownBlock = some b := fun hb hT e => hb.ne (hr _ e) hT rfl
  exact ⟨h.xq.fr hp.fr (kq h.xq.bt (by decide)), h.sc.fr hp.fr (kq h.tc (by decide))⟩
/-- The cells of a Data chunk. -/
def chV (f t st ss pp : Nat) (a : Option Addr) (n c : Nat) : List Value := [.int .u8 0, .int .u8 (f : Nat), .int .u32 (t : Nat), .int .u16 (st : Nat), .int .u16 (ss : Nat), .int .u32 (pp : Nat), .int .u32 0, .int .u32 0, .int .u16 0, .int .u16 0, .slice none 0 0, .slice none 0 0, .slice none 0 0, .slice a n c]
/-- Push between two parts. -/
structure PuI (w : World) (q nb bq bm bc : Nat) (pa0 : Option Addr) (L0 : List PcA) (cum size : Nat) (nx : List Nat) (mv : List Value) (f : Nat → Pc) (B fl st ss pp db off dn dc : Nat) (zs : List Nat) (k : Nat) (W : World) : Prop where
  pu : ∃ t a n c pa cap M, PuR w q nb bq bm bc pa0 L0 cum size nx mv f B k (chV fl t st ss pp a n c) pa cap M W
  sl : Sl W (some ⟨db, off, none⟩) dn dc zs
theorem Stc.grownQ {row : Option Nat} {q : Nat} {cs : List Value} {T : TypeId} (h : Stc W q cs) (hb : BT W q T) (hg : W.grownBy W' row) (hr : ∀ r, row = some r → ∃ o : Obj, W.heap[r]? = some o ∧ o.isCells = false) : Stc W' q cs :=
  h.fr (P := fun b => row = some b) (Fr.grown hg (fun k e => e)) (fun e => by
    obtain ⟨o, ho, hc⟩ := hr q e
    obtain ⟨cur, r, hh⟩ := hb
    rw [hh] at ho
    obtain rfl := Option.some.inj ho
    cases hc)
theorem PuR.grown {row : Option Nat} (h : PuR w q nb bq bm bc pa0 L0 cum size nx mv f B k cc pa cap M W) (hg : W.grownBy W' row) (hw : ∀ r, row = some r → w.heap.size ≤ r) (hr : ∀ r, row = some r → ∃ o : Obj, W.heap[r]? = some o ∧ o.isCells = false) : PuR w q nb bq bm bc pa0 L0 cum size nx mv f B k cc pa cap M W' :=
  ⟨h.qu.grown hg hr, h.ml, h.ow, h.xq.grown hg hr, h.tm.grown hg hr, h.sm.grownQ h.tm hg hr, h.tc.grown hg hr, h.sc.grownQ h.tc hg hr, h.fr.new hg hw⟩
theorem Sl.frQ {a : Option Addr} {n c : Nat} {zs : List Nat} {Q : Nat → Prop} (h : Sl W a n c zs) (hf : Fr Q W W') (hq : ∀ b o s, a = some ⟨b, o, s⟩ → ¬ Q b) : Sl W' a n c zs := by
  obtain ⟨h1, h2, h3, hsm, hnz, h4, h5⟩ := h
  refine ⟨h1, h2, h3, hsm, hnz, h4, ?_⟩
  rcases h5 with h5 | ⟨b, off, rfl, hlt, hc⟩
  · exact .inl h5
  · refine .inr ⟨b, off, rfl, by have := hf.size; omega, fun i hi => ?_⟩
    rw [hf.cell ⟨b, off + i, none⟩ hlt (hq b off none rfl)]; exact hc i hi
theorem PuI.grown {row : Option Nat} {fl st ss pp db off dn dc : Nat} {zs : List Nat} (h : PuI w q nb bq bm bc pa0 L0 cum size nx mv f B fl st ss pp db off dn dc zs k W) (hd : db < w.heap.size) (hg : W.grownBy W' row) (hw : ∀ r, row = some r → w.heap.size ≤ r) (hr : ∀ r, row = some r → ∃ o : Obj, W.heap[r]? = some o ∧ o.isCells = false) : PuI w q nb bq bm bc pa0 L0 cum size nx mv f B fl st ss pp db off dn dc zs k W' := by
  obtain ⟨⟨t, a, n, c, pa, cap, M, hP⟩, hs⟩ := h
  refine ⟨⟨t, a, n, c, pa, cap, M, hP.grown hg hw hr⟩, Sl.frQ hs (Fr.grown (P := fun b => row = some b) hg (fun k e => e)) (fun b o s e hb => ?_)⟩
  injection e with e
  injection e with e1 _ _
  have := hw b hb
  omega
theorem Kq.belowQ {B C : Nat} {Qs : Nat → Prop} (hb : Below W.heap.size W W') (h : ∀ b, (B ≤ b ∧ b < B + C) ∨ Qs b → b < W.heap.size) : Kq B C Qs W W' := ⟨hb.size, fun b hb2 => hb.block b (h b hb2)⟩
theorem Kq.frQ {B C : Nat} {Qs P : Nat → Prop} (hf : Fr P W W') (h : ∀ b, (B ≤ b ∧ b < B + C) ∨ Qs b → b < W.heap.size ∧ ¬ P b) : Kq B C Qs W W' := ⟨hf.size, fun b hb2 => hf.block b (h b hb2).1 (h b hb2).2⟩
/-- A part of a row. -/
theorem Sl.part {b off n c : Nat} {zs : List Nat} (h : Sl W (some ⟨b, off, none⟩) n c zs) (l m : Nat) (hm : 0 < m) (hl : l + m ≤ n) : Sl W (some ⟨b, off + l, none⟩) m m ((zs.drop l).take m) := by
  obtain ⟨h1, h2, h3, hsm, _, h4, h5⟩ := h
  rcases h5 with h5 | ⟨b', off', e, hlt, hc⟩
  · omega
  injection e with e
  injection e with e1 e2
  subst e1 e2
  have gd : ∀ i, i < m → ((zs.drop l).take m).getD i 0 = zs.getD (l + i) 0 := fun i hi => by
    simp [List.getD_eq_getElem?_getD, hi, List.getElem?_drop]
  refine ⟨by simp; omega, Nat.le_refl _, by omega, by omega, (fun e => by cases e), fun i => ?_, .inr ⟨b, off + l, rfl, hlt, fun i hi => ?_⟩⟩
  · by_cases hi : i < m
    · rw [gd i hi]
      exact h4 _
    · simp [List.getD_eq_getElem?_getD, List.getElem?_take, hi]
  · rw [gd i hi, Nat.add_assoc]
    exact hc (l + i) (by omega)
end
end Go.Proofs.Ytconfmjgoipejaa
namespace Go.Proofs.Ytconfmjgoipejaa
open Go.RowKit Go.Shelf
def noDef (o : Oper) : Bool := match o.op with | .defer _ => false | _ => true
theorem noDef_spec {o : Oper} (h : noDef o = true) : ∀ c, o.op ≠ .defer c := fun c e => by
  unfold noDef at h
  rw [e] at h
  cases h
theorem wpIn_region_inv {ll nn : Nat} {P : Program} {ops : Array Oper} {Q : Exit → Act → World → Prop} {id : Nat} {a : Act} {w : World} (hm : P.follows .mixedOrders = true) (I : Array Bool → Act → World → Prop)
    (h0 : I (Array.replicate ops.size false) a w.drew)
    (hs : ∀ listed a w i, i ∈ Region.ready .any ops listed → I listed a w → wpOpIn (Fence.wide.inRound ll) nn P ops Q i (I (listed.setIfInBounds i true)) a w)
    (he : ∀ listed a w, listed.size = ops.size → Region.ready .any ops listed = [] → I listed a w → Q .normal a w) : (Code.region id ops true).wpIn (Fence.wide.inRound ll) nn P Q a w := by
  refine wpIn_region_any hm ?_
  have key : ∀ (fuel : Nat) (listed : Array Bool) (a : Act) (w : World), listed.size = ops.size → left listed ≤ fuel → I listed a w → wpAnyIn (Fence.wide.inRound ll) nn P .any ops Q fuel listed a w := by
    intro fuel
    induction fuel with
    | zero =>
      intro listed a w hz hf hI
      have hr : Region.ready .any ops listed = [] := by
        cases hr : Region.ready .any ops listed with
        | nil => rfl
        | cons i r =>
          obtain ⟨o, _, h2, _⟩ := ready_spec (show i ∈ Region.ready .any ops listed by rw [hr]; simp)
          have := left_set h2
          omega
      exact ⟨hr, he listed a w hz hr hI⟩
    | succ fuel ih =>
      intro listed a w hz hf hI
      refine ⟨fun hr => he listed a w hz hr hI, fun i hi => ?_⟩
      obtain ⟨o, _, h2, _⟩ := ready_spec hi
      have := left_set h2
      exact wpOpIn_mono (fun a' w' hI' => ih _ a' w' (by simpa using hz) (by omega) hI') (hs listed a w i hi hI)
  refine key _ _ _ _ (by simp) ?_ h0
  unfold left
  exact Nat.le_trans List.countP_le_length (by simp)
theorem wpIn_region_stage {ll nn : Nat} {P : Program} {os : List Oper} {Q : Exit → Act → World → Prop} {id : Nat} {a : Act} {w : World} (hm : P.follows .mixedOrders = true) (es : List Nat) (Gs : Nat → World → Prop) (S : World → Prop) (ws : List (Nat × Value)) (Z : Array Value)
    (hZ : ws.foldl (fun F p => F.setIfInBounds p.1 p.2) a.tmps = Z) (hok : okD os.toArray = true) (hchk : chkZ os.toArray = true) (hws : ws.map (·.1) = os.filterMap (·.dst)) (hin : (ws.all fun p => decide (p.1 < a.tmps.size)) = true) (hch : chainD os.toArray es = true)
    (h0 : Gs 0 w.drew) (hS : ∀ k W, k < es.length → Gs k W → S W) (hlast : lastD os.toArray es = true ∨ ∀ W, Gs es.length W → S W) (hops : StgAll P os.toArray Z es Gs S 0 os) (he : ∀ w, Gs es.length w → Q .normal ⟨Z, a.defers⟩ w) (hesb : (es.all fun i => decide (i < os.length)) = true) (hnd : es.Nodup) (hdf : (os.all noDef) = true) : (Code.region id os.toArray true).wpIn (Fence.wide.inRound ll) nn P Q a w := by
  have hsz : Z.size = a.tmps.size := by rw [← hZ, foldl_size]
  have hofs : ∀ {i : Nat} {o : Oper}, os.toArray[i]? = some o → os[i]? = some o := fun h => by simpa using h
  have hb : ∀ k, (∀ o ∈ os, o.dst ≠ some k) → Z.getD k undef = a.tmps.getD k undef := by
    intro k hk
    rw [← hZ, Array.getD_eq_getD_getElem?, Array.getD_eq_getD_getElem?, foldl_other ws _ k (fun p hp e => ?_)]
    have h1 : p.1 ∈ os.filterMap (·.dst) := by rw [← hws]; exact List.mem_map.2 ⟨p, hp, rfl⟩
    obtain ⟨o, ho, hod⟩ := List.mem_filterMap.1 h1
    exact hk o ho (by rw [hod, e])
  have hin' : ∀ o ∈ os, ∀ d, o.dst = some d → d < Z.size := by
    intro o ho d hd
    have h1 : d ∈ ws.map (·.1) := by rw [hws]; exact List.mem_filterMap.2 ⟨o, ho, hd⟩
    obtain ⟨p, hp, rfl⟩ := List.mem_map.1 h1
    rw [List.all_eq_true] at hin
    have := hin p hp
    rw [hsz]
    simpa using this
  refine wpIn_region_inv hm (fun listed A W => FixI os.toArray a Z (fun _ => True) listed A W ∧ Gs (cntL (lst listed) es) W) ⟨⟨hsz.symm, rfl, fun i o _ h => ?_, fun i o d _ _ h => ?_, fun _ _ => rfl, trivial⟩, ?_⟩ (fun listed A W i hi hI => ?_) (fun listed A W hls hr hI => ?_)
  · exfalso; simp [Array.getElem?_replicate] at h; split at h <;> simp at h
  · exfalso; simp [Array.getElem?_replicate] at h; split at h <;> simp at h
  · have hz : ∀ l : List Nat, cntL (lst (Array.replicate os.toArray.size false)) l = 0 := by
      intro l
      cases l with
      | nil => rfl
      | cons x l =>
        show (if lst _ x = true then _ else 0) = 0
        rw [if_neg]
        unfold lst
        rw [Array.getD_eq_getD_getElem?, Array.getElem?_replicate]
        split <;> simp
    rw [hz]
    exact h0
  · obtain ⟨hI, hG⟩ := hI
    obtain ⟨o, ho, hl, hd⟩ := ready_spec hi
    have hsp := okD_spec hok ho
    have hop := stgAll_at os 0 hops i o (hofs ho)
    rw [Nat.zero_add] at hop
    have hlf : lst listed i = false := getD_both hl
    have hval : ∀ t, t ∈ o.looksAt os.toArray → A.tmps.getD t undef = Z.getD t undef := by
      intro t ht
      have h1 : srcZ os.toArray i t = true := by
        unfold chkZ at hchk
        rw [List.all_eq_true] at hchk
        have hil := (Array.getElem?_eq_some_iff.1 ho).1
        have h1 := hchk i (by simpa using hil)
        rw [ho] at h1
        dsimp only at h1
        rw [List.all_eq_true] at h1
        exact h1 t ht
      by_cases hw : ∃ (j : Nat) (p : Oper), os.toArray[j]? = some p ∧ p.dst = some t
      · obtain ⟨j, p, hp, hpt⟩ := hw
        have hjl := (Array.getElem?_eq_some_iff.1 hp).1
        unfold srcZ at h1
        rw [List.all_eq_true] at h1
        have h3 := h1 j (by simpa using hjl)
        simp only [wrD, hp, Option.bind_some, hpt, beq_self_eq_true, Bool.not_true, Bool.false_or] at h3
        obtain ⟨e, he', hb', rfl⟩ := dirD_spec ho h3
        exact hI.on e.on p t hp hpt (hd e he' hb')
      · have h3 := hI.off t (fun j p hp hpt => absurd ⟨j, p, hp, hpt⟩ hw)
        rw [h3, hb t (fun p hp hpt => by
          obtain ⟨j, hj⟩ := List.getElem?_of_mem hp
          exact hw ⟨j, p, by simpa using hj, hpt⟩)]
    have hpl : ∀ cs b, o.op ≠ .select cs b := fun cs b e => by have := hsp.1; unfold plainD at this; rw [e] at this; cases this
    have hex : execOp A.eval o = execOp (Act.eval ⟨Z, []⟩) o := execOp_congr o hpl (fun x hx => by
      cases x with
      | tmp t =>
        have ht : t ∈ o.looksAt os.toArray := List.mem_append_left _ (List.mem_filterMap.2 ⟨.tmp t, by simpa using hx, rfl⟩)
        simpa [Act.eval] using hval t ht
      | _ => rfl)
    have hwa : Region.wanted o (yielded os.toArray A.tmps) = Region.wanted o (yielded os.toArray Z) := by
      unfold Region.wanted
      cases hg : o.guard with
      | none => rfl
      | some gw =>
        obtain ⟨g, want⟩ := gw
        have hy : yielded os.toArray A.tmps g = yielded os.toArray Z g := by
          unfold yielded
          cases ht : (os.toArray[g]?).bind (·.dst) with
          | none => rfl
          | some t =>
            have hlk : t ∈ o.looksAt os.toArray := by simp only [Oper.looksAt, hg, ht]; simp
            have := getElem?_of_getD hI.sz (hval t hlk)
            simp only [Option.bind_some, this]
        simp only [hy]
    have hind : ∀ d, o.dst = some d → d < Z.size := hin' o (List.mem_of_getElem? (hofs ho))
    have hndf : ∀ c, o.op ≠ .defer c := noDef_spec (List.all_eq_true.1 hdf o (List.mem_of_getElem? (hofs ho)))
    unfold wpOpIn
    rw [ho]
    dsimp only
    rw [hwa]
    unfold StgOp at hop
    cases hix : es.idxOf? i with
    | some k =>
      rw [hix] at hop
      dsimp only at hop
      have hik : es[k]? = some i := by
        have := List.of_findIdx?_eq_some hix
        cases hek : es[k]? with
        | none => rw [hek] at this; simp at this
        | some x => rw [hek] at this; simp at this; rw [this]
      have hcnt : cntL (lst listed) es = k := cntL_at _ es k i hik hlf (fun j x hj hx => by
        -- the earlier ones are behind us: each is one that i waits for
        have hanc := chainD_spec hch hik hx hj
        have hxne : x ≠ i := fun e => by
          subst e
          exact nodup_at hnd hx hik hj
        simp only [ancD, Bool.or_eq_true, beq_iff_eq] at hanc
        rcases hanc with h | h
        · exact absurd h.symm hxne
        · rw [ho] at h
          simp only [Option.map_some, Option.getD_some, Array.any_eq_true'] at h
          obtain ⟨e, hee, h⟩ := h
          simp only [Bool.and_eq_true] at h
          exact ancD_spec hI.cl 11 e.on x h.2 (hd e hee h.1))
      have hcnt2 : cntL (lst (listed.setIfInBounds i true)) es = k + 1 := by
        rw [lst_set hl]
        cases hk1 : es[k + 1]? with
        | none =>
          have h1 := (List.getElem?_eq_none_iff.1 hk1)
          have h2 := (List.getElem?_eq_some_iff.1 hik).1
          have hall : ∀ (l : Nat → Bool) (es : List Nat), (∀ x ∈ es, l x = true) → cntL l es = es.length := by
            intro l es
            induction es with
            | nil => intro _; rfl
            | cons y es ih => intro h; show (if l y = true then cntL l es + 1 else 0) = _; rw [if_pos (h y List.mem_cons_self), ih (fun x hx => h x (List.mem_cons_of_mem _ hx))]; rfl
          rw [hall _ es (fun x hx => by
            obtain ⟨j, hj⟩ := List.getElem?_of_mem hx
            unfold updL
            by_cases hxi : x = i
            · rw [if_pos hxi]
            · rw [if_neg hxi]
              have hjl := (List.getElem?_eq_some_iff.1 hj).1
              have hjk : j < k := by
                rcases Nat.lt_or_ge j k with h | h
                · exact h
                · have : j = k := by omega
                  subst this
                  rw [hik] at hj
                  injection hj with hj
                  exact absurd hj.symm hxi
              have hanc := chainD_spec hch hik hj hjk
              simp only [ancD, Bool.or_eq_true, beq_iff_eq] at hanc
              rcases hanc with h | h
              · exact absurd h.symm hxi
              · rw [ho] at h
                simp only [Option.map_some, Option.getD_some, Array.any_eq_true'] at h
                obtain ⟨e, hee, h⟩ := h
                simp only [Bool.and_eq_true] at h
                exact ancD_spec hI.cl 11 e.on x h.2 (hd e hee h.1))]
          omega
        | some y =>
          refine cntL_at _ es (k + 1) y hk1 ?_ (fun j x hj hx => ?_)
          · unfold updL
            have hyi : y ≠ i := fun e => by
              subst e
              exact nodup_at hnd hik hk1 (by omega)
            rw [if_neg hyi]
            cases hly : lst listed y with
            | false => rfl
            | true =>
              have := ancD_spec hI.cl 12 y i (chainD_spec hch hk1 hik (by omega)) hly
              rw [show listed.getD i false = lst listed i from rfl, hlf] at this
              cases this
          · unfold updL
            by_cases hxi : x = i
            · rw [if_pos hxi]
            · rw [if_neg hxi]
              have hjk : j < k := by
                rcases Nat.lt_or_ge j k with h | h
                · exact h
                · have : j = k := by omega
                  subst this
                  rw [hik] at hx
                  injection hx with hx
                  exact absurd hx.symm hxi
              have hanc := chainD_spec hch hik hx hjk
              simp only [ancD, Bool.or_eq_true, beq_iff_eq] at hanc
              rcases hanc with h | h
              · exact absurd h.symm hxi
              · rw [ho] at h
                simp only [Option.map_some, Option.getD_some, Array.any_eq_true'] at h
                obtain ⟨e, hee, h⟩ := h
                simp only [Bool.and_eq_true] at h
                exact ancD_spec hI.cl 11 e.on x h.2 (hd e hee h.1)
      rw [hcnt] at hG
      obtain ⟨hw, hgv⟩ := hop W hG
      rw [if_pos hw]
      refine ⟨fun _ _ => trivial, ?_⟩
      rw [show (Fence.wide.inRound ll).round = some ll from rfl, Oper.semAt_some ll _ _ hndf]
      rw [hex]
      unfold Gives at hgv
      generalize (execOp (Act.eval ⟨Z, []⟩) o).run P W = r at *
      cases r with
      | ok n w' =>
        cases n with
        | value u =>
          obtain ⟨rfl, hG'⟩ := hgv
          exact ⟨hI.put hok ho hl hd _ (fun d hd' => by rw [hd']; rfl) hind trivial, by rw [hcnt2]; exact hG'⟩
        | skip =>
          obtain ⟨h1, hG'⟩ := hgv
          exact ⟨hI.put hok ho hl hd _ (fun d hd' => by rw [hd'] at h1; exact h1.symm) hind trivial, by rw [hcnt2]; exact hG'⟩
        | enter f args =>
          refine ⟨fun h => (by cases h), CallsIn.inRound ll ((callsIn_wide.2 hgv).mono (fun e w'' hp => ?_))⟩
          obtain ⟨rfl, hG'⟩ := hp
          exact ⟨hI.put hok ho hl hd _ (fun d hd' => by rw [hd']; rfl) hind trivial, by rw [hcnt2]; exact hG'⟩
        | _ => exact hgv.elim
      | halt x w' => exact hgv.elim
    | none =>
      rw [hix] at hop
      dsimp only at hop
      have hni : i ∉ es := by
        have := List.findIdx?_eq_none_iff.1 hix
        intro hm'
        have := this i hm'
        simp at this
      have hcnt2 : cntL (lst (listed.setIfInBounds i true)) es = cntL (lst listed) es := by rw [lst_set hl]; exact cntL_other _ i es hni
      have hSW : S W := by
        rcases Nat.lt_or_ge (cntL (lst listed) es) es.length with h | h
        · exact hS _ W h hG
        · have hfull : cntL (lst listed) es = es.length := Nat.le_antisymm (cntL_le _ _) h
          rcases hlast with hl' | hl'
          · exfalso
            unfold lastD at hl'
            cases hgl : es.getLast? with
            | none => rw [hgl] at hl'; cases hl'
            | some x =>
              rw [hgl] at hl'
              dsimp only at hl'
              rw [List.all_eq_true] at hl'
              have hxm : x ∈ es := List.mem_of_getLast? hgl
              have hil := (Array.getElem?_eq_some_iff.1 ho).1
              have h1 := hl' i (by simpa using hil)
              have hlx := cntL_full _ es hfull x hxm
              have := ancD_spec hI.cl 3 x i h1 hlx
              rw [show listed.getD i false = lst listed i from rfl, hlf] at this
              cases this
          · rw [hfull] at hG
            exact hl' W hG
      rcases hop W hSW with ⟨hw, hrun⟩ | ⟨hw, hu⟩
      · rw [if_pos hw]
        refine ⟨fun _ _ => trivial, ?_⟩
        rw [show (Fence.wide.inRound ll).round = some ll from rfl, Oper.semAt_some ll _ _ hndf]
        rw [hex, hrun]
        exact ⟨hI.put hok ho hl hd _ (fun d hd' => by rw [hd']; rfl) hind trivial, by rw [hcnt2]; exact hG⟩
      · rw [if_neg (by rw [hw]; decide)]
        refine ⟨fun _ _ => trivial, ?_⟩
        exact ⟨hI.put hok ho hl hd _ (fun d hd' => (hu d hd').symm) hind trivial, by rw [hcnt2]; exact hG⟩
  · obtain ⟨hI, hG⟩ := hI
    have hall : ∀ i o, os.toArray[i]? = some o → listed.getD i false = true := by
      intro i
      induction i using Nat.strongRecOn with
      | _ i ih =>
        intro o ho
        refine all_listed hls hr i o ho (fun e he' hb' => ?_)
        have hlt := (okD_spec hok ho).2.1 e he' hb'
        have hil := (Array.getElem?_eq_some_iff.1 ho).1
        obtain ⟨p, hp⟩ : ∃ p, os.toArray[e.on]? = some p := ⟨_, Array.getElem?_eq_getElem (by omega)⟩
        exact ih e.on hlt p hp
    have hcf : cntL (lst listed) es = es.length := by
      have : ∀ l : List Nat, (∀ i ∈ l, i < os.length) → cntL (lst listed) l = l.length := by
        intro l
        induction l with
        | nil => intro _; rfl
        | cons y l ih =>
          intro h
          have hyl := h y List.mem_cons_self
          obtain ⟨oy, hoy⟩ : ∃ oy, os.toArray[y]? = some oy := ⟨_, Array.getElem?_eq_getElem (by simpa using hyl)⟩
          show (if lst listed y = true then cntL (lst listed) l + 1 else 0) = _
          rw [if_pos (show lst listed y = true from hall y oy hoy), ih (fun i hi => h i (List.mem_cons_of_mem _ hi))]
          rfl
      exact this es (fun i hi => by rw [List.all_eq_true] at hesb; simpa using hesb i hi)
    rw [hcf] at hG
    have hA : A = ⟨Z, a.defers⟩ := by
      obtain ⟨t, d⟩ := A
      have h1 := hI.sz
      have h2 := hI.df
      dsimp only at h1 h2
      subst h2
      congr 1
      apply Array.ext_getElem?
      intro k
      refine getElem?_of_getD h1 ?_
      by_cases hw : ∃ (j : Nat) (p : Oper), os.toArray[j]? = some p ∧ p.dst = some k
      · obtain ⟨j, p, hp, hpk⟩ := hw
        exact hI.on j p k hp hpk (hall j p hp)
      · have h3 := hI.off k (fun j p hp hpk => absurd ⟨j, p, hp, hpk⟩ hw)
        rw [h3, hb k (fun p hp hpt => by
          obtain ⟨j, hj⟩ := List.getElem?_of_mem hp
          exact hw ⟨j, p, by simpa using hj, hpt⟩)]
    rw [hA]
    exact he W hG
end Go.Proofs.Ytconfmjgoipejaa
namespace Go.Proofs.Ytconfmjgoipejaa
open Go.RowKit Go.Shelf
attribute [local go_sem] Oper.semAt_some
section
variable {w : World} {q nb : Nat} {pa : Option Addr} {cap : Nat} {L : List PcA} {cum size : Nat} {nx : List Nat}
def nmF (fr : Bool) : Nat := if fr then 4 else 0
def nmS (fr : Bool) (nx : List Nat) (st : Nat) : Nat := if fr then 0 else nx.getD st 0
def nmX (fr : Bool) (nx : List Nat) (st : Nat) : List Nat := if fr then nx else nx.set st ((nx.getD st 0 + 1) % 65536)
theorem number_any (h : QuW w q nb pa cap L cum size nx) (st ss pp : Nat) (fr : Bool) (hst : st < nx.length) (hnx : ∀ i, nx.getD i 0 < 65536) (da : Option Addr) (dn dc : Nat) :
    Calls Try.prog 22 #[.pointer (some ⟨q, 0, none⟩), .agg #[.int .u16 (st : Nat), .int .u16 (ss : Nat), .int .u32 (pp : Nat), .bool fr, .slice da dn dc]] w fun e w' => e = .returned (.agg (numV (nmF fr) st (nmS fr nx st) pp).toArray) ∧ QuW w' q nb pa cap L cum size (nmX fr nx st) ∧ Fr (fun b => b = nb) w w' := by
  cases fr with
  | true => exact (number_free w q st ss pp da dn dc).mono (fun e w' ⟨he, hb⟩ => ⟨he, h.below hb, Fr.of_below hb⟩)
  | false => exact number_due h st ss pp hst hnx da dn dc
structure PshR (w : World) (q nb : Nat) (pa0 : Option Addr) (L0 : List PcA) (cum size : Nat) (nx : List Nat) (ps : List Pc) (e : Ending) (w' : World) : Prop where
  ex : e = .returned (.int .i64 0)
  qu : ∃ pa cap M, QuW w' q nb pa cap (L0 ++ M) cum size nx ∧ M.map (·.1) = ps ∧ ∀ b o s, pa = some ⟨b, o, s⟩ → qB q nb pa0 b ∨ w.heap.size ≤ b
  fr : Fr (qB q nb pa0) w w'
set_option maxRecDepth 100000 in
set_option maxHeartbeats 4000000 in
theorem push_bad (h : QuW w q nb pa cap L cum size nx) (hL : L.length ≤ 100000) (hS : sumL L L.length ≤ 100000) (st ss pp : Nat) (fr : Bool) (da : Option Addr) (dn dc : Nat) (hst : st < 65536) (hdn : dn ≤ 140737488351232) (hbad : mpE nx.length st dn (sumL L L.length) ≠ 0) :
    Calls Try.prog 12 #[.pointer (some ⟨q, 0, none⟩), .agg #[.int .u16 (st : Nat), .int .u16 (ss : Nat), .int .u32 (pp : Nat), .bool fr, .slice da dn dc]] w fun e w' => e = .returned (.int .i64 (mpE nx.length st dn (sumL L L.length) : Nat)) ∧ Below w.heap.size w w' := by
  refine (callsIn_wide (n := 3)).1 ?_
  refine callsIn_of_wp_marks Try.func12 rfl trivial ?_ rfl
  simp only [Try.ntmps12, List.size_toArray, List.length_cons, List.length_nil, Nat.reduceAdd, Nat.reduceSub, Array.replicate_succ, Array.replicate_zero, List.push_toArray, List.append_toArray, List.nil_append, List.cons_append]
  obtain ⟨V, hV⟩ : ∃ V, V = (w.alloc (.cells #[.pointer (some ⟨q, 0, none⟩)] 23)).alloc (.cells #[.int .u16 (st : Nat), .int .u16 (ss : Nat), .int .u32 (pp : Nat), .bool fr, .slice da dn dc] 38) := ⟨_, rfl⟩
  have bV : Below w.heap.size w V := by rw [hV]; exact ((Below.refl _ _).alloc (Nat.le_refl _) _).alloc (by simp) _
  have zV : w.heap.size ≤ V.heap.size := bV.size
  have hmp := mayPush_any (h.below bV) hL hS st ss pp fr da dn dc hst hdn
  obtain ⟨er, her⟩ : ∃ er, er = mpE nx.length st dn (sumL L L.length) := ⟨_, rfl⟩
  rw [← her] at hmp hbad ⊢
  have hb2 : (((er : Int)) == 0) = false := by simp; exact hbad
  have hb3 : ¬ (er : Int) = 0 := by omega
  clear h hL hS hst hdn her
  gi_wp2
  rw [← hV]
  refine ⟨trivial, (callsIn_wide.2 hmp).mono ?_⟩
  rintro e w1 ⟨rfl, b1⟩
  have HB := (show Hid _ from (bV.trans (b1.mono zV) : Below w.heap.size w w1))
  clear hmp hV bV b1
  gi_wp2
  exact ⟨_, results_tmp rfl _ _ _, rfl, HB.out⟩
/-- How many pieces a message has. -/
def cntN (dn sz : Nat) : Nat := (dn + sz - 1) / sz
theorem cntN_lt {dn sz k : Nat} (hz : 1 ≤ sz) (hk : k < cntN dn sz) : k * sz < dn := by
  have h1 : (k + 1) * sz ≤ dn + sz - 1 := Nat.le_trans (Nat.mul_le_mul_right _ hk) (Nat.div_mul_le_self _ _)
  rw [Nat.add_mul, Nat.one_mul] at h1
  omega
theorem cntN_le {dn sz : Nat} (hz : 1 ≤ sz) : dn ≤ cntN dn sz * sz := by
  have h1 := Nat.lt_div_mul_add hz (a := dn + sz - 1)
  unfold cntN
  omega
theorem cntN_max {dn sz : Nat} (hz : 1 ≤ sz) : cntN dn sz ≤ dn := by
  unfold cntN
  by_cases h0 : dn = 0
  · subst h0
    rw [Nat.div_eq_of_lt (by omega)]
    omega
  · refine Nat.div_le_of_le_mul ?_
    have : sz * 1 + 1 * dn ≤ sz * dn + 1 := by
      obtain ⟨a, rfl⟩ : ∃ a, sz = a + 1 := ⟨sz - 1, by omega⟩
      obtain ⟨b, rfl⟩ : ∃ b, dn = b + 1 := ⟨dn - 1, by omega⟩
      have : (a + 1) * (b + 1) = a * b + a + b + 1 := by rw [Nat.add_mul, Nat.mul_add]; omega
      omega
    omega
end
end Go.Proofs.Ytconfmjgoipejaa
namespace Go.Proofs.Ytconfmjgoipejaa
open Go.RowKit Go.Shelf
def markF (b : Nat) (x : Pc) : Pc := { x with f := x.f ||| b }
def markA (b : Nat) (x : PcA) : PcA := (markF b x.1, x.2)
theorem map_mark (b k : Nat) (M : List PcA) : (M.modify k (markA b)).map (·.1) = (M.map (·.1)).modify k (markF b) := by
  refine List.ext_getElem? (fun i => ?_)
  simp only [List.getElem?_map, List.getElem?_modify]
  by_cases h : k = i
  · subst h
    cases M[k]? <;> simp [markA]
  · simp [h]
theorem set_mark (b k : Nat) (L M : List PcA) (x : PcA) (hx : M[k]? = some x) : (L ++ M).set (L.length + k) (markA b x) = L ++ M.modify k (markA b) := by
  rw [List.set_append_right _ _ (by omega), Nat.add_sub_cancel_left]
  congr 1
  refine List.ext_getElem? (fun i => ?_)
  have hk := (List.getElem?_eq_some_iff.1 hx).1
  by_cases h : k = i
  · subst h
    rw [List.getElem?_set_self hk, List.getElem?_modify, hx]
    simp
  · rw [List.getElem?_set_ne h, List.getElem?_modify]
    simp [h]
theorem QuW.mark {W : World} {q nb pb : Nat} {cap : Nat} {L M : List PcA} {cum size : Nat} {nx : List Nat} (h : QuW W q nb (some ⟨pb, 0, none⟩) cap (L ++ M) cum size nx) {k : Nat} {x : PcA} (hx : M[k]? = some x) (b : Nat) :
    QuW (W.setCell ⟨pb, (L.length + k) * 17 + 1, none⟩ (.int .u8 ((x.1.f ||| b : Nat) : Int))) q nb (some ⟨pb, 0, none⟩) cap (L ++ M.modify k (markA b)) cum size nx := by
  rw [← set_mark b k L M x hx]
  exact h.put (k := L.length + k) (x := x) (y := markA b x) (j := 1) rfl (by rw [List.getElem?_append_right (by omega), Nat.add_sub_cancel_left]; exact hx) (by omega) rfl ⟨rfl, rfl⟩
end Go.Proofs.Ytconfmjgoipejaa
