/-
  Whatever the input, trunklinelaw12.ChunkOwn answers true and leaves what it was handed as it was.
  (The statement is Rows.ChunkOwnCardSaid; no condition of our own; the listed tables are tied to the program's text.)
-/
import Derived.Test.YtlgfbcfogcmdbaaDoorKB
import Derived.Test.YtlgfbcfogcmdbaaDoorKD
import Derived.Test.YtlgfbcfogcmdbaaDoorKA
import Derived.Deep.Cut
import Derived.Test.YtlgfbcfogcmdbaaDoorRows
import Derived.Test.YtlgfbcfogcmdbaaDoorCards
import Derived.Test.YtlgfbcfogcmdbaaDoorTie
import Derived.ProofKit
import Derived.LaidMore
import Derived.Lay
import Derived.OpenShut
import Derived.ShutString
import Derived.ChangeOld
import Derived.SizedLaws
import Derived.Stop.Joined
import Derived.SevenTiedAt
namespace Go.Proofs.YtlgfbcfogcmdbaaDoor
open Go.RowKit
theorem ptQ_le (f t g : Nat) (dd : List ChQ) : (ptQ f t g dd).length ≤ 1480 := by
  by_cases h : mbQ dd = 0
  · have hP := ptOk (f := f) (t := t) (g := g) h
    have h1 := hP.big
    have h2 := hP.small
    rw [hP.val, stampV_len _ (by omega)]
    exact h1
  · unfold ptQ
    rw [if_neg h]
    simp
set_option linter.unusedVariables false in
set_option maxRecDepth 100000 in
set_option maxHeartbeats 16000000 in
theorem walk_ChunkOwn (f t g : Nat) (a : Option Addr) (n c : Nat) (dd : List ChQ) (w : World) (hf : f < 65536) (ht : t < 65536) (hg : g < 4294967296) (hR : SlCq w a n c dd) (hN : NW w) :
    Calls Tryd.prog 3 #[.agg #[.int .u16 (f : Nat), .int .u16 (t : Nat), .int .u32 (g : Nat)], .slice a n c] w fun e w' => e = .returned (.bool true) ∧ Below w.heap.size w w' := by
  obtain ⟨W1, hW1⟩ : ∃ W1, W1 = w.alloc (.cells #[.int .u16 (f : Nat), .int .u16 (t : Nat), .int .u32 (g : Nat)] 25) := ⟨_, rfl⟩
  have b1 : Below w.heap.size w W1 := by rw [hW1]; exact (Below.refl _ _).alloc (Nat.le_refl _) _
  have s1 := Stc.new w [.int .u16 (f : Nat), .int .u16 (t : Nat), .int .u32 (g : Nat)] 25 W1 hW1
  have hlen := hR.len
  have hcap := hR.cap
  have hsml := hR.less
  have HR := (show Hid _ from hR.below b1)
  have HB1 : Hid (Below w.heap.size w W1 ∧ Stc W1 w.heap.size [.int .u16 (f : Nat), .int .u16 (t : Nat), .int .u32 (g : Nat)]) := ⟨b1, s1⟩
  have HLV := (show Hid _ from fun W (hW : Below w.heap.size w W) => live12_nw W (hN.below hW))
  have HLEN := (show Hid _ from hlen)
  have HZ := (show Hid _ from zero_ch14R)
  clear b1 s1 hR hN
  go_enter Tryd.func3, Tryd.ntmps3
  go_wp2
  rw [← hW1]
  clear hW1
  go_loopw [5, 6] (fun u5 u6 wr => ∃ (i : Nat) (ka : Option Addr) (kc : Nat), i ≤ n ∧ u6 = .int .i64 (i : Nat) ∧ u5 = .slice ka i kc ∧ Below W1.heap.size W1 wr ∧ ChsO wr W1.heap.size ka i kc ((dd.take i).map ChQ.cd)) (fun _ u6 _ => n - (intOf u6).toNat)
  case atStart => exact ⟨0, none, 0, by omega, rfl, rfl, Below.refl _ _, ⟨[], rfl, OwnG.nil _ _, fun i c x hc hx => (by simp at hx)⟩⟩
  case round =>
    obtain ⟨i, ka, kc, hin, rfl, rfl, hbr, hks⟩ := hrel
    obtain ⟨wo, hwo⟩ : ∃ wo, wo = wr := ⟨_, rfl⟩
    subst hwo
    have HKS := (show Hid _ from And.intro hbr hks)
    clear hbr hks
    by_cases hlt : i < n
    · have hlt1 : (i : Int) < (n : Int) := by omega
      obtain ⟨x, hx⟩ : ∃ x, dd[i]? = some x := ⟨_, List.getElem?_eq_getElem (by omega)⟩
      obtain ⟨lb, lo, rfl, hbl, hrow⟩ : ∃ b off, a = some ⟨b, off, none⟩ ∧ b < W1.heap.size ∧ ∀ i x, dd[i]? = some x → ∀ j v, x.vals[j]? = some v → W1.cell? ⟨b, off + i * 14 + j, none⟩ = some v := HR.out.at_.resolve_left (by omega)
      have hwf := HR.out.wf x (List.mem_of_getElem? hx)
      have HX : Hid (∀ V, Below W1.heap.size W1 V → x.Wf V ∧ V.rangeAt lb (lo + i * 14) x.vals) := fun V hV => ⟨by
        have := (HR.out.below hV).wf x (List.mem_of_getElem? hx)
        exact this, fun j u hu => (hV.cell (p := ⟨lb, lo + i * 14 + j, none⟩) hbl).trans (hrow i x hx j u hu)⟩
      have HTK : Hid ((dd.take (i + 1)).map ChQ.cd = (dd.take i).map ChQ.cd ++ [x.cd]) := by
        show _ = _
        rw [List.take_add_one, hx]
        simp
      have HBW := (show Hid _ from ChQ.bndW hwf)
      have hrg := (HX.out wo HKS.out.1).2
      obtain ⟨cs, hcs⟩ : ∃ cs, cs = x.vals := ⟨_, rfl⟩
      rw [← hcs] at hrg
      have hcl : cs.length = 14 := by rw [hcs]; rfl
      have hone : ∀ u ∈ cs, u.oneCell' = true := by rw [hcs]; exact (chq_one x).2
      have hi14 := ch_size14R cs hcl
      have hi14' : (Tryd.prog.info? 32).map (·.size) = some cs.toArray.size := by rw [List.size_toArray]; exact hi14
      obtain ⟨z14, hz14⟩ : ∃ z14 : List Value, z14 = [.int .u8 0, .int .u8 0, .int .u32 0, .int .u16 0, .int .u16 0, .int .u32 0, .int .u32 0, .int .u32 0, .int .u16 0, .int .u16 0, .slice none 0 0, .slice none 0 0, .slice none 0 0, .slice none 0 0] := ⟨_, rfl⟩
      obtain ⟨U0, hU0⟩ : ∃ U0, U0 = wo.alloc (.cells z14.toArray 32) := ⟨_, rfl⟩
      have su := Stc.new wo z14 32 U0 hU0
      have hth : U0.there wo.heap.size 0 cs.toArray.size := by
        have e : cs.toArray.size = 14 := by simp [hcl]
        have e2 : z14.length = 14 := by rw [hz14]; rfl
        rw [e, ← e2]
        exact su.there
      obtain ⟨V0, hV0⟩ : ∃ V0, V0 = U0.setCells wo.heap.size 0 cs := ⟨_, rfl⟩
      have s0 : Stc V0 wo.heap.size cs := by rw [hV0]; exact su.put cs (by rw [hcl, hz14]; rfl)
      have b0 : Below wo.heap.size wo V0 := by
        have h1 : Below wo.heap.size wo U0 := by rw [hU0]; exact (Below.refl _ _).alloc (Nat.le_refl _) _
        rw [hV0]
        exact h1.trans ((fr_setCellsX wo.heap.size cs 0 U0).below wo.heap.size h1.size (fun k e => by omega))
      have HS0 := (show Hid _ from And.intro s0 b0)
      have HCS := (show Hid _ from hcs)
      have hz0 := HZ.out
      rw [hz14] at hU0
      clear hwf hrow hx su s0 b0 hcs
      go_upto_region 6 with (first | (refine wpList_load_mid rfl 32 _ rfl lb (lo + i * 14) rfl cs _ hrg Tryd.underlying32 rfl hi14 ?_) | (rw [← hU0]; refine wpList_store_mid rfl 32 _ _ rfl wo.heap.size 0 cs.toArray rfl rfl hth hi14' (all_oneCell_toArray hone) ?_; change wpList _ _ _ _ _ (U0.setCells wo.heap.size 0 cs); rw [← hV0]) | fail)
      clear hU0 hV0 hrg hth hz0 hz14
      obtain ⟨s0, b0⟩ := HS0.out
      have bw0 : Below W1.heap.size W1 V0 := HKS.out.1.trans (b0.mono HKS.out.1.size)
      obtain ⟨p11, p12, p13, p14, q1, q2, q3, q4⟩ := ChQ.parts (HX.out V0 bw0).1
      rw [HCS.out] at s0
      have gl0 : wo.heap.size < V0.heap.size := s0.lt
      obtain ⟨x1, x3, w1, hr1, o1, l1⟩ := cp_bytes V0 30 p14 (by omega)
      have t0 := s0.below ((Below.refl V0.heap.size V0).alloc (Nat.le_refl _) (.cells #[] 5))
      have t1 := s0.below l1
      have k13 : (V0.alloc (.cells #[] 5)).cell? ⟨wo.heap.size, 13, none⟩ = some (.slice x.xA x.xN x.xC) := t0.cell 13 _ rfl
      have j13 : w1.cell? ⟨wo.heap.size, 13, none⟩ = some (.slice x.xA x.xN x.xC) := t1.cell 13 _ rfl
      have f13 := t1.free 13
      obtain ⟨X1, hX1⟩ : ∃ X1, X1 = w1.setCell ⟨wo.heap.size, 13, none⟩ (.slice x1 x.xN x3) := ⟨_, rfl⟩
      have s1 : Stc X1 wo.heap.size ([.int .u8 (x.k : Nat), .int .u8 (x.f : Nat), .int .u32 (x.t : Nat), .int .u16 (x.st : Nat), .int .u16 (x.ss : Nat), .int .u32 (x.pp : Nat), .int .u32 (x.tg : Nat), .int .u32 (x.rm : Nat), .int .u16 (x.os : Nat), .int .u16 (x.is : Nat), .slice x.bA x.bN x.bC, .slice x.dA x.dN x.dC, .slice x.pA x.pN x.pC, .slice x1 x.xN x3]) := by rw [hX1]; exact t1.set 13 _
      have r1 : Fr (fun k => k = wo.heap.size) w1 X1 := by rw [hX1]; exact Fr.setCell _ _ _ _ rfl
      have y1 : OwnB X1 (wo.heap.size + 1) x1 x.xN x3 x.xZ := (o1.base (by omega)).fr r1 (fun g hg _ e => by omega)
      have bb1 : Below wo.heap.size wo X1 := (b0.trans (l1.mono b0.size)).trans (r1.below wo.heap.size (Nat.le_trans b0.size l1.size) (fun k e => by omega))
      have HS1 := (show Hid _ from And.intro s1 (And.intro y1 bb1))
      have HZX1 := (show Hid _ from hX1)
      clear s0 b0 t0 t1 o1 l1 s1 r1 y1 bb1 HS0 p11 p12 p13 p14 bw0 hX1
      go_upto_region 7 with (at_builtin; refine app_eq_list rfl _ _ rfl rfl rfl rfl hr1 ?_)
      rw [← HZX1.out]
      clear hr1 k13 j13 f13 HZX1 gl0
      obtain ⟨s1, y1, bb1⟩ := HS1.out
      have bw1 : Below W1.heap.size W1 X1 := HKS.out.1.trans (bb1.mono HKS.out.1.size)
      obtain ⟨p11, p12, p13, p14, _, _, _, _⟩ := ChQ.parts (HX.out X1 bw1).1
      have gl1 : wo.heap.size < X1.heap.size := s1.lt
      obtain ⟨u1, u3, w2, hr2, o2, l2⟩ := cp_step layK X1 27 p11.len p11.srcK (sc := x.bC) (by omega) (by unfold maxLen; omega)
      have t0 := s1.below ((Below.refl X1.heap.size X1).alloc (Nat.le_refl _) (.cells #[] 71))
      have t1 := s1.below l2
      have k10 : (X1.alloc (.cells #[] 71)).cell? ⟨wo.heap.size, 10, none⟩ = some (.slice x.bA x.bN x.bC) := t0.cell 10 _ rfl
      have j10 : w2.cell? ⟨wo.heap.size, 10, none⟩ = some (.slice x.bA x.bN x.bC) := t1.cell 10 _ rfl
      have f10 := t1.free 10
      obtain ⟨X2, hX2⟩ : ∃ X2, X2 = w2.setCell ⟨wo.heap.size, 10, none⟩ (.slice u1 x.bN u3) := ⟨_, rfl⟩
      have s2 : Stc X2 wo.heap.size ([.int .u8 (x.k : Nat), .int .u8 (x.f : Nat), .int .u32 (x.t : Nat), .int .u16 (x.st : Nat), .int .u16 (x.ss : Nat), .int .u32 (x.pp : Nat), .int .u32 (x.tg : Nat), .int .u32 (x.rm : Nat), .int .u16 (x.os : Nat), .int .u16 (x.is : Nat), .slice u1 x.bN u3, .slice x.dA x.dN x.dC, .slice x.pA x.pN x.pC, .slice x1 x.xN x3]) := by rw [hX2]; exact t1.set 10 _
      have r2 : Fr (fun k => k = wo.heap.size) w2 X2 := by rw [hX2]; exact Fr.setCell _ _ _ _ rfl
      have y2 : OwnB X2 (wo.heap.size + 1) x1 x.xN x3 x.xZ := (y1.below l2).fr r2 (fun g hg _ e => by omega)
      have z2 : OwnK X2 (wo.heap.size + 1) u1 x.bN u3 x.bD := OwnG.fr (OwnG.base o2 (by omega)) r2 (fun g hg e => by have := (o2.own.lt g hg).1; omega)
      have bb2 : Below wo.heap.size wo X2 := (bb1.trans (l2.mono bb1.size)).trans (r2.below wo.heap.size (Nat.le_trans bb1.size l2.size) (fun k e => by omega))
      have HS2 := (show Hid _ from And.intro s2 (And.intro y2 (And.intro z2 bb2)))
      have HZX2 := (show Hid _ from hX2)
      clear s1 bb1 t0 t1 o2 l2 s2 r2 y1 y2 z2 bb2 HS1 p11 p12 p13 p14 bw1 hX2
      go_upto_region 8 with (at_builtin; refine app_eq_list rfl _ _ rfl rfl rfl rfl hr2 ?_)
      rw [← HZX2.out]
      clear hr2 k10 j10 f10 HZX2 gl1
      obtain ⟨s2, y2, z2, bb2⟩ := HS2.out
      have bw2 : Below W1.heap.size W1 X2 := HKS.out.1.trans (bb2.mono HKS.out.1.size)
      obtain ⟨p11, p12, p13, p14, _, _, _, _⟩ := ChQ.parts (HX.out X2 bw2).1
      have gl2 : wo.heap.size < X2.heap.size := s2.lt
      obtain ⟨v1, v3, w3, hr3, o3, l3⟩ := cp_step layD X2 28 (SlK.len p12) p12.srcD (sc := x.dC) (by omega) (by unfold maxLen; omega)
      have t0 := s2.below ((Below.refl X2.heap.size X2).alloc (Nat.le_refl _) (.cells #[] 23))
      have t1 := s2.below l3
      have k11 : (X2.alloc (.cells #[] 23)).cell? ⟨wo.heap.size, 11, none⟩ = some (.slice x.dA x.dN x.dC) := t0.cell 11 _ rfl
      have j11 : w3.cell? ⟨wo.heap.size, 11, none⟩ = some (.slice x.dA x.dN x.dC) := t1.cell 11 _ rfl
      have f11 := t1.free 11
      obtain ⟨X3, hX3⟩ : ∃ X3, X3 = w3.setCell ⟨wo.heap.size, 11, none⟩ (.slice v1 x.dN v3) := ⟨_, rfl⟩
      have s3 : Stc X3 wo.heap.size ([.int .u8 (x.k : Nat), .int .u8 (x.f : Nat), .int .u32 (x.t : Nat), .int .u16 (x.st : Nat), .int .u16 (x.ss : Nat), .int .u32 (x.pp : Nat), .int .u32 (x.tg : Nat), .int .u32 (x.rm : Nat), .int .u16 (x.os : Nat), .int .u16 (x.is : Nat), .slice u1 x.bN u3, .slice v1 x.dN v3, .slice x.pA x.pN x.pC, .slice x1 x.xN x3]) := by rw [hX3]; exact t1.set 11 _
      have r3 : Fr (fun k => k = wo.heap.size) w3 X3 := by rw [hX3]; exact Fr.setCell _ _ _ _ rfl
      have y3 : OwnB X3 (wo.heap.size + 1) x1 x.xN x3 x.xZ := (y2.below l3).fr r3 (fun g hg _ e => by omega)
      have z3 : OwnK X3 (wo.heap.size + 1) u1 x.bN u3 x.bD := OwnG.fr (OwnG.below z2 l3) r3 (fun g hg e => by have := (z2.own.lt g hg).1; omega)
      have d3 : OwnD X3 (wo.heap.size + 1) v1 x.dN v3 x.dD := OwnG.fr (OwnG.base o3 (by omega)) r3 (fun g hg e => by have := (o3.own.lt g hg).1; omega)
      have bb3 : Below wo.heap.size wo X3 := (bb2.trans (l3.mono bb2.size)).trans (r3.below wo.heap.size (Nat.le_trans bb2.size l3.size) (fun k e => by omega))
      have HS3 := (show Hid _ from And.intro s3 (And.intro y3 (And.intro z3 (And.intro d3 bb3))))
      have HZX3 := (show Hid _ from hX3)
      clear s2 bb2 t0 t1 o3 l3 s3 r3 y2 y3 z2 z3 d3 bb3 HS2 p11 p12 p13 p14 bw2 hX3
      go_upto_region 9 with (at_builtin; refine app_eq_list rfl _ _ rfl rfl rfl rfl hr3 ?_)
      rw [← HZX3.out]
      clear hr3 k11 j11 f11 HZX3 gl2
      obtain ⟨s3, y3, z3, d3, bb3⟩ := HS3.out
      have j12 : X3.cell? ⟨wo.heap.size, 12, none⟩ = some (.slice x.pA x.pN x.pC) := s3.cell 12 _ rfl
      have f12 := s3.free 12
      obtain ⟨X4, hX4⟩ : ∃ X4, X4 = X3.setCell ⟨wo.heap.size, 12, none⟩ (.slice none 0 0) := ⟨_, rfl⟩
      have r4 : Fr (fun k => k = wo.heap.size) X3 X4 := by rw [hX4]; exact Fr.setCell _ _ _ _ rfl
      have HC : Hid (CpS wo x u1 u3 v1 v3 none 0 0 x1 x3 ((x.pD.map PqD.pm).take 0) X4) :=
        ⟨bb3.trans (r4.below wo.heap.size bb3.size (fun k e => by omega)), by rw [hX4]; exact s3.set 12 _, OwnG.fr z3 r4 (fun g hg e => by have := (z3.own.lt g hg).1; omega), OwnG.fr d3 r4 (fun g hg e => by have := (d3.own.lt g hg).1; omega), PmO.nil _ _, y3.fr r4 (fun g hg _ e => by omega)⟩
      have HZX4 := (show Hid _ from hX4)
      have HPL : Hid (x.pD.length = x.pN) := (ChQ.parts (HX.out wo HKS.out.1).1).2.2.1.len
      clear s3 y3 z3 d3 bb3 r4 hX4 HS3
      go_upto_region 10 with fail
      rw [← HZX4.out]
      clear j12 f12 HZX4
      obtain ⟨pA, hpA⟩ : ∃ pA, pA = x.pA := ⟨_, rfl⟩
      obtain ⟨pN, hpN⟩ : ∃ pN, pN = x.pN := ⟨_, rfl⟩
      obtain ⟨pC, hpC⟩ : ∃ pC, pC = x.pC := ⟨_, rfl⟩
      have HPE := (show Hid _ from And.intro hpA (And.intro hpN hpC))
      have hq3 : pN ≤ 4398046511104 := by rw [hpN]; exact q3
      clear hpA hpN hpC q1 q2 q3 q4
      go_wp2
      go_loopw [8] (fun u8 v => ∃ (k : Nat) (p1 : Option Addr) (p3 : Nat), k ≤ pN ∧ u8 = .int .i64 (k : Nat) ∧ CpS wo x u1 u3 v1 v3 p1 k p3 x1 x3 ((x.pD.map PqD.pm).take k) v) (fun u8 _ => pN - (intOf u8).toNat)
      case atStart => exact ⟨0, none, 0, by omega, rfl, HC.out⟩
      case round =>
        obtain ⟨k, p1, p3, hkn, rfl, hcp⟩ := hrel
        obtain ⟨v, hv⟩ : ∃ v, v = wr := ⟨_, rfl⟩
        subst hv
        have HCP := (show Hid _ from hcp)
        have bwv : Below W1.heap.size W1 v := HKS.out.1.trans (hcp.bel.mono HKS.out.1.size)
        have kp : v.cell? ⟨lb, lo + i * 14 + 12, none⟩ = some (.slice pA pN pC) := by
          have := (HX.out v bwv).2 12 (.slice x.pA x.pN x.pC) rfl
          rw [HPE.out.1, HPE.out.2.1, HPE.out.2.2]
          exact this
        have glv : wo.heap.size < v.heap.size := hcp.st.lt
        clear hcp HC
        by_cases hlk : k < pN
        · have hlk1 : (k : Int) < (pN : Int) := by omega
          have hkp : k < x.pD.length := by rw [HPL.out, ← HPE.out.2.1]; exact hlk
          obtain ⟨y, hy⟩ : ∃ y, x.pD[k]? = some y := ⟨_, List.getElem?_eq_getElem hkp⟩
          obtain ⟨_, _, hpq, _, _, _, _, _⟩ := ChQ.parts (HX.out W1 (Below.refl _ _)).1
          obtain ⟨pb, po, hpa, hpl, hpc⟩ := hpq.at_.resolve_left (by rw [← HPE.out.2.1]; omega)
          have hyw := hpq.wf y (List.mem_of_getElem? hy)
          unfold PqD.Wf at hyw
          rw [← HPE.out.1] at hpa
          subst hpa
          obtain ⟨kd, va, vn, vc, vz⟩ := y
          have hvl : vn = vz.length := hyw.2.1.len.symm
          subst hvl
          have hvb : vz.length ≤ 140737488351232 := hyw.2.2
          have HQ : Hid (∀ W, Below W1.heap.size W1 W → W.cell? ⟨lb, lo + i * 14 + 12, none⟩ = some (.slice (some ⟨pb, po, none⟩) pN pC) ∧ W.cell? ⟨pb, po + k * 2, none⟩ = some (.int .u16 (kd : Nat)) ∧ W.cell? ⟨pb, po + k * 2 + 1, none⟩ = some (.slice va vz.length vc)) := fun W hW => ⟨by
            have := (HX.out W hW).2 12 (.slice x.pA x.pN x.pC) rfl
            rw [HPE.out.1, HPE.out.2.1, HPE.out.2.2]
            exact this, (hW.cell (p := ⟨pb, po + k * 2, none⟩) hpl).trans (hpc k _ hy 0 _ rfl), (hW.cell (p := ⟨pb, po + k * 2 + 1, none⟩) hpl).trans (hpc k _ hy 1 _ rfl)⟩
          have HTP : Hid ((x.pD.map PqD.pm).take (k + 1) = (x.pD.map PqD.pm).take k ++ [⟨kd, vz⟩]) := by
            show _ = _
            rw [List.take_add_one, List.getElem?_map, hy]
            rfl
          obtain ⟨a1, c1, wb, hrb, ob, lb2⟩ := cp_bytes v.drew 30 ((hyw.2.1.below bwv).below (Below.refl _ _).drew) (by omega)
          have bvd : Below v.heap.size v v.drew := (Below.refl _ _).drew
          have lb3 : Below v.heap.size v wb := bvd.trans lb2
          obtain ⟨wa, hwa⟩ : ∃ wa, wa = v.drew.alloc (.cells #[] 5) := ⟨_, rfl⟩
          have bva : Below v.heap.size v wa := by rw [hwa]; exact bvd.alloc (Nat.le_refl _) _
          obtain ⟨g2, c2, wd, happ, hop, hfr, keepB, keepG⟩ := PmO.appW (HCP.out.op.below lb3) (p := ⟨kd, vz⟩) (ob.base (by show _ ≤ v.heap.size; omega)) (by have := lb3.size; omega) (by omega)
          obtain ⟨wc, hwc⟩ : ∃ wc, wc = wb.alloc (.cells #[.int .u16 (kd : Nat), .slice a1 vz.length c1] 34) := ⟨_, rfl⟩
          have bvc : Below v.heap.size v wc := by rw [hwc]; exact lb3.alloc lb3.size _
          have bvw : Below wo.heap.size v wd := (lb3.mono (Nat.le_of_lt glv)).trans (hfr.below wo.heap.size (by have := lb3.size; omega) (fun q hq => by omega))
          have sv := HCP.out.st
          have sA := sv.below bvd
          have sB := sv.below bva
          have sC := sv.below lb3
          have sD := sv.below bvc
          have sE : Stc wd wo.heap.size ([.int .u8 (x.k : Nat), .int .u8 (x.f : Nat), .int .u32 (x.t : Nat), .int .u16 (x.st : Nat), .int .u16 (x.ss : Nat), .int .u32 (x.pp : Nat), .int .u32 (x.tg : Nat), .int .u32 (x.rm : Nat), .int .u16 (x.os : Nat), .int .u16 (x.is : Nat), .slice u1 x.bN u3, .slice v1 x.dN v3, .slice p1 k p3, .slice x1 x.xN x3]) := sC.fr hfr (by omega)
          have fE := sE.free 12
          have cE := sE.cell 12 _ rfl
          have hW1r := HKS.out.1.size
          have qA := HQ.out _ (bwv.trans (bvd.mono (by omega)))
          have qB := HQ.out _ (bwv.trans (bva.mono (by omega)))
          have qC := HQ.out _ (bwv.trans (lb3.mono (by omega)))
          have qD := HQ.out _ (bwv.trans (bvc.mono (by omega)))
          have qE := HQ.out _ (bwv.trans (bvw.mono (by omega)))
          obtain ⟨we, hwe⟩ : ∃ we, we = wd.setCell ⟨wo.heap.size, 12, none⟩ (.slice (some ⟨g2, 0, none⟩) (k + 1) c2) := ⟨_, rfl⟩
          have re : Fr (fun q => q = wo.heap.size) wd we := by rw [hwe]; exact Fr.setCell _ _ _ _ rfl
          have HF : Hid (CpS wo x u1 u3 v1 v3 (some ⟨g2, 0, none⟩) (k + 1) c2 x1 x3 ((x.pD.map PqD.pm).take (k + 1)) we) :=
            ⟨(HCP.out.bel.trans bvw).trans (re.below wo.heap.size (Nat.le_trans (Nat.le_of_lt glv) bvw.size) (fun q e => by omega)), by rw [hwe]; exact sE.set 12 _,
              OwnG.fr (keepG (by decide) (OwnG.below HCP.out.ob lb3)) re (fun g hg e => by have := (HCP.out.ob.own.lt g hg).1; omega),
              OwnG.fr (keepG (by decide) (OwnG.below HCP.out.od lb3)) re (fun g hg e => by have := (HCP.out.od.own.lt g hg).1; omega),
              by rw [HTP.out]; exact hop.fr re (fun g hg _ e => by omega), (keepB (HCP.out.ox.below lb3)).fr re (fun g hg _ e => by omega)⟩
          have HWA := (show Hid _ from hwa)
          have HWC := (show Hid _ from hwc)
          have HWE := (show Hid _ from hwe)
          have cA := sA.cell 12 _ rfl
          have cB := sB.cell 12 _ rfl
          have cC := sC.cell 12 _ rfl
          have cD := sD.cell 12 _ rfl
          have bwvS := bwv.size
          have lbs : Hid (lb < W1.heap.size ∧ pb < W1.heap.size) := ⟨hbl, hpl⟩
          clear hwa hwc hwe sv sA sB sC sD sE re hop hfr keepB keepG ob lb2 lb3 bva bvc bvw bvd hyw hpc hpq hy hkp HCP HQ
          go_wp2_with fail
          refine wp_region_stage mixedX [11, 21, 23, 24, 26] (fun stgN W => match stgN with | 0 => W = v.drew | 1 => W = wa | 2 => W = wb | 3 => W = wc | 4 => W = wd | _ => W = we) (fun W => W.cell? ⟨wo.heap.size, 12, none⟩ = some (.slice p1 k p3) ∧ W.cell? ⟨lb, lo + i * 14 + 12, none⟩ = some (.slice (some ⟨pb, po, none⟩) pN pC) ∧ W.cell? ⟨pb, po + k * 2, none⟩ = some (.int .u16 (kd : Nat)) ∧ W.cell? ⟨pb, po + k * 2 + 1, none⟩ = some (.slice va vz.length vc)) [(58, .pointer (some ⟨wo.heap.size, 12, none⟩)), (59, .slice p1 k p3), (60, .slice (some ⟨lb, lo, none⟩) n c), (61, .int .i64 (i : Nat)), (62, .pointer (some ⟨lb, lo + i * 14, none⟩)), (63, .pointer (some ⟨lb, lo + i * 14 + 12, none⟩)), (64, .slice (some ⟨pb, po, none⟩) pN pC), (65, .int .i64 (k : Nat)), (66, .pointer (some ⟨pb, po + k * 2, none⟩)), (67, .pointer (some ⟨pb, po + k * 2, none⟩)), (68, .int .u16 (kd : Nat)), (69, .slice (some ⟨v.heap.size, 0, none⟩) 0 0), (70, .slice (some ⟨lb, lo, none⟩) n c), (71, .int .i64 (i : Nat)), (72, .pointer (some ⟨lb, lo + i * 14, none⟩)), (73, .pointer (some ⟨lb, lo + i * 14 + 12, none⟩)), (74, .slice (some ⟨pb, po, none⟩) pN pC), (75, .int .i64 (k : Nat)), (76, .pointer (some ⟨pb, po + k * 2, none⟩)), (77, .pointer (some ⟨pb, po + k * 2 + 1, none⟩)), (78, .slice va vz.length vc), (79, .slice a1 vz.length c1), (80, .agg #[.int .u16 (kd : Nat), .slice a1 vz.length c1]), (81, .slice (some ⟨wb.heap.size, 0, none⟩) 1 1), (82, .slice (some ⟨g2, 0, none⟩) (k + 1) c2), (83, .pointer (some ⟨wo.heap.size, 12, none⟩))] ?Z101 ?hZ101 (by kernel_rfl) (by kernel_rfl) (by kernel_rfl) (by kernel_rfl) (by kernel_rfl) ?h0101 ?hS101 (.inl (by kernel_rfl)) ?hops101 ?he101 (by kernel_rfl) (by decide)
          case hZ101 => simp only [List.foldl_cons, List.foldl_nil, List.setIfInBounds_toArray, List.set_cons_zero, List.set_cons_succ]; rfl
          case h0101 => rfl
          case hS101 =>
            intro k W hk hW
            have hk : k < 5 := hk
            obtain rfl | rfl | rfl | rfl | rfl : k = 0 ∨ k = 1 ∨ k = 2 ∨ k = 3 ∨ k = 4 := by omega
            · have hW : W = v.drew := hW; rw [hW]; exact ⟨cA, qA⟩
            · have hW : W = wa := hW; rw [hW]; exact ⟨cB, qB⟩
            · have hW : W = wb := hW; rw [hW]; exact ⟨cC, qC⟩
            · have hW : W = wc := hW; rw [hW]; exact ⟨cD, qD⟩
            · have hW : W = wd := hW; rw [hW]; exact ⟨cE, qE⟩
          case hops101 =>
            refine ⟨?_, ?_, ?_, ?_, ?_, ?_, ?_, ?_, ?_, ?_, ?_, ?_, ?_, ?_, ?_, ?_, ?_, ?_, ?_, ?_, ?_, ?_, ?_, ?_, ?_, ?_, ?_, trivial⟩
            · exact stg_val (by rfl) (by rfl) (fun W hW => by obtain ⟨y0, y1, y2, y3⟩ := hW; go_simp; (try with_reducible rfl); (try omega))
            · exact stg_val (by rfl) (by rfl) (fun W hW => by obtain ⟨y0, y1, y2, y3⟩ := hW; go_simp; (try with_reducible rfl); (try omega))
            · exact stg_val (by rfl) (by rfl) (fun W hW => by obtain ⟨y0, y1, y2, y3⟩ := hW; go_simp; (try with_reducible rfl); (try omega))
            · exact stg_val (by rfl) (by rfl) (fun W hW => by obtain ⟨y0, y1, y2, y3⟩ := hW; go_simp; (try with_reducible rfl); (try omega))
            · exact stg_val (by rfl) (by rfl) (fun W hW => by obtain ⟨y0, y1, y2, y3⟩ := hW; go_simp; (try with_reducible rfl); (try omega))
            · exact stg_val (by rfl) (by rfl) (fun W hW => by obtain ⟨y0, y1, y2, y3⟩ := hW; go_simp; (try with_reducible rfl); (try omega))
            · exact stg_val (by rfl) (by rfl) (fun W hW => by obtain ⟨y0, y1, y2, y3⟩ := hW; go_simp; (try with_reducible rfl); (try omega))
            · exact stg_val (by rfl) (by rfl) (fun W hW => by obtain ⟨y0, y1, y2, y3⟩ := hW; go_simp; (try with_reducible rfl); (try omega))
            · exact stg_val (by rfl) (by rfl) (fun W hW => by obtain ⟨y0, y1, y2, y3⟩ := hW; go_simp; (try with_reducible rfl); (try omega))
            · exact stg_val (by rfl) (by rfl) (fun W hW => by obtain ⟨y0, y1, y2, y3⟩ := hW; go_simp; (try with_reducible rfl); (try omega))
            · exact stg_val (by rfl) (by rfl) (fun W hW => by obtain ⟨y0, y1, y2, y3⟩ := hW; go_simp; (try with_reducible rfl); (try omega))
            · exact stg_run (by rfl) (by rfl) (fun W hW => by have hW : W = v.drew := hW; subst hW; refine ⟨wa, ?_, rfl⟩; rw [HWA.out]; go_simp; try rfl)
            · exact stg_val (by rfl) (by rfl) (fun W hW => by obtain ⟨y0, y1, y2, y3⟩ := hW; go_simp; (try with_reducible rfl); (try omega))
            · exact stg_val (by rfl) (by rfl) (fun W hW => by obtain ⟨y0, y1, y2, y3⟩ := hW; go_simp; (try with_reducible rfl); (try omega))
            · exact stg_val (by rfl) (by rfl) (fun W hW => by obtain ⟨y0, y1, y2, y3⟩ := hW; go_simp; (try with_reducible rfl); (try omega))
            · exact stg_val (by rfl) (by rfl) (fun W hW => by obtain ⟨y0, y1, y2, y3⟩ := hW; go_simp; (try with_reducible rfl); (try omega))
            · exact stg_val (by rfl) (by rfl) (fun W hW => by obtain ⟨y0, y1, y2, y3⟩ := hW; go_simp; (try with_reducible rfl); (try omega))
            · exact stg_val (by rfl) (by rfl) (fun W hW => by obtain ⟨y0, y1, y2, y3⟩ := hW; go_simp; (try with_reducible rfl); (try omega))
            · exact stg_val (by rfl) (by rfl) (fun W hW => by obtain ⟨y0, y1, y2, y3⟩ := hW; go_simp; (try with_reducible rfl); (try omega))
            · exact stg_val (by rfl) (by rfl) (fun W hW => by obtain ⟨y0, y1, y2, y3⟩ := hW; go_simp; (try with_reducible rfl); (try omega))
            · exact stg_val (by rfl) (by rfl) (fun W hW => by obtain ⟨y0, y1, y2, y3⟩ := hW; go_simp; (try with_reducible rfl); (try omega))
            · exact stg_run (by rfl) (by rfl) (fun W hW => by have hW : W = wa := hW; subst hW; exact ⟨wb, run_appX rfl rfl rfl rfl (by rw [HWA.out]; exact hrb), rfl⟩)
            · exact stg_val (by rfl) (by rfl) (fun W hW => by obtain ⟨y0, y1, y2, y3⟩ := hW; go_simp; (try with_reducible rfl); (try omega))
            · exact stg_run (by rfl) (by rfl) (fun W hW => by have hW : W = wb := hW; subst hW; refine ⟨wc, ?_, rfl⟩; rw [HWC.out]; go_simp; try rfl)
            · exact stg_run (by rfl) (by rfl) (fun W hW => by have hW : W = wc := hW; subst hW; exact ⟨wd, run_appX rfl rfl rfl rfl (by rw [HWC.out]; exact happ), rfl⟩)
            · exact stg_val (by rfl) (by rfl) (fun W hW => by obtain ⟨y0, y1, y2, y3⟩ := hW; go_simp; (try with_reducible rfl); (try omega))
            · exact stg_skip (by rfl) (by rfl) rfl (fun W hW => by have hW : W = wd := hW; subst hW; refine ⟨we, ?_, rfl⟩; rw [HWE.out]; go_simp; try rfl)
          case he101 =>
          intro W hW
          have hW : W = we := hW
          subst hW
          clear HWA HWC HWE happ hrb cA cB cC cD cE fE qA qB qC qD qE
          go_wp2
          go_roundw
          case rel => exact ⟨k + 1, _, c2, by omega, by go_num, HF.out⟩
          case measure => simp [intOf]; omega
        · have hlk1 : ¬ (k : Int) < (pN : Int) := by omega
          have hken : k = pN := by omega
          subst hken
          obtain ⟨cs2, hcs2⟩ : ∃ cs2 : List Value, cs2 = [.int .u8 (x.k : Nat), .int .u8 (x.f : Nat), .int .u32 (x.t : Nat), .int .u16 (x.st : Nat), .int .u16 (x.ss : Nat), .int .u32 (x.pp : Nat), .int .u32 (x.tg : Nat), .int .u32 (x.rm : Nat), .int .u16 (x.os : Nat), .int .u16 (x.is : Nat), .slice u1 x.bN u3, .slice v1 x.dN v3, .slice p1 k p3, .slice x1 x.xN x3] := ⟨_, rfl⟩
          obtain ⟨g11, g12, g13, g14, _, _, _, _⟩ := ChQ.parts (HX.out v bwv).1
          have e1 : x.bD.length = x.bN := g11.len
          have e2 : x.dD.length = x.dN := SlK.len g12
          have e3 : (x.pD.map PqD.pm).length = k := by rw [List.length_map, HPL.out, ← HPE.out.2.1]
          have e4 : x.xZ.length = x.xN := g14.len
          have htk : (x.pD.map PqD.pm).take k = x.pD.map PqD.pm := List.take_of_length_le (by omega)
          have hcp := HCP.out
          rw [htk] at hcp
          have hch : ChO v W1.heap.size x.cd cs2 := ⟨u1, u3, v1, v3, p1, p3, x1, x3, by
            show cs2 = [.int .u8 (x.k : Nat), .int .u8 (x.f : Nat), .int .u32 (x.t : Nat), .int .u16 (x.st : Nat), .int .u16 (x.ss : Nat), .int .u32 (x.pp : Nat), .int .u32 (x.tg : Nat), .int .u32 (x.rm : Nat), .int .u16 (x.os : Nat), .int .u16 (x.is : Nat), .slice u1 x.bD.length u3, .slice v1 x.dD.length v3, .slice p1 (x.pD.map PqD.pm).length p3, .slice x1 x.xZ.length x3]
            rw [e1, e2, e3, e4, hcs2], by
              show OwnK v _ u1 x.bD.length u3 x.bD
              rw [e1]; exact OwnG.base hcp.ob (by have := HKS.out.1.size; omega), by
              show OwnD v _ v1 x.dD.length v3 x.dD
              rw [e2]; exact OwnG.base hcp.od (by have := HKS.out.1.size; omega), by
              show PmO v _ p1 (x.pD.map PqD.pm).length p3 (x.pD.map PqD.pm)
              rw [e3]; exact hcp.op.base (by have := HKS.out.1.size; omega), by
              show OwnB v _ x1 x.xZ.length x3 x.xZ
              rw [e4]; exact hcp.ox.base (by have := HKS.out.1.size; omega)⟩
          obtain ⟨g7, c7, w7, hr7, ho7, hf7⟩ := ChsO.appW (HKS.out.2.below hcp.bel) hch bwv.size (by omega)
          have hrg2 : v.rangeAt wo.heap.size 0 cs2 := by
            have := hcp.st.range
            rw [hcs2]
            exact this
          have hi14b := ch_size14R cs2 (by rw [hcs2]; rfl)
          have HFF : Hid (Below W1.heap.size W1 w7 ∧ ChsO w7 W1.heap.size (some ⟨g7, 0, none⟩) (i + 1) c7 ((dd.take (i + 1)).map ChQ.cd)) := ⟨bwv.trans (hf7.below W1.heap.size bwv.size (fun q hq => hq)), by rw [HTK.out]; exact ho7⟩
          rw [hcs2] at hr7
          clear e1 e2 e3 e4 htk hcp ho7 hf7 g11 g12 g13 g14 HCP
          go_wp2_with (first | (refine wpList_load_mid rfl 32 _ rfl wo.heap.size 0 rfl cs2 _ hrg2 Tryd.underlying32 rfl hi14b ?_; rw [hcs2]) | (at_builtin; refine app_eq_list rfl _ _ rfl rfl rfl rfl hr7 ?_) | fail)
          go_roundw
          case rel => exact ⟨i + 1, _, c7, by omega, by go_num, rfl, HFF.out.1, HFF.out.2⟩
          case measure => simp [intOf]; omega
    · have hlt1 : ¬ (i : Int) < (n : Int) := by omega
      obtain rfl : n = i := by omega
      have hdl : dd.take n = dd := List.take_of_length_le (by rw [HLEN.out]; omega)
      have HKK : Hid (Below W1.heap.size W1 wo ∧ ChsO wo W1.heap.size ka n kc (dd.map ChQ.cd)) := by
        have := HKS.out
        rw [hdl] at this
        exact this
      have s1 := HB1.out.2.below HKK.out.1
      have c0 := s1.cell 0 _ rfl
      have c1 := s1.cell 1 _ rfl
      have c2 := s1.cell 2 _ rfl
      have HP := (show Hid _ from put_row (HR.out.below HKK.out.1) f t g hf ht hg)
      have hle := ptQ_le f t g dd
      obtain ⟨V, hV⟩ : ∃ V, V = ptQ f t g dd := ⟨_, rfl⟩
      obtain ⟨er, her⟩ : ∃ er, er = mbQ dd := ⟨_, rfl⟩
      rw [← hV, ← her] at HP
      rw [← hV] at hle
      obtain ⟨L, hL⟩ : ∃ L, L = V.length := ⟨_, rfl⟩
      have HVV := (show Hid _ from And.intro hV (And.intro her hL))
      have hl2 : L ≤ 1480 := by omega
      clear hV her hL HKS hdl s1 hle
      go_wp2_with fail
      refine Calls.mono HP.out ?_
      clear HP c0 c1 c2
      rintro e w3 hP
      obtain ⟨pa, pc, rfl, ho⟩ := hP.ex
      have HB3 : Hid (Below wo.heap.size wo w3) := hP.bel
      rw [← HVV.out.2.2] at ho ⊢
      have HO := (show Hid _ from ho)
      clear ho hP
      go_wp2_with fail
      go_loopw [11] (fun u11 v => ∃ (j : Nat) (zs : List Nat), j ≤ L ∧ u11 = .int .i64 (j : Nat) ∧ OwnB v wo.heap.size pa L pc zs ∧ Below wo.heap.size wo v) (fun u11 _ => L - (intOf u11).toNat)
      case atStart => exact ⟨0, V, by omega, rfl, HO.out, HB3.out⟩
      case round =>
        obtain ⟨j, zs, hjL, rfl, ho, hb⟩ := hrel
        obtain ⟨v, hv⟩ : ∃ v, v = wr := ⟨_, rfl⟩
        subst hv
        by_cases hlj : j < L
        · have hlj1 : (j : Int) < (L : Int) := by omega
          obtain ⟨q, hq⟩ : ∃ q, pa = some ⟨q, 0, none⟩ := by
            rcases ho.own.2 with ⟨_, h0⟩ | ⟨g, cap, cur, hv, _⟩
            · omega
            · injection hv with e1
              exact ⟨g, e1⟩
          subst hq
          have hc := ho.cell j hlj
          have hfz := ho.free j
          have hx := ho.bnd j
          have hx2 : zs.getD j 0 ^^^ 17 < 256 := xor_u8 _ _ hx (by decide)
          have hst := (show Hid _ from ho.store j _ hx2)
          have hgl := (ho.own.lt q rfl).1
          have HXO := (show Hid _ from xor17O _ hx)
          have HBV := (show Hid _ from hb)
          generalize zs.getD j 0 = y at *
          clear ho hb HO HB3
          go_wp2
          go_roundw
          case rel =>
            refine ⟨j + 1, zs.set j (y ^^^ 17), by omega, by go_num, ?_, ?_⟩
            · rw [HXO.out]; exact hst.out
            · exact HBV.out.setCell (p := ⟨q, j, none⟩) hgl _
          case measure => simp [intOf]; omega
        · have hlj1 : ¬ (j : Int) < (L : Int) := by omega
          obtain rfl : L = j := by omega
          have hb4 : Below W1.heap.size W1 v := HKK.out.1.trans (hb.mono HKK.out.1.size)
          have HSA := (show Hid _ from sameAll_yes ((HR.out.below hb4).chsL) ((HKK.out.2.below hb).chsLW (by omega) (fun d hd => by
            obtain ⟨x, hx, rfl⟩ := List.mem_map.1 hd
            exact ChQ.bndW (HR.out.wf x hx))))
          have HB4 := (show Hid _ from hb4)
          clear ho hb hb4 HO HB3 HKK
          go_wp2_with fail
          refine Calls.mono HSA.out ?_
          clear HSA
          rintro e w5 ⟨rfl, b5⟩
          have HB5 : Hid (Below W1.heap.size W1 w5) := HB4.out.trans (b5.mono HB4.out.size)
          have HBW5 : Hid (Below w.heap.size w w5) := HB1.out.1.trans (HB5.out.mono HB1.out.1.size)
          clear b5 HB4
          by_cases hE : er = 0
          · subst hE
            have hP := ptOk (f := f) (t := t) (g := g) HVV.out.2.1.symm
            have hVal : V = stampV (hdB f t g ++ catL (cvQ dd)) := by rw [HVV.out.1, hP.val]
            have hL12 : 12 ≤ (hdB f t g ++ catL (cvQ dd)).length := by have := hP.small; omega
            have hsl : L = (hdB f t g ++ catL (cvQ dd)).length := by rw [HVV.out.2.2, hVal, stampV_len _ hL12]
            have HRP := (show Hid _ from rput_row (HR.out.below HB5.out) f t g hf ht hg)
            rw [← HVV.out.1, ← HVV.out.2.1] at HRP
            have h16 : 16 ≤ L := by rw [hsl]; exact hP.small
            have HVAL := (show Hid _ from hVal)
            have HPO := (show Hid _ from hP)
            have s5 := HB1.out.2.below HB5.out
            have c0 := s5.cell 0 _ rfl
            have c1 := s5.cell 1 _ rfl
            have c2 := s5.cell 2 _ rfl
            clear hP hVal hL12 hsl s5
            go_wp2_with fail
            refine Calls.mono HRP.out ?_
            clear HRP c0 c1 c2
            rintro e w6 hP6
            obtain ⟨pa2, pc2, rfl, ho2⟩ := hP6.ex
            rw [← HVV.out.2.2] at ho2 ⊢
            obtain ⟨q, hq⟩ : ∃ q, pa2 = some ⟨q, 0, none⟩ := by
              rcases ho2.own.2 with ⟨_, h0⟩ | ⟨g, cap, cur, hv, _⟩
              · omega
              · injection hv with e1
                exact ⟨g, e1⟩
            subst hq
            have hs := ho2.sl (by omega)
            have k1 := conv_str hs
            have hcl : (cvQ dd).length = n := by unfold cvQ; rw [List.length_map, HLEN.out]
            have hcm : (cvQ dd).map (·.1) = dd.map ChQ.cd := by unfold cvQ; simp
            have hok := cv_ok (HR.out.wf) HPO.out.ok
            have hs2 := hs
            rw [HVAL.out] at hs2
            have HTK := (show Hid _ from take_put f t g hf ht hg (cvQ dd) hs2 h16 hl2 (by have := HPO.out.le; have := HLEN.out; rw [hcl]; omega) hok)
            rw [hcl, hcm] at HTK
            have HOK : Hid (∀ d ∈ dd.map ChQ.cd, ∃ vz, CdB d vz) := by
              show ∀ _, _
              rw [← hcm]
              intro d hd
              obtain ⟨x, hx, rfl⟩ := List.mem_map.1 hd
              exact ⟨_, (hok x hx).1⟩
            have HB6 : Hid (Below w.heap.size w w6) := HBW5.out.trans (hP6.bel.mono HBW5.out.size)
            have HO2 := (show Hid _ from ho2)
            have hz3 := zero_head
            clear hs hs2 hcl hcm hok ho2 hP6 HPO HVAL
            go_wp2_with fail
            refine Calls.mono HTK.out ?_
            clear HTK k1
            rintro e w7 hT
            obtain ⟨la, lc, rfl, hcs⟩ := hT.ex
            obtain ⟨W8, hW8⟩ : ∃ W8, W8 = w7.alloc (.cells #[.int .u16 (f : Nat), .int .u16 (t : Nat), .int .u32 (g : Nat)] 25) := ⟨_, rfl⟩
            have b8 : Below w7.heap.size w7 W8 := by rw [hW8]; exact (Below.refl _ _).alloc (Nat.le_refl _) _
            have HB8 : Hid (Below w6.heap.size w6 W8) := hT.bel.trans (b8.mono hT.bel.size)
            obtain ⟨xs, hx1, hx2, hx3⟩ := (hcs.below b8).ex
            have hlx := hx2.len
            have HXX := (show Hid _ from And.intro hx1 (And.intro hx2 hx3))
            have hlm : (dd.map ChQ.cd).length = n := by rw [List.length_map, HLEN.out]
            have HLM := (show Hid _ from And.intro hlm hlx)
            clear hT hcs b8 hx1 hx2 hx3 hlm hlx
            go_wp2
            rw [← hW8]
            clear hW8 hz3
            go_loopw [18] (fun u18 v => ∃ (i : Nat), i ≤ n ∧ u18 = .int .i64 (i : Nat) ∧ TwS W8 w6.heap.size v) (fun u18 _ => n - (intOf u18).toNat)
            case atStart => exact ⟨0, by omega, rfl, TwS.refl _ _⟩
            case round =>
              obtain ⟨i, hin, rfl, htw⟩ := hrel
              obtain ⟨va, hva⟩ : ∃ va, va = wr := ⟨_, rfl⟩
              subst hva
              by_cases hlt : i < n
              · have hlt1 : (i : Int) < (n : Int) := by omega
                obtain ⟨gR, hgR, _, _, _, _, hcl, _⟩ := OwnG.at_ HXX.out.2.1 (fun x => x.2.1) (by omega)
                subst hgR
                obtain ⟨y, hy⟩ : ∃ y, xs[i]? = some y := ⟨_, List.getElem?_eq_getElem (by rw [HLM.out.2]; exact hlt)⟩
                obtain ⟨d, hd⟩ : ∃ d, (dd.map ChQ.cd)[i]? = some d := ⟨_, List.getElem?_eq_getElem (by rw [HLM.out.1]; exact hlt)⟩
                obtain ⟨b1, b3, d1, d3, p1, p3, x1, x3, e, k1, k2, k3, k4⟩ := (HXX.out.2.2 i d y hd hy).ex
                have HK4 := (show Hid _ from k4)
                have HK3 := (show Hid _ from k3)
                have HCL : Hid (∀ v, TwS W8 w6.heap.size v → v.cell? ⟨gR, i * 14 + 13, none⟩ = some (.slice x1 d.xs.length x3) ∧ v.cell? ⟨gR, i * 14 + 12, none⟩ = some (.slice p1 d.ps.length p3)) := fun v hv => ⟨(hv.cell (by decide) HXX.out.2.1 _).trans (hcl i y hy 13 _ (by rw [e]; rfl)), (hv.cell (by decide) HXX.out.2.1 _).trans (hcl i y hy 12 _ (by rw [e]; rfl))⟩
                obtain ⟨xz, hxz⟩ : ∃ xz, xz = d.xs := ⟨_, rfl⟩
                obtain ⟨pz, hpz⟩ : ∃ pz, pz = d.ps := ⟨_, rfl⟩
                obtain ⟨vz, hvz⟩ := HOK.out d (List.mem_of_getElem? hd)
                obtain ⟨_, _, ⟨hbp0, hbq0⟩, hbx0⟩ := hvz.bnd
                have hbx : xz.length ≤ 60000 := by rw [hxz]; exact hbx0
                have hbp : pz.length ≤ 16 := by rw [hpz]; exact hbp0
                have HBQ : Hid (∀ p ∈ pz, p.k < 65536 ∧ p.zs.length ≤ 2000) := by
                  show ∀ _, _
                  rw [hpz]; exact hbq0
                clear hvz hbp0 hbq0 hbx0
                rw [← hxz, ← hpz] at HCL
                rw [← hxz] at HK4
                rw [← hpz] at HK3
                have HTW := (show Hid _ from htw)
                clear hxz hpz hcl hy hd e k1 k2 k3 k4 htw
                go_wp2
                go_loopw [19] (fun u19 v => ∃ (k : Nat), k ≤ xz.length ∧ u19 = .int .i64 (k : Nat) ∧ TwS W8 w6.heap.size v) (fun u19 _ => xz.length - (intOf u19).toNat)
                case atStart => exact ⟨0, by omega, rfl, HTW.out⟩
                case round =>
                  obtain ⟨k, hkn, rfl, ht2⟩ := hrel
                  obtain ⟨vb, hvb⟩ : ∃ vb, vb = wr := ⟨_, rfl⟩
                  subst hvb
                  obtain ⟨q13, q12⟩ := HCL.out vb ht2
                  have HT2 := (show Hid _ from ht2)
                  by_cases hlk : k < xz.length
                  · have hlk1 : (k : Int) < (xz.length : Int) := by omega
                    obtain ⟨qx, hqx⟩ : ∃ qx, x1 = some ⟨qx, 0, none⟩ := by
                      rcases HK4.out.own.2 with ⟨_, h0⟩ | ⟨g, cap, cur, hv, _⟩
                      · omega
                      · injection hv with e1
                        exact ⟨g, e1⟩
                    subst hqx
                    obtain ⟨ys, hys⟩ := HT2.out.own HK4.out
                    have hc := hys.cell k hlk
                    have hfz := hys.free k
                    have hx := hys.bnd k
                    have hx2 : ys.getD k 0 ^^^ 17 < 256 := xor_u8 _ _ hx (by decide)
                    have HPK := (show Hid _ from HT2.out.poke HK4.out k _ hx2)
                    have HXO := (show Hid _ from xor17O _ hx)
                    generalize ys.getD k 0 = y1 at *
                    clear hys ht2
                    go_wp2
                    go_roundw
                    case rel =>
                      refine ⟨k + 1, by omega, by go_num, ?_⟩
                      rw [HXO.out]; exact HPK.out
                    case measure => simp [intOf]; omega
                  · have hlk1 : ¬ (k : Int) < (xz.length : Int) := by omega
                    clear ht2 HTW
                    go_wp2
                    go_loopw [20] (fun u20 v => ∃ (k2 : Nat), k2 ≤ pz.length ∧ u20 = .int .i64 (k2 : Nat) ∧ TwS W8 w6.heap.size v) (fun u20 _ => pz.length - (intOf u20).toNat)
                    case atStart => exact ⟨0, by omega, rfl, HT2.out⟩
                    case round =>
                      obtain ⟨k2, hkn2, rfl, ht3⟩ := hrel
                      obtain ⟨vc, hvc⟩ : ∃ vc, vc = wr := ⟨_, rfl⟩
                      subst hvc
                      clear q13 q12
                      obtain ⟨q13, q12⟩ := HCL.out vc ht3
                      have HT3 := (show Hid _ from ht3)
                      clear ht3 HT2
                      by_cases hlk2 : k2 < pz.length
                      · have hlk3 : (k2 : Int) < (pz.length : Int) := by omega
                        obtain ⟨zs2, hz1, hz2, hz3⟩ := HK3.out.ex
                        obtain ⟨gp, hgp, _, _, _, _, hcl2, _⟩ := OwnG.at_ hz2 (fun _ => rfl) (by omega)
                        subst hgp
                        have hzl : zs2.length = pz.length := hz2.len
                        obtain ⟨⟨pm, ma, mc⟩, hzy⟩ : ∃ z, zs2[k2]? = some z := ⟨_, List.getElem?_eq_getElem (by omega)⟩
                        have hob := hz3 _ (List.mem_of_getElem? hzy)
                        dsimp only at hob
                        obtain ⟨yz, hyz⟩ : ∃ yz, yz = pm.zs := ⟨_, rfl⟩
                        have hby : yz.length ≤ 2000 := by
                          rw [hyz]
                          exact (HBQ.out pm (by rw [← hz1]; exact List.mem_map.2 ⟨_, List.mem_of_getElem? hzy, rfl⟩)).2
                        have HCP : Hid (∀ v, TwS W8 w6.heap.size v → v.cell? ⟨gp, k2 * 2 + 1, none⟩ = some (.slice ma yz.length mc)) := fun v hv => (hv.cell (by decide) hz2 _).trans (by rw [hyz]; exact hcl2 k2 _ hzy 1 _ rfl)
                        rw [← hyz] at hob
                        have HOB := (show Hid _ from hob)
                        clear hz1 hz2 hz3 hcl2 hzy hob hyz hzl
                        go_wp2
                        go_loopw [21] (fun u21 v => ∃ (k3 : Nat), k3 ≤ yz.length ∧ u21 = .int .i64 (k3 : Nat) ∧ TwS W8 w6.heap.size v) (fun u21 _ => yz.length - (intOf u21).toNat)
                        case atStart => exact ⟨0, by omega, rfl, HT3.out⟩
                        case round =>
                          obtain ⟨k3, hkn3, rfl, ht4⟩ := hrel
                          obtain ⟨vd, hvd⟩ : ∃ vd, vd = wr := ⟨_, rfl⟩
                          subst hvd
                          clear q13 q12
                          obtain ⟨q13, q12⟩ := HCL.out vd ht4
                          have q1 := HCP.out vd ht4
                          have HT4 := (show Hid _ from ht4)
                          clear ht4 HT3
                          by_cases hlk4 : k3 < yz.length
                          · have hlk5 : (k3 : Int) < (yz.length : Int) := by omega
                            obtain ⟨qx, hqx⟩ : ∃ qx, ma = some ⟨qx, 0, none⟩ := by
                              rcases HOB.out.own.2 with ⟨_, h0⟩ | ⟨g, cap, cur, hv, _⟩
                              · omega
                              · injection hv with e1
                                exact ⟨g, e1⟩
                            subst hqx
                            obtain ⟨ys, hys⟩ := HT4.out.own HOB.out
                            have hc := hys.cell k3 hlk4
                            have hfz := hys.free k3
                            have hx := hys.bnd k3
                            have hx2 : ys.getD k3 0 ^^^ 17 < 256 := xor_u8 _ _ hx (by decide)
                            have HPK := (show Hid _ from HT4.out.poke HOB.out k3 _ hx2)
                            have HXO := (show Hid _ from xor17O _ hx)
                            generalize ys.getD k3 0 = y1 at *
                            clear hys
                            go_wp2
                            go_roundw
                            case rel =>
                              refine ⟨k3 + 1, by omega, by go_num, ?_⟩
                              rw [HXO.out]; exact HPK.out
                            case measure => simp [intOf]; omega
                          · have hlk5 : ¬ (k3 : Int) < (yz.length : Int) := by omega
                            go_wp2
                            go_roundw
                            case rel => exact ⟨k2 + 1, by omega, by go_num, HT4.out⟩
                            case measure => simp [intOf]; omega
                      · have hlk3 : ¬ (k2 : Int) < (pz.length : Int) := by omega
                        go_wp2
                        go_roundw
                        case rel => exact ⟨i + 1, by omega, by go_num, HT3.out⟩
                        case measure => simp [intOf]; omega
              · have hlt1 : ¬ (i : Int) < (n : Int) := by omega
                have hb9 : Below w6.heap.size w6 va := HB8.out.trans (htw.below HB8.out.size)
                have HB9 : Hid (Below w.heap.size w va) := HB6.out.trans (hb9.mono HB6.out.size)
                have HO9 := (show Hid _ from HO2.out.below hb9)
                have HL9 := (show Hid _ from HLV.out va HB9.out)
                clear htw hb9
                go_wp2_with fail
                refine Calls.mono HL9.out ?_
                rintro e wz ⟨rfl, bz⟩
                have k1 := conv_str ((HO9.out.below bz).sl (by omega))
                have HBZ : Hid (Below w.heap.size w wz) := HB9.out.trans (bz.mono HB9.out.size)
                clear bz HO9 HL9
                go_wp2
                go_ret
                exact ⟨by first | rfl | simp, HBZ.out⟩
          · have g1 : (er != 0) = true := by simpa using hE
            have HL5 := (show Hid _ from HLV.out w5 HBW5.out)
            go_wp2_with fail
            refine Calls.mono HL5.out ?_
            rintro e w6 ⟨rfl, b6⟩
            have HB6 : Hid (Below w.heap.size w w6) := HBW5.out.trans (b6.mono HBW5.out.size)
            clear b6 HL5
            go_wp2
            go_ret
            exact ⟨rfl, HB6.out⟩
end Go.Proofs.YtlgfbcfogcmdbaaDoor
namespace Go.Proofs.YtlgfbcfogcmdbaaDoor.chunkOwn
theorem of_laid {W : World} (h : laidMetH Tryd.prog Rows.chunkOwnRow.laid W) : NW W := by
  rw [MakeChecks.laidMetH_plain _ _ _ (by kernel_rfl)] at h
  exact nw_of_laid h
end Go.Proofs.YtlgfbcfogcmdbaaDoor.chunkOwn
namespace Go.Proofs.YtlgfbcfogcmdbaaDoor.chunkOwn
open Go.ChangeShapes Go.WideShapes Go.ChangeAt Go.RowKit
open Go.ChangeMaps (open_string shut_string)
set_option linter.unusedVariables false
theorem own : ownKnob Tryd.prog.godebug = none := by kernel_rfl
theorem laidOut : laidOutB Tryd.prog = true := by kernel_rfl
set_option maxRecDepth 100000 in
set_option maxHeartbeats 1000000 in
theorem lifted (os : Os) (started : os.Started) (H : Type) (enc : TypeId × Value → H) :
    ReturnsInHanded {} Tryd.checked os 3 .any (fun w args => (Rows.chunkOwnSpec.pre enc Tryd.prog Tryd.f3 [] false w args ∧ laidMetH Tryd.prog Rows.chunkOwnRow.laid w) ∧ sizedMet enc Tryd.prog Tryd.f3 (OpenSpec.ofChange Rows.chunkOwnSpec) false w args)
      (Rows.chunkOwnSpec.post enc Tryd.prog Tryd.f3 false true false false) := by
  refine returnsInHanded_of_change_and (C := Tryd.checked) (X := fun w _ => laidMetH Tryd.prog Rows.chunkOwnRow.laid w) (fun _ _ _ hh h => h.of_heap hh) own started (by kernel_rfl) Tryd.func3
    (ChangeSpec.witness_shaped (enc := enc) (C := Tryd.checked) (os := os) (X := fun w _ => laidMetH Tryd.prog Rows.chunkOwnRow.laid w) false (World.laidAll Tryd.prog os Rows.chunkOwnRow.laid) #[.agg #[.int .u16 0, .int .u16 0, .int .u32 0], .slice none 0 0] 8 (World.laidAll_os _ _ _)
      (World.shaped_of_ZipB (by kernel_rfl) (by kernel_rfl)) (by kernel_rfl) (by kernel_rfl) (by kernel_rfl)
      (by rw [MakeChecks.laidMetH_plain _ _ _ (by kernel_rfl)]; exact laidMet_laidAll _ (by kernel_rfl) (by kernel_rfl))) ?_
  intro W base args ds gs before hval0 hW _ hsz0 hL _
  have hsz : (DataW.weightsEach Tryd.prog (Tryd.f3.params.toList ++ Rows.chunkOwnSpec.plain.varTypes Tryd.prog) (ds ++ gs)).all (· ≤ reachBytes) = true := hsz0
  clear hsz0
  have hval : ∀ (j : Nat) t v, Tryd.f3.params[j]? = some t → args[j]? = some v → Value.okWide Tryd.prog W .any base t v := hval0
  have hW' := hW
  obtain ⟨p, q, hA0, hV, rfl, hfz, hnd⟩ := hW
  have hA : DataW.TrodAll enc Tryd.prog W 0 (fun _ => true) true Tryd.f3.params.toList args.toList ds p := hA0
  rw [Tryd.params3] at hA hval hsz
  obtain ⟨v0, vs0, d0, ds0, p0, q0, hargs, rfl, rfl, h0, r0⟩ := trodAll_cons hA
  obtain ⟨v1, vs1, d1, ds1, p1, q1, rfl, rfl, rfl, h1, r1⟩ := trodAll_cons r0
  obtain ⟨rfl, rfl, rfl⟩ := trodAll_nil r1
  obtain rfl : args = #[v0, v1] := by cases args; simp_all
  obtain ⟨rfl, rfl⟩ := trodVars_none hV
  have k0 := h0
  have lt0 : ∀ x ∈ p0, x.block < W.heap.size := by obtain ⟨m, hm⟩ := k0; exact DataW.trod_lt m _ _ _ hm
  obtain ⟨x0_0, x0_1, x0_2, rfl, b0_0, b0_1, b0_2⟩ := StHead.open_ (hval 0 25 v0 rfl rfl) h0 (fun q hq => by
    have := List.all_eq_true.1 hsz q (DataW.weights_mem_each (j := 0) (t := 25) (d := d0) rfl rfl q hq)
    simpa using this)
  obtain ⟨a1, len1, cap1, rfl⟩ := okWide_slice Tryd.underlying26 (hval 1 26 v1 rfl rfl)
  have k1 := h1
  have lt1 : ∀ x ∈ p1, x.block < W.heap.size := by obtain ⟨m, hm⟩ := k1; exact DataW.trod_lt m _ _ _ hm
  obtain ⟨z1, w1⟩ : ∃ dd, SlCq W a1 len1 cap1 dd := by
    clear k1 lt1
    obtain ⟨fuel, hf⟩ := h1
    exact SlCq.open hf (fun q hq => by
      have := List.all_eq_true.1 hsz q (DataW.weights_mem_each (j := 1) (t := 26) (d := d1) rfl rfl q hq)
      simpa using this)
  clear hA0 hval0 hsz
  refine (walk_ChunkOwn x0_0 x0_1 x0_2 a1 len1 cap1 z1 W b0_0 b0_1 b0_2 w1 (of_laid hL)).mono fun e W' ⟨he, bel⟩ => ?_
  subst he
  exact ⟨_, rfl, _, _, _, [], _, [], hW', trodAll_mk1 (shut_bool Tryd.underlying4 _), (trodAll_cons_mk (Below.trod laidOut (by kernel_rfl) (of_decide_eq_true (by kernel_rfl)) k0 bel lt0) (trodAll_cons_mk (Below.trod laidOut (by kernel_rfl) (of_decide_eq_true (by kernel_rfl)) k1 bel lt1) trodAll_mk0)), rfl, bel.frame _, fun h => by cases h⟩
theorem over : Rows.chunkOwnRow.holds Tryd.pinned (OpenSpec.ofChange Rows.chunkOwnSpec) :=
  OpenClaim.holds_of_wide 3 Tryd.f3 rfl rfl rfl rfl rfl rfl rfl ⟨rfl, rfl, rfl, rfl, rfl⟩ rfl rfl rfl rfl rfl (by kernel_rfl) Tryd.func3 (by kernel_rfl)
    (of_decide_eq_true (by kernel_rfl)) (by unfold Func.isWrapper; first | (rw [if_pos (by decide +kernel)]; kernel_rfl) | (rw [if_neg (by decide +kernel)]; exact ⟨rfl, rfl⟩))
    (fun os started H enc _ => lifted os started H enc)
end Go.Proofs.YtlgfbcfogcmdbaaDoor.chunkOwn
namespace Go.Proofs.YtlgfbcfogcmdbaaDoor
theorem ChunkOwn_holds : Rows.ChunkOwnCardSaid :=
  Claim7.holds_tied_plain_at .later [] [.data] true (true, Rows.chunkOwnCard.stood.harness.2) true
    chunkOwn.over (fun _ h => by cases h) (by kernel_rfl) (fun _ h => by cases h) chunkOwn_row_tie rfl ⟨rfl, rfl⟩ (by kernel_rfl) rfl
    (fun f fn hf hfn => by
      obtain rfl : f = 3 := Option.some.inj ((show Tryd.prog.funcNamed Rows.chunkOwnRow.func = some 3 by kernel_rfl).symm.trans hf) |>.symm
      obtain rfl : fn = Tryd.f3 := (Option.some.inj (Tryd.func3.symm.trans hfn)).symm
      exact ⟨by kernel_rfl, fun j t ht => by
        rw [Tryd.params3] at ht
        have hm : t ∈ [25, 26] := by simpa using Array.mem_of_getElem? ht
        have hall : ([25, 26].all fun u => !Tryd.prog.wantsStandIn u) = true := by kernel_rfl
        exact (show Tryd.prog.wantsStandIn t = false by simpa using List.all_eq_true.1 hall t hm)⟩)
    (by kernel_rfl)
#print axioms ChunkOwn_holds
end Go.Proofs.YtlgfbcfogcmdbaaDoor
