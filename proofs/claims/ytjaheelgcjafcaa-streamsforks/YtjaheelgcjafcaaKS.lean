/- trunklineref13: run. -/
import Derived.Test.YtjaheelgcjafcaaKN
namespace Go.Proofs.Ytjaheelgcjafcaa
open Go.RowKit
def slN : Value → Nat
  | .slice _ n _ => n
  | _ => 0
/-- How far the reference's way along a message has come. -/
structure RnW (w : World) (E : List ChQ) (t k : Nat) (oa : Option Addr) (oc : Nat) (xs : List ChQ) (wr : World) : Prop where
  own : OwnG 47 14 ChQ.vals wr w.heap.size oa k oc xs
  bel : Below w.heap.size w wr
  rn : RnS (E.map ChQ.kv) t k
  at_ : ∀ j, j < k → findQ E ((t + j) % 4294967296) = xs[j]?
/-- run's answer. -/
inductive RunR (w : World) (E : List ChQ) (t : Nat) (e : Ending) (w' : World) : Prop
  | no : e = .returned (.slice none 0 0) → (∀ m, ¬ Whl (E.map ChQ.kv) t m) → Below w.heap.size w w' → RunR w E t e w'
  | yes (m : Nat) (oa : Option Addr) (oc : Nat) (xs : List ChQ) : e = .returned (.slice oa (m + 1) oc) → Whl (E.map ChQ.kv) t m → OwnG 47 14 ChQ.vals w' w.heap.size oa (m + 1) oc xs → (∀ j, j < m + 1 → findQ E ((t + j) % 4294967296) = xs[j]?) → Below w.heap.size w w' → RunR w E t e w'
theorem nextB_none {E : List ChQ} {t k : Nat} (h : findQ E ((t + k) % 4294967296) = none) : nextB (E.map ChQ.kv) t k = false := by
  unfold nextB
  rw [findQ_kv, h]
  rfl
theorem pcAt_q {E : List ChQ} {t : Nat} {x : ChQ} (h : findQ E t = some x) : pcAt (E.map ChQ.kv) t = x.pc := by
  unfold pcAt
  rw [findQ_kv, h]
  rfl
theorem nextB_beg {E : List ChQ} {t k : Nat} {x : ChQ} (h : findQ E ((t + k) % 4294967296) = some x) (hb : x.pc.beg ≠ (k == 0)) : nextB (E.map ChQ.kv) t k = false := by
  unfold nextB
  rw [pcAt_q h, findQ_kv, h, show (x.pc.beg == (k == 0)) = false by rw [beq_eq_false_iff_ne]; exact hb]
  rfl
theorem nextB_fit {E : List ChQ} {t k : Nat} {x y : ChQ} (hk : 0 < k) (h : findQ E ((t + k) % 4294967296) = some x) (h0 : pcAt (E.map ChQ.kv) t = y.pc) (hb : fitB x.pc y.pc = false) : nextB (E.map ChQ.kv) t k = false := by
  unfold nextB
  rw [pcAt_q h, h0, hb, Bool.or_false, show (k == 0) = false by rw [beq_eq_false_iff_ne]; omega, Bool.and_false]
theorem nextB_zero {E : List ChQ} {t : Nat} {x : ChQ} (h : findQ E ((t + 0) % 4294967296) = some x) (hb : x.pc.beg = true) : nextB (E.map ChQ.kv) t 0 = true := by
  unfold nextB
  rw [pcAt_q h, findQ_kv, h, hb]
  rfl
theorem nextB_more {E : List ChQ} {t k : Nat} {x y : ChQ} (hk : 0 < k) (h : findQ E ((t + k) % 4294967296) = some x) (h0 : pcAt (E.map ChQ.kv) t = y.pc) (hb : x.pc.beg = false) (hf : fitB x.pc y.pc = true) : nextB (E.map ChQ.kv) t k = true := by
  unfold nextB
  rw [pcAt_q h, findQ_kv, h, h0, hb, hf, show (k == 0) = false by rw [beq_eq_false_iff_ne]; omega]
  rfl
set_option maxRecDepth 100000 in
set_option maxHeartbeats 8000000 in
/-- What is left (its text is what the walk comes to), and the walk given it. -/
noncomputable def runK : PSigma fun G0 : Prop => Hid G0 → ∀ (W0 w : World) (p : Nat) (r : Rw) (nx : List Nat) (E : List ChQ) (V : List RyD) (Z : Nat → Prop) (D : List (Nat × Pc)) (t : Nat), RfS W0 w p r nx E V Z → Alk D (E.map ChQ.kv) → t < 4294967296 → Calls Try.prog 50 #[.pointer (some ⟨p, 0, none⟩), .int .u32 (t : Nat)] w (RunR w E t) := by
  apply PSigma.mk
  case snd =>
    intro h0
    intro W0 w p r nx E V Z D t h hA ht
    have HH := (show Hid _ from And.intro h hA)
    have HE := (show Hid _ from OwnG.empty (T := 47) (k := 14) (cf := ChQ.vals) w)
    have hD : D.length ≤ 128 := by
      have := hA.len
      rw [List.length_map] at this
      have := h.el
      omega
    clear h hA
    go_enter Try.func50, Try.ntmps50
    go_wp2_with fail
    go_loopw [1, 5] (fun tv ov wr => ∃ (k : Nat) (oa : Option Addr) (oc : Nat) (xs : List ChQ), tv = .int .u32 (((t + k) % 4294967296 : Nat)) ∧ ov = .slice oa k oc ∧ RnW w E t k oa oc xs wr) (fun _ ov _ => 1000 - slN ov)
    case atStart => exact ⟨0, _, 0, [], by rw [Nat.add_zero, Nat.mod_eq_of_lt ht], rfl, HE.out, (Below.refl _ _).alloc (Nat.le_refl _) _, RnS.start ht, fun j hj => by omega⟩
    case round =>
      obtain ⟨k, oa, oc, xs, rfl, rfl, hI⟩ := hrel
      clear HE
      obtain ⟨q, hq⟩ : ∃ q, q = (t + k) % 4294967296 := ⟨_, rfl⟩
      rw [← hq]
      have hk : k ≤ 128 := Nat.le_trans (chain_len k t D HH.out.2.srt (by have := hI.rn.few; omega) (fun j hj => by rw [HH.out.2.some_iff]; exact hI.rn.there j hj)) hD
      have hq32 : q < 4294967296 := by omega
      have hcall := rheld_any (HH.out.1.below hI.bel) q hq32
      have HI := (show Hid _ from And.intro hI hq)
      clear hI hq
      go_wp2_with fail
      refine hcall.mono ?_
      clear hcall
      rintro e V1 ⟨he, hb1⟩
      cases hfq : findQ E q with
      | none =>
        obtain rfl : e = .returned (.tuple #[.agg #[.int .u8 0, .int .u8 0, .int .u32 0, .int .u16 0, .int .u16 0, .int .u32 0, .int .u32 0, .int .u32 0, .int .u16 0, .int .u16 0, .slice none 0 0, .slice none 0 0, .slice none 0 0, .slice none 0 0], .bool false]) := by rw [he]; unfold heldV; rw [hfq]; rfl
        have HB1 := (show Hid _ from And.intro hb1 hfq)
        clear he hb1 hfq
        go_wp2
        go_ret
        obtain ⟨hI, hq⟩ := HI.out
        refine .no rfl (hI.rn.no (nextB_none (by rw [← hq]; exact HB1.out.2))) ?_
        exact hI.bel.trans ((HB1.out.1.mono hI.bel.size).trans ((Below.refl _ _).alloc (Nat.le_trans hI.bel.size HB1.out.1.size) _))
      | some x =>
        obtain rfl : e = .returned (.tuple #[.agg #[.int .u8 (x.k : Nat), .int .u8 (x.f : Nat), .int .u32 (x.t : Nat), .int .u16 (x.st : Nat), .int .u16 (x.ss : Nat), .int .u32 (x.pp : Nat), .int .u32 (x.tg : Nat), .int .u32 (x.rm : Nat), .int .u16 (x.os : Nat), .int .u16 (x.is : Nat), .slice x.bA x.bN x.bC, .slice x.dA x.dN x.dC, .slice x.pA x.pN x.pC, .slice x.xA x.xN x.xC], .bool true]) := by rw [he]; unfold heldV; rw [hfq]; rfl
        have hxf : x.f < 256 := (ChQ.sml (HH.out.1.ok x (findQ_in hfq).1).wf).2.1
        have HB1 := (show Hid _ from And.intro hb1 hfq)
        clear he hb1 hfq
        go_wp2_with fail
        refine (rbegins_any x _ hxf _ rfl).mono ?_
        rintro e V2 ⟨rfl, hb2⟩
        obtain ⟨hI, hq⟩ := HI.out
        have hb12 : Below wr.heap.size wr V2 := HB1.out.1.trans (((Below.refl _ _).alloc HB1.out.1.size _).trans (hb2.mono (Nat.le_trans HB1.out.1.size (by simp))))
        have hc2 : Stc V2 V1.heap.size x.vals := (Stc.new V1 x.vals 47 _ rfl).below hb2
        have ho2 := OwnG.below hI.own hb12
        have hne : ∀ g, (Value.slice oa k oc).ownBlock = some g → g ≠ V1.heap.size := fun g hg => by
          have := (hI.own.own.lt g hg).2
          have := HB1.out.1.size
          omega
        have hB2 := hI.bel.trans (hb12.mono hI.bel.size)
        have hl2 : V1.heap.size < V2.heap.size := hc2.lt
        have HC2 := (show Hid _ from And.intro hc2 (And.intro ho2 (And.intro hne (And.intro hB2 (And.intro hl2 hb12)))))
        clear hI hq hb12 hc2 ho2 hne hB2 hl2 hb2
        obtain ⟨b, hbb⟩ : ∃ b, b = x.pc.beg := ⟨_, rfl⟩
        rw [← hbb]
        have HBB := (show Hid _ from hbb)
        clear hbb
        rcases Nat.eq_zero_or_pos k with hk0 | hk0
        · subst hk0
          cases b with
          | false =>
            go_wp2
            go_ret
            obtain ⟨hI, hq⟩ := HI.out
            refine .no rfl (hI.rn.no (nextB_beg (x := x) (by rw [← hq]; exact HB1.out.2) (by rw [← HBB.out]; decide))) HC2.out.2.2.2.1
          | true =>
            have HN : Hid (nextB (E.map ChQ.kv) t 0 = true) := by
              obtain ⟨hI, hq⟩ := HI.out
              exact nextB_zero (x := x) (by rw [← hq]; exact HB1.out.2) HBB.out.symm
            go_wp2_with fail
            refine wp_region_fixW mixedX (fun V => Below V2.drew.heap.size V2.drew V) [(25, .slice oa 0 oc), (26, .int .i64 0), (27, .bool false), (28, .bool false), (29, undef), (30, undef), (31, undef), (32, undef), (33, undef), (34, undef), (35, undef), (36, undef), (37, undef), (38, undef), (39, undef), (40, undef), (41, undef), (42, undef), (43, undef), (44, undef), (45, undef), (46, undef), (47, undef), (48, undef), (49, undef), (50, undef), (51, undef), (52, undef), (53, undef), (54, undef), (55, undef), (56, undef), (57, undef), (58, undef), (59, .bool false)] ?Z1 ?hZ1 (by kernel_rfl) (by kernel_rfl) (by kernel_rfl) (by kernel_rfl) ?h01 ?hops1 ?he1
            case hZ1 => simp only [List.foldl_cons, List.foldl_nil, List.setIfInBounds_toArray, List.set_cons_zero, List.set_cons_succ]; rfl
            case h01 => exact Below.refl _ _
            case hops1 =>
              refine ⟨?_, ?_, ?_, ?_, ?_, ?_, ?_, ?_, ?_, ?_, ?_, ?_, ?_, ?_, ?_, ?_, ?_, ?_, ?_, ?_, ?_, ?_, ?_, ?_, ?_, ?_, ?_, ?_, ?_, ?_, ?_, ?_, ?_, ?_, ?_, trivial⟩
              · exact fix_val (by rfl) (fun W hW => by go_simp; (try with_reducible rfl); (try omega))
              · exact fix_val (by rfl) (fun W hW => by go_simp; (try with_reducible rfl); (try omega))
              · exact fix_val (by rfl) (fun W hW => by go_simp; (try with_reducible rfl); (try omega))
              · exact fix_val (by rfl) (fun W hW => by go_simp; (try with_reducible rfl); (try omega))
              · exact fix_off (by rfl) (fun d hd => by cases hd; rfl)
              · exact fix_off (by rfl) (fun d hd => by cases hd; rfl)
              · exact fix_off (by rfl) (fun d hd => by cases hd; rfl)
              · exact fix_off (by rfl) (fun d hd => by cases hd; rfl)
              · exact fix_off (by rfl) (fun d hd => by cases hd; rfl)
              · exact fix_off (by rfl) (fun d hd => by cases hd; rfl)
              · exact fix_off (by rfl) (fun d hd => by cases hd; rfl)
              · exact fix_off (by rfl) (fun d hd => by cases hd; rfl)
              · exact fix_off (by rfl) (fun d hd => by cases hd; rfl)
              · exact fix_off (by rfl) (fun d hd => by cases hd; rfl)
              · exact fix_off (by rfl) (fun d hd => by cases hd; rfl)
              · exact fix_off (by rfl) (fun d hd => by cases hd; rfl)
              · exact fix_off (by rfl) (fun d hd => by cases hd; rfl)
              · exact fix_off (by rfl) (fun d hd => by cases hd; rfl)
              · exact fix_off (by rfl) (fun d hd => by cases hd; rfl)
              · exact fix_off (by rfl) (fun d hd => by cases hd; rfl)
              · exact fix_off (by rfl) (fun d hd => by cases hd; rfl)
              · exact fix_off (by rfl) (fun d hd => by cases hd; rfl)
              · exact fix_off (by rfl) (fun d hd => by cases hd; rfl)
              · exact fix_off (by rfl) (fun d hd => by cases hd; rfl)
              · exact fix_off (by rfl) (fun d hd => by cases hd; rfl)
              · exact fix_off (by rfl) (fun d hd => by cases hd; rfl)
              · exact fix_off (by rfl) (fun d hd => by cases hd; rfl)
              · exact fix_off (by rfl) (fun d hd => by cases hd; rfl)
              · exact fix_off (by rfl) (fun d hd => by cases hd; rfl)
              · exact fix_off (by rfl) (fun d hd => by cases hd; rfl)
              · exact fix_off (by rfl) (fun d hd => by cases hd; rfl)
              · exact fix_off (by rfl) (fun d hd => by cases hd; rfl)
              · exact fix_off (by rfl) (fun d hd => by cases hd; rfl)
              · exact fix_off (by rfl) (fun d hd => by cases hd; rfl)
              · exact fix_val (by rfl) (fun W hW => by go_simp; (try with_reducible rfl); (try omega))
            case he1 =>
            rintro V3 hV3
            have hb3 : Below V2.heap.size V2 V3 := (Below.refl _ _).drew.trans hV3
            have hcv := HC2.out.1.below hb3
            have qc0 := hcv.cell 0 _ rfl
            have qf0 := hcv.free 0
            have qc1 := hcv.cell 1 _ rfl
            have qf1 := hcv.free 1
            have qc2 := hcv.cell 2 _ rfl
            have qf2 := hcv.free 2
            have qc3 := hcv.cell 3 _ rfl
            have qf3 := hcv.free 3
            have qc4 := hcv.cell 4 _ rfl
            have qf4 := hcv.free 4
            have qc5 := hcv.cell 5 _ rfl
            have qf5 := hcv.free 5
            have qc6 := hcv.cell 6 _ rfl
            have qf6 := hcv.free 6
            have qc7 := hcv.cell 7 _ rfl
            have qf7 := hcv.free 7
            have qc8 := hcv.cell 8 _ rfl
            have qf8 := hcv.free 8
            have qc9 := hcv.cell 9 _ rfl
            have qf9 := hcv.free 9
            have qc10 := hcv.cell 10 _ rfl
            have qf10 := hcv.free 10
            have qc11 := hcv.cell 11 _ rfl
            have qf11 := hcv.free 11
            have qc12 := hcv.cell 12 _ rfl
            have qf12 := hcv.free 12
            have qc13 := hcv.cell 13 _ rfl
            have qf13 := hcv.free 13
            have HO : Hid (OwnG 47 14 ChQ.vals V3 w.heap.size oa 0 oc xs) := HC2.out.2.1.below hb3
            have HBV : Hid (Below w.heap.size w V3) := HC2.out.2.2.2.1.trans (hb3.mono HC2.out.2.2.2.1.size)
            have HCB := (show Hid _ from hcv)
            have HNE : Hid (¬ (Value.slice oa 0 oc).ownBlock = some V1.heap.size) := fun e => HC2.out.2.2.1 _ e rfl
            have hl3 : V1.heap.size < V3.heap.size := hcv.lt
            have hw3 : w.heap.size ≤ V3.heap.size := HBV.out.size
            clear hV3 hb3 hcv
            obtain ⟨f, hf⟩ : ∃ f, f = x.pc.fin := ⟨_, rfl⟩
            have HF := (show Hid _ from hf)
            clear hf
            have HX : Hid (∀ j, j < 0 + 1 → findQ E ((t + j) % 4294967296) = (xs ++ [x])[j]?) := by
              obtain ⟨hI, hq⟩ := HI.out
              intro j hj
              have hl := hI.own.len
              by_cases e : j = 0
              · rw [e, List.getElem?_append_right (by omega), hl, Nat.sub_self, ← hq]
                exact HB1.out.2
              · rw [List.getElem?_append_left (by omega)]
                exact hI.at_ j (by omega)
            have HPC : Hid (pcAt (E.map ChQ.kv) ((t + 0) % 4294967296) = x.pc) := pcAt_q (by rw [← HI.out.2]; exact HB1.out.2)
            cases f with
            | false =>
              go_wp2_with (first
                        | (at_builtin; refine OwnG.wpl layCq rfl _ _ rfl rfl (HO.out.below ((Below.refl _ _).alloc (Nat.le_refl _) (.cells #[.int .u8 (x.k : Nat), .int .u8 (x.f : Nat), .int .u32 (x.t : Nat), .int .u16 (x.st : Nat), .int .u16 (x.ss : Nat), .int .u32 (x.pp : Nat), .int .u32 (x.tg : Nat), .int .u32 (x.rm : Nat), .int .u16 (x.os : Nat), .int .u16 (x.is : Nat), .slice x.bA x.bN x.bC, .slice x.dA x.dN x.dC, .slice x.pA x.pN x.pC, .slice x.xA x.xN x.xC] 47))) x ⟨V3.heap.size, 0, none⟩ rfl (st_add (Stc.new V3 x.vals 47 _ rfl)) (by unfold maxLen; omega) (by omega) (Nat.le_trans HBV.out.size (by simp)) ?_; intro g9 c9 w9 ho9 hg9 hl9 hlt9; have hb9 := HBV.out.trans ((((Below.refl _ _).alloc (Nat.le_refl _) _).mono HBV.out.size).trans ((HO.out.below ((Below.refl _ _).alloc (Nat.le_refl _) (.cells #[.int .u8 (x.k : Nat), .int .u8 (x.f : Nat), .int .u32 (x.t : Nat), .int .u16 (x.st : Nat), .int .u16 (x.ss : Nat), .int .u32 (x.pp : Nat), .int .u32 (x.tg : Nat), .int .u32 (x.rm : Nat), .int .u16 (x.os : Nat), .int .u16 (x.is : Nat), .slice x.bA x.bN x.bC, .slice x.dA x.dN x.dC, .slice x.pA x.pN x.pC, .slice x.xA x.xN x.xC] 47))).up hg9 (Nat.le_trans HBV.out.size (by simp)))); have hx9 := ((HCB.out.below ((Below.refl _ _).alloc (Nat.le_refl _) (.cells #[.int .u8 (x.k : Nat), .int .u8 (x.f : Nat), .int .u32 (x.t : Nat), .int .u16 (x.st : Nat), .int .u16 (x.ss : Nat), .int .u32 (x.pp : Nat), .int .u32 (x.tg : Nat), .int .u32 (x.rm : Nat), .int .u16 (x.os : Nat), .int .u16 (x.is : Nat), .slice x.bA x.bN x.bC, .slice x.dA x.dN x.dC, .slice x.pA x.pN x.pC, .slice x.xA x.xN x.xC] 47))).fr (Fr.grown (P := fun k => (Value.slice oa 0 oc).ownBlock = some k) hg9 (fun k hk => hk)) (HNE.out)); have H9 := (show Hid _ from And.intro ho9 (And.intro hb9 (And.intro hx9 hlt9))); have z0 := hx9.cell 0 _ rfl; have z1 := hx9.cell 1 _ rfl; have z2 := hx9.cell 2 _ rfl; have z3 := hx9.cell 3 _ rfl; have z4 := hx9.cell 4 _ rfl; have z5 := hx9.cell 5 _ rfl; have z6 := hx9.cell 6 _ rfl; have z7 := hx9.cell 7 _ rfl; have z8 := hx9.cell 8 _ rfl; have z9 := hx9.cell 9 _ rfl; have z10 := hx9.cell 10 _ rfl; have z11 := hx9.cell 11 _ rfl; have z12 := hx9.cell 12 _ rfl; have z13 := hx9.cell 13 _ rfl; clear ho9 hg9 hl9 hlt9 hb9 hx9)
                        | (go_at_call 65; refine (rends_any x _ hxf _ rfl).mono ?_; rintro e w10 ⟨he, hb10⟩; obtain rfl : e = .returned (.bool false) := (by rw [he, HF.out]); clear he; have HB10 := (show Hid _ from hb10); clear hb10)
                        | fail)
              go_roundw
              case rel => exact ⟨0 + 1, _, c9, xs ++ [x], by
                rw [show (t + (0 + 1)) % 4294967296 = (q + 1) % 4294967296 by have hq := HI.out.2; omega]
                go_num, by go_num, (H9.out.1).below HB10.out, H9.out.2.1.trans (HB10.out.mono H9.out.2.1.size), HI.out.1.rn.step (by omega) HN.out (by rw [HPC.out, HF.out]), HX.out⟩
              case measure => first | (simp [slN]; done) | (simp [slN]; omega)
            | true =>
              go_wp2_with (first
                        | (at_builtin; refine OwnG.wpl layCq rfl _ _ rfl rfl (HO.out.below ((Below.refl _ _).alloc (Nat.le_refl _) (.cells #[.int .u8 (x.k : Nat), .int .u8 (x.f : Nat), .int .u32 (x.t : Nat), .int .u16 (x.st : Nat), .int .u16 (x.ss : Nat), .int .u32 (x.pp : Nat), .int .u32 (x.tg : Nat), .int .u32 (x.rm : Nat), .int .u16 (x.os : Nat), .int .u16 (x.is : Nat), .slice x.bA x.bN x.bC, .slice x.dA x.dN x.dC, .slice x.pA x.pN x.pC, .slice x.xA x.xN x.xC] 47))) x ⟨V3.heap.size, 0, none⟩ rfl (st_add (Stc.new V3 x.vals 47 _ rfl)) (by unfold maxLen; omega) (by omega) (Nat.le_trans HBV.out.size (by simp)) ?_; intro g9 c9 w9 ho9 hg9 hl9 hlt9; have hb9 := HBV.out.trans ((((Below.refl _ _).alloc (Nat.le_refl _) _).mono HBV.out.size).trans ((HO.out.below ((Below.refl _ _).alloc (Nat.le_refl _) (.cells #[.int .u8 (x.k : Nat), .int .u8 (x.f : Nat), .int .u32 (x.t : Nat), .int .u16 (x.st : Nat), .int .u16 (x.ss : Nat), .int .u32 (x.pp : Nat), .int .u32 (x.tg : Nat), .int .u32 (x.rm : Nat), .int .u16 (x.os : Nat), .int .u16 (x.is : Nat), .slice x.bA x.bN x.bC, .slice x.dA x.dN x.dC, .slice x.pA x.pN x.pC, .slice x.xA x.xN x.xC] 47))).up hg9 (Nat.le_trans HBV.out.size (by simp)))); have hx9 := ((HCB.out.below ((Below.refl _ _).alloc (Nat.le_refl _) (.cells #[.int .u8 (x.k : Nat), .int .u8 (x.f : Nat), .int .u32 (x.t : Nat), .int .u16 (x.st : Nat), .int .u16 (x.ss : Nat), .int .u32 (x.pp : Nat), .int .u32 (x.tg : Nat), .int .u32 (x.rm : Nat), .int .u16 (x.os : Nat), .int .u16 (x.is : Nat), .slice x.bA x.bN x.bC, .slice x.dA x.dN x.dC, .slice x.pA x.pN x.pC, .slice x.xA x.xN x.xC] 47))).fr (Fr.grown (P := fun k => (Value.slice oa 0 oc).ownBlock = some k) hg9 (fun k hk => hk)) (HNE.out)); have H9 := (show Hid _ from And.intro ho9 (And.intro hb9 (And.intro hx9 hlt9))); have z0 := hx9.cell 0 _ rfl; have z1 := hx9.cell 1 _ rfl; have z2 := hx9.cell 2 _ rfl; have z3 := hx9.cell 3 _ rfl; have z4 := hx9.cell 4 _ rfl; have z5 := hx9.cell 5 _ rfl; have z6 := hx9.cell 6 _ rfl; have z7 := hx9.cell 7 _ rfl; have z8 := hx9.cell 8 _ rfl; have z9 := hx9.cell 9 _ rfl; have z10 := hx9.cell 10 _ rfl; have z11 := hx9.cell 11 _ rfl; have z12 := hx9.cell 12 _ rfl; have z13 := hx9.cell 13 _ rfl; clear ho9 hg9 hl9 hlt9 hb9 hx9)
                        | (go_at_call 65; refine (rends_any x _ hxf _ rfl).mono ?_; rintro e w10 ⟨he, hb10⟩; obtain rfl : e = .returned (.bool true) := (by rw [he, HF.out]); clear he; have HB10 := (show Hid _ from hb10); clear hb10)
                        | fail)
              go_ret
              exact .yes 0 _ c9 (xs ++ [x]) rfl (HI.out.1.rn.whole HN.out (by rw [HPC.out, HF.out])) ((H9.out.1).below HB10.out) HX.out (H9.out.2.1.trans (HB10.out.mono H9.out.2.1.size))
        · have gk : ¬ (k : Int) = 0 := by omega
          have gk2 : (0 : Int) < (k : Int) := by omega
          have gk3 : ((k : Int) == 0) = false := by simpa using gk
          have gk4 : ((k : Int) != 0) = true := by simpa using gk
          cases b with
          | true =>
            go_wp2
            go_ret
            obtain ⟨hI, hq⟩ := HI.out
            refine .no rfl (hI.rn.no (nextB_beg (x := x) (by rw [← hq]; exact HB1.out.2) (by rw [← HBB.out, show (k == 0) = false by rw [beq_eq_false_iff_ne]; omega]; decide))) HC2.out.2.2.2.1
          | false =>
            obtain ⟨y, hy, hyE⟩ : ∃ y, xs[0]? = some y ∧ findQ E t = some y := by
              obtain ⟨hI, hq⟩ := HI.out
              obtain ⟨y, hy⟩ : ∃ y, xs[0]? = some y := ⟨_, List.getElem?_eq_getElem (by rw [hI.own.len]; exact hk0)⟩
              have := hI.at_ 0 hk0
              rw [Nat.add_zero, Nat.mod_eq_of_lt ht, hy] at this
              exact ⟨y, hy, this⟩
            have hyf : y.f < 256 := (ChQ.sml (HH.out.1.ok y (findQ_in hyE).1).wf).2.1
            obtain ⟨g, rfl, _, hg2, hgc, _, hgy, _⟩ := HC2.out.2.1.at_ (fun _ => rfl) hk0
            have hgy0 := hgy 0 y hy
            rw [Nat.zero_mul] at hgy0
            have HKC : Hid (∀ W, Below V2.drew.heap.size V2.drew W → W.cell? ⟨V1.heap.size, 0, none⟩ = some (.int .u8 (x.k : Nat)) ∧ W.cell? ⟨V1.heap.size, 1, none⟩ = some (.int .u8 (x.f : Nat)) ∧ W.cell? ⟨V1.heap.size, 2, none⟩ = some (.int .u32 (x.t : Nat)) ∧ W.cell? ⟨V1.heap.size, 3, none⟩ = some (.int .u16 (x.st : Nat)) ∧ W.cell? ⟨V1.heap.size, 4, none⟩ = some (.int .u16 (x.ss : Nat)) ∧ W.cell? ⟨V1.heap.size, 5, none⟩ = some (.int .u32 (x.pp : Nat)) ∧ W.cell? ⟨V1.heap.size, 6, none⟩ = some (.int .u32 (x.tg : Nat)) ∧ W.cell? ⟨V1.heap.size, 7, none⟩ = some (.int .u32 (x.rm : Nat)) ∧ W.cell? ⟨V1.heap.size, 8, none⟩ = some (.int .u16 (x.os : Nat)) ∧ W.cell? ⟨V1.heap.size, 9, none⟩ = some (.int .u16 (x.is : Nat)) ∧ W.cell? ⟨V1.heap.size, 10, none⟩ = some (.slice x.bA x.bN x.bC) ∧ W.cell? ⟨V1.heap.size, 11, none⟩ = some (.slice x.dA x.dN x.dC) ∧ W.cell? ⟨V1.heap.size, 12, none⟩ = some (.slice x.pA x.pN x.pC) ∧ W.cell? ⟨V1.heap.size, 13, none⟩ = some (.slice x.xA x.xN x.xC) ∧ W.cell? ⟨g, 0, none⟩ = some (.int .u8 (y.k : Nat)) ∧ W.cell? ⟨g, 1, none⟩ = some (.int .u8 (y.f : Nat)) ∧ W.cell? ⟨g, 2, none⟩ = some (.int .u32 (y.t : Nat)) ∧ W.cell? ⟨g, 3, none⟩ = some (.int .u16 (y.st : Nat)) ∧ W.cell? ⟨g, 4, none⟩ = some (.int .u16 (y.ss : Nat)) ∧ W.cell? ⟨g, 5, none⟩ = some (.int .u32 (y.pp : Nat)) ∧ W.cell? ⟨g, 6, none⟩ = some (.int .u32 (y.tg : Nat)) ∧ W.cell? ⟨g, 7, none⟩ = some (.int .u32 (y.rm : Nat)) ∧ W.cell? ⟨g, 8, none⟩ = some (.int .u16 (y.os : Nat)) ∧ W.cell? ⟨g, 9, none⟩ = some (.int .u16 (y.is : Nat)) ∧ W.cell? ⟨g, 10, none⟩ = some (.slice y.bA y.bN y.bC) ∧ W.cell? ⟨g, 11, none⟩ = some (.slice y.dA y.dN y.dC) ∧ W.cell? ⟨g, 12, none⟩ = some (.slice y.pA y.pN y.pC) ∧ W.cell? ⟨g, 13, none⟩ = some (.slice y.xA y.xN y.xC)) := by
              intro W hW
              have hW2 : Below V2.heap.size V2 W := (Below.refl _ _).drew.trans hW
              have s1 := HC2.out.1.below hW2
              have s2 : ∀ (i : Nat) u, y.vals[i]? = some u → W.cell? ⟨g, i, none⟩ = some u := fun i u hu => (hW2.cell (p := ⟨g, i, none⟩) hg2).trans (by have := hgy0 i u hu; rwa [Nat.zero_add] at this)
              exact ⟨s1.cell 0 _ rfl, s1.cell 1 _ rfl, s1.cell 2 _ rfl, s1.cell 3 _ rfl, s1.cell 4 _ rfl, s1.cell 5 _ rfl, s1.cell 6 _ rfl, s1.cell 7 _ rfl, s1.cell 8 _ rfl, s1.cell 9 _ rfl, s1.cell 10 _ rfl, s1.cell 11 _ rfl, s1.cell 12 _ rfl, s1.cell 13 _ rfl, s2 0 _ rfl, s2 1 _ rfl, s2 2 _ rfl, s2 3 _ rfl, s2 4 _ rfl, s2 5 _ rfl, s2 6 _ rfl, s2 7 _ rfl, s2 8 _ rfl, s2 9 _ rfl, s2 10 _ rfl, s2 11 _ rfl, s2 12 _ rfl, s2 13 _ rfl⟩
            have H0 : Hid (pcAt (E.map ChQ.kv) t = y.pc) := pcAt_q hyE
            clear hgy hgy0 hy
            obtain ⟨fa, hfa⟩ : ∃ b, b = x.pc.free := ⟨_, rfl⟩
            obtain ⟨fb, hfb⟩ : ∃ b, b = y.pc.free := ⟨_, rfl⟩
            have HFA := (show Hid _ from hfa)
            have HFB := (show Hid _ from hfb)
            clear hfa hfb
            go_wp2_with fail
            (repeat revert ‹_›); intro h0; exact h0.out
end Go.Proofs.Ytjaheelgcjafcaa
