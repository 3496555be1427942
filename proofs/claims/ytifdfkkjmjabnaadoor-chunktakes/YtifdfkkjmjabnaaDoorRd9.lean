/- chunk's reader: parameters. -/
import Derived.Test.YtifdfkkjmjabnaaDoorRd8
import Derived.Test.YtifdfkkjmjabnaaDoorRd4
import Derived.Test.YtifdfkkjmjabnaaDoorWr7
import Derived.Lib.MinMax
namespace Go.Proofs.YtifdfkkjmjabnaaDoor
open Go.RowKit
theorem pmsV_cons (p : Pm) (ps : List Pm) : pmsV (p :: ps) = if ps = [] then pmV p else pmB p ++ pmsV ps := by
  rcases List.eq_nil_or_concat ps with e | ⟨qs, x, e⟩
  · subst e; rfl
  · rw [List.concat_eq_append] at e
    subst e
    rw [if_neg (by simp)]
    unfold pmsV
    rw [← List.cons_append]
    simp only [List.getLast?_append, List.getLast?_singleton, Option.some_or, List.dropLast_concat]
    unfold pmsB
    rw [List.flatMap_cons, List.append_assoc]
theorem numB_two {v : Nat} (h : v < 65536) : numB (bytesB v 2) = v := by
  simp [bytesB, numB]
  omega
theorem take2B (v : Nat) (x : List Nat) : (bytesB v 2 ++ x).take 2 = bytesB v 2 := List.take_left' (bytesB_len v 2)
theorem drop2B (v : Nat) (x : List Nat) : (bytesB v 2 ++ x).drop 2 = x := List.drop_left' (bytesB_len v 2)
/-- A parameter, and where its bytes lie. -/
abbrev Pq := Pm × Option Addr × Nat
def Pq.v (x : Pq) : List Value := [.int .u16 (x.1.k : Nat), .slice x.2.1 x.1.zs.length x.2.2]
abbrev OwnP2 := OwnG 61 2 Pq.v
theorem layPm : Lays Tryd.prog 26 61 2 32 Pq.v :=
  ⟨Tryd.underlying26, ⟨.agg #[.int .u16 0, .slice none 0 0], by kernel_rfl, rfl⟩, by decide, fun _ => rfl, fun x u hu => by
    simp [Pq.v] at hu
    rcases hu with rfl | rfl <;> rfl⟩
theorem und_pv : Tryd.prog.underlying 80 = some (.slice 61) := Tryd.underlying80
theorem layPv : Lays Tryd.prog 80 61 2 32 Pq.v := ⟨und_pv, layPm.info, layPm.pos, layPm.len, layPm.one⟩
/-- Parameters in new memory. -/
structure PmO (w : World) (B : Nat) (a : Option Addr) (n c : Nat) (ps : List Pm) : Prop where
  ex : ∃ xs : List Pq, xs.map (·.1) = ps ∧ OwnP2 w B a n c xs ∧ ∀ x ∈ xs, OwnB w B x.2.1 x.1.zs.length x.2.2 x.1.zs
theorem PmO.fr {w w' : World} {B : Nat} {a : Option Addr} {n c : Nat} {ps : List Pm} {Q : Nat → Prop} (h : PmO w B a n c ps) (hf : Fr Q w w') (hq : ∀ g, B ≤ g → g < w.heap.size → ¬ Q g) : PmO w' B a n c ps := by
  obtain ⟨xs, h1, h2, h3⟩ := h.ex
  exact ⟨xs, h1, OwnG.fr h2 hf (fun g hg => hq g (h2.own.lt g hg).1 (h2.own.lt g hg).2), fun x hx => (h3 x hx).fr hf hq⟩
theorem PmO.below {w w' : World} {B : Nat} {a : Option Addr} {n c : Nat} {ps : List Pm} (h : PmO w B a n c ps) (hb : Below w.heap.size w w') : PmO w' B a n c ps := h.fr (Q := fun _ => False) (Fr.of_below hb) (fun _ _ _ e => e)
theorem ty_pm : (5 : Nat) ≠ 61 := by decide
theorem ownB_apartP {w : World} {B B' : Nat} {a a' : Option Addr} {n c n' c' : Nat} {zs : List Nat} {xs : List Pq} (h : OwnB w B a n c zs) (k : OwnP2 w B' a' n' c' xs) (g : Nat) (hg : (Value.slice a n c).ownBlock = some g) : (Value.slice a' n' c').ownBlock ≠ some g := by
  intro hg'
  rcases h.own.2 with ⟨hv, _⟩ | ⟨g1, cap, cur, hv, _, hh, _⟩
  · injection hv with e1; subst e1; cases hg
  · injection hv with e1
    subst e1
    obtain rfl : g1 = g := Option.some.inj hg
    rcases k.own.2 with ⟨hv', _⟩ | ⟨g2, cap2, cur2, hv', _, hh', _⟩
    · injection hv' with e1; subst e1; cases hg'
    · injection hv' with e1
      subst e1
      obtain rfl : g2 = g1 := Option.some.inj hg'
      rw [hh] at hh'
      injection hh' with hh'
      injection hh' with _ e2
      exact ty_pm e2
theorem PmO.app {w : World} {B : Nat} {a : Option Addr} {n c : Nat} {ps : List Pm} (h : PmO w B a n c ps) {p : Pm} {ma : Option Addr} {mc : Nat} (hm : OwnB w B ma p.zs.length mc p.zs) (hB : B ≤ w.heap.size) (hn : n ≤ 1000) :
    ∃ g c' w', (Builtin.append_ #[80, 80] 80 #[.slice a n c, .slice (some ⟨w.heap.size, 0, none⟩) 1 1]).run Tryd.prog (w.alloc (.cells #[.int .u16 (p.k : Nat), .slice ma p.zs.length mc] 61)) = .ok (.slice (some ⟨g, 0, none⟩) (n + 1) c') w' ∧ PmO w' B (some ⟨g, 0, none⟩) (n + 1) c' (ps ++ [p]) ∧ Fr (fun k => B ≤ k) w w' := by
  obtain ⟨xs, h1, h2, h3⟩ := h.ex
  have b0 : Below w.heap.size w (w.alloc (.cells (Pq.v (p, ma, mc)).toArray 61)) := (Below.refl _ _).alloc (Nat.le_refl _) _
  have st2 := Stc.new w (Pq.v (p, ma, mc)) 61 _ rfl
  have h2a := OwnG.below h2 b0
  obtain ⟨g7, c7, w7, hr7, ho7, hgr7, hg7, hg7l⟩ := OwnG.app layPv h2a 80 (p, ma, mc) ⟨w.heap.size, 0, none⟩ (fun j u hj => by
    have := st2.cell j u hj
    unfold Addr.add
    split
    · rename_i e; subst e; exact this
    · simpa using this) (by unfold maxLen; omega) (by omega) (Nat.le_trans hB b0.size)
  have keep : ∀ (x : Pq), OwnB w B x.2.1 x.1.zs.length x.2.2 x.1.zs → OwnB w7 B x.2.1 x.1.zs.length x.2.2 x.1.zs := fun x hx => by
    have hx2 := hx.below b0
    refine hx2.kept hgr7 ?_
    cases e : (Value.slice x.2.1 x.1.zs.length x.2.2).ownBlock with
    | none => exact .inl rfl
    | some g => exact .inr (fun e2 => ownB_apartP hx2 h2a g e (e2 ▸ rfl))
  refine ⟨g7, c7, w7, hr7, ⟨xs ++ [(p, ma, mc)], by rw [List.map_append, h1]; rfl, ho7, fun x hx => ?_⟩, (Fr.of_below b0).trans (Fr.grown hgr7 (fun k hk => (h2.own.lt k hk).1))⟩
  rcases List.mem_append.1 hx with hx | hx
  · exact keep x (h3 x hx)
  · simp at hx
    subst hx
    exact keep (p, ma, mc) hm
structure RpsP (W0 w : World) (q : Nat) (ps : List Pm) (sh : Int) (e : Ending) (w' : World) : Prop where
  ex : ∃ a c, e = .returned (.slice a ps.length c) ∧ PmO w' w.heap.size a ps.length c ps
  rd : RdW W0 w' q [] sh
  fr : Fr (fun k => k = q) w w'
set_option linter.unusedVariables false in
set_option maxRecDepth 100000 in
set_option maxHeartbeats 8000000 in
theorem rparams_any {W0 w : World} {q : Nat} {sh : Int} (ps : List Pm) (h : RdW W0 w q (pmsV ps) sh) (h16 : ps.length ≤ 16) (hk : ∀ p ∈ ps, p.k < 65536 ∧ p.zs.length ≤ 2000) :
    Calls Tryd.prog 80 #[.pointer (some ⟨q, 0, none⟩)] w (RpsP W0 w q ps sh) := by
  have hql := h.lt
  have hWq := h.old
  have HK := (show Hid _ from hk)
  obtain ⟨n, hn⟩ : ∃ n, n = ps.length := ⟨_, rfl⟩
  have HNL := (show Hid _ from hn)
  rw [← hn] at h16
  have HU : Hid (RuS W0 w q (pmsV (ps.drop 0)) sh w ∧ PmO w w.heap.size none 0 0 (ps.take 0)) := ⟨⟨h, Fr.refl _ _⟩, ⟨[], rfl, OwnG.nil _ _, fun x hx => (by cases hx)⟩⟩
  clear h hk hn
  go_enter Tryd.func80, Tryd.ntmps80
  go_wp2
  go_loopw [3] (fun u3 wr => ∃ (i : Nat) (la : Option Addr) (lc : Nat), i ≤ n ∧ u3 = .slice la i lc ∧ RuS W0 w q (pmsV (ps.drop i)) sh wr ∧ PmO wr w.heap.size la i lc (ps.take i)) (fun u3 _ => match u3 with | .slice _ i _ => n - i | _ => 0)
  case atStart => exact ⟨0, none, 0, by omega, rfl, HU.out⟩
  case round =>
    obtain ⟨i, la, lc, hin, rfl, hu, ho⟩ := hrel
    obtain ⟨b, off, m0, c, hst, hs⟩ := hu.rd.ex
    have c0 := hst.cell 0 _ rfl
    have hm := hs.len
    have hms := hs.small
    have HUO := (show Hid _ from And.intro hu ho)
    clear hst hs hu ho HU
    by_cases hlt : i < n
    · have hdr : ∃ p, ps.drop i = p :: ps.drop (i + 1) ∧ ps[i]? = some p := by
        have hil : i < ps.length := by have := HNL.out; omega
        exact ⟨ps[i], List.drop_eq_getElem_cons hil, List.getElem?_eq_getElem hil⟩
      obtain ⟨p, hd, hpi⟩ := hdr
      obtain ⟨hkb, hzl⟩ := HK.out p (List.mem_of_getElem? hpi)
      obtain ⟨pk, pz⟩ := p
      dsimp only at hkb hzl
      -- what is left: the parameter, what pads it if another one stands behind it, the others
      obtain ⟨rr, hrr⟩ : ∃ rr, rr = pmsV (ps.drop (i + 1)) := ⟨_, rfl⟩
      obtain ⟨m, hmz⟩ : ∃ m, m = pz.length := ⟨_, rfl⟩
      obtain ⟨mn, hmn⟩ : ∃ mn, mn = if ps.drop (i + 1) = [] then 0 else padN m := ⟨_, rfl⟩
      have hleft : pmsV (ps.drop i) = bytesB pk 2 ++ (bytesB (4 + m) 2 ++ (pz ++ (List.replicate mn 0 ++ rr))) := by
        rw [hd, pmsV_cons, hrr, hmn, hmz]
        split
        · rename_i e
          rw [e]
          show pmV ⟨pk, pz⟩ = bytesB pk 2 ++ (bytesB (4 + pz.length) 2 ++ (pz ++ ([] ++ [])))
          rw [List.append_nil, List.append_nil]
          rfl
        · unfold pmB
          simp only [List.append_assoc]
      have hrl : ps.drop (i + 1) ≠ [] → 3 < rr.length := fun hne => by
        rw [hrr]
        cases hx : ps.drop (i + 1) with
        | nil => exact absurd hx hne
        | cons x l =>
          rw [pmsV_cons]
          split
          · unfold pmV; simp [bytesB_len]; omega
          · rw [List.length_append, pmB_len]; omega
      have hpl := padN_lt m
      have hpmn : min (padN m : Int) ((mn + rr.length : Nat) : Int) = (mn : Int) := by
        by_cases hne : ps.drop (i + 1) = []
        · rw [if_pos hne] at hmn
          rw [hne] at hrr
          have : rr.length = 0 := by rw [hrr]; rfl
          omega
        · rw [if_neg hne] at hmn
          have := hrl hne
          omega
      obtain ⟨pm, hpm⟩ : ∃ pm, pm = padN m := ⟨_, rfl⟩
      have HPD : Hid (∀ V, Calls Tryd.prog 41 #[.int .i64 (m : Nat)] V fun e w' => e = .returned (.int .i64 (pm : Nat)) ∧ w' = V) := fun V => by rw [hpm]; exact padding_any m V (by omega) _ rfl
      rw [← hpm] at hpmn
      have HTK : Hid (ps.take i ++ [⟨pk, pz⟩] = ps.take (i + 1)) := by
        rw [List.take_add_one, hpi]; rfl
      have hi16 : (i : Int) < 16 := by omega
      have hil : i ≤ 1000 := by omega
      have hm4 : 4 + m < 65536 := by omega
      have hmc : m ≤ 140737488351232 := by omega
      have hm0 : (0 : Int) < (m0 : Int) := by
        have : (pmsV (ps.drop i)).length = m0 := hm
        rw [hleft] at this
        simp [bytesB_len] at this
        omega
      have HMZ := (show Hid _ from hmz)
      have HMN0 := (show Hid _ from hpmn)
      have HRR : Hid (List.drop mn (List.replicate mn 0 ++ rr) = rr) := List.drop_left' (by simp)
      have HRQ := (show Hid _ from hrr)
      have HN := (show Hid _ from rhalf_any (hleft ▸ HUO.out.1.rd) (by simp [bytesB_len]))
      rw [take2B, drop2B, numB_two hkb] at HN
      clear hm hmz hrr hmn hleft hrl hpmn hpm hpl hkb hzl hd hpi
      go_wp2_with fail
      refine Calls.mono HN.out ?_
      clear HN c0 hm0
      rintro e w1 hP
      have he := hP.out
      subst he
      have HU1 : Hid (RuS W0 w q _ sh w1 ∧ PmO w1 w.heap.size la i lc (ps.take i)) := ⟨HUO.out.1.next hP, HUO.out.2.fr hP.fr (fun g hg _ e => by omega)⟩
      have HN := (show Hid _ from rlen_any HU1.out.1.rd (by simp [bytesB_len]) m (by rw [take2B, numB_two hm4]))
      rw [drop2B] at HN
      clear HUO hP
      go_wp2_with fail
      refine Calls.mono HN.out ?_
      clear HN
      rintro e w2 hP
      have he := hP.out
      subst he
      have HU2 : Hid (RuS W0 w q _ sh w2 ∧ PmO w2 w.heap.size la i lc (ps.take i)) := ⟨HU1.out.1.next hP, HU1.out.2.fr hP.fr (fun g hg _ e => by omega)⟩
      have HN := (show Hid _ from rcut_any HU2.out.1.rd m (by rw [List.length_append, ← HMZ.out]; omega))
      clear HU1 hP
      go_wp2_with fail
      refine Calls.mono HN.out ?_
      clear HN
      rintro e w3 hP
      obtain ⟨cb, co, cc, rfl, hs1⟩ := hP.ex
      have hrd3 := hP.rd
      rw [List.take_left' HMZ.out.symm] at hs1
      rw [List.drop_left' HMZ.out.symm] at hrd3
      have HU3 : Hid (RuS W0 w q (List.replicate mn 0 ++ rr) sh w3 ∧ PmO w3 w.heap.size la i lc (ps.take i)) := ⟨⟨hrd3, HU2.out.1.fr.trans (hP.fr.mono (fun _ _ hk => .inl hk))⟩, HU2.out.2.fr hP.fr (fun g hg _ e => by omega)⟩
      have HC := (show Hid _ from clone_any _ m cc pz w3 (hs1.below hrd3.bel) hmc)
      clear HU2 hP hs1 hrd3
      go_wp2_with fail
      refine Calls.mono (must_yes 6 w3) ?_
      rintro e v3 ⟨rfl, hv3⟩
      subst hv3
      go_wp2_with fail
      refine Calls.mono HC.out ?_
      clear HC
      rintro e w4 ⟨ma, mc, rfl, ho4, _, b4⟩
      have hsz4 : w.heap.size ≤ w4.heap.size := Nat.le_trans HU3.out.1.fr.size b4.size
      have hu4 := HU3.out.1.below b4
      have hom : OwnB w4 w.heap.size ma (Pm.mk pk pz).zs.length mc (Pm.mk pk pz).zs := by
        have := ho4.base HU3.out.1.fr.size
        rw [HMZ.out] at this
        exact this
      obtain ⟨g7, c7, v4, hr7, ho7, hf7⟩ := (HU3.out.2.below b4).app hom hsz4 hil
      dsimp only at hr7
      rw [← HMZ.out] at hr7
      have hu7 : RuS W0 w q (List.replicate mn 0 ++ rr) sh v4 := ⟨hu4.rd.fr hf7 (fun e => by omega) (fun g hg => by omega), hu4.fr.trans (hf7.mono (fun k _ hk => .inr hk))⟩
      rw [HTK.out] at ho7
      have bd : Below v4.heap.size v4 v4.drew := (Below.refl _ _).drew
      have hu8 := hu7.below bd
      have ho8 := ho7.below bd
      obtain ⟨lb, lo, ln, lc, hst, hsl⟩ := hu8.rd.ex
      have HC0 := (show Hid _ from hst.cell 0 _ rfl)
      have hln : ln = mn + rr.length := by
        have := hsl.len
        simp at this
        omega
      have HMN : Hid (∀ (ts : Array TypeId) (t : TypeId) (V : World), (Builtin.min_ ts t #[.int .i64 (pm : Nat), .int .i64 (ln : Nat)]).run Tryd.prog V = .ok (.int .i64 (mn : Nat)) V) := fun ts t V => by
        rw [Lib.run_min_ints, hln, HMN0.out]
      have HCT := (show Hid _ from rcut_any hu8.rd mn (by simp))
      have HU8 := (show Hid _ from And.intro hu8 ho8)
      clear HU3 ho4 b4 hsz4 hu4 hom ho7 hf7 hu7 bd hu8 ho8 hst hsl hln
      go_wp2_with (at_builtin; refine app_eq_listR rfl _ _ rfl rfl rfl rfl hr7 ?_)
      clear hr7
      refine wp_region_parW mixedX (fun θ : Nat × Nat × Nat => [(31, .pointer (some ⟨q, 0, none⟩)), (32, .int .i64 (m : Nat)), (33, .int .i64 (pm : Nat)), (34, .pointer (some ⟨q, 0, none⟩)), (35, .pointer (some ⟨q, 0, none⟩)), (36, .pointer (some ⟨q, 0, none⟩)), (37, .slice (some ⟨lb, lo, none⟩) ln lc), (38, .int .i64 (ln : Nat)), (39, .int .i64 (mn : Nat)), (40, .slice (some ⟨θ.1, θ.2.1, none⟩) mn θ.2.2)]) (fun θ l V => (l 9 = false → V = v4.drew) ∧ (l 9 = true → RdW W0 V q rr sh ∧ Fr (fun k => k = q) v4.drew V)) (0, 0, 0) ?Z1 ?hZ1 (by kernel_rfl) (by kernel_rfl) (fun θ => by kernel_rfl) (by kernel_rfl) ?h01 ?hops1 ?he1
      case hZ1 => intro θ; simp only [List.foldl_cons, List.foldl_nil, List.setIfInBounds_toArray, List.set_cons_zero, List.set_cons_succ]; rfl
      case h01 => exact ⟨fun _ => rfl, fun e => (by cases e)⟩
      case hops1 =>
        refine ⟨?_, ?_, ?_, ?_, ?_, ?_, ?_, ?_, ?_, ?_, trivial⟩
        · exact par_val (fun θ => by rfl) (fun θ l V hg => ⟨fun e => hg.1 (by simpa [updL] using e), fun e => hg.2 (by simpa [updL] using e)⟩) (fun θ l V hl hc hd hg => by have hcF : l 9 = false := (by cases h : l 9 with | false => rfl | true => exact absurd (hc 9 0 (by kernel_rfl) h) (by rw [hl]; decide)); obtain rfl := hg.1 hcF; have c0 := HC0.out; have hmin := HMN.out; go_simp; (try with_reducible rfl); (try omega))
        · exact par_val (fun θ => by rfl) (fun θ l V hg => ⟨fun e => hg.1 (by simpa [updL] using e), fun e => hg.2 (by simpa [updL] using e)⟩) (fun θ l V hl hc hd hg => by have hcF : l 9 = false := (by cases h : l 9 with | false => rfl | true => exact absurd (hc 9 1 (by kernel_rfl) h) (by rw [hl]; decide)); obtain rfl := hg.1 hcF; have c0 := HC0.out; have hmin := HMN.out; go_simp; (try with_reducible rfl); (try omega))
        · exact par_call (fun θ => by rfl) rfl (vs := fun _ => [.int .i64 (m : Nat)]) (fun θ => by rfl) Tryd.func41 (by rfl) (by rfl) (fun θ l V hl hc hd hg => by
            refine Calls.mono (HPD.out V) ?_
            rintro e V2 ⟨rfl, hv⟩
            subst hv
            exact ⟨_, rfl, θ, fun _ _ _ _ _ _ => rfl, fun d hd => (by cases hd; rfl), ⟨fun e => hg.1 (by simpa [updL] using e), fun e => hg.2 (by simpa [updL] using e)⟩⟩)
        · exact par_val (fun θ => by rfl) (fun θ l V hg => ⟨fun e => hg.1 (by simpa [updL] using e), fun e => hg.2 (by simpa [updL] using e)⟩) (fun θ l V hl hc hd hg => by have hcF : l 9 = false := (by cases h : l 9 with | false => rfl | true => exact absurd (hc 9 3 (by kernel_rfl) h) (by rw [hl]; decide)); obtain rfl := hg.1 hcF; have c0 := HC0.out; have hmin := HMN.out; go_simp; (try with_reducible rfl); (try omega))
        · exact par_val (fun θ => by rfl) (fun θ l V hg => ⟨fun e => hg.1 (by simpa [updL] using e), fun e => hg.2 (by simpa [updL] using e)⟩) (fun θ l V hl hc hd hg => by have hcF : l 9 = false := (by cases h : l 9 with | false => rfl | true => exact absurd (hc 9 4 (by kernel_rfl) h) (by rw [hl]; decide)); obtain rfl := hg.1 hcF; have c0 := HC0.out; have hmin := HMN.out; go_simp; (try with_reducible rfl); (try omega))
        · exact par_val (fun θ => by rfl) (fun θ l V hg => ⟨fun e => hg.1 (by simpa [updL] using e), fun e => hg.2 (by simpa [updL] using e)⟩) (fun θ l V hl hc hd hg => by have hcF : l 9 = false := (by cases h : l 9 with | false => rfl | true => exact absurd (hc 9 5 (by kernel_rfl) h) (by rw [hl]; decide)); obtain rfl := hg.1 hcF; have c0 := HC0.out; have hmin := HMN.out; go_simp; (try with_reducible rfl); (try omega))
        · exact par_val (fun θ => by rfl) (fun θ l V hg => ⟨fun e => hg.1 (by simpa [updL] using e), fun e => hg.2 (by simpa [updL] using e)⟩) (fun θ l V hl hc hd hg => by have hcF : l 9 = false := (by cases h : l 9 with | false => rfl | true => exact absurd (hc 9 6 (by kernel_rfl) h) (by rw [hl]; decide)); obtain rfl := hg.1 hcF; have c0 := HC0.out; have hmin := HMN.out; go_simp; (try with_reducible rfl); (try omega))
        · exact par_val (fun θ => by rfl) (fun θ l V hg => ⟨fun e => hg.1 (by simpa [updL] using e), fun e => hg.2 (by simpa [updL] using e)⟩) (fun θ l V hl hc hd hg => by have hcF : l 9 = false := (by cases h : l 9 with | false => rfl | true => exact absurd (hc 9 7 (by kernel_rfl) h) (by rw [hl]; decide)); obtain rfl := hg.1 hcF; have c0 := HC0.out; have hmin := HMN.out; go_simp; (try with_reducible rfl); (try omega))
        · exact par_val (fun θ => by rfl) (fun θ l V hg => ⟨fun e => hg.1 (by simpa [updL] using e), fun e => hg.2 (by simpa [updL] using e)⟩) (fun θ l V hl hc hd hg => by have hcF : l 9 = false := (by cases h : l 9 with | false => rfl | true => exact absurd (hc 9 8 (by kernel_rfl) h) (by rw [hl]; decide)); obtain rfl := hg.1 hcF; have c0 := HC0.out; have hmin := HMN.out; go_simp; (try with_reducible rfl); (try omega))
        · exact par_call (fun θ => by rfl) rfl (vs := fun _ => [.pointer (some ⟨q, 0, none⟩), .int .i64 (mn : Nat)]) (fun θ => by rfl) Tryd.func69 (by rfl) (by rfl) (fun θ l V hl hc hd hg => by
            obtain rfl := hg.1 hl
            refine Calls.mono HCT.out ?_
            rintro e V2 hP
            obtain ⟨cb, co, cc, rfl, _⟩ := hP.ex
            exact ⟨_, rfl, next_set (by kernel_rfl) ((cb, co, cc) : Nat × Nat × Nat) [(40, .slice (some ⟨cb, co, none⟩) mn cc, 9)] (by simp only [List.foldl_cons, List.foldl_nil, List.setIfInBounds_toArray, List.set_cons_zero, List.set_cons_succ]) (by kernel_rfl) (fun y hy => by simp at hy; subst hy; exact hl) (fun d hd => by cases hd; rfl) ⟨fun e => (by simp [updL] at e), fun _ => ⟨by have := hP.rd; rwa [HRR.out] at this, hP.fr⟩⟩⟩)
      case he1 =>
      rintro ⟨cb, co, cc⟩ l V hall hg
      have hP := hg.2 (hall 9 (by decide))
      clear hall hg
      dsimp only
      have HF : Hid (RuS W0 w q (pmsV (ps.drop (i + 1))) sh V ∧ PmO V w.heap.size (some ⟨g7, 0, none⟩) (i + 1) c7 (ps.take (i + 1))) := by
        rw [← HRQ.out]
        exact ⟨⟨hP.1, HU8.out.1.fr.trans (hP.2.mono (fun _ _ hk => .inl hk))⟩, HU8.out.2.fr hP.2 (fun g hg _ e => by omega)⟩
      clear hP HU8 HCT HMN HC0 HPD
      go_wp2
      go_roundw
      case rel => exact ⟨i + 1, _, _, by omega, rfl, HF.out⟩
      case measure => simp; omega
    · have hien : i = n := by omega
      subst hien
      have hdn : ps.drop i = [] := by rw [HNL.out]; simp
      rw [hdn] at hm
      have hm0 : m0 = 0 := by rw [← hm]; rfl
      subst hm0
      have HF : Hid (RpsP W0 w q ps sh (.returned (.slice la i lc)) wr) := by
        obtain ⟨hu, ho⟩ := HUO.out
        rw [hdn] at hu
        rw [HNL.out, List.take_length, ← HNL.out] at ho
        refine ⟨⟨la, lc, by rw [HNL.out], ?_⟩, hu.rd, hu.fr.mono (fun k hk hp => hp.elim id (fun e => by omega))⟩
        rw [← HNL.out]
        exact ho
      clear HUO hm
      go_wp2
      go_ret
      exact HF.out
end Go.Proofs.YtifdfkkjmjabnaaDoor
