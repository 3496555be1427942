/- Fork of both rings. -/
import Derived.Test.YtmmbnikjlklflaaRgP
namespace Go.Proofs.Ytmmbnikjlklflaa
open Go.RowKit
/-- A ring while it is laid: so many are to be filled, rs are. -/
structure Fk (w : World) (B p g N gv tk d f : Nat) (rs : List (Nat × List Nat)) : Prop where
  bp : B ≤ p
  bg : B ≤ g
  lt : p < w.heap.size
  glt : g < w.heap.size
  ne : p ≠ g
  sum : tk + f ≤ N
  lf : rs.length ≤ f
  c0 : w.cell? ⟨p, 0, none⟩ = some (.slice (some ⟨g, 0, none⟩) N N)
  c1 : w.cell? ⟨p, 1, none⟩ = some (.int .i64 (gv : Nat))
  c2 : w.cell? ⟨p, 2, none⟩ = some (.int .i64 (tk : Nat))
  c3 : w.cell? ⟨p, 3, none⟩ = some (.int .i64 (f : Nat))
  c4 : w.cell? ⟨p, 4, none⟩ = some (.int .i64 (d : Nat))
  free : ∀ i, w.frozen? ⟨p, i, none⟩ = false
  gfree : ∀ i, w.frozen? ⟨g, i, none⟩ = false
  there : ∀ i, i < N → ∃ a n c, w.cell? ⟨g, i, none⟩ = some (.slice a n c)
  row : ∀ j b zs, rs[j]? = some (b, zs) → ¬ (b = p ∨ b = g) ∧ 1 ≤ zs.length ∧ zs.length ≤ 1514 ∧ ∃ c, w.cell? ⟨g, (gv + tk + j) % N, none⟩ = some (.slice (some ⟨b, 0, none⟩) zs.length c) ∧ OwnB w B (some ⟨b, 0, none⟩) zs.length c zs
theorem Fk.below {w w' : World} {B p g N gv tk d f : Nat} {rs : List (Nat × List Nat)} (h : Fk w B p g N gv tk d f rs) (hb : Below w.heap.size w w') : Fk w' B p g N gv tk d f rs := by
  have e := fun i => hb.cell (p := ⟨p, i, none⟩) h.lt
  have eg := fun i => hb.cell (p := ⟨g, i, none⟩) h.glt
  refine ⟨h.bp, h.bg, Nat.lt_of_lt_of_le h.lt hb.size, Nat.lt_of_lt_of_le h.glt hb.size, h.ne, h.sum, h.lf, (e 0).trans h.c0, (e 1).trans h.c1, (e 2).trans h.c2, (e 3).trans h.c3, (e 4).trans h.c4, fun i => (hb.frozen (p := ⟨p, i, none⟩) h.lt).trans (h.free i), fun i => (hb.frozen (p := ⟨g, i, none⟩) h.glt).trans (h.gfree i), fun i hi => ?_, fun j b zs hj => ?_⟩
  · obtain ⟨a, n, c, h1⟩ := h.there i hi
    exact ⟨a, n, c, (eg i).trans h1⟩
  · obtain ⟨h1, h2, h3, c, h4, h5⟩ := h.row j b zs hj
    exact ⟨h1, h2, h3, c, (eg _).trans h4, h5.below hb⟩
theorem Fk.add {w : World} {B p g N gv tk d f : Nat} {rs : List (Nat × List Nat)} (h : Fk w B p g N gv tk d f rs) (b c : Nat) (zs : List Nat) (hN : 1 ≤ N) (hlt : rs.length < f) (h1 : 1 ≤ zs.length) (h2 : zs.length ≤ 1514) (hx : ¬ (b = p ∨ b = g)) (ho : OwnB w B (some ⟨b, 0, none⟩) zs.length c zs) :
    Fk (w.setCell ⟨g, (gv + (tk + rs.length)) % N, none⟩ (.slice (some ⟨b, 0, none⟩) zs.length c)) B p g N gv tk d f (rs ++ [(b, zs)]) := by
  have hsum := h.sum
  have hF : Fr (· = g) w (w.setCell ⟨g, (gv + (tk + rs.length)) % N, none⟩ (.slice (some ⟨b, 0, none⟩) zs.length c)) := Fr.setCell _ _ _ _ rfl
  have hcell := World.cell?_setCell_same' w ⟨g, (gv + (tk + rs.length)) % N, none⟩ (.slice (some ⟨b, 0, none⟩) zs.length c) (by obtain ⟨a, n, c, h⟩ := h.there _ (Nat.mod_lt _ hN); rw [h]; rfl)
  have hgf : ∀ i, (w.setCell ⟨g, (gv + (tk + rs.length)) % N, none⟩ (.slice (some ⟨b, 0, none⟩) zs.length c)).frozen? ⟨g, i, none⟩ = false := fun i => by rw [World.frozen?_setCell]; exact h.gfree i
  have hoth : ∀ i, i ≠ (gv + (tk + rs.length)) % N → (w.setCell ⟨g, (gv + (tk + rs.length)) % N, none⟩ (.slice (some ⟨b, 0, none⟩) zs.length c)).cell? ⟨g, i, none⟩ = w.cell? ⟨g, i, none⟩ := fun i hi => by rw [World.cell?_setCell_other _ _ _ _ (by intro e2; injection e2 with _ e3; exact hi e3.symm)]
  obtain ⟨w1, hw1⟩ : ∃ w1, w1 = w.setCell ⟨g, (gv + (tk + rs.length)) % N, none⟩ (.slice (some ⟨b, 0, none⟩) zs.length c) := ⟨_, rfl⟩
  rw [← hw1] at hF hcell hgf hoth ⊢
  clear hw1
  have e := fun i => hF.cell ⟨p, i, none⟩ h.lt h.ne
  refine ⟨h.bp, h.bg, Nat.lt_of_lt_of_le h.lt hF.size, Nat.lt_of_lt_of_le h.glt hF.size, h.ne, h.sum, by simp; omega, (e 0).trans h.c0, (e 1).trans h.c1, (e 2).trans h.c2, (e 3).trans h.c3, (e 4).trans h.c4, fun i => (hF.frozen ⟨p, i, none⟩ h.lt h.ne).trans (h.free i), hgf, fun i hi => ?_, fun j b' zs' hj => ?_⟩
  · by_cases he : i = (gv + (tk + rs.length)) % N
    · exact ⟨_, _, _, by rw [he]; exact hcell⟩
    · rw [hoth i he]; exact h.there i hi
  · by_cases hjl : j < rs.length
    · rw [List.getElem?_append_left hjl] at hj
      obtain ⟨a1, a2, a3, c', a4, a5⟩ := h.row j b' zs' hj
      refine ⟨a1, a2, a3, c', ?_, a5.fr hF (fun e => a1 (.inr e))⟩
      rw [hoth _ (by have := round_ne N (gv + tk) j rs.length hjl (by omega); rw [show gv + (tk + rs.length) = gv + tk + rs.length by omega]; exact this)]; exact a4
    · have hjj : j = rs.length := by
        have := (List.getElem?_eq_some_iff.1 hj).1
        simp at this; omega
      subst hjj
      rw [List.getElem?_append_right (Nat.le_refl _), Nat.sub_self] at hj
      simp at hj
      obtain ⟨rfl, rfl⟩ := hj
      refine ⟨hx, h1, h2, c, ?_, ho.fr hF (fun e => hx (.inr e))⟩
      rw [show gv + tk + rs.length = gv + (tk + rs.length) by omega]; exact hcell
theorem Fk.rng {w : World} {B p g N gv tk d : Nat} {rs : List (Nat × List Nat)} (h : Fk w B p g N gv tk d rs.length rs) (h1 : 1 ≤ N) (h64 : N ≤ 64) (hg : gv < N) : Rng w B (fun k => k = p ∨ k = g) p g N gv tk d rs :=
  ⟨h.bp, h.bg, .inl rfl, .inr rfl, fun k hk => by have := h.lt; have := h.glt; omega, h.ne, h1, h64, hg, h.sum, h.c0, h.c1, h.c2, h.c3, h.c4, h.free, h.gfree, h.there, h.row⟩
set_option maxRecDepth 100000 in
set_option maxHeartbeats 2000000 in
theorem fork_any (B : Nat) (X : Nat → Prop) (p g N gv tk d : Nat) (rs : List (Nat × List Nat)) (w : World) (h : Rng w B X p g N gv tk d rs) :
    Calls Try.prog 17 #[.pointer (some ⟨p, 0, none⟩)] w fun e w' => ∃ p', e = .returned (.pointer (some ⟨p', 0, none⟩)) ∧ (∃ g' rs', Rng w' w.heap.size (fun k => k = p' ∨ k = g') p' g' N gv tk d rs' ∧ rs'.map (·.2) = rs.map (·.2)) ∧ Below w.heap.size w w' := by
  have hN1 := h.n1
  have hN64 := h.n64
  have hsum := h.sum
  have hgv := h.gvl
  have h0 := h.c0
  have h1 := h.c1
  have h2 := h.c2
  have h3 := h.c3
  have h4 := h.c4
  have hplt := h.lt
  have hm := fun w => mkr N hN64 w
  go_enter Try.func17, Try.ntmps17
  go_wp2
  obtain ⟨wP, hwP⟩ : ∃ wP, wP = w.alloc (.cells #[.slice (some ⟨w.heap.size + 1, 0, none⟩) N N, .int .i64 (gv : Nat), .int .i64 (tk : Nat), .int .i64 (rs.length : Nat), .int .i64 (d : Nat)] 56) := ⟨_, rfl⟩
  have hbP : Below w.heap.size w wP := by rw [hwP]; exact (Below.refl _ _).alloc (Nat.le_refl _) _
  have hzP : wP.heap.size = w.heap.size + 1 := by rw [hwP]; simp
  have hcP : ∀ i, wP.cell? ⟨w.heap.size, i, none⟩ = (#[.slice (some ⟨w.heap.size + 1, 0, none⟩) N N, .int .i64 (gv : Nat), .int .i64 (tk : Nat), .int .i64 (rs.length : Nat), .int .i64 (d : Nat)] : Array Value)[i]? := fun i => by rw [hwP, World.cell?_alloc_mark]
  have hfP : ∀ i, wP.frozen? ⟨w.heap.size, i, none⟩ = false := fun i => by rw [hwP]; exact free_new _ _ _ _
  obtain ⟨wG, hwG⟩ : ∃ wG, wG = wP.alloc (.cells (madeCells #[.slice none 0 0] N) 33) := ⟨_, rfl⟩
  have hbG : Below wP.heap.size wP wG := by rw [hwG]; exact (Below.refl _ _).alloc (Nat.le_refl _) _
  have hzG : wG.heap.size = w.heap.size + 2 := by rw [hwG]; simp [hzP]
  rw [← hwP, ← hwG]
  have hK0 : Fk wG w.heap.size w.heap.size (w.heap.size + 1) N gv tk d rs.length [] := by
    have e := fun i => (hbG.cell (p := ⟨w.heap.size, i, none⟩) (by show w.heap.size < _; omega)).trans (hcP i)
    refine ⟨Nat.le_refl _, by omega, by omega, by omega, by omega, hsum, by simp, e 0, e 1, e 2, e 3, e 4, fun i => (hbG.frozen (p := ⟨w.heap.size, i, none⟩) (by show w.heap.size < _; omega)).trans (hfP i), fun i => ?_, fun i hi => ⟨none, 0, 0, ?_⟩, fun j b zs hj => by simp at hj⟩
    · rw [hwG, ← hzP]; exact free_new _ _ _ _
    · rw [hwG, ← hzP, World.cell?_alloc_mark]; exact made_at N i hi
  have hbel0 : Below w.heap.size w wG := hbP.trans (hbG.mono hbP.size)
  clear hwP hwG hcP hfP hbP hbG h0 h1 h2 h3 h4 hm
  go_loopw [4, 5, 22] (fun _ _ kv wr => ∃ (s : Nat) (rs1 : List (Nat × List Nat)), kv = .int .i64 (s : Nat) ∧ s ≤ rs.length ∧ rs1.length = s ∧ rs1.map (·.2) = (rs.take s).map (·.2) ∧ Fk wr w.heap.size w.heap.size (w.heap.size + 1) N gv tk d rs.length rs1 ∧ Below w.heap.size w wr) (fun _ _ kv _ => rs.length - (intOf kv).toNat)
  case atStart => exact ⟨0, [], rfl, by omega, rfl, rfl, hK0, hbel0⟩
  case round =>
    obtain ⟨s, rs1, rfl, hsl, hrl, hrm, hK, hbel⟩ := hrel
    clear hK0 hbel0
    have hR := h.below hbel
    by_cases hlt : s < rs.length
    · have hl1 : (s : Int) < (rs.length : Int) := by omega
      obtain ⟨⟨b, zs⟩, hbz⟩ : ∃ x, rs[s]? = some x := ⟨_, List.getElem?_eq_getElem hlt⟩
      obtain ⟨hx, hz1, hz2, c, hcl, ho⟩ := hR.row s b zs hbz
      have k2 := hR.c2
      have hah : Calls Try.prog 23 #[.pointer (some ⟨p, 0, none⟩), .int .i64 ((tk : Int) + (s : Int))] wr _ := ahead_at wr hR (tk + s) (by omega) _ (by congr 1)
      rw [Nat.add_assoc] at hcl
      have hkl : (gv + (tk + s)) % N < N := Nat.mod_lt _ hN1
      obtain ⟨a0, n0, c0, hk0⟩ := hK.there _ hkl
      have hADD : ∀ W b' c', Fk W w.heap.size w.heap.size (w.heap.size + 1) N gv tk d rs.length rs1 → ¬ (b' = w.heap.size ∨ b' = w.heap.size + 1) → OwnB W w.heap.size (some ⟨b', 0, none⟩) zs.length c' zs → Fk (W.setCell ⟨w.heap.size + 1, (gv + (tk + s)) % N, none⟩ (.slice (some ⟨b', 0, none⟩) zs.length c')) w.heap.size w.heap.size (w.heap.size + 1) N gv tk d rs.length (rs1 ++ [(b', zs)]) := fun W b' c' h1 h2 h3 => by
        have := h1.add b' c' zs hN1 (by omega) hz1 hz2 h2 h3
        rwa [hrl] at this
      have HADD := (show Hid _ from hADD)
      have HRM : Hid (∀ b' : Nat, (rs1 ++ [(b', zs)]).map (·.2) = (rs.take (s + 1)).map (·.2)) := by
        show ∀ b' : Nat, (rs1 ++ [(b', zs)]).map (·.2) = (rs.take (s + 1)).map (·.2)
        intro b'
        have ht : rs.take (s + 1) = rs.take s ++ [(b, zs)] := by rw [List.take_add_one, hbz]; rfl
        rw [ht, List.map_append, List.map_append, hrm]; rfl
      generalize (gv + (tk + s)) % N = k at *
      clear hADD
      go_wp2_with fail
      refine hah.mono ?_
      rintro e w1 ⟨rfl, hb1⟩
      have hK1 := hK.below hb1
      have j0 := hK1.c0
      have jg := (hb1.cell (p := ⟨w.heap.size + 1, k, none⟩) hK.glt).trans hk0
      have jf := hK1.gfree k
      have i0 := (hb1.cell (p := ⟨p, 0, none⟩) hR.lt).trans hR.c0
      have ik := (hb1.cell (p := ⟨g, k, none⟩) hR.glt).trans hcl
      have ho1 := (ho.below hb1).sl (by omega)
      have hbel1 := hbel.trans (hb1.mono hbel.size)
      have hki : (k : Int) < (N : Int) := by omega
      have hgg : ¬ w.heap.size + 1 = g := by have := h.glt; omega
      have hpp : ¬ w.heap.size + 1 = p := by omega
      have HST : Hid (∀ (W : World) v, (W.cell? ⟨w.heap.size, 0, none⟩ = some (.slice (some ⟨w.heap.size + 1, 0, none⟩) N N) ∧ W.cell? ⟨p, 0, none⟩ = some (.slice (some ⟨g, 0, none⟩) N N) ∧ W.cell? ⟨g, k, none⟩ = some (.slice (some ⟨b, 0, none⟩) zs.length c)) → ((W.setCell ⟨w.heap.size + 1, k, none⟩ v).cell? ⟨w.heap.size, 0, none⟩ = some (.slice (some ⟨w.heap.size + 1, 0, none⟩) N N) ∧ (W.setCell ⟨w.heap.size + 1, k, none⟩ v).cell? ⟨p, 0, none⟩ = some (.slice (some ⟨g, 0, none⟩) N N) ∧ (W.setCell ⟨w.heap.size + 1, k, none⟩ v).cell? ⟨g, k, none⟩ = some (.slice (some ⟨b, 0, none⟩) zs.length c))) := by
        show ∀ _, _
        intro W v hh
        have ho : ∀ B i, ¬ w.heap.size + 1 = B → (W.setCell ⟨w.heap.size + 1, k, none⟩ v).cell? ⟨B, i, none⟩ = W.cell? ⟨B, i, none⟩ := fun B i hB => World.cell?_setCell_other _ _ _ _ (by intro e2; injection e2 with e3; exact hB e3)
        rw [ho _ _ (by omega), ho _ _ hpp, ho _ _ hgg]; exact hh
      have hclone : ∀ W, Below w1.heap.size w1 W → ∀ v, v = .slice (some ⟨b, 0, none⟩) zs.length c → Calls Try.prog 22 #[v] W fun e w2 => ∃ b' c2, e = .returned (.slice (some ⟨b', 0, none⟩) zs.length c2) ∧ (OwnB w2 w1.heap.size (some ⟨b', 0, none⟩) zs.length c2 zs ∧ Below w1.heap.size w1 w2) := by
        intro W hW v hv
        subst hv
        refine (clone_any _ _ _ zs W (ho1.below hW) (by omega)).mono ?_
        rintro e w2 ⟨a2, c2, rfl, ho2, hg2, hb2⟩
        obtain ⟨b', rfl⟩ := hg2 (by omega)
        exact ⟨b', c2, rfl, ho2.base hW.size, hW.trans (hb2.mono hW.size)⟩
      have HAFT : Hid (∀ w2, Below w1.heap.size w1 w2 → w2.cell? ⟨w.heap.size, 0, none⟩ = some (.slice (some ⟨w.heap.size + 1, 0, none⟩) N N) ∧ w2.cell? ⟨p, 0, none⟩ = some (.slice (some ⟨g, 0, none⟩) N N) ∧ w2.cell? ⟨g, k, none⟩ = some (.slice (some ⟨b, 0, none⟩) zs.length c) ∧ w2.cell? ⟨w.heap.size + 1, k, none⟩ = some (.slice a0 n0 c0) ∧ w2.frozen? ⟨w.heap.size + 1, k, none⟩ = false) := by
        show ∀ _, _
        intro w2 hb2
        have hRl := Nat.lt_of_lt_of_le hR.lt hb1.size
        have hRg := Nat.lt_of_lt_of_le hR.glt hb1.size
        have hK2 := hK1.below hb2
        exact ⟨hK2.c0, (hb2.cell (p := ⟨p, 0, none⟩) hRl).trans i0, (hb2.cell (p := ⟨g, k, none⟩) hRg).trans ik, (hb2.cell (p := ⟨w.heap.size + 1, k, none⟩) hK1.glt).trans jg, hK2.gfree k⟩
      have HFIN : Hid (∀ w2 b' c2, Below w1.heap.size w1 w2 → OwnB w2 w1.heap.size (some ⟨b', 0, none⟩) zs.length c2 zs → Fk (w2.setCell ⟨w.heap.size + 1, k, none⟩ (.slice (some ⟨b', 0, none⟩) zs.length c2)) w.heap.size w.heap.size (w.heap.size + 1) N gv tk d rs.length (rs1 ++ [(b', zs)]) ∧ Below w.heap.size w (w2.setCell ⟨w.heap.size + 1, k, none⟩ (.slice (some ⟨b', 0, none⟩) zs.length c2))) := by
        show ∀ _, _
        intro w2 b' c2 hb2 ho2
        have hbb := ho2.blt.2
        have hpl1 := hK1.lt
        have hgl1 := hK1.glt
        exact ⟨HADD.out w2 b' c2 (hK1.below hb2) (by omega) (ho2.base hbel1.size), (hbel1.trans (hb2.mono hbel1.size)).setCell (p := ⟨w.heap.size + 1, k, none⟩) (by show w.heap.size ≤ w.heap.size + 1; omega) _⟩
      clear hah hb1 hK hR hcl ho hk0 k2 hK1 ho1 hbel1 j0 jg jf i0 ik
      obtain ⟨j0, i0, ik, jg, jf⟩ := HAFT.out w1.drew (Below.refl _ _).drew
      have hbx : Below w1.heap.size w1 w1.drew := (Below.refl _ _).drew
      go_wp2
      go_region_held3 (fun w' => w'.cell? ⟨w.heap.size, 0, none⟩ = some (.slice (some ⟨w.heap.size + 1, 0, none⟩) N N) ∧ w'.cell? ⟨p, 0, none⟩ = some (.slice (some ⟨g, 0, none⟩) N N) ∧ w'.cell? ⟨g, k, none⟩ = some (.slice (some ⟨b, 0, none⟩) zs.length c)) (first | exact ⟨by assumption, by assumption, by assumption⟩ | exact HST.out _ _ ⟨by assumption, by assumption, by assumption⟩) (first
        | (go_at_call 22; refine (hclone _ (by first | exact Below.refl _ _ | exact (Below.refl _ _).drew) _ (by rfl)).mono ?_; rintro e w2 ⟨b', c2, rfl, ho2, hb2⟩; obtain ⟨q0, q1, qk, qg, qf⟩ := HAFT.out _ hb2)
        | fail)
      all_goals
        have HX := (show Hid _ from HFIN.out w2 b' c2 hb2 ho2)
        clear ho2 hb2 hclone
        go_wp2
        go_roundw
        case rel => exact ⟨s + 1, rs1 ++ [(b', zs)], by go_num, by omega, by simp; omega, HRM.out b', HX.out.1, HX.out.2⟩
        case measure => simp [intOf]; omega
    · have hl1 : ¬ (s : Int) < (rs.length : Int) := by omega
      obtain rfl : s = rs.length := by omega
      rw [List.take_length] at hrm
      rw [← hrl] at hK
      have HP : Hid ((∃ g' rs', Rng wr w.heap.size (fun k => k = w.heap.size ∨ k = g') w.heap.size g' N gv tk d rs' ∧ rs'.map (·.2) = rs.map (·.2)) ∧ Below w.heap.size w wr) := ⟨⟨w.heap.size + 1, rs1, hK.rng hN1 hN64 hgv, hrm⟩, hbel⟩
      clear hK hR hbel
      go_wp2
      go_ret
      exact ⟨w.heap.size, rfl, HP.out⟩
/-- The reference's Fork shares what is filled. -/
theorem FullAt.setX {w : World} {X Y : Nat → Prop} {a : Option Addr} {c : Nat} {fs : List (List Nat)} (h : FullAt w X a c fs) (hY : ∀ k, Y k → w.heap.size ≤ k) : FullAt w Y a c fs := by
  refine ⟨h.cap, h.cm, h.nz, ?_⟩
  rcases h.at_ with h0 | ⟨g, o, rfl, hlt, hx, hc⟩
  · exact .inl h0
  · refine .inr ⟨g, o, rfl, hlt, fun hy => by have := hY g hy; omega, fun j zs hj => ?_⟩
    obtain ⟨b, m, h1, h2, h3, h4⟩ := hc j zs hj
    exact ⟨b, m, h1, fun hy => by have := hY b hy; have := h3.blt.1; omega, h3, h4⟩
structure ForkRP (q N gn out d : Nat) (fs : List (List Nat)) (w0 w : World) (e : Ending) (w' : World) : Prop where
  out : ∃ q', e = .returned (.pointer (some ⟨q', 0, none⟩)) ∧ w.heap.size ≤ q' ∧ q' < w'.heap.size ∧ ∀ W (Y : Nat → Prop), Below w'.heap.size w' W → Y q' → (∀ k, Y k → w0.heap.size ≤ k ∧ k < W.heap.size) → Rf W w0.heap.size Y q' N gn out d fs
  bel : Below w.heap.size w w'
set_option maxHeartbeats 1000000 in
theorem fork_ref (B : Nat) (X : Nat → Prop) (q N gn out d : Nat) (fs : List (List Nat)) (w0 w : World) (h0 : Rf w0 B X q N gn out d fs) (hb0 : Below w0.heap.size w0 w) :
    Calls Try.prog 18 #[.pointer (some ⟨q, 0, none⟩)] w (ForkRP q N gn out d fs w0 w) := by
  have h := h0.below hb0
  obtain ⟨a, c, k1, hF⟩ := h0.full
  have k1' := (hb0.cell (p := ⟨q, 1, none⟩) h0.lt).trans k1
  have k0 := h.c0
  have k2 := h.c2
  have k3 := h.c3
  have k4 := h.c4
  have HP : Hid (ForkRP q N gn out d fs w0 w (.returned (.pointer (some ⟨w.heap.size, 0, none⟩))) (w.alloc (.cells #[.int .i64 (N : Nat), .slice a fs.length c, .int .i64 (out : Nat), .int .i64 (gn : Nat), .int .i64 (d : Nat)] 60))) := by
    have hbA : Below w.heap.size w (w.alloc (.cells #[.int .i64 (N : Nat), .slice a fs.length c, .int .i64 (out : Nat), .int .i64 (gn : Nat), .int .i64 (d : Nat)] 60)) := (Below.refl _ _).alloc (Nat.le_refl _) _
    have hc : ∀ i, (w.alloc (.cells #[.int .i64 (N : Nat), .slice a fs.length c, .int .i64 (out : Nat), .int .i64 (gn : Nat), .int .i64 (d : Nat)] 60)).cell? ⟨w.heap.size, i, none⟩ = (#[.int .i64 (N : Nat), .slice a fs.length c, .int .i64 (out : Nat), .int .i64 (gn : Nat), .int .i64 (d : Nat)] : Array Value)[i]? := fun i => by rw [World.cell?_alloc_mark]
    have hfr : ∀ i, (w.alloc (.cells #[.int .i64 (N : Nat), .slice a fs.length c, .int .i64 (out : Nat), .int .i64 (gn : Nat), .int .i64 (d : Nat)] 60)).frozen? ⟨w.heap.size, i, none⟩ = false := fun i => free_new _ _ _ _
    have hz : (w.alloc (.cells #[.int .i64 (N : Nat), .slice a fs.length c, .int .i64 (out : Nat), .int .i64 (gn : Nat), .int .i64 (d : Nat)] 60)).heap.size = w.heap.size + 1 := by simp
    refine ⟨⟨w.heap.size, rfl, Nat.le_refl _, by omega, fun W Y hW hYq hY => ?_⟩, hbA⟩
    have hl : w.heap.size < (w.alloc (.cells #[.int .i64 (N : Nat), .slice a fs.length c, .int .i64 (out : Nat), .int .i64 (gn : Nat), .int .i64 (d : Nat)] 60)).heap.size := by omega
    have e := fun i => (hW.cell (p := ⟨w.heap.size, i, none⟩) hl).trans (hc i)
    have hbW : Below w0.heap.size w0 W := (hb0.trans (hbA.mono hb0.size)).trans (hW.mono (by rw [hz]; have := hb0.size; omega))
    exact ⟨hb0.size, hYq, fun k hk => (hY k hk).2, h0.n1, h0.n64, h0.sum, e 0, e 2, e 3, e 4, fun i => (hW.frozen (p := ⟨w.heap.size, i, none⟩) hl).trans (hfr i), a, c, e 1, (hF.setX (fun k hk => (hY k hk).1)).fr (Fr.of_below (P := fun _ => False) hbW) (fun _ _ h => h.elim)⟩
  go_enter Try.func18, Try.ntmps18
  go_wp2
  go_ret
  exact HP.out
end Go.Proofs.Ytmmbnikjlklflaa
