/- What Fill, Take, Give and Count of a ring do. -/
import Derived.Test.YtfjpckaphfdfnaaGreatDoorRg1
namespace Go.Proofs.YtfjpckaphfdfnaaGreatDoor
open Go.RowKit
def fillE (N tk : Nat) (rs : List (Nat × List Nat)) (zs : List Nat) : Nat := if zs.length < 1 ∨ 1514 < zs.length then 6 else if tk + rs.length = N then 10 else 0
/-- What stands while Fill works. -/
structure FlC (w0 : World) (B : Nat) (X : Nat → Prop) (p g N gv tk d : Nat) (rs : List (Nat × List Nat)) (a : Option Addr) (n c : Nat) (zs : List Nat) (a0 : Option Addr) (n0 c0 k : Nat) (W : World) : Prop where
  r : Rng W B X p g N gv tk d rs
  s : Sl W a n c zs
  kc : W.cell? ⟨g, k, none⟩ = some (.slice a0 n0 c0)
  bel : Below w0.heap.size w0 W
theorem FlC.next {w0 : World} {B : Nat} {X : Nat → Prop} {p g N gv tk d : Nat} {rs : List (Nat × List Nat)} {a : Option Addr} {n c : Nat} {zs : List Nat} {a0 : Option Addr} {n0 c0 k : Nat} {W W' : World} (h : FlC w0 B X p g N gv tk d rs a n c zs a0 n0 c0 k W) (hb : Below W.heap.size W W') : FlC w0 B X p g N gv tk d rs a n c zs a0 n0 c0 k W' :=
  ⟨h.r.below hb, h.s.below hb, (hb.cell (p := ⟨g, k, none⟩) h.r.glt).trans h.kc, h.bel.trans (hb.mono h.bel.size)⟩
theorem FlC.all {w0 : World} {B : Nat} {X : Nat → Prop} {p g N gv tk d : Nat} {rs : List (Nat × List Nat)} {a : Option Addr} {n c : Nat} {zs : List Nat} {a0 : Option Addr} {n0 c0 k : Nat} {W : World} (h : FlC w0 B X p g N gv tk d rs a n c zs a0 n0 c0 k W) :
    W.cell? ⟨p, 0, none⟩ = some (.slice (some ⟨g, 0, none⟩) N N) ∧ W.cell? ⟨p, 2, none⟩ = some (.int .i64 (tk : Nat)) ∧ W.cell? ⟨p, 3, none⟩ = some (.int .i64 (rs.length : Nat)) ∧ W.cell? ⟨g, k, none⟩ = some (.slice a0 n0 c0) ∧ W.frozen? ⟨g, k, none⟩ = false ∧ FlC w0 B X p g N gv tk d rs a n c zs a0 n0 c0 k W :=
  ⟨h.r.c0, h.r.c2, h.r.c3, h.kc, h.r.gfree k, h⟩
theorem ahead_at {B : Nat} {X : Nat → Prop} {p g N gv tk d : Nat} {rs : List (Nat × List Nat)} (w : World) (h : Rng w B X p g N gv tk d rs) (s : Nat) (hs : s ≤ 1000) (v : Value) (hv : v = .int .i64 (s : Nat)) :
    Calls Tryz.prog 98 #[.pointer (some ⟨p, 0, none⟩), v] w fun e w' => e = .returned (.int .i64 ((gv + s) % N : Nat)) ∧ Below w.heap.size w w' :=
  (ahead_any p g N gv s w h.c0 h.c1 h.n1 h.n64 h.gvl hs v hv).mono fun e w' ⟨h1, q, h2⟩ => ⟨h1, by
    rw [h2]
    have hb := Below.refl w.heap.size w
    exact ⟨hb.os, hb.tape, hb.output, hb.size, hb.block⟩⟩
structure FillP (B : Nat) (X : Nat → Prop) (p g N gv tk d : Nat) (rs : List (Nat × List Nat)) (zs : List Nat) (w : World) (e : Ending) (w' : World) : Prop where
  ret : e = .returned (.int .i64 (fillE N tk rs zs : Nat))
  fr : Fr (fun k => k = p ∨ k = g) w w'
  out : ∃ b, w.heap.size ≤ b ∧ Rng w' B X p g N gv tk (if fillE N tk rs zs = 10 then d + 1 else d) (if fillE N tk rs zs = 0 then rs ++ [(b, zs)] else rs)
set_option maxRecDepth 100000 in
set_option maxHeartbeats 2000000 in
theorem fill_any (B : Nat) (X : Nat → Prop) (p g N gv tk d : Nat) (rs : List (Nat × List Nat)) (a : Option Addr) (n c : Nat) (zs : List Nat) (w : World) (h : Rng w B X p g N gv tk d rs) (hs : Sl w a n c zs) (hd : d ≤ 1000000) (hB : B ≤ w.heap.size) :
    Calls Tryz.prog 56 #[.pointer (some ⟨p, 0, none⟩), .slice a n c] w (FillP B X p g N gv tk d rs zs w) := by
  have hl := hs.len
  have hsm := hs.small
  have h0 := h.c0
  have h2 := h.c2
  have h3 := h.c3
  have h4 := h.c4
  have hf4 := h.free 4
  have hn1 := h.n1
  have hn64 := h.n64
  have hsum := h.sum
  by_cases he1 : n < 1 ∨ 1514 < n
  · have HE : Hid (fillE N tk rs zs = 6) := by show _ = _; unfold fillE; rw [hl, if_pos he1]
    go_enter Tryz.func56, Tryz.ntmps56
    by_cases hn0 : n = 0
    · subst hn0
      go_wp2
      go_ret
      exact ⟨by rw [HE.out]; rfl, Fr.refl _ _, w.heap.size, Nat.le_refl _, by rw [HE.out]; exact h⟩
    · have a1 : ¬ (n : Int) = 0 := by omega
      have a2 : (1514 : Int) < n := by omega
      go_wp2
      go_ret
      exact ⟨by rw [HE.out]; rfl, Fr.refl _ _, w.heap.size, Nat.le_refl _, by rw [HE.out]; exact h⟩
  · have a1 : ¬ (n : Int) = 0 := by omega
    have a2 : ¬ (1514 : Int) < n := by omega
    by_cases he2 : tk + rs.length = N
    · have HE : Hid (fillE N tk rs zs = 10) := by show _ = _; unfold fillE; rw [hl, if_neg he1, if_pos he2]
      have b1 : (tk : Int) + (rs.length : Int) = (N : Int) := by omega
      have HF : Hid (∀ q, Fr (fun k => k = p ∨ k = g) w ((w.drewN q).setCell ⟨p, 4, none⟩ (.int .i64 ((d : Int) + 1)))) := fun q => Fr.trans (b := w.drewN q) (Fr.of_below ⟨rfl, rfl, rfl, Nat.le_refl _, fun _ _ => rfl⟩) (Fr.setCell _ _ _ _ (Or.inl rfl))
      have HD : Hid (∀ q, Rng ((w.drewN q).setCell ⟨p, 4, none⟩ (.int .i64 ((d : Int) + 1))) B X p g N gv tk (d + 1) rs) := fun q => Rng.drop (h.below ⟨rfl, rfl, rfl, Nat.le_refl _, fun _ _ => rfl⟩)
      go_enter Tryz.func56, Tryz.ntmps56
      go_wp2
      go_quiet (fail)
      all_goals
        go_wp2
        go_ret
        exact ⟨by rw [HE.out]; rfl, HF.out _, w.heap.size, Nat.le_refl _, by rw [HE.out]; exact HD.out _⟩
    · have HE : Hid (fillE N tk rs zs = 0) := by show _ = _; unfold fillE; rw [hl, if_neg he1, if_neg he2]
      have b1 : ¬ (tk : Int) + (rs.length : Int) = (N : Int) := by omega
      have hkl : (gv + (tk + rs.length)) % N < N := Nat.mod_lt _ hn1
      obtain ⟨a0, n0, c0, hk⟩ := h.there _ hkl
      obtain ⟨k, hkk⟩ : ∃ k, k = (gv + (tk + rs.length)) % N := ⟨_, rfl⟩
      have HK := (show Hid _ from hkk)
      rw [← hkk] at hk hkl
      clear hkk
      have hC : FlC w B X p g N gv tk d rs a n c zs a0 n0 c0 k w := ⟨h, hs, hk, Below.refl _ _⟩
      have HALL : Hid (∀ w', FlC w B X p g N gv tk d rs a n c zs a0 n0 c0 k w' → _) := fun w' h => FlC.all h
      have hah : ∀ W W', FlC w B X p g N gv tk d rs a n c zs a0 n0 c0 k W → Below W.heap.size W W' → ∀ v1 v2, v1 = .pointer (some ⟨p, 0, none⟩) → v2 = .int .i64 ((tk : Int) + (rs.length : Int)) → Calls Tryz.prog 98 #[v1, v2] W' fun e w' => e = .returned (.int .i64 (k : Nat)) ∧ FlC w B X p g N gv tk d rs a n c zs a0 n0 c0 k w' ∧ Below W.heap.size W w' := by
        intro W W' hW hb v1 v2 e1 e2
        subst e1
        rw [HK.out]
        refine (ahead_at W' (hW.next hb).r (tk + rs.length) (by omega) v2 (by rw [e2]; congr 1)).mono ?_
        rintro e w' ⟨h1, h2⟩
        rw [HK.out] at hW
        exact ⟨h1, (hW.next hb).next h2, hb.trans (h2.mono hb.size)⟩
      have hclone : ∀ W W', FlC w B X p g N gv tk d rs a n c zs a0 n0 c0 k W → Below W.heap.size W W' → ∀ v1, v1 = .slice a n c → Calls Tryz.prog 97 #[v1] W' fun e w' => ∃ a' c', e = .returned (.slice a' n c') ∧ (OwnB w' w.heap.size a' n c' zs ∧ ∃ g, a' = some ⟨g, 0, none⟩) ∧ FlC w B X p g N gv tk d rs a n c zs a0 n0 c0 k w' := by
        intro W W' hW hb v1 e1
        subst e1
        refine (clone_any a n c zs W' (hW.next hb).s (by omega)).mono ?_
        rintro e w' ⟨a', c', h1, h2, h3, h4⟩
        exact ⟨a', c', h1, ⟨h2.base (hW.next hb).bel.size, h3 (by omega)⟩, (hW.next hb).next h4⟩
      have HW1 : Hid (IntKind.i64.wrap ((tk : Int) + (rs.length : Int)) = (tk : Int) + (rs.length : Int)) := by show _ = _; rw [IntKind.wrap_i64]; omega
      have hrl : rs.length ≤ 64 := by omega
      have hki : (k : Int) < (N : Int) := by omega
      have HFIN : Hid (∀ (W : World) (b cC : Nat), FlC w B X p g N gv tk d rs a n c zs a0 n0 c0 k W → OwnB W w.heap.size (some ⟨b, 0, none⟩) n cC zs → FillP B X p g N gv tk d rs zs w (.returned (.int .i64 0)) ((W.setCell ⟨g, k, none⟩ (.slice (some ⟨b, 0, none⟩) n cC)).setCell ⟨p, 3, none⟩ (.int .i64 ((rs.length : Int) + 1)))) := by
        show ∀ _, _
        intro W b cC hW ho
        have hb := ho.blt.2
        have hE := HE.out
        have hF : Fr (fun k => k = p ∨ k = g) w ((W.setCell ⟨g, k, none⟩ (.slice (some ⟨b, 0, none⟩) n cC)).setCell ⟨p, 3, none⟩ (.int .i64 ((rs.length : Int) + 1))) :=
          Fr.trans (b := W) (Fr.of_below hW.bel) (Fr.trans (b := W.setCell ⟨g, k, none⟩ (.slice (some ⟨b, 0, none⟩) n cC)) (Fr.setCell _ _ _ _ (Or.inr rfl)) (Fr.setCell _ _ _ _ (Or.inl rfl)))
        refine ⟨by rw [hE]; rfl, hF, b, hb, ?_⟩
        rw [hE]
        rw [HK.out] at hW ⊢
        rw [← hl] at ho ⊢
        exact hW.r.filled b cC zs (by omega) (by omega) (by omega) (fun hx => by have := h.xlt b hx; omega) (ho.base hB)
      go_enter Tryz.func56, Tryz.ntmps56
      go_wp2
      go_quiet (fail)
      all_goals
        go_wp2
        have hC0 : FlC w B X p g N gv tk d rs a n c zs a0 n0 c0 k (w.drewN nq) := hC.next ⟨rfl, rfl, rfl, Nat.le_refl _, fun _ _ => rfl⟩
        obtain ⟨W, hW⟩ : ∃ W, W = w.drewN nq := ⟨_, rfl⟩
        rw [← hW] at hC0 ⊢
        clear hW hC h0 h2 h3 h4 hf4 hk h hs hl hsm he1 he2 hsum hn1 hn64 hd HE HK
        have hC1 : FlC w B X p g N gv tk d rs a n c zs a0 n0 c0 k W.drew := hC0.next (Below.refl _ _).drew
        obtain ⟨x1, x2, x3, x4, x5, hC'⟩ := HALL.out _ hC1
        clear hC0 hC1
        have HST : Hid (∀ (W : World) v, (W.cell? ⟨p, 0, none⟩ = some (.slice (some ⟨g, 0, none⟩) N N) ∧ W.cell? ⟨p, 2, none⟩ = some (.int .i64 (tk : Nat)) ∧ W.cell? ⟨p, 3, none⟩ = some (.int .i64 (rs.length : Nat))) → ((W.setCell ⟨g, k, none⟩ v).cell? ⟨p, 0, none⟩ = some (.slice (some ⟨g, 0, none⟩) N N) ∧ (W.setCell ⟨g, k, none⟩ v).cell? ⟨p, 2, none⟩ = some (.int .i64 (tk : Nat)) ∧ (W.setCell ⟨g, k, none⟩ v).cell? ⟨p, 3, none⟩ = some (.int .i64 (rs.length : Nat)))) := by
          show ∀ _, _
          intro W v hh
          have hpg := hC'.r.ne
          have ho : ∀ i, (W.setCell ⟨g, k, none⟩ v).cell? ⟨p, i, none⟩ = W.cell? ⟨p, i, none⟩ := fun i => World.cell?_setCell_other _ _ _ _ (by intro e2; injection e2 with e3; exact hpg e3.symm)
          rw [ho, ho, ho]; exact hh
        go_region_held3 (fun w' => w'.cell? ⟨p, 0, none⟩ = some (.slice (some ⟨g, 0, none⟩) N N) ∧ w'.cell? ⟨p, 2, none⟩ = some (.int .i64 (tk : Nat)) ∧ w'.cell? ⟨p, 3, none⟩ = some (.int .i64 (rs.length : Nat))) (first | exact ⟨by assumption, by assumption, by assumption⟩ | exact HST.out _ _ ⟨by assumption, by assumption, by assumption⟩) (first
          | (go_at_call 98; refine (hah _ _ hC' (by first | exact Below.refl _ _ | exact (Below.refl _ _).drew) _ _ (by rfl) (by rw [HW1.out])).mono ?_; rintro e wA ⟨rfl, hC', hbA⟩; obtain ⟨y1, y2, y3, y4, y5, hC'⟩ := HALL.out _ hC')
          | (go_at_call 97; refine (hclone _ _ hC' (by first | exact Below.refl _ _ | exact (Below.refl _ _).drew) _ (by rfl)).mono ?_; rintro e wC ⟨aC, cC, rfl, hoC, hC'⟩; obtain ⟨z1, z2, z3, z4, z5, hC'⟩ := HALL.out _ hC')
          | fail)
        all_goals
          obtain ⟨hoC, b, rfl⟩ := hoC
          have q3 := (HST.out wC (.slice (some ⟨b, 0, none⟩) n cC) ⟨z1, z2, z3⟩).2.2
          have qf : (wC.setCell ⟨g, k, none⟩ (.slice (some ⟨b, 0, none⟩) n cC)).frozen? ⟨p, 3, none⟩ = false := by rw [World.frozen?_setCell]; exact hC'.r.free 3
          have HP := HFIN.out wC b cC hC' hoC
          have HP := (show Hid _ from HP)
          clear hoC
          go_wp2
          go_ret
          exact HP.out
structure RgTakeP (B : Nat) (X : Nat → Prop) (p g N gv tk d : Nat) (b : Nat) (zs : List Nat) (rs : List (Nat × List Nat)) (w : World) (e : Ending) (w' : World) : Prop where
  ret : ∃ c, e = .returned (.tuple #[.slice (some ⟨b, 0, none⟩) zs.length c, .int .i64 0]) ∧ OwnB w' B (some ⟨b, 0, none⟩) zs.length c zs
  fr : Fr (fun k => k = p ∨ k = g) w w'
  out : Rng w' B X p g N gv (tk + 1) d rs
theorem take_none (B : Nat) (X : Nat → Prop) (p g N gv tk d : Nat) (w : World) (h : Rng w B X p g N gv tk d []) :
    Calls Tryz.prog 65 #[.pointer (some ⟨p, 0, none⟩)] w fun e w' => e = .returned (.tuple #[.slice none 0 0, .int .i64 13]) ∧ w' = w := by
  have h3 := h.c3
  simp only [List.length_nil] at h3
  go_enter Tryz.func65, Tryz.ntmps65
  go_wp2
  go_ret2
  exact ⟨rfl, rfl⟩
set_option maxHeartbeats 2000000 in
theorem take_some (B : Nat) (X : Nat → Prop) (p g N gv tk d : Nat) (b : Nat) (zs : List Nat) (rs : List (Nat × List Nat)) (w : World) (h : Rng w B X p g N gv tk d ((b, zs) :: rs)) :
    Calls Tryz.prog 65 #[.pointer (some ⟨p, 0, none⟩)] w (RgTakeP B X p g N gv tk d b zs rs w) := by
  have h0 := h.c0
  have h2 := h.c2
  have h3 := h.c3
  have hf2 := h.free 2
  have hf3 := h.free 3
  have hn64 := h.n64
  have hsum := h.sum
  rw [List.length_cons] at h3 hsum
  obtain ⟨hx, hl1, hl2, c, hcl, ho⟩ := h.row 0 b zs rfl
  rw [Nat.add_zero] at hcl
  have hkl : (gv + tk) % N < N := Nat.mod_lt _ h.n1
  have hgf := h.gfree ((gv + tk) % N)
  have hah := fun W (hW : Below w.heap.size w W) => ahead_at W (h.below hW) tk (by omega) (.int .i64 (tk : Nat)) rfl
  have HT : Hid (∀ (W : World), Below w.heap.size w W → RgTakeP B X p g N gv tk d b zs rs w (.returned (.tuple #[.slice (some ⟨b, 0, none⟩) zs.length c, .int .i64 0])) (((W.setCell ⟨g, (gv + tk) % N, none⟩ (.slice none 0 0)).setCell ⟨p, 3, none⟩ (.int .i64 (rs.length : Nat))).setCell ⟨p, 2, none⟩ (.int .i64 ((tk : Int) + 1)))) := by
    show ∀ _, _
    intro W hW
    have hF : Fr (fun k => k = p ∨ k = g) w (((W.setCell ⟨g, (gv + tk) % N, none⟩ (.slice none 0 0)).setCell ⟨p, 3, none⟩ (.int .i64 (rs.length : Nat))).setCell ⟨p, 2, none⟩ (.int .i64 ((tk : Int) + 1))) :=
      Fr.trans (b := W) (Fr.of_below hW) (Fr.trans (b := W.setCell ⟨g, (gv + tk) % N, none⟩ (.slice none 0 0)) (Fr.setCell _ _ _ _ (Or.inr rfl)) (Fr.trans (b := (W.setCell ⟨g, (gv + tk) % N, none⟩ (.slice none 0 0)).setCell ⟨p, 3, none⟩ (.int .i64 (rs.length : Nat))) (Fr.setCell _ _ _ _ (Or.inl rfl)) (Fr.setCell _ _ _ _ (Or.inl rfl))))
    exact ⟨⟨c, rfl, ho.fr hF (fun e => e.elim (fun e => hx (e ▸ h.xp)) (fun e => hx (e ▸ h.xg)))⟩, hF, (h.below hW).taken⟩
  have hpg : ¬ p = g := h.ne
  have hgp : ¬ g = p := fun e => h.ne e.symm
  have hplt := h.lt
  have hglt := h.glt
  generalize (gv + tk) % N = k at *
  have hki : (k : Int) < (N : Int) := by omega
  clear h ho hx
  go_enter Tryz.func65, Tryz.ntmps65
  go_wp2_with fail
  refine (hah w (Below.refl _ _)).mono ?_
  rintro e w1 ⟨rfl, hb1⟩
  have e0 := (hb1.cell (p := ⟨p, 0, none⟩) hplt).trans h0
  have e2 := (hb1.cell (p := ⟨p, 2, none⟩) hplt).trans h2
  have e3 := (hb1.cell (p := ⟨p, 3, none⟩) hplt).trans h3
  have ek := (hb1.cell (p := ⟨g, k, none⟩) hglt).trans hcl
  have fk := (hb1.frozen (p := ⟨g, k, none⟩) hglt).trans hgf
  have f2 := (hb1.frozen (p := ⟨p, 2, none⟩) hplt).trans hf2
  have f3 := (hb1.frozen (p := ⟨p, 3, none⟩) hplt).trans hf3
  have HP := HT.out w1 hb1
  have HP := (show Hid _ from HP)
  clear hb1 hah h0 h2 h3 hcl hgf hf2 hf3
  go_wp2
  go_ret2
  exact HP.out
structure GiveP (B : Nat) (X : Nat → Prop) (p g N gv tk d : Nat) (rs : List (Nat × List Nat)) (w : World) (e : Ending) (w' : World) : Prop where
  ret : e = .returned (.int .i64 0)
  fr : Fr (fun k => k = p ∨ k = g) w w'
  out : Rng w' B X p g N ((gv + 1) % N) tk d rs
theorem give_none (B : Nat) (X : Nat → Prop) (p g N gv d : Nat) (rs : List (Nat × List Nat)) (w : World) (h : Rng w B X p g N gv 0 d rs) :
    Calls Tryz.prog 66 #[.pointer (some ⟨p, 0, none⟩)] w fun e w' => e = .returned (.int .i64 13) ∧ w' = w := by
  have h3 := h.c2
  go_enter Tryz.func66, Tryz.ntmps66
  go_wp2
  go_ret
  exact ⟨rfl, rfl⟩
set_option maxHeartbeats 2000000 in
theorem give_some (B : Nat) (X : Nat → Prop) (p g N gv tk d : Nat) (rs : List (Nat × List Nat)) (w : World) (h : Rng w B X p g N gv (tk + 1) d rs) :
    Calls Tryz.prog 66 #[.pointer (some ⟨p, 0, none⟩)] w (GiveP B X p g N gv tk d rs w) := by
  have h1 := h.c1
  have h2 := h.c2
  have hf1 := h.free 1
  have hf2 := h.free 2
  have hn64 := h.n64
  have hsum := h.sum
  have hah := ahead_at w h 1 (by omega) (.int .i64 1) rfl
  have HT : Hid (∀ (W : World), Below w.heap.size w W → GiveP B X p g N gv tk d rs w (.returned (.int .i64 0)) ((W.setCell ⟨p, 1, none⟩ (.int .i64 (((gv + 1) % N : Nat) : Int))).setCell ⟨p, 2, none⟩ (.int .i64 (tk : Nat)))) := by
    show ∀ _, _
    intro W hW
    exact ⟨rfl, Fr.trans (b := W) (Fr.of_below hW) (Fr.trans (b := W.setCell ⟨p, 1, none⟩ (.int .i64 (((gv + 1) % N : Nat) : Int))) (Fr.setCell _ _ _ _ (Or.inl rfl)) (Fr.setCell _ _ _ _ (Or.inl rfl))), (h.below hW).given⟩
  have hplt := h.lt
  have hkl : (gv + 1) % N < N := Nat.mod_lt _ h.n1
  generalize (gv + 1) % N = k at *
  clear h
  go_enter Tryz.func66, Tryz.ntmps66
  go_wp2_with fail
  refine hah.mono ?_
  rintro e w1 ⟨rfl, hb1⟩
  have e1 := (hb1.cell (p := ⟨p, 1, none⟩) hplt).trans h1
  have e2 := (hb1.cell (p := ⟨p, 2, none⟩) hplt).trans h2
  have f1 := (hb1.frozen (p := ⟨p, 1, none⟩) hplt).trans hf1
  have f2 := (hb1.frozen (p := ⟨p, 2, none⟩) hplt).trans hf2
  have HP := HT.out w1 hb1
  have HP := (show Hid _ from HP)
  clear hb1 hah h1 h2 hf1 hf2
  go_wp2
  go_ret
  exact HP.out
theorem results_tmp4 {fn : Func} {t u v x : Tmp} (h : fn.results = #[.tmp t, .tmp u, .tmp v, .tmp x]) (tmps : Array Value) (P : Program) (w : World) :
    (results fn tmps).run P w = .ok (.tuple #[tmps.getD t undef, tmps.getD u undef, tmps.getD v undef, tmps.getD x undef]) w := by
  simp [results, h]
theorem count_any (B : Nat) (X : Nat → Prop) (p g N gv tk d : Nat) (rs : List (Nat × List Nat)) (w : World) (h : Rng w B X p g N gv tk d rs) :
    Calls Tryz.prog 37 #[.pointer (some ⟨p, 0, none⟩)] w fun e w' => e = .returned (.tuple #[.int .i64 (N - tk - rs.length : Nat), .int .i64 (rs.length : Nat), .int .i64 (tk : Nat), .int .i64 (d : Nat)]) ∧ Below w.heap.size w w' := by
  have h0 := h.c0
  have h2 := h.c2
  have h3 := h.c3
  have h4 := h.c4
  have hn64 := h.n64
  have hsum := h.sum
  have HC : Hid ((N : Int) - rs.length - tk = ((N - tk - rs.length : Nat) : Int)) := by show _ = _; omega
  go_enter Tryz.func37, Tryz.ntmps37
  go_wp2
  go_quiet (fail)
  all_goals
    go_wp2
    try simp only [Exit.inBlock, Exit.then]
    refine bodyPost_ret (results_tmp4 rfl _ _ _) rfl ?_
    exact ⟨by rw [← HC.out]; rfl, ⟨rfl, rfl, rfl, Nat.le_refl _, fun _ _ => rfl⟩⟩
end Go.Proofs.YtfjpckaphfdfnaaGreatDoor
