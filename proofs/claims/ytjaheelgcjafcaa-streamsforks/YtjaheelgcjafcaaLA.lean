/- trunklineref13: Add: as far as the loop. -/
import Derived.Test.YtjaheelgcjafcaaKZ
namespace Go.Proofs.Ytjaheelgcjafcaa
open Go.RowKit
/-- Why the reference takes a piece not. -/
def rholdN (nx : List Nat) (E : List ChQ) (V : List RyD) (x : ChQ) : Int := if chkOf x.ck ≠ 0 then chkOf x.ck else if x.k ≠ 0 then 11 else if nx.length ≤ x.st then 14 else if (findQ E x.t).isSome then 17 else if 128 ≤ heldN13 E V then 10 else 0
/-- What Add is called with. -/
structure AdC (W0 w : World) (p : Nat) (r : Rw) (nx : List Nat) (E : List ChQ) (V : List RyD) (Z : Nat → Prop) (x : ChQ) (D : List (Nat × Pc)) : Prop where
  h : RfS W0 w p r nx E V Z
  x : x.Wf W0
  al : Alk D (E.map ChQ.kv)
  dn : ∀ y ∈ E, y.st < nx.length
  nd : (V.map RyD.key).Nodup
  ev : E.length + V.length ≤ heldN13 E V
  hd : heldN13 E V ≤ 128
/-- Add's answer. -/
inductive RAdR (W0 w : World) (p : Nat) (nx : List Nat) (E : List ChQ) (V : List RyD) (Z : Nat → Prop) (x : ChQ) (e : Ending) (w' : World) : Prop
  | bad : rholdN nx E V x ≠ 0 → e = .returned (.tuple #[.slice none 0 0, .int .i64 (rholdN nx E V x)]) → Below w.heap.size w w' → RAdR W0 w p nx E V Z x e w'
  | no (r' : Rw) (Z' : Nat → Prop) : rholdN nx E V x = 0 → (∀ y ∈ E ++ [x], ∀ m, ¬ Whl ((E ++ [x]).map ChQ.kv) y.t m) → e = .returned (.tuple #[.slice none 0 0, .int .i64 0]) → RfS W0 w' p r' nx (E ++ [x]) V Z' → (∀ g, Z' g → Z g ∨ w.heap.size ≤ g) → Fr (fun g => g = p) w w' → RAdR W0 w p nx E V Z x e w'
  | yes (u m : Nat) (xs : List ChQ) (w1 : World) (Z1 : Nat → Prop) (a : Option Addr) (n c : Nat) : rholdN nx E V x = 0 → Whl ((E ++ [x]).map ChQ.kv) u m → (∀ j, j < m + 1 → findQ (E ++ [x]) ((u + j) % 4294967296) = xs[j]?) → xs.length = m + 1 → e = .returned (.tuple #[.slice a n c, .int .i64 0]) → TelR W0 w1 p nx (E ++ [x]) V Z1 (m + 1) xs (.returned (.slice a n c)) w' → Fr (fun g => g = p) w w1 → (∀ g, Z1 g → Z g ∨ w.heap.size ≤ g) → RAdR W0 w p nx E V Z x e w'
theorem RfS.putE {W0 w w' : World} {p : Nat} {r : Rw} {nx : List Nat} {E E' : List ChQ} {V : List RyD} {Z : Nat → Prop} {la : Option Addr} {lc : Nat} (h : RfS W0 w p r nx E V Z) (hf : Fr (fun g => g = p) w w') (hst : Stc w' p [.slice r.aA nx.length r.aC, .slice la E'.length lc, .slice r.vA V.length r.vC])
    (ho : OwnG 47 14 ChQ.vals w' w.heap.size la E'.length lc E') (hok : ∀ y ∈ E', QOk W0 y) (hl : E'.length ≤ 128) : RfS W0 w' p ⟨r.aA, r.aC, la, lc, r.vA, r.vC⟩ nx E' V (fun g => Z g ∨ (w.heap.size ≤ g ∧ g < w'.heap.size)) := by
  have hz : ∀ g, Z g → ¬ g = p := fun g hg => (h.zp g hg).1
  have hb : Below W0.heap.size W0 w' := ⟨hf.os.trans h.b0.os, hf.tape.trans h.b0.tape, hf.output.trans h.b0.output, Nat.le_trans h.b0.size hf.size, fun k hk => (hf.block k (Nat.lt_of_lt_of_le hk h.b0.size) (by have := h.pn; omega)).trans (h.b0.block k hk)⟩
  have hp := h.st.lt
  refine ⟨hst, (h.ra.fr hf hz).mono (fun g hg => .inl hg), OwnG.rowR ho (fun _ => rfl) _ (fun g h1 h2 => .inr ⟨h1, h2⟩), (h.rv.fr hf hz).mono (fun g hg => .inl hg), hok, hb, fun x hx => ⟨(h.sl x hx).1.frA hf (fun b off e _ hQ => hz b ((h.sl x hx).2 b off e) hQ), fun g off e => .inl ((h.sl x hx).2 g off e)⟩, h.sm, h.n1, h.n8, h.nv, hl, h.vl, fun g hg => ?_, h.pn⟩
  rcases hg with hg | hg
  · have := h.zp g hg
    exact ⟨this.1, Nat.lt_of_lt_of_le this.2 hf.size⟩
  · omega
/-- Behind the new piece. -/
structure AdL (W0 w : World) (p : Nat) (nx : List Nat) (E : List ChQ) (V : List RyD) (Z : Nat → Prop) (x : ChQ) (D : List (Nat × Pc)) (wl : World) : Prop where
  rf : ∃ r' Z', RfS W0 wl p r' nx (E ++ [x]) V Z' ∧ ∀ g, Z' g → Z g ∨ w.heap.size ≤ g
  fr : Fr (fun g => g = p) w wl
  al : Alk (putD D x.t x.pc) ((E ++ [x]).map ChQ.kv)
  h0 : rholdN nx E V x = 0
  dn : ∀ y ∈ E ++ [x], y.st < nx.length
  nd : (V.map RyD.key).Nodup
  v1 : V.length < 128
  e1 : (E ++ [x]).length ≤ 128
set_option maxRecDepth 100000 in
set_option maxHeartbeats 8000000 in
/-- What is left: the loop over the pieces. -/
noncomputable def addK : PSigma fun G0 : Prop => Hid G0 → ∀ (W0 w : World) (p : Nat) (r : Rw) (nx : List Nat) (E : List ChQ) (V : List RyD) (Z : Nat → Prop) (x : ChQ) (D : List (Nat × Pc)) (Q : Ending → World → Prop), AdC W0 w p r nx E V Z x D →
    (∀ e w', RAdR W0 w p nx E V Z x e w' → Q e w') →
    Calls Try.prog 33 #[.pointer (some ⟨p, 0, none⟩), .agg x.vals.toArray] w Q := by
  apply PSigma.mk
  case snd =>
  intro h0 W0 w p r nx E Vs Z x D Q hc hQ
  obtain ⟨aA, aC, lA, lC, vA, vC⟩ := r
  obtain ⟨W1, hW1⟩ : ∃ W1, W1 = w.alloc (.cells #[.int .u8 (x.k : Nat), .int .u8 (x.f : Nat), .int .u32 (x.t : Nat), .int .u16 (x.st : Nat), .int .u16 (x.ss : Nat), .int .u32 (x.pp : Nat), .int .u32 (x.tg : Nat), .int .u32 (x.rm : Nat), .int .u16 (x.os : Nat), .int .u16 (x.is : Nat), .slice x.bA x.bN x.bC, .slice x.dA x.dN x.dC, .slice x.pA x.pN x.pC, .slice x.xA x.xN x.xC] 47) := ⟨_, rfl⟩
  have b1 : Below w.heap.size w W1 := by rw [hW1]; exact (Below.refl _ _).alloc (Nat.le_refl _) _
  have hs1 : Stc W1 w.heap.size x.vals := Stc.new w x.vals 47 W1 hW1
  have hr1 := hc.h.below b1
  have hxw := ChQ.wf_below hc.x hr1.b0
  have hxs := ChQ.sml hc.x
  obtain ⟨H, hH⟩ : ∃ H, H = rholdN nx E Vs x := ⟨_, rfl⟩
  obtain ⟨ek, hek⟩ : ∃ k, k = chkOf x.ck := ⟨_, rfl⟩
  obtain ⟨an, han⟩ : ∃ a, a = nx.length := ⟨_, rfl⟩
  have hpl := hc.h.st.lt
  have hH' := hH
  unfold rholdN at hH'
  rw [← hek, ← han] at hH'
  have HC := (show Hid _ from And.intro hc (And.intro hQ (And.intro b1 (And.intro hs1 (And.intro hr1 (And.intro hH (And.intro hek han)))))))
  have HCK : Hid (Calls Try.prog 48 #[.agg #[.int .u8 (x.k : Nat), .int .u8 (x.f : Nat), .int .u32 (x.t : Nat), .int .u16 (x.st : Nat), .int .u16 (x.ss : Nat), .int .u32 (x.pp : Nat), .int .u32 (x.tg : Nat), .int .u32 (x.rm : Nat), .int .u16 (x.os : Nat), .int .u16 (x.is : Nat), .slice x.bA x.bN x.bC, .slice x.dA x.dN x.dC, .slice x.pA x.pN x.pC, .slice x.xA x.xN x.xC]] W1 fun e w' => e = .returned (.int .i64 ek) ∧ Below W1.heap.size W1 w') := by
    rw [hek]
    exact r12check_any hxw _ rfl
  have s0 := hs1.cell 0 _ rfl
  have s1 := hs1.cell 1 _ rfl
  have s2 := hs1.cell 2 _ rfl
  have s3 := hs1.cell 3 _ rfl
  have s4 := hs1.cell 4 _ rfl
  have s5 := hs1.cell 5 _ rfl
  have s6 := hs1.cell 6 _ rfl
  have s7 := hs1.cell 7 _ rfl
  have s8 := hs1.cell 8 _ rfl
  have s9 := hs1.cell 9 _ rfl
  have s10 := hs1.cell 10 _ rfl
  have s11 := hs1.cell 11 _ rfl
  have s12 := hs1.cell 12 _ rfl
  have s13 := hs1.cell 13 _ rfl
  clear hc hQ b1 hr1 hxw hH hek han
  show Calls _ _ #[.pointer (some ⟨p, 0, none⟩), .agg #[.int .u8 (x.k : Nat), .int .u8 (x.f : Nat), .int .u32 (x.t : Nat), .int .u16 (x.st : Nat), .int .u16 (x.ss : Nat), .int .u32 (x.pp : Nat), .int .u32 (x.tg : Nat), .int .u32 (x.rm : Nat), .int .u16 (x.os : Nat), .int .u16 (x.is : Nat), .slice x.bA x.bN x.bC, .slice x.dA x.dN x.dC, .slice x.pA x.pN x.pC, .slice x.xA x.xN x.xC]] w Q
  go_enter Try.func33, Try.ntmps33
  go_wp2_with fail
  rw [← hW1]
  refine HCK.out.mono ?_
  clear HCK
  rintro e V1 ⟨rfl, hb1⟩
  have HB1 : Hid (Below w.heap.size w V1 ∧ Below W1.heap.size W1 V1) := ⟨HC.out.2.2.1.trans (hb1.mono HC.out.2.2.1.size), hb1⟩
  have hs2 := hs1.below hb1
  clear hb1 s0 s1 s2 s3 s4 s5 s6 s7 s8 s9 s10 s11 s12 s13 hs1 hW1
  by_cases he : ek = 0
  · subst he
    rw [if_neg (by decide)] at hH'
    have t0 := hs2.cell 0 _ rfl
    have t2 := hs2.cell 2 _ rfl
    have t3 := hs2.cell 3 _ rfl
    by_cases hk : x.k = 0
    · rw [if_neg (by omega)] at hH'
      have hk0 : (x.k : Int) = 0 := by omega
      have q0 : V1.cell? ⟨p, 0, none⟩ = some (.slice aA an aC) := by rw [HC.out.2.2.2.2.2.2.2]; exact (HC.out.1.h.below HB1.out.1).st.cell 0 _ rfl
      by_cases hst : an ≤ x.st
      · rw [if_pos hst] at hH'
        have hg1 : (x.st : Int) ≥ (an : Int) := by omega
        have hg2 : ((x.st : Int) ≥ (an : Int)) = True := by simp; omega
        clear h0
        go_wp2_with fail
        go_quiet (fail)
        go_wp2
        refine HC.out.2.1 _ _ (.bad ?_ ?_ ?_)
        · rw [← HC.out.2.2.2.2.2.1, hH']; decide
        · rw [← HC.out.2.2.2.2.2.1, hH']; rfl
        · exact HB1.out.1.trans ((drewN_below _ _).mono HB1.out.1.size)
      · rw [if_neg hst] at hH'
        have hg1 : ¬ (x.st : Int) ≥ (an : Int) := by omega
        have hg3 : (x.st : Int) < (an : Int) := by omega
        go_wp2_with fail
        go_quiet (fail)
        clear hk0 hg1 hg3 q0 t0 t2 t3
        obtain ⟨Va, hVa⟩ : ∃ Va, Va = V1.drewN nq := ⟨_, rfl⟩
        have hba : Below V1.heap.size V1 Va := by rw [hVa]; exact drewN_below _ _
        rw [← hVa]
        clear hVa
        have HBa : Hid (Below w.heap.size w Va ∧ Below W1.heap.size W1 Va) := ⟨HB1.out.1.trans (hba.mono HB1.out.1.size), HB1.out.2.trans (hba.mono HB1.out.2.size)⟩
        have hs3 := hs2.below hba
        have t2 := hs3.cell 2 _ rfl
        clear hs2 hba HB1
        have HHE : Hid (Calls Try.prog 49 #[.pointer (some ⟨p, 0, none⟩), .int .u32 (x.t : Nat)] Va fun e w' => e = .returned (heldV E x.t) ∧ Below Va.heap.size Va w') := rheld_any (HC.out.1.h.below HBa.out.1) x.t hxs.2.2.1
        go_wp2_with fail
        refine HHE.out.mono ?_
        clear HHE
        rintro e V2 ⟨hev, hb2⟩
        have HBb : Hid (Below w.heap.size w V2 ∧ Below Va.heap.size Va V2) := ⟨HBa.out.1.trans (hb2.mono HBa.out.1.size), hb2⟩
        clear hb2 t2
        cases hfq : findQ E x.t with
        | some y =>
          obtain rfl : e = .returned (.tuple #[.agg #[.int .u8 (y.k : Nat), .int .u8 (y.f : Nat), .int .u32 (y.t : Nat), .int .u16 (y.st : Nat), .int .u16 (y.ss : Nat), .int .u32 (y.pp : Nat), .int .u32 (y.tg : Nat), .int .u32 (y.rm : Nat), .int .u16 (y.os : Nat), .int .u16 (y.is : Nat), .slice y.bA y.bN y.bC, .slice y.dA y.dN y.dC, .slice y.pA y.pN y.pC, .slice y.xA y.xN y.xC], .bool true]) := by rw [hev]; unfold heldV; rw [hfq]; rfl
          rw [if_pos (by rw [hfq]; rfl)] at hH'
          clear hev hfq h0
          go_wp2
          refine HC.out.2.1 _ _ (.bad ?_ ?_ ?_)
          · rw [← HC.out.2.2.2.2.2.1, hH']; decide
          · rw [← HC.out.2.2.2.2.2.1, hH']; rfl
          · exact HBb.out.1.trans (((Below.refl _ _).alloc (Nat.le_refl _) _).mono HBb.out.1.size)
        | none =>
          obtain rfl : e = .returned (.tuple #[.agg #[.int .u8 0, .int .u8 0, .int .u32 0, .int .u16 0, .int .u16 0, .int .u32 0, .int .u32 0, .int .u32 0, .int .u16 0, .int .u16 0, .slice none 0 0, .slice none 0 0, .slice none 0 0, .slice none 0 0], .bool false]) := by rw [hev]; unfold heldV; rw [hfq]; rfl
          rw [if_neg (by rw [hfq]; decide)] at hH'
          have HFQ := (show Hid _ from hfq)
          clear hev hfq
          have HHD : Hid (Calls Try.prog 36 #[.pointer (some ⟨p, 0, none⟩)] (V2.alloc (.cells #[.int .u8 0, .int .u8 0, .int .u32 0, .int .u16 0, .int .u16 0, .int .u32 0, .int .u32 0, .int .u32 0, .int .u16 0, .int .u16 0, .slice none 0 0, .slice none 0 0, .slice none 0 0, .slice none 0 0] 47)) fun e w' => e = .returned (.tuple #[.int .i64 (heldN13 E Vs : Nat), .int .i64 (heldB13 E Vs : Nat)]) ∧ Below (V2.alloc (.cells #[.int .u8 0, .int .u8 0, .int .u32 0, .int .u16 0, .int .u16 0, .int .u32 0, .int .u32 0, .int .u32 0, .int .u16 0, .int .u16 0, .slice none 0 0, .slice none 0 0, .slice none 0 0, .slice none 0 0] 47)).heap.size (V2.alloc (.cells #[.int .u8 0, .int .u8 0, .int .u32 0, .int .u16 0, .int .u16 0, .int .u32 0, .int .u32 0, .int .u32 0, .int .u16 0, .int .u16 0, .slice none 0 0, .slice none 0 0, .slice none 0 0, .slice none 0 0] 47)) w') :=
            rHeld_any ((HC.out.1.h.below HBb.out.1).below ((Below.refl _ _).alloc (Nat.le_refl _) _))
          obtain ⟨hn, hhn⟩ : ∃ n, n = heldN13 E Vs := ⟨_, rfl⟩
          obtain ⟨hbn, hhb⟩ : ∃ n, n = heldB13 E Vs := ⟨_, rfl⟩
          rw [← hhn, ← hhb] at HHD
          rw [← hhn] at hH'
          have HHN := (show Hid _ from hhn)
          clear hhn hhb
          go_wp2_with fail
          refine HHD.out.mono ?_
          clear HHD
          rintro e V3 ⟨rfl, hb3⟩
          have HBc : Hid (Below w.heap.size w V3 ∧ Below Va.heap.size Va V3) := by
            have b := ((Below.refl V2.heap.size V2).alloc (Nat.le_refl _) (.cells #[.int .u8 0, .int .u8 0, .int .u32 0, .int .u16 0, .int .u16 0, .int .u32 0, .int .u32 0, .int .u32 0, .int .u16 0, .int .u16 0, .slice none 0 0, .slice none 0 0, .slice none 0 0, .slice none 0 0] 47)).trans (hb3.mono (by simp))
            exact ⟨HBb.out.1.trans (b.mono HBb.out.1.size), HBb.out.2.trans (b.mono HBb.out.2.size)⟩
          have hs4 := hs3.below HBc.out.2
          clear hb3 hs3 HBb HBa
          by_cases h128 : 128 ≤ hn
          · rw [if_pos h128] at hH'
            have hg1 : (hn : Int) ≥ 128 := by omega
            clear h0
            go_wp2
            refine HC.out.2.1 _ _ (.bad ?_ ?_ HBc.out.1)
            · rw [← HC.out.2.2.2.2.2.1, hH']; decide
            · rw [← HC.out.2.2.2.2.2.1, hH']; rfl
          · rw [if_neg h128] at hH'
            have hg1 : ¬ (hn : Int) ≥ 128 := by omega
            have hg2 : decide ((128 : Int) ≤ (hn : Int)) = false := decide_eq_false (by omega)
            have hr3 := HC.out.1.h.below HBc.out.1
            obtain ⟨n, hnn⟩ : ∃ n, n = E.length := ⟨_, rfl⟩
            have hn128 : n < 128 := by have := HC.out.1.ev; have := HHN.out; omega
            have hst3 : Stc V3 p [.slice aA nx.length aC, .slice lA n lC, .slice vA Vs.length vC] := by rw [hnn]; exact hr3.st
            have HKC : Hid (∀ W, Below V3.drew.heap.size V3.drew W → W.cell? ⟨p, 1, none⟩ = some (.slice lA n lC) ∧ Stc W w.heap.size [.int .u8 (x.k : Nat), .int .u8 (x.f : Nat), .int .u32 (x.t : Nat), .int .u16 (x.st : Nat), .int .u16 (x.ss : Nat), .int .u32 (x.pp : Nat), .int .u32 (x.tg : Nat), .int .u32 (x.rm : Nat), .int .u16 (x.os : Nat), .int .u16 (x.is : Nat), .slice x.bA x.bN x.bC, .slice x.dA x.dN x.dC, .slice x.pA x.pN x.pC, .slice x.xA x.xN x.xC]) := by
              intro W hW
              have hW2 : Below V3.heap.size V3 W := (Below.refl _ _).drew.trans hW
              exact ⟨(hst3.below hW2).cell 1 _ rfl, hs4.below hW2⟩
            have HRL : Hid (RowR 14 ChQ.vals V3 Z lA n lC E) := by rw [hnn]; exact hr3.rl
            have hstd : Stc V3.drew p [.slice aA nx.length aC, .slice lA n lC, .slice vA Vs.length vC] := hst3.below (Below.refl _ _).drew
            have HAT : Hid (∀ W, Below V3.drew.heap.size V3.drew W → (lA = none ∧ n = 0) ∨ (0 < n ∧ ∃ b off, lA = some ⟨b, off, none⟩ ∧ ∀ j y, E[j]? = some y → ∀ i u, y.vals[i]? = some u → W.cell? ⟨b, off + j * 14 + i, none⟩ = some u) ∨ (n = 0 ∧ ∃ p, lA = some p)) := by
              intro W hW
              have hW2 : Below V3.heap.size V3 W := (Below.refl _ _).drew.trans hW
              rcases HRL.out.at_ with h1 | ⟨g, h1, h2, _, h4⟩
              · cases lA with
                | none => exact .inl ⟨rfl, h1⟩
                | some q => exact .inr (.inr ⟨h1, q, rfl⟩)
              · rcases Nat.eq_zero_or_pos n with h0 | h0
                · exact .inr (.inr ⟨h0, _, h1⟩)
                · refine .inr (.inl ⟨h0, g, 0, h1, fun j y hy i u hu => ?_⟩)
                  rw [Nat.zero_add]
                  exact (hW2.cell (p := ⟨g, j * 14 + i, none⟩) h2).trans (h4 j y hy i u hu)
            have hEl : E.length = n := hnn.symm
            clear hst3 hr3 hnn
            go_wp2_with fail
            refine wp_region_parW mixedX (fun θ : Nat × (Option Addr × Nat) × Nat × (Option Addr × Nat) => [(47, .pointer (some ⟨p, 0, none⟩)), (48, .slice (some ⟨θ.1, 0, none⟩) 0 0), (49, .pointer (some ⟨p, 0, none⟩)), (50, .pointer (some ⟨p, 0, none⟩)), (51, .pointer (some ⟨p, 1, none⟩)), (52, .slice lA n lC), (53, .slice θ.2.1.1 n θ.2.1.2), (54, .agg #[.int .u8 (x.k : Nat), .int .u8 (x.f : Nat), .int .u32 (x.t : Nat), .int .u16 (x.st : Nat), .int .u16 (x.ss : Nat), .int .u32 (x.pp : Nat), .int .u32 (x.tg : Nat), .int .u32 (x.rm : Nat), .int .u16 (x.os : Nat), .int .u16 (x.is : Nat), .slice x.bA x.bN x.bC, .slice x.dA x.dN x.dC, .slice x.pA x.pN x.pC, .slice x.xA x.xN x.xC]), (55, .slice (some ⟨θ.2.2.1, 0, none⟩) 1 1), (56, .slice θ.2.2.2.1 (n + 1) θ.2.2.2.2), (57, .pointer (some ⟨p, 0, none⟩)), (58, .pointer (some ⟨p, 1, none⟩))]) (fun θ l W => RgE V3.drew p (.slice aA nx.length aC) (.slice vA Vs.length vC) n E x θ l W) (0, (none, 0), 0, (none, 0)) ?Z1 ?hZ1 (by kernel_rfl) (by kernel_rfl) (fun θ => by kernel_rfl) (by kernel_rfl) ?h01 ?hops1 ?he1
            case hZ1 => intro θ; simp only [List.foldl_cons, List.foldl_nil, List.setIfInBounds_toArray, List.set_cons_zero, List.set_cons_succ]; rfl
            case h01 => exact RgE.start (Below.refl _ _)
            case hops1 =>
              refine ⟨?_, ?_, ?_, ?_, ?_, ?_, ?_, ?_, ?_, ?_, ?_, ?_, ?_, trivial⟩
              · exact par_val (fun θ => by rfl) (fun θ l W hg => hg.other 0 (by decide) (by decide) (by decide) (by decide) (by decide)) (fun θ l W hl hc hd hg => by go_simp; (try with_reducible rfl); (try omega))
              · exact par_run (fun θ => by rfl) (fun θ l W hl hc hd hg => by
                  have h6 : l 6 = false := (by cases h6 : l 6 with | false => rfl | true => exact absurd (hc 6 1 (by kernel_rfl) h6) (by rw [hl]; decide))
                  have h9 : l 9 = false := (by cases h9 : l 9 with | false => rfl | true => exact absurd (hc 9 1 (by kernel_rfl) h9) (by rw [hl]; decide))
                  have h12 : l 12 = false := (by cases h12 : l 12 with | false => rfl | true => exact absurd (hc 12 1 (by kernel_rfl) h12) (by rw [hl]; decide))
                  exact ⟨_, _, run_bslC W rfl, next_set (by kernel_rfl) ((W.heap.size, θ.2) : Nat × (Option Addr × Nat) × Nat × (Option Addr × Nat)) [(48, .slice (some ⟨W.heap.size, 0, none⟩) 0 0, 1)] (by simp only [List.foldl_cons, List.foldl_nil, List.setIfInBounds_toArray, List.set_cons_zero, List.set_cons_succ]) (by kernel_rfl) (fun y hy => by simp at hy; subst hy; exact hl) (fun d hd => by cases hd; rfl) (hg.one h6 h9 h12)⟩)
              · exact par_val (fun θ => by rfl) (fun θ l W hg => hg.other 2 (by decide) (by decide) (by decide) (by decide) (by decide)) (fun θ l W hl hc hd hg => by go_simp; (try with_reducible rfl); (try omega))
              · exact par_val (fun θ => by rfl) (fun θ l W hg => hg.other 3 (by decide) (by decide) (by decide) (by decide) (by decide)) (fun θ l W hl hc hd hg => by go_simp; (try with_reducible rfl); (try omega))
              · exact par_val (fun θ => by rfl) (fun θ l W hg => hg.other 4 (by decide) (by decide) (by decide) (by decide) (by decide)) (fun θ l W hl hc hd hg => by go_simp; (try with_reducible rfl); (try omega))
              · exact par_val (fun θ => by rfl) (fun θ l W hg => hg.other 5 (by decide) (by decide) (by decide) (by decide) (by decide)) (fun θ l W hl hc hd hg => by have h12 : l 12 = false := (by cases h12 : l 12 with | false => rfl | true => exact absurd (hc 12 5 (by kernel_rfl) h12) (by rw [hl]; decide)); obtain ⟨d0, d1⟩ := HKC.out W (hg.bel h12); go_simp; (try with_reducible rfl); (try omega))
              · exact par_run (fun θ => by rfl) (fun θ l W hl hc hd hg => by
                  have h9 : l 9 = false := (by cases h9 : l 9 with | false => rfl | true => exact absurd (hc 9 6 (by kernel_rfl) h9) (by rw [hl]; decide))
                  have h12 : l 12 = false := (by cases h12 : l 12 with | false => rfl | true => exact absurd (hc 12 6 (by kernel_rfl) h12) (by rw [hl]; decide))
                  have h1 : l 1 = true := hd 1 (by kernel_rfl)
                  obtain ⟨a', c', W2, hr, ho, hgr, hn2⟩ := app_rowQ (hg.a1 h1 hl) 22 hEl (HAT.out W (hg.bel h12)) (by omega) (hg.bel h12).size (sc := lC)
                  exact ⟨_, W2, run_appX rfl rfl (by rfl) (by rfl) hr, next_set (by kernel_rfl) ((θ.1, (a', c'), θ.2.2) : Nat × (Option Addr × Nat) × Nat × (Option Addr × Nat)) [(53, .slice a' n c', 6)] (by simp only [List.foldl_cons, List.foldl_nil, List.setIfInBounds_toArray, List.set_cons_zero, List.set_cons_succ]) (by kernel_rfl) (fun y hy => by simp at hy; subst hy; exact hl) (fun d hd => by cases hd; rfl) (hg.six h1 hl h9 h12 ho hgr hn2)⟩)
              · exact par_val (fun θ => by rfl) (fun θ l W hg => hg.other 7 (by decide) (by decide) (by decide) (by decide) (by decide)) (fun θ l W hl hc hd hg => by have h12 : l 12 = false := (by cases h12 : l 12 with | false => rfl | true => exact absurd (hc 12 7 (by kernel_rfl) h12) (by rw [hl]; decide)); obtain ⟨d0, d1⟩ := HKC.out W (hg.bel h12); have q0 := d1.cell 0 _ rfl; have q1 := d1.cell 1 _ rfl; have q2 := d1.cell 2 _ rfl; have q3 := d1.cell 3 _ rfl; have q4 := d1.cell 4 _ rfl; have q5 := d1.cell 5 _ rfl; have q6 := d1.cell 6 _ rfl; have q7 := d1.cell 7 _ rfl; have q8 := d1.cell 8 _ rfl; have q9 := d1.cell 9 _ rfl; have q10 := d1.cell 10 _ rfl; have q11 := d1.cell 11 _ rfl; have q12 := d1.cell 12 _ rfl; have q13 := d1.cell 13 _ rfl; go_simp; (try with_reducible rfl); (try omega))
              · exact par_run (fun θ => by rfl) (fun θ l W hl hc hd hg => by
                  have h9 : l 9 = false := (by cases h9 : l 9 with | false => rfl | true => exact absurd (hc 9 8 (by kernel_rfl) h9) (by rw [hl]; decide))
                  have h12 : l 12 = false := (by cases h12 : l 12 with | false => rfl | true => exact absurd (hc 12 8 (by kernel_rfl) h12) (by rw [hl]; decide))
                  exact ⟨_, _, run_bslO W x rfl (by rfl), next_set (by kernel_rfl) ((θ.1, θ.2.1, W.heap.size, θ.2.2.2) : Nat × (Option Addr × Nat) × Nat × (Option Addr × Nat)) [(55, .slice (some ⟨W.heap.size, 0, none⟩) 1 1, 8)] (by simp only [List.foldl_cons, List.foldl_nil, List.setIfInBounds_toArray, List.set_cons_zero, List.set_cons_succ]) (by kernel_rfl) (fun y hy => by simp at hy; subst hy; exact hl) (fun d hd => by cases hd; rfl) (hg.eight h9 h12)⟩)
              · exact par_run (fun θ => by rfl) (fun θ l W hl hc hd hg => by
                  have h12 : l 12 = false := (by cases h12 : l 12 with | false => rfl | true => exact absurd (hc 12 9 (by kernel_rfl) h12) (by rw [hl]; decide))
                  have h6 : l 6 = true := hd 6 (by kernel_rfl)
                  have h8 : l 8 = true := hd 8 (by kernel_rfl)
                  obtain ⟨g9, c9, W2, hr, ho, hgr, _, _⟩ := OwnG.app layCq (hg.a6 h6 hl) 22 x ⟨θ.2.2.1, 0, none⟩ (st_add (hg.a8 h8 hl).1) (by unfold maxLen; omega) (by omega) (hg.bel h12).size
                  exact ⟨_, W2, run_appX rfl rfl (by rfl) (by rfl) hr, next_set (by kernel_rfl) ((θ.1, θ.2.1, θ.2.2.1, (some ⟨g9, 0, none⟩, c9)) : Nat × (Option Addr × Nat) × Nat × (Option Addr × Nat)) [(56, .slice (some ⟨g9, 0, none⟩) (n + 1) c9, 9)] (by simp only [List.foldl_cons, List.foldl_nil, List.setIfInBounds_toArray, List.set_cons_zero, List.set_cons_succ]) (by kernel_rfl) (fun y hy => by simp at hy; subst hy; exact hl) (fun d hd => by cases hd; rfl) (hg.nine h6 hl h12 ho hgr)⟩)
              · exact par_val (fun θ => by rfl) (fun θ l W hg => hg.other 10 (by decide) (by decide) (by decide) (by decide) (by decide)) (fun θ l W hl hc hd hg => by go_simp; (try with_reducible rfl); (try omega))
              · exact par_val (fun θ => by rfl) (fun θ l W hg => hg.other 11 (by decide) (by decide) (by decide) (by decide) (by decide)) (fun θ l W hl hc hd hg => by go_simp; (try with_reducible rfl); (try omega))
              · exact par_skip (fun θ => by rfl) (fun θ l W hl hc hd hg => by
                  have h6 : l 6 = true := hd 6 (by kernel_rfl)
                  have h9 : l 9 = true := hd 9 (by kernel_rfl)
                  have hsw := hstd.below (hg.bel hl)
                  have e0 := hsw.cell 1 _ rfl
                  have e1 := hsw.free 1
                  exact ⟨W.setCell ⟨p, 1, none⟩ (.slice θ.2.2.2.1 (n + 1) θ.2.2.2.2), (by go_simp; try rfl), ⟨θ, fun _ _ _ _ _ _ => rfl, fun d hd => (by cases hd), hg.store h6 h9 hl hstd⟩⟩)
            case he1 =>
            intro θ l W hall hg
            have hst := hg.st (hall 12 (by decide))
            have ho := hg.a9 (hall 9 (by decide))
            clear hall hg
            obtain ⟨e1, ⟨a6, c6⟩, e8, ⟨a9, c9⟩⟩ := θ
            dsimp only at hst ho
            have HAD : Hid (AdL W0 w p nx E Vs Z x D W) := by
              have hc := HC.out.1
              have hr3 := hc.h.below HBc.out.1
              have hfd : Fr (fun g => g = p) V3 W := (Fr.of_below (Below.refl _ _).drew).trans hst.2
              have hl1 : (E ++ [x]).length = n + 1 := by rw [List.length_append, hEl]; rfl
              have hcd := chkOf_data (c := x.ck) HC.out.2.2.2.2.2.2.1.symm hk
              have hR := hr3.putE (E' := E ++ [x]) hfd (by rw [hl1]; exact hst.1) (by rw [hl1]; exact OwnG.base ho (by simp)) (fun y hy => by
                rcases List.mem_append.1 hy with hy | hy
                · exact hc.h.ok y hy
                · obtain rfl : y = x := by simpa using hy
                  exact ⟨hc.x, hcd.1, hcd.2⟩) (by rw [hl1]; omega)
              have hwV := HBc.out.1.size
              refine ⟨⟨_, _, hR, fun g hg => hg.elim .inl (fun h => .inr (by omega))⟩, (Fr.of_below HBc.out.1).trans hfd, ?_, by rw [← HC.out.2.2.2.2.2.1, hH'], fun y hy => ?_, hc.nd, by have := hc.ev; have := HHN.out; omega, by rw [hl1]; omega⟩
              · rw [List.map_append]
                refine hc.al.put ?_ rfl
                have e := hc.al.some_iff x.t
                rw [findQ_kv, HFQ.out] at e
                cases e2 : lookD D x.t with
                | none => rfl
                | some z => rw [e2] at e; cases e
              · rcases List.mem_append.1 hy with hy | hy
                · exact hc.dn y hy
                · obtain rfl : y = x := by simpa using hy
                  have := HC.out.2.2.2.2.2.2.2
                  omega
            have HQ := (show Hid _ from HC.out.2.1)
            have hwW := HAD.out.fr.size
            clear hst ho HAT HRL HKC hstd HBc hs4 HHN HFQ HC hH' hg1 hg2 hk
            go_wp2_with fail
            (repeat revert ‹_›); intro h0; exact h0.out
    · rw [if_pos (by omega)] at hH'
      have hk0 : ¬ (x.k : Int) = 0 := by omega
      clear h0
      go_wp2
      refine HC.out.2.1 _ _ (.bad ?_ ?_ HB1.out.1)
      · rw [← HC.out.2.2.2.2.2.1, hH']; decide
      · rw [← HC.out.2.2.2.2.2.1, hH']; rfl
  · rw [if_pos he] at hH'
    have hg : (ek == 0) = false := by simpa using he
    have hg2 : (ek != 0) = true := by simpa using he
    clear h0
    go_wp2
    refine HC.out.2.1 _ _ (.bad ?_ ?_ HB1.out.1)
    · rw [← HC.out.2.2.2.2.2.1, hH']; exact he
    · rw [← HC.out.2.2.2.2.2.1, hH']; rfl
end Go.Proofs.Ytjaheelgcjafcaa
