/- streams: what Add answers, and what becomes of them. -/
import Derived.Test.YtjaheelgcjafcaaSfO
import Derived.Test.YtjaheelgcjafcaaSfP
import Derived.Test.YtjaheelgcjafcaaSfQ
namespace Go.Proofs.Ytjaheelgcjafcaa
open Go.RowKit Go.MapKept Go.Maps
theorem SmW.putD {w : World} {p nb mb wb : Nat} {wr : Nat → Option Addr × Nat} {Y : Nat → Prop} {s : SmS} (h : SmW w p nb mb wb wr Y s) (t : Nat) (ht : IpK t) {x : Pc} (hx : PcW Y w x) (hl : s.heldN + 1 ≤ 128) (hdn : x.st < s.nx.length) :
    ∃ w', (Instr.mapUpdate 73 (.map (some mb)) (.int .u32 (t : Nat)) x.val).run Try.prog w = .ok () w' ∧ SmW w' p nb mb wb wr Y ⟨s.nx, putD s.D t x, s.W⟩ ∧ Fr (fun k => k = mb) w w' := by
  obtain ⟨w6, hr6, hm6, hf6, _⟩ := h.mp.upd (P := Try.prog) ipKE Try.underlying73 (q := t) ht x.val
  have hyq : ∀ g, g < w.heap.size → g = mb → ¬ Y g := fun g _ e hy => (h.yx g hy).2.2.1 e
  refine ⟨w6, hr6, h.setD hf6 (Mp.put (f := fun _ => Pc.val) (f' := fun _ => Pc.val) hm6 ipKE.inj h.sd (fun y hy => (h.ds y hy).1) ht rfl (fun _ _ _ => rfl)) (fun y hy => ?_) (h.sd.put t x) ?_ (fun y hy => ?_), hf6⟩
  · rcases putD_mem hy with e | e
    · rw [e]; exact ⟨ht, hx.fr hf6 hyq⟩
    · exact ⟨(h.ds y e).1, (h.ds y e).2.fr hf6 hyq⟩
  · have h1 := len_put s.D t x h.sd
    unfold SmS.heldN at hl
    split at h1 <;> omega
  · rcases putD_mem hy with e | e
    · rw [e]; exact hdn
    · exact h.dn y e
/-- The region of Add: pieceOf (7), and its answer laid into the map (8). -/
structure AdG (W0 : World) (p nb mb wb : Nat) (wr : Nat → Option Addr × Nat) (Y : Nat → Prop) (s : SmS) (t f st ss pp n : Nat) (zs : List Nat) (θ : Option Addr × Nat) (l : Nat → Bool) (V : World) : Prop where
  s0 : l 7 = false → V = W0
  s1 : l 7 = true → l 8 = false → Below W0.heap.size W0 V ∧ OwnB V W0.heap.size θ.1 n θ.2 zs
  s2 : l 8 = true → SmW V p nb mb wb wr (fun g => Y g ∨ (Value.slice θ.1 n θ.2).ownBlock = some g ∧ W0.heap.size ≤ g ∧ g < V.heap.size) ⟨s.nx, putD s.D t ⟨f, st, ss, pp, θ.1, n, θ.2, zs⟩, s.W⟩ ∧ Fr (fun k => k = mb) W0 V
section
variable {W0 : World} {p nb mb wb : Nat} {wr : Nat → Option Addr × Nat} {Y : Nat → Prop} {s : SmS} {t f st ss pp n : Nat} {zs : List Nat} {θ : Option Addr × Nat} {l : Nat → Bool} {V : World}
theorem AdG.start : AdG W0 p nb mb wb wr Y s t f st ss pp n zs θ (fun _ => false) W0 := ⟨fun _ => rfl, fun e => (by cases e), fun e => (by cases e)⟩
theorem AdG.other (h : AdG W0 p nb mb wb wr Y s t f st ss pp n zs θ l V) (i : Nat) (h1 : 7 ≠ i) (h2 : 8 ≠ i) : AdG W0 p nb mb wb wr Y s t f st ss pp n zs θ (updL l i) V :=
  ⟨by rw [updL_neC h1]; exact h.s0, by rw [updL_neC h1, updL_neC h2]; exact h.s1, by rw [updL_neC h2]; exact h.s2⟩
theorem AdG.call {a : Option Addr} {c : Nat} (h8 : l 8 = false) (hb : Below W0.heap.size W0 V) (ho : OwnB V W0.heap.size a n c zs) : AdG W0 p nb mb wb wr Y s t f st ss pp n zs (a, c) (updL l 7) V :=
  ⟨fun e => (by rw [updL_eqC] at e; cases e), fun _ _ => ⟨hb, ho⟩, fun e => (by rw [updL_neC (by decide), h8] at e; cases e)⟩
theorem AdG.bel (h : AdG W0 p nb mb wb wr Y s t f st ss pp n zs θ l V) (h8 : l 8 = false) : Below W0.heap.size W0 V := by
  cases h7 : l 7 with
  | false => rw [h.s0 h7]; exact Below.refl _ _
  | true => exact (h.s1 h7 h8).1
structure AdOk (W0 : World) (p nb mb wb : Nat) (wr : Nat → Option Addr × Nat) (Y : Nat → Prop) (s : SmS) (t f st ss pp n : Nat) : Prop where
  sm : SmW W0 p nb mb wb wr Y s
  t : IpK t
  ok : f < 256 ∧ st < 8 ∧ ss < 65536 ∧ pp < 4294967296 ∧ n ≤ 1452
  hl : s.heldN + 1 ≤ 128
  dn : st < s.nx.length
theorem AdG.put (h : AdG W0 p nb mb wb wr Y s t f st ss pp n zs θ l V) (h7 : l 7 = true) (h8 : l 8 = false) (H : AdOk W0 p nb mb wb wr Y s t f st ss pp n) : ∃ V2, (Instr.mapUpdate 73 (.map (some mb)) (.int .u32 (t : Nat)) (.agg #[.int .u8 (f : Nat), .int .u16 (st : Nat), .int .u16 (ss : Nat), .int .u32 (pp : Nat), .slice θ.1 n θ.2])).run Try.prog V = .ok () V2 ∧ AdG W0 p nb mb wb wr Y s t f st ss pp n zs θ (updL l 8) V2 := by
  obtain ⟨hb, ho⟩ := h.s1 h7 h8
  have hsm := H.sm.below hb
  obtain ⟨o1, o2, o3, o4, o5⟩ := H.ok
  have hsm' : SmW V p nb mb wb wr (fun g => Y g ∨ (Value.slice θ.1 n θ.2).ownBlock = some g ∧ W0.heap.size ≤ g ∧ g < V.heap.size) s := by
    refine hsm.mono (fun g hg => .inl hg) (fun g hg => ?_) (fun g hg => ?_)
    · rcases hg with hg | ⟨_, h1, _⟩
      · exact hsm.yx g hg
      · have := H.sm.st.lt
        have := H.sm.nl
        have := H.sm.mp.lt
        have := H.sm.wm.lt
        exact ⟨by omega, by omega, by omega, by omega⟩
    · rcases hg with hg | ⟨_, _, h1⟩
      · exact hsm.yl g hg
      · exact h1
  have hx : PcW (fun g => Y g ∨ (Value.slice θ.1 n θ.2).ownBlock = some g ∧ W0.heap.size ≤ g ∧ g < V.heap.size) V ⟨f, st, ss, pp, θ.1, n, θ.2, zs⟩ := by
    refine ⟨⟨o1, o2, o3, o4, o5⟩, ho.sl (by omega), fun g off e => .inr ?_⟩
    dsimp only at e
    have hob : (Value.slice θ.1 n θ.2).ownBlock = some g := by
      rcases ho.own.2 with ⟨hv, h0⟩ | ⟨g1, cap, cur, hv, _⟩
      · injection hv with e1; rw [e1] at e; cases e
      · injection hv with e1
        rw [e1] at e ⊢
        injection e with e
        injection e with e
        subst e
        rfl
    exact ⟨hob, ho.own.lt g hob⟩
  obtain ⟨V2, hr, hsm2, hf2⟩ := hsm'.putD t H.t hx H.hl H.dn
  have hsz : V.heap.size ≤ V2.heap.size := hf2.size
  refine ⟨V2, hr, ⟨fun e => (by rw [updL_neC (by decide), h7] at e; cases e), fun _ e => (by rw [updL_eqC] at e; cases e), fun _ => ⟨hsm2.mono (fun g hg => ?_) (fun g hg => ?_) (fun g hg => ?_), (Fr.of_below hb).trans hf2⟩⟩⟩
  · rcases hg with hg | ⟨h1, h2, h3⟩
    · exact .inl hg
    · exact .inr ⟨h1, h2, Nat.lt_of_lt_of_le h3 hsz⟩
  · rcases hg with hg | ⟨_, h1, _⟩
    · exact hsm.yx g hg
    · have := H.sm.st.lt
      have := H.sm.nl
      have := H.sm.mp.lt
      have := H.sm.wm.lt
      exact ⟨by omega, by omega, by omega, by omega⟩
  · rcases hg with hg | ⟨_, _, h1⟩
    · exact Nat.lt_of_lt_of_le (hsm.yl g hg) hsz
    · exact h1
end
/-- What Add answers. -/
inductive AddR (w : World) (p nb mb wb : Nat) (Y : Nat → Prop) (s : SmS) (k f t st ss pp n : Nat) (zs : List Nat) (E : Int) (e : Ending) (w' : World) : Prop
  | bad : holdN s k t st E ≠ 0 → e = .returned (.tuple #[.slice none 0 0, .int .i64 (holdN s k t st E)]) → Below w.heap.size w w' → AddR w p nb mb wb Y s k f t st ss pp n zs E e w'
  | ok (da : Option Addr) (dc : Nat) (a : Option Addr) (m c B : Nat) (wr' : Nat → Option Addr × Nat) (Y' : Nat → Prop) : holdN s k t st E = 0 → e = .returned (.tuple #[.slice a m c, .int .i64 0]) → MsgsW w' B a m c (s.add t ⟨f, st, ss, pp, da, n, dc, zs⟩).2 → SmW w' p nb mb wb wr' Y' (s.add t ⟨f, st, ss, pp, da, n, dc, zs⟩).1 → Fr (fun g => g = nb ∨ g = mb ∨ g = wb) w w' → w.heap.size ≤ B → (∀ g, Y' g → (Y g ∨ w.heap.size ≤ g) ∧ g < B) → AddR w p nb mb wb Y s k f t st ss pp n zs E e w'
theorem holdN_ok {s : SmS} {k t st : Nat} {E : Int} (h : holdN s k t st E = 0) : E = 0 ∧ k = 0 ∧ st < s.nx.length ∧ (lookD s.D t).isSome = false ∧ s.heldN < 128 := by
  unfold holdN at h
  split at h
  · rename_i h1; exact absurd h h1
  · rename_i h1
    split at h
    · cases h
    · rename_i h2
      split at h
      · cases h
      · rename_i h3
        split at h
        · cases h
        · rename_i h4
          split at h
          · cases h
          · exact ⟨by omega, by omega, by omega, by simpa using h4, by omega⟩
set_option linter.unusedVariables false in
set_option maxRecDepth 100000 in
set_option maxHeartbeats 8000000 in
theorem sadd_any {w : World} {p nb mb wb : Nat} {wr0 : Nat → Option Addr × Nat} {Y : Nat → Prop} {s : SmS} (h : SmW w p nb mb wb wr0 Y s) (k f t st ss pp : Nat) (c6 c7 c8 c9 c10 c11 c12 : Value) (xa : Option Addr) (n xc : Nat) (zs : List Nat) (E : Int) (hkb : k < 256) (hfb : f < 256) (ht : t < 4294967296) (hstb : st < 65536) (hss : ss < 65536) (hpp : pp < 4294967296) (hsl : Sl w xa n xc zs) (hE : E = 0 → k = 0 → n ≤ 1452)
    (hck : ∀ W v, Below w.heap.size w W → v = .agg #[.int .u8 (k : Nat), .int .u8 (f : Nat), .int .u32 (t : Nat), .int .u16 (st : Nat), .int .u16 (ss : Nat), .int .u32 (pp : Nat), c6, c7, c8, c9, c10, c11, c12, .slice xa n xc] → Calls Try.prog 37 #[v] W fun e w' => e = .returned (.int .i64 E) ∧ Below W.heap.size W w') (v : Value) (hv : v = .agg #[.int .u8 (k : Nat), .int .u8 (f : Nat), .int .u32 (t : Nat), .int .u16 (st : Nat), .int .u16 (ss : Nat), .int .u32 (pp : Nat), c6, c7, c8, c9, c10, c11, c12, .slice xa n xc]) :
    Calls Try.prog 14 #[.pointer (some ⟨p, 0, none⟩), v] w (AddR w p nb mb wb Y s k f t st ss pp n zs E) := by
  subst hv
  obtain ⟨W1, hW1⟩ : ∃ W1, W1 = w.alloc (.cells #[.int .u8 (k : Nat), .int .u8 (f : Nat), .int .u32 (t : Nat), .int .u16 (st : Nat), .int .u16 (ss : Nat), .int .u32 (pp : Nat), c6, c7, c8, c9, c10, c11, c12, .slice xa n xc] 47) := ⟨_, rfl⟩
  have b1 : Below w.heap.size w W1 := by rw [hW1]; exact (Below.refl _ _).alloc (Nat.le_refl _) _
  have HHO := (show Hid _ from fun v hv => hold_any (h.below b1) k f t st ss pp c6 c7 c8 c9 c10 c11 c12 xa n xc E hkb ht hstb (fun W v hW hv => hck W v (b1.trans (hW.mono b1.size)) hv) v hv)
  have HH := (show Hid _ from And.intro h (And.intro hsl hE))
  have hpl := h.st.lt
  have HC : Hid (Below w.heap.size w W1 ∧ ∀ V, Below W1.heap.size W1 V → Stc V w.heap.size [.int .u8 (k : Nat), .int .u8 (f : Nat), .int .u32 (t : Nat), .int .u16 (st : Nat), .int .u16 (ss : Nat), .int .u32 (pp : Nat), c6, c7, c8, c9, c10, c11, c12, .slice xa n xc]) := ⟨b1, fun V hV => (Stc.new w [.int .u8 (k : Nat), .int .u8 (f : Nat), .int .u32 (t : Nat), .int .u16 (st : Nat), .int .u16 (ss : Nat), .int .u32 (pp : Nat), c6, c7, c8, c9, c10, c11, c12, .slice xa n xc] 47 W1 hW1).below hV⟩
  clear hck h b1 hsl hE
  go_enter Try.func14, Try.ntmps14
  go_wp2_with fail
  rw [← hW1]
  clear hW1
  refine (HHO.out _ (by rfl)).mono ?_
  clear HHO
  rintro e V1 ⟨rfl, hb1⟩
  have HV1 : Hid (Below w.heap.size w V1 ∧ Below W1.heap.size W1 V1 ∧ w.heap.size < V1.heap.size) := ⟨HC.out.1.trans (hb1.mono HC.out.1.size), hb1, Nat.lt_of_lt_of_le (HC.out.2 W1 (Below.refl _ _)).lt hb1.size⟩
  clear hb1
  obtain ⟨H, hH⟩ : ∃ H, H = holdN s k t st E := ⟨_, rfl⟩
  rw [← hH]
  have HHE := (show Hid _ from hH)
  clear hH
  by_cases hz : H = 0
  · subst hz
    obtain ⟨hE0, hk0, hst, hnl, hfull⟩ := holdN_ok HHE.out.symm
    have hnb := HH.out.2.2 hE0 hk0
    have hst8 : st < 8 := by have := HH.out.1.n8; omega
    have bd : Below w.heap.size w V1.drew := HV1.out.1.drew
    have HPO := (show Hid _ from pieceOf_any k f t st ss pp c6 c7 c8 c9 c10 c11 c12 xa n xc zs V1.drew (HH.out.2.1.below bd) (by omega) _ rfl)
    have HPP : Hid (AdOk V1.drew p nb mb wb wr0 Y s t f st ss pp n) := ⟨HH.out.1.below bd, ht, ⟨hfb, hst8, hss, hpp, hnb⟩, by omega, hst⟩
    have HKC : Hid (∀ V, Below V1.drew.heap.size V1.drew V → V.cell? ⟨p, 1, none⟩ = some (.map (some mb)) ∧ V.cell? ⟨w.heap.size, 0, none⟩ = some (.int .u8 (k : Nat)) ∧ V.cell? ⟨w.heap.size, 1, none⟩ = some (.int .u8 (f : Nat)) ∧ V.cell? ⟨w.heap.size, 2, none⟩ = some (.int .u32 (t : Nat)) ∧ V.cell? ⟨w.heap.size, 3, none⟩ = some (.int .u16 (st : Nat)) ∧ V.cell? ⟨w.heap.size, 4, none⟩ = some (.int .u16 (ss : Nat)) ∧ V.cell? ⟨w.heap.size, 5, none⟩ = some (.int .u32 (pp : Nat)) ∧ V.cell? ⟨w.heap.size, 6, none⟩ = some (c6) ∧ V.cell? ⟨w.heap.size, 7, none⟩ = some (c7) ∧ V.cell? ⟨w.heap.size, 8, none⟩ = some (c8) ∧ V.cell? ⟨w.heap.size, 9, none⟩ = some (c9) ∧ V.cell? ⟨w.heap.size, 10, none⟩ = some (c10) ∧ V.cell? ⟨w.heap.size, 11, none⟩ = some (c11) ∧ V.cell? ⟨w.heap.size, 12, none⟩ = some (c12) ∧ V.cell? ⟨w.heap.size, 13, none⟩ = some (.slice xa n xc)) := fun V hV => by
      have s1 := HC.out.2 V ((HV1.out.2.1.drew).trans (hV.mono (HV1.out.2.1.drew).size))
      exact ⟨(HPP.out.sm.below hV).st.cell 1 _ rfl, s1.cell 0 _ rfl, s1.cell 1 _ rfl, s1.cell 2 _ rfl, s1.cell 3 _ rfl, s1.cell 4 _ rfl, s1.cell 5 _ rfl, s1.cell 6 _ rfl, s1.cell 7 _ rfl, s1.cell 8 _ rfl, s1.cell 9 _ rfl, s1.cell 10 _ rfl, s1.cell 11 _ rfl, s1.cell 12 _ rfl, s1.cell 13 _ rfl⟩
    have HIN : Hid (∀ a c, (lookD (putD s.D t ⟨f, st, ss, pp, a, n, c, zs⟩) t).isSome = true) := fun a c => by rw [look_put _ _ _ _ HH.out.1.sd, if_pos rfl]; rfl
    clear bd hE0 hk0 hnl
    go_wp2_with fail
    refine wp_region_parW mixedX (fun θ : Option Addr × Nat => [(14, .pointer (some ⟨p, 0, none⟩)), (15, .pointer (some ⟨p, 0, none⟩)), (16, .pointer (some ⟨p, 1, none⟩)), (17, .map (some mb)), (18, .pointer (some ⟨w.heap.size, 2, none⟩)), (19, .int .u32 (t : Nat)), (20, .agg #[.int .u8 (k : Nat), .int .u8 (f : Nat), .int .u32 (t : Nat), .int .u16 (st : Nat), .int .u16 (ss : Nat), .int .u32 (pp : Nat), c6, c7, c8, c9, c10, c11, c12, .slice xa n xc]), (21, .agg #[.int .u8 (f : Nat), .int .u16 (st : Nat), .int .u16 (ss : Nat), .int .u32 (pp : Nat), .slice θ.1 n θ.2])]) (fun θ l V => AdG V1.drew p nb mb wb wr0 Y s t f st ss pp n zs θ l V) (none, 0) ?Z1 ?hZ1 (by kernel_rfl) (by kernel_rfl) (fun θ => by kernel_rfl) (by kernel_rfl) ?h01 ?hops1 ?he1
    case hZ1 => intro θ; simp only [List.foldl_cons, List.foldl_nil, List.setIfInBounds_toArray, List.set_cons_zero, List.set_cons_succ]; rfl
    case h01 => exact AdG.start
    case hops1 =>
      refine ⟨?_, ?_, ?_, ?_, ?_, ?_, ?_, ?_, ?_, trivial⟩
      · exact par_val (fun θ => by rfl) (fun θ l V hg => hg.other 0 (by decide) (by decide)) (fun θ l V hl hc hd hg => by go_simp; (try with_reducible rfl); (try omega))
      · exact par_val (fun θ => by rfl) (fun θ l V hg => hg.other 1 (by decide) (by decide)) (fun θ l V hl hc hd hg => by go_simp; (try with_reducible rfl); (try omega))
      · exact par_val (fun θ => by rfl) (fun θ l V hg => hg.other 2 (by decide) (by decide)) (fun θ l V hl hc hd hg => by go_simp; (try with_reducible rfl); (try omega))
      · exact par_val (fun θ => by rfl) (fun θ l V hg => hg.other 3 (by decide) (by decide)) (fun θ l V hl hc hd hg => by have h8 : l 8 = false := (by cases h : l 8 with | false => rfl | true => exact absurd (hc 8 3 (by kernel_rfl) h) (by rw [hl]; decide)); obtain ⟨d0, d1, d2, d3, d4, d5, d6, d7, d8, d9, d10, d11, d12, d13, d14⟩ := HKC.out V (hg.bel h8); go_simp; (try with_reducible rfl); (try omega))
      · exact par_val (fun θ => by rfl) (fun θ l V hg => hg.other 4 (by decide) (by decide)) (fun θ l V hl hc hd hg => by go_simp; (try with_reducible rfl); (try omega))
      · exact par_val (fun θ => by rfl) (fun θ l V hg => hg.other 5 (by decide) (by decide)) (fun θ l V hl hc hd hg => by have h8 : l 8 = false := (by cases h : l 8 with | false => rfl | true => exact absurd (hc 8 5 (by kernel_rfl) h) (by rw [hl]; decide)); obtain ⟨d0, d1, d2, d3, d4, d5, d6, d7, d8, d9, d10, d11, d12, d13, d14⟩ := HKC.out V (hg.bel h8); go_simp; (try with_reducible rfl); (try omega))
      · exact par_val (fun θ => by rfl) (fun θ l V hg => hg.other 6 (by decide) (by decide)) (fun θ l V hl hc hd hg => by have h8 : l 8 = false := (by cases h : l 8 with | false => rfl | true => exact absurd (hc 8 6 (by kernel_rfl) h) (by rw [hl]; decide)); obtain ⟨d0, d1, d2, d3, d4, d5, d6, d7, d8, d9, d10, d11, d12, d13, d14⟩ := HKC.out V (hg.bel h8); go_simp; (try with_reducible rfl); (try omega))
      · exact par_call (fun θ => by rfl) rfl (vs := fun _ => [.agg #[.int .u8 (k : Nat), .int .u8 (f : Nat), .int .u32 (t : Nat), .int .u16 (st : Nat), .int .u16 (ss : Nat), .int .u32 (pp : Nat), c6, c7, c8, c9, c10, c11, c12, .slice xa n xc]]) (fun θ => by rfl) Try.func25 (by rfl) (by rfl) (fun θ l V hl hc hd hg => by
          have h8 : l 8 = false := (by cases h : l 8 with | false => rfl | true => exact absurd (hc 8 7 (by kernel_rfl) h) (by rw [hl]; decide))
          obtain rfl := hg.s0 hl
          refine Calls.mono HPO.out ?_
          rintro e V2 ⟨⟨a6, c6', rfl, ho6⟩, hb6⟩
          exact ⟨_, rfl, next_set (by kernel_rfl) (a6, c6') [(21, .agg #[.int .u8 (f : Nat), .int .u16 (st : Nat), .int .u16 (ss : Nat), .int .u32 (pp : Nat), .slice a6 n c6'], 7)] (by simp only [List.foldl_cons, List.foldl_nil, List.setIfInBounds_toArray, List.set_cons_zero, List.set_cons_succ]) (by kernel_rfl) (fun y hy => by simp at hy; subst hy; exact hl) (fun d hd => by cases hd; rfl) (AdG.call h8 hb6 ho6)⟩)
      · exact par_skip (fun θ => by rfl) (fun θ l V hl hc hd hg => by
          have h7 : l 7 = true := hd 7 (by kernel_rfl)
          obtain ⟨V2, hr, hst⟩ := hg.put h7 hl HPP.out
          exact ⟨V2, by simp [execOp, Act.eval] at hr ⊢; simp [hr, Result.andThen], ⟨θ, fun _ _ _ _ _ _ => rfl, fun d hd => (by cases hd), hst⟩⟩)
    case he1 =>
    rintro ⟨da, dc⟩ l V2 hall hg
    obtain ⟨hsm2, hfr2⟩ := hg.s2 (hall 8 (by decide))
    clear hall hg
    dsimp only at hsm2 ⊢
    have hszV : w.heap.size ≤ V1.drew.heap.size := HV1.out.1.drew.size
    have hfrw : Fr (fun k => k = mb) w V2 := (Fr.of_below HV1.out.1.drew).trans hfr2
    have HRU := (show Hid _ from run_any hsm2 t ht (HIN.out da dc))
    have hmbl := HH.out.1.mp.lt
    have k2 := ((HC.out.2 V1.drew (HV1.out.2.1.drew)).fr hfr2 (by omega)).cell 2 _ rfl
    have HS2 := (show Hid _ from And.intro hsm2 hfrw)
    clear hsm2 hfr2 hfrw HPO HPP HKC
    go_wp2_with fail
    refine Calls.mono HRU.out ?_
    clear HRU k2
    rintro e V3 ⟨⟨ra, rc, rfl, hrow⟩, hb3⟩
    dsimp only at hrow ⊢
    obtain ⟨hsm2, hfr2⟩ := HS2.out
    have hsm3 := hsm2.below hb3
    obtain ⟨r1, r2, r3⟩ := run_ok hsm2.sd (by have := hsm2.lenDle; omega) ht (HIN.out da dc)
    have hrl : (runF (putD s.D t ⟨f, st, ss, pp, da, n, dc, zs⟩) t).length ≤ 128 := by
      have h1 := lift_len _ _ hsm2.sd r1 r2
      have h2 := hsm2.lenDle
      dsimp only at h1 h2
      omega
    obtain ⟨L, hL⟩ : ∃ L, L = runF (putD s.D t ⟨f, st, ss, pp, da, n, dc, zs⟩) t := ⟨_, rfl⟩
    have hadd : s.add t ⟨f, st, ss, pp, da, n, dc, zs⟩ = if L.length = 0 then (⟨s.nx, putD s.D t ⟨f, st, ss, pp, da, n, dc, zs⟩, s.W⟩, []) else SmS.tell ⟨s.nx, liftD (putD s.D t ⟨f, st, ss, pp, da, n, dc, zs⟩) L, s.W⟩ (L.map (pcAt (putD s.D t ⟨f, st, ss, pp, da, n, dc, zs⟩))) := by rw [hL]; rfl
    dsimp only at r2
    rw [← hL] at hrow r1 r2 r3 hrl ⊢
    have HAD := (show Hid _ from hadd)
    have hfr3 : Fr (fun k => k = mb) w V3 := hfr2.trans (Fr.of_below hb3)
    clear hadd hL
    by_cases h0 : L.length = 0
    · have h0i : ((L.length : Nat) : Int) = 0 := by omega
      have HF := (show Hid _ from And.intro hsm3 hfr3)
      have hcap := hrow.cap
      clear hsm2 hfr2 hsm3 hfr3 hb3 hrow r1 r2 r3 HS2
      go_wp2
      go_ret2
      refine .ok da dc none 0 0 V3.heap.size wr0 _ HHE.out.symm rfl ?_ ?_ (HF.out.2.mono (fun g _ e => .inr (.inl e))) HF.out.2.size (fun g hg => ⟨?_, HF.out.1.yl g hg⟩)
      · rw [HAD.out, if_pos h0]; exact MsgsW.nil _ _
      · rw [HAD.out, if_pos h0]; exact HF.out.1
      · rcases hg with hg | ⟨_, h1, _⟩
        · exact .inl hg
        · exact .inr (Nat.le_trans hszV h1)
    · have h0i : ¬ ((L.length : Nat) : Int) = 0 := by omega
      have hV2s : w.heap.size ≤ V2.heap.size := hfr2.size
      have HLI := (show Hid _ from lift_any hsm3 hrow (by omega) (by omega) r1 r2 r3 hrl)
      have HF := (show Hid _ from And.intro hsm3 (And.intro hfr3 (And.intro r1 r2)))
      have hcap := hrow.cap
      obtain ⟨nL, hnL⟩ : ∃ nL, nL = L.length := ⟨_, rfl⟩
      rw [← hnL] at h0 h0i hrl hcap HLI ⊢
      have HNL := (show Hid _ from hnL)
      clear hsm2 hfr2 hsm3 hfr3 hb3 hrow r1 r2 r3 HS2 hnL
      go_wp2_with fail
      refine Calls.mono HLI.out ?_
      clear HLI
      rintro e V4 ⟨⟨g4, c4, rfl, hg4, hg4l, hrow4⟩, hsm4, hfr4⟩
      obtain ⟨hsm3, hfr3, r1, r2⟩ := HF.out
      have hfr34 : Fr (fun k => k = mb) w V4 := hfr3.trans hfr4
      have hz4 := hfr34.size
      have hz3 := hfr3.size
      have hsm4' := hsm4.mono (Y' := fun g => (Y g ∨ (Value.slice da n dc).ownBlock = some g ∧ V1.drew.heap.size ≤ g ∧ g < V2.heap.size) ∨ g = g4) (fun g hg => .inl hg) (fun g hg => by
        rcases hg with hg | hg
        · exact hsm4.yx g hg
        · have := HH.out.1.st.lt
          have := HH.out.1.nl
          have := HH.out.1.mp.lt
          have := HH.out.1.wm.lt
          exact ⟨by omega, by omega, by omega, by omega⟩) (fun g hg => by
        rcases hg with hg | hg
        · exact hsm4.yl g hg
        · omega)
      have hpos4 := hrow4.pos
      have hlen4 := lift_len L _ hsm3.sd r1 r2
      have hh3 := hsm3.held
      unfold SmS.heldN at hh3
      dsimp only at hlen4 hh3
      have hhd : ((L.map (pcAt (putD s.D t ⟨f, st, ss, pp, da, n, dc, zs⟩))).headD zeroPc).st < s.nx.length := by
        obtain ⟨q, hq⟩ : ∃ q, L[0]? = some q := ⟨_, List.getElem?_eq_getElem (by rw [List.length_map] at hpos4; exact hpos4)⟩
        have hqi := r2 q (List.mem_of_getElem? hq)
        cases hlq : lookD (putD s.D t ⟨f, st, ss, pp, da, n, dc, zs⟩) q with
        | none => rw [hlq] at hqi; cases hqi
        | some y =>
          have hy := hsm3.dn _ (lookD_mem hlq)
          have e : (L.map (pcAt (putD s.D t ⟨f, st, ss, pp, da, n, dc, zs⟩))).headD zeroPc = y := by
            cases L with
            | nil => cases hq
            | cons q' L =>
              simp at hq
              subst hq
              show pcAt _ q' = y
              unfold pcAt
              rw [hlq]
              rfl
          rw [e]
          exact hy
      have HTE := (show Hid _ from tell_any hsm4' hrow4 hhd (by unfold SmS.heldN; rw [List.length_map]; dsimp only; omega))
      rw [List.length_map] at HTE
      have hsz4 : ∀ g, ((Y g ∨ (Value.slice da n dc).ownBlock = some g ∧ V1.drew.heap.size ≤ g ∧ g < V2.heap.size) ∨ g = g4) → (Y g ∨ w.heap.size ≤ g) ∧ g < V4.heap.size := fun g hg => by
        refine ⟨?_, hsm4'.yl g hg⟩
        rcases hg with (hg | ⟨_, h1, _⟩) | hg
        · exact .inl hg
        · exact .inr (by omega)
        · exact .inr (by omega)
      have HZ := (show Hid _ from And.intro hfr34 hsz4)
      rw [← HNL.out] at HTE ⊢
      clear hsm3 hfr3 r1 r2 hfr34 hsm4 hsm4' hrow4 hfr4 hlen4 hh3 hhd hsz4 hpos4
      go_wp2_with fail
      refine Calls.mono HTE.out ?_
      rintro e V5 ⟨⟨ta, tn, tc, rfl, htm⟩, ⟨wr5, hsm5⟩, hf5⟩
      have HF5 := (show Hid _ from And.intro htm (And.intro hsm5 hf5))
      clear htm hsm5 hf5 HTE
      go_wp2
      go_ret2
      have h0' : ¬ L.length = 0 := by rw [← HNL.out]; exact h0
      refine .ok da dc ta tn tc V4.heap.size wr5 _ HHE.out.symm rfl ?_ ?_ ((HZ.out.1.mono (fun g _ e => .inr (.inl e))).trans (HF5.out.2.2.mono (fun g _ e => by rcases e with e | e; exact .inl e; exact .inr (.inr e)))) HZ.out.1.size HZ.out.2
      · rw [HAD.out, if_neg h0']; exact HF5.out.1
      · rw [HAD.out, if_neg h0']; exact HF5.out.2.1
  · go_wp2
    go_ret2
    exact .bad (by rw [← HHE.out]; exact hz) (by rw [← HHE.out]; rfl) HV1.out.1
end Go.Proofs.Ytjaheelgcjafcaa
