/- law09.ArpOrder: what was sent, what was taken and what waits, through the calls. -/
import Derived.Test.YtpmnjfkcffddgaaArO
namespace Go.Proofs.Ytpmnjfkcffddgaa
open Go.RowKit
theorem FrsW.frB {w w' : World} {kd : Nat → RoleA} {B : Nat} {a : Option Addr} {n c : Nat} {fs : List (List Nat)} {Q : Nat → Prop} (h : FrsW w kd B a n c fs) (hf : Fr Q w w') (hq : ∀ g, B ≤ g → g < w.heap.size → ¬ Q g) : FrsW w' kd B a n c fs := by
  obtain ⟨bs, h1, h2, h3, h4⟩ := h.ex
  refine ⟨bs, h1, OwnG.fr h2 hf (fun g hg => hq g (h2.own.lt g hg).1 (h2.own.lt g hg).2), h3, fun b hb => ⟨Sl.frA (h4 b hb).1 hf (fun k o e => hq k ((h4 b hb).2 k o e).2.1 ((h4 b hb).2 k o e).2.2.1), fun g off e => ?_⟩⟩
  obtain ⟨x1, x2, x3, x4⟩ := (h4 b hb).2 g off e
  exact ⟨x1, x2, Nat.lt_of_lt_of_le x3 hf.size, x4⟩
structure OrM (w wr : World) (kd : Nat → RoleA) (q0 : Nat) (sa : Option Addr) (sn sc : Nat) (S : List (List Nat)) (ga : Option Addr) (gn gc : Nat) (G : List (List Nat)) : Prop where
  got : GotW wr w.heap.size q0 kd ga gn gc G
  row : OwnZ wr w.heap.size sa sn sc S
  rk : ∀ g, (Value.slice sa sn sc).ownBlock = some g → kd g = .no ∧ g ≠ q0 ∧ (Value.slice ga gn gc).ownBlock ≠ some g
  q : w.heap.size ≤ q0
  kn : ∀ g, g < w.heap.size → kd g = .no
  bel : Below w.heap.size w wr
section
variable {w wr w2 : World} {kd kd' : Nat → RoleA} {q0 : Nat} {sa : Option Addr} {sn sc : Nat} {S : List (List Nat)} {ga : Option Addr} {gn gc : Nat} {G : List (List Nat)}
theorem OrM.grow (h : OrM w wr kd q0 sa sn sc S ga gn gc G) (hg : GrowA kd kd' wr w2) : OrM w w2 kd' q0 sa sn sc S ga gn gc G := by
  have hb := hg.bel w.heap.size h.bel.size h.kn
  exact ⟨h.got.grow hg, OwnG.fr h.row hg.fr (fun g hgb e => e (h.rk g hgb).1), fun g hgb => ⟨hg.no g (h.row.own.lt g hgb).2 (h.rk g hgb).1, (h.rk g hgb).2⟩, h.q, hb.2, h.bel.trans hb.1⟩
theorem OrM.out {e : Ending} {G' : List (List Nat)} (h : OrM w wr kd q0 sa sn sc S ga gn gc G) (ht : TkO wr kd w.heap.size q0 ga gn gc G' e w2) : ∃ a n c, OrM w w2 kd q0 sa sn sc S a n c G' := by
  obtain ⟨a, n, c, h1, h2⟩ := ht.got
  refine ⟨a, n, c, h1, OwnG.fr h.row ht.fr (fun g hg e => ?_), fun g hg => ⟨(h.rk g hg).1, (h.rk g hg).2.1, fun e => ?_⟩, h.q, h.kn, h.bel.trans (ht.fr.below w.heap.size h.bel.size (fun k e => ?_))⟩
  · rcases e with e | e
    · exact (h.rk g hg).2.1 e
    · exact (h.rk g hg).2.2 e
  · rcases h2 g e with e | e
    · exact (h.rk g hg).2.2 e
    · have := (h.row.own.lt g hg).2; omega
  · rcases e with e | e
    · have := h.q; omega
    · exact (h.got.row.own.lt k e).1
end
/-- Between the calls. z: nothing waits. -/
structure OrS (w wr : World) (q0 i : Nat) (z : Bool) (sa : Option Addr) (sn sc : Nat) : Prop where
  ex : ∃ kd ga gn gc S G now lost D, CaW wr kd w.heap.size 5 1 now lost D ∧ OrM w wr kd q0 sa sn sc S ga gn gc G ∧ S = G ++ wt2 D ∧ (z = true → wt2 D = []) ∧ now ≤ (i : Int) ∧ 0 ≤ lost ∧ lost ≤ (i : Int) ∧ S.length ≤ i
/-- Frames were told, which are not taken yet; the bodies E are not written down yet. -/
structure OrF (w wr : World) (q0 i : Nat) (z : Bool) (sa : Option Addr) (sn sc : Nat) (E : List (List Nat)) (a : Option Addr) (n c : Nat) : Prop where
  ex : ∃ kd ga gn gc S G now lost D fs Bf, CaW wr kd w.heap.size 5 1 now lost D ∧ OrM w wr kd q0 sa sn sc S ga gn gc G ∧ FrsW wr kd Bf a n c fs ∧ okFs 5 fs ∧ n ≤ 1000 ∧ q0 < Bf ∧ (∀ g, (Value.slice ga gn gc).ownBlock = some g → g < Bf) ∧ (E ≠ [] → ∀ g, (Value.slice sa sn sc).ownBlock = some g → g < Bf) ∧ S ++ E = G ++ ipB fs ++ wt2 D ∧ (z = true → wt2 D = []) ∧ now ≤ (i : Int) ∧ 0 ≤ lost ∧ lost ≤ (i : Int) ∧ S.length + E.length ≤ i ∧ Bf ≤ wr.heap.size
section
variable {w wr : World} {q0 i : Nat} {z : Bool} {sa : Option Addr} {sn sc : Nat}
theorem OrS.weak (h : OrS w wr q0 i z sa sn sc) : OrS w wr q0 i false sa sn sc := by
  obtain ⟨kd, ga, gn, gc, S, G, now, lost, D, h1, h2, h3, h4, h5⟩ := h.ex
  exact ⟨kd, ga, gn, gc, S, G, now, lost, D, h1, h2, h3, fun e => (by cases e), h5⟩
theorem OrS.bel (h : OrS w wr q0 i z sa sn sc) : Below w.heap.size w wr := by
  obtain ⟨kd, ga, gn, gc, S, G, now, lost, D, h1, h2, h3, h4, h5⟩ := h.ex
  exact h2.bel
theorem OrF.bel {E : List (List Nat)} {a : Option Addr} {n c : Nat} (h : OrF w wr q0 i z sa sn sc E a n c) : Below w.heap.size w wr := by
  obtain ⟨kd, ga, gn, gc, S, G, now, lost, D, fs, Bf, h1, h2, h3⟩ := h.ex
  exact h2.bel
theorem OrS.few (h : OrS w wr q0 i z sa sn sc) : sn ≤ i := by
  obtain ⟨kd, ga, gn, gc, S, G, now, lost, D, h1, h2, h3, h4, h5, h6, h7, h8⟩ := h.ex
  have := h2.row.len
  omega
theorem OrS.calls_take (h : OrS w wr q0 i z sa sn sc) (t : Nat) (hit : i ≤ t) (ht : t ≤ 31) :
    Calls Try.prog 10 #[.pointer (some ⟨w.heap.size, 0, none⟩), .agg #[.int .i64 2, .int .u64 6, .int .u32 2, .int .u64 5, .int .u32 1], .int .i64 (t : Nat)] wr fun e w2 => ∃ a n c, ∃ er : Nat, e = .returned (.tuple #[.slice a n c, .int .i64 (er : Nat)]) ∧ OrF w w2 q0 t true sa sn sc [] a n c := by
  obtain ⟨kd, ga, gn, gc, S, G, now, lost, D, h1, h2, h3, h4, h5, h6, h7, h8⟩ := h.ex
  refine Calls.mono (take_arp h1 2 6 2 5 1 (by omega) (t : Int)) ?_
  rintro e w2 ⟨kd2, now2, D2, er2, fs2, a2, n2, c2, hR, hc2, hg2, rfl, hf2⟩
  have he : takeE now t 1 2 6 = 0 := by
    have h0 : atkE now (t : Int) = 0 := by unfold atkE; rw [if_neg (by omega), if_neg (by omega)]
    unfold takeE
    rw [h0, if_neg (by decide), if_neg (by decide)]
  rcases hR with ⟨hx, _⟩ | ⟨_, rfl, hd, rfl, hfs⟩
  · exact absurd he hx
  obtain ⟨o1, o2⟩ := take_ord (mac := 5) (t := (t : Int)) (CaV.pure h1) h1.srt (by decide)
  have o3 := (take_cnt (mac := 5) (ip := 1) (op := 2) (fm := 6) (fi := 2) (ti := 1) (t := (t : Int)) (CaV.pure h1) h1.srt (by decide) (by decide)).1
  have hn : n2 ≤ 1000 := by
    have := hf2.len
    rw [hfs] at this
    unfold takeF wsF nbAt at this
    rw [List.length_append, List.length_map, if_neg (by decide)] at this
    cases hl : lookD D 2 with
    | none => rw [hl] at this; simp [zeroNb] at this; omega
    | some x => rw [hl] at this; have h9 := (h1.each _ (lookD_mem hl)).2.1.len; simp at this; dsimp only at h9; omega
  refine ⟨a2, n2, c2, 0, rfl, kd2, ga, gn, gc, S, G, _, lost, D2, fs2, wr.heap.size, hc2, h2.grow hg2, hf2, by rw [hfs]; exact o3, hn, h2.got.box.lt, fun g hg => (h2.got.row.own.lt g hg).2, fun _ g hg => (h2.row.own.lt g hg).2, ?_, fun _ => by rw [hd]; exact o2, by omega, h6, by omega, by simp; omega, hg2.fr.size⟩
  rw [hfs, o1, hd, o2, List.append_nil, List.append_nil]
  exact h3
theorem OrS.calls_send (h : OrS w wr q0 i z sa sn sc) (hi : i ≤ 31) {xa : Option Addr} {xn xc : Nat} {zs : List Nat} (hs : Sl w xa xn xc zs) :
    Calls Try.prog 9 #[.pointer (some ⟨w.heap.size, 0, none⟩), .int .u32 2, .slice xa xn xc, .int .i64 (i : Nat)] wr fun e w2 => ∃ a n c, ∃ er : Nat, e = .returned (.tuple #[.slice a n c, .int .i64 (er : Nat)]) ∧ OrF w w2 q0 (i + 1) false sa sn sc (if er = 0 then [zs] else []) a n c := by
  obtain ⟨kd, ga, gn, gc, S, G, now, lost, D, h1, h2, h3, h4, h5, h6, h7, h8⟩ := h.ex
  have hsl : Sl wr xa xn xc zs := hs.below h2.bel
  refine Calls.mono (send_any h1 h6 (by omega) 2 (by omega) hsl (fun hn b off e => ?_) (i : Int)) ?_
  · rcases hs.at_ with h0 | ⟨b', off', e2, hlt, _⟩
    · omega
    · rw [e] at e2
      have e3 := Option.some.inj e2
      injection e3 with e4 e5 e6
      rw [e4]
      exact h2.kn _ hlt
  rintro e w2 ⟨kd2, now2, lost2, D2, er2, fs2, a2, n2, c2, hR, hc2, hg2, rfl, hf2⟩
  obtain ⟨o1, o2, o3, o4, o5⟩ := send_ord hR (CaV.pure h1) h1.srt (by decide) (by omega)
  have o6 := (send_cnt hR (CaV.pure h1) h1.srt (by decide)).1
  have hn2 := hf2.len
  refine ⟨a2, n2, c2, er2, rfl, kd2, ga, gn, gc, S, G, now2, lost2, D2, fs2, wr.heap.size, hc2, h2.grow hg2, hf2, o6, by omega, h2.got.box.lt, fun g hg => (h2.got.row.own.lt g hg).2, fun _ g hg => (h2.row.own.lt g hg).2, ?_, fun e => (by cases e), by omega, by omega, by omega, ?_, hg2.fr.size⟩
  · rw [h3, List.append_assoc, o1, List.append_assoc]
  · split <;> simp <;> omega
theorem OrF.calls_out {a : Option Addr} {n c : Nat} (h : OrF w wr q0 i z sa sn sc [] a n c) (hi : i ≤ 1000) :
    Calls Try.prog 16 #[.slice a n c, .pointer (some ⟨q0, 0, none⟩)] wr fun e w2 => (∃ v, e = .returned v) ∧ OrS w w2 q0 i z sa sn sc := by
  obtain ⟨kd, ga, gn, gc, S, G, now, lost, D, fs, Bf, h1, h2, h3, h4, h5, h6, h7, h8, h9, h10, h11, h12, h13, h14, h15⟩ := h.ex
  have hgn : gn ≤ 1000 := by
    have e1 := h2.got.row.len
    have e2 := congrArg List.length h9
    simp only [List.length_append, List.length_nil] at e2 h14
    omega
  refine Calls.mono (take_out h3 h4 h5 h2.got hgn h6 h7 h1.fresh h2.bel.size) ?_
  rintro e w2 ht
  refine ⟨ht.out, ?_⟩
  obtain ⟨a', n', c', hm⟩ := h2.out ht
  refine ⟨kd, a', n', c', S, G ++ ipB fs, now, lost, D, CaV.fr h1 ht.fr (fun g _ e => .inl ?_), hm, by simpa using h9, h10, h11, h12, h13, by simpa using h14⟩
  rcases e with e | e
  · rw [e]; exact h2.got.kq
  · exact (h2.got.kr g e).1
theorem OrF.app {zs : List Nat} {a : Option Addr} {n c : Nat} (h : OrF w wr q0 i z sa sn sc [zs] a n c) (hi : i ≤ 1000) (W : World) (hW : W = wr.alloc (.cells #[.string (strOf zs)] 9)) :
    ∃ g7 c7 W7, (Builtin.append_ #[48, 48] 48 #[.slice sa sn sc, .slice (some ⟨wr.heap.size, 0, none⟩) 1 1]).run Try.prog W = .ok (.slice (some ⟨g7, 0, none⟩) (sn + 1) c7) W7 ∧ OrF w W7 q0 i z (some ⟨g7, 0, none⟩) (sn + 1) c7 [] a n c := by
  obtain ⟨kd, ga, gn, gc, S, G, now, lost, D, fs, Bf, h1, h2, h3, h4, h5, h6, h7, h8, h9, h10, h11, h12, h13, h14, h15⟩ := h.ex
  have b0 : Below wr.heap.size wr W := by rw [hW]; exact (Below.refl _ _).alloc (Nat.le_refl _) _
  have st := Stc.new wr [.string (strOf zs)] 9 W hW
  have hm := h2.grow (GrowA.of_below b0)
  have hsl := h2.row.len
  simp only [List.length_cons, List.length_nil] at h14
  obtain ⟨g7, c7, W7, hr7, ho7, hgr7, hwh7, hl7⟩ := OwnG.app layZ hm.row 48 zs ⟨wr.heap.size, 0, none⟩ (fun j u hj => by
    rcases j with _ | j
    · have e1 : u = .string (strOf zs) := by simpa [stC] using hj.symm
      subst e1
      exact st.cell 0 _ rfl
    · simp [stC] at hj) (by unfold maxLen; omega) (by omega) hm.bel.size
  have hf7 : Fr (fun k => (Value.slice sa sn sc).ownBlock = some k) W W7 := Fr.grown hgr7 (fun k hk => hk)
  have hc7 := CaV.fr (CaV.below h1 b0) hf7 (fun g _ e => .inl (hm.rk g e).1)
  have hno : kd g7 = .no ∧ g7 ≠ q0 ∧ (Value.slice ga gn gc).ownBlock ≠ some g7 := by
    rcases hwh7 with e | e
    · exact hm.rk g7 e
    · have hlt := hm.got.box.lt
      exact ⟨h1.fresh g7 (by rw [e]; exact b0.size), by omega, fun e2 => by have := (hm.got.row.own.lt g7 e2).2; omega⟩
  have hgw : GotW W7 w.heap.size q0 kd ga gn gc G := ⟨hm.got.box.fr hf7 (fun e => (hm.rk q0 e).2.1 rfl), OwnG.fr hm.got.row hf7 (fun k hk e => (hm.rk k e).2.2 hk), hm.got.kq, hm.got.kr⟩
  have hm7 : OrM w W7 kd q0 (some ⟨g7, 0, none⟩) (sn + 1) c7 (S ++ [zs]) ga gn gc G := ⟨hgw, ho7, fun g hg => by obtain rfl : g7 = g := Option.some.inj hg; exact hno, h2.q, h2.kn, hm.bel.trans (hf7.below w.heap.size hm.bel.size (fun k e => (hm.row.own.lt k e).1))⟩
  have hfs : FrsW W kd Bf a n c fs := h3.grow (GrowA.of_below b0)
  have hfs7 : FrsW W7 kd Bf a n c fs := hfs.frB hf7 (fun g hg _ e => by have := h8 (by simp) g e; omega)
  exact ⟨g7, c7, W7, hr7, kd, ga, gn, gc, S ++ [zs], G, now, lost, D, fs, Bf, hc7, hm7, hfs7, h4, h5, h6, h7, fun e => absurd rfl e, by simpa using h9, h10, h11, h12, h13, by simp; omega, Nat.le_trans h15 (Nat.le_trans b0.size hf7.size)⟩
end
end Go.Proofs.Ytpmnjfkcffddgaa
