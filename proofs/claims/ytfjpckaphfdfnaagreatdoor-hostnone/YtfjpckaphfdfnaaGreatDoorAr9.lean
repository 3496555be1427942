/- arp: a body that waits; the tick; rows of frames. -/
import Derived.Test.YtfjpckaphfdfnaaGreatDoorAr8
namespace Go.Proofs.YtfjpckaphfdfnaaGreatDoor
open Go.RowKit Go.MapKept Go.Maps
def zeroNb : Nbr := ⟨false, 0, 0, 0, none, 0, 0, []⟩
def nbAt (D : List (Nat × Nbr)) (q : Nat) : Nbr := (lookD D q).getD zeroNb
/-- What the look-up in the cache's map tells, whether there is a map or none. -/
theorem CaV.looks {E : Nat → Prop} {w : World} {kd : Nat → RoleA} {p mac ip : Nat} {now lost : Int} {D : List (Nat × Nbr)} (h : CaV E w kd p mac ip now lost D) : ∃ nv, Stc w p (CaC mac ip now nv lost) ∧ ∀ w', Below w.heap.size w w' → ∀ q, q < 4294967296 → ∀ b : Bool, (Instr.lookup 167 nv (.int .u32 (q : Nat)) b).run Tryz.prog w' = .ok (if b then .tuple #[(nbAt D q).v, .bool (lookD D q).isSome] else (nbAt D q).v) w' := by
  rcases h.near with ⟨h1, rfl⟩ | ⟨mb, h1, h2, h3⟩
  · refine ⟨_, h1, fun w' hb q hq b => ?_⟩
    obtain ⟨l, hl⟩ := ipKE.ok q hq
    have hz := zeroN w'
    rcases ipKE.keyed.find w' hl [] (fun x hx => by cases hx) with ⟨a1, _⟩ | ⟨j, x, _, a2, _⟩
    · have hck := ipKE.keyed.check w' true hl
      change (Instr.lookup 167 (.map none) (ipV q) b).run Tryz.prog w' = _
      obtain ⟨v, hv⟩ : ∃ v, v = ipV q := ⟨_, rfl⟩
      rw [← hv] at hck a1 ⊢
      simp only [Instr.lookup, Sem.run_bind, run_underlying Tryz.underlying167, Result.andThen_ok, Sem.run_pure, Array.isEmpty_empty, hck, a1, hz]
      cases b <;> rfl
    · cases a2
  · refine ⟨_, h1, fun w' hb q hq b => ?_⟩
    have := (h2.below hb).look (P := Tryz.prog) ipKE b Tryz.underlying167 (zeroN w') (q := q) hq
    rw [show ipV q = .int .u32 (q : Nat) from rfl] at this
    rw [this]
    unfold nbAt
    cases lookD D q <;> cases b <;> rfl
/-- The cache's tick goes on. -/
theorem CaV.tick {E : Nat → Prop} {w : World} {kd : Nat → RoleA} {p mac ip : Nat} {now lost : Int} {D : List (Nat × Nbr)} (h : CaV E w kd p mac ip now lost D) (t : Int) (ht : now ≤ t) (h1 : t ≤ 1099511627776) : CaV E (w.setCell ⟨p, 2, none⟩ (.int .i64 t)) kd p mac ip t lost D := by
  have hf := Fr.setCell (fun k => k = p) w ⟨p, 2, none⟩ (.int .i64 t) rfl
  refine ⟨h.kp, ?_, fun y hy => ⟨fun hE => ((h.each y hy).1 hE).fr hf (fun g hl hQ => ?_) (fun _ _ _ => rfl), (h.each y hy).2.1.later ht, (h.each y hy).2.2⟩, h.srt, h.len, fun g hg => h.fresh g (Nat.le_trans hf.size hg), h.mac1, h.ip1, by have := h.now0; omega, h1⟩
  · rcases h.near with ⟨h1, h2⟩ | ⟨mb, h1, h2, h3⟩
    · exact .inl ⟨h1.set 2 _, h2⟩
    · exact .inr ⟨mb, h1.set 2 _, h2.fr hf (fun e => by rw [e, h.kp] at h3; cases h3), h3⟩
  · rw [hQ, h.kp]
    exact ⟨fun e => (by cases e), fun e => (by cases e)⟩
/-- How many bodies were lost is laid anew. -/
theorem CaV.lose {E : Nat → Prop} {w : World} {kd : Nat → RoleA} {p mac ip : Nat} {now lost : Int} {D : List (Nat × Nbr)} (h : CaV E w kd p mac ip now lost D) (t : Int) : CaV E (w.setCell ⟨p, 4, none⟩ (.int .i64 t)) kd p mac ip now t D := by
  have hf := Fr.setCell (fun k => k = p) w ⟨p, 4, none⟩ (.int .i64 t) rfl
  refine ⟨h.kp, ?_, fun y hy => ⟨fun hE => ((h.each y hy).1 hE).fr hf (fun g hl hQ => ?_) (fun _ _ _ => rfl), (h.each y hy).2⟩, h.srt, h.len, fun g hg => h.fresh g (Nat.le_trans hf.size hg), h.mac1, h.ip1, h.now0, h.now1⟩
  · rcases h.near with ⟨h1, h2⟩ | ⟨mb, h1, h2, h3⟩
    · exact .inl ⟨h1.set 4 _, h2⟩
    · exact .inr ⟨mb, h1.set 4 _, h2.fr hf (fun e => by rw [e, h.kp] at h3; cases h3), h3⟩
  · rw [hQ, h.kp]
    exact ⟨fun e => (by cases e), fun e => (by cases e)⟩
theorem GrowA.box {kd kd' : Nat → RoleA} {w W w' : World} (h : GrowA kd kd w W) (hf : Fr (fun g => kd g ≠ .no ∨ w.heap.size ≤ g) W w') (hn : ∀ g, g < w.heap.size → kd g = .no → kd' g = .no) : GrowA kd kd' w w' := by
  refine ⟨⟨hf.os.trans h.fr.os, hf.tape.trans h.fr.tape, hf.output.trans h.fr.output, Nat.le_trans h.fr.size hf.size, fun g hg hn => ?_⟩, hn⟩
  refine (hf.block g (Nat.lt_of_lt_of_le hg h.fr.size) (fun e => ?_)).trans (h.fr.block g hg hn)
  rcases e with e | e
  · exact hn e
  · omega
/-- One more body waits. -/
def waitX (x : Nbr) (g c : Nat) (b : Bd) : Nbr := { x with a := some ⟨g, 0, none⟩, n := x.n + 1, c := c, ws := x.ws ++ [b] }
structure WaitP (w W : World) (kd : Nat → RoleA) (p mac ip : Nat) (now lost : Int) (D : List (Nat × Nbr)) (q : Nat) (x : Nbr) (bx : Nat) (b : Bd) (g c : Nat) (w4 : World) : Prop where
  st : ∃ kd', CaV (fun q' => q' ≠ q) w4 kd' p mac ip now lost D ∧ NbW w4 kd' q (waitX x g c b) ∧ GrowA kd kd' w w4
  box : Stc w4 bx [.bool x.kn, .int .u64 (x.mac : Nat), .int .i64 x.at_, .int .i64 x.ak, .slice (some ⟨g, 0, none⟩) (x.n + 1) c]
theorem wait_app {w W w1 : World} {kd : Nat → RoleA} {p mac ip : Nat} {now lost : Int} {D : List (Nat × Nbr)} {q : Nat} {x : Nbr} {bx : Nat} (hg0 : GrowA kd kd w W) (h : CaW W kd p mac ip now lost D) (hx : NbW W kd q x) (hlen : x.ws.length < 4) (hbx : kd bx = .no) (hbw : w.heap.size ≤ bx)
    (hst : Stc W bx [.bool x.kn, .int .u64 (x.mac : Nat), .int .i64 x.at_, .int .i64 x.ak, .slice x.a x.n x.c]) (hb : Below W.heap.size W w1) {n c1 g1 : Nat} {zs : List Nat} (ho : OwnB w1 W.heap.size (some ⟨g1, 0, none⟩) n c1 zs) (hn0 : 0 < n) (hn : n ≤ 1500) (ty : TypeId) :
    ∃ g c w3, (Builtin.append_ #[115, 115] ty #[.slice x.a x.n x.c, .slice (some ⟨w1.heap.size, 0, none⟩) 1 1]).run Tryz.prog (w1.alloc (.cells #[.slice (some ⟨g1, 0, none⟩) n c1] 24)) = .ok (.slice (some ⟨g, 0, none⟩) (x.n + 1) c) w3 ∧
      w3.cell? ⟨bx, 4, none⟩ = some (.slice x.a x.n x.c) ∧ w3.frozen? ⟨bx, 4, none⟩ = false ∧
      WaitP w W kd p mac ip now lost D q x bx ⟨some ⟨g1, 0, none⟩, n, c1, zs⟩ g c (w3.setCell ⟨bx, 4, none⟩ (.slice (some ⟨g, 0, none⟩) (x.n + 1) c)) := by
  obtain ⟨W2, hW2⟩ : ∃ W2, W2 = w1.alloc (.cells #[.slice (some ⟨g1, 0, none⟩) n c1] 24) := ⟨_, rfl⟩
  have hb2 : Below w1.heap.size w1 W2 := by rw [hW2]; exact (Below.refl _ _).alloc (Nat.le_refl _) _
  have st2 := Stc.new w1 [.slice (some ⟨g1, 0, none⟩) n c1] 24 W2 hW2
  have hbB : Below W.heap.size W W2 := hb.trans (hb2.mono hb.size)
  have hz2 : W2.heap.size = w1.heap.size + 1 := by rw [hW2]; simp
  have hg1 := ho.own.lt g1 rfl
  have hxl := hx.row.len
  have hx2 : NbW W2 kd q x := hx.fr (Q := fun _ => False) (Fr.of_below hbB) (fun _ _ h => h.elim) (fun _ _ _ => rfl)
  obtain ⟨g, c, w3, hrun, ho3, hgr, hwh, hgl⟩ := OwnG.app layD hx2.row ty ⟨some ⟨g1, 0, none⟩, n, c1, zs⟩ ⟨w1.heap.size, 0, none⟩ (fun j u hj => by
    rcases j with _ | j
    · have e1 : u = .slice (some ⟨g1, 0, none⟩) n c1 := by simpa [bdC] using hj.symm
      subst e1
      exact st2.cell 0 _ rfl
    · simp [bdC] at hj) (by unfold maxLen; omega) (by omega) (Nat.zero_le _)
  have hfr3 : Fr (fun k => kd k = .row q ∧ k < W.heap.size) W2 w3 := Fr.grown hgr (fun k hk => by
    have := hx.rk k hk
    exact ⟨this, (hx.row.own.lt k hk).2⟩)
  have hbxl := hst.lt
  have hnr : ¬ (kd bx = .row q ∧ bx < W.heap.size) := fun e => by rw [hbx] at e; cases e.1
  have st3 := (hst.below hbB).fr hfr3 hnr
  refine ⟨g, c, w3, by rw [← hW2]; exact hrun, st3.cell 4 _ rfl, st3.free 4, ?_⟩
  obtain ⟨w4, hw4⟩ : ∃ w4, w4 = w3.setCell ⟨bx, 4, none⟩ (.slice (some ⟨g, 0, none⟩) (x.n + 1) c) := ⟨_, rfl⟩
  have hf4 : Fr (fun k => k = bx) w3 w4 := by rw [hw4]; exact Fr.setCell _ _ _ _ rfl
  have st4 := st3.set 4 (.slice (some ⟨g, 0, none⟩) (x.n + 1) c)
  rw [← hw4] at st4 ⊢
  have hgw : kd g = .row q ∧ g < W.heap.size ∨ g = W2.heap.size := by
    rcases hwh with e | e
    · exact .inl ⟨hx.rk g e, (hx.row.own.lt g e).2⟩
    · exact .inr e
  have hz3 := hfr3.size
  have hz4 := hf4.size
  have hWz := hbB.size
  have hg1z : g1 < W2.heap.size := by omega
  have hgne : g ≠ g1 := by rcases hgw with e | e <;> omega
  have hgbx : g ≠ bx := fun e => by
    rcases hgw with e2 | e2
    · rw [e, hbx] at e2; cases e2.1
    · omega
  have hg1bx : g1 ≠ bx := by omega
  have hfAll : Fr (fun k => kd k = .row q ∧ k < W.heap.size ∨ k = bx) W w4 := (Fr.of_below hbB).trans ((hfr3.mono (fun k _ e => .inl e)).trans (hf4.mono (fun k _ e => .inr e)))
  refine ⟨⟨fun k => if k = g then .row q else if k = g1 then .body else kd k, ?_, ⟨?_, fun k hk => ?_, fun b hbm => ?_⟩, hg0.box (hfAll.mono (fun k _ e => ?_)) (fun k hk hn => ?_)⟩, st4⟩
  · refine ((h.weak (fun _ _ => trivial)).fr hfAll (fun k hk hQ => ?_)).role (fun k hk hn hr => ?_) (fun k hk => ?_)
    · rcases hQ with e | e
      · exact .inr ⟨q, e.1, fun h => h rfl⟩
      · rw [e]; exact .inl hbx
    · rw [if_neg (fun e => ?_), if_neg (fun e => ?_)]
      · subst e
        exact hn (h.fresh _ hg1.1)
      · subst e
        rcases hgw with e2 | e2
        · exact hr q e2.1 rfl
        · exact hn (h.fresh _ (by omega))
    · rw [if_neg (by omega), if_neg (by omega)]
      exact h.fresh k (by omega)
  · exact OwnG.fr ho3 hf4 (fun k hk e => by cases hk; exact hgbx e)
  · cases hk
    exact if_pos rfl
  · rcases List.mem_append.1 hbm with hbm | hbm
    · obtain ⟨b1, b2, b3, gb, off, b4, b5, b6⟩ := hx.bs b hbm
      refine ⟨Sl.frA b1 hfAll (fun k o e hQ => ?_), b2, b3, gb, off, b4, by omega, ?_⟩
      · rw [b4] at e
        injection e with e
        injection e with e
        subst e
        rcases hQ with e2 | e2
        · rw [b6] at e2; cases e2.1
        · rw [e2, hbx] at b6; cases b6
      · rw [if_neg (fun e => ?_), if_neg (by omega)]
        · exact b6
        · rcases hgw with e2 | e2
          · rw [← e, b6] at e2; cases e2.1
          · omega
    · simp at hbm
      subst hbm
      refine ⟨?_, hn0, hn, g1, 0, rfl, by omega, ?_⟩
      · have hs1 : Sl w1 (some ⟨g1, 0, none⟩) n c1 zs := ho.sl (by omega)
        refine Sl.frA (Sl.frA (hs1.below hb2) hfr3 (fun k o e hQ => ?_)) hf4 (fun k o e hQ => ?_)
        · injection e with e
          injection e with e
          omega
        · injection e with e
          injection e with e
          omega
      · rw [if_neg (fun e => hgne e.symm), if_pos rfl]
  · rcases e with e | e
    · rw [e.1]; exact .inl (fun e => by cases e)
    · rw [e]; exact .inr hbw
  · rw [if_neg (fun e => ?_), if_neg (by have := hg0.fr.size; omega)]
    · exact hn
    · rcases hgw with e2 | e2
      · rw [← e, hn] at e2; cases e2.1
      · have := hg0.fr.size; omega
/-- A row of frames that is told, in memory of nobody's. -/
structure FrsW (w : World) (kd : Nat → RoleA) (B : Nat) (a : Option Addr) (n c : Nat) (fs : List (List Nat)) : Prop where
  ex : ∃ bs : List Bd, bs.map (·.zs) = fs ∧ OwnD w B a n c bs ∧ (∀ g, (Value.slice a n c).ownBlock = some g → kd g = .no) ∧ ∀ b ∈ bs, Sl w b.a b.n b.c b.zs ∧ (∀ g off, b.a = some ⟨g, off, none⟩ → kd g = .no ∧ B ≤ g ∧ g < w.heap.size ∧ (Value.slice a n c).ownBlock ≠ some g)
theorem FrsW.nil (w : World) (kd : Nat → RoleA) (B : Nat) : FrsW w kd B none 0 0 [] := ⟨[], rfl, OwnG.nil _ _, fun g hg => (by cases hg), fun b hb => (by cases hb)⟩
theorem FrsW.one {w : World} {kd : Nat → RoleA} {B : Nat} {a : Option Addr} {n c : Nat} {L : List Nat} (hr : OwnB w B a n c L) (hn : n ≤ 281474976710656) (hk : ∀ g, (Value.slice a n c).ownBlock = some g → kd g = .no) (hf : ∀ g, w.heap.size ≤ g → kd g = .no) (hB : B ≤ w.heap.size) : FrsW (w.alloc (.cells #[.slice a n c] 24)) kd B (some ⟨w.heap.size, 0, none⟩) 1 1 [L] := by
  refine ⟨[⟨a, n, c, L⟩], rfl, ⟨rfl, ⟨rfl, .inr ⟨w.heap.size, 1, #[.slice a n c], rfl, hB, ?_, Nat.le_refl _, by unfold maxLen; omega, rfl, rfl⟩⟩⟩, fun g hg => ?_, fun b hb => ?_⟩
  · show (w.heap.push _)[w.heap.size]? = _
    simp
  · cases hg; exact hf _ (Nat.le_refl _)
  · simp at hb
    subst hb
    refine ⟨(hr.sl hn).alloc _, fun g off e => ?_⟩
    dsimp only at e
    subst e
    rcases hr.own.2 with ⟨hv, _⟩ | ⟨g', cap, cur, hv, hb', _⟩
    · cases hv
    · injection hv with hv
      injection hv with hv
      injection hv with e1 e2
      subst e1 e2
      have hlt := (hr.own.lt g rfl).2
      exact ⟨hk _ rfl, hb', by simp; omega, fun e => by
        have e2 : some w.heap.size = some g := e
        injection e2 with e2
        omega⟩
theorem FrsW.below {w w' : World} {kd : Nat → RoleA} {B : Nat} {a : Option Addr} {n c : Nat} {fs : List (List Nat)} (h : FrsW w kd B a n c fs) (hb : Below w.heap.size w w') : FrsW w' kd B a n c fs := by
  obtain ⟨bs, h1, h2, h3, h4⟩ := h.ex
  exact ⟨bs, h1, OwnG.below h2 hb, h3, fun b hbm => ⟨(h4 b hbm).1.below hb, fun g off e => ⟨((h4 b hbm).2 g off e).1, ((h4 b hbm).2 g off e).2.1, Nat.lt_of_lt_of_le ((h4 b hbm).2 g off e).2.2.1 hb.size, ((h4 b hbm).2 g off e).2.2.2⟩⟩⟩
end Go.Proofs.YtfjpckaphfdfnaaGreatDoor
