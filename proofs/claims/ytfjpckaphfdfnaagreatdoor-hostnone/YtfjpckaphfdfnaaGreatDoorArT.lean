/- arp: what Take answers, and what becomes of the cache. -/
import Derived.Test.YtfjpckaphfdfnaaGreatDoorArS
namespace Go.Proofs.YtfjpckaphfdfnaaGreatDoor
open Go.RowKit Go.MapKept Go.Maps
theorem app_eq_list {P : Program} {S : TypeId} {ops : Array Oper} {rest : List Oper} {o : Oper} {A : Act} {w w' : World} {Q : Exit → Act → World → Prop} {v u r : Value} {ty : TypeId} (hgd : Region.wanted o (yielded ops A.tmps) = true) (s x : Operand)
    (ho : o.op = .call { callee := .builtin .append, args := #[s, x], argTypes := #[S, S] }) (hty : o.type = ty) (hs : A.eval s = v) (hx : A.eval x = u)
    (hrun : (Builtin.append_ #[S, S] ty #[v, u]).run P w = .ok r w') (hK : wpList P ops Q rest (A.put o.dst r) w') : wpList P ops Q (o :: rest) A w :=
  wpList_step fun K hK' => by
    rw [if_pos hgd]
    subst hty
    have := hK' _ _ hK
    unfold Oper.wp
    simp [execOp, ho, resolve, invoke, builtin, hs, hx, hrun, Result.andThen]
    exact this
theorem nbf4 (a0 a1 a2 a3 : Value) (a : Option Addr) (n c : Nat) (w : World) : (Instr.field 166 (.agg #[a0, a1, a2, a3, .slice a n c]) 4).run Tryz.prog w = .ok (.slice a n c) w := by
  simp only [Instr.field, asAgg, Sem.run_bind, Result.andThen_ok, run_underlying Tryz.underlying166]
  simp only [List.getElem?_toArray, List.getElem?_cons_zero, List.getElem?_cons_succ, Sem.run_bind, Sem.run_pure, Result.andThen_ok, part, isAgg, run_underlying Tryz.underlying115]
  rfl
/-- One more frame. -/
theorem FrsW.app {w : World} {kd : Nat → RoleA} {B : Nat} {a : Option Addr} {n c : Nat} {fs : List (List Nat)} (h : FrsW w kd B a n c fs) {a1 : Option Addr} {c1 : Nat} {L : List Nat} (hr : OwnB w B a1 L.length c1 L) (hL : L.length ≤ 2000) (hk : ∀ g, (Value.slice a1 L.length c1).ownBlock = some g → kd g = .no) (hf : ∀ g, w.heap.size ≤ g → kd g = .no) (hB : B ≤ w.heap.size) (hn : n ≤ 1000) (ty : TypeId) :
    ∃ g c' w', (Builtin.append_ #[115, 115] ty #[.slice a n c, .slice (some ⟨w.heap.size, 0, none⟩) 1 1]).run Tryz.prog (w.alloc (.cells #[.slice a1 L.length c1] 24)) = .ok (.slice (some ⟨g, 0, none⟩) (n + 1) c') w' ∧ FrsW w' kd B (some ⟨g, 0, none⟩) (n + 1) c' (fs ++ [L]) ∧ Fr (fun k => kd k = .no ∧ B ≤ k) w w' := by
  obtain ⟨bs, h1, h2, h3, h4⟩ := h.ex
  obtain ⟨W2, hW2⟩ : ∃ W2, W2 = w.alloc (.cells #[.slice a1 L.length c1] 24) := ⟨_, rfl⟩
  have hb2 : Below w.heap.size w W2 := by rw [hW2]; exact (Below.refl _ _).alloc (Nat.le_refl _) _
  have st2 := Stc.new w [.slice a1 L.length c1] 24 W2 hW2
  have hz2 : W2.heap.size = w.heap.size + 1 := by rw [hW2]; simp
  obtain ⟨g, c', w3, hrun, ho3, hgr, hwh, hgl⟩ := OwnG.app layD (OwnG.below h2 hb2) ty ⟨a1, L.length, c1, L⟩ ⟨w.heap.size, 0, none⟩ (fun j u hj => by
    rcases j with _ | j
    · have e1 : u = .slice a1 L.length c1 := by simpa [bdC] using hj.symm
      subst e1
      exact st2.cell 0 _ rfl
    · simp [bdC] at hj) (by unfold maxLen; omega) (by omega) (by omega)
  have hfr3 : Fr (fun k => (Value.slice a n c).ownBlock = some k) W2 w3 := Fr.grown hgr (fun k hk => hk)
  have hro : ∀ k, (Value.slice a n c).ownBlock = some k → kd k = .no ∧ B ≤ k := fun k hk => ⟨h3 k hk, (h2.own.lt k hk).1⟩
  have hcell : ∀ k, (Value.slice a n c).ownBlock = some k → ∃ cur, W2.heap[k]? = some (.cells cur 24 (0, 0)) := fun k hk => by
    rcases (OwnG.below h2 hb2).own.2 with ⟨hv, _⟩ | ⟨g', cap, cur, hv, _, hh, _⟩
    · rw [hv] at hk; cases hk
    · rw [hv] at hk; cases hk; exact ⟨cur, hh⟩
  rw [← hW2]
  refine ⟨g, c', w3, hrun, ⟨bs ++ [⟨a1, L.length, c1, L⟩], by simp [h1], ho3, fun k hk => ?_, fun b hb => ?_⟩, (Fr.of_below hb2).trans (hfr3.mono (fun k _ e => hro k e))⟩
  · obtain rfl : g = k := Option.some.inj hk
    rcases hwh with e | e
    · exact h3 g e
    · exact hf _ (by rw [e]; exact hb2.size)
  · have hz3 := hfr3.size
    have hgne : ∀ k, k < w.heap.size → (Value.slice a n c).ownBlock ≠ some k → (Value.slice (some ⟨g, 0, none⟩) (n + 1) c').ownBlock ≠ some k := fun k hk hne e => by
      obtain rfl : g = k := Option.some.inj e
      rcases hwh with e2 | e2
      · exact hne e2
      · have e3 : g = W2.heap.size := e2
        omega
    rcases List.mem_append.1 hb with hb | hb
    · obtain ⟨b1, b2⟩ := h4 b hb
      refine ⟨Sl.frA (b1.below hb2) hfr3 (fun k o e hQ => (b2 k o e).2.2.2 hQ), fun k o e => ?_⟩
      obtain ⟨e1, e2, e3, e4⟩ := b2 k o e
      exact ⟨e1, e2, by omega, hgne k e3 e4⟩
    · simp at hb
      subst hb
      have hne : ∀ k, (Value.slice a1 L.length c1).ownBlock = some k → (Value.slice a n c).ownBlock ≠ some k := fun k hk1 e => by
        obtain ⟨cur', hc'⟩ := hcell k e
        rcases hr.own.2 with ⟨hv, _⟩ | ⟨g', cap, cur, hv, _, hh, _⟩
        · rw [hv] at hk1; cases hk1
        · have hlt := (hr.own.lt k hk1).2
          rw [hv] at hk1
          cases hk1
          rw [hb2.block g' hlt, hh] at hc'
          cases hc'
      have hat : ∀ k o, a1 = some ⟨k, o, none⟩ → (Value.slice a1 L.length c1).ownBlock = some k := fun k o e => by
        rcases hr.own.2 with ⟨hv, _⟩ | ⟨g', cap, cur, hv, _, hh, _⟩
        · have e1 := (Value.slice.inj hv).1
          rw [e1] at e
          cases e
        · rw [e]; rfl
      refine ⟨Sl.frA ((hr.sl (by omega)).below hb2) hfr3 (fun k o e hQ => hne k (hat k o e) hQ), fun k o e => ?_⟩
      have := hr.own.lt k (hat k o e)
      exact ⟨hk k (hat k o e), this.1, by omega, hgne k this.2 (hne k (hat k o e))⟩
theorem FrsW.grow {w w' : World} {kd kd' : Nat → RoleA} {B : Nat} {a : Option Addr} {n c : Nat} {fs : List (List Nat)} (h : FrsW w kd B a n c fs) (hg : GrowA kd kd' w w') : FrsW w' kd' B a n c fs := by
  obtain ⟨bs, h1, h2, h3, h4⟩ := h.ex
  refine ⟨bs, h1, OwnG.fr h2 hg.fr (fun k hk e => e (h3 k hk)), fun k hk => hg.no k (h2.own.lt k hk).2 (h3 k hk), fun b hb => ⟨Sl.frA (h4 b hb).1 hg.fr (fun k o e hQ => hQ ((h4 b hb).2 k o e).1), fun k o e => ?_⟩⟩
  obtain ⟨e1, e2, e3, e4⟩ := (h4 b hb).2 k o e
  exact ⟨hg.no k e3 e1, e2, Nat.lt_of_lt_of_le e3 hg.fr.size, e4⟩
theorem FrsW.len {w : World} {kd : Nat → RoleA} {B : Nat} {a : Option Addr} {n c : Nat} {fs : List (List Nat)} (h : FrsW w kd B a n c fs) : n = fs.length := by
  obtain ⟨bs, h1, h2, h3, h4⟩ := h.ex
  rw [← h1, List.length_map, h2.len]
def knX (m : Nat) (t : Int) : Nbr := ⟨true, m, t, 0, none, 0, 0, []⟩
def wsF (mac m : Nat) (x : Nbr) : List (List Nat) := x.ws.map fun b => epV m mac 2048 b.zs
structure LearnP (w : World) (kd : Nat → RoleA) (p mac ip : Nat) (now lost : Int) (D : List (Nat × Nbr)) (fs : List (List Nat)) (e : Ending) (w' : World) : Prop where
  ex : ∃ kd' a n c, CaW w' kd' p mac ip now lost D ∧ GrowA kd kd' w w' ∧ e = .returned (.slice a n c) ∧ FrsW w' kd' w.heap.size a n c fs
set_option maxRecDepth 100000 in
set_option maxHeartbeats 2000000 in
theorem learn_any {w : World} {kd : Nat → RoleA} {p mac ip : Nat} {now lost : Int} {D : List (Nat × Nbr)} (h : CaW w kd p mac ip now lost D) (q m : Nat) (hq : q < 4294967296) (hm : m < 281474976710655) (hl : (lookD D q).isSome = true ∨ D.length < 8) :
    Calls Tryz.prog 201 #[.pointer (some ⟨p, 0, none⟩), .int .u32 (q : Nat), .int .u64 (m : Nat)] w (LearnP w kd p mac ip now lost (putD D q (knX m now)) (wsF mac m (nbAt D q))) := by
  obtain ⟨nv, hst, hlook⟩ := h.looks
  have hrun := hlook w (Below.refl _ _) q hq false
  simp only [Bool.false_eq_true, if_false] at hrun
  have c3 := hst.cell 3 _ rfl
  have hx : NbW w kd q (nbAt D q) ∧ (nbAt D q).ws.length ≤ 4 := by
    unfold nbAt
    cases hl : lookD D q with
    | none => exact ⟨zeroNb_W _ _ _, by show 0 ≤ 4; omega⟩
    | some x => exact ⟨(h.each _ (lookD_mem hl)).1 trivial, (h.each _ (lookD_mem hl)).2.1.len⟩
  obtain ⟨x, hxx⟩ : ∃ x, x = nbAt D q := ⟨_, rfl⟩
  rw [← hxx] at hrun hx ⊢
  clear hxx hlook
  obtain ⟨kn, nm, at_, ak, wa, wn, wc, ws⟩ := x
  unfold Nbr.v at hrun
  dsimp only at hrun hx
  have hwl := hx.1.row.len
  dsimp only at hwl
  have HX := (show Hid _ from hx)
  have HH := (show Hid _ from And.intro h (And.intro hst hl))
  have hwn : wn ≤ 4 := by have := hx.2; omega
  have HWL := (show Hid _ from hwl)
  have hf4 := nbf4
  have hrow := hx.1.row
  clear hx h hst hl hwl
  go_enter Tryz.func201, Tryz.ntmps201
  go_wp2
  go_loopw [7, 18] (fun u7 u18 wr => ∃ (i : Nat) (a1 : Option Addr) (c1 : Nat), i ≤ wn ∧ u18 = .int .i64 (i : Nat) ∧ u7 = .slice a1 i c1 ∧ Fr (fun k => kd k = .no ∧ w.heap.size ≤ k) w wr ∧ FrsW wr kd w.heap.size a1 i c1 ((ws.take i).map fun b => epV m mac 2048 b.zs)) (fun _ u18 _ => wn - (intOf u18).toNat)
  case atStart => exact ⟨0, none, 0, by omega, rfl, rfl, Fr.refl _ _, FrsW.nil _ _ _⟩
  case round =>
    obtain ⟨i, a1, c1, hi, rfl, rfl, hfw, hfs⟩ := hrel
    obtain ⟨h, hst, hl⟩ := HH.out
    have hcw := h.fr hfw (fun g _ e => .inl e.1)
    by_cases hlt : i < wn
    · have hlt1 : (i : Int) < (wn : Int) := by omega
      obtain ⟨g, rfl, _, hgl, hnc, _, hcell, _⟩ := OwnG.at_ hrow (fun _ => rfl) (by omega)
      obtain ⟨b, hb⟩ : ∃ b, ws[i]? = some b := ⟨_, List.getElem?_eq_getElem (by have := HWL.out; omega)⟩
      have hbm := List.mem_of_getElem? hb
      have hrk := HX.out.1.rk g rfl
      have cb := hcell i b hb 0 _ rfl
      rw [Nat.mul_one, Nat.add_zero] at cb
      have cb2 := (hfw.cell ⟨g, i, none⟩ hgl (fun e => by rw [hrk] at e; cases e.1)).trans cb
      obtain ⟨s1, s2, s3, gb, off, s4, s5, s6⟩ := HX.out.1.bs b hbm
      have hsl : Sl wr b.a b.n b.c b.zs := Sl.frA s1 hfw (fun k o e hQ => by rw [s4] at e; cases e; rw [s6] at hQ; cases hQ.1)
      obtain ⟨nv2, hst2, _⟩ := hcw.looks
      have HFR := (show Hid _ from frame_any hst2 (by have := hcw.mac1; omega) m 2048 b.a b.n b.c b.zs (by omega) (by omega) hsl)
      have HTK : Hid ((ws.take (i + 1)).map (fun b => epV m mac 2048 b.zs) = (ws.take i).map (fun b => epV m mac 2048 b.zs) ++ [epV m mac 2048 b.zs]) := by
        show _ = _
        rw [List.take_add_one, hb]
        simp
      have hbl : b.zs.length ≤ 1500 := by rw [s1.len]; omega
      have hLl := epV_le m mac 2048 b.zs hbl
      have HY := (show Hid _ from And.intro hcw (And.intro hfw hfs))
      obtain ⟨ba, bn, bc, bz⟩ := b
      dsimp only at *
      clear h hst hl hcw hfw hfs hcell cb s1 s4 s6 hsl hst2 hbm hb hbl
      obtain ⟨L, hL⟩ : ∃ L, L = epV m mac 2048 bz := ⟨_, rfl⟩
      rw [← hL] at HFR HTK hLl
      clear hL
      go_wp2_with fail
      refine Calls.mono HFR.out ?_
      rintro e w2 ⟨⟨a2, c2, rfl, hr2⟩, hb2⟩
      obtain ⟨hcw, hfw, hfs⟩ := HY.out
      obtain ⟨g7, c7, w7, hr7, hfs7, hf7⟩ := FrsW.app (hfs.below hb2) (hr2.base hfw.size) (by omega) (fun g hg => hcw.fresh g (hr2.own.lt g hg).1) (hcw.below hb2).fresh (Nat.le_trans hfw.size hb2.size) (by omega) 115
      have HZ := (show Hid _ from And.intro hfs7 ((hfw.trans (Fr.of_below hb2)).trans hf7))
      clear hcw hfw hfs hr2 hb2 hfs7 hf7
      go_wp2_with (at_builtin; refine app_eq_list rfl _ _ rfl rfl rfl rfl hr7 ?_)
      go_roundw
      case rel => exact ⟨i + 1, _, c7, by omega, by go_num, rfl, HZ.out.2, by rw [HTK.out]; exact HZ.out.1⟩
      case measure => simp [intOf]; omega
    · obtain rfl : i = wn := by omega
      obtain ⟨nv2, hst2, _⟩ := hcw.looks
      have c2 := hst2.cell 2 _ rfl
      have HK := (show Hid _ from keepD (hcw.weak (fun _ _ => trivial)) (knX m now) ⟨OwnG.nil _ _, fun g hg => (by cases hg), fun b hb => (by cases hb)⟩ ⟨hm, hcw.now0, Int.le_refl _, Int.le_refl _, by show (0 : Int) ≤ 3; omega, by show 0 ≤ 4; omega, fun _ => rfl⟩ hq hl)
      unfold Nbr.v knX at HK
      dsimp only at HK
      have HY := (show Hid _ from And.intro hfw hfs)
      clear h hst hl hcw hfw hfs hst2
      go_wp2_with fail
      refine Calls.mono HK.out ?_
      rintro e w3 ⟨rfl, kd3, hc3, hg3⟩
      have HC := (show Hid _ from And.intro hc3 hg3)
      clear hc3 hg3
      go_wp2
      go_ret
      obtain ⟨hc3, hg3⟩ := HC.out
      obtain ⟨hfw, hfs⟩ := HY.out
      have ht : ws.take i = ws := List.take_of_length_le (by have := HWL.out; omega)
      refine ⟨kd3, a1, i, c1, hc3, ⟨?_, fun g hg hn => hg3.no g (Nat.lt_of_lt_of_le hg hfw.size) hn⟩, rfl, ?_⟩
      · have h1 : Fr (fun g => kd g ≠ .no) w wr := hfw.mono (fun k hk e => by omega)
        exact h1.trans hg3.fr
      · have := hfs.grow hg3
        rw [ht] at this
        exact this
end Go.Proofs.YtfjpckaphfdfnaaGreatDoor
