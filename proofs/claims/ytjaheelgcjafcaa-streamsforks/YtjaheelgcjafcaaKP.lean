/- trunklineref13: tell: the message's bytes; a free one. -/
import Derived.Test.YtjaheelgcjafcaaKO
import Derived.Test.YtjaheelgcjafcaaRgY
namespace Go.Proofs.Ytjaheelgcjafcaa
open Go.RowKit
theorem TeC.p_lt {W0 w : World} {p : Nat} {r : Rw} {nx : List Nat} {E : List ChQ} {V : List RyD} {Z : Nat → Prop} {B : Nat} {la : Option Addr} {L lc : Nat} {xs : List ChQ} (h : TeC W0 w p r nx E V Z B la L lc xs) : p < w.heap.size := h.h.st.lt
/-- The streams behind tell where nothing more of theirs is written. -/
theorem TeS.rfs {W0 w : World} {p : Nat} {r : Rw} {nx : List Nat} {E : List ChQ} {V : List RyD} {Z : Nat → Prop} {B : Nat} {la : Option Addr} {L lc : Nat} {xs : List ChQ} {ka : Option Addr} {kc : Nat} {wf w' : World} {Q : Nat → Prop}
    (hS : TeS W0 w p r nx E V Z B la L lc xs ka kc wf) (hf : Fr Q wf w') (hq : ∀ g, Q g → w.heap.size ≤ g ∧ ∀ n, (Value.slice ka n kc).ownBlock ≠ some g) :
    RfS W0 w' p ⟨r.aA, r.aC, ka, kc, r.vA, r.vC⟩ nx (restQ E xs) V (fun g => Z g ∨ (w.heap.size ≤ g ∧ g < w'.heap.size)) := by
  have h := hS.c.h
  have hp := h.st.lt
  have hz : ∀ g, Z g → ¬ Q g := fun g hg e => by have := (h.zp g hg).2; have := (hq g e).1; omega
  have hzp : ∀ g, Z g → ¬ g = p := fun g hg => (h.zp g hg).1
  have hpW := h.pn
  have hb : Below W0.heap.size W0 wf := ⟨hS.fr.os.trans h.b0.os, hS.fr.tape.trans h.b0.tape, hS.fr.output.trans h.b0.output, Nat.le_trans h.b0.size hS.fr.size, fun k hk => (hS.fr.block k (Nat.lt_of_lt_of_le hk h.b0.size) (by omega)).trans (h.b0.block k hk)⟩
  have hlen : (restQ E xs).length ≤ E.length := List.length_filter_le _ _
  refine ⟨hS.st.fr hf (fun e => by have := (hq p e).1; omega), ((h.ra.fr hS.fr hzp).fr hf hz).mono (fun g hg => .inl hg), ?_, ((h.rv.fr hS.fr hzp).fr hf hz).mono (fun g hg => .inl hg), fun x hx => h.ok x (List.mem_filter.1 hx).1,
    ⟨hf.os.trans hb.os, hf.tape.trans hb.tape, hf.output.trans hb.output, Nat.le_trans hb.size hf.size, fun k hk => (hf.block k (Nat.lt_of_lt_of_le hk hb.size) (fun e => by have := (hq k e).1; have := h.b0.size; omega)).trans (hb.block k hk)⟩,
    fun x hx => ⟨((h.sl x hx).1.frA hS.fr (fun b off e _ e2 => hzp b ((h.sl x hx).2 b off e) e2)).frA hf (fun b off e _ hQ => hz b ((h.sl x hx).2 b off e) hQ), fun g off e => .inl ((h.sl x hx).2 g off e)⟩, h.sm, h.n1, h.n8, h.nv, Nat.le_trans hlen h.el, h.vl, fun g hg => ?_, h.pn⟩
  · exact OwnG.rowR (OwnG.fr hS.row hf (fun g hg hQ => (hq g hQ).2 _ hg)) (fun _ => rfl) _ (fun g h1 h2 => .inr ⟨h1, h2⟩)
  · rcases hg with hg | hg
    · have := h.zp g hg
      exact ⟨this.1, Nat.lt_of_lt_of_le this.2 (Nat.le_trans hS.fr.size hf.size)⟩
    · omega
/-- The message's bytes, as far as k pieces. -/
structure TeJ (wz : World) (θ st ss pp : Nat) (fr : Bool) (ra : Option Addr) (rc : Nat) (zs : List Nat) (wr : World) : Prop where
  fr_ : Fr (fun g => g = θ ∨ wz.heap.size ≤ g) wz wr
  st : Stc wr θ [.int .u16 (st : Nat), .int .u16 (ss : Nat), .int .u32 (pp : Nat), .bool fr, .slice ra zs.length rc]
  own : OwnB wr wz.heap.size ra zs.length rc zs
def flQ (xs : List ChQ) : List Nat := xs.flatMap (·.xZ)
theorem flQ_snoc {xs : List ChQ} {k : Nat} {z : ChQ} (h : xs[k]? = some z) : flQ (xs.take (k + 1)) = flQ (xs.take k) ++ z.xZ := by
  have hi := (List.getElem?_eq_some_iff.1 h).1
  have e : xs[k] = z := (List.getElem?_eq_some_iff.1 h).2
  unfold flQ
  rw [List.take_succ_eq_append_getElem hi, e, List.flatMap_append]
  simp
theorem flQ_le {W0 : World} {xs : List ChQ} (h : ∀ x ∈ xs, QOk W0 x) : ∀ k, k ≤ xs.length → (flQ (xs.take k)).length ≤ 1452 * k := by
  intro k
  induction k with
  | zero => intro _; simp [flQ]
  | succ k ih =>
    intro hk
    obtain ⟨z, hz⟩ : ∃ z, xs[k]? = some z := ⟨_, List.getElem?_eq_getElem (by omega)⟩
    have hzo := h z (List.mem_of_getElem? hz)
    have hl := (ChQ.sl hzo.wf).len
    have := hzo.n2
    have := ih (by omega)
    rw [flQ_snoc hz, List.length_append, Nat.mul_succ]
    omega
theorem joinQ_eq {xs : List ChQ} {x : ChQ} (h : xs[0]? = some x) : joinQ xs = ⟨x.st, if x.pc.free then 0 else x.ss, x.pp, x.pc.free, flQ xs⟩ := by
  cases xs with
  | nil => cases h
  | cons y ys =>
    obtain rfl : y = x := by simpa using h
    unfold joinQ joinM flQ
    rw [List.flatMap_map]
    rfl
set_option maxRecDepth 100000 in
set_option maxHeartbeats 8000000 in
set_option tactic.hygienic false in
/-- What is left: a message that is not free. -/
noncomputable def telB : PSigma fun G1 : Prop => Hid G1 → telA.1 := by
  apply PSigma.mk
  case snd =>
    intro h0
    unfold telA
    dsimp only
    intros
    have hc := hS.c
    obtain ⟨hx0, hfr, hss⟩ := HX0.out
    have hlw : OwnG 47 14 ChQ.vals wz B (some ⟨lb, 0, none⟩) L lc xs := OwnG.fr hc.own hS.fr (fun g hg e => by have := (hc.own.own.lt g hg).1; omega)
    obtain ⟨lb2, e2, _, hlb, hlcap, _, hlc, _⟩ := hlw.at_ (fun _ => rfl) hLp
    obtain rfl : lb = lb2 := by injection e2 with e2; injection e2
    have hlbw : lb < w.heap.size := (hc.own.own.lt lb rfl).2
    have hwz := hS.fr.size
    have hθz := hbx.lt
    have HNK := (show Hid _ from hnk)
    have HZ := (show Hid _ from And.intro hS (And.intro hlc (And.intro hQ HX0)))
    have HJ0 : Hid (TeJ wz θ x.st ss x.pp fr none 0 [] wz) := ⟨Fr.refl _ _, hbx, ⟨rfl, World.ownsRow_nil _ _ _ _, fun i => by simp⟩⟩
    have HBz : Hid (Below W0.heap.size W0 wz) := ⟨hS.fr.os.trans hc.h.b0.os, hS.fr.tape.trans hc.h.b0.tape, hS.fr.output.trans hc.h.b0.output, Nat.le_trans hc.h.b0.size hS.fr.size, fun k hk => (hS.fr.block k (Nat.lt_of_lt_of_le hk hc.h.b0.size) (by have := hc.h.pn; omega)).trans (hc.h.b0.block k hk)⟩
    have hW0w := hc.h.b0.size
    clear hnk hS hbx hlc hQ HX0 hx0 hfr hss hc hlw e2
    go_loopw [10] (fun kv wr => ∃ (k : Nat) (ra : Option Addr) (rc : Nat), k ≤ L ∧ kv = .int .i64 (k : Nat) ∧ TeJ wz θ x.st ss x.pp fr ra rc (flQ (xs.take k)) wr) (fun kv _ => L - (intOf kv).toNat)
    case atStart => exact ⟨0, none, 0, by omega, rfl, HJ0.out⟩
    case round =>
      obtain ⟨k, ra, rc, hkL, rfl, hJ⟩ := hrel
      clear HJ0
      by_cases hlt2 : k < L
      · have g2 : (k : Int) < (L : Int) := by omega
        have g3 : (0 : Int) ≤ (k : Int) := by omega
        obtain ⟨z, hz⟩ : ∃ z, xs[k]? = some z := ⟨_, List.getElem?_eq_getElem (by omega)⟩
        have hzo := HZ.out.1.c.ok z (List.mem_of_getElem? hz)
        have hn2 := hzo.n2
        have hle := flQ_le HZ.out.1.c.ok k (by omega)
        have hfs := flQ_snoc hz
        obtain ⟨zs, hzs⟩ : ∃ zs, zs = flQ (xs.take k) := ⟨_, rfl⟩
        rw [← hzs] at hJ hle hfs
        obtain ⟨zn, hzn⟩ : ∃ n, n = zs.length := ⟨_, rfl⟩
        rw [← hzn] at hle
        have hbd : Below W0.heap.size W0 wr.drew := by
          refine (?_ : Below W0.heap.size W0 wr).drew
          have b := HBz.out
          have f := hJ.fr_
          exact ⟨f.os.trans b.os, f.tape.trans b.tape, f.output.trans b.output, Nat.le_trans b.size f.size, fun i hi => (f.block i (Nat.lt_of_lt_of_le hi b.size) (by have := b.size; omega)).trans (b.block i hi)⟩
        have hsl := (ChQ.sl hzo.wf).below hbd
        have bd : Below wr.heap.size wr wr.drew := (Below.refl _ _).drew
        have hst := hJ.st.below bd
        have how := hJ.own.below bd
        rw [← hzn] at hst how
        have n4 : wr.drew.cell? ⟨θ, 4, none⟩ = some (.slice ra zn rc) := hst.cell 4 _ rfl
        have c13 : wr.drew.cell? ⟨lb, k * 14 + 13, none⟩ = some (.slice z.xA z.xN z.xC) := (hJ.fr_.cell ⟨lb, k * 14 + 13, none⟩ hlb (by show ¬ (lb = θ ∨ wz.heap.size ≤ lb); omega)).trans (HZ.out.2.1 k z hz 13 _ rfl)
        obtain ⟨a2, c2, Vb, hrun, hob, hgr, _⟩ := app_run wr.drew 31 wz.heap.size ra zn rc zs how z.xA z.xN z.xC z.xZ hsl (by omega) (Nat.le_trans hJ.fr_.size bd.size)
        have hf2 : Fr (fun g => wz.heap.size ≤ g) wr.drew Vb := Fr.grown hgr (fun g hg => (how.own.lt g hg).1)
        have hstb := hst.fr hf2 (by show ¬ wz.heap.size ≤ θ; omega)
        have nb4 := hstb.cell 4 _ rfl
        have nbf := hstb.free 4
        have c13b : Vb.cell? ⟨lb, k * 14 + 13, none⟩ = some (.slice z.xA z.xN z.xC) := (hf2.cell ⟨lb, k * 14 + 13, none⟩ (Nat.lt_of_lt_of_le hlb (Nat.le_trans hJ.fr_.size bd.size)) (by show ¬ wz.heap.size ≤ lb; omega)).trans c13
        obtain ⟨Vc, hVc⟩ : ∃ Vc, Vc = Vb.setCell ⟨θ, 4, none⟩ (.slice a2 (zn + z.xN) c2) := ⟨_, rfl⟩
        have hfc : Fr (fun g => g = θ) Vb Vc := by rw [hVc]; exact Fr.setCell _ _ _ _ rfl
        have HF : Hid (TeJ wz θ x.st ss x.pp fr a2 c2 (flQ (xs.take (k + 1))) Vc) := by
          have hl : (flQ (xs.take (k + 1))).length = zn + z.xN := by rw [hfs, List.length_append, (ChQ.sl hzo.wf).len, hzn]
          refine ⟨?_, ?_, ?_⟩
          · exact ((hJ.fr_.trans (Fr.of_below bd)).trans (hf2.mono (fun g _ h => .inr h))).trans (hfc.mono (fun g _ h => .inl h))
          · rw [hl, hVc]
            exact hstb.set 4 _
          · rw [hl, hfs]
            exact hob.fr hfc (fun g h1 _ e => by have e : g = θ := e; omega)
        have HV := (show Hid _ from hVc)
        clear hJ hst how hob hgr hf2 hstb hVc hfc hbd hsl bd hz hzo hfs hzs hzn
        go_wp2_with fail
        refine wp_region_stage mixedX [7, 9] (fun stgN W => match stgN with | 0 => W = wr.drew | 1 => W = Vb | _ => W = Vc) (fun W => W.cell? ⟨θ, 4, none⟩ = some (.slice ra zn rc) ∧ W.cell? ⟨lb, k * 14 + 13, none⟩ = some (.slice z.xA z.xN z.xC)) [(93, .pointer (some ⟨θ, 4, none⟩)), (94, .slice ra zn rc), (95, .slice (some ⟨lb, 0, none⟩) L lc), (96, .int .i64 (k : Nat)), (97, .pointer (some ⟨lb, k * 14, none⟩)), (98, .pointer (some ⟨lb, k * 14 + 13, none⟩)), (99, .slice z.xA z.xN z.xC), (100, .slice a2 (zn + z.xN) c2), (101, .pointer (some ⟨θ, 4, none⟩))] ?Z101 ?hZ101 (by kernel_rfl) (by kernel_rfl) (by kernel_rfl) (by kernel_rfl) (by kernel_rfl) ?h0101 ?hS101 (.inl (by kernel_rfl)) ?hops101 ?he101 (by kernel_rfl) (by decide)
        case hZ101 => simp only [List.foldl_cons, List.foldl_nil, List.setIfInBounds_toArray, List.set_cons_zero, List.set_cons_succ]; rfl
        case h0101 => rfl
        case hS101 =>
          intro k W hk hW
          have hk : k < 2 := hk
          obtain rfl | rfl : k = 0 ∨ k = 1 := by omega
          · have hW : W = wr.drew := hW; rw [hW]; exact ⟨n4, c13⟩
          · have hW : W = Vb := hW; rw [hW]; exact ⟨nb4, c13b⟩
        case hops101 =>
          refine ⟨?_, ?_, ?_, ?_, ?_, ?_, ?_, ?_, ?_, ?_, trivial⟩
          · exact stg_val (by rfl) (by rfl) (fun W hW => by obtain ⟨y0, y1⟩ := hW; go_simp; (try with_reducible rfl); (try omega))
          · exact stg_val (by rfl) (by rfl) (fun W hW => by obtain ⟨y0, y1⟩ := hW; go_simp; (try with_reducible rfl); (try omega))
          · exact stg_val (by rfl) (by rfl) (fun W hW => by obtain ⟨y0, y1⟩ := hW; go_simp; (try with_reducible rfl); (try omega))
          · exact stg_val (by rfl) (by rfl) (fun W hW => by obtain ⟨y0, y1⟩ := hW; go_simp; (try with_reducible rfl); (try omega))
          · exact stg_val (by rfl) (by rfl) (fun W hW => by obtain ⟨y0, y1⟩ := hW; go_simp; (try with_reducible rfl); (try omega))
          · exact stg_val (by rfl) (by rfl) (fun W hW => by obtain ⟨y0, y1⟩ := hW; go_simp; (try with_reducible rfl); (try omega))
          · exact stg_val (by rfl) (by rfl) (fun W hW => by obtain ⟨y0, y1⟩ := hW; go_simp; (try with_reducible rfl); (try omega))
          · exact stg_run (by rfl) (by rfl) (fun W hW => by have hW : W = wr.drew := hW; subst hW; exact ⟨Vb, run_appX rfl rfl rfl rfl hrun, rfl⟩)
          · exact stg_val (by rfl) (by rfl) (fun W hW => by obtain ⟨y0, y1⟩ := hW; go_simp; (try with_reducible rfl); (try omega))
          · exact stg_skip (by rfl) (by rfl) rfl (fun W hW => by have hW : W = Vb := hW; subst hW; refine ⟨Vc, ?_, rfl⟩; rw [HV.out]; go_simp; try rfl)
        case he101 =>
        rintro W9 hW9
        have hW9' : W9 = Vc := hW9
        subst hW9'
        clear n4 nb4 nbf c13 c13b hrun
        go_wp2
        go_roundw
        case rel => exact ⟨k + 1, a2, c2, by omega, by go_num, HF.out⟩
        case measure => simp [intOf]; omega
      · obtain rfl : k = L := by omega
        have g2 : ¬ (k : Int) < (k : Int) := by omega
        have e1 : xs.take k = xs := List.take_of_length_le (by omega)
        rw [e1] at hJ
        have b0 := hJ.st.cell 0 _ rfl
        have b1 := hJ.st.cell 1 _ rfl
        have b2 := hJ.st.cell 2 _ rfl
        have b3 := hJ.st.cell 3 _ rfl
        have b4 := hJ.st.cell 4 _ rfl
        have hθr := hJ.st.lt
        have HJ := (show Hid _ from hJ)
        clear hJ e1
        cases fr with
        | true =>
          clear h0
          go_wp2
          obtain ⟨hx0, hfr, hss⟩ := HZ.out.2.2.2
          have hS := HZ.out.1
          have hm := joinQ_eq hx0
          rw [← hfr] at hm
          have hm : joinQ xs = ⟨x.st, 0, x.pp, true, flQ xs⟩ := hm
          have hss : ss = 0 := hss
          subst hss
          have hT : tellV nx (Vs.map RyD.mn) (joinQ xs) k = ((nx, Vs.map RyD.mn), [joinQ xs]) := by unfold tellV; rw [hm, if_pos rfl]
          have hJ := HJ.out
          have ba : Below wr.heap.size wr (wr.alloc (.cells #[.int .u16 (x.st : Nat), .int .u16 (0 : Nat), .int .u32 (x.pp : Nat), .bool true, .slice ra (flQ xs).length rc] 51)) := (Below.refl _ _).alloc (Nat.le_refl _) _
          have hfr2 := hJ.fr_.trans (Fr.of_below ba)
          have hrow := fun g (hg : g = θ ∨ wz.heap.size ≤ g) => (show w.heap.size ≤ g ∧ ∀ n, (Value.slice ka n kc).ownBlock ≠ some g from ⟨by omega, fun n e => by
            have h1 : (Value.slice ka (restQ E xs).length kc).ownBlock = some g := by cases ka <;> exact e
            rcases hg with rfl | hg
            · exact HNK.out _ h1 rfl
            · have := (hS.row.own.lt g h1).2; omega⟩)
          refine HZ.out.2.2.1 _ _ ⟨⟨_, 1, 1, rfl, ?_⟩, ⟨_, nx, Vs, _, hS.rfs hfr2 hrow, by rw [hT], by rw [hT], fun g hg => hg.elim .inl (fun h => .inr h.1)⟩, ?_⟩
          · rw [hT]
            exact ⟨wr.heap.size, [(joinQ xs, ra, rc)], rfl, OwnG.one (T := 51) (cf := Mq.v) (fun _ => rfl) wr (joinQ xs, ra, rc) _ (by rw [hm]; rfl), fun y hy => by
              obtain rfl : y = (joinQ xs, ra, rc) := by simpa using hy
              rw [hm]
              exact (hJ.own.sl (by have := flQ_le hS.c.ok xs.length (Nat.le_refl _); rw [List.take_length] at this; omega)).below ba⟩
          · exact (hS.fr.fresh hJ.fr_ (fun g hg => by omega)).trans (Fr.of_below ba)
        | false =>
          clear b0 b1 b2 b4
          go_wp2_with fail
          clear b3
          obtain ⟨wq, hwq⟩ : ∃ x, x = wr := ⟨_, rfl⟩
          subst hwq
          (repeat revert ‹_›); intro h0; exact h0.out
end Go.Proofs.Ytjaheelgcjafcaa
