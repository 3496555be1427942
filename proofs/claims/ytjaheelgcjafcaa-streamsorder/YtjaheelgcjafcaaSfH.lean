/- streams: how many pieces, how many bytes are held. -/
import Derived.Test.YtjaheelgcjafcaaSfB
namespace Go.Proofs.Ytjaheelgcjafcaa
open Go.RowKit Go.MapKept Go.Maps
theorem perm_sum {l l' : List Nat} (h : l.Perm l') : l.sum = l'.sum := by
  induction h with
  | nil => rfl
  | cons x _ ih => simp only [List.sum_cons]; omega
  | swap x y l => simp only [List.sum_cons]; omega
  | trans _ _ h1 h2 => exact h1.trans h2
section
variable {α : Type}
def lkN (f : α → Nat) (D : List (Nat × α)) (q : Nat) : Nat := ((lookD D q).map f).getD 0
theorem sum_keys (f : α → Nat) : ∀ (D : List (Nat × α)), Srt D → ((D.map (·.1)).map (lkN f D)).sum = sumD f D
  | [], _ => rfl
  | y :: D, h => by
    obtain ⟨h1, h2⟩ := List.pairwise_cons.1 h
    have ih := sum_keys f D h2
    have e : (D.map (·.1)).map (lkN f (y :: D)) = (D.map (·.1)).map (lkN f D) := by
      refine List.map_congr_left (fun q hq => ?_)
      obtain ⟨z, hz, rfl⟩ := List.mem_map.1 hq
      have := h1 z hz
      unfold lkN
      rw [show lookD (y :: D) z.1 = lookD D z.1 from by rw [lookD]; exact if_neg (by omega)]
    rw [List.map_cons, List.map_cons, e, List.sum_cons, ih]
    have e2 : lkN f (y :: D) y.1 = f y.2 := by unfold lkN; rw [lookD, if_pos rfl]; rfl
    rw [e2]
    rfl
theorem sum_seen (f : α → Nat) (D : List (Nat × α)) (hs : Srt D) (ss : List Nat) (hn : ss.Nodup) (hm : ∀ q, q ∈ ss ↔ (lookD D q).isSome = true) : (ss.map (lkN f D)).sum = sumD f D := by
  have hp : ss.Perm (D.map (·.1)) := (List.perm_ext_iff_of_nodup hn hs.nodup).2 (fun q => by rw [hm q, lookD_some_iff])
  rw [perm_sum (hp.map _), sum_keys f D hs]
theorem sum_few (f : α → Nat) (D : List (Nat × α)) (M : Nat) (hM : ∀ y ∈ D, f y.2 ≤ M) : ∀ (ss : List Nat), (ss.map (lkN f D)).sum ≤ M * ss.length
  | [] => Nat.zero_le _
  | q :: ss => by
    have ih := sum_few f D M hM ss
    have h1 : lkN f D q ≤ M := by
      unfold lkN
      cases e : lookD D q with
      | none => exact Nat.zero_le _
      | some x => exact hM _ (lookD_mem e)
    simp only [List.map_cons, List.sum_cons, List.length_cons]
    rw [Nat.mul_add]
    omega
theorem sum_snoc (f : α → Nat) (D : List (Nat × α)) (ss : List Nat) (q : Nat) : ((ss ++ [q]).map (lkN f D)).sum = (ss.map (lkN f D)).sum + lkN f D q := by simp
end
set_option linter.unusedVariables false in
set_option maxRecDepth 100000 in
set_option maxHeartbeats 4000000 in
theorem held_any {w : World} {p nb mb wb : Nat} {wr0 : Nat → Option Addr × Nat} {Y : Nat → Prop} {s : SmS} (h : SmW w p nb mb wb wr0 Y s) :
    Calls Try.prog 16 #[.pointer (some ⟨p, 0, none⟩)] w fun e w' => e = .returned (.tuple #[.int .i64 (s.heldN : Nat), .int .i64 (s.heldB : Nat)]) ∧ Below w.heap.size w w' := by
  have hld := fun ty => h.lenD (Below.refl _ _) ty
  have hdl := h.lenDle
  have hwl := h.lenW
  have hpl := h.st.lt
  have hc1 := h.st.cell 1 _ rfl
  have HDS : Hid (∀ y ∈ s.D, y.2.zs.length ≤ 1452) := fun y hy => by rw [(h.ds y hy).2.len]; exact (h.ds y hy).2.ok.n1
  have HWS : Hid ((∀ y ∈ s.W, byP y.2 ≤ 200000) ∧ ∀ y ∈ s.W, y.2.length ≤ 128) := ⟨fun y hy => by
    have h1 := byP_le y.2 (h.ws y hy).2.small
    have h2 := (h.ws y hy).2.le
    omega, fun y hy => (h.ws y hy).2.le⟩
  have HH := (show Hid _ from h)
  obtain ⟨W0, hrun0, ⟨left0, hit0⟩, hb0, hz0⟩ := h.mp.range (P := Try.prog) (t := 73) Try.underlying73
  obtain ⟨nD, hnD⟩ : ∃ nD, nD = s.D.length := ⟨_, rfl⟩
  rw [← hnD] at hld hdl hit0
  have HND := (show Hid _ from hnD)
  have HI0 := (show Hid _ from And.intro hit0 hb0)
  clear h hnD hit0 hb0 hz0
  go_enter Try.func16, Try.ntmps16
  go_wp2
  clear hld hc1 hrun0
  go_loopw [5] (fun u5 wr => ∃ (ss : List Nat) (left : Nat), MIt ipV IpK wr mb w.heap.size nD (fun q => (lookD s.D q).map Pc.val) ss left ∧ u5 = .int .i64 ((ss.map (lkN (fun x : Pc => x.zs.length) s.D)).sum : Nat) ∧ Below w.heap.size w wr) (fun _ wr => wr.rangeLeft mb w.heap.size)
  case atStart => exact ⟨[], left0, HI0.out.1, rfl, HI0.out.2⟩
  case round =>
    obtain ⟨ss, left, hit, rfl, hb⟩ := hrel
    obtain ⟨wq, hwq⟩ : ∃ wq, wq = wr := ⟨_, rfl⟩
    subst hwq
    have HL := (show Hid _ from hit.left_eq)
    have hfew := sum_few (fun x : Pc => x.zs.length) s.D 1452 HDS.out ss
    rcases hit.next (P := Try.prog) ipKE.inj 0 with ⟨hl0, hall, hrun⟩ | ⟨q, v, w2, left2, hq, hv, hqn, hlt, hrun, hit2, hll, hg2, hs2, hen⟩
    · have HS : Hid ((ss.map (lkN (fun x : Pc => x.zs.length) s.D)).sum = sumD (fun x : Pc => x.zs.length) s.D) := by
        refine sum_seen _ _ HH.out.sd ss hit.nodup (fun q => ⟨fun hq => ?_, fun hq => ?_⟩)
        · have := (hit.there q hq).2
          cases e : lookD s.D q with
          | none => rw [e] at this; cases this
          | some x => rfl
        · have hk : IpK q := by
            cases e : lookD s.D q with
            | none => rw [e] at hq; cases hq
            | some x => exact (HH.out.ds _ (lookD_mem e)).1
          refine hall q hk ?_
          cases e : lookD s.D q with
          | none => rw [e] at hq; cases hq
          | some x => rfl
      have hmx : (ss.map (lkN (fun x : Pc => x.zs.length) s.D)).sum ≤ 1452 * 128 := by
        rw [HS.out, ← sum_keys _ _ HH.out.sd]
        refine Nat.le_trans (sum_few (fun x : Pc => x.zs.length) s.D 1452 HDS.out _) ?_
        rw [List.length_map, ← HND.out]
        exact Nat.mul_le_mul_left _ hdl
      generalize (ss.map (lkN (fun x : Pc => x.zs.length) s.D)).sum = A at *
      have hsm := HH.out.below hb
      have hc2 := hsm.st.cell 2 _ rfl
      obtain ⟨W1, hrun1, ⟨left1, hit1⟩, hb1, hz1⟩ := hsm.wm.range (P := Try.prog) (t := 74) Try.underlying74
      obtain ⟨nW, hnW⟩ : ∃ nW, nW = s.W.length := ⟨_, rfl⟩
      rw [← hnW] at hit1 hwl
      have HNW := (show Hid _ from hnW)
      have HI1 := (show Hid _ from And.intro hit1 (And.intro hb1 hsm))
      have HB := (show Hid _ from hb)
      clear hit hall hl0 HL hsm hb hit1 hb1 hz1 hnW hfew
      go_wp2
      clear hrun hrun1 hc2
      go_loopw [4, 5] (fun u4 u5 wr => ∃ (tt : List Nat) (left : Nat), MIt tuV IpK wr wb wq.heap.size nW (fun q => (lookD s.W q).map (wval wr0 q)) tt left ∧ u4 = .int .i64 ((nD + (tt.map (lkN List.length s.W)).sum : Nat)) ∧ u5 = .int .i64 ((A + (tt.map (lkN byP s.W)).sum : Nat)) ∧ Below wq.heap.size wq wr) (fun _ _ wr => wr.rangeLeft wb wq.heap.size)
      case atStart => exact ⟨[], left1, HI1.out.1, rfl, rfl, HI1.out.2.1⟩
      case round =>
        obtain ⟨tt, left, hit, rfl, rfl, hb⟩ := hrel
        have HL := (show Hid _ from hit.left_eq)
        have hf1 := sum_few List.length s.W 128 HWS.out.2 tt
        have hf2 := sum_few byP s.W 200000 HWS.out.1 tt
        have htl : tt.length ≤ nW := by
          obtain ⟨es, c, s, c0, seen, h1, h2, h3, h4, h5, h6, h7, h8, h9, h10, h11, _⟩ := hit.ex
          omega
        rcases hit.next (P := Try.prog) tuKE.inj 0 with ⟨hl0, hall, hrun⟩ | ⟨q, v, w2, left2, hq, hv, hqn, hlt, hrun, hit2, hll, hg2, hs2, hen⟩
        · have hmem : ∀ q, q ∈ tt ↔ (lookD s.W q).isSome = true := fun q => ⟨fun hq => by
            have := (hit.there q hq).2
            cases e : lookD s.W q with
            | none => rw [e] at this; cases this
            | some x => rfl, fun hq => by
            have hk : IpK q := by
              cases e : lookD s.W q with
              | none => rw [e] at hq; cases hq
              | some x => exact (HH.out.ws _ (lookD_mem e)).1
            refine hall q hk ?_
            cases e : lookD s.W q with
            | none => rw [e] at hq; cases hq
            | some x => rfl⟩
          have HF : Hid (nD + (tt.map (lkN List.length s.W)).sum = s.heldN ∧ A + (tt.map (lkN byP s.W)).sum = s.heldB) := by
            rw [sum_seen _ _ HH.out.sw tt hit.nodup hmem, sum_seen _ _ HH.out.sw tt hit.nodup hmem, HND.out, HS.out]
            exact ⟨rfl, rfl⟩
          have HB2 : Hid (Below w.heap.size w wr) := HB.out.trans (hb.mono HB.out.size)
          generalize (tt.map (lkN List.length s.W)).sum = A1 at *
          generalize (tt.map (lkN byP s.W)).sum = A2 at *
          clear hit hall hl0 HL hb hmem
          go_wp2
          go_ret2
          exact ⟨by rw [← HF.out.1, ← HF.out.2]; rfl, HB2.out⟩
        · obtain ⟨ps, hps, rfl⟩ : ∃ ps, lookD s.W q = some ps ∧ v = wval wr0 q ps := by
            cases e : lookD s.W q with
            | none => rw [e] at hv; cases hv
            | some ps => rw [e] at hv; exact ⟨ps, rfl, (Option.some.inj hv).symm⟩
          have hn1 : lkN List.length s.W q = ps.length := by unfold lkN; rw [hps]; rfl
          have hn2 : lkN byP s.W q = byP ps := by unfold lkN; rw [hps]; rfl
          have HT : Hid (((tt ++ [q]).map (lkN List.length s.W)).sum = (tt.map (lkN List.length s.W)).sum + ps.length ∧ ((tt ++ [q]).map (lkN byP s.W)).sum = (tt.map (lkN byP s.W)).sum + byP ps) := by
            rw [sum_snoc, sum_snoc, hn1, hn2]
            exact ⟨rfl, rfl⟩
          have hp1 := HWS.out.2 _ (lookD_mem hps)
          have hp2 := HWS.out.1 _ (lookD_mem hps)
          dsimp only at hp1 hp2
          have hb2 : Below wq.heap.size wq w2 := hb.trans ((Below.refl wq.heap.size wr).grown hg2 hb.size (fun k hk => by cases hk; exact Nat.le_refl _))
          have hbw : Below w.heap.size w w2 := HB.out.trans (hb2.mono HB.out.size)
          have HBY := (show Hid _ from bytesOf_any ((HH.out.below hbw).ws _ (lookD_mem hps)).2)
          unfold wval at hrun hen
          dsimp only at HBY
          have HI := (show Hid _ from And.intro hit2 (And.intro hb2 hll))
          generalize (tt.map (lkN List.length s.W)).sum = A1 at *
          generalize (tt.map (lkN byP s.W)).sum = A2 at *
          generalize (wr0 q).1 = ra at *
          generalize (wr0 q).2 = rc at *
          obtain ⟨np, hnp⟩ : ∃ np, np = ps.length := ⟨_, rfl⟩
          obtain ⟨bp, hbp⟩ : ∃ bp, bp = byP ps := ⟨_, rfl⟩
          rw [← hnp] at hp1 HT hrun hen HBY
          rw [← hbp] at hp2 HT HBY
          clear hnp hbp hit hit2 hb hb2 hbw hg2 hs2 hv hqn hn1 hn2 hps hll
          go_wp2_with fail
          refine Calls.mono HBY.out ?_
          rintro e w3 ⟨rfl, hb3⟩
          have HZ : Hid (MIt tuV IpK w3 wb wq.heap.size nW (fun q => (lookD s.W q).map (wval wr0 q)) (tt ++ [q]) left2 ∧ Below wq.heap.size wq w3 ∧ left2 < left) := ⟨HI.out.1.same (hb3.block _ HI.out.1.mp.lt) (hb3.block _ HI.out.1.lt), HI.out.2.1.trans (hb3.mono HI.out.2.1.size), HI.out.2.2⟩
          clear hb3 HI HBY hrun hen
          go_wp2
          go_roundw
          case rel => exact ⟨tt ++ [q], left2, HZ.out.1, by rw [HT.out.1]; go_num, by rw [HT.out.2]; go_num, HZ.out.2.1⟩
          case measure => rw [HZ.out.1.left_eq, HL.out]; exact HZ.out.2.2
    · obtain ⟨x, hx, rfl⟩ : ∃ x, lookD s.D q = some x ∧ v = x.val := by
        cases e : lookD s.D q with
        | none => rw [e] at hv; cases hv
        | some x => rw [e] at hv; exact ⟨x, rfl, (Option.some.inj hv).symm⟩
      have hn1 : lkN (fun x : Pc => x.zs.length) s.D q = x.n := by unfold lkN; rw [hx]; exact (HH.out.ds _ (lookD_mem hx)).2.len
      have HT : Hid (((ss ++ [q]).map (lkN (fun x : Pc => x.zs.length) s.D)).sum = (ss.map (lkN (fun x : Pc => x.zs.length) s.D)).sum + x.n) := by show _ = _; rw [sum_snoc, hn1]
      have hxn := (HH.out.ds _ (lookD_mem hx)).2.ok.n1
      have hb2 : Below w.heap.size w w2 := hb.trans ((Below.refl w.heap.size wq).grown hg2 hb.size (fun k hk => by cases hk; exact Nat.le_refl _))
      obtain ⟨fl, st, ss', pp, xa, xn, xc, zs⟩ := x
      unfold Pc.val at hrun hen
      dsimp only at hrun hen HT hxn
      have hba : ∀ o, Below w2.heap.size w2 (w2.alloc o) := fun o => (Below.refl _ _).alloc (Nat.le_refl _) _
      have HZ : Hid (∀ o, MIt ipV IpK (w2.alloc o) mb w.heap.size nD (fun q => (lookD s.D q).map Pc.val) (ss ++ [q]) left2 ∧ Below w.heap.size w (w2.alloc o) ∧ left2 < left) := fun o => ⟨hit2.same ((hba o).block _ hit2.mp.lt) ((hba o).block _ hit2.lt), hb2.trans ((hba o).mono hb2.size), hll⟩
      generalize (ss.map (lkN (fun x : Pc => x.zs.length) s.D)).sum = A at *
      clear hba hit hit2 hb hb2 hg2 hs2 hv hqn hx hn1 hll
      go_wp2
      go_roundw
      case rel => exact ⟨ss ++ [q], left2, (HZ.out _).1, by rw [HT.out]; go_num, (HZ.out _).2.1⟩
      case measure => rw [(HZ.out _).1.left_eq, HL.out]; exact (HZ.out (.map #[] 0)).2.2
end Go.Proofs.Ytjaheelgcjafcaa
