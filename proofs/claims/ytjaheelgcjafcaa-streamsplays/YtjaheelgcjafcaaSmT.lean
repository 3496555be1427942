/- Streams as mathematics: lift, tell, release, Add; how many pieces are held. -/
import Derived.Test.YtjaheelgcjafcaaSmR
import Derived.Test.YtjaheelgcjafcaaSerM
namespace Go.Proofs.Ytjaheelgcjafcaa
open Go.RowKit
/-- A message as it is told. -/
structure Mg where
  st : Nat
  ss : Nat
  pp : Nat
  fr : Bool
  zs : List Nat
def joinM (ps : List Pc) : Mg := ⟨(ps.headD zeroPc).st, if (ps.headD zeroPc).free then 0 else (ps.headD zeroPc).ss, (ps.headD zeroPc).pp, (ps.headD zeroPc).free, ps.flatMap (·.zs)⟩
/-- Streams: what each awaits; the pieces by their TSNs; the messages that wait, by stream and SSN. -/
structure SmS where
  nx : List Nat
  D : List (Nat × Pc)
  W : List (Nat × List Pc)
def tkey (st ss : Nat) : Nat := st * 65536 + ss
def SmS.now (s : SmS) (st : Nat) : Nat := tkey st (s.nx.getD st 0)
def SmS.let (s : SmS) (st : Nat) : SmS := ⟨s.nx.set st ((s.nx.getD st 0 + 1) % 65536), s.D, delD s.W (s.now st)⟩
def relF (st : Nat) : Nat → SmS → List Mg → SmS × List Mg
  | 0, s, T => (s, T)
  | f + 1, s, T => match lookD s.W (s.now st) with
    | none => (s, T)
    | some ps => relF st f (s.let st) (T ++ [joinM ps])
theorem relF_none {st f : Nat} {s : SmS} {T : List Mg} (h : lookD s.W (s.now st) = none) : relF st f s T = (s, T) := by
  cases f with
  | zero => rw [relF]
  | succ f => rw [relF, h]
theorem relF_some {st f : Nat} {s : SmS} {T : List Mg} {ps : List Pc} (h : lookD s.W (s.now st) = some ps) : relF st (f + 1) s T = relF st f (s.let st) (T ++ [joinM ps]) := by rw [relF, h]
def SmS.rel (s : SmS) (st : Nat) : SmS × List Mg := relF st (s.W.length + 1) s []
/-- How far a release has come: k messages are out. -/
structure RlS (s0 : SmS) (st : Nat) (s : SmS) (k : Nat) (T : List Mg) : Prop where
  eq : s0.rel st = relF st (s0.W.length + 1 - k) s T
  len : s.W.length + k = s0.W.length
  srt : Srt s.W
  told : T.length = k
  D : s.D = s0.D
  nx : s.nx.length = s0.nx.length
theorem RlS.start {s : SmS} (st : Nat) (h : Srt s.W) : RlS s st s 0 [] := ⟨by rw [Nat.sub_zero]; rfl, rfl, h, rfl, rfl, rfl⟩
theorem RlS.done {s0 : SmS} {st : Nat} {s : SmS} {k : Nat} {T : List Mg} (h : RlS s0 st s k T) (hl : lookD s.W (s.now st) = none) : s0.rel st = (s, T) := by rw [h.eq, relF_none hl]
theorem RlS.step {s0 : SmS} {st : Nat} {s : SmS} {k : Nat} {T : List Mg} {ps : List Pc} (h : RlS s0 st s k T) (hl : lookD s.W (s.now st) = some ps) : RlS s0 st (s.let st) (k + 1) (T ++ [joinM ps]) := by
  have e := len_del s.W (s.now st)
  rw [hl, Option.isSome_some, if_pos rfl] at e
  have h2 := h.len
  refine ⟨?_, ?_, h.srt.del _, by rw [List.length_append, h.told]; rfl, h.D, by rw [← h.nx]; simp [SmS.let]⟩
  · rw [h.eq, show s0.W.length + 1 - k = (s0.W.length - k) + 1 by omega, relF_some hl, show s0.W.length + 1 - (k + 1) = s0.W.length - k by omega]
  · show (delD s.W (s.now st)).length + (k + 1) = _
    omega
/-- How many pieces, how many bytes are held. -/
def SmS.heldN (s : SmS) : Nat := s.D.length + sumD List.length s.W
def byP (ps : List Pc) : Nat := (ps.map (·.zs.length)).sum
def SmS.heldB (s : SmS) : Nat := sumD (·.zs.length) s.D + sumD byP s.W
theorem let_held (s : SmS) (st : Nat) : (s.let st).heldN ≤ s.heldN := by
  unfold SmS.heldN SmS.let
  have := sum_del List.length s.W (s.now st)
  dsimp only
  omega
theorem relF_held (st : Nat) : ∀ f s T, (relF st f s T).1.heldN ≤ s.heldN := by
  intro f
  induction f with
  | zero => intro s T; rw [relF]; exact Nat.le_refl _
  | succ f ih =>
    intro s T
    cases h : lookD s.W (s.now st) with
    | none => rw [relF_none h]; exact Nat.le_refl _
    | some ps => rw [relF_some h]; exact Nat.le_trans (ih _ _) (let_held s st)
/-- Pieces taken out. -/
def liftD (D : List (Nat × Pc)) (L : List Nat) : List (Nat × Pc) := L.foldl delD D
theorem lift_srt : ∀ (L : List Nat) (D : List (Nat × Pc)), Srt D → Srt (liftD D L)
  | [], _, h => h
  | q :: L, D, h => lift_srt L (delD D q) (h.del q)
theorem lift_len : ∀ (L : List Nat) (D : List (Nat × Pc)), Srt D → L.Nodup → (∀ q ∈ L, (lookD D q).isSome = true) → (liftD D L).length + L.length = D.length
  | [], D, _, _, _ => by simp [liftD]
  | q :: L, D, hs, hn, h => by
    obtain ⟨hq, hn2⟩ := List.nodup_cons.1 hn
    have e := len_del D q
    rw [if_pos (h q List.mem_cons_self)] at e
    have ih := lift_len L (delD D q) (hs.del q) hn2 (fun r hr => by
      rw [look_del _ _ _ hs, if_neg (fun e => hq (by rw [← e]; exact hr))]
      exact h r (List.mem_cons_of_mem _ hr))
    show (liftD (delD D q) L).length + (L.length + 1) = _
    omega
/-- What is told by a message that is whole. -/
def SmS.tell (s : SmS) (ps : List Pc) : SmS × List Mg :=
  if (ps.headD zeroPc).free then (s, [joinM ps])
  else if 0 < aheadV 65536 (ps.headD zeroPc).ss (s.nx.getD (ps.headD zeroPc).st 0) then (s, [])
  else SmS.rel ⟨s.nx, s.D, putD s.W (tkey (ps.headD zeroPc).st (ps.headD zeroPc).ss) ps⟩ (ps.headD zeroPc).st
theorem tell_held (s : SmS) (ps : List Pc) (hs : Srt s.W) : (s.tell ps).1.heldN ≤ s.heldN + ps.length := by
  unfold SmS.tell
  split
  · exact Nat.le_add_right _ _
  · split
    · exact Nat.le_add_right _ _
    · refine Nat.le_trans (relF_held _ _ _ _) ?_
      have := sum_put List.length s.W (tkey (ps.headD zeroPc).st (ps.headD zeroPc).ss) ps hs
      unfold SmS.heldN
      dsimp only
      omega
/-- What a way back answers is there. -/
theorem back_in {D : List (Nat × Pc)} (hs : Srt D) (hd : D.length ≤ 4294967295) {t0 u : Nat} (hu : backF D (D.length + 1) t0 = some u) : ∀ f t k, D.length + 1 - k = f → BkS D t0 t k → u < 4294967296 ∧ (lookD D u).isSome = true := by
  intro f
  induction f with
  | zero => intro t k hf h; have := h.len hs; omega
  | succ f ih =>
    intro t k hf h
    cases hb : (pcAt D t).beg with
    | true =>
      have e := h.done hs hb
      rw [hu] at e
      obtain rfl : u = t := Option.some.inj e
      have h0 := h.th 0 (by omega)
      rw [Nat.add_zero, Nat.mod_eq_of_lt h.lt] at h0
      exact ⟨h.lt, h0⟩
    | false =>
      cases hj : joinsB D (bk1 t) with
      | false => have e := h.stop hs hb hj; rw [hu] at e; cases e
      | true => exact ih (bk1 t) (k + 1) (by omega) (h.step hs hd hb hj)
theorem on_in {D : List (Nat × Pc)} (hs : Srt D) (hd : D.length ≤ 4294967295) {u : Nat} {R : List Nat} (hu : onF D (D.length + 1) u [u] = some R) : ∀ f t k L, D.length + 1 - k = f → OnS D u t k L → ∃ t' k', OnS D u t' k' R := by
  intro f
  induction f with
  | zero => intro t k L hf h; have := h.few hs; omega
  | succ f ih =>
    intro t k L hf h
    cases hb : (pcAt D t).fin with
    | true =>
      have e := h.done hs hb
      rw [hu] at e
      obtain rfl : R = L := Option.some.inj e
      exact ⟨t, k, h⟩
    | false =>
      cases hj : joinsB D t with
      | false => have e := h.stop hs hb hj; rw [hu] at e; cases e
      | true => exact ih (on1 t) (k + 1) _ (by omega) (h.step hs hd hb hj)
theorem OnS.ok {D : List (Nat × Pc)} {u t k : Nat} {L : List Nat} (h : OnS D u t k L) : L.Nodup ∧ (∀ q ∈ L, (lookD D q).isSome = true) ∧ ∀ q ∈ L, q < 4294967296 := by
  have hk := h.kl
  rw [h.row]
  refine ⟨?_, fun q hq => ?_, fun q hq => ?_⟩
  · refine List.pairwise_map.2 (List.Pairwise.imp_of_mem ?_ List.nodup_range)
    intro x y hx hy hn
    have := List.mem_range.1 hx
    have := List.mem_range.1 hy
    omega
  · obtain ⟨j, hj, rfl⟩ := List.mem_map.1 hq
    exact h.th j (List.mem_range.1 hj)
  · obtain ⟨j, hj, rfl⟩ := List.mem_map.1 hq
    exact Nat.mod_lt _ (by decide)
theorem run_ok {D : List (Nat × Pc)} (hs : Srt D) (hd : D.length ≤ 4294967295) {t : Nat} (ht : t < 4294967296) (h : (lookD D t).isSome = true) : (runF D t).Nodup ∧ (∀ q ∈ runF D t, (lookD D q).isSome = true) ∧ ∀ q ∈ runF D t, q < 4294967296 := by
  have nil : ([] : List Nat).Nodup ∧ (∀ q ∈ ([] : List Nat), (lookD D q).isSome = true) ∧ ∀ q ∈ ([] : List Nat), q < 4294967296 := ⟨List.nodup_nil, fun q hq => (by cases hq), fun q hq => (by cases hq)⟩
  unfold runF
  cases hb : backF D (D.length + 1) t with
  | none => exact nil
  | some u =>
    obtain ⟨h1, h2⟩ := back_in hs hd hb (D.length + 1) t 0 (by omega) (BkS.start ht h)
    dsimp only
    cases ho : onF D (D.length + 1) u [u] with
    | none => exact nil
    | some R =>
      obtain ⟨t', k', hR⟩ := on_in hs hd ho (D.length + 1) u 0 [u] (by omega) (OnS.start h1 h2)
      exact hR.ok
/-- A piece that may be held, put in. -/
def SmS.add (s : SmS) (t : Nat) (p : Pc) : SmS × List Mg :=
  let D := putD s.D t p
  let L := runF D t
  if L.length = 0 then (⟨s.nx, D, s.W⟩, []) else SmS.tell ⟨s.nx, liftD D L, s.W⟩ (L.map (pcAt D))
theorem add_held (s : SmS) {t : Nat} (p : Pc) (hD : Srt s.D) (hW : Srt s.W) (hd : s.D.length ≤ 4294967294) (ht : t < 4294967296) : (s.add t p).1.heldN ≤ s.heldN + 1 := by
  have hs := hD.put t p
  have hl := len_put s.D t p hD
  have hin : (lookD (putD s.D t p) t).isSome = true := by rw [look_put _ _ _ _ hD, if_pos rfl]; rfl
  have hle : (putD s.D t p).length ≤ s.D.length + 1 := by rw [hl]; split <;> omega
  obtain ⟨r1, r2, _⟩ := run_ok hs (by omega) ht hin
  have hlift := lift_len _ _ hs r1 r2
  unfold SmS.add
  dsimp only
  split
  · unfold SmS.heldN
    dsimp only
    omega
  · refine Nat.le_trans (tell_held _ _ hW) ?_
    unfold SmS.heldN
    dsimp only
    rw [List.length_map]
    omega
end Go.Proofs.Ytjaheelgcjafcaa
