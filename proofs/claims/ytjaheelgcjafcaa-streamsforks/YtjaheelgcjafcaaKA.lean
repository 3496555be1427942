/- Streams against the reference: its way along a message, piece by piece. -/
import Derived.Test.YtjaheelgcjafcaaSoD
import Derived.Test.YtjaheelgcjafcaaSerM
namespace Go.Proofs.Ytjaheelgcjafcaa
open Go.RowKit
/-- What is kept of a Data chunk: flags, stream, SSN, PPID; its row of bytes as it lies, and its bytes. -/
structure Pc where
  fl : Nat
  st : Nat
  ss : Nat
  pp : Nat
  a : Option Addr
  n : Nat
  c : Nat
  zs : List Nat
def Pc.v (p : Pc) : List Value := [.int .u8 (p.fl : Nat), .int .u16 (p.st : Nat), .int .u16 (p.ss : Nat), .int .u32 (p.pp : Nat), .slice p.a p.n p.c]
def zeroPc : Pc := ⟨0, 0, 0, 0, none, 0, 0, []⟩
def Pc.beg (p : Pc) : Bool := decide (p.fl / 2 % 2 = 1)
def Pc.fin (p : Pc) : Bool := decide (p.fl % 2 = 1)
def Pc.free (p : Pc) : Bool := decide (p.fl / 4 % 2 = 1)
def fitB (p q : Pc) : Bool := (p.st == q.st) && (p.free == q.free) && (p.free || p.ss == q.ss)
/-- One step on, one step back, among 2^32 numbers. -/
def on1 (t : Nat) : Nat := (t + 1) % 4294967296
def bk1 (t : Nat) : Nat := (t + 4294967295) % 4294967296
theorem on1_lt (t : Nat) : on1 t < 4294967296 := Nat.mod_lt _ (by decide)
theorem bk1_lt (t : Nat) : bk1 t < 4294967296 := Nat.mod_lt _ (by decide)
theorem on_bk {t : Nat} (h : t < 4294967296) : on1 (bk1 t) = t := by unfold on1 bk1; omega
theorem bk_on {t : Nat} (h : t < 4294967296) : bk1 (on1 t) = t := by unfold on1 bk1; omega
def pcAt (D : List (Nat × Pc)) (t : Nat) : Pc := (lookD D t).getD zeroPc
def joinsB (D : List (Nat × Pc)) (t : Nat) : Bool := (lookD D t).isSome && (lookD D (on1 t)).isSome && fitB (pcAt D t) (pcAt D (on1 t)) && !(pcAt D t).fin && !(pcAt D (on1 t)).beg
theorem joinsB_in {D : List (Nat × Pc)} {t : Nat} (h : joinsB D t = true) : (lookD D t).isSome = true ∧ (lookD D (on1 t)).isSome = true := by
  unfold joinsB at h
  simp only [Bool.and_eq_true] at h
  exact ⟨h.1.1.1.1, h.1.1.1.2⟩
/-- m numbers one behind the other that are all there: no more than are there. -/
theorem chain_len {α : Type} : ∀ (m t : Nat) (D : List (Nat × α)), Srt D → m ≤ 4294967296 → (∀ k, k < m → (lookD D ((t + k) % 4294967296)).isSome = true) → m ≤ D.length := by
  intro m
  induction m with
  | zero => intro t D _ _ _; exact Nat.zero_le _
  | succ m ih =>
    intro t D hs hm h
    have hl := len_del D ((t + m) % 4294967296)
    rw [if_pos (h m (by omega))] at hl
    have := ih t (delD D ((t + m) % 4294967296)) (hs.del _) (by omega) (fun k hk => by
      rw [look_del _ _ _ hs, if_neg (by omega)]
      exact h k (by omega))
    omega
/-- The way back to the piece that begins; f: how many steps at most. -/
def backF (D : List (Nat × Pc)) : Nat → Nat → Option Nat
  | 0, _ => none
  | f + 1, t => if (pcAt D t).beg then some t else if joinsB D (bk1 t) then backF D f (bk1 t) else none
/-- The way on to the piece that ends. -/
def onF (D : List (Nat × Pc)) : Nat → Nat → List Nat → Option (List Nat)
  | 0, _, _ => none
  | f + 1, t, L => if (pcAt D t).fin then some L else if joinsB D t then onF D f (on1 t) (L ++ [on1 t]) else none
theorem backF_succ (D : List (Nat × Pc)) (f t : Nat) : backF D (f + 1) t = if (pcAt D t).beg then some t else if joinsB D (bk1 t) then backF D f (bk1 t) else none := by rw [backF]
theorem onF_succ (D : List (Nat × Pc)) (f t : Nat) (L : List Nat) : onF D (f + 1) t L = if (pcAt D t).fin then some L else if joinsB D t then onF D f (on1 t) (L ++ [on1 t]) else none := by rw [onF]
/-- The TSNs of the message of a piece; none, if it is not whole. -/
def runF (D : List (Nat × Pc)) (t : Nat) : List Nat :=
  match backF D (D.length + 1) t with
  | none => []
  | some u => (onF D (D.length + 1) u [u]).getD []
/-- How far a way back has come: k steps, and all that was passed is there. -/
structure BkS (D : List (Nat × Pc)) (t0 t k : Nat) : Prop where
  lt : t < 4294967296
  eq : backF D (D.length + 1) t0 = backF D (D.length + 1 - k) t
  th : ∀ j, j < k + 1 → (lookD D ((t + j) % 4294967296)).isSome = true
  kl : k + 1 ≤ 4294967296
theorem BkS.len {D : List (Nat × Pc)} {t0 t k : Nat} (h : BkS D t0 t k) (hs : Srt D) : k + 1 ≤ D.length := chain_len (k + 1) t D hs h.kl h.th
theorem BkS.start {D : List (Nat × Pc)} {t : Nat} (ht : t < 4294967296) (h : (lookD D t).isSome = true) : BkS D t t 0 := by
  refine ⟨ht, by rw [Nat.sub_zero], fun j hj => ?_, by omega⟩
  obtain rfl : j = 0 := by omega
  rw [Nat.add_zero, Nat.mod_eq_of_lt ht]
  exact h
theorem BkS.done {D : List (Nat × Pc)} {t0 t k : Nat} (h : BkS D t0 t k) (hs : Srt D) (hb : (pcAt D t).beg = true) : backF D (D.length + 1) t0 = some t := by
  have := h.len hs
  rw [h.eq, show D.length + 1 - k = (D.length - k) + 1 by omega]
  rw [backF_succ, if_pos hb]
theorem BkS.stop {D : List (Nat × Pc)} {t0 t k : Nat} (h : BkS D t0 t k) (hs : Srt D) (hb : (pcAt D t).beg = false) (hj : joinsB D (bk1 t) = false) : backF D (D.length + 1) t0 = none := by
  have := h.len hs
  rw [h.eq, show D.length + 1 - k = (D.length - k) + 1 by omega]
  rw [backF_succ, hb, hj, if_neg (by decide), if_neg (by decide)]
theorem BkS.step {D : List (Nat × Pc)} {t0 t k : Nat} (h : BkS D t0 t k) (hs : Srt D) (hd : D.length ≤ 4294967295) (hb : (pcAt D t).beg = false) (hj : joinsB D (bk1 t) = true) : BkS D t0 (bk1 t) (k + 1) := by
  have hl := h.len hs
  refine ⟨bk1_lt t, ?_, fun j hj2 => ?_, by omega⟩
  · rw [h.eq, show D.length + 1 - k = (D.length - k) + 1 by omega]
    rw [backF_succ, hb, hj, if_neg (by decide), if_pos rfl, show D.length + 1 - (k + 1) = D.length - k by omega]
  · rcases j with _ | j
    · rw [Nat.add_zero, Nat.mod_eq_of_lt (bk1_lt t)]
      exact (joinsB_in hj).1
    · have e : (bk1 t + (j + 1)) % 4294967296 = (t + j) % 4294967296 := by unfold bk1; omega
      rw [e]
      exact h.th j (by omega)
/-- How far a way on has come: from u, k steps. -/
structure OnS (D : List (Nat × Pc)) (u t k : Nat) (L : List Nat) : Prop where
  lt : t < 4294967296
  at_ : t = (u + k) % 4294967296
  len : L.length = k + 1
  eq : onF D (D.length + 1) u [u] = onF D (D.length + 1 - k) t L
  th : ∀ j, j < k + 1 → (lookD D ((u + j) % 4294967296)).isSome = true
  kl : k + 1 ≤ 4294967296
  row : L = (List.range (k + 1)).map fun j => (u + j) % 4294967296
theorem OnS.few {D : List (Nat × Pc)} {u t k : Nat} {L : List Nat} (h : OnS D u t k L) (hs : Srt D) : k + 1 ≤ D.length := chain_len (k + 1) u D hs h.kl h.th
theorem OnS.start {D : List (Nat × Pc)} {u : Nat} (hu : u < 4294967296) (h : (lookD D u).isSome = true) : OnS D u u 0 [u] := by
  have e0 : (u + 0) % 4294967296 = u := by rw [Nat.add_zero, Nat.mod_eq_of_lt hu]
  refine ⟨hu, e0.symm, rfl, by rw [Nat.sub_zero], fun j hj => ?_, by omega, ?_⟩
  · obtain rfl : j = 0 := by omega
    rw [e0]
    exact h
  · rw [List.range_succ, List.range_zero, List.nil_append, List.map_cons, List.map_nil, e0]
theorem OnS.done {D : List (Nat × Pc)} {u t k : Nat} {L : List Nat} (h : OnS D u t k L) (hs : Srt D) (hb : (pcAt D t).fin = true) : onF D (D.length + 1) u [u] = some L := by
  have := h.few hs
  rw [h.eq, show D.length + 1 - k = (D.length - k) + 1 by omega]
  rw [onF_succ, if_pos hb]
theorem OnS.stop {D : List (Nat × Pc)} {u t k : Nat} {L : List Nat} (h : OnS D u t k L) (hs : Srt D) (hb : (pcAt D t).fin = false) (hj : joinsB D t = false) : onF D (D.length + 1) u [u] = none := by
  have := h.few hs
  rw [h.eq, show D.length + 1 - k = (D.length - k) + 1 by omega]
  rw [onF_succ, hb, hj, if_neg (by decide), if_neg (by decide)]
theorem OnS.step {D : List (Nat × Pc)} {u t k : Nat} {L : List Nat} (h : OnS D u t k L) (hs : Srt D) (hd : D.length ≤ 4294967295) (hb : (pcAt D t).fin = false) (hj : joinsB D t = true) : OnS D u (on1 t) (k + 1) (L ++ [on1 t]) := by
  have hl := h.few hs
  have ht := h.at_
  have e1 : on1 t = (u + (k + 1)) % 4294967296 := by unfold on1; omega
  refine ⟨on1_lt t, e1, by rw [List.length_append, h.len]; rfl, ?_, fun j hj2 => ?_, by omega, ?_⟩
  · rw [h.eq, show D.length + 1 - k = (D.length - k) + 1 by omega]
    rw [onF_succ, hb, hj, if_neg (by decide), if_pos rfl, show D.length + 1 - (k + 1) = D.length - k by omega]
  · by_cases e : j = k + 1
    · subst e
      rw [← e1]
      exact (joinsB_in hj).2
    · exact h.th j (by omega)
  · rw [List.range_succ, List.map_append, ← h.row, e1, List.map_cons, List.map_nil]
end Go.Proofs.Ytjaheelgcjafcaa
namespace Go.Proofs.Ytjaheelgcjafcaa
open Go.RowKit
/-- A message as it is told. -/
structure Mg where
  st : Nat
  ss : Nat
  pp : Nat
  fr : Bool
  zs : List Nat
def joinM (ps : List Pc) : Mg := ⟨(ps.headD zeroPc).st, if (ps.headD zeroPc).free then 0 else (ps.headD zeroPc).ss, (ps.headD zeroPc).pp, (ps.headD zeroPc).free, ps.flatMap (·.zs)⟩
/-- Streams: what each awaits; the pieces by their TSNs; the messages that wait, by stream and SSN. -/
structure SmS where
  nx : List Nat
  D : List (Nat × Pc)
  W : List (Nat × List Pc)
def tkey (st ss : Nat) : Nat := st * 65536 + ss
def SmS.now (s : SmS) (st : Nat) : Nat := tkey st (s.nx.getD st 0)
def SmS.let (s : SmS) (st : Nat) : SmS := ⟨s.nx.set st ((s.nx.getD st 0 + 1) % 65536), s.D, delD s.W (s.now st)⟩
def relF (st : Nat) : Nat → SmS → List Mg → SmS × List Mg
  | 0, s, T => (s, T)
  | f + 1, s, T => match lookD s.W (s.now st) with
    | none => (s, T)
    | some ps => relF st f (s.let st) (T ++ [joinM ps])
theorem relF_none {st f : Nat} {s : SmS} {T : List Mg} (h : lookD s.W (s.now st) = none) : relF st f s T = (s, T) := by
  cases f with
  | zero => rw [relF]
  | succ f => rw [relF, h]
theorem relF_some {st f : Nat} {s : SmS} {T : List Mg} {ps : List Pc} (h : lookD s.W (s.now st) = some ps) : relF st (f + 1) s T = relF st f (s.let st) (T ++ [joinM ps]) := by rw [relF, h]
def SmS.rel (s : SmS) (st : Nat) : SmS × List Mg := relF st (s.W.length + 1) s []
/-- How far a release has come: k messages are out. -/
structure RlS (s0 : SmS) (st : Nat) (s : SmS) (k : Nat) (T : List Mg) : Prop where
  eq : s0.rel st = relF st (s0.W.length + 1 - k) s T
  len : s.W.length + k = s0.W.length
  srt : Srt s.W
  told : T.length = k
  D : s.D = s0.D
  nx : s.nx.length = s0.nx.length
theorem RlS.start {s : SmS} (st : Nat) (h : Srt s.W) : RlS s st s 0 [] := ⟨by rw [Nat.sub_zero]; rfl, rfl, h, rfl, rfl, rfl⟩
theorem RlS.done {s0 : SmS} {st : Nat} {s : SmS} {k : Nat} {T : List Mg} (h : RlS s0 st s k T) (hl : lookD s.W (s.now st) = none) : s0.rel st = (s, T) := by rw [h.eq, relF_none hl]
theorem RlS.step {s0 : SmS} {st : Nat} {s : SmS} {k : Nat} {T : List Mg} {ps : List Pc} (h : RlS s0 st s k T) (hl : lookD s.W (s.now st) = some ps) : RlS s0 st (s.let st) (k + 1) (T ++ [joinM ps]) := by
  have e := len_del s.W (s.now st)
  rw [hl, Option.isSome_some, if_pos rfl] at e
  have h2 := h.len
  refine ⟨?_, ?_, h.srt.del _, by rw [List.length_append, h.told]; rfl, h.D, by rw [← h.nx]; simp [SmS.let]⟩
  · rw [h.eq, show s0.W.length + 1 - k = (s0.W.length - k) + 1 by omega, relF_some hl, show s0.W.length + 1 - (k + 1) = s0.W.length - k by omega]
  · show (delD s.W (s.now st)).length + (k + 1) = _
    omega
/-- How many pieces, how many bytes are held. -/
def SmS.heldN (s : SmS) : Nat := s.D.length + sumD List.length s.W
def byP (ps : List Pc) : Nat := (ps.map (·.zs.length)).sum
def SmS.heldB (s : SmS) : Nat := sumD (·.zs.length) s.D + sumD byP s.W
theorem let_held (s : SmS) (st : Nat) : (s.let st).heldN ≤ s.heldN := by
  unfold SmS.heldN SmS.let
  have := sum_del List.length s.W (s.now st)
  dsimp only
  omega
theorem relF_held (st : Nat) : ∀ f s T, (relF st f s T).1.heldN ≤ s.heldN := by
  intro f
  induction f with
  | zero => intro s T; rw [relF]; exact Nat.le_refl _
  | succ f ih =>
    intro s T
    cases h : lookD s.W (s.now st) with
    | none => rw [relF_none h]; exact Nat.le_refl _
    | some ps => rw [relF_some h]; exact Nat.le_trans (ih _ _) (let_held s st)
/-- Pieces taken out. -/
def liftD (D : List (Nat × Pc)) (L : List Nat) : List (Nat × Pc) := L.foldl delD D
theorem lift_srt : ∀ (L : List Nat) (D : List (Nat × Pc)), Srt D → Srt (liftD D L)
  | [], _, h => h
  | q :: L, D, h => lift_srt L (delD D q) (h.del q)
theorem lift_len : ∀ (L : List Nat) (D : List (Nat × Pc)), Srt D → L.Nodup → (∀ q ∈ L, (lookD D q).isSome = true) → (liftD D L).length + L.length = D.length
  | [], D, _, _, _ => by simp [liftD]
  | q :: L, D, hs, hn, h => by
    obtain ⟨hq, hn2⟩ := List.nodup_cons.1 hn
    have e := len_del D q
    rw [if_pos (h q List.mem_cons_self)] at e
    have ih := lift_len L (delD D q) (hs.del q) hn2 (fun r hr => by
      rw [look_del _ _ _ hs, if_neg (fun e => hq (by rw [← e]; exact hr))]
      exact h r (List.mem_cons_of_mem _ hr))
    show (liftD (delD D q) L).length + (L.length + 1) = _
    omega
/-- What is told by a message that is whole. -/
def SmS.tell (s : SmS) (ps : List Pc) : SmS × List Mg :=
  if (ps.headD zeroPc).free then (s, [joinM ps])
  else if 0 < aheadV 65536 (ps.headD zeroPc).ss (s.nx.getD (ps.headD zeroPc).st 0) then (s, [])
  else SmS.rel ⟨s.nx, s.D, putD s.W (tkey (ps.headD zeroPc).st (ps.headD zeroPc).ss) ps⟩ (ps.headD zeroPc).st
theorem tell_held (s : SmS) (ps : List Pc) (hs : Srt s.W) : (s.tell ps).1.heldN ≤ s.heldN + ps.length := by
  unfold SmS.tell
  split
  · exact Nat.le_add_right _ _
  · split
    · exact Nat.le_add_right _ _
    · refine Nat.le_trans (relF_held _ _ _ _) ?_
      have := sum_put List.length s.W (tkey (ps.headD zeroPc).st (ps.headD zeroPc).ss) ps hs
      unfold SmS.heldN
      dsimp only
      omega
/-- What a way back answers is there. -/
theorem back_in {D : List (Nat × Pc)} (hs : Srt D) (hd : D.length ≤ 4294967295) {t0 u : Nat} (hu : backF D (D.length + 1) t0 = some u) : ∀ f t k, D.length + 1 - k = f → BkS D t0 t k → u < 4294967296 ∧ (lookD D u).isSome = true := by
  intro f
  induction f with
  | zero => intro t k hf h; have := h.len hs; omega
  | succ f ih =>
    intro t k hf h
    cases hb : (pcAt D t).beg with
    | true =>
      have e := h.done hs hb
      rw [hu] at e
      obtain rfl : u = t := Option.some.inj e
      have h0 := h.th 0 (by omega)
      rw [Nat.add_zero, Nat.mod_eq_of_lt h.lt] at h0
      exact ⟨h.lt, h0⟩
    | false =>
      cases hj : joinsB D (bk1 t) with
      | false => have e := h.stop hs hb hj; rw [hu] at e; cases e
      | true => exact ih (bk1 t) (k + 1) (by omega) (h.step hs hd hb hj)
theorem on_in {D : List (Nat × Pc)} (hs : Srt D) (hd : D.length ≤ 4294967295) {u : Nat} {R : List Nat} (hu : onF D (D.length + 1) u [u] = some R) : ∀ f t k L, D.length + 1 - k = f → OnS D u t k L → ∃ t' k', OnS D u t' k' R := by
  intro f
  induction f with
  | zero => intro t k L hf h; have := h.few hs; omega
  | succ f ih =>
    intro t k L hf h
    cases hb : (pcAt D t).fin with
    | true =>
      have e := h.done hs hb
      rw [hu] at e
      obtain rfl : R = L := Option.some.inj e
      exact ⟨t, k, h⟩
    | false =>
      cases hj : joinsB D t with
      | false => have e := h.stop hs hb hj; rw [hu] at e; cases e
      | true => exact ih (on1 t) (k + 1) _ (by omega) (h.step hs hd hb hj)
theorem OnS.ok {D : List (Nat × Pc)} {u t k : Nat} {L : List Nat} (h : OnS D u t k L) : L.Nodup ∧ (∀ q ∈ L, (lookD D q).isSome = true) ∧ ∀ q ∈ L, q < 4294967296 := by
  have hk := h.kl
  rw [h.row]
  refine ⟨?_, fun q hq => ?_, fun q hq => ?_⟩
  · refine List.pairwise_map.2 (List.Pairwise.imp_of_mem ?_ List.nodup_range)
    intro x y hx hy hn
    have := List.mem_range.1 hx
    have := List.mem_range.1 hy
    omega
  · obtain ⟨j, hj, rfl⟩ := List.mem_map.1 hq
    exact h.th j (List.mem_range.1 hj)
  · obtain ⟨j, hj, rfl⟩ := List.mem_map.1 hq
    exact Nat.mod_lt _ (by decide)
theorem run_ok {D : List (Nat × Pc)} (hs : Srt D) (hd : D.length ≤ 4294967295) {t : Nat} (ht : t < 4294967296) (h : (lookD D t).isSome = true) : (runF D t).Nodup ∧ (∀ q ∈ runF D t, (lookD D q).isSome = true) ∧ ∀ q ∈ runF D t, q < 4294967296 := by
  have nil : ([] : List Nat).Nodup ∧ (∀ q ∈ ([] : List Nat), (lookD D q).isSome = true) ∧ ∀ q ∈ ([] : List Nat), q < 4294967296 := ⟨List.nodup_nil, fun q hq => (by cases hq), fun q hq => (by cases hq)⟩
  unfold runF
  cases hb : backF D (D.length + 1) t with
  | none => exact nil
  | some u =>
    obtain ⟨h1, h2⟩ := back_in hs hd hb (D.length + 1) t 0 (by omega) (BkS.start ht h)
    dsimp only
    cases ho : onF D (D.length + 1) u [u] with
    | none => exact nil
    | some R =>
      obtain ⟨t', k', hR⟩ := on_in hs hd ho (D.length + 1) u 0 [u] (by omega) (OnS.start h1 h2)
      exact hR.ok
/-- A piece that may be held, put in. -/
def SmS.add (s : SmS) (t : Nat) (p : Pc) : SmS × List Mg :=
  let D := putD s.D t p
  let L := runF D t
  if L.length = 0 then (⟨s.nx, D, s.W⟩, []) else SmS.tell ⟨s.nx, liftD D L, s.W⟩ (L.map (pcAt D))
theorem add_held (s : SmS) {t : Nat} (p : Pc) (hD : Srt s.D) (hW : Srt s.W) (hd : s.D.length ≤ 4294967294) (ht : t < 4294967296) : (s.add t p).1.heldN ≤ s.heldN + 1 := by
  have hs := hD.put t p
  have hl := len_put s.D t p hD
  have hin : (lookD (putD s.D t p) t).isSome = true := by rw [look_put _ _ _ _ hD, if_pos rfl]; rfl
  have hle : (putD s.D t p).length ≤ s.D.length + 1 := by rw [hl]; split <;> omega
  obtain ⟨r1, r2, _⟩ := run_ok hs (by omega) ht hin
  have hlift := lift_len _ _ hs r1 r2
  unfold SmS.add
  dsimp only
  split
  · unfold SmS.heldN
    dsimp only
    omega
  · refine Nat.le_trans (tell_held _ _ hW) ?_
    unfold SmS.heldN
    dsimp only
    rw [List.length_map]
    omega
end Go.Proofs.Ytjaheelgcjafcaa
namespace Go.Proofs.Ytjaheelgcjafcaa
open Go.RowKit
theorem bk_at (u i : Nat) : bk1 ((u + (i + 1)) % 4294967296) = (u + i) % 4294967296 := by unfold bk1; omega
theorem on_at (u i : Nat) : on1 ((u + i) % 4294967296) = (u + (i + 1)) % 4294967296 := by unfold on1; omega
/-- From the i-th piece back to the one that begins. -/
theorem back_whole {D : List (Nat × Pc)} {u : Nat} (hu : u < 4294967296) (h0 : (pcAt D u).beg = true) : ∀ i f, i < f → (∀ j, j < i → (pcAt D ((u + (j + 1)) % 4294967296)).beg = false ∧ joinsB D ((u + j) % 4294967296) = true) → backF D f ((u + i) % 4294967296) = some u := by
  intro i
  induction i with
  | zero =>
    intro f hf _
    obtain ⟨f, rfl⟩ : ∃ g, f = g + 1 := ⟨f - 1, by omega⟩
    rw [Nat.add_zero u, Nat.mod_eq_of_lt hu, backF_succ, if_pos h0]
  | succ i ih =>
    intro f hf h
    obtain ⟨f, rfl⟩ : ∃ g, f = g + 1 := ⟨f - 1, by omega⟩
    obtain ⟨h1, h2⟩ := h i (by omega)
    rw [backF_succ, h1, bk_at, h2, if_neg (by decide), if_pos rfl]
    exact ih f (by omega) (fun j hj => h j (by omega))
/-- A way back that comes to a gap. -/
theorem back_gap {D : List (Nat × Pc)} {u : Nat} (hg : joinsB D (u % 4294967296) = false) : ∀ i f, (∀ j, j < i + 1 → (pcAt D ((u + (j + 1)) % 4294967296)).beg = false) → (∀ j, j < i → joinsB D ((u + (j + 1)) % 4294967296) = true) → backF D f ((u + (i + 1)) % 4294967296) = none := by
  intro i
  induction i with
  | zero =>
    intro f h _
    cases f with
    | zero => rw [backF]
    | succ f => rw [backF_succ, h 0 (by omega), bk_at, Nat.add_zero u, hg, if_neg (by decide), if_neg (by decide)]
  | succ i ih =>
    intro f h hj
    cases f with
    | zero => rw [backF]
    | succ f =>
      rw [backF_succ, h (i + 1) (by omega), bk_at, hj i (by omega), if_neg (by decide), if_pos rfl]
      exact ih f (fun j hj => h j (by omega)) (fun j hjj => hj j (by omega))
/-- On from the i-th piece, m more. -/
theorem on_whole {D : List (Nat × Pc)} {u : Nat} : ∀ m i f L, m < f → (pcAt D ((u + (i + m)) % 4294967296)).fin = true → (∀ j, j < m → (pcAt D ((u + (i + j)) % 4294967296)).fin = false ∧ joinsB D ((u + (i + j)) % 4294967296) = true) →
    onF D f ((u + i) % 4294967296) L = some (L ++ (List.range m).map fun j => (u + (i + (j + 1))) % 4294967296) := by
  intro m
  induction m with
  | zero =>
    intro i f L hf h0 _
    obtain ⟨f, rfl⟩ : ∃ g, f = g + 1 := ⟨f - 1, by omega⟩
    rw [Nat.add_zero i] at h0
    rw [onF_succ, if_pos h0, List.range_zero, List.map_nil, List.append_nil]
  | succ m ih =>
    intro i f L hf h0 h
    obtain ⟨f, rfl⟩ : ∃ g, f = g + 1 := ⟨f - 1, by omega⟩
    obtain ⟨h1, h2⟩ := h 0 (by omega)
    rw [Nat.add_zero i] at h1 h2
    rw [onF_succ, h1, h2, if_neg (by decide), if_pos rfl, on_at]
    rw [ih (i + 1) f _ (by omega) (by rw [show i + 1 + m = i + (m + 1) by omega]; exact h0) (fun j hj => by rw [show i + 1 + j = i + (j + 1) by omega]; exact h (j + 1) (by omega))]
    rw [List.range_succ_eq_map, List.map_cons, List.map_map, List.append_assoc, List.singleton_append]
    congr 3
    refine List.map_congr_left (fun j _ => ?_)
    show (u + (i + 1 + (j + 1))) % 4294967296 = (u + (i + (j + 1 + 1))) % 4294967296
    rw [show i + 1 + (j + 1) = i + (j + 1 + 1) by omega]
/-- A way on that comes to a gap. -/
theorem on_gap {D : List (Nat × Pc)} {u : Nat} : ∀ m i f L, (∀ j, j < m + 1 → (pcAt D ((u + (i + j)) % 4294967296)).fin = false) → (∀ j, j < m → joinsB D ((u + (i + j)) % 4294967296) = true) → joinsB D ((u + (i + m)) % 4294967296) = false → onF D f ((u + i) % 4294967296) L = none := by
  intro m
  induction m with
  | zero =>
    intro i f L h _ hg
    have h1 := h 0 (by omega)
    rw [Nat.add_zero i] at h1 hg
    cases f with
    | zero => rw [onF]
    | succ f => rw [onF_succ, h1, hg, if_neg (by decide), if_neg (by decide)]
  | succ m ih =>
    intro i f L h hj hg
    have h1 := h 0 (by omega)
    have h2 := hj 0 (by omega)
    rw [Nat.add_zero i] at h1 h2
    cases f with
    | zero => rw [onF]
    | succ f =>
      rw [onF_succ, h1, h2, if_neg (by decide), if_pos rfl, on_at]
      exact ih (i + 1) f _ (fun j hjj => by rw [show i + 1 + j = i + (j + 1) by omega]; exact h (j + 1) (by omega)) (fun j hjj => by rw [show i + 1 + j = i + (j + 1) by omega]; exact hj (j + 1) (by omega)) (by rw [show i + 1 + m = i + (m + 1) by omega]; exact hg)
/-- The run of a message of m + 1 pieces that is whole, asked for at any one of them. -/
theorem run_whole {D : List (Nat × Pc)} (hs : Srt D) {u m : Nat} (hu : u < 4294967296) (hm : m + 1 ≤ 4294967296) (hin : ∀ j, j < m + 1 → (lookD D ((u + j) % 4294967296)).isSome = true) (hb : (pcAt D u).beg = true) (he : (pcAt D ((u + m) % 4294967296)).fin = true)
    (h : ∀ j, j < m → (pcAt D ((u + (j + 1)) % 4294967296)).beg = false ∧ (pcAt D ((u + j) % 4294967296)).fin = false ∧ joinsB D ((u + j) % 4294967296) = true) (i : Nat) (hi : i ≤ m) : runF D ((u + i) % 4294967296) = (List.range (m + 1)).map fun j => (u + j) % 4294967296 := by
  have hl := chain_len (m + 1) u D hs hm hin
  unfold runF
  rw [back_whole hu hb i (D.length + 1) (by omega) (fun j hj => ⟨(h j (by omega)).1, (h j (by omega)).2.2⟩)]
  dsimp only
  have := on_whole (D := D) (u := u) m 0 (D.length + 1) [u] (by omega) (by rw [Nat.zero_add]; exact he) (fun j hj => by rw [Nat.zero_add]; exact (h j hj).2)
  rw [Nat.add_zero u, Nat.mod_eq_of_lt hu] at this
  rw [this, Option.getD_some, List.range_succ_eq_map, List.map_cons, List.map_map, Nat.add_zero u, Nat.mod_eq_of_lt hu, List.singleton_append]
  congr 1
  refine List.map_congr_left (fun j _ => ?_)
  show (u + (0 + (j + 1))) % 4294967296 = (u + (j + 1)) % 4294967296
  rw [Nat.zero_add]
end Go.Proofs.Ytjaheelgcjafcaa
namespace Go.Proofs.Ytjaheelgcjafcaa
open Go.RowKit
/-- A piece without its place. -/
def Pc.core (p : Pc) : Pc := ⟨p.fl, p.st, p.ss, p.pp, none, 0, 0, p.zs⟩
theorem core_beg (p : Pc) : p.core.beg = p.beg := rfl
theorem core_fin (p : Pc) : p.core.fin = p.fin := rfl
theorem core_free (p : Pc) : p.core.free = p.free := rfl
theorem core_fit (p q : Pc) : fitB p.core q.core = fitB p q := rfl
def coreY (y : Nat × Pc) : Nat × Pc := (y.1, y.2.core)
/-- The same pieces, in another order. -/
structure Alk (D E : List (Nat × Pc)) : Prop where
  perm : (D.map coreY).Perm (E.map coreY)
  srt : Srt D
theorem Srt.nodup {α : Type} {D : List (Nat × α)} (h : Srt D) : (D.map (·.1)).Nodup := by
  refine List.pairwise_map.2 (List.Pairwise.imp ?_ h)
  intro a b hab
  omega
theorem map_coreY_fst (D : List (Nat × Pc)) : (D.map coreY).map (·.1) = D.map (·.1) := by
  rw [List.map_map]
  rfl
theorem Alk.keys {D E : List (Nat × Pc)} (h : Alk D E) : (D.map (·.1)).Perm (E.map (·.1)) := by
  have := h.perm.map (·.1)
  rwa [map_coreY_fst, map_coreY_fst] at this
theorem Alk.nodup {D E : List (Nat × Pc)} (h : Alk D E) : (E.map (·.1)).Nodup := h.keys.nodup_iff.1 h.srt.nodup
theorem Alk.len {D E : List (Nat × Pc)} (h : Alk D E) : D.length = E.length := by
  have := h.perm.length_eq
  rwa [List.length_map, List.length_map] at this
theorem look_nodup {α : Type} {E : List (Nat × α)} (h : (E.map (·.1)).Nodup) {q : Nat} {x : α} (hm : (q, x) ∈ E) : lookD E q = some x := by
  induction E with
  | nil => cases hm
  | cons p E ih =>
    rw [List.map_cons] at h
    obtain ⟨h1, h2⟩ := List.nodup_cons.1 h
    unfold lookD
    rcases List.mem_cons.1 hm with e | hm
    · subst e
      rw [if_pos rfl]
    · rw [if_neg (fun e => h1 (by rw [e]; exact List.mem_map.2 ⟨_, hm, rfl⟩))]
      exact ih h2 hm
/-- Looked up, they are the same but for their places. -/
theorem Alk.look {D E : List (Nat × Pc)} (h : Alk D E) (t : Nat) : (lookD D t).map Pc.core = (lookD E t).map Pc.core := by
  cases e : lookD D t with
  | some x =>
    have hm := h.perm.mem_iff.1 (List.mem_map.2 ⟨_, lookD_mem e, rfl⟩)
    obtain ⟨y, hy, hy2⟩ := List.mem_map.1 hm
    unfold coreY at hy2
    injection hy2 with e1 e2
    dsimp only at e1 e2
    have := look_nodup h.nodup (q := y.1) (x := y.2) hy
    rw [e1] at this
    rw [this]
    exact congrArg some e2.symm
  | none =>
    cases e' : lookD E t with
    | none => rfl
    | some y =>
      have hm := h.perm.mem_iff.2 (List.mem_map.2 ⟨_, lookD_mem e', rfl⟩)
      obtain ⟨x, hx, hx2⟩ := List.mem_map.1 hm
      unfold coreY at hx2
      injection hx2 with e1 e2
      dsimp only at e1 e2
      have := h.srt.look (q := x.1) (x := x.2) hx
      rw [e1, e] at this
      cases this
theorem Alk.some_iff {D E : List (Nat × Pc)} (h : Alk D E) (t : Nat) : (lookD D t).isSome = (lookD E t).isSome := by
  have := congrArg Option.isSome (h.look t)
  rwa [Option.isSome_map, Option.isSome_map] at this
theorem Alk.at_ {D E : List (Nat × Pc)} (h : Alk D E) (t : Nat) : (pcAt D t).core = (pcAt E t).core := by
  have := h.look t
  unfold pcAt
  revert this
  cases lookD D t <;> cases lookD E t <;> intro h2
  · rfl
  · cases h2
  · cases h2
  · exact Option.some.inj h2
theorem Alk.beg {D E : List (Nat × Pc)} (h : Alk D E) (t : Nat) : (pcAt D t).beg = (pcAt E t).beg := by rw [← core_beg, h.at_, core_beg]
theorem Alk.fin {D E : List (Nat × Pc)} (h : Alk D E) (t : Nat) : (pcAt D t).fin = (pcAt E t).fin := by rw [← core_fin, h.at_, core_fin]
theorem Alk.joins {D E : List (Nat × Pc)} (h : Alk D E) (t : Nat) : joinsB D t = joinsB E t := by
  unfold joinsB
  rw [h.some_iff, h.some_iff, ← core_fit, h.at_, h.at_, core_fit, h.fin, h.beg]
/-- A whole message: m + 1 pieces from u on. -/
structure Whl (D : List (Nat × Pc)) (u m : Nat) : Prop where
  lt : u < 4294967296
  few : m + 1 ≤ 4294967296
  there : ∀ j, j < m + 1 → (lookD D ((u + j) % 4294967296)).isSome = true
  beg : (pcAt D u).beg = true
  fin : (pcAt D ((u + m) % 4294967296)).fin = true
  mid : ∀ j, j < m → (pcAt D ((u + (j + 1)) % 4294967296)).beg = false ∧ (pcAt D ((u + j) % 4294967296)).fin = false ∧ joinsB D ((u + j) % 4294967296) = true
def runL (u m : Nat) : List Nat := (List.range (m + 1)).map fun j => (u + j) % 4294967296
theorem runL_len (u m : Nat) : (runL u m).length = m + 1 := by unfold runL; rw [List.length_map, List.length_range]
theorem Alk.whl {D E : List (Nat × Pc)} (h : Alk D E) {u m : Nat} : Whl D u m ↔ Whl E u m :=
  ⟨fun k => ⟨k.lt, k.few, fun j hj => by rw [← h.some_iff]; exact k.there j hj, by rw [← h.beg]; exact k.beg, by rw [← h.fin]; exact k.fin, fun j hj => by rw [← h.beg, ← h.fin, ← h.joins]; exact k.mid j hj⟩,
   fun k => ⟨k.lt, k.few, fun j hj => by rw [h.some_iff]; exact k.there j hj, by rw [h.beg]; exact k.beg, by rw [h.fin]; exact k.fin, fun j hj => by rw [h.beg, h.fin, h.joins]; exact k.mid j hj⟩⟩
theorem Whl.run {D : List (Nat × Pc)} (hs : Srt D) {u m : Nat} (h : Whl D u m) (i : Nat) (hi : i ≤ m) : runF D ((u + i) % 4294967296) = runL u m :=
  run_whole hs h.lt h.few h.there h.beg h.fin h.mid i hi
theorem Whl.len {D : List (Nat × Pc)} (hs : Srt D) {u m : Nat} (h : Whl D u m) : m + 1 ≤ D.length := chain_len (m + 1) u D hs h.few h.there
/-- The way back, with what was passed. -/
theorem back_tells {D : List (Nat × Pc)} : ∀ f t u, t < 4294967296 → f ≤ 4294967295 → backF D f t = some u → ∃ i, i < f ∧ u < 4294967296 ∧ t = (u + i) % 4294967296 ∧ (pcAt D u).beg = true ∧ ∀ j, j < i → (pcAt D ((u + (j + 1)) % 4294967296)).beg = false ∧ joinsB D ((u + j) % 4294967296) = true := by
  intro f
  induction f with
  | zero => intro t u _ _ h; rw [backF] at h; cases h
  | succ f ih =>
    intro t u ht hf h
    rw [backF_succ] at h
    cases hb : (pcAt D t).beg with
    | true =>
      rw [hb, if_pos rfl] at h
      obtain rfl : t = u := Option.some.inj h
      exact ⟨0, by omega, ht, by rw [Nat.add_zero, Nat.mod_eq_of_lt ht], hb, fun j hj => by omega⟩
    | false =>
      rw [hb, if_neg (by decide)] at h
      cases hj : joinsB D (bk1 t) with
      | false => rw [hj, if_neg (by decide)] at h; cases h
      | true =>
        rw [hj, if_pos rfl] at h
        obtain ⟨i, h1, h2, h3, h4, h5⟩ := ih (bk1 t) u (bk1_lt t) (by omega) h
        have e : t = (u + (i + 1)) % 4294967296 := by
          have := on_bk ht
          rw [h3, on_at] at this
          exact this.symm
        refine ⟨i + 1, by omega, h2, e, h4, fun j hj2 => ?_⟩
        by_cases e2 : j = i
        · subst e2
          rw [← e, ← h3]
          exact ⟨hb, hj⟩
        · exact h5 j (by omega)
theorem on_tells {D : List (Nat × Pc)} : ∀ f t L R, t < 4294967296 → onF D f t L = some R → ∃ m, m < f ∧ R = L ++ (List.range m).map (fun j => (t + (j + 1)) % 4294967296) ∧ (pcAt D ((t + m) % 4294967296)).fin = true ∧ ∀ j, j < m → (pcAt D ((t + j) % 4294967296)).fin = false ∧ joinsB D ((t + j) % 4294967296) = true := by
  intro f
  induction f with
  | zero => intro t L R _ h; rw [onF] at h; cases h
  | succ f ih =>
    intro t L R ht h
    rw [onF_succ] at h
    have e0 : (t + 0) % 4294967296 = t := by rw [Nat.add_zero, Nat.mod_eq_of_lt ht]
    cases hb : (pcAt D t).fin with
    | true =>
      rw [hb, if_pos rfl] at h
      obtain rfl : L = R := Option.some.inj h
      exact ⟨0, by omega, by rw [List.range_zero, List.map_nil, List.append_nil], by rw [e0]; exact hb, fun j hj => by omega⟩
    | false =>
      rw [hb, if_neg (by decide)] at h
      cases hj : joinsB D t with
      | false => rw [hj, if_neg (by decide)] at h; cases h
      | true =>
        rw [hj, if_pos rfl] at h
        obtain ⟨m, h1, h2, h3, h4⟩ := ih (on1 t) _ R (on1_lt t) h
        have sh : ∀ j, (on1 t + j) % 4294967296 = (t + (j + 1)) % 4294967296 := fun j => by unfold on1; omega
        refine ⟨m + 1, by omega, ?_, by rw [← sh]; exact h3, fun j hj2 => ?_⟩
        · rw [h2, List.range_succ_eq_map, List.map_cons, List.map_map, List.append_assoc]
          congr 1
          rw [List.singleton_append]
          congr 1
          refine List.map_congr_left (fun j _ => ?_)
          show (on1 t + (j + 1)) % 4294967296 = (t + (j + 1 + 1)) % 4294967296
          exact sh (j + 1)
        · rcases j with _ | j
          · rw [e0]; exact ⟨hb, hj⟩
          · rw [← sh]; exact h4 j (by omega)
/-- A run that isn't empty is a whole message, with the piece asked for in it. -/
theorem run_tells {D : List (Nat × Pc)} (hd : D.length ≤ 4294967294) {t : Nat} (ht : t < 4294967296) (hin : (lookD D t).isSome = true) (h : runF D t ≠ []) : ∃ u m i, Whl D u m ∧ i ≤ m ∧ t = (u + i) % 4294967296 ∧ runF D t = runL u m := by
  unfold runF at h ⊢
  cases hb : backF D (D.length + 1) t with
  | none => rw [hb] at h; exact absurd rfl h
  | some u =>
    obtain ⟨i, hi, hu, ht2, hbg, hbk⟩ := back_tells (D.length + 1) t u ht (by omega) hb
    rw [hb] at h
    dsimp only at h ⊢
    cases ho : onF D (D.length + 1) u [u] with
    | none => rw [ho] at h; exact absurd rfl h
    | some R =>
      obtain ⟨m, hm, hR, hfin, hon⟩ := on_tells (D.length + 1) u [u] R hu ho
      have hR' : R = runL u m := by
        unfold runL
        rw [hR, List.range_succ_eq_map, List.map_cons, List.map_map, Nat.add_zero u, Nat.mod_eq_of_lt hu, List.singleton_append]
        congr 1
      have th : ∀ j, j < m + 1 → (lookD D ((u + j) % 4294967296)).isSome = true := by
        intro j hj
        by_cases e : j < m
        · exact (joinsB_in (hon j e).2).1
        · obtain rfl : j = m := by omega
          rcases j with _ | j
          · by_cases ei : i = 0
            · subst ei
              rw [← ht2]
              exact hin
            · have := (joinsB_in (hbk 0 (by omega)).2).1
              exact this
          · have := (joinsB_in (hon j (by omega)).2).2
            rwa [on_at] at this
      have hW : Whl D u m := ⟨hu, by omega, th, hbg, hfin, fun j hj => ⟨by
        have := (hon j hj).2
        unfold joinsB at this
        simp only [Bool.and_eq_true] at this
        have e := this.2
        rw [on_at] at e
        simpa using e, hon j hj⟩⟩
      refine ⟨u, m, i, hW, ?_, ht2, by rw [Option.getD_some, hR']⟩
      rcases Nat.lt_or_ge m i with e | e
      · exfalso
        have h1 := (hbk m e).2
        unfold joinsB at h1
        simp only [Bool.and_eq_true] at h1
        rw [hfin] at h1
        simp at h1
      · exact e
/-- A piece is of one whole message at most. -/
theorem Whl.one {D : List (Nat × Pc)} (hs : Srt D) {u m u' m' i i' : Nat} (h : Whl D u m) (h' : Whl D u' m') (hi : i ≤ m) (hi' : i' ≤ m') (e : (u + i) % 4294967296 = (u' + i') % 4294967296) : u = u' ∧ m = m' := by
  have h1 := h.run hs i hi
  have h2 := h'.run hs i' hi'
  rw [e, h2] at h1
  have hl := congrArg List.length h1
  rw [runL_len, runL_len] at hl
  have hh := congrArg List.head? h1
  unfold runL at hh
  rw [List.range_succ_eq_map, List.range_succ_eq_map, List.map_cons, List.map_cons] at hh
  have e0 := Option.some.inj hh
  have := h.lt
  have := h'.lt
  exact ⟨by omega, by omega⟩
/-- No message is whole. -/
def Nowhl (D : List (Nat × Pc)) : Prop := ∀ u m, ¬ Whl D u m
/-- Fewer pieces: a whole one was whole before. -/
theorem Whl.less {D D' : List (Nat × Pc)} (hl : ∀ q x, lookD D' q = some x → lookD D q = some x) {u m : Nat} (h : Whl D' u m) : Whl D u m := by
  have e : ∀ q, (lookD D' q).isSome = true → (lookD D q).isSome = true ∧ pcAt D q = pcAt D' q := fun q hq => by
    obtain ⟨x, hx⟩ := Option.isSome_iff_exists.1 hq
    have := hl q x hx
    unfold pcAt
    rw [this, hx]
    exact ⟨rfl, rfl⟩
  have e0 := h.there 0 (by omega)
  rw [Nat.add_zero, Nat.mod_eq_of_lt h.lt] at e0
  refine ⟨h.lt, h.few, fun j hj => (e _ (h.there j hj)).1, by rw [(e _ e0).2]; exact h.beg, by rw [(e _ (h.there m (by omega))).2]; exact h.fin, fun j hj => ?_⟩
  have e1 := e _ (h.there j (by omega))
  have e2 := e _ (h.there (j + 1) (by omega))
  have hm := h.mid j hj
  rw [e2.2, e1.2]
  refine ⟨hm.1, hm.2.1, ?_⟩
  have hj2 := hm.2.2
  unfold joinsB at hj2 ⊢
  rw [on_at] at hj2 ⊢
  rw [e1.1, e2.1, e1.2, e2.2]
  rw [h.there j (by omega), h.there (j + 1) (by omega)] at hj2
  exact hj2
/-- One more piece: what is whole then has it. -/
theorem whl_new {D : List (Nat × Pc)} (hs : Srt D) (hn : Nowhl D) {t : Nat} {p : Pc} {u m : Nat} (h : Whl (putD D t p) u m) : ∃ i, i ≤ m ∧ t = (u + i) % 4294967296 := by
  by_cases hc : ∃ i, i ≤ m ∧ t = (u + i) % 4294967296
  · exact hc
  · exfalso
    refine hn u m ?_
    have ne : ∀ i, i ≤ m → ¬ (u + i) % 4294967296 = t := fun i hi e => hc ⟨i, hi, e.symm⟩
    have lk : ∀ i, i ≤ m → lookD (putD D t p) ((u + i) % 4294967296) = lookD D ((u + i) % 4294967296) := fun i hi => by rw [look_put _ _ _ _ hs, if_neg (ne i hi)]
    have e0 := lk 0 (by omega)
    rw [Nat.add_zero, Nat.mod_eq_of_lt h.lt] at e0
    have pa : ∀ i, i ≤ m → pcAt (putD D t p) ((u + i) % 4294967296) = pcAt D ((u + i) % 4294967296) := fun i hi => by unfold pcAt; rw [lk i hi]
    have hb := h.beg
    unfold pcAt at hb
    rw [e0] at hb
    refine ⟨h.lt, h.few, fun j hj => by rw [← lk j (by omega)]; exact h.there j hj, hb, by rw [← pa m (by omega)]; exact h.fin, fun j hj => ?_⟩
    have hm := h.mid j hj
    rw [pa j (by omega), pa (j + 1) (by omega)] at hm
    refine ⟨hm.1, hm.2.1, ?_⟩
    have := hm.2.2
    unfold joinsB at this ⊢
    rw [on_at] at this ⊢
    rw [lk j (by omega), lk (j + 1) (by omega), pa j (by omega), pa (j + 1) (by omega)] at this
    exact this
end Go.Proofs.Ytjaheelgcjafcaa
namespace Go.Proofs.Ytjaheelgcjafcaa
open Go.RowKit
theorem look_map {α β : Type} (g : α → β) (D : List (Nat × α)) (t : Nat) : lookD (D.map fun y => (y.1, g y.2)) t = (lookD D t).map g := by
  induction D with
  | nil => rfl
  | cons y D ih =>
    rw [List.map_cons]
    unfold lookD
    by_cases e : y.1 = t
    · rw [if_pos e, if_pos e]; rfl
    · rw [if_neg e, if_neg e]; exact ih
theorem perm_look {β : Type} {A B : List (Nat × β)} (h : A.Perm B) (hn : (A.map (·.1)).Nodup) (t : Nat) : lookD A t = lookD B t := by
  have hnB : (B.map (·.1)).Nodup := (h.map (·.1)).nodup_iff.1 hn
  cases e : lookD A t with
  | some x => exact (look_nodup hnB (h.mem_iff.1 (lookD_mem e))).symm
  | none =>
    cases e' : lookD B t with
    | none => rfl
    | some y =>
      have := look_nodup hn (h.mem_iff.2 (lookD_mem e'))
      rw [e] at this
      cases this
theorem del_filter {α : Type} {D : List (Nat × α)} (h : Srt D) (q : Nat) : delD D q = D.filter (fun y => !(y.1 == q)) := by
  induction D with
  | nil => rfl
  | cons y D ih =>
    obtain ⟨h1, h2⟩ := List.pairwise_cons.1 h
    unfold delD
    by_cases e : y.1 = q
    · rw [if_pos e, List.filter_cons_of_neg (by simp [e])]
      refine (List.filter_eq_self.2 (fun z hz => ?_)).symm
      have := h1 z hz
      simp only [Bool.not_eq_true', beq_eq_false_iff_ne]
      omega
    · rw [if_neg e, List.filter_cons_of_pos (by simpa using e), ih h2]
theorem lift_filter {D : List (Nat × Pc)} (h : Srt D) (R : List Nat) : liftD D R = D.filter (fun y => !R.contains y.1) := by
  induction R generalizing D with
  | nil => exact (List.filter_eq_self.2 (fun z _ => rfl)).symm
  | cons q R ih =>
    show liftD (delD D q) R = _
    rw [ih (h.del q), del_filter h q, List.filter_filter]
    refine List.filter_congr (fun y _ => ?_)
    rw [List.contains_cons]
    cases y.1 == q <;> simp
theorem put_perm {α : Type} {D : List (Nat × α)} (h : Srt D) (q : Nat) (x : α) : (putD D q x).Perm ((q, x) :: delD D q) := by
  induction D with
  | nil => exact List.Perm.refl _
  | cons y D ih =>
    obtain ⟨h1, h2⟩ := List.pairwise_cons.1 h
    unfold putD delD
    by_cases e : y.1 = q
    · rw [if_pos e, if_pos e]
    · rw [if_neg e, if_neg e]
      by_cases e2 : q < y.1
      · rw [if_pos e2]
        have : delD D q = D := by
          rw [del_filter h2 q]
          refine List.filter_eq_self.2 (fun z hz => ?_)
          have := h1 z hz
          simp only [Bool.not_eq_true', beq_eq_false_iff_ne]
          omega
        rw [this]
      · rw [if_neg e2]
        exact ((ih h2).cons y).trans (List.Perm.swap _ _ _)
theorem del_none {α : Type} {D : List (Nat × α)} (h : Srt D) {q : Nat} (hn : lookD D q = none) : delD D q = D := by
  rw [del_filter h q]
  refine List.filter_eq_self.2 (fun z hz => ?_)
  simp only [Bool.not_eq_true', beq_eq_false_iff_ne]
  intro e
  have := h.look (q := z.1) (x := z.2) hz
  rw [e, hn] at this
  cases this
/-- One more piece, in both. -/
theorem Alk.put {D E : List (Nat × Pc)} (h : Alk D E) {t : Nat} (hn : lookD D t = none) {p p' : Pc} (hp : p.core = p'.core) : Alk (putD D t p) (E ++ [(t, p')]) := by
  refine ⟨?_, h.srt.put t p⟩
  have h1 := (put_perm h.srt t p).map coreY
  rw [del_none h.srt hn, List.map_cons] at h1
  refine h1.trans ?_
  rw [List.map_append, List.map_cons, List.map_nil]
  refine (h.perm.cons _).trans ?_
  rw [show coreY (t, p) = coreY (t, p') by unfold coreY; rw [hp]]
  exact (List.perm_append_singleton _ _).symm
theorem filter_mapK {α β : Type} (f : Nat × α → Nat × β) (hf : ∀ y, (f y).1 = y.1) (P : Nat → Bool) (D : List (Nat × α)) : (D.filter (fun y => P y.1)).map f = (D.map f).filter (fun y => P y.1) := by
  rw [List.filter_map]
  congr 1
  refine List.filter_congr (fun y _ => ?_)
  show P y.1 = P (f y).1
  rw [hf]
theorem Alk.lift {D E : List (Nat × Pc)} (h : Alk D E) (R : List Nat) : Alk (liftD D R) (E.filter (fun y => !R.contains y.1)) := by
  refine ⟨?_, lift_srt R D h.srt⟩
  rw [lift_filter h.srt, filter_mapK coreY (fun _ => rfl) (fun q => !R.contains q), filter_mapK coreY (fun _ => rfl) (fun q => !R.contains q)]
  exact h.perm.filter _
def keyM (m : Mg) : Nat := tkey m.st m.ss
def kvV (x : Mg × Nat) : Nat × (Mg × Nat) := (keyM x.1, x)
def kvW (y : Nat × List Pc) : Nat × (Mg × Nat) := (y.1, (joinM y.2, y.2.length))
/-- The same messages wait, in another order. -/
structure Alw (W : List (Nat × List Pc)) (V : List (Mg × Nat)) : Prop where
  perm : (W.map kvW).Perm (V.map kvV)
  srt : Srt W
theorem Alw.nodup {W : List (Nat × List Pc)} {V : List (Mg × Nat)} (h : Alw W V) : ((V.map kvV).map (·.1)).Nodup := by
  have := h.perm.map (·.1)
  rw [List.map_map] at this
  exact this.nodup_iff.1 h.srt.nodup
theorem Alw.look {W : List (Nat × List Pc)} {V : List (Mg × Nat)} (h : Alw W V) (k : Nat) : lookD (V.map kvV) k = (lookD W k).map fun ps => (joinM ps, ps.length) := by
  have e := perm_look h.perm.symm h.nodup k
  rw [e]
  exact look_map (fun ps => (joinM ps, ps.length)) W k
theorem Alw.len {W : List (Nat × List Pc)} {V : List (Mg × Nat)} (h : Alw W V) : W.length = V.length := by
  have := h.perm.length_eq
  rwa [List.length_map, List.length_map] at this
/-- What waits no more. -/
def dropV (V : List (Mg × Nat)) (k : Nat) : List (Mg × Nat) := V.filter fun x => !(keyM x.1 == k)
theorem Alw.del {W : List (Nat × List Pc)} {V : List (Mg × Nat)} (h : Alw W V) (k : Nat) : Alw (delD W k) (dropV V k) := by
  refine ⟨?_, h.srt.del k⟩
  rw [del_filter h.srt, filter_mapK kvW (fun _ => rfl) (fun q => !(q == k))]
  have : (dropV V k).map kvV = (V.map kvV).filter (fun y => !(y.1 == k)) := by
    unfold dropV
    rw [List.filter_map]
    rfl
  rw [this]
  exact h.perm.filter _
theorem Alw.put {W : List (Nat × List Pc)} {V : List (Mg × Nat)} (h : Alw W V) {k : Nat} {ps : List Pc} (hk : k = keyM (joinM ps)) : Alw (putD W k ps) (dropV V k ++ [(joinM ps, ps.length)]) := by
  refine ⟨?_, h.srt.put k ps⟩
  have h1 := (put_perm h.srt k ps).map kvW
  rw [List.map_cons] at h1
  refine h1.trans ?_
  rw [List.map_append, List.map_cons, List.map_nil]
  refine ((h.del k).perm.cons _).trans ?_
  rw [show kvW (k, ps) = kvV (joinM ps, ps.length) by unfold kvW kvV; rw [hk]]
  exact (List.perm_append_singleton _ _).symm
/-- The reference tells those that wait no longer. -/
def relV (st : Nat) : Nat → List Nat × List (Mg × Nat) → List Mg → (List Nat × List (Mg × Nat)) × List Mg
  | 0, q, T => (q, T)
  | f + 1, q, T => match lookD (q.2.map kvV) (tkey st (q.1.getD st 0)) with
    | none => (q, T)
    | some x => relV st f (q.1.set st ((q.1.getD st 0 + 1) % 65536), dropV q.2 (tkey st (q.1.getD st 0))) (T ++ [x.1])
theorem relV_none {st f : Nat} {q : List Nat × List (Mg × Nat)} {T : List Mg} (h : lookD (q.2.map kvV) (tkey st (q.1.getD st 0)) = none) : relV st f q T = (q, T) := by
  cases f with
  | zero => rw [relV]
  | succ f => rw [relV, h]
theorem relV_some {st f : Nat} {q : List Nat × List (Mg × Nat)} {T : List Mg} {x : Mg × Nat} (h : lookD (q.2.map kvV) (tkey st (q.1.getD st 0)) = some x) : relV st (f + 1) q T = relV st f (q.1.set st ((q.1.getD st 0 + 1) % 65536), dropV q.2 (tkey st (q.1.getD st 0))) (T ++ [x.1]) := by rw [relV, h]
theorem relF_D (st : Nat) : ∀ f s T, (relF st f s T).1.D = s.D := by
  intro f
  induction f with
  | zero => intro s T; rw [relF]
  | succ f ih =>
    intro s T
    cases h : lookD s.W (s.now st) with
    | none => rw [relF_none h]
    | some ps => rw [relF_some h, ih]; rfl
/-- Both tell the same. -/
theorem rel_same (st : Nat) : ∀ f s V T, Alw s.W V → (relF st f s T).2 = (relV st f (s.nx, V) T).2 ∧ (relF st f s T).1.nx = (relV st f (s.nx, V) T).1.1 ∧ Alw (relF st f s T).1.W (relV st f (s.nx, V) T).1.2 := by
  intro f
  induction f with
  | zero => intro s V T h; rw [relF, relV]; exact ⟨rfl, rfl, h⟩
  | succ f ih =>
    intro s V T h
    have hl := h.look (s.now st)
    cases hw : lookD s.W (s.now st) with
    | none =>
      rw [hw] at hl
      rw [relF_none hw, relV_none (q := (s.nx, V)) hl]
      exact ⟨rfl, rfl, h⟩
    | some ps =>
      rw [hw] at hl
      rw [relF_some hw, relV_some (q := (s.nx, V)) hl]
      exact ih (s.let st) (dropV V (s.now st)) (T ++ [joinM ps]) (h.del (s.now st))
theorem flat_core (l : List Pc) : (l.map Pc.core).flatMap (·.zs) = l.flatMap (·.zs) := by
  induction l with
  | nil => rfl
  | cons p l ih => rw [List.map_cons, List.flatMap_cons, List.flatMap_cons, ih]; rfl
theorem join_core (l : List Pc) : joinM (l.map Pc.core) = joinM l := by
  unfold joinM
  rw [flat_core]
  cases l <;> rfl
theorem join_same {l l' : List Pc} (h : l.map Pc.core = l'.map Pc.core) : joinM l = joinM l' := by rw [← join_core l, h, join_core]
/-- What both hold. -/
structure Ali (s : SmS) (E : List (Nat × Pc)) (V : List (Mg × Nat)) : Prop where
  pcs : Alk s.D E
  wts : Alw s.W V
  now : Nowhl s.D
/-- The reference's tell, of a message and how many pieces it had: the rows behind it, and what is told. -/
def tellV (nx : List Nat) (V : List (Mg × Nat)) (m : Mg) (n : Nat) : (List Nat × List (Mg × Nat)) × List Mg :=
  if m.fr then ((nx, V), [m])
  else if 0 < aheadV 65536 m.ss (nx.getD m.st 0) then ((nx, V), [])
  else relV m.st ((dropV V (keyM m)).length + 2) (nx, dropV V (keyM m) ++ [(m, n)]) []
theorem putD_len_le {α : Type} (D : List (Nat × α)) (q : Nat) (x : α) : (putD D q x).length ≤ D.length + 1 := by
  induction D with
  | nil => exact Nat.le_refl _
  | cons p D ih =>
    unfold putD
    split
    · simp
    · split
      · simp
      · simp only [List.length_cons]; omega
theorem tell_same {s : SmS} {V : List (Mg × Nat)} (h : Alw s.W V) (ps : List Pc) :
    (s.tell ps).2 = (tellV s.nx V (joinM ps) ps.length).2 ∧ (s.tell ps).1.nx = (tellV s.nx V (joinM ps) ps.length).1.1 ∧ Alw (s.tell ps).1.W (tellV s.nx V (joinM ps) ps.length).1.2 ∧ (s.tell ps).1.D = s.D := by
  unfold SmS.tell tellV
  show _ ∧ _ ∧ _ ∧ _
  have e1 : (joinM ps).fr = (ps.headD zeroPc).free := rfl
  rw [e1]
  cases hf : (ps.headD zeroPc).free with
  | true => rw [if_pos rfl, if_pos rfl]; exact ⟨rfl, rfl, h, rfl⟩
  | false =>
    have e2 : (joinM ps).ss = (ps.headD zeroPc).ss := by unfold joinM; rw [hf]; rfl
    have e3 : (joinM ps).st = (ps.headD zeroPc).st := rfl
    rw [if_neg Bool.false_ne_true, if_neg Bool.false_ne_true, e2, e3]
    by_cases ho : 0 < aheadV 65536 (ps.headD zeroPc).ss (s.nx.getD (ps.headD zeroPc).st 0)
    · rw [if_pos ho, if_pos ho]; exact ⟨rfl, rfl, h, rfl⟩
    · rw [if_neg ho, if_neg ho]
      have hk : tkey (ps.headD zeroPc).st (ps.headD zeroPc).ss = keyM (joinM ps) := by unfold keyM; rw [e2, e3]
      have hp := h.put hk
      rw [hk] at hp ⊢
      have hl := hp.len
      rw [List.length_append, List.length_singleton] at hl
      have := rel_same (ps.headD zeroPc).st ((putD s.W (keyM (joinM ps)) ps).length + 1) ⟨s.nx, s.D, putD s.W (keyM (joinM ps)) ps⟩ _ [] hp
      unfold SmS.rel
      dsimp only
      rw [hl] at this ⊢
      rw [show (dropV V (keyM (joinM ps))).length + 1 + 1 = (dropV V (keyM (joinM ps))).length + 2 from rfl] at this ⊢
      exact ⟨this.1, this.2.1, this.2.2, relF_D _ _ _ _⟩
/-- Add where no message is whole behind it. -/
theorem add_no {s : SmS} {E : List (Nat × Pc)} {V : List (Mg × Nat)} (h : Ali s E V) {t : Nat} (ht : t < 4294967296) (hn : lookD s.D t = none) (hd : s.D.length ≤ 4294967293) {p p' : Pc} (hp : p.core = p'.core) (hw : ∀ y ∈ E ++ [(t, p')], ∀ m, ¬ Whl (E ++ [(t, p')]) y.1 m) :
    Ali (s.add t p).1 (E ++ [(t, p')]) V ∧ (s.add t p).2 = [] ∧ (s.add t p).1.nx = s.nx := by
  have hA := h.pcs.put hn hp
  have hno : Nowhl (putD s.D t p) := fun u m hW => by
    have hE := hA.whl.1 hW
    have h0 := hE.there 0 (by omega)
    rw [Nat.add_zero, Nat.mod_eq_of_lt hE.lt] at h0
    obtain ⟨x, hx⟩ := Option.isSome_iff_exists.1 h0
    exact hw _ (lookD_mem hx) m hE
  have hr : runF (putD s.D t p) t = [] := by
    cases e : runF (putD s.D t p) t with
    | nil => rfl
    | cons a l =>
      obtain ⟨u, m, i, hW, _⟩ := run_tells (D := putD s.D t p) (by have := putD_len_le s.D t p; omega) ht (by rw [look_put _ _ _ _ h.pcs.srt, if_pos rfl]; rfl) (by rw [e]; simp)
      exact absurd hW (hno u m)
  unfold SmS.add
  dsimp only
  rw [hr]
  exact ⟨⟨hA, h.wts, hno⟩, rfl, rfl⟩
/-- Add that makes a message whole. -/
theorem add_yes {s : SmS} {E : List (Nat × Pc)} {V : List (Mg × Nat)} (h : Ali s E V) {t : Nat} (hn : lookD s.D t = none) {p p' : Pc} (hp : p.core = p'.core) {u m : Nat} (hw : Whl (E ++ [(t, p')]) u m) :
    Ali (s.add t p).1 ((E ++ [(t, p')]).filter (fun y => !(runL u m).contains y.1)) (tellV s.nx V (joinM ((runL u m).map (pcAt (E ++ [(t, p')])))) (m + 1)).1.2 ∧
    (s.add t p).2 = (tellV s.nx V (joinM ((runL u m).map (pcAt (E ++ [(t, p')])))) (m + 1)).2 ∧ (s.add t p).1.nx = (tellV s.nx V (joinM ((runL u m).map (pcAt (E ++ [(t, p')])))) (m + 1)).1.1 := by
  have hA := h.pcs.put hn hp
  have hs := hA.srt
  have hW := hA.whl.2 hw
  obtain ⟨i, hi, ht⟩ := whl_new h.pcs.srt h.now hW
  have hr : runF (putD s.D t p) t = runL u m := by rw [ht]; rw [ht] at hs hW; exact hW.run hs i hi
  have hlen := runL_len u m
  have hj : joinM ((runL u m).map (pcAt (putD s.D t p))) = joinM ((runL u m).map (pcAt (E ++ [(t, p')]))) := by
    refine join_same ?_
    rw [List.map_map, List.map_map]
    exact List.map_congr_left (fun q _ => hA.at_ q)
  have ht2 := tell_same (s := ⟨s.nx, liftD (putD s.D t p) (runL u m), s.W⟩) h.wts ((runL u m).map (pcAt (putD s.D t p)))
  rw [hj, List.length_map, hlen] at ht2
  have hadd : s.add t p = SmS.tell ⟨s.nx, liftD (putD s.D t p) (runL u m), s.W⟩ ((runL u m).map (pcAt (putD s.D t p))) := by
    unfold SmS.add
    dsimp only
    rw [hr, if_neg (by rw [hlen]; omega)]
  rw [hadd]
  refine ⟨⟨?_, ht2.2.2.1, ?_⟩, ht2.1, ht2.2.1⟩
  · rw [ht2.2.2.2]
    exact hA.lift (runL u m)
  · rw [ht2.2.2.2]
    intro u' m' hW'
    have hin : ∀ q x, lookD (liftD (putD s.D t p) (runL u m)) q = some x → lookD (putD s.D t p) q = some x := fun q x hx => by
      have hm := lookD_mem hx
      rw [lift_filter hs] at hm
      exact hs.look (List.mem_filter.1 hm).1
    obtain ⟨i', hi', ht'⟩ := whl_new h.pcs.srt h.now (hW'.less hin)
    have h0 := hW'.there i' (by omega)
    rw [← ht'] at h0
    obtain ⟨x, hx⟩ := Option.isSome_iff_exists.1 h0
    have hm := lookD_mem hx
    rw [lift_filter hs] at hm
    have := (List.mem_filter.1 hm).2
    have hmem : t ∈ runL u m := by
      unfold runL
      exact List.mem_map.2 ⟨i, List.mem_range.2 (by omega), ht.symm⟩
    simp [hmem] at this
end Go.Proofs.Ytjaheelgcjafcaa
namespace Go.Proofs.Ytjaheelgcjafcaa
open Go.RowKit
theorem fit_sym (p q : Pc) (h : fitB p q = true) : fitB q p = true := by
  unfold fitB at h ⊢
  simp only [Bool.and_eq_true, beq_iff_eq, Bool.or_eq_true] at h ⊢
  obtain ⟨⟨h1, h2⟩, h3⟩ := h
  exact ⟨⟨h1.symm, h2.symm⟩, h3.elim (fun e => .inl (by rw [← h2]; exact e)) (fun e => .inr e.symm)⟩
theorem fit_trans (p q r : Pc) (h : fitB p q = true) (k : fitB q r = true) : fitB p r = true := by
  unfold fitB at h k ⊢
  simp only [Bool.and_eq_true, beq_iff_eq, Bool.or_eq_true] at h k ⊢
  obtain ⟨⟨h1, h2⟩, h3⟩ := h
  obtain ⟨⟨k1, k2⟩, k3⟩ := k
  refine ⟨⟨h1.trans k1, h2.trans k2⟩, ?_⟩
  rcases h3 with h3 | h3
  · exact .inl h3
  · rcases k3 with k3 | k3
    · exact .inl (by rw [h2]; exact k3)
    · exact .inr (h3.trans k3)
theorem fit_refl (p : Pc) : fitB p p = true := by
  unfold fitB
  simp
/-- k pieces of a message, from u on: the first begins, no other does, none ends, all are of one message. -/
structure RnS (D : List (Nat × Pc)) (u k : Nat) : Prop where
  there : ∀ j, j < k → (lookD D ((u + j) % 4294967296)).isSome = true
  b0 : 0 < k → (pcAt D u).beg = true
  mid : ∀ j, j + 1 < k → (pcAt D ((u + (j + 1)) % 4294967296)).beg = false
  fin : ∀ j, j < k → (pcAt D ((u + j) % 4294967296)).fin = false
  fit : ∀ j, j < k → fitB (pcAt D ((u + j) % 4294967296)) (pcAt D u) = true
  lt : u < 4294967296
  few : k ≤ 4294967295
theorem RnS.start {D : List (Nat × Pc)} {u : Nat} (h : u < 4294967296) : RnS D u 0 := ⟨fun j hj => by omega, fun h => by omega, fun j hj => by omega, fun j hj => by omega, fun j hj => by omega, h, by omega⟩
/-- May the next piece be of it? -/
def nextB (D : List (Nat × Pc)) (u k : Nat) : Bool := (lookD D ((u + k) % 4294967296)).isSome && ((pcAt D ((u + k) % 4294967296)).beg == (k == 0)) && (k == 0 || fitB (pcAt D ((u + k) % 4294967296)) (pcAt D u))
theorem RnS.len {D : List (Nat × Pc)} (hs : Srt D) {u k : Nat} (h : RnS D u k) : k ≤ D.length := chain_len k u D hs (by have := h.few; omega) h.there
theorem nextB_in {D : List (Nat × Pc)} {u k : Nat} (hu : u < 4294967296) (h : nextB D u k = true) : (lookD D ((u + k) % 4294967296)).isSome = true ∧ (k = 0 → (pcAt D u).beg = true) ∧ (0 < k → (pcAt D ((u + k) % 4294967296)).beg = false) ∧ fitB (pcAt D ((u + k) % 4294967296)) (pcAt D u) = true := by
  unfold nextB at h
  simp only [Bool.and_eq_true, beq_iff_eq, Bool.or_eq_true] at h
  obtain ⟨⟨h1, h2⟩, h3⟩ := h
  refine ⟨h1, fun e => ?_, fun e => ?_, ?_⟩
  · subst e
    rw [Nat.add_zero, Nat.mod_eq_of_lt hu] at h2
    simpa using h2
  · rw [h2]
    simp
    omega
  · rcases h3 with h3 | h3
    · subst h3
      rw [Nat.add_zero, Nat.mod_eq_of_lt hu]
      exact fit_refl _
    · exact h3
theorem RnS.step {D : List (Nat × Pc)} {u k : Nat} (h : RnS D u k) (hk : k < 4294967295) (hn : nextB D u k = true) (hf : (pcAt D ((u + k) % 4294967296)).fin = false) : RnS D u (k + 1) := by
  obtain ⟨n1, n2, n3, n4⟩ := nextB_in h.lt hn
  refine ⟨fun j hj => ?_, fun _ => ?_, fun j hj => ?_, fun j hj => ?_, fun j hj => ?_, h.lt, by omega⟩
  · by_cases e : j = k
    · rw [e]; exact n1
    · exact h.there j (by omega)
  · rcases Nat.eq_zero_or_pos k with e | e
    · exact n2 e
    · exact h.b0 e
  · by_cases e : j + 1 = k
    · rw [e]; exact n3 (by omega)
    · exact h.mid j (by omega)
  · by_cases e : j = k
    · rw [e]; exact hf
    · exact h.fin j (by omega)
  · by_cases e : j = k
    · rw [e]; exact n4
    · exact h.fit j (by omega)
theorem RnS.whole {D : List (Nat × Pc)} {u k : Nat} (h : RnS D u k) (hn : nextB D u k = true) (hf : (pcAt D ((u + k) % 4294967296)).fin = true) : Whl D u k := by
  obtain ⟨n1, n2, n3, n4⟩ := nextB_in h.lt hn
  have th : ∀ j, j < k + 1 → (lookD D ((u + j) % 4294967296)).isSome = true := fun j hj => by
    by_cases e : j = k
    · rw [e]; exact n1
    · exact h.there j (by omega)
  have ft : ∀ j, j < k + 1 → fitB (pcAt D ((u + j) % 4294967296)) (pcAt D u) = true := fun j hj => by
    by_cases e : j = k
    · rw [e]; exact n4
    · exact h.fit j (by omega)
  have bg : ∀ j, j < k → (pcAt D ((u + (j + 1)) % 4294967296)).beg = false := fun j hj => by
    by_cases e : j + 1 = k
    · rw [e]; exact n3 (by omega)
    · exact h.mid j (by omega)
  refine ⟨h.lt, by have := h.few; omega, th, ?_, hf, fun j hj => ⟨bg j hj, h.fin j hj, ?_⟩⟩
  · rcases Nat.eq_zero_or_pos k with e | e
    · exact n2 e
    · exact h.b0 e
  · unfold joinsB
    rw [on_at, th j (by omega), th (j + 1) (by omega), fit_trans _ _ _ (ft j (by omega)) (fit_sym _ _ (ft (j + 1) (by omega))), h.fin j hj, bg j hj]
    rfl
theorem RnS.no {D : List (Nat × Pc)} {u k : Nat} (h : RnS D u k) (hn : nextB D u k = false) (m : Nat) : ¬ Whl D u m := by
  intro hw
  have hmk : k ≤ m := by
    rcases Nat.lt_or_ge m k with e | e
    · have := h.fin m e
      rw [hw.fin] at this
      cases this
    · exact e
  have hfit : ∀ j, j ≤ m → fitB (pcAt D ((u + j) % 4294967296)) (pcAt D u) = true := by
    intro j
    induction j with
    | zero => intro _; rw [Nat.add_zero, Nat.mod_eq_of_lt hw.lt]; exact fit_refl _
    | succ j ih =>
      intro hj
      have hm := (hw.mid j (by omega)).2.2
      unfold joinsB at hm
      simp only [Bool.and_eq_true] at hm
      have := hm.1.1.2
      rw [on_at] at this
      exact fit_trans _ _ _ (fit_sym _ _ this) (ih (by omega))
  have : nextB D u k = true := by
    unfold nextB
    rw [hw.there k (by omega), hfit k hmk]
    rcases Nat.eq_zero_or_pos k with e | e
    · subst e
      have := hw.beg
      rw [Nat.add_zero, Nat.mod_eq_of_lt hw.lt, this]
      rfl
    · obtain ⟨j, rfl⟩ : ∃ j, k = j + 1 := ⟨k - 1, by omega⟩
      rw [(hw.mid j (by omega)).1]
      simp
  rw [hn] at this
  cases this
end Go.Proofs.Ytjaheelgcjafcaa
