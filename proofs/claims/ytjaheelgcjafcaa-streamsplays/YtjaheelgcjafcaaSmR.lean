/- Streams as mathematics: the pieces by their TSNs, the run of a message; a run is never longer than the pieces held. -/
import Derived.Test.YtjaheelgcjafcaaSoD
namespace Go.Proofs.Ytjaheelgcjafcaa
open Go.RowKit
/-- What is kept of a Data chunk: flags, stream, SSN, PPID; its row of bytes as it lies, and its bytes. -/
structure Pc where
  fl : Nat
  st : Nat
  ss : Nat
  pp : Nat
  a : Option Addr
  n : Nat
  c : Nat
  zs : List Nat
def Pc.v (p : Pc) : List Value := [.int .u8 (p.fl : Nat), .int .u16 (p.st : Nat), .int .u16 (p.ss : Nat), .int .u32 (p.pp : Nat), .slice p.a p.n p.c]
def zeroPc : Pc := ⟨0, 0, 0, 0, none, 0, 0, []⟩
def Pc.beg (p : Pc) : Bool := decide (p.fl / 2 % 2 = 1)
def Pc.fin (p : Pc) : Bool := decide (p.fl % 2 = 1)
def Pc.free (p : Pc) : Bool := decide (p.fl / 4 % 2 = 1)
def fitB (p q : Pc) : Bool := (p.st == q.st) && (p.free == q.free) && (p.free || p.ss == q.ss)
/-- One step on, one step back, among 2^32 numbers. -/
def on1 (t : Nat) : Nat := (t + 1) % 4294967296
def bk1 (t : Nat) : Nat := (t + 4294967295) % 4294967296
theorem on1_lt (t : Nat) : on1 t < 4294967296 := Nat.mod_lt _ (by decide)
theorem bk1_lt (t : Nat) : bk1 t < 4294967296 := Nat.mod_lt _ (by decide)
theorem on_bk {t : Nat} (h : t < 4294967296) : on1 (bk1 t) = t := by unfold on1 bk1; omega
theorem bk_on {t : Nat} (h : t < 4294967296) : bk1 (on1 t) = t := by unfold on1 bk1; omega
def pcAt (D : List (Nat × Pc)) (t : Nat) : Pc := (lookD D t).getD zeroPc
def joinsB (D : List (Nat × Pc)) (t : Nat) : Bool := (lookD D t).isSome && (lookD D (on1 t)).isSome && fitB (pcAt D t) (pcAt D (on1 t)) && !(pcAt D t).fin && !(pcAt D (on1 t)).beg
theorem joinsB_in {D : List (Nat × Pc)} {t : Nat} (h : joinsB D t = true) : (lookD D t).isSome = true ∧ (lookD D (on1 t)).isSome = true := by
  unfold joinsB at h
  simp only [Bool.and_eq_true] at h
  exact ⟨h.1.1.1.1, h.1.1.1.2⟩
/-- m numbers one behind the other that are all there: no more than are there. -/
theorem chain_len {α : Type} : ∀ (m t : Nat) (D : List (Nat × α)), Srt D → m ≤ 4294967296 → (∀ k, k < m → (lookD D ((t + k) % 4294967296)).isSome = true) → m ≤ D.length := by
  intro m
  induction m with
  | zero => intro t D _ _ _; exact Nat.zero_le _
  | succ m ih =>
    intro t D hs hm h
    have hl := len_del D ((t + m) % 4294967296)
    rw [if_pos (h m (by omega))] at hl
    have := ih t (delD D ((t + m) % 4294967296)) (hs.del _) (by omega) (fun k hk => by
      rw [look_del _ _ _ hs, if_neg (by omega)]
      exact h k (by omega))
    omega
/-- The way back to the piece that begins; f: how many steps at most. -/
def backF (D : List (Nat × Pc)) : Nat → Nat → Option Nat
  | 0, _ => none
  | f + 1, t => if (pcAt D t).beg then some t else if joinsB D (bk1 t) then backF D f (bk1 t) else none
/-- The way on to the piece that ends. -/
def onF (D : List (Nat × Pc)) : Nat → Nat → List Nat → Option (List Nat)
  | 0, _, _ => none
  | f + 1, t, L => if (pcAt D t).fin then some L else if joinsB D t then onF D f (on1 t) (L ++ [on1 t]) else none
theorem backF_succ (D : List (Nat × Pc)) (f t : Nat) : backF D (f + 1) t = if (pcAt D t).beg then some t else if joinsB D (bk1 t) then backF D f (bk1 t) else none := by rw [backF]
theorem onF_succ (D : List (Nat × Pc)) (f t : Nat) (L : List Nat) : onF D (f + 1) t L = if (pcAt D t).fin then some L else if joinsB D t then onF D f (on1 t) (L ++ [on1 t]) else none := by rw [onF]
/-- The TSNs of the message of a piece; none, if it is not whole. -/
def runF (D : List (Nat × Pc)) (t : Nat) : List Nat :=
  match backF D (D.length + 1) t with
  | none => []
  | some u => (onF D (D.length + 1) u [u]).getD []
/-- How far a way back has come: k steps, and all that was passed is there. -/
structure BkS (D : List (Nat × Pc)) (t0 t k : Nat) : Prop where
  lt : t < 4294967296
  eq : backF D (D.length + 1) t0 = backF D (D.length + 1 - k) t
  th : ∀ j, j < k + 1 → (lookD D ((t + j) % 4294967296)).isSome = true
  kl : k + 1 ≤ 4294967296
theorem BkS.len {D : List (Nat × Pc)} {t0 t k : Nat} (h : BkS D t0 t k) (hs : Srt D) : k + 1 ≤ D.length := chain_len (k + 1) t D hs h.kl h.th
theorem BkS.start {D : List (Nat × Pc)} {t : Nat} (ht : t < 4294967296) (h : (lookD D t).isSome = true) : BkS D t t 0 := by
  refine ⟨ht, by rw [Nat.sub_zero], fun j hj => ?_, by omega⟩
  obtain rfl : j = 0 := by omega
  rw [Nat.add_zero, Nat.mod_eq_of_lt ht]
  exact h
theorem BkS.done {D : List (Nat × Pc)} {t0 t k : Nat} (h : BkS D t0 t k) (hs : Srt D) (hb : (pcAt D t).beg = true) : backF D (D.length + 1) t0 = some t := by
  have := h.len hs
  rw [h.eq, show D.length + 1 - k = (D.length - k) + 1 by omega]
  rw [backF_succ, if_pos hb]
theorem BkS.stop {D : List (Nat × Pc)} {t0 t k : Nat} (h : BkS D t0 t k) (hs : Srt D) (hb : (pcAt D t).beg = false) (hj : joinsB D (bk1 t) = false) : backF D (D.length + 1) t0 = none := by
  have := h.len hs
  rw [h.eq, show D.length + 1 - k = (D.length - k) + 1 by omega]
  rw [backF_succ, hb, hj, if_neg (by decide), if_neg (by decide)]
theorem BkS.step {D : List (Nat × Pc)} {t0 t k : Nat} (h : BkS D t0 t k) (hs : Srt D) (hd : D.length ≤ 4294967295) (hb : (pcAt D t).beg = false) (hj : joinsB D (bk1 t) = true) : BkS D t0 (bk1 t) (k + 1) := by
  have hl := h.len hs
  refine ⟨bk1_lt t, ?_, fun j hj2 => ?_, by omega⟩
  · rw [h.eq, show D.length + 1 - k = (D.length - k) + 1 by omega]
    rw [backF_succ, hb, hj, if_neg (by decide), if_pos rfl, show D.length + 1 - (k + 1) = D.length - k by omega]
  · rcases j with _ | j
    · rw [Nat.add_zero, Nat.mod_eq_of_lt (bk1_lt t)]
      exact (joinsB_in hj).1
    · have e : (bk1 t + (j + 1)) % 4294967296 = (t + j) % 4294967296 := by unfold bk1; omega
      rw [e]
      exact h.th j (by omega)
/-- How far a way on has come: from u, k steps. -/
structure OnS (D : List (Nat × Pc)) (u t k : Nat) (L : List Nat) : Prop where
  lt : t < 4294967296
  at_ : t = (u + k) % 4294967296
  len : L.length = k + 1
  eq : onF D (D.length + 1) u [u] = onF D (D.length + 1 - k) t L
  th : ∀ j, j < k + 1 → (lookD D ((u + j) % 4294967296)).isSome = true
  kl : k + 1 ≤ 4294967296
  row : L = (List.range (k + 1)).map fun j => (u + j) % 4294967296
theorem OnS.few {D : List (Nat × Pc)} {u t k : Nat} {L : List Nat} (h : OnS D u t k L) (hs : Srt D) : k + 1 ≤ D.length := chain_len (k + 1) u D hs h.kl h.th
theorem OnS.start {D : List (Nat × Pc)} {u : Nat} (hu : u < 4294967296) (h : (lookD D u).isSome = true) : OnS D u u 0 [u] := by
  have e0 : (u + 0) % 4294967296 = u := by rw [Nat.add_zero, Nat.mod_eq_of_lt hu]
  refine ⟨hu, e0.symm, rfl, by rw [Nat.sub_zero], fun j hj => ?_, by omega, ?_⟩
  · obtain rfl : j = 0 := by omega
    rw [e0]
    exact h
  · rw [List.range_succ, List.range_zero, List.nil_append, List.map_cons, List.map_nil, e0]
theorem OnS.done {D : List (Nat × Pc)} {u t k : Nat} {L : List Nat} (h : OnS D u t k L) (hs : Srt D) (hb : (pcAt D t).fin = true) : onF D (D.length + 1) u [u] = some L := by
  have := h.few hs
  rw [h.eq, show D.length + 1 - k = (D.length - k) + 1 by omega]
  rw [onF_succ, if_pos hb]
theorem OnS.stop {D : List (Nat × Pc)} {u t k : Nat} {L : List Nat} (h : OnS D u t k L) (hs : Srt D) (hb : (pcAt D t).fin = false) (hj : joinsB D t = false) : onF D (D.length + 1) u [u] = none := by
  have := h.few hs
  rw [h.eq, show D.length + 1 - k = (D.length - k) + 1 by omega]
  rw [onF_succ, hb, hj, if_neg (by decide), if_neg (by decide)]
theorem OnS.step {D : List (Nat × Pc)} {u t k : Nat} {L : List Nat} (h : OnS D u t k L) (hs : Srt D) (hd : D.length ≤ 4294967295) (hb : (pcAt D t).fin = false) (hj : joinsB D t = true) : OnS D u (on1 t) (k + 1) (L ++ [on1 t]) := by
  have hl := h.few hs
  have ht := h.at_
  have e1 : on1 t = (u + (k + 1)) % 4294967296 := by unfold on1; omega
  refine ⟨on1_lt t, e1, by rw [List.length_append, h.len]; rfl, ?_, fun j hj2 => ?_, by omega, ?_⟩
  · rw [h.eq, show D.length + 1 - k = (D.length - k) + 1 by omega]
    rw [onF_succ, hb, hj, if_neg (by decide), if_pos rfl, show D.length + 1 - (k + 1) = D.length - k by omega]
  · by_cases e : j = k + 1
    · subst e
      rw [← e1]
      exact (joinsB_in hj).2
    · exact h.th j (by omega)
  · rw [List.range_succ, List.map_append, ← h.row, e1, List.map_cons, List.map_nil]
end Go.Proofs.Ytjaheelgcjafcaa
