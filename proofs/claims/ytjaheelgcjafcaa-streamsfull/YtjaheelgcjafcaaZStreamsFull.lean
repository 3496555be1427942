/-
  Whatever the input, trunklinelaw13.StreamsFull answers true and leaves what it was handed as it was.
  (The statement is Rows.StreamsFullSaid; no condition of our own.)
-/
import Derived.Test.YtjaheelgcjafcaaSmT
import Derived.Test.YtjaheelgcjafcaaStL
import Derived.Test.YtjaheelgcjafcaaRows
import Derived.ProofKit
import Derived.OpenShut
import Derived.ShutString
import Derived.ChangeOld
import Derived.SizedLaws
namespace Go.Proofs.Ytjaheelgcjafcaa
open Go.RowKit
theorem bk_at (u i : Nat) : bk1 ((u + (i + 1)) % 4294967296) = (u + i) % 4294967296 := by unfold bk1; omega
theorem on_at (u i : Nat) : on1 ((u + i) % 4294967296) = (u + (i + 1)) % 4294967296 := by unfold on1; omega
/-- From the i-th piece back to the one that begins. -/
theorem back_whole {D : List (Nat × Pc)} {u : Nat} (hu : u < 4294967296) (h0 : (pcAt D u).beg = true) : ∀ i f, i < f → (∀ j, j < i → (pcAt D ((u + (j + 1)) % 4294967296)).beg = false ∧ joinsB D ((u + j) % 4294967296) = true) → backF D f ((u + i) % 4294967296) = some u := by
  intro i
  induction i with
  | zero =>
    intro f hf _
    obtain ⟨f, rfl⟩ : ∃ g, f = g + 1 := ⟨f - 1, by omega⟩
    rw [Nat.add_zero u, Nat.mod_eq_of_lt hu, backF_succ, if_pos h0]
  | succ i ih =>
    intro f hf h
    obtain ⟨f, rfl⟩ : ∃ g, f = g + 1 := ⟨f - 1, by omega⟩
    obtain ⟨h1, h2⟩ := h i (by omega)
    rw [backF_succ, h1, bk_at, h2, if_neg (by decide), if_pos rfl]
    exact ih f (by omega) (fun j hj => h j (by omega))
/-- A way back that comes to a gap. -/
theorem back_gap {D : List (Nat × Pc)} {u : Nat} (hg : joinsB D (u % 4294967296) = false) : ∀ i f, (∀ j, j < i + 1 → (pcAt D ((u + (j + 1)) % 4294967296)).beg = false) → (∀ j, j < i → joinsB D ((u + (j + 1)) % 4294967296) = true) → backF D f ((u + (i + 1)) % 4294967296) = none := by
  intro i
  induction i with
  | zero =>
    intro f h _
    cases f with
    | zero => rw [backF]
    | succ f => rw [backF_succ, h 0 (by omega), bk_at, Nat.add_zero u, hg, if_neg (by decide), if_neg (by decide)]
  | succ i ih =>
    intro f h hj
    cases f with
    | zero => rw [backF]
    | succ f =>
      rw [backF_succ, h (i + 1) (by omega), bk_at, hj i (by omega), if_neg (by decide), if_pos rfl]
      exact ih f (fun j hj => h j (by omega)) (fun j hjj => hj j (by omega))
/-- On from the i-th piece, m more. -/
theorem on_whole {D : List (Nat × Pc)} {u : Nat} : ∀ m i f L, m < f → (pcAt D ((u + (i + m)) % 4294967296)).fin = true → (∀ j, j < m → (pcAt D ((u + (i + j)) % 4294967296)).fin = false ∧ joinsB D ((u + (i + j)) % 4294967296) = true) →
    onF D f ((u + i) % 4294967296) L = some (L ++ (List.range m).map fun j => (u + (i + (j + 1))) % 4294967296) := by
  intro m
  induction m with
  | zero =>
    intro i f L hf h0 _
    obtain ⟨f, rfl⟩ : ∃ g, f = g + 1 := ⟨f - 1, by omega⟩
    rw [Nat.add_zero i] at h0
    rw [onF_succ, if_pos h0, List.range_zero, List.map_nil, List.append_nil]
  | succ m ih =>
    intro i f L hf h0 h
    obtain ⟨f, rfl⟩ : ∃ g, f = g + 1 := ⟨f - 1, by omega⟩
    obtain ⟨h1, h2⟩ := h 0 (by omega)
    rw [Nat.add_zero i] at h1 h2
    rw [onF_succ, h1, h2, if_neg (by decide), if_pos rfl, on_at]
    rw [ih (i + 1) f _ (by omega) (by rw [show i + 1 + m = i + (m + 1) by omega]; exact h0) (fun j hj => by rw [show i + 1 + j = i + (j + 1) by omega]; exact h (j + 1) (by omega))]
    rw [List.range_succ_eq_map, List.map_cons, List.map_map, List.append_assoc, List.singleton_append]
    congr 3
    refine List.map_congr_left (fun j _ => ?_)
    show (u + (i + 1 + (j + 1))) % 4294967296 = (u + (i + (j + 1 + 1))) % 4294967296
    rw [show i + 1 + (j + 1) = i + (j + 1 + 1) by omega]
/-- A way on that comes to a gap. -/
theorem on_gap {D : List (Nat × Pc)} {u : Nat} : ∀ m i f L, (∀ j, j < m + 1 → (pcAt D ((u + (i + j)) % 4294967296)).fin = false) → (∀ j, j < m → joinsB D ((u + (i + j)) % 4294967296) = true) → joinsB D ((u + (i + m)) % 4294967296) = false → onF D f ((u + i) % 4294967296) L = none := by
  intro m
  induction m with
  | zero =>
    intro i f L h _ hg
    have h1 := h 0 (by omega)
    rw [Nat.add_zero i] at h1 hg
    cases f with
    | zero => rw [onF]
    | succ f => rw [onF_succ, h1, hg, if_neg (by decide), if_neg (by decide)]
  | succ m ih =>
    intro i f L h hj hg
    have h1 := h 0 (by omega)
    have h2 := hj 0 (by omega)
    rw [Nat.add_zero i] at h1 h2
    cases f with
    | zero => rw [onF]
    | succ f =>
      rw [onF_succ, h1, h2, if_neg (by decide), if_pos rfl, on_at]
      exact ih (i + 1) f _ (fun j hjj => by rw [show i + 1 + j = i + (j + 1) by omega]; exact h (j + 1) (by omega)) (fun j hjj => by rw [show i + 1 + j = i + (j + 1) by omega]; exact hj (j + 1) (by omega)) (by rw [show i + 1 + m = i + (m + 1) by omega]; exact hg)
/-- The run of a message of m + 1 pieces that is whole, asked for at any one of them. -/
theorem run_whole {D : List (Nat × Pc)} (hs : Srt D) {u m : Nat} (hu : u < 4294967296) (hm : m + 1 ≤ 4294967296) (hin : ∀ j, j < m + 1 → (lookD D ((u + j) % 4294967296)).isSome = true) (hb : (pcAt D u).beg = true) (he : (pcAt D ((u + m) % 4294967296)).fin = true)
    (h : ∀ j, j < m → (pcAt D ((u + (j + 1)) % 4294967296)).beg = false ∧ (pcAt D ((u + j) % 4294967296)).fin = false ∧ joinsB D ((u + j) % 4294967296) = true) (i : Nat) (hi : i ≤ m) : runF D ((u + i) % 4294967296) = (List.range (m + 1)).map fun j => (u + j) % 4294967296 := by
  have hl := chain_len (m + 1) u D hs hm hin
  unfold runF
  rw [back_whole hu hb i (D.length + 1) (by omega) (fun j hj => ⟨(h j (by omega)).1, (h j (by omega)).2.2⟩)]
  dsimp only
  have := on_whole (D := D) (u := u) m 0 (D.length + 1) [u] (by omega) (by rw [Nat.zero_add]; exact he) (fun j hj => by rw [Nat.zero_add]; exact (h j hj).2)
  rw [Nat.add_zero u, Nat.mod_eq_of_lt hu] at this
  rw [this, Option.getD_some, List.range_succ_eq_map, List.map_cons, List.map_map, Nat.add_zero u, Nat.mod_eq_of_lt hu, List.singleton_append]
  congr 1
  refine List.map_congr_left (fun j _ => ?_)
  show (u + (0 + (j + 1))) % 4294967296 = (u + (j + 1)) % 4294967296
  rw [Nat.zero_add]
end Go.Proofs.Ytjaheelgcjafcaa
namespace Go.Proofs.Ytjaheelgcjafcaa
open Go.RowKit
theorem last_gap (P : Nat → Bool) : ∀ i, P i = true → (∃ k, k < i ∧ P k = false) → ∃ k, k < i ∧ P k = false ∧ ∀ j, k < j → j ≤ i → P j = true := by
  intro i
  induction i with
  | zero => intro _ ⟨k, hk, _⟩; omega
  | succ i ih =>
    intro hi ⟨k, hk, hp⟩
    cases e : P i with
    | false => exact ⟨i, by omega, e, fun j h1 h2 => by obtain rfl : j = i + 1 := by omega
                                                        exact hi⟩
    | true =>
      have hki : k < i := by
        rcases Nat.lt_or_ge k i with h | h
        · exact h
        · obtain rfl : k = i := by omega
          rw [e] at hp; cases hp
      obtain ⟨k', h1, h2, h3⟩ := ih e ⟨k, hki, hp⟩
      refine ⟨k', by omega, h2, fun j h4 h5 => ?_⟩
      by_cases e5 : j = i + 1
      · rw [e5]; exact hi
      · exact h3 j h4 (by omega)
theorem first_gap (P : Nat → Bool) : ∀ m, (∃ k, k ≤ m ∧ P k = false) → ∃ k, k ≤ m ∧ P k = false ∧ ∀ j, j < k → P j = true := by
  intro m
  induction m with
  | zero => intro ⟨k, hk, hp⟩; exact ⟨k, hk, hp, fun j hj => by omega⟩
  | succ m ih =>
    intro ⟨k, hk, hp⟩
    by_cases h : ∃ k, k ≤ m ∧ P k = false
    · obtain ⟨k', h1, h2, h3⟩ := ih h
      exact ⟨k', by omega, h2, h3⟩
    · obtain rfl : k = m + 1 := by
        rcases Nat.lt_or_ge m k with h1 | h1
        · omega
        · exact absurd ⟨k, h1, hp⟩ h
      refine ⟨m + 1, Nat.le_refl _, hp, fun j hj => ?_⟩
      cases e : P j with
      | true => rfl
      | false => exact absurd ⟨j, by omega, e⟩ h
theorem run_part {D : List (Nat × Pc)} (hs : Srt D) {u m : Nat} (hm : m + 1 ≤ 4294967296) (hu : u < 4294967296) (hb : (lookD D u).isSome = true → (pcAt D u).beg = true)
    (h : ∀ j, j < m → (pcAt D ((u + (j + 1)) % 4294967296)).beg = false ∧ (pcAt D ((u + j) % 4294967296)).fin = false ∧ joinsB D ((u + j) % 4294967296) = ((lookD D ((u + j) % 4294967296)).isSome && (lookD D ((u + (j + 1)) % 4294967296)).isSome))
    (i : Nat) (hi : i ≤ m) (hpi : (lookD D ((u + i) % 4294967296)).isSome = true) (hg : ∃ k, k ≤ m ∧ (lookD D ((u + k) % 4294967296)).isSome = false) : runF D ((u + i) % 4294967296) = [] := by
  unfold runF
  by_cases hlow : ∃ k, k < i ∧ (lookD D ((u + k) % 4294967296)).isSome = false
  · obtain ⟨k, h1, h2, h3⟩ := last_gap (fun k => (lookD D ((u + k) % 4294967296)).isSome) i hpi hlow
    have hk := back_gap (D := D) (u := u + k) (by rw [(h k (by omega)).2.2, h2]; rfl) (i - k - 1) (D.length + 1)
      (fun j hj => by rw [show u + k + (j + 1) = u + (k + j + 1) by omega]; exact (h (k + j) (by omega)).1)
      (fun j hj => by
        rw [show u + k + (j + 1) = u + (k + j + 1) by omega, (h (k + j + 1) (by omega)).2.2]
        have e1 := h3 (k + j + 1) (by omega) (by omega)
        have e2 := h3 (k + j + 1 + 1) (by omega) (by omega)
        rw [e1, e2]
        rfl)
    rw [show u + k + (i - k - 1 + 1) = u + i by omega] at hk
    rw [hk]
  · have hall : ∀ j, j ≤ i → (lookD D ((u + j) % 4294967296)).isSome = true := fun j hj => by
      by_cases e : j = i
      · rw [e]; exact hpi
      · cases e2 : (lookD D ((u + j) % 4294967296)).isSome with
        | true => rfl
        | false => exact absurd ⟨j, by omega, e2⟩ hlow
    have hif := chain_len (i + 1) u D hs (by omega) (fun j hj => hall j (by omega))
    have h0 := hall 0 (by omega)
    rw [Nat.add_zero u, Nat.mod_eq_of_lt hu] at h0
    rw [back_whole hu (hb h0) i (D.length + 1) (by omega) (fun j hj => ⟨(h j (by omega)).1, by rw [(h j (by omega)).2.2, hall j (by omega), hall (j + 1) (by omega)]; rfl⟩)]
    dsimp only
    obtain ⟨k, h1, h2, h3⟩ := first_gap (fun k => (lookD D ((u + k) % 4294967296)).isSome) m hg
    obtain ⟨k, rfl⟩ : ∃ k', k = k' + 1 := by
      cases k with
      | zero => rw [Nat.add_zero u, Nat.mod_eq_of_lt hu, h0] at h2; cases h2
      | succ k => exact ⟨k, rfl⟩
    have := on_gap (D := D) (u := u) k 0 (D.length + 1) [u] (fun j hj => by rw [Nat.zero_add]; exact (h j (by omega)).2.1)
      (fun j hj => by rw [Nat.zero_add, (h j (by omega)).2.2, h3 j (by omega), h3 (j + 1) (by omega)]; rfl)
      (by rw [Nat.zero_add, (h k (by omega)).2.2, h2, Bool.and_false])
    rw [Nat.add_zero u, Nat.mod_eq_of_lt hu] at this
    rw [this]
    rfl
end Go.Proofs.Ytjaheelgcjafcaa
namespace Go.Proofs.Ytjaheelgcjafcaa
open Go.RowKit
theorem joins_none {D : List (Nat × Pc)} {t : Nat} (h : lookD D t = none) : joinsB D t = false := by unfold joinsB; rw [h]; rfl
theorem add_lone (s : SmS) {t : Nat} (p : Pc) (hD : Srt s.D) (hb : p.beg = false) (hn : lookD s.D (bk1 t) = none) : s.add t p = (⟨s.nx, putD s.D t p, s.W⟩, []) := by
  have e1 : pcAt (putD s.D t p) t = p := by unfold pcAt; rw [look_put _ _ _ _ hD, if_pos rfl, Option.getD_some]
  have e2 : lookD (putD s.D t p) (bk1 t) = none := by rw [look_put _ _ _ _ hD, if_neg (by unfold bk1; omega)]; exact hn
  have e3 : runF (putD s.D t p) t = [] := by
    unfold runF
    rw [backF_succ, e1, hb, joins_none e2, if_neg (by decide), if_neg (by decide)]
  unfold SmS.add
  dsimp only
  rw [e3, if_pos (List.length_nil)]
/-- Behind k lone pieces at first, first + 2, ..: k are held, and only those. -/
structure LoneS (s : SmS) (first k : Nat) : Prop where
  srt : Srt s.D
  len : s.D.length = k
  W : s.W = []
  at_ : ∀ q, (lookD s.D q).isSome = true ↔ ∃ j, j < k ∧ q = (first + 2 * j) % 4294967296
theorem LoneS.start (nx : List Nat) (first : Nat) : LoneS ⟨nx, [], []⟩ first 0 := ⟨List.Pairwise.nil, rfl, rfl, fun q => ⟨fun h => (by cases h), fun ⟨j, hj, _⟩ => (by omega)⟩⟩
theorem LoneS.step {s : SmS} {first k : Nat} (h : LoneS s first k) (hk : k < 128) (p : Pc) (hb : p.beg = false) :
    s.add ((first + 2 * k) % 4294967296) p = (⟨s.nx, putD s.D ((first + 2 * k) % 4294967296) p, s.W⟩, []) ∧ LoneS ⟨s.nx, putD s.D ((first + 2 * k) % 4294967296) p, s.W⟩ first (k + 1) ∧ lookD s.D ((first + 2 * k) % 4294967296) = none := by
  have hno : ∀ q, (∀ j, j < k → q ≠ (first + 2 * j) % 4294967296) → lookD s.D q = none := fun q hq => by
    cases e : lookD s.D q with
    | none => rfl
    | some x =>
      obtain ⟨j, hj, e2⟩ := (h.at_ q).1 (by rw [e]; rfl)
      exact absurd e2 (hq j hj)
  have n0 : lookD s.D ((first + 2 * k) % 4294967296) = none := hno _ (fun j hj => by omega)
  refine ⟨add_lone s p h.srt hb (hno _ (fun j hj => by unfold bk1; omega)), ⟨h.srt.put _ _, ?_, h.W, fun q => ?_⟩, n0⟩
  · show (putD s.D _ p).length = _
    rw [len_put _ _ _ h.srt, n0, h.len]
    rfl
  · show (lookD (putD s.D _ p) q).isSome = true ↔ _
    rw [look_put _ _ _ _ h.srt]
    by_cases e : q = (first + 2 * k) % 4294967296
    · rw [if_pos e]
      exact ⟨fun _ => ⟨k, by omega, e⟩, fun _ => rfl⟩
    · rw [if_neg e, h.at_ q]
      constructor
      · rintro ⟨j, hj, e2⟩; exact ⟨j, by omega, e2⟩
      · rintro ⟨j, hj, e2⟩
        refine ⟨j, ?_, e2⟩
        rcases Nat.lt_or_ge j k with h1 | h1
        · exact h1
        · obtain rfl : j = k := by omega
          exact absurd e2 e
theorem LoneS.held {s : SmS} {first k : Nat} (h : LoneS s first k) : s.heldN = k := by
  unfold SmS.heldN
  rw [h.W, h.len]
  rfl
end Go.Proofs.Ytjaheelgcjafcaa
namespace Go.Proofs.Ytjaheelgcjafcaa
open Go.RowKit Go.MapKept Go.Maps
theorem holdN_0 (s : SmS) (t st : Nat) : holdN s 0 t st 0 = if s.nx.length ≤ st then 14 else if (lookD s.D t).isSome then 17 else if 128 ≤ s.heldN then 10 else 0 := by unfold holdN; simp
/-- How far StreamsFull has come: k lone pieces are held. -/
structure FuS (w0 : World) (p nb mb wb n first k : Nat) (w : World) : Prop where
  ex : ∃ wr Y s, SmW w p nb mb wb wr Y s ∧ s.nx.length = n ∧ LoneS s first k
  bel : Below w0.heap.size w0 w
theorem FuS.below {w0 w w' : World} {p nb mb wb n first k : Nat} (h : FuS w0 p nb mb wb n first k w) (hb : Below w.heap.size w w') : FuS w0 p nb mb wb n first k w' := by
  obtain ⟨wr, Y, s, h1, h2⟩ := h.ex
  exact ⟨⟨wr, Y, s, h1.below hb, h2⟩, h.bel.trans (hb.mono h.bel.size)⟩
theorem full_add {w0 w : World} {p nb mb wb n first k : Nat} (h : FuS w0 p nb mb wb n first k w) (hw0 : w0.heap.size ≤ nb ∧ w0.heap.size ≤ mb ∧ w0.heap.size ≤ wb) (hk : k < 128) (st : Nat) (hst : st < n) {a : Option Addr} (hs : Sl w a 1 1 [1]) (v : Value) (hv : v = (dataC 0 ((first + 2 * k) % 4294967296) st 0 0 a 1 1 [1]).val) :
    Calls Try.prog 14 #[.pointer (some ⟨p, 0, none⟩), v] w fun e w' => (∃ ta tn tc, e = .returned (.tuple #[.slice ta tn tc, .int .i64 0])) ∧ FuS w0 p nb mb wb n first (k + 1) w' := by
  obtain ⟨wr, Y, s, h1, h2, h3⟩ := h.ex
  have hn8 := h1.n8
  refine (sadd_ck h1 (dataC 0 ((first + 2 * k) % 4294967296) st 0 0 a 1 1 [1]) (dataC_W (by decide) (Nat.mod_lt _ (by decide)) (by omega) (by decide) (by decide) hs) v hv).mono ?_
  rintro e w' hR
  rw [dataC_ok (by decide) (by decide)] at hR
  have hstep := fun x hb => h3.step hk x hb
  cases hR with
  | bad hz _ _ =>
    refine absurd ?_ hz
    have hno := (hstep zeroPc rfl).2.2
    have hh := h3.held
    show holdN s 0 ((first + 2 * k) % 4294967296) st 0 = 0
    rw [holdN_0, if_neg (by omega), hno, if_neg (by decide), if_neg (by omega)]
  | ok da dc ta tn tc B wr' Y' hz he hms hsm hfr hB hY =>
    subst he
    refine ⟨⟨ta, tn, tc, rfl⟩, ⟨wr', Y', _, hsm, ?_, ?_⟩, h.bel.trans (hfr.below _ h.bel.size (fun k hk => by rcases hk with e | e | e <;> omega))⟩
    · show (SmS.add s ((first + 2 * k) % 4294967296) ⟨0, st, 0, 0, da, 1, dc, [1]⟩).1.nx.length = n
      rw [(hstep ⟨0, st, 0, 0, da, 1, dc, [1]⟩ (by simp [Pc.beg])).1]
      exact h2
    · show LoneS (SmS.add s ((first + 2 * k) % 4294967296) ⟨0, st, 0, 0, da, 1, dc, [1]⟩).1 first (k + 1)
      rw [(hstep ⟨0, st, 0, 0, da, 1, dc, [1]⟩ (by simp [Pc.beg])).1]
      exact (hstep ⟨0, st, 0, 0, da, 1, dc, [1]⟩ (by simp [Pc.beg])).2.1
/-- Behind 128 pieces none is taken. -/
theorem full_no {w0 w : World} {p nb mb wb n first : Nat} (h : FuS w0 p nb mb wb n first 128 w) (t : Nat) (ht : t < 4294967296) (E : Int) (hE : E = if t = first then 17 else 10) (htf : t = first ∨ t = (first + 1) % 4294967296) {a : Option Addr} (hs : Sl w a 1 1 [2]) (v : Value) (hv : v = (dataC 3 t 0 0 0 a 1 1 [2]).val) :
    Calls Try.prog 14 #[.pointer (some ⟨p, 0, none⟩), v] w fun e w' => e = .returned (.tuple #[.slice none 0 0, .int .i64 E]) ∧ FuS w0 p nb mb wb n first 128 w' := by
  obtain ⟨wr, Y, s, h1, h2, h3⟩ := h.ex
  have hn1 := h1.n1
  have hh := h3.held
  have hN : holdN s 0 t 0 0 = E := by
    rw [holdN_0, if_neg (by omega), hE]
    rcases htf with e | e
    · have : (lookD s.D t).isSome = true := (h3.at_ t).2 ⟨0, by decide, by omega⟩
      rw [this, if_pos rfl, if_pos e]
    · have : (lookD s.D t).isSome = false := by
        cases e2 : (lookD s.D t).isSome with
        | false => rfl
        | true =>
          obtain ⟨j, hj, e3⟩ := (h3.at_ t).1 e2
          omega
      rw [this, if_neg (by decide), if_pos (by omega), if_neg (by omega)]
  refine (sadd_ck h1 (dataC 3 t 0 0 0 a 1 1 [2]) (dataC_W (by decide) ht (by decide) (by decide) (by decide) hs) v hv).mono ?_
  rintro e w' hR
  rw [dataC_ok (by decide) (by decide)] at hR
  cases hR with
  | bad hz he hb =>
    subst he
    have e2 : holdN s (dataC 3 t 0 0 0 a 1 1 [2]).k (dataC 3 t 0 0 0 a 1 1 [2]).t (dataC 3 t 0 0 0 a 1 1 [2]).st 0 = E := hN
    rw [e2]
    exact ⟨rfl, h.below hb⟩
  | ok da dc ta tn tc B wr' Y' hz he hms hsm hfr hB hY =>
    have e2 : holdN s (dataC 3 t 0 0 0 a 1 1 [2]).k (dataC 3 t 0 0 0 a 1 1 [2]).t (dataC 3 t 0 0 0 a 1 1 [2]).st 0 = E := hN
    rw [e2, hE] at hz
    split at hz <;> cases hz
theorem full_held {w0 w : World} {p nb mb wb n first k : Nat} (h : FuS w0 p nb mb wb n first k w) :
    Calls Try.prog 16 #[.pointer (some ⟨p, 0, none⟩)] w fun e w' => (∃ b : Nat, e = .returned (.tuple #[.int .i64 (k : Nat), .int .i64 (b : Nat)])) ∧ Below w.heap.size w w' := by
  obtain ⟨wr, Y, s, h1, h2, h3⟩ := h.ex
  refine (held_any h1).mono ?_
  rintro e w' ⟨rfl, hb⟩
  rw [h3.held]
  exact ⟨⟨_, rfl⟩, hb⟩
set_option linter.unusedVariables false in
set_option maxRecDepth 100000 in
set_option maxHeartbeats 4000000 in
theorem walk_StreamsFull (first ins : Nat) (w : World) (hf : first < 4294967296) (hi : ins < 256) :
    Calls Try.prog 7 #[.int .u32 (first : Nat), .int .u8 (ins : Nat)] w fun e w' => e = .returned (.bool true) ∧ Below w.heap.size w w' := by
  obtain ⟨n, hn⟩ : ∃ n, n = 1 + ins % 8 := ⟨_, rfl⟩
  have hn1 : 1 ≤ n := by omega
  have hn8 : n ≤ 8 := by omega
  have HNW := (show Hid _ from snew_ok n w hn1 hn8)
  have hc3 : (1 + (ins : Int) % 8) = (n : Int) := by omega
  have HC3 := (show Hid _ from hc3)
  clear hc3
  go_enter Try.func7, Try.ntmps7
  go_wp2_with fail
  rw [HC3.out]
  refine Calls.mono HNW.out ?_
  rintro e w1 ⟨rfl, hw1⟩
  have hsm1 := SmW.new n hn1 hn8 hw1
  have hb1 : Below w.heap.size w w1 := by rw [hw1]; exact (((((Below.refl _ _).alloc (Nat.le_refl _) _).alloc (by simp) _).alloc (by simp; omega) _).alloc (by simp; omega) _)
  have HF : Hid (FuS w (w.heap.size + 3) w.heap.size (w.heap.size + 1) (w.heap.size + 2) n first 0 w1) := ⟨⟨_, _, _, hsm1, by simp, LoneS.start _ _⟩, hb1⟩
  clear hw1 hsm1 hb1 HNW HC3 hn
  go_wp2
  go_loopw [8] (fun u8 wr => ∃ i : Nat, i ≤ 128 ∧ u8 = .int .i64 (i : Nat) ∧ FuS w (w.heap.size + 3) w.heap.size (w.heap.size + 1) (w.heap.size + 2) n first i wr) (fun u8 _ => 128 - (intOf u8).toNat)
  case atStart => exact ⟨0, by omega, rfl, HF.out⟩
  case round =>
    obtain ⟨i, hi8, rfl, hfu⟩ := hrel
    have HS := (show Hid _ from hfu)
    clear hfu HF
    by_cases hlt : i < 128
    · have hlt1 : (i : Int) < 128 := by omega
      have hmod : ((i : Int) % (n : Int)) = ((i % n : Nat) : Int) := by simp
      have hml : i % n < n := Nat.mod_lt i (by omega)
      have HX : Hid (((first : Int) + 2 * (i : Int)) % 4294967296 = (((first + 2 * i) % 4294967296 : Nat) : Int) ∧ IntKind.u16.wrap ((i : Int) % (n : Int)) = ((i % n : Nat) : Int)) := ⟨by omega, by rw [hmod, IntKind.wrap_u16]; omega⟩
      have hba : Below wr.heap.size wr (wr.alloc (.cells #[.int .u8 1] 5)) := (Below.refl _ _).alloc (Nat.le_refl _) _
      have hsl : Sl (wr.alloc (.cells #[.int .u8 1] 5)) (some ⟨wr.heap.size, 0, none⟩) 1 1 [1] := sl_new wr 5 (0, 0) [1] rfl (by decide) _ rfl
      have HAD := (show Hid _ from fun v hv => full_add (HS.out.below hba) ⟨by omega, by omega, by omega⟩ hlt (i % n) hml hsl v hv)
      clear hmod hml hba hsl HS
      go_wp2_with fail
      refine (HAD.out _ (by rw [HX.out.1, HX.out.2]; rfl)).mono ?_
      rintro e w2 ⟨⟨ta, tn, tc, rfl⟩, hfu⟩
      have HF := (show Hid _ from hfu)
      clear hfu HAD
      go_wp2
      go_roundw
      case rel => exact ⟨i + 1, by omega, by go_num, HF.out⟩
      case measure => simp [intOf]; omega
    · obtain rfl : i = 128 := by omega
      have HX : Hid (((first : Int) + 1) % 4294967296 = (((first + 1) % 4294967296 : Nat) : Int)) := by show _ = _; omega
      have hba : Below wr.heap.size wr (wr.alloc (.cells #[.int .u8 2] 5)) := (Below.refl _ _).alloc (Nat.le_refl _) _
      have hsl : Sl (wr.alloc (.cells #[.int .u8 2] 5)) (some ⟨wr.heap.size, 0, none⟩) 1 1 [2] := sl_new wr 5 (0, 0) [2] rfl (by decide) _ rfl
      have HAD := (show Hid _ from fun v hv => full_no (HS.out.below hba) ((first + 1) % 4294967296) (Nat.mod_lt _ (by decide)) 10 (by rw [if_neg (by omega)]) (.inr rfl) hsl v hv)
      clear hba hsl HS
      go_wp2_with fail
      refine (HAD.out _ (by rw [HX.out]; rfl)).mono ?_
      clear HAD
      rintro e w2 ⟨rfl, hfu⟩
      have hba : Below w2.heap.size w2 (w2.alloc (.cells #[.int .u8 2] 5)) := (Below.refl _ _).alloc (Nat.le_refl _) _
      have hsl : Sl (w2.alloc (.cells #[.int .u8 2] 5)) (some ⟨w2.heap.size, 0, none⟩) 1 1 [2] := sl_new w2 5 (0, 0) [2] rfl (by decide) _ rfl
      have HAD := (show Hid _ from fun v hv => full_no (hfu.below hba) first hf 17 (by rw [if_pos rfl]) (.inl rfl) hsl v hv)
      clear hba hsl hfu HX
      go_wp2_with fail
      refine (HAD.out _ (by rfl)).mono ?_
      clear HAD
      rintro e w3 ⟨rfl, hfu⟩
      have HHD := (show Hid _ from full_held hfu)
      have HF := (show Hid _ from hfu.bel)
      clear hfu
      go_wp2_with fail
      refine Calls.mono HHD.out ?_
      clear HHD
      rintro e w4 ⟨⟨b, rfl⟩, hb4⟩
      have HF4 : Hid (Below w.heap.size w w4) := HF.out.trans (hb4.mono HF.out.size)
      clear HF hb4
      go_wp2_with fail
      refine Calls.mono (live13_any w4) ?_
      rintro e w5 ⟨rfl, hb5⟩
      have HF5 : Hid (Below w.heap.size w w5) := HF4.out.trans (hb5.mono HF4.out.size)
      clear HF4 hb5
      go_wp2
      go_ret
      exact ⟨rfl, HF5.out⟩
end Go.Proofs.Ytjaheelgcjafcaa
namespace Go.Proofs.Ytjaheelgcjafcaa.streamsFull
open Go.ChangeShapes Go.WideShapes Go.ChangeAt Go.RowKit
open Go.ChangeMaps (open_string shut_string)
set_option linter.unusedVariables false
theorem own : ownKnob Try.prog.godebug = none := by kernel_rfl
theorem laidOut : laidOutB Try.prog = true := by kernel_rfl


set_option maxRecDepth 100000 in
theorem lifted (os : Os) (started : os.Started) (H : Type) (enc : TypeId × Value → H) :
    ReturnsInHanded {} Try.checked os 7 .any (Rows.streamsFullSpec.pre6 enc Try.prog Try.f7 Rows.streamsFullRow.domain false) (Rows.streamsFullSpec.post enc Try.prog Try.f7 false true false false) := by
  refine returnsInHanded_of_change_sized (C := Try.checked) own started (by kernel_rfl) Try.func7
    (ChangeSpec.witness6 (enc := enc) (C := Try.checked) false ⟨#[], #[.int .u32 0, .int .u8 0], []⟩ 8 (by kernel_rfl) (by kernel_rfl) (by kernel_rfl) (by kernel_rfl)) ?_
  intro W base args ds gs before hval0 hW hcnd hsz0 _
  have hval : ∀ (j : Nat) t v, Try.f7.params[j]? = some t → args[j]? = some v → Value.okWide Try.prog W .any base t v := hval0
  have hsz : (DataW.weightsEach Try.prog (Try.f7.params.toList ++ Rows.streamsFullSpec.plain.varTypes Try.prog) (ds ++ gs)).all (· ≤ reachBytes) = true := hsz0
  clear hsz0
  have hW' := hW
  obtain ⟨p, q, hA0, hV, rfl, hfz, hnd⟩ := hW
  have hA : DataW.TrodAll enc Try.prog W 0 (fun _ => true) true Try.f7.params.toList args.toList ds p := hA0
  rw [Try.params7] at hA hval hsz
  obtain ⟨v0, vs0, d0, ds0, p0, q0, hargs, rfl, rfl, h0, r0⟩ := trodAll_cons hA
  obtain ⟨v1, vs1, d1, ds1, p1, q1, rfl, rfl, rfl, h1, r1⟩ := trodAll_cons r0
  obtain ⟨rfl, rfl, rfl⟩ := trodAll_nil r1
  obtain rfl : args = #[v0, v1] := by cases args; simp_all
  obtain ⟨rfl, rfl⟩ := trodVars_none hV
  obtain ⟨x0, rfl, rfl, rfl, w0⟩ := open_int Try.underlying30 (hval 0 30 v0 rfl rfl) h0
  obtain ⟨m0, rfl⟩ : ∃ m : Nat, x0 = (m : Int) := ⟨x0.toNat, by have := bounds_u32 w0; omega⟩
  have b0 : m0 < 4294967296 := by have := bounds_u32 w0; omega
  obtain ⟨x1, rfl, rfl, rfl, w1⟩ := open_int Try.underlying5 (hval 1 5 v1 rfl rfl) h1
  obtain ⟨m1, rfl⟩ : ∃ m : Nat, x1 = (m : Int) := ⟨x1.toNat, by have := bounds_u8 w1; omega⟩
  have b1 : m1 < 256 := by have := bounds_u8 w1; omega
  clear hA0 hval0 hsz
  refine (walk_StreamsFull m0 m1 W b0 b1).mono fun e W' ⟨he, bel⟩ => ?_
  subst he
  exact ⟨_, rfl, _, _, _, [], _, [], hW', trodAll_mk1 (shut_bool Try.underlying4 _), (trodAll_cons_mk (shut_int Try.underlying30 w0) (trodAll_cons_mk (shut_int Try.underlying5 w1) trodAll_mk0)), rfl, bel.frame _, fun h => by cases h⟩
theorem over : Rows.streamsFullRow.holds Try.pinned (OpenSpec.ofChange Rows.streamsFullSpec) :=
  OpenClaim.holds_of_wide 7 Try.f7 rfl rfl rfl rfl rfl rfl rfl ⟨rfl, rfl, rfl, rfl, rfl⟩ rfl rfl rfl rfl rfl (by kernel_rfl) Try.func7 (by kernel_rfl)
    (of_decide_eq_true (by kernel_rfl)) (by unfold Func.isWrapper; first | (rw [if_pos (by decide +kernel)]; kernel_rfl) | (rw [if_neg (by decide +kernel)]; exact ⟨rfl, rfl⟩))
    (fun os started H enc _ => lifted os started H enc)
end Go.Proofs.Ytjaheelgcjafcaa.streamsFull
namespace Go.Proofs.Ytjaheelgcjafcaa
theorem StreamsFull_holds : Rows.StreamsFullSaid := streamsFull.over
#print axioms StreamsFull_holds
end Go.Proofs.Ytjaheelgcjafcaa
