/- trunklineref13.Pieces: what it answers. -/
import Derived.Test.YtjaheelgcjafcaaSmT
import Derived.Test.YtjaheelgcjafcaaProg
import Derived.Test.YtjaheelgcjafcaaBase
import Derived.Laws.IdiomStrings
import Derived.Test.YtjaheelgcjafcaaSfX
import Derived.Lib.SlBytesConst
import Derived.Test.YtjaheelgcjafcaaOwn
import Derived.ChangeKeysEq
import Derived.Deep.MidRow
namespace Go.Proofs.Ytjaheelgcjafcaa
open Go.RowKit
theorem bk_at (u i : Nat) : bk1 ((u + (i + 1)) % 4294967296) = (u + i) % 4294967296 := by unfold bk1; omega
theorem on_at (u i : Nat) : on1 ((u + i) % 4294967296) = (u + (i + 1)) % 4294967296 := by unfold on1; omega
/-- From the i-th piece back to the one that begins. -/
theorem back_whole {D : List (Nat × Pc)} {u : Nat} (hu : u < 4294967296) (h0 : (pcAt D u).beg = true) : ∀ i f, i < f → (∀ j, j < i → (pcAt D ((u + (j + 1)) % 4294967296)).beg = false ∧ joinsB D ((u + j) % 4294967296) = true) → backF D f ((u + i) % 4294967296) = some u := by
  intro i
  induction i with
  | zero =>
    intro f hf _
    obtain ⟨f, rfl⟩ : ∃ g, f = g + 1 := ⟨f - 1, by omega⟩
    rw [Nat.add_zero u, Nat.mod_eq_of_lt hu, backF_succ, if_pos h0]
  | succ i ih =>
    intro f hf h
    obtain ⟨f, rfl⟩ : ∃ g, f = g + 1 := ⟨f - 1, by omega⟩
    obtain ⟨h1, h2⟩ := h i (by omega)
    rw [backF_succ, h1, bk_at, h2, if_neg (by decide), if_pos rfl]
    exact ih f (by omega) (fun j hj => h j (by omega))
/-- A way back that comes to a gap. -/
theorem back_gap {D : List (Nat × Pc)} {u : Nat} (hg : joinsB D (u % 4294967296) = false) : ∀ i f, (∀ j, j < i + 1 → (pcAt D ((u + (j + 1)) % 4294967296)).beg = false) → (∀ j, j < i → joinsB D ((u + (j + 1)) % 4294967296) = true) → backF D f ((u + (i + 1)) % 4294967296) = none := by
  intro i
  induction i with
  | zero =>
    intro f h _
    cases f with
    | zero => rw [backF]
    | succ f => rw [backF_succ, h 0 (by omega), bk_at, Nat.add_zero u, hg, if_neg (by decide), if_neg (by decide)]
  | succ i ih =>
    intro f h hj
    cases f with
    | zero => rw [backF]
    | succ f =>
      rw [backF_succ, h (i + 1) (by omega), bk_at, hj i (by omega), if_neg (by decide), if_pos rfl]
      exact ih f (fun j hj => h j (by omega)) (fun j hjj => hj j (by omega))
/-- On from the i-th piece, m more. -/
theorem on_whole {D : List (Nat × Pc)} {u : Nat} : ∀ m i f L, m < f → (pcAt D ((u + (i + m)) % 4294967296)).fin = true → (∀ j, j < m → (pcAt D ((u + (i + j)) % 4294967296)).fin = false ∧ joinsB D ((u + (i + j)) % 4294967296) = true) →
    onF D f ((u + i) % 4294967296) L = some (L ++ (List.range m).map fun j => (u + (i + (j + 1))) % 4294967296) := by
  intro m
  induction m with
  | zero =>
    intro i f L hf h0 _
    obtain ⟨f, rfl⟩ : ∃ g, f = g + 1 := ⟨f - 1, by omega⟩
    rw [Nat.add_zero i] at h0
    rw [onF_succ, if_pos h0, List.range_zero, List.map_nil, List.append_nil]
  | succ m ih =>
    intro i f L hf h0 h
    obtain ⟨f, rfl⟩ : ∃ g, f = g + 1 := ⟨f - 1, by omega⟩
    obtain ⟨h1, h2⟩ := h 0 (by omega)
    rw [Nat.add_zero i] at h1 h2
    rw [onF_succ, h1, h2, if_neg (by decide), if_pos rfl, on_at]
    rw [ih (i + 1) f _ (by omega) (by rw [show i + 1 + m = i + (m + 1) by omega]; exact h0) (fun j hj => by rw [show i + 1 + j = i + (j + 1) by omega]; exact h (j + 1) (by omega))]
    rw [List.range_succ_eq_map, List.map_cons, List.map_map, List.append_assoc, List.singleton_append]
    congr 3
    refine List.map_congr_left (fun j _ => ?_)
    show (u + (i + 1 + (j + 1))) % 4294967296 = (u + (i + (j + 1 + 1))) % 4294967296
    rw [show i + 1 + (j + 1) = i + (j + 1 + 1) by omega]
/-- A way on that comes to a gap. -/
theorem on_gap {D : List (Nat × Pc)} {u : Nat} : ∀ m i f L, (∀ j, j < m + 1 → (pcAt D ((u + (i + j)) % 4294967296)).fin = false) → (∀ j, j < m → joinsB D ((u + (i + j)) % 4294967296) = true) → joinsB D ((u + (i + m)) % 4294967296) = false → onF D f ((u + i) % 4294967296) L = none := by
  intro m
  induction m with
  | zero =>
    intro i f L h _ hg
    have h1 := h 0 (by omega)
    rw [Nat.add_zero i] at h1 hg
    cases f with
    | zero => rw [onF]
    | succ f => rw [onF_succ, h1, hg, if_neg (by decide), if_neg (by decide)]
  | succ m ih =>
    intro i f L h hj hg
    have h1 := h 0 (by omega)
    have h2 := hj 0 (by omega)
    rw [Nat.add_zero i] at h1 h2
    cases f with
    | zero => rw [onF]
    | succ f =>
      rw [onF_succ, h1, h2, if_neg (by decide), if_pos rfl, on_at]
      exact ih (i + 1) f _ (fun j hjj => by rw [show i + 1 + j = i + (j + 1) by omega]; exact h (j + 1) (by omega)) (fun j hjj => by rw [show i + 1 + j = i + (j + 1) by omega]; exact hj (j + 1) (by omega)) (by rw [show i + 1 + m = i + (m + 1) by omega]; exact hg)
/-- The run of a message of m + 1 pieces that is whole, asked for at any one of them. -/
theorem run_whole {D : List (Nat × Pc)} (hs : Srt D) {u m : Nat} (hu : u < 4294967296) (hm : m + 1 ≤ 4294967296) (hin : ∀ j, j < m + 1 → (lookD D ((u + j) % 4294967296)).isSome = true) (hb : (pcAt D u).beg = true) (he : (pcAt D ((u + m) % 4294967296)).fin = true)
    (h : ∀ j, j < m → (pcAt D ((u + (j + 1)) % 4294967296)).beg = false ∧ (pcAt D ((u + j) % 4294967296)).fin = false ∧ joinsB D ((u + j) % 4294967296) = true) (i : Nat) (hi : i ≤ m) : runF D ((u + i) % 4294967296) = (List.range (m + 1)).map fun j => (u + j) % 4294967296 := by
  have hl := chain_len (m + 1) u D hs hm hin
  unfold runF
  rw [back_whole hu hb i (D.length + 1) (by omega) (fun j hj => ⟨(h j (by omega)).1, (h j (by omega)).2.2⟩)]
  dsimp only
  have := on_whole (D := D) (u := u) m 0 (D.length + 1) [u] (by omega) (by rw [Nat.zero_add]; exact he) (fun j hj => by rw [Nat.zero_add]; exact (h j hj).2)
  rw [Nat.add_zero u, Nat.mod_eq_of_lt hu] at this
  rw [this, Option.getD_some, List.range_succ_eq_map, List.map_cons, List.map_map, Nat.add_zero u, Nat.mod_eq_of_lt hu, List.singleton_append]
  congr 1
  refine List.map_congr_left (fun j _ => ?_)
  show (u + (0 + (j + 1))) % 4294967296 = (u + (j + 1)) % 4294967296
  rw [Nat.zero_add]
end Go.Proofs.Ytjaheelgcjafcaa
namespace Go.Proofs.Ytjaheelgcjafcaa
open Go.RowKit
theorem last_gap (P : Nat → Bool) : ∀ i, P i = true → (∃ k, k < i ∧ P k = false) → ∃ k, k < i ∧ P k = false ∧ ∀ j, k < j → j ≤ i → P j = true := by
  intro i
  induction i with
  | zero => intro _ ⟨k, hk, _⟩; omega
  | succ i ih =>
    intro hi ⟨k, hk, hp⟩
    cases e : P i with
    | false => exact ⟨i, by omega, e, fun j h1 h2 => by obtain rfl : j = i + 1 := by omega
                                                        exact hi⟩
    | true =>
      have hki : k < i := by
        rcases Nat.lt_or_ge k i with h | h
        · exact h
        · obtain rfl : k = i := by omega
          rw [e] at hp; cases hp
      obtain ⟨k', h1, h2, h3⟩ := ih e ⟨k, hki, hp⟩
      refine ⟨k', by omega, h2, fun j h4 h5 => ?_⟩
      by_cases e5 : j = i + 1
      · rw [e5]; exact hi
      · exact h3 j h4 (by omega)
theorem first_gap (P : Nat → Bool) : ∀ m, (∃ k, k ≤ m ∧ P k = false) → ∃ k, k ≤ m ∧ P k = false ∧ ∀ j, j < k → P j = true := by
  intro m
  induction m with
  | zero => intro ⟨k, hk, hp⟩; exact ⟨k, hk, hp, fun j hj => by omega⟩
  | succ m ih =>
    intro ⟨k, hk, hp⟩
    by_cases h : ∃ k, k ≤ m ∧ P k = false
    · obtain ⟨k', h1, h2, h3⟩ := ih h
      exact ⟨k', by omega, h2, h3⟩
    · obtain rfl : k = m + 1 := by
        rcases Nat.lt_or_ge m k with h1 | h1
        · omega
        · exact absurd ⟨k, h1, hp⟩ h
      refine ⟨m + 1, Nat.le_refl _, hp, fun j hj => ?_⟩
      cases e : P j with
      | true => rfl
      | false => exact absurd ⟨j, by omega, e⟩ h
theorem run_part {D : List (Nat × Pc)} (hs : Srt D) {u m : Nat} (hm : m + 1 ≤ 4294967296) (hu : u < 4294967296) (hb : (lookD D u).isSome = true → (pcAt D u).beg = true)
    (h : ∀ j, j < m → (pcAt D ((u + (j + 1)) % 4294967296)).beg = false ∧ (pcAt D ((u + j) % 4294967296)).fin = false ∧ joinsB D ((u + j) % 4294967296) = ((lookD D ((u + j) % 4294967296)).isSome && (lookD D ((u + (j + 1)) % 4294967296)).isSome))
    (i : Nat) (hi : i ≤ m) (hpi : (lookD D ((u + i) % 4294967296)).isSome = true) (hg : ∃ k, k ≤ m ∧ (lookD D ((u + k) % 4294967296)).isSome = false) : runF D ((u + i) % 4294967296) = [] := by
  unfold runF
  by_cases hlow : ∃ k, k < i ∧ (lookD D ((u + k) % 4294967296)).isSome = false
  · obtain ⟨k, h1, h2, h3⟩ := last_gap (fun k => (lookD D ((u + k) % 4294967296)).isSome) i hpi hlow
    have hk := back_gap (D := D) (u := u + k) (by rw [(h k (by omega)).2.2, h2]; rfl) (i - k - 1) (D.length + 1)
      (fun j hj => by rw [show u + k + (j + 1) = u + (k + j + 1) by omega]; exact (h (k + j) (by omega)).1)
      (fun j hj => by
        rw [show u + k + (j + 1) = u + (k + j + 1) by omega, (h (k + j + 1) (by omega)).2.2]
        have e1 := h3 (k + j + 1) (by omega) (by omega)
        have e2 := h3 (k + j + 1 + 1) (by omega) (by omega)
        rw [e1, e2]
        rfl)
    rw [show u + k + (i - k - 1 + 1) = u + i by omega] at hk
    rw [hk]
  · have hall : ∀ j, j ≤ i → (lookD D ((u + j) % 4294967296)).isSome = true := fun j hj => by
      by_cases e : j = i
      · rw [e]; exact hpi
      · cases e2 : (lookD D ((u + j) % 4294967296)).isSome with
        | true => rfl
        | false => exact absurd ⟨j, by omega, e2⟩ hlow
    have hif := chain_len (i + 1) u D hs (by omega) (fun j hj => hall j (by omega))
    have h0 := hall 0 (by omega)
    rw [Nat.add_zero u, Nat.mod_eq_of_lt hu] at h0
    rw [back_whole hu (hb h0) i (D.length + 1) (by omega) (fun j hj => ⟨(h j (by omega)).1, by rw [(h j (by omega)).2.2, hall j (by omega), hall (j + 1) (by omega)]; rfl⟩)]
    dsimp only
    obtain ⟨k, h1, h2, h3⟩ := first_gap (fun k => (lookD D ((u + k) % 4294967296)).isSome) m hg
    obtain ⟨k, rfl⟩ : ∃ k', k = k' + 1 := by
      cases k with
      | zero => rw [Nat.add_zero u, Nat.mod_eq_of_lt hu, h0] at h2; cases h2
      | succ k => exact ⟨k, rfl⟩
    have := on_gap (D := D) (u := u) k 0 (D.length + 1) [u] (fun j hj => by rw [Nat.zero_add]; exact (h j (by omega)).2.1)
      (fun j hj => by rw [Nat.zero_add, (h j (by omega)).2.2, h3 j (by omega), h3 (j + 1) (by omega)]; rfl)
      (by rw [Nat.zero_add, (h k (by omega)).2.2, h2, Bool.and_false])
    rw [Nat.add_zero u, Nat.mod_eq_of_lt hu] at this
    rw [this]
    rfl
end Go.Proofs.Ytjaheelgcjafcaa
namespace Go.Proofs.Ytjaheelgcjafcaa
open Go.RowKit
theorem joins_none {D : List (Nat × Pc)} {t : Nat} (h : lookD D t = none) : joinsB D t = false := by unfold joinsB; rw [h]; rfl
theorem add_lone (s : SmS) {t : Nat} (p : Pc) (hD : Srt s.D) (hb : p.beg = false) (hn : lookD s.D (bk1 t) = none) : s.add t p = (⟨s.nx, putD s.D t p, s.W⟩, []) := by
  have e1 : pcAt (putD s.D t p) t = p := by unfold pcAt; rw [look_put _ _ _ _ hD, if_pos rfl, Option.getD_some]
  have e2 : lookD (putD s.D t p) (bk1 t) = none := by rw [look_put _ _ _ _ hD, if_neg (by unfold bk1; omega)]; exact hn
  have e3 : runF (putD s.D t p) t = [] := by
    unfold runF
    rw [backF_succ, e1, hb, joins_none e2, if_neg (by decide), if_neg (by decide)]
  unfold SmS.add
  dsimp only
  rw [e3, if_pos (List.length_nil)]
/-- Behind k lone pieces at first, first + 2, ..: k are held, and only those. -/
structure LoneS (s : SmS) (first k : Nat) : Prop where
  srt : Srt s.D
  len : s.D.length = k
  W : s.W = []
  at_ : ∀ q, (lookD s.D q).isSome = true ↔ ∃ j, j < k ∧ q = (first + 2 * j) % 4294967296
theorem LoneS.start (nx : List Nat) (first : Nat) : LoneS ⟨nx, [], []⟩ first 0 := ⟨List.Pairwise.nil, rfl, rfl, fun q => ⟨fun h => (by cases h), fun ⟨j, hj, _⟩ => (by omega)⟩⟩
theorem LoneS.step {s : SmS} {first k : Nat} (h : LoneS s first k) (hk : k < 128) (p : Pc) (hb : p.beg = false) :
    s.add ((first + 2 * k) % 4294967296) p = (⟨s.nx, putD s.D ((first + 2 * k) % 4294967296) p, s.W⟩, []) ∧ LoneS ⟨s.nx, putD s.D ((first + 2 * k) % 4294967296) p, s.W⟩ first (k + 1) ∧ lookD s.D ((first + 2 * k) % 4294967296) = none := by
  have hno : ∀ q, (∀ j, j < k → q ≠ (first + 2 * j) % 4294967296) → lookD s.D q = none := fun q hq => by
    cases e : lookD s.D q with
    | none => rfl
    | some x =>
      obtain ⟨j, hj, e2⟩ := (h.at_ q).1 (by rw [e]; rfl)
      exact absurd e2 (hq j hj)
  have n0 : lookD s.D ((first + 2 * k) % 4294967296) = none := hno _ (fun j hj => by omega)
  refine ⟨add_lone s p h.srt hb (hno _ (fun j hj => by unfold bk1; omega)), ⟨h.srt.put _ _, ?_, h.W, fun q => ?_⟩, n0⟩
  · show (putD s.D _ p).length = _
    rw [len_put _ _ _ h.srt, n0, h.len]
    rfl
  · show (lookD (putD s.D _ p) q).isSome = true ↔ _
    rw [look_put _ _ _ _ h.srt]
    by_cases e : q = (first + 2 * k) % 4294967296
    · rw [if_pos e]
      exact ⟨fun _ => ⟨k, by omega, e⟩, fun _ => rfl⟩
    · rw [if_neg e, h.at_ q]
      constructor
      · rintro ⟨j, hj, e2⟩; exact ⟨j, by omega, e2⟩
      · rintro ⟨j, hj, e2⟩
        refine ⟨j, ?_, e2⟩
        rcases Nat.lt_or_ge j k with h1 | h1
        · exact h1
        · obtain rfl : j = k := by omega
          exact absurd e2 e
theorem LoneS.held {s : SmS} {first k : Nat} (h : LoneS s first k) : s.heldN = k := by
  unfold SmS.heldN
  rw [h.W, h.len]
  rfl
end Go.Proofs.Ytjaheelgcjafcaa
namespace Go.Proofs.Ytjaheelgcjafcaa
open Go.RowKit
theorem set_getD {L : List Nat} {i : Nat} (h : i < L.length) (x : Nat) : (L.set i x).getD i 0 = x := by
  rw [List.getD_eq_getElem?_getD, List.getElem?_set_self h, Option.getD_some]
theorem set_sameS {L : List Nat} {i : Nat} : L.set i (L.getD i 0) = L := by
  refine List.ext_getElem? (fun j => ?_)
  rw [List.getElem?_set]
  split
  · rename_i e
    subst e
    split
    · rename_i hl
      rw [List.getD_eq_getElem?_getD, List.getElem?_eq_getElem hl, Option.getD_some]
    · rename_i hl
      rw [List.getElem?_eq_none (by omega)]
  · rfl
theorem rel_run {st : Nat} : ∀ (k f n : Nat) (s : SmS) (T : List Mg) (ps : Nat → List Pc), k ≤ f → st < s.nx.length → n = s.nx.getD st 0 → n + k < 65536 → Srt s.W → (∀ i, i < k → lookD s.W (tkey st (n + i)) = some (ps i)) → lookD s.W (tkey st (n + k)) = none →
    relF st f s T = (⟨s.nx.set st (n + k), s.D, (List.range k).foldl (fun W i => delD W (tkey st (n + i))) s.W⟩, T ++ (List.range k).map fun i => joinM (ps i)) := by
  intro k
  induction k with
  | zero =>
    intro f n s T ps _ _ hn _ _ _ h0
    have h0' : lookD s.W (s.now st) = none := by unfold SmS.now; rw [← hn]; exact h0
    rw [relF_none h0', List.range_zero, List.map_nil, List.append_nil, List.foldl_nil, Nat.add_zero n, hn, set_sameS]
  | succ k ih =>
    intro f n s T ps hf hl hn h64 hs h h0
    obtain ⟨f, rfl⟩ : ∃ g, f = g + 1 := ⟨f - 1, by omega⟩
    have h1 : lookD s.W (s.now st) = some (ps 0) := by unfold SmS.now; rw [← hn]; exact h 0 (by omega)
    have en : n + 1 = (s.let st).nx.getD st 0 := by
      show _ = (s.nx.set st ((s.nx.getD st 0 + 1) % 65536)).getD st 0
      rw [set_getD hl, ← hn, Nat.mod_eq_of_lt (by omega)]
    have ek : ∀ q, lookD (s.let st).W q = if q = tkey st n then none else lookD s.W q := fun q => by
      show lookD (delD s.W (s.now st)) q = _
      rw [look_del _ _ _ hs]
      unfold SmS.now
      rw [← hn]
    rw [relF_some h1, ih f (n + 1) (s.let st) _ (fun i => ps (i + 1)) (by omega) (by show st < (s.nx.set st _).length; rw [List.length_set]; exact hl) en (by omega) (hs.del _)
      (fun i hi => by rw [ek, if_neg (by unfold tkey; omega), show n + 1 + i = n + (i + 1) by omega]; exact h (i + 1) (by omega))
      (by rw [ek, if_neg (by unfold tkey; omega), show n + 1 + k = n + (k + 1) by omega]; exact h0)]
    rw [List.range_succ_eq_map, List.map_cons, List.map_map, List.foldl_cons, List.foldl_map, List.append_assoc, List.singleton_append]
    have e1 : (s.let st).nx.set st (n + 1 + k) = s.nx.set st (n + (k + 1)) := by
      show (s.nx.set st _).set st _ = _
      rw [List.set_set, show n + 1 + k = n + (k + 1) by omega]
    have e2 : (fun (W : List (Nat × List Pc)) i => delD W (tkey st (n + 1 + i))) = fun W i => delD W (tkey st (n + (i + 1))) := by
      funext W i
      rw [show n + 1 + i = n + (i + 1) by omega]
    have e3 : (s.let st).W = delD s.W (tkey st (n + 0)) := by
      show delD s.W (s.now st) = _
      unfold SmS.now
      rw [← hn, Nat.add_zero n]
    rw [e1, e2, e3]
    rfl
end Go.Proofs.Ytjaheelgcjafcaa
namespace Go.Proofs.Ytjaheelgcjafcaa
open Go.RowKit
theorem look_lift : ∀ (L : List Nat) (D : List (Nat × Pc)) (q : Nat), Srt D → lookD (liftD D L) q = if q ∈ L then none else lookD D q
  | [], D, q, _ => by rw [if_neg (by simp)]; rfl
  | r :: L, D, q, h => by
    show lookD (liftD (delD D r) L) q = _
    rw [look_lift L (delD D r) q (h.del r), look_del _ _ _ h]
    by_cases e1 : q = r
    · subst e1
      rw [if_pos (show q ∈ q :: L from List.mem_cons_self), if_pos (show q = q from rfl)]
      split <;> rfl
    · by_cases e2 : q ∈ L
      · rw [if_pos e2, if_pos (List.mem_cons_of_mem _ e2)]
      · rw [if_neg e2, if_neg e1, if_neg (by simp [e1, e2])]
/-- A piece that makes nothing whole. -/
theorem add_part (s : SmS) {t : Nat} (p : Pc) (h : runF (putD s.D t p) t = []) : s.add t p = (⟨s.nx, putD s.D t p, s.W⟩, []) := by
  unfold SmS.add
  dsimp only
  rw [h, if_pos List.length_nil]
/-- A piece that makes its message whole, which is free. -/
theorem add_free (s : SmS) {t : Nat} (p : Pc) {L : List Nat} (h : runF (putD s.D t p) t = L) (hL : L ≠ []) (hf : ((L.map (pcAt (putD s.D t p))).headD zeroPc).free = true) :
    s.add t p = (⟨s.nx, liftD (putD s.D t p) L, s.W⟩, [joinM (L.map (pcAt (putD s.D t p)))]) := by
  unfold SmS.add
  dsimp only
  rw [h, if_neg (fun e => hL (List.length_eq_zero_iff.1 e))]
  unfold SmS.tell
  rw [if_pos hf]
end Go.Proofs.Ytjaheelgcjafcaa
namespace Go.Proofs.Ytjaheelgcjafcaa
open Go.RowKit
/-- A piece as plain data. -/
structure Pd where
  fl : Nat
  st : Nat
  ss : Nat
  pp : Nat
  zs : List Nat
def Pc.pd (x : Pc) : Pd := ⟨x.fl, x.st, x.ss, x.pp, x.zs⟩
def Pd.beg (p : Pd) : Bool := decide (p.fl / 2 % 2 = 1)
def Pd.fin (p : Pd) : Bool := decide (p.fl % 2 = 1)
def Pd.free (p : Pd) : Bool := decide (p.fl / 4 % 2 = 1)
/-- M messages, of N pieces; message i has the pieces from o i on, up to o (i + 1). -/
structure Fm (M N : Nat) (mg : Nat → Mg) (o : Nat → Nat) (pd : Nat → Pd) : Prop where
  o0 : o 0 = 0
  oM : o M = N
  os : ∀ i, i < M → o i < o (i + 1)
  n128 : N ≤ 128
  st8 : ∀ i, i < M → (mg i).st < 8
  sb : ∀ i, i < M → (mg i).ss < 128
  fr0 : ∀ i, i < M → (mg i).fr = true → (mg i).ss = 0
  ps : ∀ i j, i < M → o i ≤ j → j < o (i + 1) → (pd j).st = (mg i).st ∧ (pd j).ss = (mg i).ss ∧ (pd j).free = (mg i).fr ∧ (pd j).pp = (mg i).pp ∧ (pd j).beg = decide (j = o i) ∧ (pd j).fin = decide (j + 1 = o (i + 1))
  zs : ∀ i, i < M → ((List.range (o (i + 1) - o i)).flatMap fun k => (pd (o i + k)).zs) = (mg i).zs
  uni : ∀ i i', i < M → i' < M → (mg i).fr = false → (mg i').fr = false → (mg i).st = (mg i').st → (mg i).ss = (mg i').ss → i = i'
  dn : ∀ i, i < M → (mg i).fr = false → ∀ r, r < (mg i).ss → ∃ i', i' < M ∧ (mg i').fr = false ∧ (mg i').st = (mg i).st ∧ (mg i').ss = r
def tsnF (first j : Nat) : Nat := (first + j) % 4294967296
/-- Is a message whole among what came? -/
def cmpA (o : Nat → Nat) (A : Nat → Bool) (i : Nat) : Prop := ∀ j, o i ≤ j → j < o (i + 1) → A j = true
section
variable {M N : Nat} {mg : Nat → Mg} {o : Nat → Nat} {pd : Nat → Pd}
theorem Fm.mono (F : Fm M N mg o pd) : ∀ d i, i + d ≤ M → o i ≤ o (i + d) := by
  intro d
  induction d with
  | zero => intro i _; exact Nat.le_refl _
  | succ d ih =>
    intro i h
    have h1 := ih i (by omega)
    have h2 := F.os (i + d) (by omega)
    rw [show i + (d + 1) = i + d + 1 by omega]
    omega
theorem Fm.le (F : Fm M N mg o pd) {i i' : Nat} (h : i ≤ i') (h' : i' ≤ M) : o i ≤ o i' := by
  have := F.mono (i' - i) i (by omega)
  rwa [show i + (i' - i) = i' by omega] at this
theorem Fm.lt (F : Fm M N mg o pd) {i j : Nat} (hi : i < M) (h : j < o (i + 1)) : j < N := by
  have := F.le (i := i + 1) (i' := M) (by omega) (Nat.le_refl _)
  rw [F.oM] at this
  omega
/-- Two messages have no piece in common. -/
theorem Fm.one (F : Fm M N mg o pd) {i i' j : Nat} (hi : i < M) (hi' : i' < M) (h1 : o i ≤ j) (h2 : j < o (i + 1)) (h3 : o i' ≤ j) (h4 : j < o (i' + 1)) : i = i' := by
  rcases Nat.lt_trichotomy i i' with h | h | h
  · have := F.le (i := i + 1) (i' := i') (by omega) (by omega)
    omega
  · exact h
  · have := F.le (i := i' + 1) (i' := i) (by omega) (by omega)
    omega
theorem Fm.find (F : Fm M N mg o pd) {j : Nat} (hj : j < N) : ∃ i, i < M ∧ o i ≤ j ∧ j < o (i + 1) := by
  have key : ∀ d, d ≤ M → j < o d → ∃ i, i < M ∧ o i ≤ j ∧ j < o (i + 1) := by
    intro d
    induction d with
    | zero => intro _ h; rw [F.o0] at h; omega
    | succ d ih =>
      intro hd h
      by_cases e : j < o d
      · exact ih (by omega) e
      · exact ⟨d, by omega, by omega, h⟩
  exact key M (Nat.le_refl _) (by rw [F.oM]; exact hj)
theorem Fm.tsn (F : Fm M N mg o pd) {first j j' : Nat} (h1 : j < N) (h2 : j' < N) (e : tsnF first j = tsnF first j') : j = j' := by
  have := F.n128
  unfold tsnF at e
  omega
/-- What stands behind the pieces of A; I: the messages that were told, in their order. -/
structure Iv (first M N : Nat) (mg : Nat → Mg) (o : Nat → Nat) (pd : Nat → Pd) (A : Nat → Bool) (s : SmS) (I : List Nat) : Prop where
  nl : s.nx.length = 8
  sd : Srt s.D
  sw : Srt s.W
  d1 : ∀ i j, i < M → o i ≤ j → j < o (i + 1) → A j = true → ¬ cmpA o A i → ∃ x, lookD s.D (tsnF first j) = some x ∧ x.pd = pd j
  d2 : ∀ q x, lookD s.D q = some x → ∃ i j, i < M ∧ o i ≤ j ∧ j < o (i + 1) ∧ q = tsnF first j ∧ A j = true ∧ ¬ cmpA o A i
  n1 : ∀ i, i < M → (mg i).fr = false → (mg i).ss < s.nx.getD (mg i).st 0 → cmpA o A i
  n2 : ∀ i, i < M → (mg i).fr = false → (mg i).ss = s.nx.getD (mg i).st 0 → ¬ cmpA o A i
  n3 : ∀ st, st < 8 → s.nx.getD st 0 ≤ 128
  w1 : ∀ i, i < M → (mg i).fr = false → cmpA o A i → s.nx.getD (mg i).st 0 ≤ (mg i).ss → ∃ ps, lookD s.W (tkey (mg i).st (mg i).ss) = some ps ∧ joinM ps = mg i
  w2 : ∀ q ps, lookD s.W q = some ps → ∃ i, i < M ∧ (mg i).fr = false ∧ cmpA o A i ∧ s.nx.getD (mg i).st 0 ≤ (mg i).ss ∧ q = tkey (mg i).st (mg i).ss
  t1 : I.Nodup
  t2 : ∀ i, i ∈ I → i < M ∧ cmpA o A i ∧ ((mg i).fr = false → (mg i).ss < s.nx.getD (mg i).st 0)
  t3 : ∀ i, i < M → cmpA o A i → ((mg i).fr = true ∨ (mg i).ss < s.nx.getD (mg i).st 0) → i ∈ I
  t4 : ∀ st, st < 8 → (I.filter fun i => !(mg i).fr && ((mg i).st == st)).map (fun i => (mg i).ss) = List.range (s.nx.getD st 0)
theorem Iv.start (F : Fm M N mg o pd) (first : Nat) : Iv first M N mg o pd (fun _ => false) ⟨List.replicate 8 0, [], []⟩ [] := by
  have hno : ∀ i, i < M → ¬ cmpA o (fun _ => false) i := fun i hi h => by
    have := h (o i) (Nat.le_refl _) (F.os i hi)
    cases this
  have h0 : ∀ st, (List.replicate 8 0).getD st 0 = 0 := fun st => by
    rw [List.getD_eq_getElem?_getD, List.getElem?_replicate]
    split <;> rfl
  refine ⟨rfl, List.Pairwise.nil, List.Pairwise.nil, fun i j _ _ _ h => (by cases h), fun q x h => (by cases h), fun i _ _ h => ?_, fun i hi _ _ => hno i hi, fun st _ => ?_, fun i hi _ h => absurd h (hno i hi), fun q ps h => (by cases h), List.nodup_nil, fun i h => (by cases h), fun i hi h => absurd h (hno i hi), fun st _ => ?_⟩
  · dsimp only at h; rw [h0] at h; omega
  · dsimp only; rw [h0]; omega
  · dsimp only; rw [h0]; rfl
def addA (A : Nat → Bool) (j : Nat) : Nat → Bool := fun k => if k = j then true else A k
theorem cmp_other (F : Fm M N mg o pd) {A : Nat → Bool} {i j i' : Nat} (hi : i < M) (h1 : o i ≤ j) (h2 : j < o (i + 1)) (hi' : i' < M) (hne : i' ≠ i) : cmpA o (addA A j) i' ↔ cmpA o A i' := by
  have key : ∀ k, o i' ≤ k → k < o (i' + 1) → addA A j k = A k := fun k k1 k2 => by
    unfold addA
    rw [if_neg]
    intro e
    subst e
    exact hne (F.one hi' hi k1 k2 h1 h2)
  exact ⟨fun h k k1 k2 => by rw [← key k k1 k2]; exact h k k1 k2, fun h k k1 k2 => by rw [key k k1 k2]; exact h k k1 k2⟩
end
end Go.Proofs.Ytjaheelgcjafcaa
namespace Go.Proofs.Ytjaheelgcjafcaa
open Go.RowKit
theorem tsn_at (first a k : Nat) : (tsnF first a + k) % 4294967296 = tsnF first (a + k) := by unfold tsnF; omega
theorem tsn_on (first a : Nat) : on1 (tsnF first a) = tsnF first (a + 1) := by unfold on1 tsnF; omega
theorem tsn_lt (first a : Nat) : tsnF first a < 4294967296 := Nat.mod_lt _ (by decide)
/-- Pieces of one message among what is held. -/
structure ChainS (D : List (Nat × Pc)) (first a m : Nat) (pdf : Nat → Pd) (B : Nat → Bool) : Prop where
  some_ : ∀ k, k ≤ m → B k = true → ∃ y, lookD D (tsnF first (a + k)) = some y ∧ y.pd = pdf k
  none_ : ∀ k, k ≤ m → B k = false → lookD D (tsnF first (a + k)) = none
theorem ChainS.is {D : List (Nat × Pc)} {first a m : Nat} {pdf : Nat → Pd} {B : Nat → Bool} (h : ChainS D first a m pdf B) {k : Nat} (hk : k ≤ m) : (lookD D (tsnF first (a + k))).isSome = B k := by
  cases e : B k with
  | true => obtain ⟨y, hy, _⟩ := h.some_ k hk e; rw [hy]; rfl
  | false => rw [h.none_ k hk e]; rfl
theorem ChainS.at_ {D : List (Nat × Pc)} {first a m : Nat} {pdf : Nat → Pd} {B : Nat → Bool} (h : ChainS D first a m pdf B) {k : Nat} (hk : k ≤ m) (hb : B k = true) : (pcAt D (tsnF first (a + k))).pd = pdf k := by
  obtain ⟨y, hy, e⟩ := h.some_ k hk hb
  unfold pcAt
  rw [hy]
  exact e
theorem ChainS.zero {D : List (Nat × Pc)} {first a m : Nat} {pdf : Nat → Pd} {B : Nat → Bool} (h : ChainS D first a m pdf B) {k : Nat} (hk : k ≤ m) (hb : B k = false) : pcAt D (tsnF first (a + k)) = zeroPc := by
  unfold pcAt
  rw [h.none_ k hk hb]
  rfl
theorem beg_pd (x : Pc) : x.beg = x.pd.beg := rfl
theorem fin_pd (x : Pc) : x.fin = x.pd.fin := rfl
theorem free_pd (x : Pc) : x.free = x.pd.free := rfl
theorem ChainS.go {D : List (Nat × Pc)} {first a m : Nat} {pdf : Nat → Pd} {B : Nat → Bool} {st ss : Nat} {fr : Bool} (h : ChainS D first a m pdf B)
    (hp : ∀ k, k ≤ m → (pdf k).st = st ∧ (pdf k).ss = ss ∧ (pdf k).free = fr ∧ (pdf k).beg = decide (k = 0) ∧ (pdf k).fin = decide (k = m)) (k : Nat) (hk : k < m) :
    (pcAt D ((tsnF first a + (k + 1)) % 4294967296)).beg = false ∧ (pcAt D ((tsnF first a + k) % 4294967296)).fin = false ∧ joinsB D ((tsnF first a + k) % 4294967296) = ((lookD D ((tsnF first a + k) % 4294967296)).isSome && (lookD D ((tsnF first a + (k + 1)) % 4294967296)).isSome) := by
  rw [tsn_at, tsn_at]
  have hb1 : (pcAt D (tsnF first (a + (k + 1)))).beg = false := by
    cases e : B (k + 1) with
    | true => rw [beg_pd, h.at_ (by omega) e, (hp (k + 1) (by omega)).2.2.2.1]; simp
    | false => rw [h.zero (by omega) e]; rfl
  have hf0 : (pcAt D (tsnF first (a + k))).fin = false := by
    cases e : B k with
    | true => rw [fin_pd, h.at_ (by omega) e, (hp k (by omega)).2.2.2.2]; simp; omega
    | false => rw [h.zero (by omega) e]; rfl
  refine ⟨hb1, hf0, ?_⟩
  unfold joinsB
  rw [tsn_on, Nat.add_assoc, hf0, hb1, h.is (k := k) (by omega), h.is (k := k + 1) (by omega)]
  cases e1 : B k with
  | false => rfl
  | true =>
    cases e2 : B (k + 1) with
    | false => rfl
    | true =>
      have p1 := h.at_ (k := k) (by omega) e1
      have p2 := h.at_ (k := k + 1) (by omega) e2
      obtain ⟨a1, a2, a3, _⟩ := hp k (by omega)
      obtain ⟨b1, b2, b3, _⟩ := hp (k + 1) (by omega)
      have q1 : (pcAt D (tsnF first (a + k))).st = st := by rw [show (pcAt D (tsnF first (a + k))).st = (pcAt D (tsnF first (a + k))).pd.st from rfl, p1]; exact a1
      have q2 : (pcAt D (tsnF first (a + (k + 1)))).st = st := by rw [show (pcAt D (tsnF first (a + (k + 1)))).st = (pcAt D (tsnF first (a + (k + 1)))).pd.st from rfl, p2]; exact b1
      have q3 : (pcAt D (tsnF first (a + k))).ss = ss := by rw [show (pcAt D (tsnF first (a + k))).ss = (pcAt D (tsnF first (a + k))).pd.ss from rfl, p1]; exact a2
      have q4 : (pcAt D (tsnF first (a + (k + 1)))).ss = ss := by rw [show (pcAt D (tsnF first (a + (k + 1)))).ss = (pcAt D (tsnF first (a + (k + 1)))).pd.ss from rfl, p2]; exact b2
      have q5 : (pcAt D (tsnF first (a + k))).free = fr := by rw [free_pd, p1]; exact a3
      have q6 : (pcAt D (tsnF first (a + (k + 1)))).free = fr := by rw [free_pd, p2]; exact b3
      unfold fitB
      rw [q1, q2, q3, q4, q5, q6]
      simp
/-- Not whole: no run. -/
theorem ChainS.part {D : List (Nat × Pc)} {first a m : Nat} {pdf : Nat → Pd} {B : Nat → Bool} {st ss : Nat} {fr : Bool} (h : ChainS D first a m pdf B) (hs : Srt D) (hm : m < 128)
    (hp : ∀ k, k ≤ m → (pdf k).st = st ∧ (pdf k).ss = ss ∧ (pdf k).free = fr ∧ (pdf k).beg = decide (k = 0) ∧ (pdf k).fin = decide (k = m)) {i : Nat} (hi : i ≤ m) (hbi : B i = true) (hg : ∃ k, k ≤ m ∧ B k = false) : runF D (tsnF first (a + i)) = [] := by
  have h0 := fun (e : (lookD D (tsnF first a)).isSome = true) => (show (pcAt D (tsnF first a)).beg = true from by
    have e2 := h.is (k := 0) (by omega)
    rw [Nat.add_zero, e] at e2
    have := h.at_ (k := 0) (by omega) e2.symm
    rw [Nat.add_zero] at this
    rw [beg_pd, this, (hp 0 (by omega)).2.2.2.1]
    rfl)
  have := run_part hs (u := tsnF first a) (m := m) (by omega) (tsn_lt _ _) h0 (h.go hp) i hi (by rw [tsn_at, h.is hi]; exact hbi) (by obtain ⟨k, k1, k2⟩ := hg; exact ⟨k, k1, by rw [tsn_at, h.is k1]; exact k2⟩)
  rwa [tsn_at] at this
/-- Whole: all of it. -/
theorem ChainS.whole {D : List (Nat × Pc)} {first a m : Nat} {pdf : Nat → Pd} {B : Nat → Bool} {st ss : Nat} {fr : Bool} (h : ChainS D first a m pdf B) (hs : Srt D) (hm : m < 128)
    (hp : ∀ k, k ≤ m → (pdf k).st = st ∧ (pdf k).ss = ss ∧ (pdf k).free = fr ∧ (pdf k).beg = decide (k = 0) ∧ (pdf k).fin = decide (k = m)) {i : Nat} (hi : i ≤ m) (hg : ∀ k, k ≤ m → B k = true) : runF D (tsnF first (a + i)) = (List.range (m + 1)).map fun k => tsnF first (a + k) := by
  have hb : (pcAt D (tsnF first a)).beg = true := by
    have := h.at_ (k := 0) (by omega) (hg 0 (by omega))
    rw [Nat.add_zero] at this
    rw [beg_pd, this, (hp 0 (by omega)).2.2.2.1]
    rfl
  have he : (pcAt D ((tsnF first a + m) % 4294967296)).fin = true := by rw [tsn_at, fin_pd, h.at_ (Nat.le_refl _) (hg m (Nat.le_refl _)), (hp m (Nat.le_refl _)).2.2.2.2]; simp
  have := run_whole hs (u := tsnF first a) (m := m) (tsn_lt _ _) (by omega) (fun k hk => by rw [tsn_at, h.is (by omega)]; exact hg k (by omega)) hb he (fun k hk => by
    obtain ⟨g1, g2, g3⟩ := h.go hp k hk
    refine ⟨g1, g2, ?_⟩
    rw [g3, tsn_at, tsn_at, h.is (by omega), h.is (k := k + 1) (by omega), hg k (by omega), hg (k + 1) (by omega)]
    rfl) i hi
  rw [tsn_at] at this
  rw [this]
  exact List.map_congr_left (fun k _ => tsn_at first a k)
/-- The least at which something does not hold. -/
theorem leastP (P : Nat → Prop) : ∀ n, ¬ P n → ∃ k, k ≤ n ∧ (∀ r, r < k → P r) ∧ ¬ P k := by
  intro n
  induction n using Nat.strongRecOn with
  | _ n ih =>
    intro h
    by_cases e : ∃ q, q < n ∧ ¬ P q
    · obtain ⟨q, hq, hnq⟩ := e
      obtain ⟨k, k1, k2, k3⟩ := ih q hq hnq
      exact ⟨k, by omega, k2, k3⟩
    · exact ⟨n, Nat.le_refl _, fun q hq => Classical.byContradiction fun hc => e ⟨q, hq, hc⟩, h⟩
theorem chooseN {α : Type} [Inhabited α] {P : Nat → α → Prop} {n : Nat} (h : ∀ r, r < n → ∃ x, P r x) : ∃ f : Nat → α, ∀ r, r < n → P r (f r) :=
  ⟨fun r => if hr : r < n then Classical.choose (h r hr) else default, fun r hr => by dsimp only; rw [dif_pos hr]; exact Classical.choose_spec (h r hr)⟩
theorem look_dels {α : Type} (f : Nat → Nat) : ∀ (k : Nat) (W : List (Nat × α)) (q : Nat), Srt W → Srt ((List.range k).foldl (fun W i => delD W (f i)) W) ∧ (lookD ((List.range k).foldl (fun W i => delD W (f i)) W) q = if ∃ i, i < k ∧ q = f i then none else lookD W q) := by
  intro k
  induction k with
  | zero => intro W q h; exact ⟨h, by rw [if_neg (fun ⟨i, hi, _⟩ => by omega)]; rfl⟩
  | succ k ih =>
    intro W q h
    obtain ⟨h1, h2⟩ := ih W q h
    rw [List.range_succ, List.foldl_append]
    show Srt (delD _ (f k)) ∧ lookD (delD _ (f k)) q = _
    refine ⟨h1.del _, ?_⟩
    rw [look_del _ _ _ h1, h2]
    by_cases e : q = f k
    · rw [if_pos e, if_pos ⟨k, by omega, e⟩]
    · rw [if_neg e]
      by_cases e2 : ∃ i, i < k ∧ q = f i
      · obtain ⟨i, hi, he⟩ := e2
        rw [if_pos ⟨i, hi, he⟩, if_pos ⟨i, by omega, he⟩]
      · rw [if_neg e2, if_neg]
        rintro ⟨i, hi, he⟩
        by_cases e3 : i = k
        · rw [e3] at he; exact e he
        · exact e2 ⟨i, by omega, he⟩
theorem not_less {a b : Nat} (ha : a < 20000) (hb : b ≤ a) : ¬ 0 < aheadV 65536 a b := by
  unfold aheadV upV
  split <;> omega
end Go.Proofs.Ytjaheelgcjafcaa
namespace Go.Proofs.Ytjaheelgcjafcaa
open Go.RowKit
theorem flatMap_eq {α β : Type} {f g : α → List β} : ∀ (l : List α), (∀ x ∈ l, f x = g x) → l.flatMap f = l.flatMap g
  | [], _ => rfl
  | x :: l, h => by rw [List.flatMap_cons, List.flatMap_cons, h x List.mem_cons_self, flatMap_eq l (fun y hy => h y (List.mem_cons_of_mem _ hy))]
section
variable {first M N : Nat} {mg : Nat → Mg} {o : Nat → Nat} {pd : Nat → Pd} {A : Nat → Bool} {s : SmS} {I : List Nat}
theorem Iv.fresh (F : Fm M N mg o pd) (h : Iv first M N mg o pd A s I) {j : Nat} (hj : j < N) (hA : A j = false) : lookD s.D (tsnF first j) = none := by
  cases e : lookD s.D (tsnF first j) with
  | none => rfl
  | some y =>
    obtain ⟨i', j', a1, _, a3, a4, a5, _⟩ := h.d2 _ _ e
    have := F.tsn hj (F.lt a1 a3) a4
    subst this
    rw [hA] at a5
    cases a5
theorem Iv.chain (F : Fm M N mg o pd) (h : Iv first M N mg o pd A s I) {i j : Nat} (hi : i < M) (h1 : o i ≤ j) (h2 : j < o (i + 1)) (hA : A j = false) (x : Pc) (hx : x.pd = pd j) :
    ChainS (putD s.D (tsnF first j) x) first (o i) (o (i + 1) - o i - 1) (fun k => pd (o i + k)) (fun k => addA A j (o i + k)) := by
  have hos := F.os i hi
  have hnc : ¬ cmpA o A i := fun hc => by have := hc j h1 h2; rw [hA] at this; cases this
  refine ⟨fun k hk hb => ?_, fun k hk hb => ?_⟩
  · rw [look_put _ _ _ _ h.sd]
    by_cases e : o i + k = j
    · rw [e, if_pos rfl]
      exact ⟨x, rfl, by rw [hx]⟩
    · have hne : tsnF first (o i + k) ≠ tsnF first j := fun e2 => e (F.tsn (F.lt hi (by omega)) (F.lt hi h2) e2)
      rw [if_neg hne]
      unfold addA at hb
      rw [if_neg e] at hb
      exact h.d1 i (o i + k) hi (by omega) (by omega) hb hnc
  · unfold addA at hb
    have e : ¬ o i + k = j := fun e => by rw [if_pos e] at hb; cases hb
    rw [if_neg e] at hb
    have hne : tsnF first (o i + k) ≠ tsnF first j := fun e2 => e (F.tsn (F.lt hi (by omega)) (F.lt hi h2) e2)
    rw [look_put _ _ _ _ h.sd, if_neg hne]
    exact h.fresh F (F.lt hi (by omega)) hb
theorem Fm.pieces (F : Fm M N mg o pd) {i : Nat} (hi : i < M) : ∀ k, k ≤ o (i + 1) - o i - 1 → ((fun k => pd (o i + k)) k).st = (mg i).st ∧ ((fun k => pd (o i + k)) k).ss = (mg i).ss ∧ ((fun k => pd (o i + k)) k).free = (mg i).fr ∧ ((fun k => pd (o i + k)) k).beg = decide (k = 0) ∧ ((fun k => pd (o i + k)) k).fin = decide (k = o (i + 1) - o i - 1) := fun k hk => by
  have hos := F.os i hi
  obtain ⟨a1, a2, a3, _, a5, a6⟩ := F.ps i (o i + k) hi (by omega) (by omega)
  refine ⟨a1, a2, a3, ?_, ?_⟩
  · show (pd (o i + k)).beg = _
    rw [a5]
    exact decide_eq_decide.2 (by omega)
  · show (pd (o i + k)).fin = _
    rw [a6]
    exact decide_eq_decide.2 (by omega)
/-- A piece that makes nothing whole. -/
theorem Iv.part (F : Fm M N mg o pd) (h : Iv first M N mg o pd A s I) {i j : Nat} (hi : i < M) (h1 : o i ≤ j) (h2 : j < o (i + 1)) (hA : A j = false) (x : Pc) (hx : x.pd = pd j) (hn : ¬ cmpA o (addA A j) i) :
    (s.add (tsnF first j) x).2 = [] ∧ Iv first M N mg o pd (addA A j) (s.add (tsnF first j) x).1 I := by
  have hos := F.os i hi
  have hN := F.n128
  have hjN := F.lt hi h2
  have hoN : o (i + 1) ≤ N := by
    have := F.le (i := i + 1) (i' := M) (by omega) (Nat.le_refl _)
    rwa [F.oM] at this
  have hc := h.chain F hi h1 h2 hA x hx
  have hgap : ∃ k, k ≤ o (i + 1) - o i - 1 ∧ addA A j (o i + k) = false := by
    refine Classical.byContradiction fun hno => hn (fun k k1 k2 => ?_)
    cases e : addA A j k with
    | true => rfl
    | false => exact absurd ⟨k - o i, by omega, by rw [show o i + (k - o i) = k by omega]; exact e⟩ hno
  have hrun := hc.part (h.sd.put _ _) (by omega) (F.pieces hi) (i := j - o i) (by omega) (by unfold addA; rw [if_pos (by omega)]) hgap
  rw [show o i + (j - o i) = j by omega] at hrun
  rw [add_part s x hrun]
  have hnc : ¬ cmpA o A i := fun hc => by have := hc j h1 h2; rw [hA] at this; cases this
  have hcm : ∀ i', i' < M → (cmpA o (addA A j) i' ↔ cmpA o A i') := fun i' hi' => by
    by_cases e : i' = i
    · rw [e]; exact ⟨fun h => absurd h hn, fun h => absurd h hnc⟩
    · exact cmp_other F hi h1 h2 hi' e
  refine ⟨rfl, ⟨h.nl, h.sd.put _ _, h.sw, fun i' j' a1 a2 a3 a4 a5 => ?_, fun q y hq => ?_, fun i' a1 a2 a3 => (hcm i' a1).2 (h.n1 i' a1 a2 a3), fun i' a1 a2 a3 a4 => h.n2 i' a1 a2 a3 ((hcm i' a1).1 a4), h.n3, fun i' a1 a2 a3 a4 => h.w1 i' a1 a2 ((hcm i' a1).1 a3) a4, fun q ps hq => ?_, h.t1, fun i' hi' => ?_, fun i' a1 a2 a3 => h.t3 i' a1 ((hcm i' a1).1 a2) a3, h.t4⟩⟩
  · dsimp only
    rw [look_put _ _ _ _ h.sd]
    by_cases e : j' = j
    · rw [e, if_pos rfl]; exact ⟨x, rfl, hx⟩
    · rw [if_neg (fun e2 => e (F.tsn (F.lt a1 a3) hjN e2))]
      unfold addA at a4
      rw [if_neg e] at a4
      exact h.d1 i' j' a1 a2 a3 a4 (fun hh => a5 ((hcm i' a1).2 hh))
  · dsimp only at hq
    rw [look_put _ _ _ _ h.sd] at hq
    by_cases e : q = tsnF first j
    · exact ⟨i, j, hi, h1, h2, e, by unfold addA; rw [if_pos rfl], hn⟩
    · rw [if_neg e] at hq
      obtain ⟨i', j', a1, a2, a3, a4, a5, a6⟩ := h.d2 q y hq
      exact ⟨i', j', a1, a2, a3, a4, by unfold addA; split; rfl; exact a5, fun hh => a6 ((hcm i' a1).1 hh)⟩
  · obtain ⟨i', a1, a2, a3, a4, a5⟩ := h.w2 q ps hq
    exact ⟨i', a1, a2, (hcm i' a1).2 a3, a4, a5⟩
  · obtain ⟨a1, a2, a3⟩ := h.t2 i' hi'
    exact ⟨a1, (hcm i' a1).2 a2, a3⟩
/-- What a piece that makes its message whole takes out. -/
structure WhS (first M N : Nat) (mg : Nat → Mg) (o : Nat → Nat) (pd : Nat → Pd) (A : Nat → Bool) (s : SmS) (i j : Nat) (x : Pc) (D2 : List (Nat × Pc)) (ps : List Pc) (L : List Nat) : Prop where
  run : runF (putD s.D (tsnF first j) x) (tsnF first j) = L
  ne : L ≠ []
  eD : D2 = liftD (putD s.D (tsnF first j) x) L
  eP : ps = L.map (pcAt (putD s.D (tsnF first j) x))
  join : joinM ps = mg i
  free : (ps.headD zeroPc).free = (mg i).fr
  st : (ps.headD zeroPc).st = (mg i).st
  ss : (ps.headD zeroPc).ss = (mg i).ss
  sd : Srt D2
  cm : ∀ i', i' < M → (cmpA o (addA A j) i' ↔ i' = i ∨ cmpA o A i')
  d1 : ∀ i' j', i' < M → o i' ≤ j' → j' < o (i' + 1) → addA A j j' = true → ¬ cmpA o (addA A j) i' → ∃ y, lookD D2 (tsnF first j') = some y ∧ y.pd = pd j'
  d2 : ∀ q y, lookD D2 q = some y → ∃ i' j', i' < M ∧ o i' ≤ j' ∧ j' < o (i' + 1) ∧ q = tsnF first j' ∧ addA A j j' = true ∧ ¬ cmpA o (addA A j) i'
theorem Iv.whole (F : Fm M N mg o pd) (h : Iv first M N mg o pd A s I) {i j : Nat} (hi : i < M) (h1 : o i ≤ j) (h2 : j < o (i + 1)) (hA : A j = false) (x : Pc) (hx : x.pd = pd j) (hn : cmpA o (addA A j) i) : ∃ D2 ps L, WhS first M N mg o pd A s i j x D2 ps L := by
  have hos := F.os i hi
  have hN := F.n128
  have hjN := F.lt hi h2
  have hoN : o (i + 1) ≤ N := by
    have := F.le (i := i + 1) (i' := M) (by omega) (Nat.le_refl _)
    rwa [F.oM] at this
  have hc := h.chain F hi h1 h2 hA x hx
  have hall : ∀ k, k ≤ o (i + 1) - o i - 1 → addA A j (o i + k) = true := fun k hk => hn (o i + k) (by omega) (by omega)
  have hrun := hc.whole (h.sd.put _ _) (by omega) (F.pieces hi) (i := j - o i) (by omega) hall
  rw [show o i + (j - o i) = j by omega, show o (i + 1) - o i - 1 + 1 = o (i + 1) - o i by omega] at hrun
  have hnc : ¬ cmpA o A i := fun hc => by have := hc j h1 h2; rw [hA] at this; cases this
  have hcm : ∀ i', i' < M → (cmpA o (addA A j) i' ↔ i' = i ∨ cmpA o A i') := fun i' hi' => by
    by_cases e : i' = i
    · rw [e]; exact ⟨fun _ => .inl rfl, fun _ => hn⟩
    · rw [cmp_other F hi h1 h2 hi' e]; exact ⟨fun h => .inr h, fun h => h.elim (fun h => absurd h e) id⟩
  have hmem : ∀ q, q ∈ (List.range (o (i + 1) - o i)).map (fun k => tsnF first (o i + k)) ↔ ∃ j', o i ≤ j' ∧ j' < o (i + 1) ∧ q = tsnF first j' := fun q => by
    rw [List.mem_map]
    constructor
    · rintro ⟨k, hk, rfl⟩; have := List.mem_range.1 hk; exact ⟨o i + k, by omega, by omega, rfl⟩
    · rintro ⟨j', k1, k2, rfl⟩; exact ⟨j' - o i, List.mem_range.2 (by omega), by rw [show o i + (j' - o i) = j' by omega]⟩
  have hsD := h.sd.put (tsnF first j) x
  have hpd : ∀ k, k < o (i + 1) - o i → (pcAt (putD s.D (tsnF first j) x) (tsnF first (o i + k))).pd = pd (o i + k) := fun k hk => hc.at_ (k := k) (by omega) (hall k (by omega))
  have hhd : ∃ y, ((List.range (o (i + 1) - o i)).map fun k => tsnF first (o i + k)).map (pcAt (putD s.D (tsnF first j) x)) = y :: ((List.range (o (i + 1) - o i - 1)).map fun k => tsnF first (o i + (k + 1))).map (pcAt (putD s.D (tsnF first j) x)) ∧ y.pd = pd (o i) := by
    refine ⟨pcAt (putD s.D (tsnF first j) x) (tsnF first (o i)), ?_, by have := hpd 0 (by omega); rwa [Nat.add_zero] at this⟩
    obtain ⟨c, hc⟩ : ∃ c, o (i + 1) - o i = c + 1 := ⟨o (i + 1) - o i - 1, by omega⟩
    rw [hc, List.range_succ_eq_map, Nat.add_sub_cancel]
    simp [List.map_map, Function.comp_def]
  obtain ⟨y, hy1, hy2⟩ := hhd
  obtain ⟨p1, p2, p3, p4, _, _⟩ := F.ps i (o i) hi (Nat.le_refl _) hos
  have yst : y.st = (mg i).st := by rw [show y.st = y.pd.st from rfl, hy2]; exact p1
  have yss : y.ss = (mg i).ss := by rw [show y.ss = y.pd.ss from rfl, hy2]; exact p2
  have yfr : y.free = (mg i).fr := by rw [free_pd, hy2]; exact p3
  have ypp : y.pp = (mg i).pp := by rw [show y.pp = y.pd.pp from rfl, hy2]; exact p4
  refine ⟨_, _, _, hrun, ?_, rfl, rfl, ?_, ?_, ?_, ?_, lift_srt _ _ hsD, hcm, fun i' j' a1 a2 a3 a4 a5 => ?_, fun q z hq => ?_⟩
  · intro e
    have := congrArg List.length e
    simp at this
    omega
  · have hz : (((List.range (o (i + 1) - o i)).map fun k => tsnF first (o i + k)).map (pcAt (putD s.D (tsnF first j) x))).flatMap (·.zs) = (mg i).zs := by
      rw [← F.zs i hi, List.map_map, List.flatMap_map]
      refine flatMap_eq _ (fun k hk => ?_)
      have := hpd k (List.mem_range.1 hk)
      show (pcAt _ (tsnF first (o i + k))).zs = _
      rw [show (pcAt (putD s.D (tsnF first j) x) (tsnF first (o i + k))).zs = (pcAt (putD s.D (tsnF first j) x) (tsnF first (o i + k))).pd.zs from rfl, this]
    unfold joinM
    rw [hz, hy1]
    show Mg.mk y.st (if y.free then 0 else y.ss) y.pp y.free (mg i).zs = mg i
    rw [yst, yss, yfr, ypp]
    have hfr0 := F.fr0 i hi
    generalize mg i = m at hfr0 ⊢
    obtain ⟨m1, m2, m3, m4, m5⟩ := m
    dsimp only at hfr0 ⊢
    cases m4 with
    | true => rw [hfr0 rfl]; rfl
    | false => rfl
  · rw [hy1]; exact yfr
  · rw [hy1]; exact yst
  · rw [hy1]; exact yss
  · have hne : i' ≠ i := fun e => a5 (by rw [e]; exact hn)
    have hj' : j' ≠ j := fun e => hne (F.one a1 hi a2 a3 (by rw [e]; exact h1) (by rw [e]; exact h2))
    rw [look_lift _ _ _ hsD, if_neg, look_put _ _ _ _ h.sd, if_neg (fun e => hj' (F.tsn (F.lt a1 a3) hjN e))]
    · unfold addA at a4
      rw [if_neg hj'] at a4
      exact h.d1 i' j' a1 a2 a3 a4 (fun hh => a5 ((hcm i' a1).2 (.inr hh)))
    · intro hm
      obtain ⟨j2, b1, b2, b3⟩ := (hmem _).1 hm
      have := F.tsn (F.lt a1 a3) (F.lt hi b2) b3
      subst this
      exact hne (F.one a1 hi a2 a3 b1 b2)
  · rw [look_lift _ _ _ hsD] at hq
    split at hq
    · cases hq
    · rename_i hm
      rw [look_put _ _ _ _ h.sd] at hq
      split at hq
      · rename_i e
        exact absurd ((hmem q).2 ⟨j, h1, h2, e⟩) hm
      · obtain ⟨i', j', a1, a2, a3, a4, a5, a6⟩ := h.d2 q z hq
        have hne : i' ≠ i := fun e => hm ((hmem q).2 ⟨j', by rw [← e]; exact a2, by rw [← e]; exact a3, a4⟩)
        exact ⟨i', j', a1, a2, a3, a4, by unfold addA; split; rfl; exact a5, fun hh => ((hcm i' a1).1 hh).elim hne a6⟩
end
end Go.Proofs.Ytjaheelgcjafcaa
namespace Go.Proofs.Ytjaheelgcjafcaa
open Go.RowKit
section
variable {first M N : Nat} {mg : Nat → Mg} {o : Nat → Nat} {pd : Nat → Pd} {A : Nat → Bool} {s : SmS} {I : List Nat}
theorem Iv.free (h : Iv first M N mg o pd A s I) {i j : Nat} (hi : i < M) (hA : A j = false) (h1 : o i ≤ j) (h2 : j < o (i + 1)) (x : Pc) {D2 : List (Nat × Pc)} {ps : List Pc} {L : List Nat} (H : WhS first M N mg o pd A s i j x D2 ps L) (hfr : (mg i).fr = true) :
    (s.add (tsnF first j) x).2 = [mg i] ∧ Iv first M N mg o pd (addA A j) (s.add (tsnF first j) x).1 (I ++ [i]) := by
  have hnc : ¬ cmpA o A i := fun hc => by have := hc j h1 h2; rw [hA] at this; cases this
  rw [add_free s x H.run H.ne (by rw [← H.eP, H.free]; exact hfr), ← H.eP, ← H.eD, H.join]
  have hcmF : ∀ i', i' < M → (mg i').fr = false → (cmpA o (addA A j) i' ↔ cmpA o A i') := fun i' a1 a2 => by
    rw [H.cm i' a1]
    exact ⟨fun e => e.elim (fun e => by rw [e, hfr] at a2; cases a2) id, .inr⟩
  refine ⟨rfl, ⟨h.nl, H.sd, h.sw, H.d1, H.d2, fun i' a1 a2 a3 => (hcmF i' a1 a2).2 (h.n1 i' a1 a2 a3), fun i' a1 a2 a3 a4 => h.n2 i' a1 a2 a3 ((hcmF i' a1 a2).1 a4), h.n3, fun i' a1 a2 a3 a4 => h.w1 i' a1 a2 ((hcmF i' a1 a2).1 a3) a4, fun q ps hq => ?_, ?_, fun i' hi' => ?_, fun i' a1 a2 a3 => ?_, fun st hst => ?_⟩⟩
  · obtain ⟨i', a1, a2, a3, a4, a5⟩ := h.w2 q ps hq
    exact ⟨i', a1, a2, (hcmF i' a1 a2).2 a3, a4, a5⟩
  · rw [List.nodup_append]
    refine ⟨h.t1, by simp, fun a ha b hb e => ?_⟩
    simp at hb
    subst hb
    subst e
    exact hnc (h.t2 a ha).2.1
  · rcases List.mem_append.1 hi' with hm | hm
    · obtain ⟨a1, a2, a3⟩ := h.t2 i' hm
      exact ⟨a1, (H.cm i' a1).2 (.inr a2), a3⟩
    · simp at hm
      subst hm
      exact ⟨hi, (H.cm i' hi).2 (.inl rfl), fun e => by rw [hfr] at e; cases e⟩
  · rcases (H.cm i' a1).1 a2 with e | e
    · rw [e]; simp
    · exact List.mem_append_left _ (h.t3 i' a1 e a3)
  · rw [List.filter_append, List.map_append, h.t4 st hst]
    simp [hfr]
theorem set_getD2 {L : List Nat} {i k : Nat} (h : i < L.length) (x : Nat) : (L.set i x).getD k 0 = if k = i then x else L.getD k 0 := by
  rw [List.getD_eq_getElem?_getD, List.getElem?_set, List.getD_eq_getElem?_getD]
  by_cases e : i = k
  · subst e
    rw [if_pos rfl, if_pos rfl, if_pos h]
    rfl
  · rw [if_neg e, if_neg (fun e2 => e e2.symm)]
theorem tkey_eq {a b c d : Nat} (h1 : b < 65536) (h2 : d < 65536) (e : tkey a b = tkey c d) : a = c ∧ b = d := by unfold tkey at e; omega
theorem Iv.turn (F : Fm M N mg o pd) (h : Iv first M N mg o pd A s I) {i j : Nat} (hi : i < M) (hA : A j = false) (h1 : o i ≤ j) (h2 : j < o (i + 1)) (x : Pc) {D2 : List (Nat × Pc)} {ps : List Pc} {L : List Nat} (H : WhS first M N mg o pd A s i j x D2 ps L) (hfr : (mg i).fr = false) :
    ∃ J, (s.add (tsnF first j) x).2 = J.map mg ∧ Iv first M N mg o pd (addA A j) (s.add (tsnF first j) x).1 (I ++ J) := by
  have hnc : ¬ cmpA o A i := fun hc => by have := hc j h1 h2; rw [hA] at this; cases this
  obtain ⟨st, hst⟩ : ∃ st, st = (mg i).st := ⟨_, rfl⟩
  have hst8 : st < 8 := by rw [hst]; exact F.st8 i hi
  obtain ⟨n, hn⟩ : ∃ n, n = s.nx.getD st 0 := ⟨_, rfl⟩
  have hsb := F.sb i hi
  have hle : n ≤ (mg i).ss := by
    rcases Nat.lt_or_ge (mg i).ss n with e | e
    · exact absurd (h.n1 i hi hfr (by rw [← hst, ← hn]; exact e)) hnc
    · exact e
  have hn128 : n ≤ 128 := by rw [hn]; exact h.n3 st hst8
  have hstl : st < s.nx.length := by rw [h.nl]; exact hst8
  have hsW := h.sw.put (tkey st (mg i).ss) ps
  -- what waits now
  have hw1 : ∀ i', i' < M → (mg i').fr = false → cmpA o (addA A j) i' → s.nx.getD (mg i').st 0 ≤ (mg i').ss → ∃ p', lookD (putD s.W (tkey st (mg i).ss) ps) (tkey (mg i').st (mg i').ss) = some p' ∧ joinM p' = mg i' := fun i' a1 a2 a3 a4 => by
    rw [look_put _ _ _ _ h.sw]
    by_cases e : i' = i
    · rw [e, ← hst, if_pos rfl]; exact ⟨ps, rfl, H.join⟩
    · rw [if_neg]
      · exact h.w1 i' a1 a2 (((H.cm i' a1).1 a3).elim (fun e2 => absurd e2 e) id) a4
      · intro e2
        have hb := F.sb i' a1
        obtain ⟨e3, e4⟩ := tkey_eq (by omega) (by omega) e2
        exact e (F.uni i' i a1 hi a2 hfr (by rw [e3]; exact hst) e4)
  have hw2 : ∀ q p', lookD (putD s.W (tkey st (mg i).ss) ps) q = some p' → ∃ i', i' < M ∧ (mg i').fr = false ∧ cmpA o (addA A j) i' ∧ s.nx.getD (mg i').st 0 ≤ (mg i').ss ∧ q = tkey (mg i').st (mg i').ss := fun q p' hq => by
    rw [look_put _ _ _ _ h.sw] at hq
    split at hq
    · rename_i e
      exact ⟨i, hi, hfr, (H.cm i hi).2 (.inl rfl), by rw [← hst, ← hn]; exact hle, by rw [e, hst]⟩
    · obtain ⟨i', a1, a2, a3, a4, a5⟩ := h.w2 q p' hq
      exact ⟨i', a1, a2, (H.cm i' a1).2 (.inr a3), a4, a5⟩
  obtain ⟨kk, _, hk1, hk2⟩ := leastP (fun r => ∃ i', i' < M ∧ (mg i').fr = false ∧ (mg i').st = st ∧ (mg i').ss = n + r ∧ cmpA o (addA A j) i') 128 (by
    rintro ⟨i', a1, _, _, a4, _⟩
    have := F.sb i' a1
    omega)
  have hkk : n + kk ≤ 128 := by
    rcases Nat.eq_zero_or_pos kk with e | e
    · omega
    · obtain ⟨i', a1, _, _, a4, _⟩ := hk1 (kk - 1) (by omega)
      have := F.sb i' a1
      omega
  obtain ⟨f, hf⟩ := chooseN hk1
  have hlk : ∀ r, r < kk → ∃ p', lookD (putD s.W (tkey st (mg i).ss) ps) (tkey st (n + r)) = some p' ∧ joinM p' = mg (f r) := fun r hr => by
    obtain ⟨a1, a2, a3, a4, a5⟩ := hf r hr
    have := hw1 (f r) a1 a2 a5 (by rw [a3, ← hn]; omega)
    rwa [a3, a4] at this
  obtain ⟨g, hg⟩ := chooseN hlk
  have hnone : lookD (putD s.W (tkey st (mg i).ss) ps) (tkey st (n + kk)) = none := by
    cases e : lookD (putD s.W (tkey st (mg i).ss) ps) (tkey st (n + kk)) with
    | none => rfl
    | some p' =>
      obtain ⟨i', a1, a2, a3, a4, a5⟩ := hw2 _ _ e
      have hb := F.sb i' a1
      obtain ⟨e3, e4⟩ := tkey_eq (by omega) (by omega) a5
      exact absurd ⟨i', a1, a2, e3.symm, e4.symm, a3⟩ hk2
  have hchain := chain_len kk (tkey st n) (putD s.W (tkey st (mg i).ss) ps) hsW (by omega) (fun r hr => by
    have e : (tkey st n + r) % 4294967296 = tkey st (n + r) := by unfold tkey; omega
    rw [e, (hg r hr).1]
    rfl)
  have hrel := rel_run (st := st) kk ((putD s.W (tkey st (mg i).ss) ps).length + 1) n ⟨s.nx, D2, putD s.W (tkey st (mg i).ss) ps⟩ [] g (by omega) hstl hn (by omega) hsW (fun r hr => (hg r hr).1) hnone
  have hadd : s.add (tsnF first j) x = (⟨s.nx.set st (n + kk), D2, (List.range kk).foldl (fun W i => delD W (tkey st (n + i))) (putD s.W (tkey st (mg i).ss) ps)⟩, ((List.range kk).map f).map mg) := by
    unfold SmS.add
    dsimp only
    rw [H.run, if_neg (fun e => H.ne (List.length_eq_zero_iff.1 e)), ← H.eP, ← H.eD]
    unfold SmS.tell
    rw [H.free, H.ss, H.st, hfr, if_neg (by decide), ← hst]
    dsimp only
    rw [← hn, if_neg (not_less (by omega) hle)]
    show relF st _ _ _ = _
    rw [hrel, List.nil_append, List.map_map]
    congr 1
    exact List.map_congr_left (fun r hr => (hg r (List.mem_range.1 hr)).2)
  have hld := fun q => (look_dels (fun r => tkey st (n + r)) kk (putD s.W (tkey st (mg i).ss) ps) q hsW).2
  have hnx : ∀ k, (s.nx.set st (n + kk)).getD k 0 = if k = st then n + kk else s.nx.getD k 0 := fun k => set_getD2 hstl _
  have hold : ∀ i', i' < M → cmpA o A i' → cmpA o (addA A j) i' := fun i' a1 a2 => (H.cm i' a1).2 (.inr a2)
  have hcmS : ∀ i', i' < M → (mg i').st ≠ st → (cmpA o (addA A j) i' ↔ cmpA o A i') := fun i' a1 a2 => by
    rw [H.cm i' a1]
    exact ⟨fun e => e.elim (fun e => absurd (by rw [e, hst]) a2) id, .inr⟩
  refine ⟨(List.range kk).map f, by rw [hadd], ?_⟩
  rw [hadd]
  refine ⟨by rw [List.length_set]; exact h.nl, H.sd, (look_dels (fun r => tkey st (n + r)) kk (putD s.W (tkey st (mg i).ss) ps) 0 hsW).1, H.d1, H.d2, fun i' a1 a2 a3 => ?_, fun i' a1 a2 a3 => ?_, fun k hk => ?_, fun i' a1 a2 a3 a4 => ?_, fun q p' hq => ?_, ?_, fun i' hi' => ?_, fun i' a1 a2 a3 => ?_, fun k hk => ?_⟩
  · dsimp only at a3
    rw [hnx] at a3
    split at a3
    · rename_i e
      rcases Nat.lt_or_ge (mg i').ss n with e2 | e2
      · exact hold i' a1 (h.n1 i' a1 a2 (by rw [e, ← hn]; exact e2))
      · obtain ⟨b1, b2, b3, b4, b5⟩ := hf ((mg i').ss - n) (by omega)
        have := F.uni _ i' b1 a1 b2 a2 (by rw [b3, e]) (by rw [b4]; omega)
        rw [← this]
        exact b5
    · exact hold i' a1 (h.n1 i' a1 a2 a3)
  · dsimp only at a3
    rw [hnx] at a3
    split at a3
    · rename_i e
      exact fun hc => hk2 ⟨i', a1, a2, e, a3, hc⟩
    · rename_i e
      exact fun hc => h.n2 i' a1 a2 a3 ((hcmS i' a1 e).1 hc)
  · dsimp only
    rw [hnx]
    split
    · exact hkk
    · exact h.n3 k hk
  · dsimp only at a4 ⊢
    rw [hnx] at a4
    have hb := F.sb i' a1
    rw [hld, if_neg]
    · exact hw1 i' a1 a2 a3 (by
        split at a4
        · rename_i e; rw [e, ← hn]; omega
        · exact a4)
    · rintro ⟨r, hr, e⟩
      obtain ⟨e3, e4⟩ := tkey_eq (by omega) (by omega) e
      rw [if_pos e3] at a4
      omega
  · dsimp only at hq ⊢
    rw [hld] at hq
    split at hq
    · cases hq
    · rename_i hnot
      obtain ⟨i', a1, a2, a3, a4, a5⟩ := hw2 q p' hq
      refine ⟨i', a1, a2, a3, ?_, a5⟩
      rw [hnx]
      split
      · rename_i e
        rw [e, ← hn] at a4
        rcases Nat.lt_or_ge (mg i').ss (n + kk) with e2 | e2
        · exact absurd ⟨(mg i').ss - n, by omega, by rw [a5, e, show n + ((mg i').ss - n) = (mg i').ss by omega]⟩ hnot
        · exact e2
      · exact a4
  · rw [List.nodup_append]
    refine ⟨h.t1, ?_, fun a ha b hb e => ?_⟩
    · refine List.pairwise_map.2 (List.Pairwise.imp_of_mem ?_ List.nodup_range)
      intro r r' hr hr' hne e
      obtain ⟨_, _, _, b4, _⟩ := hf r (List.mem_range.1 hr)
      obtain ⟨_, _, _, c4, _⟩ := hf r' (List.mem_range.1 hr')
      rw [e, c4] at b4
      omega
    · obtain ⟨r, hr, rfl⟩ := List.mem_map.1 hb
      obtain ⟨b1, b2, b3, b4, b5⟩ := hf r (List.mem_range.1 hr)
      subst e
      have := (h.t2 _ ha).2.2 b2
      rw [b3, ← hn, b4] at this
      omega
  · dsimp only
    rcases List.mem_append.1 hi' with hm | hm
    · obtain ⟨a1, a2, a3⟩ := h.t2 i' hm
      refine ⟨a1, hold i' a1 a2, fun e => ?_⟩
      have := a3 e
      rw [hnx]
      split
      · rename_i e2; rw [e2, ← hn] at this; omega
      · exact this
    · obtain ⟨r, hr, rfl⟩ := List.mem_map.1 hm
      have hr2 := List.mem_range.1 hr
      obtain ⟨b1, b2, b3, b4, b5⟩ := hf r hr2
      exact ⟨b1, b5, fun _ => by rw [hnx, if_pos b3, b4]; omega⟩
  · dsimp only at a3
    rw [hnx] at a3
    cases e0 : (mg i').fr with
    | true =>
      have hne : i' ≠ i := fun e => by rw [e, hfr] at e0; cases e0
      exact List.mem_append_left _ (h.t3 i' a1 (((H.cm i' a1).1 a2).elim (fun e => absurd e hne) id) (.inl e0))
    | false =>
      have a3' := a3.elim (fun e => by rw [e0] at e; cases e) id
      by_cases e : (mg i').st = st
      · rw [if_pos e] at a3'
        rcases Nat.lt_or_ge (mg i').ss n with e2 | e2
        · exact List.mem_append_left _ (h.t3 i' a1 (h.n1 i' a1 e0 (by rw [e, ← hn]; exact e2)) (.inr (by rw [e, ← hn]; exact e2)))
        · obtain ⟨b1, b2, b3, b4, b5⟩ := hf ((mg i').ss - n) (by omega)
          have := F.uni _ i' b1 a1 b2 e0 (by rw [b3, e]) (by rw [b4]; omega)
          exact List.mem_append_right _ (List.mem_map.2 ⟨(mg i').ss - n, List.mem_range.2 (by omega), this⟩)
      · rw [if_neg e] at a3'
        exact List.mem_append_left _ (h.t3 i' a1 ((hcmS i' a1 e).1 a2) (.inr a3'))
  · dsimp only
    rw [hnx, List.filter_append, List.map_append, h.t4 k hk]
    by_cases e : k = st
    · rw [if_pos e, e, ← hn]
      have hfil : ((List.range kk).map f).filter (fun i => !(mg i).fr && ((mg i).st == st)) = (List.range kk).map f := List.filter_eq_self.2 (fun a ha => by
        obtain ⟨r, hr, rfl⟩ := List.mem_map.1 ha
        obtain ⟨_, b2, b3, _, _⟩ := hf r (List.mem_range.1 hr)
        rw [b2, b3]
        simp)
      rw [hfil, List.map_map, List.range_add]
      congr 1
      exact List.map_congr_left (fun r hr => (hf r (List.mem_range.1 hr)).2.2.2.1)
    · rw [if_neg e]
      have hfil : ((List.range kk).map f).filter (fun i => !(mg i).fr && ((mg i).st == k)) = [] := List.filter_eq_nil_iff.2 (fun a ha => by
        obtain ⟨r, hr, rfl⟩ := List.mem_map.1 ha
        obtain ⟨_, b2, b3, _, _⟩ := hf r (List.mem_range.1 hr)
        rw [b2, b3]
        simp
        omega)
      rw [hfil, List.map_nil, List.append_nil]
/-- One piece more. -/
theorem Iv.step (F : Fm M N mg o pd) (h : Iv first M N mg o pd A s I) {j : Nat} (hj : j < N) (hA : A j = false) (x : Pc) (hx : x.pd = pd j) :
    ∃ J, (s.add (tsnF first j) x).2 = J.map mg ∧ Iv first M N mg o pd (addA A j) (s.add (tsnF first j) x).1 (I ++ J) := by
  obtain ⟨i, hi, h1, h2⟩ := F.find hj
  by_cases hn : cmpA o (addA A j) i
  · obtain ⟨D2, ps, L, H⟩ := h.whole F hi h1 h2 hA x hx hn
    cases hfr : (mg i).fr with
    | true => exact ⟨[i], h.free hi hA h1 h2 x H hfr⟩
    | false => exact h.turn F hi hA h1 h2 x H hfr
  · have := h.part F hi h1 h2 hA x hx hn
    exact ⟨[], this.1, by rw [List.append_nil]; exact this.2⟩
end
end Go.Proofs.Ytjaheelgcjafcaa
namespace Go.Proofs.Ytjaheelgcjafcaa
open Go.RowKit
def strOf (zs : List Nat) : ByteArray := ⟨(zs.map UInt8.ofNat).toArray⟩
theorem conv_str {w : World} {a : Option Addr} {n c : Nat} {zs : List Nat} (hs : Sl w a n c zs) : (convert 31 9 (.slice a n c)).run Try.prog w = .ok (.string (strOf zs)) w := by
  obtain ⟨hl, hcap, hroom, hsm, hnz, hb, hat⟩ := hs
  cases a with
  | none =>
    obtain rfl := hnz rfl
    obtain rfl : n = 0 := by omega
    obtain rfl : zs = [] := List.eq_nil_of_length_eq_zero hl
    rw [run_convert_bytes_string w 31 9 5 none 0 0 Try.underlying31 Try.underlying5 Try.underlying9]
    rfl
  | some p =>
    have hlen : (zs.map UInt8.ofNat).length = n := by simp [hl]
    have := run_convert_bytes_back (P := Try.prog) w 31 9 5 p c (zs.map UInt8.ofNat) Try.underlying31 Try.underlying5 Try.underlying9 (fun j hj => by
      rw [hlen] at hj
      rcases hat with h0 | ⟨b, off, hp, _, hcell⟩
      · omega
      · injection hp with hp
        subst hp
        have ea : (⟨b, off, none⟩ : Addr).add j = ⟨b, off + j, none⟩ := by
          unfold Addr.add
          split
          · subst_vars; rfl
          · rfl
        have hbj := hb j
        have e2 : zs[j]'(by omega) = zs.getD j 0 := by simp [List.getD_eq_getElem?_getD, show j < zs.length from by omega]
        rw [ea, hcell j hj, List.getElem_map, e2]
        generalize zs.getD j 0 = q at hbj
        have e3 : (UInt8.ofNat q).toNat = q := by rw [UInt8.toNat_ofNat']; omega
        rw [e3])
    rw [hlen] at this
    exact this
theorem strOf_inj {zs ys : List Nat} (hz : ∀ i, zs.getD i 0 < 256) (hy : ∀ i, ys.getD i 0 < 256) (h : strOf zs = strOf ys) : zs = ys := by
  have h1 : zs.map UInt8.ofNat = ys.map UInt8.ofNat := by
    unfold strOf at h
    injection h with h
    simpa using congrArg Array.toList h
  have hl : zs.length = ys.length := by simpa using congrArg List.length h1
  apply List.ext_getElem hl
  intro i h2 h3
  have h4 : (zs.map UInt8.ofNat)[i]'(by simpa using h2) = (ys.map UInt8.ofNat)[i]'(by simpa using h3) := by simp only [h1]
  rw [List.getElem_map, List.getElem_map] at h4
  have a1 := hz i
  have a2 := hy i
  simp [List.getD_eq_getElem?_getD, h2] at a1
  simp [List.getD_eq_getElem?_getD, h3] at a2
  have h5 := congrArg UInt8.toNat h4
  simpa [UInt8.toNat_ofNat', Nat.mod_eq_of_lt a1, Nat.mod_eq_of_lt a2] using h5
end Go.Proofs.Ytjaheelgcjafcaa
namespace Go.Proofs.Ytjaheelgcjafcaa
open Go.RowKit Go.MapKept Go.Maps
def dataC (f t st ss pp : Nat) (a : Option Addr) (n c : Nat) (zs : List Nat) : Ck := ⟨0, f, t, st, ss, pp, 0, 0, 0, 0, none, 0, 0, none, 0, 0, none, 0, 0, a, n, c, [], zs⟩
theorem dataC_W {w : World} {f t st ss pp : Nat} {a : Option Addr} {n c : Nat} {zs : List Nat} (hf : f < 256) (ht : t < 4294967296) (hst : st < 65536) (hss : ss < 65536) (hpp : pp < 4294967296) (hs : Sl w a n c zs) : CkW w (dataC f t st ss pp a n c zs) :=
  ⟨⟨by show 0 < 256; decide, hf, ht, hst, hss, hpp, Nat.zero_le _, Nat.zero_le _⟩, ⟨rfl, Nat.zero_le _, fun l hl => (by cases hl), .inl rfl⟩, hs⟩
theorem dataC_ok {f t st ss pp : Nat} {a : Option Addr} {n c : Nat} {zs : List Nat} (h0 : 0 < n) (h1 : n ≤ 1000) : chkOf (dataC f t st ss pp a n c zs) = 0 := by
  have hp : padN (12 + n) ≤ 3 := by unfold padN; omega
  unfold chkOf dataC chkN
  dsimp only
  rw [if_pos rfl]
  have e1 : decide (n = 0) = false := decide_eq_false (by omega)
  have e2 : decide (1468 < 4 + (12 + n) + padN (12 + n)) = false := decide_eq_false (by omega)
  rw [e1, e2]
  rfl
/-- One message told: where it lies. -/
theorem MsgsW.get1 {w : World} {B : Nat} {a : Option Addr} {n c : Nat} {m : Mg} (h : MsgsW w B a n c [m]) (hz : m.zs.length ≤ 281474976710656) : ∃ g ma mc, a = some ⟨g, 0, none⟩ ∧ n = 1 ∧ 1 ≤ c ∧ w.cell? ⟨g, 0, none⟩ = some (.int .u16 (m.st : Nat)) ∧ w.cell? ⟨g, 2, none⟩ = some (.int .u32 (m.pp : Nat)) ∧ w.cell? ⟨g, 4, none⟩ = some (.slice ma m.zs.length mc) ∧ Sl w ma m.zs.length mc m.zs := by
  have hn := h.len
  obtain ⟨xs, h1, h2, h3⟩ := h.ex
  match xs, h1 with
  | [x], h1 =>
    simp at h1
    subst h1
    obtain rfl : n = 1 := hn
    obtain ⟨g, rfl, _, _, hc, _, hcell, _⟩ := OwnG.at_ h2 (fun _ => rfl) (by omega)
    have hm := h3 x List.mem_cons_self
    refine ⟨g, x.2.1, x.2.2, rfl, rfl, hc, by simpa using hcell 0 x rfl 0 _ rfl, by simpa using hcell 0 x rfl 2 _ rfl, by simpa using hcell 0 x rfl 4 _ rfl, hm.sl hz⟩
set_option maxRecDepth 100000 in
set_option maxHeartbeats 4000000 in
theorem live13_any (w : World) :
    Calls Try.prog 10 #[] w fun e w' => e = .returned (.bool true) ∧ Below w.heap.size w w' := by
  have kc := fun (w : World) (C : Array Value) (n c : Nat) => Lib.run_convert_bytes_const (P := Try.prog) w 31 5 C n c Try.underlying31 Try.underlying5
  have hnew := snew_ok 2 w (by decide) (by decide)
  go_enter Try.func10, Try.ntmps10
  go_wp2_with fail
  refine Calls.mono hnew ?_
  rintro e w1 ⟨rfl, hw1⟩
  have hsm1 := SmW.new 2 (by decide) (by decide) hw1
  have hb1 : Below w.heap.size w w1 := by rw [hw1]; exact (((((Below.refl _ _).alloc (Nat.le_refl _) _).alloc (by simp) _).alloc (by simp; omega) _).alloc (by simp; omega) _)
  clear hw1 hnew
  obtain ⟨w2, hw2⟩ : ∃ w2, w2 = w1.alloc (.cells #[.int .u8 98] 5 (1, 2)) := ⟨_, rfl⟩
  have hb2 : Below w1.heap.size w1 w2 := by rw [hw2]; exact (Below.refl _ _).alloc (Nat.le_refl _) _
  have hs2 : Sl w2 (some ⟨w1.heap.size, 0, none⟩) 1 1 [98] := by rw [hw2]; exact sl_new w1 5 (1, 2) [98] rfl (by decide) _ rfl
  have HAD := (show Hid _ from fun v hv => sadd_ck (hsm1.below hb2) (dataC 1 2 1 0 0 (some ⟨w1.heap.size, 0, none⟩) 1 1 [98]) (dataC_W (by decide) (by decide) (by decide) (by decide) (by decide) hs2) v hv)
  have HB2 : Hid (Below w.heap.size w w2) := hb1.trans (hb2.mono hb1.size)
  clear hsm1 hb1 hb2 hs2
  go_wp2_with fail
  rw [← hw2]
  clear hw2
  refine (HAD.out _ (by rfl)).mono ?_
  clear HAD
  rintro e w3 hR
  rw [dataC_ok (by decide) (by decide)] at hR
  cases hR with
  | bad hz _ _ => exact absurd rfl hz
  | ok da dc a m c B wr' Y' hz he hms hsm hfr hB hY =>
    subst he
    have e1 : SmS.add ⟨List.replicate 2 0, [], []⟩ 2 ⟨1, 1, 0, 0, da, 1, dc, [98]⟩ = (⟨[0, 0], [(2, ⟨1, 1, 0, 0, da, 1, dc, [98]⟩)], []⟩, []) := by kernel_rfl
    have hms1 : MsgsW w3 B a m c (SmS.add ⟨List.replicate 2 0, [], []⟩ 2 ⟨1, 1, 0, 0, da, 1, dc, [98]⟩).2 := hms
    have hsm3 : SmW w3 (w.heap.size + 3) w.heap.size (w.heap.size + 1) (w.heap.size + 2) wr' Y' (SmS.add ⟨List.replicate 2 0, [], []⟩ 2 ⟨1, 1, 0, 0, da, 1, dc, [98]⟩).1 := hsm
    rw [e1] at hms1 hsm3
    obtain rfl : m = 0 := hms1.len
    have hb3 : Below w.heap.size w w3 := HB2.out.trans (hfr.below _ HB2.out.size (fun k hk => by rcases hk with e | e | e <;> omega))
    clear hms hms1 hsm hfr hz hB hY HB2
    obtain ⟨w4, hw4⟩ : ∃ w4, w4 = w3.alloc (.cells #[.int .u8 97] 5 (1, 2)) := ⟨_, rfl⟩
    have hb4 : Below w3.heap.size w3 w4 := by rw [hw4]; exact (Below.refl _ _).alloc (Nat.le_refl _) _
    have hs4 : Sl w4 (some ⟨w3.heap.size, 0, none⟩) 1 1 [97] := by rw [hw4]; exact sl_new w3 5 (1, 2) [97] rfl (by decide) _ rfl
    have HAD := (show Hid _ from fun v hv => sadd_ck (hsm3.below hb4) (dataC 2 1 1 0 7 (some ⟨w3.heap.size, 0, none⟩) 1 1 [97]) (dataC_W (by decide) (by decide) (by decide) (by decide) (by decide) hs4) v hv)
    have HB4 : Hid (Below w.heap.size w w4) := hb3.trans (hb4.mono hb3.size)
    clear hsm3 hb3 hb4 hs4
    go_wp2_with fail
    rw [← hw4]
    clear hw4 kc
    refine (HAD.out _ (by rfl)).mono ?_
    clear HAD
    rintro e w5 hR
    rw [dataC_ok (by decide) (by decide)] at hR
    cases hR with
    | bad hz _ _ => exact absurd rfl hz
    | ok da2 dc2 a2 m2 c2 B2 wr2 Y2 hz he hms hsm hfr hB hY =>
      subst he
      have e2 : SmS.add ⟨[0, 0], [(2, ⟨1, 1, 0, 0, da, 1, dc, [98]⟩)], []⟩ 1 ⟨2, 1, 0, 7, da2, 1, dc2, [97]⟩ = (⟨[0, 1], [], []⟩, [⟨1, 0, 7, false, [97, 98]⟩]) := by kernel_rfl
      have hms1 : MsgsW w5 B2 a2 m2 c2 (SmS.add ⟨[0, 0], [(2, ⟨1, 1, 0, 0, da, 1, dc, [98]⟩)], []⟩ 1 ⟨2, 1, 0, 7, da2, 1, dc2, [97]⟩).2 := hms
      have hsm5 : SmW w5 (w.heap.size + 3) w.heap.size (w.heap.size + 1) (w.heap.size + 2) wr2 Y2 (SmS.add ⟨[0, 0], [(2, ⟨1, 1, 0, 0, da, 1, dc, [98]⟩)], []⟩ 1 ⟨2, 1, 0, 7, da2, 1, dc2, [97]⟩).1 := hsm
      rw [e2] at hms1 hsm5
      have hb5 : Below w.heap.size w w5 := HB4.out.trans (hfr.below _ HB4.out.size (fun k hk => by rcases hk with e | e | e <;> omega))
      obtain ⟨g, ma, mc, rfl, rfl, hc1, q0, q2, q4, hsl⟩ := hms1.get1 (by decide)
      have hnx := snext_any hsm5 1
      rw [if_pos (by decide)] at hnx
      have HNX := (show Hid _ from hnx)
      have HQ : Hid (∀ V, Below w5.heap.size w5 V → V.cell? ⟨g, 2, none⟩ = some (.int .u32 7) ∧ V.cell? ⟨g, 4, none⟩ = some (.slice ma 2 mc) ∧ Sl V ma 2 mc [97, 98] ∧ Below w.heap.size w V) := fun V hV => by
        have hgl : g < w5.heap.size := by
          have := q0
          simp only [World.cell?] at this
          rcases Nat.lt_or_ge g w5.heap.size with h9 | h9
          · exact h9
          · simp [h9] at this
        exact ⟨(hV.cell (p := ⟨g, 2, none⟩) hgl).trans q2, (hV.cell (p := ⟨g, 4, none⟩) hgl).trans q4, hsl.below hV, hb5.trans (hV.mono hb5.size)⟩
      clear hms hms1 hsm hfr hz hB hY hsm5 hb5 q0 q2 q4 hsl hnx HB4
      go_wp2_with fail
      refine Calls.mono HNX.out ?_
      rintro e w6 ⟨rfl, hb6⟩
      obtain ⟨q2, q4, hsl, hbf⟩ := HQ.out w6 hb6
      have hcs := conv_str hsl
      have hs0 : (strOf [97, 98]) = { data := #[97, 98] } := by decide
      rw [hs0] at hcs
      have HBF := (show Hid _ from hbf)
      clear HQ HNX hb6 hsl hbf hs0
      dsimp only
      go_wp2
      go_ret
      exact ⟨rfl, HBF.out⟩
end Go.Proofs.Ytjaheelgcjafcaa
namespace Go.Proofs.Ytjaheelgcjafcaa
open Go.RowKit
theorem el8 : Try.prog.elem 31 = 5 := by simp [Program.elem, Try.underlying31]
theorem cells8 : Try.prog.cellsOf 5 = 1 := by kernel_rfl
theorem und8 : Try.prog.underlying 31 = some (.slice (Try.prog.elem 31)) := by rw [el8]; exact Try.underlying31
theorem size8 (w : World) : (sizeOf (Try.prog.elem 31)).run Try.prog w = .ok 1 w := by
  obtain ⟨i, hi, hz0, hz1, hz2⟩ := info_parts own_info
  rw [el8, run_sizeOf w hi, cells8]
theorem slice_to (a : Option Addr) (n c j : Nat) (h : j ≤ c) (w : World) : (Instr.slice 31 (.slice a n c) none (some (.int .i64 (j : Int))) none).run Try.prog w = .ok (.slice a j c) w := by
  rw [run_slice_h w 31 a n c und8 .i64 j (by omega) (by omega), size8]
  simp only [Result.andThen, sliced]
  have e : (if c = 0 then a else a.map (·.add (0 * 1))) = a := by
    split
    · rfl
    · cases a with
      | none => rfl
      | some p => simp [Addr.add]
  rw [e]
  simp
theorem slice_from (b off n c : Nat) (l : Int) (x : Nat) (hl : l = (x : Int)) (h : x ≤ n) (_hc : n ≤ c) : ∃ a', (∀ w, (Instr.slice 31 (.slice (some ⟨b, off, none⟩) n c) (some (.int .i64 l)) none none).run Try.prog w = .ok (.slice (some a') (n - x) (c - x)) w) ∧ (x < n → a' = ⟨b, off + x, none⟩) := by
  subst hl
  refine ⟨if c = x then ⟨b, off, none⟩ else ⟨b, off + x, none⟩, fun w => ?_, fun hx => by rw [if_neg (by omega)]⟩
  rw [run_slice_l w 31 _ n c und8 .i64 x (by omega) (by omega), size8]
  simp only [Result.andThen, sliced, Int.toNat_natCast]
  split <;> simp [Addr.add]
end Go.Proofs.Ytjaheelgcjafcaa
namespace Go.Proofs.Ytjaheelgcjafcaa
open Go.RowKit
def Ck.cells (c : Ck) : List Value := [.int .u8 (c.k : Nat), .int .u8 (c.f : Nat), .int .u32 (c.t : Nat), .int .u16 (c.st : Nat), .int .u16 (c.ss : Nat), .int .u32 (c.pp : Nat), .int .u32 (c.tg : Nat), .int .u32 (c.rm : Nat), .int .u16 (c.os : Nat), .int .u16 (c.is_ : Nat), .slice c.b1 c.b2 c.b3, .slice c.d1 c.d2 c.d3, .slice c.p1 c.p2 c.p3, .slice c.x1 c.x2 c.x3]
abbrev OwnC := OwnG 47 14 Ck.cells
theorem layC : Lays Try.prog 22 47 14 128 Ck.cells :=
  ⟨Try.underlying22, ⟨.agg #[.int .u8 0, .int .u8 0, .int .u32 0, .int .u16 0, .int .u16 0, .int .u32 0, .int .u32 0, .int .u32 0, .int .u16 0, .int .u16 0, .slice none 0 0, .slice none 0 0, .slice none 0 0, .slice none 0 0], by kernel_rfl, rfl⟩, by decide, fun _ => rfl, fun x u hu => by
    simp [Ck.cells] at hu
    rcases hu with rfl | rfl | rfl | rfl | rfl | rfl | rfl | rfl | rfl | rfl | rfl | rfl | rfl | rfl <;> rfl⟩
theorem zero_ch (w : World) : (zeroValue 47).run Try.prog w = .ok (.agg #[.int .u8 0, .int .u8 0, .int .u32 0, .int .u16 0, .int .u16 0, .int .u32 0, .int .u32 0, .int .u32 0, .int .u16 0, .int .u16 0, .slice none 0 0, .slice none 0 0, .slice none 0 0, .slice none 0 0]) w := by kernel_rfl
theorem run_bsl0 {ρ : Operand → Value} {o : Oper} (V : World) (ho : o.op = .buildSlice 31 0 #[]) : (execOp ρ o).run Try.prog V = .ok (.value (.slice (some ⟨V.heap.size, 0, none⟩) 0 0)) (V.alloc (.cells #[] 5)) := by
  obtain ⟨dst, op, ty, pos, after, guard⟩ := o
  dsimp only at ho
  subst ho
  go_simp
theorem run_appY {P : Program} {S : TypeId} {ρ : Operand → Value} {o : Oper} {w w' : World} {v u r : Value} {ty : TypeId} {s x : Operand} (ho : o.op = .call { callee := .builtin .append, args := #[s, x], argTypes := #[S, S] }) (hty : o.type = ty) (hs : ρ s = v) (hx : ρ x = u)
    (hrun : (Builtin.append_ #[S, S] ty #[v, u]).run P w = .ok r w') : (execOp ρ o).run P w = .ok (.value r) w' := by
  subst hty
  simp [execOp, ho, resolve, invoke, builtin, hs, hx, hrun, Result.andThen]
/-- The region in which a piece is made: an empty row (5), the bytes laid into it (11), a variable (13), the piece stored into it (14). -/
structure PzG (W0 : World) (ys : List Nat) (n : Nat) (R : Nat × Option Addr × Nat × Nat → List Value) (θ : Nat × Option Addr × Nat × Nat) (l : Nat → Bool) (V : World) : Prop where
  bel : Below W0.heap.size W0 V
  a5 : l 5 = true → l 11 = false → OwnB V W0.heap.size (some ⟨θ.1, 0, none⟩) 0 0 []
  a11 : l 11 = true → OwnB V W0.heap.size θ.2.1 n θ.2.2.1 ys
  a13 : l 13 = true → l 14 = false → Stc V θ.2.2.2 [.int .u8 0, .int .u8 0, .int .u32 0, .int .u16 0, .int .u16 0, .int .u32 0, .int .u32 0, .int .u32 0, .int .u16 0, .int .u16 0, .slice none 0 0, .slice none 0 0, .slice none 0 0, .slice none 0 0]
  a14 : l 14 = true → Stc V θ.2.2.2 (R θ)
  ap : l 13 = true → W0.heap.size ≤ θ.2.2.2 ∧ θ.2.2.2 < V.heap.size
  dj1 : l 13 = true → l 5 = true → l 11 = false → θ.1 ≠ θ.2.2.2
  dj2 : l 13 = true → l 11 = true → ∀ g, (Value.slice θ.2.1 n θ.2.2.1).ownBlock = some g → g ≠ θ.2.2.2
section
variable {W0 : World} {ys : List Nat} {n : Nat} {R : Nat × Option Addr × Nat × Nat → List Value} {θ : Nat × Option Addr × Nat × Nat} {l : Nat → Bool} {V : World}
theorem PzG.start (h : Below W0.heap.size W0 V) : PzG W0 ys n R θ (fun _ => false) V := ⟨h, fun e => (by cases e), fun e => (by cases e), fun e => (by cases e), fun e => (by cases e), fun e => (by cases e), fun e => (by cases e), fun e => (by cases e)⟩
theorem PzG.other (h : PzG W0 ys n R θ l V) (i : Nat) (h5 : 5 ≠ i) (h11 : 11 ≠ i) (h13 : 13 ≠ i) (h14 : 14 ≠ i) : PzG W0 ys n R θ (updL l i) V :=
  ⟨h.bel, by rw [updL_neC h5, updL_neC h11]; exact h.a5, by rw [updL_neC h11]; exact h.a11, by rw [updL_neC h13, updL_neC h14]; exact h.a13, by rw [updL_neC h14]; exact h.a14, by rw [updL_neC h13]; exact h.ap, by rw [updL_neC h13, updL_neC h5, updL_neC h11]; exact h.dj1, by rw [updL_neC h13, updL_neC h11]; exact h.dj2⟩
theorem PzG.empty (h : PzG W0 ys n R θ l V) (h11 : l 11 = false) (h14 : l 14 = false) : PzG W0 ys n R (V.heap.size, θ.2) (updL l 5) (V.alloc (.cells #[] 5)) := by
  have hb : Below V.heap.size V (V.alloc (.cells #[] 5)) := (Below.refl _ _).alloc (Nat.le_refl _) _
  refine ⟨h.bel.trans (hb.mono h.bel.size), fun _ _ => (own_empty V).base h.bel.size, fun e => (by rw [updL_neC (by decide), h11] at e; cases e), ?_, fun e => (by rw [updL_neC (by decide), h14] at e; cases e), ?_, ?_, fun _ e => (by rw [updL_neC (by decide), h11] at e; cases e)⟩
  · rw [updL_neC (by decide), updL_neC (by decide)]; exact fun e1 e2 => (h.a13 e1 e2).below hb
  · rw [updL_neC (by decide)]; exact fun e => ⟨(h.ap e).1, Nat.lt_of_lt_of_le (h.ap e).2 hb.size⟩
  · rw [updL_neC (i := 5) (j := 13) (by decide)]
    intro e1 _ _ e2
    have := (h.ap e1).2
    dsimp only at e2
    omega
theorem PzG.app (h : PzG W0 ys n R θ l V) (h5 : l 5 = true) (h11 : l 11 = false) (h14 : l 14 = false) {sa : Option Addr} {sc : Nat} (hs : Sl V sa n sc ys) (hn : n ≤ 100000) (ty : TypeId) :
    ∃ a7 c7 V7, (Builtin.append_ #[31, 31] ty #[.slice (some ⟨θ.1, 0, none⟩) 0 0, .slice sa n sc]).run Try.prog V = .ok (.slice a7 n c7) V7 ∧ PzG W0 ys n R (θ.1, a7, c7, θ.2.2.2) (updL l 11) V7 := by
  have ho := h.a5 h5 h11
  obtain ⟨a7, c7, V7, hr, ho7, hg7, hn7⟩ := app_run V ty W0.heap.size _ 0 0 [] ho sa n sc ys hs (by omega) h.bel.size
  rw [Nat.zero_add] at hr ho7 hn7
  rw [List.nil_append] at ho7
  have hf : Fr (fun k => k = θ.1) V V7 := Fr.grown hg7 (fun k hk => (Option.some.inj hk).symm)
  have hb7 : Below W0.heap.size V V7 := ho.up hg7 h.bel.size
  refine ⟨a7, c7, V7, hr, ⟨h.bel.trans hb7, fun _ e => (by rw [updL_eqC] at e; cases e), fun _ => ho7, ?_, fun e => (by rw [updL_neC (by decide), h14] at e; cases e), ?_, fun _ _ e => (by rw [updL_eqC] at e; cases e), ?_⟩⟩
  · rw [updL_neC (by decide), updL_neC (by decide)]
    exact fun e1 e2 => (h.a13 e1 e2).fr hf (fun e => h.dj1 e1 h5 h11 (Eq.symm e))
  · rw [updL_neC (by decide)]; exact fun e => ⟨(h.ap e).1, Nat.lt_of_lt_of_le (h.ap e).2 hf.size⟩
  · rw [updL_neC (i := 11) (j := 13) (by decide)]
    intro e1 _ g hg e2
    rcases hn7 g hg with e3 | e3
    · have : θ.1 = g := Option.some.inj e3
      exact h.dj1 e1 h5 h11 (this.trans e2)
    · have := (h.ap e1).2
      dsimp only at e2
      omega
theorem PzG.box (h : PzG W0 ys n R θ l V) (h14 : l 14 = false) : PzG W0 ys n R (θ.1, θ.2.1, θ.2.2.1, V.heap.size) (updL l 13) (V.alloc (.cells #[.int .u8 0, .int .u8 0, .int .u32 0, .int .u16 0, .int .u16 0, .int .u32 0, .int .u32 0, .int .u32 0, .int .u16 0, .int .u16 0, .slice none 0 0, .slice none 0 0, .slice none 0 0, .slice none 0 0] 47)) := by
  have hb : Below V.heap.size V (V.alloc (.cells #[.int .u8 0, .int .u8 0, .int .u32 0, .int .u16 0, .int .u16 0, .int .u32 0, .int .u32 0, .int .u32 0, .int .u16 0, .int .u16 0, .slice none 0 0, .slice none 0 0, .slice none 0 0, .slice none 0 0] 47)) := (Below.refl _ _).alloc (Nat.le_refl _) _
  refine ⟨h.bel.trans (hb.mono h.bel.size), ?_, ?_, fun _ _ => Stc.new V [.int .u8 0, .int .u8 0, .int .u32 0, .int .u16 0, .int .u16 0, .int .u32 0, .int .u32 0, .int .u32 0, .int .u16 0, .int .u16 0, .slice none 0 0, .slice none 0 0, .slice none 0 0, .slice none 0 0] 47 _ rfl, fun e => (by rw [updL_neC (by decide), h14] at e; cases e), fun _ => ⟨h.bel.size, by simp⟩, ?_, ?_⟩
  · rw [updL_neC (by decide), updL_neC (by decide)]; exact fun e1 e2 => (h.a5 e1 e2).below hb
  · rw [updL_neC (by decide)]; exact fun e => (h.a11 e).below hb
  · rw [updL_neC (i := 13) (j := 5) (by decide), updL_neC (i := 13) (j := 11) (by decide)]
    intro _ e1 e2 e3
    have := ((h.a5 e1 e2).own.lt θ.1 rfl).2
    dsimp only at e3
    omega
  · rw [updL_neC (i := 13) (j := 11) (by decide)]
    intro _ e1 g hg e3
    have := ((h.a11 e1).own.lt g hg).2
    dsimp only at e3
    omega
theorem PzG.store (h : PzG W0 ys n R θ l V) (h11 : l 11 = true) (h13 : l 13 = true) (h14 : l 14 = false) (hl : (R θ).length = 14) : V.there θ.2.2.2 0 (R θ).length ∧ PzG W0 ys n R θ (updL l 14) (V.setCells θ.2.2.2 0 (R θ)) := by
  have s := h.a13 h13 h14
  have hf := fr_setCellsX θ.2.2.2 (R θ) 0 V
  refine ⟨by rw [hl]; exact s.there, ⟨h.bel.trans (hf.below _ h.bel.size (fun k hk => by rw [hk]; exact (h.ap h13).1)), fun _ e => (by rw [updL_neC (by decide), h11] at e; cases e), fun _ => ?_, fun _ e => (by rw [updL_eqC] at e; cases e), fun _ => s.put _ hl, fun _ => ⟨(h.ap h13).1, Nat.lt_of_lt_of_le (h.ap h13).2 hf.size⟩, fun _ _ e => (by rw [updL_neC (by decide), h11] at e; cases e), fun _ _ => h.dj2 h13 h11⟩⟩
  have ho := h.a11 h11
  obtain ⟨h1, ⟨h2, h3⟩, h4⟩ := ho
  refine ⟨h1, ⟨h2, ?_⟩, h4⟩
  rcases h3 with h3 | ⟨g, cap, cur, hv, hb, hh, hr⟩
  · exact .inl h3
  · have hl := (Array.getElem?_eq_some_iff.1 hh).1
    refine .inr ⟨g, cap, cur, hv, hb, (hf.block g hl (fun e => ?_)).trans hh, hr⟩
    injection hv with e1
    exact h.dj2 h13 h11 g (by rw [e1]; rfl) e
end
end Go.Proofs.Ytjaheelgcjafcaa
namespace Go.Proofs.Ytjaheelgcjafcaa
open Go.RowKit
def pzF (m : Mg) (size k : Nat) : Nat := (if m.fr then 4 else 0) + (if k = 0 then 2 else 0) + (if m.zs.length ≤ (k + 1) * size then 1 else 0)
def pzD (m : Mg) (size k : Nat) : List Nat := (m.zs.drop (k * size)).take size
def pzC (m : Mg) (size t0 : Nat) (ad : Nat → Option Addr × Nat) (k : Nat) : Ck := dataC (pzF m size k) ((t0 + k) % 4294967296) m.st m.ss m.pp (ad k).1 (pzD m size k).length (ad k).2 (pzD m size k)
/-- k pieces of a message, in a row of new memory. -/
structure PzL (w : World) (B : Nat) (m : Mg) (size t0 k : Nat) (ra : Option Addr) (rc : Nat) : Prop where
  ex : ∃ ad : Nat → Option Addr × Nat, OwnC w B ra k rc ((List.range k).map (pzC m size t0 ad)) ∧ ∀ i, i < k → OwnB w B (ad i).1 (pzD m size i).length (ad i).2 (pzD m size i)
theorem ty_ch : (5 : Nat) ≠ 47 := by decide
theorem ownB_apartC {w : World} {B B' : Nat} {a a' : Option Addr} {n c n' c' : Nat} {zs : List Nat} {xs : List Ck} (h : OwnB w B a n c zs) (k : OwnC w B' a' n' c' xs) (g : Nat) (hg : (Value.slice a n c).ownBlock = some g) : (Value.slice a' n' c').ownBlock ≠ some g := by
  intro hg'
  rcases h.own.2 with ⟨hv, _⟩ | ⟨g1, cap, cur, hv, _, hh, _⟩
  · injection hv with e1; subst e1; cases hg
  · injection hv with e1
    subst e1
    obtain rfl : g1 = g := Option.some.inj hg
    rcases k.own.2 with ⟨hv', _⟩ | ⟨g2, cap2, cur2, hv', _, hh', _⟩
    · injection hv' with e1; subst e1; cases hg'
    · injection hv' with e1
      subst e1
      obtain rfl : g2 = g1 := Option.some.inj hg'
      rw [hh] at hh'
      injection hh' with hh'
      injection hh' with _ e2
      exact ty_ch e2
theorem PzL.below {w w' : World} {B : Nat} {m : Mg} {size t0 k : Nat} {ra : Option Addr} {rc : Nat} (h : PzL w B m size t0 k ra rc) (hb : Below w.heap.size w w') : PzL w' B m size t0 k ra rc := by
  obtain ⟨ad, h1, h2⟩ := h.ex
  exact ⟨ad, OwnG.below h1 hb, fun i hi => (h2 i hi).below hb⟩
theorem OwnB.frX {w w' : World} {B : Nat} {a : Option Addr} {n c : Nat} {zs : List Nat} {Q : Nat → Prop} (h : OwnB w B a n c zs) (hf : Fr Q w w') (hq : ∀ g, (Value.slice a n c).ownBlock = some g → ¬ Q g) : OwnB w' B a n c zs := by
  obtain ⟨h1, ⟨h2, h3⟩, h4⟩ := h
  refine ⟨h1, ⟨h2, ?_⟩, h4⟩
  rcases h3 with h3 | ⟨g, cap, cur, hv, hb, hh, hr⟩
  · exact .inl h3
  · have hl := (Array.getElem?_eq_some_iff.1 hh).1
    have e := hv
    injection e with e1
    exact .inr ⟨g, cap, cur, hv, hb, (hf.block g hl (hq g (by rw [e1]; rfl))).trans hh, hr⟩
set_option maxRecDepth 100000 in
theorem PzL.step {wr V V9 : World} {B : Nat} {m : Mg} {size t0 k : Nat} {ra : Option Addr} {rc : Nat} (h : PzL wr B m size t0 k ra rc) (hB : B ≤ wr.heap.size) (hb : Below wr.heap.size wr V) {bq : Nat} (hq : wr.heap.size ≤ bq) {da : Option Addr} {n dc : Nat} (hn : n = (pzD m size k).length) (ho : OwnB V wr.heap.size da n dc (pzD m size k)) (hdj : ∀ g, (Value.slice da n dc).ownBlock = some g → g ≠ bq) (hf9 : Fr (fun g => g = bq) V V9) (hk : k ≤ 1000) {F S : Nat} (hF : F = pzF m size k) (hS : S = m.ss) :
    ∃ g7 c7 w7, (Builtin.append_ #[22, 22] 22 #[.slice ra k rc, .slice (some ⟨V9.heap.size, 0, none⟩) 1 1]).run Try.prog (V9.alloc (.cells #[.int .u8 0, .int .u8 (F : Nat), .int .u32 (((t0 + k) % 4294967296 : Nat) : Int), .int .u16 (m.st : Nat), .int .u16 (S : Nat), .int .u32 (m.pp : Nat), .int .u32 0, .int .u32 0, .int .u16 0, .int .u16 0, .slice none 0 0, .slice none 0 0, .slice none 0 0, .slice da n dc] 47)) = .ok (.slice (some ⟨g7, 0, none⟩) (k + 1) c7) w7 ∧ PzL w7 B m size t0 (k + 1) (some ⟨g7, 0, none⟩) c7 ∧ Below B wr w7 := by
  subst hn hF hS
  obtain ⟨ad, h1, h2⟩ := h.ex
  have hbV9 : Below wr.heap.size wr V9 := hb.trans (hf9.below _ hb.size (fun g hg => by rw [hg]; exact hq))
  have h1' := OwnG.below h1 hbV9
  obtain ⟨ad', had⟩ : ∃ ad' : Nat → Option Addr × Nat, ad' = fun i => if i = k then (da, dc) else ad i := ⟨_, rfl⟩
  have hW : (Obj.cells #[.int .u8 0, .int .u8 (pzF m size k : Nat), .int .u32 (((t0 + k) % 4294967296 : Nat) : Int), .int .u16 (m.st : Nat), .int .u16 (m.ss : Nat), .int .u32 (m.pp : Nat), .int .u32 0, .int .u32 0, .int .u16 0, .int .u16 0, .slice none 0 0, .slice none 0 0, .slice none 0 0, .slice da (pzD m size k).length dc] 47) = .cells (pzC m size t0 ad' k).cells.toArray 47 := by
    rw [had]
    unfold pzC dataC Ck.cells
    simp
  rw [hW]
  have b0 : Below V9.heap.size V9 (V9.alloc (.cells (pzC m size t0 ad' k).cells.toArray 47)) := (Below.refl _ _).alloc (Nat.le_refl _) _
  have st2 := Stc.new V9 (pzC m size t0 ad' k).cells 47 _ rfl
  have h1a := OwnG.below h1' b0
  have hBV : B ≤ (V9.alloc (.cells (pzC m size t0 ad' k).cells.toArray 47)).heap.size := Nat.le_trans hB (Nat.le_trans hbV9.size b0.size)
  obtain ⟨g7, c7, w7, hr7, ho7, hgr7, hg7, hg7l⟩ := OwnG.app layC h1a 22 (pzC m size t0 ad' k) ⟨V9.heap.size, 0, none⟩ (fun j u hj => by
    have := st2.cell j u hj
    unfold Addr.add
    split
    · rename_i e; subst e; exact this
    · simpa using this) (by unfold maxLen; omega) (by omega) hBV
  have keep : ∀ {B' : Nat} {a : Option Addr} {n c : Nat} {zs : List Nat}, OwnB V9 B' a n c zs → OwnB w7 B' a n c zs := fun hx => by
    have hx2 := hx.below b0
    refine hx2.kept hgr7 ?_
    rename_i B' a n c zs
    cases e : (Value.slice a n c).ownBlock with
    | none => exact .inl rfl
    | some g => exact .inr (fun e2 => ownB_apartC hx2 h1a g e (e2 ▸ rfl))
  refine ⟨g7, c7, w7, hr7, ⟨ad', ?_, fun i hi => ?_⟩, (hbV9.mono hB).trans ((b0.mono (Nat.le_trans hB hbV9.size)).trans (h1a.up hgr7 hBV))⟩
  · have e : (List.range (k + 1)).map (pzC m size t0 ad') = (List.range k).map (pzC m size t0 ad) ++ [pzC m size t0 ad' k] := by
      rw [List.range_succ, List.map_append]
      congr 1
      refine List.map_congr_left (fun i hi => ?_)
      have := List.mem_range.1 hi
      unfold pzC
      rw [had]
      simp [show ¬ i = k by omega]
    rw [e]
    exact ho7
  · by_cases e : i = k
    · subst e
      rw [had]
      simp only [if_true]
      exact keep ((ho.frX hf9 hdj).base hB)
    · rw [had]
      simp only [if_neg e]
      exact keep ((h2 i (by omega)).below hbV9)
theorem slice_lhP (b off n c l h : Nat) (hl : l < h) (hh : h ≤ c) (w : World) : (Instr.slice 31 (.slice (some ⟨b, off, none⟩) n c) (some (.int .i64 (l : Int))) (some (.int .i64 (h : Int))) none).run Try.prog w = .ok (.slice (some ⟨b, off + l, none⟩) (h - l) (c - l)) w := by
  rw [run_slice_lh w 31 _ n c und8 .i64 .i64 l h (by omega) (by omega) (by omega), size8]
  simp only [Result.andThen, sliced, Int.toNat_natCast]
  rw [if_neg (by omega)]
  simp [Addr.add]
theorem Sl.midP {w : World} {b off n c : Nat} {zs : List Nat} (h : Sl w (some ⟨b, off, none⟩) n c zs) (l j : Nat) (hj : l < j) (hn : j ≤ n) : Sl w (some ⟨b, off + l, none⟩) (j - l) (c - l) ((zs.drop l).take (j - l)) := by
  obtain ⟨h1, h2, h3, hsm, _, h4, h5⟩ := h
  refine ⟨by simp; omega, by omega, by omega, by omega, (fun e => by cases e), fun i => ?_, .inr ?_⟩
  · rw [List.getD_eq_getElem?_getD, List.getElem?_take]
    split
    · rw [List.getElem?_drop, ← List.getD_eq_getElem?_getD]; exact h4 _
    · decide
  · rcases h5 with h5 | ⟨b', off', e, hlt, hc⟩
    · omega
    · injection e with e
      injection e with e1 e2
      subst e1 e2
      refine ⟨b, off + l, rfl, hlt, fun i hi => ?_⟩
      rw [Nat.add_assoc, hc (l + i) (by omega)]
      rw [List.getD_eq_getElem?_getD, List.getD_eq_getElem?_getD, List.getElem?_take_of_lt hi, List.getElem?_drop]
theorem pzD_take (m : Mg) (size k e : Nat) (h1 : k * size < e) (h2 : e ≤ m.zs.length) (h3 : e = k * size + size ∨ (e = m.zs.length ∧ m.zs.length ≤ k * size + size)) : (m.zs.drop (k * size)).take (e - k * size) = pzD m size k ∧ (pzD m size k).length = e - k * size := by
  have e1 : (m.zs.drop (k * size)).take (e - k * size) = pzD m size k := by
    unfold pzD
    rcases h3 with h3 | ⟨h3, h4⟩
    · rw [show e - k * size = size by omega]
    · rw [List.take_of_length_le (by simp; omega), List.take_of_length_le (by simp; omega)]
  refine ⟨e1, ?_⟩
  rw [← e1]
  simp
  omega
structure PzP (w : World) (m : Mg) (size t0 : Nat) (e : Ending) (w' : World) : Prop where
  ex : ∃ k ra rc, e = .returned (.slice ra k rc) ∧ PzL w' w.heap.size m size t0 k ra rc ∧ m.zs.length ≤ k * size ∧ (k - 1) * size < m.zs.length ∧ 1 ≤ k
  bel : Below w.heap.size w w'
end Go.Proofs.Ytjaheelgcjafcaa
