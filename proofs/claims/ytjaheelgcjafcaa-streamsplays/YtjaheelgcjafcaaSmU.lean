/- Streams as mathematics: the run of a message that is whole, and of one that is not. -/
import Derived.Test.YtjaheelgcjafcaaSmT
namespace Go.Proofs.Ytjaheelgcjafcaa
open Go.RowKit
theorem bk_at (u i : Nat) : bk1 ((u + (i + 1)) % 4294967296) = (u + i) % 4294967296 := by unfold bk1; omega
theorem on_at (u i : Nat) : on1 ((u + i) % 4294967296) = (u + (i + 1)) % 4294967296 := by unfold on1; omega
/-- From the i-th piece back to the one that begins. -/
theorem back_whole {D : List (Nat × Pc)} {u : Nat} (hu : u < 4294967296) (h0 : (pcAt D u).beg = true) : ∀ i f, i < f → (∀ j, j < i → (pcAt D ((u + (j + 1)) % 4294967296)).beg = false ∧ joinsB D ((u + j) % 4294967296) = true) → backF D f ((u + i) % 4294967296) = some u := by
  intro i
  induction i with
  | zero =>
    intro f hf _
    obtain ⟨f, rfl⟩ : ∃ g, f = g + 1 := ⟨f - 1, by omega⟩
    rw [Nat.add_zero u, Nat.mod_eq_of_lt hu, backF_succ, if_pos h0]
  | succ i ih =>
    intro f hf h
    obtain ⟨f, rfl⟩ : ∃ g, f = g + 1 := ⟨f - 1, by omega⟩
    obtain ⟨h1, h2⟩ := h i (by omega)
    rw [backF_succ, h1, bk_at, h2, if_neg (by decide), if_pos rfl]
    exact ih f (by omega) (fun j hj => h j (by omega))
/-- A way back that comes to a gap. -/
theorem back_gap {D : List (Nat × Pc)} {u : Nat} (hg : joinsB D (u % 4294967296) = false) : ∀ i f, (∀ j, j < i + 1 → (pcAt D ((u + (j + 1)) % 4294967296)).beg = false) → (∀ j, j < i → joinsB D ((u + (j + 1)) % 4294967296) = true) → backF D f ((u + (i + 1)) % 4294967296) = none := by
  intro i
  induction i with
  | zero =>
    intro f h _
    cases f with
    | zero => rw [backF]
    | succ f => rw [backF_succ, h 0 (by omega), bk_at, Nat.add_zero u, hg, if_neg (by decide), if_neg (by decide)]
  | succ i ih =>
    intro f h hj
    cases f with
    | zero => rw [backF]
    | succ f =>
      rw [backF_succ, h (i + 1) (by omega), bk_at, hj i (by omega), if_neg (by decide), if_pos rfl]
      exact ih f (fun j hj => h j (by omega)) (fun j hjj => hj j (by omega))
/-- On from the i-th piece, m more. -/
theorem on_whole {D : List (Nat × Pc)} {u : Nat} : ∀ m i f L, m < f → (pcAt D ((u + (i + m)) % 4294967296)).fin = true → (∀ j, j < m → (pcAt D ((u + (i + j)) % 4294967296)).fin = false ∧ joinsB D ((u + (i + j)) % 4294967296) = true) →
    onF D f ((u + i) % 4294967296) L = some (L ++ (List.range m).map fun j => (u + (i + (j + 1))) % 4294967296) := by
  intro m
  induction m with
  | zero =>
    intro i f L hf h0 _
    obtain ⟨f, rfl⟩ : ∃ g, f = g + 1 := ⟨f - 1, by omega⟩
    rw [Nat.add_zero i] at h0
    rw [onF_succ, if_pos h0, List.range_zero, List.map_nil, List.append_nil]
  | succ m ih =>
    intro i f L hf h0 h
    obtain ⟨f, rfl⟩ : ∃ g, f = g + 1 := ⟨f - 1, by omega⟩
    obtain ⟨h1, h2⟩ := h 0 (by omega)
    rw [Nat.add_zero i] at h1 h2
    rw [onF_succ, h1, h2, if_neg (by decide), if_pos rfl, on_at]
    rw [ih (i + 1) f _ (by omega) (by rw [show i + 1 + m = i + (m + 1) by omega]; exact h0) (fun j hj => by rw [show i + 1 + j = i + (j + 1) by omega]; exact h (j + 1) (by omega))]
    rw [List.range_succ_eq_map, List.map_cons, List.map_map, List.append_assoc, List.singleton_append]
    congr 3
    refine List.map_congr_left (fun j _ => ?_)
    show (u + (i + 1 + (j + 1))) % 4294967296 = (u + (i + (j + 1 + 1))) % 4294967296
    rw [show i + 1 + (j + 1) = i + (j + 1 + 1) by omega]
/-- A way on that comes to a gap. -/
theorem on_gap {D : List (Nat × Pc)} {u : Nat} : ∀ m i f L, (∀ j, j < m + 1 → (pcAt D ((u + (i + j)) % 4294967296)).fin = false) → (∀ j, j < m → joinsB D ((u + (i + j)) % 4294967296) = true) → joinsB D ((u + (i + m)) % 4294967296) = false → onF D f ((u + i) % 4294967296) L = none := by
  intro m
  induction m with
  | zero =>
    intro i f L h _ hg
    have h1 := h 0 (by omega)
    rw [Nat.add_zero i] at h1 hg
    cases f with
    | zero => rw [onF]
    | succ f => rw [onF_succ, h1, hg, if_neg (by decide), if_neg (by decide)]
  | succ m ih =>
    intro i f L h hj hg
    have h1 := h 0 (by omega)
    have h2 := hj 0 (by omega)
    rw [Nat.add_zero i] at h1 h2
    cases f with
    | zero => rw [onF]
    | succ f =>
      rw [onF_succ, h1, h2, if_neg (by decide), if_pos rfl, on_at]
      exact ih (i + 1) f _ (fun j hjj => by rw [show i + 1 + j = i + (j + 1) by omega]; exact h (j + 1) (by omega)) (fun j hjj => by rw [show i + 1 + j = i + (j + 1) by omega]; exact hj (j + 1) (by omega)) (by rw [show i + 1 + m = i + (m + 1) by omega]; exact hg)
/-- The run of a message of m + 1 pieces that is whole, asked for at any one of them. -/
theorem run_whole {D : List (Nat × Pc)} (hs : Srt D) {u m : Nat} (hu : u < 4294967296) (hm : m + 1 ≤ 4294967296) (hin : ∀ j, j < m + 1 → (lookD D ((u + j) % 4294967296)).isSome = true) (hb : (pcAt D u).beg = true) (he : (pcAt D ((u + m) % 4294967296)).fin = true)
    (h : ∀ j, j < m → (pcAt D ((u + (j + 1)) % 4294967296)).beg = false ∧ (pcAt D ((u + j) % 4294967296)).fin = false ∧ joinsB D ((u + j) % 4294967296) = true) (i : Nat) (hi : i ≤ m) : runF D ((u + i) % 4294967296) = (List.range (m + 1)).map fun j => (u + j) % 4294967296 := by
  have hl := chain_len (m + 1) u D hs hm hin
  unfold runF
  rw [back_whole hu hb i (D.length + 1) (by omega) (fun j hj => ⟨(h j (by omega)).1, (h j (by omega)).2.2⟩)]
  dsimp only
  have := on_whole (D := D) (u := u) m 0 (D.length + 1) [u] (by omega) (by rw [Nat.zero_add]; exact he) (fun j hj => by rw [Nat.zero_add]; exact (h j hj).2)
  rw [Nat.add_zero u, Nat.mod_eq_of_lt hu] at this
  rw [this, Option.getD_some, List.range_succ_eq_map, List.map_cons, List.map_map, Nat.add_zero u, Nat.mod_eq_of_lt hu, List.singleton_append]
  congr 1
  refine List.map_congr_left (fun j _ => ?_)
  show (u + (0 + (j + 1))) % 4294967296 = (u + (j + 1)) % 4294967296
  rw [Nat.zero_add]
end Go.Proofs.Ytjaheelgcjafcaa
