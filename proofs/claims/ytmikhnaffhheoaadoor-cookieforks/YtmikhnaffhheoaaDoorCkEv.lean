/- What cookie.each's own functions do where the numbers are laid. -/
import Derived.Test.YtmikhnaffhheoaaDoorCkN
import Derived.Test.YtmikhnaffhheoaaDoorSt
namespace Go.Proofs.YtmikhnaffhheoaaDoor
open Go.RowKit
theorem NbS.below {B nb : Nat} {ps : List (Nat × Nat)} {w w' : World} (h : NbS B nb ps w) (hb : Below w.heap.size w w') : NbS B nb ps w' := by
  obtain ⟨h1, h2, ⟨a, c, h3, h4⟩, h5⟩ := h
  have hl : nb < w.heap.size := by omega
  exact ⟨h1, Nat.le_trans h2 hb.size, ⟨a, c, (hb.cell (p := ⟨nb, 0, none⟩) hl).trans h3, h4.below hb⟩, (hb.frozen (p := ⟨nb, 0, none⟩) hl).trans h5⟩
theorem NbS.far {B nb : Nat} {ps : List (Nat × Nat)} {w : World} (h : NbS B nb ps w) (q i : Nat) (v : Value) (hne : q ≠ nb) (hq : q < B) : NbS B nb ps (w.setCell ⟨q, i, none⟩ v) := by
  obtain ⟨h1, h2, ⟨a, c, h3, h4⟩, h5⟩ := h
  refine ⟨h1, by simp [World.setCell]; omega, ⟨a, c, ?_, ?_⟩, by rw [World.frozen?_setCell]; exact h5⟩
  · rw [World.cell?_setCell_other _ _ _ _ (by intro e; injection e with e _; exact hne e)]; exact h3
  · have hgs : w.grownBy (w.setCell ⟨q, i, none⟩ v) (some q) := (Fr.setCell (fun b => b = q) w ⟨q, i, none⟩ _ rfl) |> fun h => ⟨h.os, h.tape, h.output, h.size, fun k hk hn => h.block k hk (fun e => hn (by rw [e]))⟩
    refine h4.kept hgs ?_
    cases hq2 : (Value.slice a ps.length c).ownBlock with
    | none => exact .inl rfl
    | some g => exact .inr (fun e => by have := (h4.own.lt g hq2).1; injection e with e; omega)
theorem List.set_eq_of_getElem? (xs : List Value) : ∀ (i : Nat) (v : Value), xs[i]? = some v → xs.set i v = xs := by
  induction xs with
  | nil => intro i v h; simp at h
  | cons x xs ih =>
    intro i v h
    cases i with
    | zero => simp at h; simp [h]
    | succ i => simp at h; simp [ih i v h]
/-- A cookie in its block q, the function handed in in vb, the numbers in nb. -/
structure EvL (w0 : World) (q vb nb B : Nat) (xs : List Value) (ps : List (Nat × Nat)) (w : World) : Prop where
  sx : Stc w q xs
  vc : w.cell? ⟨vb, 0, none⟩ = some (.func (.func 20) #[] #[.pointer (some ⟨nb, 0, none⟩)])
  nbs : NbS B nb ps w
  qB : q < B
  vB : vb < B
  ne1 : q ≠ vb
  ne2 : q ≠ nb
  ne3 : vb ≠ nb
  fr : Fr (fun b => b = q ∨ b = nb ∨ B ≤ b) w0 w
set_option maxRecDepth 100000 in
set_option maxHeartbeats 1000000 in
theorem EvL.whole {w0 w : World} {q vb nb B : Nat} {xs : List Value} {ps : List (Nat × Nat)} (h : EvL w0 q vb nb B xs ps w) (i v : Nat) (k : Nat) (hx : xs[i]? = some (.int .i64 (v : Nat))) (hv : v < 9223372036854775808) (hk : k ≤ 8) (hl : ps.length ≤ 1000) :
    Calls Tryd.prog 30 #[.pointer (some ⟨q, i, none⟩), .int .i64 (k : Nat), .pointer (some ⟨vb, 0, none⟩)] w fun e w' => (∃ r, e = .returned r) ∧ EvL w0 q vb nb B xs (ps ++ [(v, k)]) w' := by
  have cq := h.sx.cell i _ hx
  have fq := h.sx.free i
  have cv := h.vc
  have hq := h.sx.lt
  have hBw := h.nbs.Bw
  have bd : Below w.heap.size w w.drew := (Below.refl _ _).drew
  have hd := h.nbs.below bd
  have cqd := (bd.cell (p := ⟨q, i, none⟩) hq).trans cq
  have cvd := (bd.cell (p := ⟨vb, 0, none⟩) (Nat.lt_of_lt_of_le h.vB hBw)).trans cv
  have HST : Hid (∀ w', Fr (fun b => b = nb ∨ B ≤ b) w.drew w' → NbS B nb (ps ++ [(v, k)]) w' → w'.cell? ⟨q, i, none⟩ = some (.int .i64 (v : Nat)) ∧ w'.frozen? ⟨q, i, none⟩ = false ∧ EvL w0 q vb nb B xs (ps ++ [(v, k)]) (w'.setCell ⟨q, i, none⟩ (.int .i64 (v : Nat)))) := by
    intro w' hf hn
    have hne : ¬ (q = nb ∨ B ≤ q) := fun e => by rcases e with e | e; exact h.ne2 e; have := h.qB; omega
    have hnv : ¬ (vb = nb ∨ B ≤ vb) := fun e => by rcases e with e | e; exact h.ne3 e; have := h.vB; omega
    have sx' : Stc w' q xs := (h.sx.below bd).fr hf hne
    refine ⟨sx'.cell i _ hx, sx'.free i, ?_⟩
    refine ⟨?_, ?_, hn.far q i _ h.ne2 h.qB, h.qB, h.vB, h.ne1, h.ne2, h.ne3, ?_⟩
    · have := sx'.set i (.int .i64 (v : Nat))
      rwa [List.set_eq_of_getElem? xs i _ hx] at this
    · rw [World.cell?_setCell_other _ _ _ _ (by intro e; injection e with e _; exact h.ne1 e), hf.cell ⟨vb, 0, none⟩ (Nat.lt_of_lt_of_le h.vB hBw) hnv]
      exact cvd
    · refine ((h.fr.trans (Fr.of_below bd)).trans (hf.mono (fun k _ e => .inr e))).trans (Fr.setCell _ _ _ _ (.inl rfl))
  have mw1 : IntKind.u64.wrap (v : Int) = (v : Int) := by rw [IntKind.wrap_u64]; omega
  have m1 : (v : Int) % 18446744073709551616 = (v : Int) := by omega
  have mw2 : IntKind.i64.wrap (v : Int) = (v : Int) := by rw [IntKind.wrap_i64]; omega
  clear h
  go_enter Tryd.func30, Tryd.ntmps30
  go_wp2_with fail
  go_region_with (first
    | (go_at_call 20; refine (visitL_any B nb ps v k _ hd (by omega) hk hl).mono ?_; rintro e w' ⟨rfl, hn', hf'⟩; obtain ⟨cq', fq', hE⟩ := HST.out _ hf' hn')
    | fail)
  all_goals
    have HE := (show Hid _ from hE)
    clear hE
    go_wp2
    go_end0
    exact ⟨⟨_, rfl⟩, HE.out⟩
set_option maxRecDepth 100000 in
set_option maxHeartbeats 1000000 in
theorem EvL.half {w0 w : World} {q vb nb B : Nat} {xs : List Value} {ps : List (Nat × Nat)} (h : EvL w0 q vb nb B xs ps w) (i v : Nat) (hx : xs[i]? = some (.int .u16 (v : Nat))) (hv : v < 65536) (hl : ps.length ≤ 1000) :
    Calls Tryd.prog 31 #[.pointer (some ⟨q, i, none⟩), .pointer (some ⟨vb, 0, none⟩)] w fun e w' => (∃ r, e = .returned r) ∧ EvL w0 q vb nb B xs (ps ++ [(v, 2)]) w' := by
  have cq := h.sx.cell i _ hx
  have fq := h.sx.free i
  have cv := h.vc
  have hq := h.sx.lt
  have hBw := h.nbs.Bw
  have bd : Below w.heap.size w w.drew := (Below.refl _ _).drew
  have hd := h.nbs.below bd
  have cqd := (bd.cell (p := ⟨q, i, none⟩) hq).trans cq
  have cvd := (bd.cell (p := ⟨vb, 0, none⟩) (Nat.lt_of_lt_of_le h.vB hBw)).trans cv
  have HST : Hid (∀ w', Fr (fun b => b = nb ∨ B ≤ b) w.drew w' → NbS B nb (ps ++ [(v, 2)]) w' → w'.cell? ⟨q, i, none⟩ = some (.int .u16 (v : Nat)) ∧ w'.frozen? ⟨q, i, none⟩ = false ∧ EvL w0 q vb nb B xs (ps ++ [(v, 2)]) (w'.setCell ⟨q, i, none⟩ (.int .u16 (v : Nat)))) := by
    intro w' hf hn
    have hne : ¬ (q = nb ∨ B ≤ q) := fun e => by rcases e with e | e; exact h.ne2 e; have := h.qB; omega
    have hnv : ¬ (vb = nb ∨ B ≤ vb) := fun e => by rcases e with e | e; exact h.ne3 e; have := h.vB; omega
    have sx' : Stc w' q xs := (h.sx.below bd).fr hf hne
    refine ⟨sx'.cell i _ hx, sx'.free i, ?_⟩
    refine ⟨?_, ?_, hn.far q i _ h.ne2 h.qB, h.qB, h.vB, h.ne1, h.ne2, h.ne3, ?_⟩
    · have := sx'.set i (.int .u16 (v : Nat))
      rwa [List.set_eq_of_getElem? xs i _ hx] at this
    · rw [World.cell?_setCell_other _ _ _ _ (by intro e; injection e with e _; exact h.ne1 e), hf.cell ⟨vb, 0, none⟩ (Nat.lt_of_lt_of_le h.vB hBw) hnv]
      exact cvd
    · refine ((h.fr.trans (Fr.of_below bd)).trans (hf.mono (fun k _ e => .inr e))).trans (Fr.setCell _ _ _ _ (.inl rfl))
  have mw1 : IntKind.u64.wrap (v : Int) = (v : Int) := by rw [IntKind.wrap_u64]; omega
  have m1 : (v : Int) % 18446744073709551616 = (v : Int) := by omega
  have m2 : (v : Int) % 65536 = (v : Int) := by omega
  have mw2 : IntKind.u16.wrap (v : Int) = (v : Int) := by rw [IntKind.wrap_u16]; omega
  clear h
  go_enter Tryd.func31, Tryd.ntmps31
  go_wp2_with fail
  go_region_with (first
    | (go_at_call 20; refine (visitL_any B nb ps v 2 _ hd (by omega) (by omega) hl).mono ?_; rintro e w' ⟨rfl, hn', hf'⟩; obtain ⟨cq', fq', hE⟩ := HST.out _ hf' hn')
    | fail)
  all_goals
    have HE := (show Hid _ from hE)
    clear hE
    go_wp2
    go_end0
    exact ⟨⟨_, rfl⟩, HE.out⟩
set_option maxRecDepth 100000 in
set_option maxHeartbeats 1000000 in
theorem EvL.word {w0 w : World} {q vb nb B : Nat} {xs : List Value} {ps : List (Nat × Nat)} (h : EvL w0 q vb nb B xs ps w) (i v : Nat) (hx : xs[i]? = some (.int .u32 (v : Nat))) (hv : v < 4294967296) (hl : ps.length ≤ 1000) :
    Calls Tryd.prog 32 #[.pointer (some ⟨q, i, none⟩), .pointer (some ⟨vb, 0, none⟩)] w fun e w' => (∃ r, e = .returned r) ∧ EvL w0 q vb nb B xs (ps ++ [(v, 4)]) w' := by
  have cq := h.sx.cell i _ hx
  have fq := h.sx.free i
  have cv := h.vc
  have hq := h.sx.lt
  have hBw := h.nbs.Bw
  have bd : Below w.heap.size w w.drew := (Below.refl _ _).drew
  have hd := h.nbs.below bd
  have cqd := (bd.cell (p := ⟨q, i, none⟩) hq).trans cq
  have cvd := (bd.cell (p := ⟨vb, 0, none⟩) (Nat.lt_of_lt_of_le h.vB hBw)).trans cv
  have HST : Hid (∀ w', Fr (fun b => b = nb ∨ B ≤ b) w.drew w' → NbS B nb (ps ++ [(v, 4)]) w' → w'.cell? ⟨q, i, none⟩ = some (.int .u32 (v : Nat)) ∧ w'.frozen? ⟨q, i, none⟩ = false ∧ EvL w0 q vb nb B xs (ps ++ [(v, 4)]) (w'.setCell ⟨q, i, none⟩ (.int .u32 (v : Nat)))) := by
    intro w' hf hn
    have hne : ¬ (q = nb ∨ B ≤ q) := fun e => by rcases e with e | e; exact h.ne2 e; have := h.qB; omega
    have hnv : ¬ (vb = nb ∨ B ≤ vb) := fun e => by rcases e with e | e; exact h.ne3 e; have := h.vB; omega
    have sx' : Stc w' q xs := (h.sx.below bd).fr hf hne
    refine ⟨sx'.cell i _ hx, sx'.free i, ?_⟩
    refine ⟨?_, ?_, hn.far q i _ h.ne2 h.qB, h.qB, h.vB, h.ne1, h.ne2, h.ne3, ?_⟩
    · have := sx'.set i (.int .u32 (v : Nat))
      rwa [List.set_eq_of_getElem? xs i _ hx] at this
    · rw [World.cell?_setCell_other _ _ _ _ (by intro e; injection e with e _; exact h.ne1 e), hf.cell ⟨vb, 0, none⟩ (Nat.lt_of_lt_of_le h.vB hBw) hnv]
      exact cvd
    · refine ((h.fr.trans (Fr.of_below bd)).trans (hf.mono (fun k _ e => .inr e))).trans (Fr.setCell _ _ _ _ (.inl rfl))
  have mw1 : IntKind.u64.wrap (v : Int) = (v : Int) := by rw [IntKind.wrap_u64]; omega
  have m1 : (v : Int) % 18446744073709551616 = (v : Int) := by omega
  have m2 : (v : Int) % 4294967296 = (v : Int) := by omega
  have mw2 : IntKind.u32.wrap (v : Int) = (v : Int) := by rw [IntKind.wrap_u32]; omega
  clear h
  go_enter Tryd.func32, Tryd.ntmps32
  go_wp2_with fail
  go_region_with (first
    | (go_at_call 20; refine (visitL_any B nb ps v 4 _ hd (by omega) (by omega) hl).mono ?_; rintro e w' ⟨rfl, hn', hf'⟩; obtain ⟨cq', fq', hE⟩ := HST.out _ hf' hn')
    | fail)
  all_goals
    have HE := (show Hid _ from hE)
    clear hE
    go_wp2
    go_end0
    exact ⟨⟨_, rfl⟩, HE.out⟩
end Go.Proofs.YtmikhnaffhheoaaDoor
