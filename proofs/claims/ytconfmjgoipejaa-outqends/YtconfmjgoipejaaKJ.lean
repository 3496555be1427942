/- outq: a queue of the call's own, whatever else lies in memory: the calls restated. -/
import Derived.Test.YtconfmjgoipejaaKH
import Derived.Test.YtconfmjgoipejaaKG
namespace Go.Proofs.Ytconfmjgoipejaa
/-- Pieces without places. -/
def upL (P : List Pc) : List PcA := P.map (fun p => (p, none, 0))
theorem upL_fst (P : List Pc) : (upL P).map (·.1) = P := by
  unfold upL
  rw [List.map_map]
  exact List.map_id P
theorem al_len {L M : List PcA} (h : L.map (·.1) = M.map (·.1)) : L.length = M.length := by simpa using congrArg List.length h
theorem al_get {L M : List PcA} (h : L.map (·.1) = M.map (·.1)) (k : Nat) : (L[k]?).map (·.1) = (M[k]?).map (·.1) := by
  have := congrArg (fun l : List Pc => l[k]?) h
  simpa using this
theorem al_get1 {L M : List PcA} (h : L.map (·.1) = M.map (·.1)) {k : Nat} {x : PcA} (hx : L[k]? = some x) : ∃ y, M[k]? = some y ∧ x.1 = y.1 := by
  have := al_get h k
  rw [hx] at this
  cases hy : M[k]? with
  | none => rw [hy] at this; cases this
  | some y => rw [hy] at this; exact ⟨y, rfl, by simpa using this⟩
theorem al_take {L M : List PcA} (h : L.map (·.1) = M.map (·.1)) (k : Nat) : (L.take k).map (·.1) = (M.take k).map (·.1) := by rw [List.map_take, List.map_take, h]
theorem al_drop {L M : List PcA} (h : L.map (·.1) = M.map (·.1)) (k : Nat) : (L.drop k).map (·.1) = (M.drop k).map (·.1) := by rw [List.map_drop, List.map_drop, h]
theorem al_map {β : Type} {f : PcA → β} (hf : ∀ x y : PcA, x.1 = y.1 → f x = f y) : ∀ {L M : List PcA}, L.map (·.1) = M.map (·.1) → L.map f = M.map f
  | [], [], _ => rfl
  | [], _ :: _, h => by simp at h
  | _ :: _, [], h => by simp at h
  | x :: L, y :: M, h => by
    simp only [List.map_cons, List.cons.injEq] at h
    rw [List.map_cons, List.map_cons, hf x y h.1, al_map hf h.2]
theorem sumG_al {f : PcA → Nat} (hf : ∀ x y : PcA, x.1 = y.1 → f x = f y) {L M : List PcA} (h : L.map (·.1) = M.map (·.1)) (k : Nat) : sumG f L k = sumG f M k := by
  unfold sumG
  rw [al_map hf (al_take h k)]
theorem sumI_al {f : Nat → PcA → Nat} (hf : ∀ k (x y : PcA), x.1 = y.1 → f k x = f k y) {L M : List PcA} (h : L.map (·.1) = M.map (·.1)) : ∀ k, sumI f L k = sumI f M k
  | 0 => rfl
  | k + 1 => by
    unfold sumI
    rw [sumI_al hf h k]
    have := al_get h k
    cases hx : L[k]? with
    | none =>
      cases hy : M[k]? with
      | none => rfl
      | some y => rw [hx, hy] at this; cases this
    | some x =>
      obtain ⟨y, hy, he⟩ := al_get1 h hx
      rw [hy]
      simp only [hf k x y he]
theorem farI_al (bs : List (Nat × Nat)) {L M : List PcA} (h : L.map (·.1) = M.map (·.1)) : ∀ k, farI bs L k = farI bs M k
  | 0 => rfl
  | k + 1 => by
    unfold farI
    rw [farI_al bs h k]
    cases hx : L[k]? with
    | none =>
      have := al_get h k
      cases hy : M[k]? with
      | none => rfl
      | some y => rw [hx, hy] at this; cases this
    | some x =>
      obtain ⟨y, hy, he⟩ := al_get1 h hx
      rw [hy]
      simp only [he]
theorem mapI_al {f : Nat → PcA → PcA} (hf : ∀ k (x y : PcA), x.1 = y.1 → (f k x).1 = (f k y).1) {L M : List PcA} (h : L.map (·.1) = M.map (·.1)) (n : Nat) : (mapI f L n).map (·.1) = (mapI f M n).map (·.1) := by
  refine List.ext_getElem? (fun k => ?_)
  rw [List.getElem?_map, List.getElem?_map, mapI_at, mapI_at]
  cases hx : L[k]? with
  | none =>
    have := al_get h k
    cases hy : M[k]? with
    | none => rfl
    | some y => rw [hx, hy] at this; cases this
  | some x =>
    obtain ⟨y, hy, he⟩ := al_get1 h hx
    rw [hy]
    simp only [Option.map_some]
    by_cases hk : k < n
    · rw [if_pos hk, if_pos hk, hf k x y he]
    · rw [if_neg hk, if_neg hk, he]
theorem topL_al : ∀ {L M : List PcA}, L.map (·.1) = M.map (·.1) → topL L = topL M
  | [], [], _ => rfl
  | [], _ :: _, h => by simp at h
  | _ :: _, [], h => by simp at h
  | x :: L, y :: M, h => by
    simp only [List.map_cons, List.cons.injEq] at h
    unfold topL
    rw [h.1, topL_al h.2]
theorem mapTo_al {f : PcA → PcA} (hf : ∀ x y : PcA, x.1 = y.1 → (f x).1 = (f y).1) {L M : List PcA} (h : L.map (·.1) = M.map (·.1)) (k : Nat) : (mapTo f L k).map (·.1) = (mapTo f M k).map (·.1) := by
  unfold mapTo
  rw [List.map_append, List.map_append, al_drop h k, List.map_map, List.map_map]
  congr 1
  exact al_map (f := fun x => (f x).1) (fun x y e => hf x y e) (al_take h k)
-- the parts
theorem dueB_al (x y : PcA) (h : x.1 = y.1) : dueB x = dueB y := by unfold dueB; rw [h]
theorem szP_al (x y : PcA) (h : x.1 = y.1) : szP x = szP y := by unfold szP; rw [dueB_al x y h, h]
theorem ctP_al (x y : PcA) (h : x.1 = y.1) : ctP x = ctP y := by unfold ctP; rw [dueB_al x y h]
theorem lnP_al (x y : PcA) (h : x.1 = y.1) : lnP x = lnP y := by unfold lnP; rw [dueB_al x y h, h]
theorem flyP_al (wy : Int) (x y : PcA) (h : x.1 = y.1) : flyP wy x = flyP wy y := by unfold flyP; rw [h]
theorem cntP_al (wy : Nat) (x y : PcA) (h : x.1 = y.1) : cntP wy x = cntP wy y := by unfold cntP; rw [h]
theorem tkN_al (wy : Nat) (bs : List (Nat × Nat)) (k : Nat) (x y : PcA) (h : x.1 = y.1) : tkN wy bs k x = tkN wy bs k y := by unfold tkN; rw [cntP_al wy x y h]
theorem fastP_al (x y : PcA) (h : x.1 = y.1) : fastP x = fastP y := by unfold fastP; rw [h]
theorem misP_al (x y : PcA) (h : x.1 = y.1) : (misP x).1 = (misP y).1 := by
  unfold misP
  rw [h]
  split <;> simp [h]
theorem tkP_al (bs : List (Nat × Nat)) (k : Nat) (x y : PcA) (h : x.1 = y.1) : (tkP bs k x).1 = (tkP bs k y).1 := by
  unfold tkP
  rw [h]
  (repeat' split) <;> simp [h]
theorem sndF_al (wy : Nat) (x y : PcA) (h : x.1 = y.1) : (sndF wy x).1 = (sndF wy y).1 := by
  unfold sndF
  rw [dueB_al x y h]
  split <;> simp [h]
theorem airL_al {L M : List PcA} (h : L.map (·.1) = M.map (·.1)) (i : Nat) : airL L i = airL M i := by
  unfold airL
  rw [al_len h, sumG_al (flyP_al 0) h, sumG_al (flyP_al 1) h]
theorem skB_al (wy : Nat) (bs : List (Nat × Nat)) (G : Nat) {L M : List PcA} (h : L.map (·.1) = M.map (·.1)) : skB wy bs G L = skB wy bs G M := by
  unfold skB
  rw [sumG_al (cntP_al wy) h, sumI_al (tkN_al wy bs) (al_drop h G), al_len (al_drop h G)]
theorem skL_al (bs : List (Nat × Nat)) (G : Nat) {L M : List PcA} (h : L.map (·.1) = M.map (·.1)) : (skL bs G L).map (·.1) = (skL bs G M).map (·.1) := by
  unfold skL
  rw [al_len (al_drop h G)]
  exact mapI_al (tkP_al bs) (al_drop h G) _
theorem skF_al (bs : List (Nat × Nat)) (G : Nat) {L M : List PcA} (h : L.map (·.1) = M.map (·.1)) : skF bs G L = skF bs G M := by
  unfold skF
  rw [farI_al bs (al_drop h G), al_len (al_drop h G), al_len (skL_al bs G h)]
theorem skM_al (bs : List (Nat × Nat)) (G : Nat) {L M : List PcA} (h : L.map (·.1) = M.map (·.1)) : (skM bs G L).map (·.1) = (skM bs G M).map (·.1) := by
  unfold skM
  rw [skF_al bs G h]
  exact mapI_al (fun _ => misP_al) (skL_al bs G h) _
theorem skFast_al (bs : List (Nat × Nat)) (G : Nat) {L M : List PcA} (h : L.map (·.1) = M.map (·.1)) : skFast bs G L = skFast bs G M := by
  unfold skFast
  rw [sumG_al fastP_al (skL_al bs G h), skF_al bs G h]
theorem stopP_al {L M : List PcA} (h : L.map (·.1) = M.map (·.1)) (room most air k : Nat) (hs : stopP L room most air k) : stopP M room most air k := by
  obtain ⟨x, hx, hd, h3⟩ := hs
  obtain ⟨y, hy, he⟩ := al_get1 h hx
  refine ⟨y, hy, by rw [← dueB_al x y he]; exact hd, ?_⟩
  rw [← sumG_al szP_al h, ← sumG_al ctP_al h, ← sumG_al lnP_al h, ← he]
  exact h3
theorem filt_al {L M : List PcA} (h : L.map (·.1) = M.map (·.1)) : (L.filter dueB).map (·.1) = (M.filter dueB).map (·.1) := by
  have h1 : ∀ l : List PcA, (l.filter dueB).map (·.1) = (l.map (·.1)).filter (fun p => dueB (p, none, 0)) := by
    intro l
    induction l with
    | nil => rfl
    | cons x l ih =>
      rw [List.filter_cons, List.map_cons, List.filter_cons, ← ih, show dueB (x.1, none, 0) = dueB x from dueB_al _ _ rfl]
      split <;> simp
  rw [h1, h1, h]
end Go.Proofs.Ytconfmjgoipejaa
namespace Go.Proofs.Ytconfmjgoipejaa
def stopB (L : List PcA) (room most air k : Nat) : Bool :=
  match L[k]? with
  | some x => dueB x && (decide (most < sumG szP L (k + 1)) || (decide (sumG ctP L k = 16) || (decide (x.1.is = 0) && (decide (0 < air + sumG lnP L k) && decide (room < air + sumG lnP L k + x.1.zs.length)))))
  | none => false
theorem stop_iff (L : List PcA) (room most air k : Nat) : stopP L room most air k ↔ stopB L room most air k = true := by
  unfold stopB
  constructor
  · rintro ⟨x, hx, hd, h⟩
    rw [hx]
    simp only [hd, Bool.true_and, Bool.or_eq_true, Bool.and_eq_true, decide_eq_true_eq]
    exact h
  · intro h
    cases hx : L[k]? with
    | none => rw [hx] at h; cases h
    | some x =>
      rw [hx] at h
      simp only [Bool.or_eq_true, Bool.and_eq_true, decide_eq_true_eq] at h
      exact ⟨x, hx, h.1, h.2⟩
def sndK (L : List PcA) (room most air : Nat) : Nat := ((List.range L.length).find? (stopB L room most air)).getD L.length
theorem sndK_eq {L : List PcA} {room most air K : Nat} (hK : K ≤ L.length) (hgo : ∀ j, j < K → ¬ stopP L room most air j) (hst : K = L.length ∨ stopP L room most air K) : K = sndK L room most air := by
  unfold sndK
  cases hf : (List.range L.length).find? (stopB L room most air) with
  | none =>
    rcases hst with e | e
    · exact e
    · rw [List.find?_range_eq_none] at hf
      rcases Nat.lt_or_ge K L.length with h | h
      · have := hf K h
        rw [(stop_iff _ _ _ _ _).1 e] at this
        cases this
      · show K = L.length
        omega
  | some j =>
    rw [List.find?_range_eq_some] at hf
    obtain ⟨h1, h2, h3⟩ := hf
    have hj : j < L.length := by simpa using h2
    show K = j
    rcases Nat.lt_trichotomy K j with h | h | h
    · have h4 := h3 K h
      rcases hst with e | e
      · omega
      · rw [(stop_iff _ _ _ _ _).1 e] at h4
        cases h4
    · exact h
    · exact absurd ((stop_iff _ _ _ _ _).2 h1) (hgo j h)
theorem stopB_al {L M : List PcA} (h : L.map (·.1) = M.map (·.1)) (room most air k : Nat) : stopB L room most air k = stopB M room most air k := by
  rw [Bool.eq_iff_iff, ← stop_iff, ← stop_iff]
  exact ⟨stopP_al h room most air k, stopP_al h.symm room most air k⟩
theorem sndK_al {L M : List PcA} (h : L.map (·.1) = M.map (·.1)) (room most air : Nat) : sndK L room most air = sndK M room most air := by
  unfold sndK
  rw [al_len h, show stopB L room most air = stopB M room most air from funext (stopB_al h room most air)]
-- OutqMissed
def misT (c0 j : Nat) : Nat := addV 4294967296 c0 ((0 + j + 1 : Nat) : Int)
def misZ (c0 k : Nat) : List Pc := (List.range (k + 2)).map fun j => ⟨misT c0 j, (if j = 0 then 2 else 0) + (if j = k + 1 then 1 else 0), 0, 0, 0, [0], 0, 0, 0⟩
def misS (c0 k i : Nat) : List Pc := (List.range (k + 2)).map fun j => ⟨misT c0 j, (if j = 0 then 2 else 0) + (if j = k + 1 then 1 else 0), 0, 0, 0, [0], if j = 0 then (if 3 ≤ i then 2 else 1) else if j ≤ i then 3 else if j ≤ k then 1 else 0, 0, if j = 0 then min i 3 else 0⟩
theorem nine {P : Nat → Prop} (h1 : P 1) (h2 : P 2) (h3 : P 3) (h4 : P 4) (h5 : P 5) (h6 : P 6) (h7 : P 7) (h8 : P 8) (h9 : P 9) {k : Nat} (hk : 1 ≤ k) (hk9 : k ≤ 9) : P k := by
  obtain rfl | rfl | rfl | rfl | rfl | rfl | rfl | rfl | rfl : k = 1 ∨ k = 2 ∨ k = 3 ∨ k = 4 ∨ k = 5 ∨ k = 6 ∨ k = 7 ∨ k = 8 ∨ k = 9 := by omega
  all_goals assumption
theorem mis_push (c0 : Nat) {k : Nat} (hk : 1 ≤ k) (hk9 : k ≤ 9) : markL (cntN (k + 2) 1) ((List.range (cntN (k + 2) 1)).map (newPc c0 0 (nmF false) 0 (nmS false [0] 0) 0 1 (List.replicate (k + 2) 0))) = misZ c0 k := by
  refine nine (P := fun k => markL (cntN (k + 2) 1) ((List.range (cntN (k + 2) 1)).map (newPc c0 0 (nmF false) 0 (nmS false [0] 0) 0 1 (List.replicate (k + 2) 0))) = misZ c0 k) ?_ ?_ ?_ ?_ ?_ ?_ ?_ ?_ ?_ hk hk9 <;> kernel_rfl
theorem mis_K (c0 : Nat) {k : Nat} (hk : 1 ≤ k) (hk9 : k ≤ 9) : sndK (upL (misZ c0 k)) (k + 1) 1000 (airL (upL (misZ c0 k)) 2) = k + 1 := by
  refine nine (P := fun k => sndK (upL (misZ c0 k)) (k + 1) 1000 (airL (upL (misZ c0 k)) 2) = k + 1) ?_ ?_ ?_ ?_ ?_ ?_ ?_ ?_ ?_ hk hk9 <;> kernel_rfl
theorem mis_sent (c0 : Nat) {k : Nat} (hk : 1 ≤ k) (hk9 : k ≤ 9) : (mapTo (sndF 0) (upL (misZ c0 k)) (k + 1)).map (·.1) = misS c0 k 0 := by
  refine nine (P := fun k => (mapTo (sndF 0) (upL (misZ c0 k)) (k + 1)).map (·.1) = misS c0 k 0) ?_ ?_ ?_ ?_ ?_ ?_ ?_ ?_ ?_ hk hk9 <;> kernel_rfl
theorem mis_out (c0 : Nat) {k : Nat} (hk : 1 ≤ k) (hk9 : k ≤ 9) : (((upL (misZ c0 k)).take (k + 1)).filter dueB).length = k + 1 := by
  refine nine (P := fun k => (((upL (misZ c0 k)).take (k + 1)).filter dueB).length = k + 1) ?_ ?_ ?_ ?_ ?_ ?_ ?_ ?_ ?_ hk hk9 <;> kernel_rfl
theorem eight {P : Nat → Prop} (h0 : P 0) (h1 : P 1) (h2 : P 2) (h3 : P 3) (h4 : P 4) (h5 : P 5) (h6 : P 6) (h7 : P 7) (h8 : P 8) {i : Nat} (hi : i < 9) : P i := by
  obtain rfl | rfl | rfl | rfl | rfl | rfl | rfl | rfl | rfl : i = 0 ∨ i = 1 ∨ i = 2 ∨ i = 3 ∨ i = 4 ∨ i = 5 ∨ i = 6 ∨ i = 7 ∨ i = 8 := by omega
  all_goals assumption
def misOk (c0 k i : Nat) : Prop := (skB 0 [(2, 2 + i)] 0 (upL (misS c0 k i)), skFast [(2, 2 + i)] 0 (upL (misS c0 k i)), (skM [(2, 2 + i)] 0 (upL (misS c0 k i))).map (·.1), topL (upL (misS c0 k i))) = (1, decide (i = 2), misS c0 k (i + 1), k + 1)
theorem mis_step (c0 : Nat) {k i : Nat} (hk : 1 ≤ k) (hk9 : k ≤ 9) (hi : i < k) : misOk c0 k i := by
  refine nine (P := fun k => i < k → misOk c0 k i) ?_ ?_ ?_ ?_ ?_ ?_ ?_ ?_ ?_ hk hk9 hi
  all_goals
    intro hi
    refine eight (P := fun i => i < _ → misOk c0 _ i) ?_ ?_ ?_ ?_ ?_ ?_ ?_ ?_ ?_ (by omega) hi
  all_goals first
    | (intro h; exact absurd h (by decide))
    | (intro _; show (_ = _); kernel_rfl)
theorem mis_end (c0 : Nat) {k : Nat} (hk : 1 ≤ k) (hk9 : k ≤ 9) : (((upL (misS c0 k k)).take (sndK (upL (misS c0 k k)) 1000 20 (airL (upL (misS c0 k k)) 2))).filter dueB).map (fun x => x.1.t) = [misT c0 (if 3 ≤ k then 0 else k + 1)] := by
  refine nine (P := fun k => (((upL (misS c0 k k)).take (sndK (upL (misS c0 k k)) 1000 20 (airL (upL (misS c0 k k)) 2))).filter dueB).map (fun x => x.1.t) = [misT c0 (if 3 ≤ k then 0 else k + 1)]) ?_ ?_ ?_ ?_ ?_ ?_ ?_ ?_ ?_ hk hk9 <;> kernel_rfl
end Go.Proofs.Ytconfmjgoipejaa
namespace Go.Proofs.Ytconfmjgoipejaa
open Go.RowKit Go.Shelf
/-- A queue all of whose blocks lie from B on; its pieces' bytes below D. -/
structure OwQ (B D q : Nat) (L : List PcA) (cum size : Nat) (nx : List Nat) (W : World) : Prop where
  ex : ∃ nb pa cap, QuW W q nb pa cap L cum size nx ∧ ∀ b, qB q nb pa b → B ≤ b
  dt : ∀ x ∈ L, ∀ g, (Value.slice x.2.1 x.1.zs.length x.2.2).ownBlock = some g → g < D
/-- What the calls may turn. -/
def qT (B : Nat) (W : World) (b : Nat) : Prop := B ≤ b ∧ (BT W b 71 ∨ BT W b 34 ∨ BT W b 82)
theorem qT_not {B : Nat} {W : World} {b : Nat} {T : TypeId} (h : BT W b T) (h1 : T ≠ 71) (h2 : T ≠ 34) (h3 : T ≠ 82) : ¬ qT B W b := by
  rintro ⟨_, e | e | e⟩
  · exact h.ne e h1 rfl
  · exact h.ne e h2 rfl
  · exact h.ne e h3 rfl
theorem OwnB.frO {w w' : World} {B : Nat} {a : Option Addr} {n c : Nat} {zs : List Nat} {Q : Nat → Prop} (h : OwnB w B a n c zs) (hf : Fr Q w w') (hq : ∀ g, (Value.slice a n c).ownBlock = some g → ¬ Q g) : OwnB w' B a n c zs := by
  obtain ⟨h1, ⟨h2, h3⟩, h4⟩ := h
  refine ⟨h1, ⟨h2, ?_⟩, h4⟩
  rcases h3 with h3 | ⟨g, cap, cur, hv, hb, hh, hr⟩
  · exact .inl h3
  · injection hv with e1 e2 e3
    subst e1 e3
    exact .inr ⟨g, c, cur, rfl, hb, (hf.block g (Array.getElem?_eq_some_iff.1 hh).1 (hq g rfl)).trans hh, hr⟩
theorem OwnB.lt {w : World} {B : Nat} {a : Option Addr} {n c : Nat} {zs : List Nat} (h : OwnB w B a n c zs) : ∀ g, (Value.slice a n c).ownBlock = some g → g < w.heap.size := fun g hg => (h.bt g hg).lt
section
variable {W W' : World} {B D q : Nat} {L : List PcA} {cum size : Nat} {nx : List Nat}
theorem OwQ.gt (h : OwQ B D q L cum size nx W) : q < W.heap.size := by
  obtain ⟨⟨nb, pa, cap, hq, _⟩, _⟩ := h
  exact hq.tq.lt
theorem OwQ.le (h : OwQ B D q L cum size nx W) : B ≤ q := by
  obtain ⟨⟨nb, pa, cap, hq, hb⟩, _⟩ := h
  exact hb q (.inl rfl)
/-- A frame that spares these types and the bytes below D. -/
theorem OwQ.fr {Q : Nat → Prop} (h : OwQ B D q L cum size nx W) (hf : Fr Q W W') (hT : ∀ b T, Q b → BT W b T → T ≠ 71 ∧ T ≠ 34 ∧ T ≠ 82) (hD : ∀ b, Q b → D ≤ b ∨ ∃ T, BT W b T ∧ T ≠ 5) : OwQ B D q L cum size nx W' := by
  obtain ⟨⟨nb, pa, cap, h, hb⟩, hd⟩ := h
  have hq : ¬ Q q := fun e => (hT _ _ e h.tq).1 rfl
  have hn : ¬ Q nb := fun e => (hT _ _ e h.tn).2.1 rfl
  have hp : ∀ g, (Value.slice pa L.length cap).ownBlock = some g → ¬ Q g := fun g hg e => (hT _ _ e (h.row.bt g hg)).2.2 rfl
  refine ⟨⟨nb, pa, cap, ⟨h.tq.same (hf.block _ h.tq.lt hq), h.tn.same (hf.block _ h.tn.lt hn), (hf.cell _ h.tq.lt hq).trans h.c0, (hf.cell _ h.tq.lt hq).trans h.c1, (hf.cell _ h.tq.lt hq).trans h.c2, (hf.cell _ h.tq.lt hq).trans h.c3,
    fun i => (hf.frozen ⟨q, i, none⟩ h.tq.lt hq).trans (h.fq i), fun i hi => (hf.cell _ h.tn.lt hn).trans (h.nc i hi), fun i => (hf.frozen ⟨nb, i, none⟩ h.tn.lt hn).trans (h.fn i), h.row.fr hf hp, fun x hx => (h.dat x hx).frO hf (fun g hg e => ?_)⟩, hb⟩, hd⟩
  rcases hD g e with e1 | ⟨T, e1, e2⟩
  · have := hd x hx g hg; omega
  · exact e1.ne ((h.dat x hx).bt g hg) e2 rfl
theorem OwQ.below (h : OwQ B D q L cum size nx W) (hb : Below W.heap.size W W') : OwQ B D q L cum size nx W' :=
  h.fr (Q := fun _ => False) (Fr.of_below hb) (fun _ _ e => e.elim) (fun _ e => e.elim)
theorem OwQ.topD (h : OwQ B D q L cum size nx W) : OwQ B W.heap.size q L cum size nx W := by
  obtain ⟨⟨nb, pa, cap, hq, hb⟩, _⟩ := h
  exact ⟨⟨nb, pa, cap, hq, hb⟩, fun x hx => (hq.dat x hx).lt⟩
/-- The calls' own frame, told by types. -/
theorem own_fr {nb : Nat} {pa : Option Addr} {cap : Nat} (hq : QuW W q nb pa cap L cum size nx) (hb : ∀ b, qB q nb pa b → B ≤ b) (hf : Fr (qB q nb pa) W W') : Fr (qT B W) W W' := by
  refine hf.mono (fun b _ e => ⟨hb b e, ?_⟩)
  rcases e with rfl | rfl | ⟨o, s, e⟩
  · exact .inl hq.tq
  · exact .inr (.inl hq.tn)
  · refine .inr (.inr ?_)
    rcases hq.row.own.2 with ⟨hv, _⟩ | ⟨g, cap2, cur, hv, _, hh, _⟩
    · injection hv with e1
      rw [e1] at e
      cases e
    · injection hv with e1
      rw [e1] at e
      injection e with e
      injection e with e _ _
      subst e
      exact ⟨cur, _, hh⟩
theorem OwQ.new {w : World} {e : Ending} {cum size outs : Nat} (h : NewP w cum size outs e W) : ∃ q, e = .returned (.tuple #[.pointer (some ⟨q, 0, none⟩), .int .i64 0]) ∧ OwQ w.heap.size W.heap.size q [] cum size (List.replicate outs 0) W := by
  obtain ⟨⟨q, nb, rfl, hq, h1, h2⟩, hb⟩ := h
  refine ⟨q, rfl, ⟨nb, none, 0, hq, fun b hb => ?_⟩, fun x hx => (by cases hx)⟩
  rcases hb with rfl | rfl | ⟨o, s, e⟩
  · exact h1
  · exact h2
  · cases e
structure PshO (B q : Nat) (L : List PcA) (cum size : Nat) (nx : List Nat) (ps : List Pc) (W : World) (e : Ending) (W' : World) : Prop where
  ex : e = .returned (.int .i64 0)
  qu : ∃ M, OwQ B W'.heap.size q (L ++ M) cum size nx W' ∧ M.map (·.1) = ps
  fr : Fr (qT B W) W W'
theorem push_own (h : OwQ B D q L cum size nx W) (hL : L.length ≤ 100000) (hS : sumL L L.length ≤ 100000) (hc : cum < 4294967296) (hz : 1 ≤ size) (hz2 : size ≤ 100000) (hnx : ∀ i, nx.getD i 0 < 65536) (st ss pp : Nat) (fr : Bool) {da : Option Addr} {dn dc : Nat} {zs : List Nat} (hst : st < 65536) (hs : Sl W da dn dc zs) (hsk : ∀ b o s, da = some ⟨b, o, s⟩ → b < W.heap.size ∧ (b < B ∨ ∃ T, BT W b T ∧ T ≠ 71 ∧ T ≠ 34 ∧ T ≠ 82))
    (hgood : mpE nx.length st dn (sumL L L.length) = 0) :
    Calls Try.prog 12 #[.pointer (some ⟨q, 0, none⟩), .agg #[.int .u16 (st : Nat), .int .u16 (ss : Nat), .int .u32 (pp : Nat), .bool fr, .slice da dn dc]] W (PshO B q L cum size (nmX fr nx st) (markL (cntN dn size) ((List.range (cntN dn size)).map (newPc cum L.length (nmF fr) st (nmS fr nx st) pp size zs))) W) := by
  have hgt := h.gt
  have hle := h.le
  obtain ⟨⟨nb, pa, cap, hq, hb⟩, hd⟩ := h
  have ht : ∀ b T, BT W b T → T ≠ 71 → T ≠ 34 → T ≠ 82 → ¬ qB q nb pa b := fun b T hbt h1 h2 h3 e => by
    have : qT B W b := by
      refine ⟨hb b e, ?_⟩
      rcases e with rfl | rfl | ⟨o, s, e⟩
      · exact .inl hq.tq
      · exact .inr (.inl hq.tn)
      · refine .inr (.inr ?_)
        rcases hq.row.own.2 with ⟨hv, _⟩ | ⟨g, cap2, cur, hv, _, hh, _⟩
        · injection hv with e1
          rw [e1] at e
          cases e
        · injection hv with e1
          rw [e1] at e
          injection e with e
          injection e with e _ _
          subst e
          exact ⟨cur, _, hh⟩
    exact qT_not hbt h1 h2 h3 this
  refine (push_ok hq hL hS hc hz hz2 hnx st ss pp fr hst hs (fun b o s e => ?_) hgood).mono ?_
  · obtain ⟨h1, h2⟩ := hsk b o s e
    refine ⟨h1, fun e2 => ?_⟩
    rcases h2 with h2 | ⟨T, h2, h3, h4, h5⟩
    · have := hb b e2; omega
    · exact ht b T h2 h3 h4 h5 e2
  · rintro e W' ⟨rfl, ⟨pa2, cap2, M, hq2, hM, hpn⟩, hf⟩
    refine ⟨rfl, ⟨M, ⟨⟨nb, pa2, cap2, hq2, fun b hb2 => ?_⟩, fun x hx => (hq2.dat x hx).lt⟩, hM⟩, own_fr hq hb hf⟩
    rcases hb2 with rfl | rfl | ⟨o, s, e⟩
    · exact hle
    · exact hb _ (.inr (.inl rfl))
    · rcases hpn b o s e with h1 | h1
      · exact hb b h1
      · omega
structure SndO (B D q : Nat) (L : List PcA) (cum size : Nat) (nx : List Nat) (wy room most : Nat) (W : World) (e : Ending) (W' : World) : Prop where
  ex : ∃ sa sc ys, e = .returned (.tuple #[.slice sa (List.length ys) sc, .int .i64 0]) ∧ OwnG 47 14 chQ W' W.heap.size sa ys.length sc ys ∧ (∀ y ∈ ys, OwnB W' W.heap.size y.2.1 y.1.zs.length y.2.2 y.1.zs) ∧
    ys.map (·.1) = ((L.take (sndK L room most (airL L 2))).filter dueB).map (·.1)
  qu : OwQ B D q (mapTo (sndF wy) L (sndK L room most (airL L 2))) cum size nx W'
  fr : Fr (qT B W) W W'
theorem sndF_two (wy : Nat) (x : PcA) : (sndF wy x).2 = x.2 ∧ (sndF wy x).1.zs = x.1.zs := by
  unfold sndF
  split <;> exact ⟨rfl, rfl⟩
theorem mapTo_mem {f : PcA → PcA} {L : List PcA} {k : Nat} {y : PcA} (h : y ∈ mapTo f L k) : ∃ x ∈ L, y = f x ∨ y = x := by
  unfold mapTo at h
  rcases List.mem_append.1 h with h | h
  · obtain ⟨x, hx, rfl⟩ := List.mem_map.1 h
    exact ⟨x, List.mem_of_mem_take hx, .inl rfl⟩
  · exact ⟨y, List.mem_of_mem_drop h, .inr rfl⟩
theorem send_own (h : OwQ B D q L cum size nx W) (hL : L.length ≤ 100000) (hS : sumL L L.length ≤ 100000) (wy room most : Nat) (hwy : wy < 2) (hroom : room ≤ 1000000000) :
    Calls Try.prog 13 #[.pointer (some ⟨q, 0, none⟩), .int .i64 (wy : Nat), .int .i64 (room : Nat), .int .i64 (most : Nat)] W (SndO B D q L cum size nx wy room most W) := by
  obtain ⟨⟨nb, pa, cap, hq, hb⟩, hd⟩ := h
  refine (send_ok hq hL hS wy room most hwy hroom).mono ?_
  rintro e W' ⟨⟨K, sa, sc, ys, rfl, hK, hq2, how, hda, hys, hgo, hst⟩, hf⟩
  obtain rfl := sndK_eq hK hgo hst
  refine ⟨⟨sa, sc, ys, rfl, how, hda, hys⟩, ⟨⟨nb, pa, cap, hq2, hb⟩, fun y hy g hg => ?_⟩, own_fr hq hb hf⟩
  obtain ⟨x, hx, rfl | rfl⟩ := mapTo_mem hy
  · obtain ⟨h1, h2⟩ := sndF_two wy x
    rw [h1, h2] at hg
    exact hd x hx g hg
  · exact hd y hx g hg
structure SckO (B D q : Nat) (L : List PcA) (size : Nat) (nx : List Nat) (t : Nat) (bs : List (Nat × Nat)) (G : Nat) (W : World) (e : Ending) (W' : World) : Prop where
  ex : e = .returned (.tuple #[.agg #[.int .i64 (skB 0 bs G L : Nat), .int .i64 (skB 1 bs G L : Nat), .bool (decide (0 < G)), .bool (skFast bs G L)], .int .i64 0])
  qu : OwQ B D q (skM bs G L) t size nx W'
  fr : Fr (qT B W) W W'
theorem mapI_mem {f : Nat → PcA → PcA} {L : List PcA} {k : Nat} {y : PcA} (h : y ∈ mapI f L k) : ∃ i, ∃ x ∈ L, y = f i x ∨ y = x := by
  obtain ⟨i, hi⟩ := List.getElem?_of_mem h
  rw [mapI_at] at hi
  cases hx : L[i]? with
  | none => rw [hx] at hi; cases hi
  | some x =>
    rw [hx] at hi
    injection hi with hi
    refine ⟨i, x, List.mem_of_getElem? hx, ?_⟩
    by_cases h : i < k
    · simp only [if_pos h] at hi; exact .inl hi.symm
    · simp only [if_neg h] at hi; exact .inr hi.symm
theorem skM_mem {bs : List (Nat × Nat)} {G : Nat} {L : List PcA} {y : PcA} (h : y ∈ skM bs G L) : ∃ x ∈ L, y.2 = x.2 ∧ y.1.zs = x.1.zs := by
  have hm : ∀ x : PcA, (misP x).2 = x.2 ∧ (misP x).1.zs = x.1.zs := fun x => by
    unfold misP
    split <;> exact ⟨rfl, rfl⟩
  have ht : ∀ (i : Nat) (x : PcA), (tkP bs i x).2 = x.2 ∧ (tkP bs i x).1.zs = x.1.zs := fun i x => by
    unfold tkP
    (repeat' split) <;> exact ⟨rfl, rfl⟩
  obtain ⟨i, z, hz, hy⟩ := mapI_mem h
  obtain ⟨j, x, hx, hz2⟩ := mapI_mem hz
  refine ⟨x, List.mem_of_mem_drop hx, ?_⟩
  have e1 : y.2 = z.2 ∧ y.1.zs = z.1.zs := by
    rcases hy with rfl | rfl
    · exact hm z
    · exact ⟨rfl, rfl⟩
  have e2 : z.2 = x.2 ∧ z.1.zs = x.1.zs := by
    rcases hz2 with rfl | rfl
    · exact ht j x
    · exact ⟨rfl, rfl⟩
  exact ⟨e1.1.trans e2.1, e1.2.trans e2.2⟩
theorem sack_own (h : OwQ B D q L cum size nx W) (hL : L.length ≤ 100000) (hS : sumL L L.length ≤ 100000) (hw : ∀ x ∈ L, x.1.is = 1 → x.1.wy < 2) (hm : ∀ x ∈ L, x.1.ms ≤ 100000) (hc : cum < 4294967296)
    (t G : Nat) (ht : t < 4294967296) (hG : aheadV 4294967296 cum t = (G : Int)) (hGT : G ≤ topL L) {ba : Option Addr} {bn bc : Nat} {bs : List (Nat × Nat)} (hB : BlR W ba bn bc bs) (hbk : ∀ b o s, ba = some ⟨b, o, s⟩ → ∃ T, BT W b T ∧ T ≠ 71 ∧ T ≠ 34 ∧ T ≠ 82) (h16 : bn ≤ 16) (hok : blkOk G (topL L) bs) :
    Calls Try.prog 17 #[.pointer (some ⟨q, 0, none⟩), .agg (skV t ba bn bc).toArray] W (SckO B D q L size nx t bs G W) := by
  obtain ⟨⟨nb, pa, cap, hq, hb⟩, hd⟩ := h
  have hnt : ∀ b T, BT W b T → T ≠ 71 → T ≠ 34 → T ≠ 82 → ¬ qB q nb pa b := fun b T hbt h1 h2 h3 e => by
    rcases e with rfl | rfl | ⟨o, s, e⟩
    · exact hbt.ne hq.tq h1 rfl
    · exact hbt.ne hq.tn h2 rfl
    · rcases hq.row.own.2 with ⟨hv, _⟩ | ⟨g, cap2, cur, hv, _, hh, _⟩
      · injection hv with e1
        rw [e1] at e
        cases e
      · injection hv with e1
        rw [e1] at e
        injection e with e
        injection e with e _ _
        subst e
        exact hbt.ne ⟨cur, _, hh⟩ h3 rfl
  refine (sack_ok hq hL hS hw hm hc t G ht hG hGT hB (fun b o s e => ?_) h16 hok).mono ?_
  · obtain ⟨T, h1, h2, h3, h4⟩ := hbk b o s e
    exact ⟨h1.lt, hnt b T h1 h2 h3 h4⟩
  · rintro e W' ⟨rfl, hq2, hf⟩
    refine ⟨rfl, ⟨⟨nb, pa, cap, hq2, hb⟩, fun y hy g hg => ?_⟩, own_fr hq hb hf⟩
    obtain ⟨x, hx, h1, h2⟩ := skM_mem hy
    rw [h1, h2] at hg
    exact hd x hx g hg
end
end Go.Proofs.Ytconfmjgoipejaa
