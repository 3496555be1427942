/- A range over a function, for bodies that write memory and iterators that range over an iterator: one law for the caller (range_sel), one form of contract for the iterator (Itr). Rounds are counted; which of them come (sel) is read in the world in which they would come; a round keeps the blocks of [B, B + C) and those of Qs. -/
import Derived.Test.YtconfmjgoipejaaFrM
import Derived.Test.YtconfmjgoipejaaProg
import Derived.RangeFuncNested
import Derived.RangeFuncBound
import Derived.RangeFuncCalls
import Derived.RangeFuncLeaves
import Derived.RangeFuncFrom
import Derived.Shelf.Abstract
import Derived.Shelf.RegionOpen
import Derived.WalkKit
import Derived.OwnWalkIn
import Derived.TacticsInMore
import Derived.LoopNIn
import Derived.LoopIn
import Derived.TacticsIn
import Derived.RegionIn
namespace Go.Proofs.Ytconfmjgoipejaa
open Go.RowKit Go.Shelf
attribute [local go_sem] Oper.semAt_some
/-- What a round keeps. -/
structure Kq (B C : Nat) (Qs : Nat → Prop) (W W' : World) : Prop where
  size : W.heap.size ≤ W'.heap.size
  same : ∀ b, (B ≤ b ∧ b < B + C) ∨ Qs b → W'.heap[b]? = W.heap[b]?
theorem Kq.refl (B C : Nat) (Qs : Nat → Prop) (W : World) : Kq B C Qs W W := ⟨Nat.le_refl _, fun _ _ => rfl⟩
theorem Kq.trans {B C : Nat} {Qs : Nat → Prop} {W W' W'' : World} (h : Kq B C Qs W W') (k : Kq B C Qs W' W'') : Kq B C Qs W W'' :=
  ⟨Nat.le_trans h.size k.size, fun b hb => (k.same b hb).trans (h.same b hb)⟩
theorem Kq.sub {B C B' C' : Nat} {Qs Qs' : Nat → Prop} {W W' : World} (h : Kq B C Qs W W') (hB : ∀ b, B' ≤ b → b < B' + C' → (B ≤ b ∧ b < B + C) ∨ Qs b) (hQ : ∀ b, Qs' b → (B ≤ b ∧ b < B + C) ∨ Qs b) : Kq B' C' Qs' W W' :=
  ⟨h.size, fun b hb => h.same b (hb.elim (fun h1 => hB b h1.1 h1.2) (hQ b))⟩
theorem Kq.put {B C : Nat} {Qs : Nat → Prop} (W : World) (l : Nat) (o : Obj) (h1 : ¬ (B ≤ l ∧ l < B + C)) (h2 : ¬ Qs l) : Kq B C Qs W (W.putObj l o) :=
  ⟨(grownBy_putObj' W l o).size, fun b hb => World.putObj_heap_other (fun e => by subst e; exact hb.elim h1 h2)⟩
theorem Kq.cell {B C : Nat} {Qs : Nat → Prop} {W W' : World} (h : Kq B C Qs W W') {b i : Nat} (hb : (B ≤ b ∧ b < B + C) ∨ Qs b) : W'.cell? ⟨b, i, none⟩ = W.cell? ⟨b, i, none⟩ := by
  have := h.same b hb
  simp only [World.cell?, this]
/-- The iterator's contract. -/
def Itr (gf : Nat) (lb : Array Value) (enc : Nat → Array Value) (N C : Nat) (sel : Nat → World → Option Bool) (Qs : Nat → Prop) (Pre : World → Prop) : Prop :=
  ∀ (m l : Nat) (J : Nat → World → Prop) (Jx : World → Prop) (W : World), OwnFrom W.heap.size J → OwnFrom W.heap.size (fun (_ : Unit) W => Jx W) → Pre W → l < W.heap.size → (∀ b, Qs b → b < W.heap.size) →
    (∀ k W1, k < N → J k W1 → (sel k W1 = some true ∧ ∀ m', YieldAt Fence.wide m' Try.prog l (enc k) W1 fun e W' =>
        (e = .returned (.bool true) ∧ J (k + 1) W' ∧ Kq W.heap.size C Qs W1 W') ∨ (e = .returned (.bool false) ∧ Jx W' ∧ Kq W.heap.size C Qs W1 W')) ∨ (sel k W1 = some false ∧ J (k + 1) W1)) →
    J 0 W →
    CallsIn Fence.wide m Try.prog gf (#[.func (.yield l) #[] #[]] ++ lb) W fun e W' => (∃ v, e = .returned v) ∧ (J N W' ∨ Jx W')
/-- How a round's body may be left. -/
def rPost (B C : Nat) (Qs : Nat → Prop) (I : Nat → World → Prop) (Ix : Code → World → Prop) (k : Nat) (W : World) : Exit → Act → World → Prop
  | .normal, _, W' => Kq B C Qs W W' ∧ I (k + 1) W'
  | .ret, _, W' => Kq B C Qs W W' ∧ Ix .ret W'
  | .exit id, _, W' => Kq B C Qs W W' ∧ Ix (.exit id) W'
  | .goto t, _, W' => Kq B C Qs W W' ∧ Ix (.goto t) W'
  | .panic _, _, _ => False
  | .outgrown, _, _ => False
theorem own_put {J : World → Prop} {B : Nat} (h : OwnFrom B (fun (_ : Unit) W => J W)) {W : World} {l : Nat} {o : Obj} (o' : Obj) (hs : J W) (hB : B ≤ l) (hl : W.heap[l]? = some o) (ho : o.isCells = false) : J (W.putObj l o') :=
  OwnFrom.putObj (I := fun (_ : Unit) W => J W) h (s := ()) o' hs hB hl ho
theorem grown_same {A B : World} {row : Option Nat} (hg : A.grownBy B row) {b n : Nat} {o : Obj} (h : A.heap[b]? = some o) (hr : ∀ r, row = some r → n ≤ r) (hb : b < n) : B.heap[b]? = some o :=
  (hg.block b (Array.getElem?_eq_some_iff.1 h).1 (fun e => by have := hr b e.symm; omega)).trans h
set_option maxHeartbeats 1000000 in
/-- The caller's law. -/
theorem range_sel {g : Operand} {ps : Array Tmp} {assign body : Code} {Q : Exit → Act → World → Prop} {a : Act} {w : World} {n : Nat}
    {gf : Nat} {lb : Array Value} (hg : a.eval g = .func (.func gf) #[] lb) (eg : ∀ args w, (callFunc gf args).run Try.prog w = .ok (.enter gf args) w)
    {enc : Nat → Array Value} {N C : Nat} {sel : Nat → World → Option Bool} {Qs : Nat → Prop} {Pre : World → Prop} (hit : Itr gf lb enc N C sel Qs Pre) (hps : ∀ k, (enc k).size = ps.size)
    (hpre : ∀ W, Below w.heap.size w W → Pre W) (hQ : ∀ b, Qs b → b < w.heap.size)
    (I IY : Nat → World → Prop) (Ix : Code → World → Prop) (hI : OwnFrom w.heap.size I) (hIY : OwnFrom w.heap.size IY) (hIx : ∀ c, OwnFrom w.heap.size (fun (_ : Unit) W => Ix c W)) (h0 : I 0 w)
    (hround : ∀ k W, k < N → I k W → (sel k W = some true ∧ IY k W) ∨ (sel k W = some false ∧ I (k + 1) W))
    (a₁ : Nat → Act)
    (hassign : ∀ (n' l k : Nat) (W : World) (K : Act → World → Prop), K (a₁ k) W →
      assign.wpIn (Fence.wide.inRound l) n' Try.prog (Exit.then K (fun _ _ _ => False)) { tmps := (ps.zip (enc k)).foldl (fun t (p, v) => t.setIfInBounds p v) a.tmps, defers := [] } W)
    (hbody : ∀ (n' l k : Nat) (W : World), k < N → IY k W → w.heap.size + 2 ≤ W.heap.size → body.wpIn (Fence.wide.inRound l) n' Try.prog (rPost w.heap.size (2 + C) Qs I Ix k W) (a₁ k) W)
    (hdone : ∀ (W : World), I N W → W.heap[w.heap.size]? = some (.deferred (some [])) → Q .normal { a with defers := { target := .collected w.heap.size, args := #[] } :: a.defers } W)
    (hstop : ∀ (c : Code) (W : World), Ix c W → W.heap[w.heap.size]? = some (.deferred (some [])) → c.wpIn Fence.wide n Try.prog Q { a with defers := { target := .collected w.heap.size, args := #[] } :: a.defers } W) :
    (Code.rangeFunc g ps assign body).wpIn Fence.wide n Try.prog Q a w := by
  refine wpIn_rangeFunc ?_
  intro fn _
  obtain ⟨rc, hrc⟩ : ∃ rc : LoopState → Option Code → Loop, rc = fun st pe => { state := st, pending := pe, fn, tmps := a.tmps, params := ps, assign, body, defers := w.heap.size } := ⟨_, rfl⟩
  obtain ⟨W1, hW1⟩ : ∃ W1, (w.alloc (.deferred (some []))).alloc (.loop (rc .ready none)) = W1 := ⟨_, rfl⟩
  have hz : W1.heap.size = w.heap.size + 2 := by rw [← hW1]; simp
  have hL1 : W1.heap[w.heap.size + 1]? = some (.loop (rc .ready none)) := by
    rw [← hW1]
    have := World.alloc_heap_new (w.alloc (.deferred (some []))) (.loop (rc .ready none))
    rwa [World.size_alloc] at this
  have hK1 : W1.heap[w.heap.size]? = some (.deferred (some [])) := by
    rw [← hW1]
    exact (Below.heap_alloc _ _ _ (by simp)).trans (World.alloc_heap_new w _)
  have hb1 : Below w.heap.size w W1 := by
    rw [← hW1]
    exact ((Below.refl _ w).alloc (Nat.le_refl _) _).alloc (by simp) _
  have hI1 : I 0 W1 := by rw [← hW1]; exact hI.alloc _ (hI.alloc _ h0)
  refine ⟨w.heap.size + 1, [{ target := .collected w.heap.size, args := #[] }], W1, { target := .fn (.func gf) lb, args := #[.func (.yield (w.heap.size + 1)) #[] #[]] }, W1, gf,
    #[.func (.yield (w.heap.size + 1)) #[] #[]] ++ lb, W1, ?_, ?_, ?_, ?_, fun h => (by cases h), ?_⟩
  · rw [← hW1, hrc]
    exact run_enterLoop_outer _ _ _ _ _
  · simp only [resolve, hg]
    simp [go_sem]
  · intro f' _
    trivial
  · simp [invoke, go_sem, eg]
  · refine (hit (n - 1) (w.heap.size + 1)
      (fun k W => I k W ∧ W.heap[w.heap.size + 1]? = some (.loop (rc .ready none)) ∧ W.heap[w.heap.size]? = some (.deferred (some [])))
      (fun W => ∃ c, Ix c W ∧ W.heap[w.heap.size + 1]? = some (.loop (rc .done (some c))) ∧ W.heap[w.heap.size]? = some (.deferred (some [])))
      W1 ?_ ?_ (hpre _ hb1) (by omega) (fun b hb => by have := hQ b hb; omega) ?_ ⟨hI1, hL1, hK1⟩).mono ?_
    · intro s A B row hs hg' hr
      have hr1 : ∀ r, row = some r → w.heap.size + 2 ≤ r := fun r e => by have := (hr r e).1; omega
      exact ⟨hI s A B row hs.1 hg' (fun r e => ⟨by have := hr1 r e; omega, (hr r e).2⟩), grown_same hg' hs.2.1 hr1 (by omega), grown_same hg' hs.2.2 hr1 (by omega)⟩
    · intro s A B row hs hg' hr
      obtain ⟨c, hc, h1, h2⟩ := hs
      have hr1 : ∀ r, row = some r → w.heap.size + 2 ≤ r := fun r e => by have := (hr r e).1; omega
      exact ⟨c, hIx c () A B row hc hg' (fun r e => ⟨by have := hr1 r e; omega, (hr r e).2⟩), grown_same hg' h1 hr1 (by omega), grown_same hg' h2 hr1 (by omega)⟩
    · rintro k W hk ⟨hi, hl, hd⟩
      rcases hround k W hk hi with ⟨hs, hy⟩ | ⟨hs, hi2⟩
      · refine .inl ⟨hs, fun m' => ?_⟩
        have hlt : w.heap.size + 1 < W.heap.size := (Array.getElem?_eq_some_iff.1 hl).1
        have hyd := run_yield (P := Try.prog) (args := enc k) hl (by rw [hrc]; exact hps k)
        rw [hrc] at hyd
        refine ⟨fn, _, assign, body, hyd, roundIn_of_wpIn trivial (hassign _ _ k W _ ⟨_, run_beginRound hl (by rw [hrc]), ?_⟩)⟩
        obtain ⟨V, hV⟩ : ∃ V, V = W.putObj (w.heap.size + 1) (.loop { rc .ready none with state := .busy }) := ⟨_, rfl⟩
        have hVl : V.heap[w.heap.size + 1]? = some (.loop { rc .ready none with state := .busy }) := by rw [hV]; exact World.putObj_heap_same hlt
        have hVd : V.heap[w.heap.size]? = some (.deferred (some [])) := by rw [hV]; exact (World.putObj_heap_other (by omega)).trans hd
        have hnq : ¬ Qs (w.heap.size + 1) := fun h => by have := hQ _ h; omega
        have kV : Kq (w.heap.size + 2) C Qs W V := by rw [hV]; exact Kq.put _ _ _ (by omega) hnq
        have hyV : IY k V := by rw [hV]; exact hIY.putObj _ hy (by omega) hl rfl
        rw [← hV]
        have hlast : ∀ (jump : Option Code) (W3 : World), Kq w.heap.size (2 + C) Qs V W3 →
            (Instr.endRound (w.heap.size + 1) jump).run Try.prog W3 = .ok (.bool jump.isNone) (W3.putObj (w.heap.size + 1) (.loop (rc (if jump.isNone then .ready else .done) jump))) ∧
            W3.heap[w.heap.size + 1]? = some (.loop { rc .ready none with state := .busy }) ∧
            (W3.putObj (w.heap.size + 1) (.loop (rc (if jump.isNone then .ready else .done) jump))).heap[w.heap.size + 1]? = some (.loop (rc (if jump.isNone then .ready else .done) jump)) ∧
            (W3.putObj (w.heap.size + 1) (.loop (rc (if jump.isNone then .ready else .done) jump))).heap[w.heap.size]? = some (.deferred (some [])) ∧
            Kq W1.heap.size C Qs W (W3.putObj (w.heap.size + 1) (.loop (rc (if jump.isNone then .ready else .done) jump))) := by
          intro jump W3 hk3
          have h3 := (hk3.same (w.heap.size + 1) (.inl ⟨by omega, by omega⟩)).trans hVl
          have h4 := (hk3.same w.heap.size (.inl ⟨by omega, by omega⟩)).trans hVd
          have h5 := run_endRound (P := Try.prog) jump h3
          refine ⟨?_, h3, World.putObj_heap_same (Array.getElem?_eq_some_iff.1 h3).1, (World.putObj_heap_other (by omega)).trans h4, ?_⟩
          · rw [hrc] at h5 ⊢
            exact h5
          · rw [hz]
            exact (kV.trans (hk3.sub (fun b h1 h2 => .inl ⟨by omega, by omega⟩) (fun b hb => .inr hb))).trans (Kq.put _ _ _ (by omega) hnq)
        refine wpIn_mono (hbody _ _ k V hk hyV (by rw [hV]; have := (grownBy_putObj' W (w.heap.size + 1) (.loop { rc .ready none with state := .busy })).size; omega)) ?_
        rintro e a3 W3 hp
        cases e with
        | normal =>
          obtain ⟨h1, h2, h3, h4, h5⟩ := hlast none W3 hp.1
          exact ⟨_, _, h1, .inl ⟨rfl, ⟨hI.putObj _ hp.2 (by omega) h2 rfl, h3, h4⟩, h5⟩⟩
        | ret =>
          obtain ⟨h1, h2, h3, h4, h5⟩ := hlast (some .ret) W3 hp.1
          exact ⟨_, _, h1, .inr ⟨rfl, ⟨.ret, own_put (hIx _) _ hp.2 (by omega) h2 rfl, h3, h4⟩, h5⟩⟩
        | exit id =>
          obtain ⟨h1, h2, h3, h4, h5⟩ := hlast (some (.exit id)) W3 hp.1
          exact ⟨_, _, h1, .inr ⟨rfl, ⟨.exit id, own_put (hIx _) _ hp.2 (by omega) h2 rfl, h3, h4⟩, h5⟩⟩
        | goto t =>
          obtain ⟨h1, h2, h3, h4, h5⟩ := hlast (some (.goto t)) W3 hp.1
          exact ⟨_, _, h1, .inr ⟨rfl, ⟨.goto t, own_put (hIx _) _ hp.2 (by omega) h2 rfl, h3, h4⟩, h5⟩⟩
        | panic _ => exact hp.elim
        | outgrown => exact hp.elim
      · exact .inr ⟨hs, hi2, hl, hd⟩
    · rintro e W2 ⟨⟨v, rfl⟩, h⟩
      rcases h with ⟨hi, hl, hd⟩ | ⟨c, hi, hl, hd⟩
      · have h5 := run_endLoop (P := Try.prog) hl (by rw [hrc]; simp)
        exact ⟨none, _, (by rw [hrc] at h5; exact h5), hdone _ (hI.putObj _ hi (by omega) hl rfl) ((World.putObj_heap_other (by omega)).trans hd)⟩
      · have h5 := run_endLoop (P := Try.prog) hl (by rw [hrc]; simp)
        exact ⟨some c, _, (by rw [hrc] at h5; exact h5), hstop c _ (own_put (hIx c) _ hi (by omega) hl rfl) ((World.putObj_heap_other (by omega)).trans hd)⟩
end Go.Proofs.Ytconfmjgoipejaa
