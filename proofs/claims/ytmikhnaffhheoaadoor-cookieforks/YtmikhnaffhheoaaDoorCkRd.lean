/- What cookie.each's own functions do where the numbers are read. -/
import Derived.Test.YtmikhnaffhheoaaDoorSt
import Derived.Test.YtmikhnaffhheoaaDoorNum
import Derived.Outline
import Derived.WalkLawsBesides
import Derived.Deep.DeepMust
import Derived.Deep.RegionWith
namespace Go.Proofs.YtmikhnaffhheoaaDoor
open Go.RowKit
/-- A cookie in its block q, the function handed in in vb; the bytes' variable bb, the place's ab. -/
structure EvR (w0 : World) (q vb bb ab rb : Nat) (rs : List Value) (a : Option Addr) (n c : Nat) (xs : List Value) (p : Nat) (w : World) : Prop where
  sx : Stc w q xs
  sa : Stc w ab [.int .i64 (p : Nat)]
  vc : w.cell? ⟨vb, 0, none⟩ = some (.func (.func 38) #[] #[.pointer (some ⟨bb, 0, none⟩), .pointer (some ⟨ab, 0, none⟩)])
  bc : w.cell? ⟨bb, 0, none⟩ = some (.slice a n c)
  vlt : vb < w.heap.size
  blt : bb < w.heap.size
  ne : q ≠ vb ∧ q ≠ bb ∧ q ≠ ab ∧ ab ≠ vb ∧ ab ≠ bb
  qge : w0.heap.size ≤ q
  age : w0.heap.size ≤ ab
  bel : Below w0.heap.size w0 w
  sr : Stc w rb rs
  nr : rb ≠ q ∧ rb ≠ ab
theorem EvR.next {w0 w w' : World} {q vb bb ab rb p n c : Nat} {rs : List Value} {a : Option Addr} {xs : List Value} (h : EvR w0 q vb bb ab rb rs a n c xs p w) (hb : Below w.heap.size w w') : EvR w0 q vb bb ab rb rs a n c xs p w' :=
  ⟨h.sx.below hb, h.sa.below hb, (hb.cell (p := ⟨vb, 0, none⟩) h.vlt).trans h.vc, (hb.cell (p := ⟨bb, 0, none⟩) h.blt).trans h.bc, Nat.lt_of_lt_of_le h.vlt hb.size, Nat.lt_of_lt_of_le h.blt hb.size, h.ne, h.qge, h.age, h.bel.trans (hb.mono h.bel.size), h.sr.below hb, h.nr⟩
theorem EvR.set {w0 w : World} {q vb bb ab rb p n c : Nat} {rs : List Value} {a : Option Addr} {xs : List Value} (h : EvR w0 q vb bb ab rb rs a n c xs p w) (i : Nat) (v : Value) : EvR w0 q vb bb ab rb rs a n c (xs.set i v) p (w.setCell ⟨q, i, none⟩ v) := by
  obtain ⟨n1, n2, n3, n4, n5⟩ := h.ne
  exact ⟨h.sx.set i v, h.sa.other q i v n3, by rw [World.cell?_setCell_other _ _ _ _ (by intro e; injection e with e _; exact n1 e)]; exact h.vc, by rw [World.cell?_setCell_other _ _ _ _ (by intro e; injection e with e _; exact n2 e)]; exact h.bc, by simpa [World.setCell] using h.vlt, by simpa [World.setCell] using h.blt, h.ne, h.qge, h.age, h.bel.setCell (p := ⟨q, i, none⟩) h.qge v, h.sr.other q i v (fun e => h.nr.1 e.symm), h.nr⟩
theorem EvR.step {w0 w : World} {q vb bb ab rb p n c : Nat} {rs : List Value} {a : Option Addr} {xs : List Value} (h : EvR w0 q vb bb ab rb rs a n c xs p w) (p' : Nat) : EvR w0 q vb bb ab rb rs a n c xs p' (w.setCell ⟨ab, 0, none⟩ (.int .i64 (p' : Nat))) := by
  obtain ⟨n1, n2, n3, n4, n5⟩ := h.ne
  exact ⟨h.sx.other ab 0 _ (fun e => n3 e.symm), h.sa.set 0 _, by rw [World.cell?_setCell_other _ _ _ _ (by intro e; injection e with e _; exact n4 e)]; exact h.vc, by rw [World.cell?_setCell_other _ _ _ _ (by intro e; injection e with e _; exact n5 e)]; exact h.bc, by simpa [World.setCell] using h.vlt, by simpa [World.setCell] using h.blt, h.ne, h.qge, h.age, h.bel.setCell (p := ⟨ab, 0, none⟩) h.age _, h.sr.other ab 0 _ (fun e => h.nr.2 e.symm), h.nr⟩
/-- Behind a call of what is handed in. -/
structure RdP (w0 : World) (q vb bb ab rb : Nat) (rs : List Value) (a : Option Addr) (n c : Nat) (xs : List Value) (p : Nat) (w w' : World) : Prop where
  ev : EvR w0 q vb bb ab rb rs a n c xs p w'
  size : w.heap.size ≤ w'.heap.size
set_option maxRecDepth 100000 in
set_option maxHeartbeats 1000000 in
theorem visitR_any (w0 : World) (q vb bb ab rb : Nat) (rs : List Value) (a : Option Addr) (n c : Nat) (zs : List Nat) (xs : List Value) (p k : Nat) (x : Int) (w : World) (hs : Sl w0 a n c zs) (h : EvR w0 q vb bb ab rb rs a n c xs p w) (hk1 : 1 ≤ k) (hk : k ≤ 8) (hl : p + k ≤ n) (hn : n ≤ 1000) :
    Calls Tryd.prog 38 #[.int .u64 x, .int .i64 (k : Nat), .pointer (some ⟨bb, 0, none⟩), .pointer (some ⟨ab, 0, none⟩)] w fun e w' => e = .returned (.int .u64 (numV zs (p : Int) (k : Int) : Nat)) ∧ RdP w0 q vb bb ab rb rs a n c xs (p + k) w w' := by
  have hsw := hs.below h.bel
  have cb := h.bc
  have ca := h.sa.cell 0 _ rfl
  have fa := h.sa.free 0
  have HE : Hid (EvR w0 q vb bb ab rb rs a n c xs (p + k) (w.setCell ⟨ab, 0, none⟩ (.int .i64 ((p : Int) + (k : Int))))) := by
    have := h.step (p + k)
    rw [show ((p + k : Nat) : Int) = (p : Int) + (k : Int) from by omega] at this
    exact this
  have hw1 : (p : Int) + (k : Int) ≤ 1000 := by omega
  have hnum := num_any a n c zs (p : Int) (k : Int) w hsw
  obtain ⟨V, hV⟩ : ∃ V, V = numV zs (p : Int) (k : Int) := ⟨_, rfl⟩
  rw [← hV] at hnum ⊢
  generalize nspanE n (p : Int) (k : Int) = E at *
  clear hV
  clear h
  go_enter Tryd.func38, Tryd.ntmps38
  go_wp2_with fail
  refine hnum.mono ?_
  rintro e w' ⟨rfl, hw'⟩
  subst hw'
  clear hsw
  go_wp2
  go_ret
  exact ⟨rfl, HE.out, by simp [World.setCell]⟩
set_option maxRecDepth 100000 in
set_option maxHeartbeats 1000000 in
theorem EvR.whole {w0 w : World} {q vb bb ab rb p n c : Nat} {rs : List Value} {a : Option Addr} {zs : List Nat} {xs : List Value} (h : EvR w0 q vb bb ab rb rs a n c xs p w) (hs : Sl w0 a n c zs) (i : Nat) (k : Nat) (hx : xs[i]? = some (.int .i64 0)) (hk1 : 1 ≤ k) (hk : k ≤ 8) (hl : p + k ≤ n) (hn : n ≤ 1000) :
    Calls Tryd.prog 30 #[.pointer (some ⟨q, i, none⟩), .int .i64 (k : Nat), .pointer (some ⟨vb, 0, none⟩)] w fun e w' => (∃ r, e = .returned r) ∧ EvR w0 q vb bb ab rb rs a n c (xs.set i (.int .i64 (IntKind.i64.wrap (numV zs (p : Int) ((k : Nat) : Int) : Nat)))) (p + k) w' := by
  have hbnd := hs.bnd
  obtain ⟨V, hV⟩ : ∃ V, V = numV zs (p : Int) ((k : Nat) : Int) := ⟨_, rfl⟩
  have hVb : V < 18446744073709551616 := by rw [hV]; exact (Nat.lt_of_lt_of_le (numV_lt zs p k hbnd) (Nat.le_trans (Nat.pow_le_pow_right (by omega) hk) (by decide)))
  have cq := h.sx.cell i _ hx
  have fq := h.sx.free i
  have cv := h.vc
  have hq := h.sx.lt
  have bd : Below w.heap.size w w.drew := (Below.refl _ _).drew
  have hd := h.next bd
  have cqd := (bd.cell (p := ⟨q, i, none⟩) hq).trans cq
  have cvd := (bd.cell (p := ⟨vb, 0, none⟩) h.vlt).trans cv
  have HST : Hid (∀ w', RdP w0 q vb bb ab rb rs a n c xs (p + k) w.drew w' → w'.cell? ⟨q, i, none⟩ = some (.int .i64 0) ∧ w'.frozen? ⟨q, i, none⟩ = false ∧ EvR w0 q vb bb ab rb rs a n c (xs.set i (.int .i64 (IntKind.i64.wrap (V : Nat)))) (p + k) (w'.setCell ⟨q, i, none⟩ (.int .i64 (IntKind.i64.wrap (V : Nat))))) := by
    intro w' hf
    have hE := hf.ev
    exact ⟨hE.sx.cell i _ hx, hE.sx.free i, hE.set i _⟩
  obtain ⟨WV, hWV⟩ : ∃ x, x = IntKind.i64.wrap (V : Int) := ⟨_, rfl⟩
  have HWV := (show Hid _ from hWV)
  have hcv : ∀ W, (convert 59 3 (.int .u64 (V : Nat))).run Tryd.prog W = .ok (.int .i64 WV) W := fun W => by rw [hWV]; simp [go_sem, Tryd.underlying59, Tryd.underlying3]
  rw [← hWV] at HST
  clear hWV
  have hvis := fun W h => visitR_any w0 q vb bb ab rb rs a n c zs xs p k 0 W hs h hk1 hk hl hn
  rw [← hV] at hvis
  have HV := (show Hid _ from hV)
  clear h hV
  go_enter Tryd.func30, Tryd.ntmps30
  go_wp2_with fail
  go_region_with (first
    | (go_at_call 38; refine (hvis _ hd).mono ?_; rintro e w' ⟨rfl, hr'⟩; obtain ⟨cq', fq', hE⟩ := HST.out _ hr')
    | fail)
  all_goals
    have HE := (show Hid _ from hE)
    clear hE
    go_wp2
    go_end0
    refine ⟨⟨_, rfl⟩, ?_⟩
    rw [← HV.out, ← HWV.out]
    exact HE.out
set_option maxRecDepth 100000 in
set_option maxHeartbeats 1000000 in
theorem EvR.half {w0 w : World} {q vb bb ab rb p n c : Nat} {rs : List Value} {a : Option Addr} {zs : List Nat} {xs : List Value} (h : EvR w0 q vb bb ab rb rs a n c xs p w) (hs : Sl w0 a n c zs) (i : Nat) (hx : xs[i]? = some (.int .u16 0)) (hl : p + 2 ≤ n) (hn : n ≤ 1000) :
    Calls Tryd.prog 31 #[.pointer (some ⟨q, i, none⟩), .pointer (some ⟨vb, 0, none⟩)] w fun e w' => (∃ r, e = .returned r) ∧ EvR w0 q vb bb ab rb rs a n c (xs.set i (.int .u16 (numV zs (p : Int) ((2 : Nat) : Int) : Nat))) (p + 2) w' := by
  have hbnd := hs.bnd
  obtain ⟨V, hV⟩ : ∃ V, V = numV zs (p : Int) ((2 : Nat) : Int) := ⟨_, rfl⟩
  have hVb : V < 65536 := by rw [hV]; exact (numV_lt zs p 2 hbnd)
  have cq := h.sx.cell i _ hx
  have fq := h.sx.free i
  have cv := h.vc
  have hq := h.sx.lt
  have bd : Below w.heap.size w w.drew := (Below.refl _ _).drew
  have hd := h.next bd
  have cqd := (bd.cell (p := ⟨q, i, none⟩) hq).trans cq
  have cvd := (bd.cell (p := ⟨vb, 0, none⟩) h.vlt).trans cv
  have HST : Hid (∀ w', RdP w0 q vb bb ab rb rs a n c xs (p + 2) w.drew w' → w'.cell? ⟨q, i, none⟩ = some (.int .u16 0) ∧ w'.frozen? ⟨q, i, none⟩ = false ∧ EvR w0 q vb bb ab rb rs a n c (xs.set i (.int .u16 (V : Nat))) (p + 2) (w'.setCell ⟨q, i, none⟩ (.int .u16 (V : Nat)))) := by
    intro w' hf
    have hE := hf.ev
    exact ⟨hE.sx.cell i _ hx, hE.sx.free i, hE.set i _⟩
  have m2 : (V : Int) % 65536 = (V : Int) := by omega
  have mw2 : IntKind.u16.wrap (V : Int) = (V : Int) := by rw [IntKind.wrap_u16]; omega
  have hvis := fun W h => visitR_any w0 q vb bb ab rb rs a n c zs xs p 2 0 W hs h (by omega) (by omega) hl hn
  rw [← hV] at hvis
  have HV := (show Hid _ from hV)
  clear h hV
  go_enter Tryd.func31, Tryd.ntmps31
  go_wp2_with fail
  go_region_with (first
    | (go_at_call 38; refine (hvis _ hd).mono ?_; rintro e w' ⟨rfl, hr'⟩; obtain ⟨cq', fq', hE⟩ := HST.out _ hr')
    | fail)
  all_goals
    have HE := (show Hid _ from hE)
    clear hE
    go_wp2
    go_end0
    refine ⟨⟨_, rfl⟩, ?_⟩
    rw [← HV.out]
    exact HE.out
set_option maxRecDepth 100000 in
set_option maxHeartbeats 1000000 in
theorem EvR.word {w0 w : World} {q vb bb ab rb p n c : Nat} {rs : List Value} {a : Option Addr} {zs : List Nat} {xs : List Value} (h : EvR w0 q vb bb ab rb rs a n c xs p w) (hs : Sl w0 a n c zs) (i : Nat) (hx : xs[i]? = some (.int .u32 0)) (hl : p + 4 ≤ n) (hn : n ≤ 1000) :
    Calls Tryd.prog 32 #[.pointer (some ⟨q, i, none⟩), .pointer (some ⟨vb, 0, none⟩)] w fun e w' => (∃ r, e = .returned r) ∧ EvR w0 q vb bb ab rb rs a n c (xs.set i (.int .u32 (numV zs (p : Int) ((4 : Nat) : Int) : Nat))) (p + 4) w' := by
  have hbnd := hs.bnd
  obtain ⟨V, hV⟩ : ∃ V, V = numV zs (p : Int) ((4 : Nat) : Int) := ⟨_, rfl⟩
  have hVb : V < 4294967296 := by rw [hV]; exact (numV_lt zs p 4 hbnd)
  have cq := h.sx.cell i _ hx
  have fq := h.sx.free i
  have cv := h.vc
  have hq := h.sx.lt
  have bd : Below w.heap.size w w.drew := (Below.refl _ _).drew
  have hd := h.next bd
  have cqd := (bd.cell (p := ⟨q, i, none⟩) hq).trans cq
  have cvd := (bd.cell (p := ⟨vb, 0, none⟩) h.vlt).trans cv
  have HST : Hid (∀ w', RdP w0 q vb bb ab rb rs a n c xs (p + 4) w.drew w' → w'.cell? ⟨q, i, none⟩ = some (.int .u32 0) ∧ w'.frozen? ⟨q, i, none⟩ = false ∧ EvR w0 q vb bb ab rb rs a n c (xs.set i (.int .u32 (V : Nat))) (p + 4) (w'.setCell ⟨q, i, none⟩ (.int .u32 (V : Nat)))) := by
    intro w' hf
    have hE := hf.ev
    exact ⟨hE.sx.cell i _ hx, hE.sx.free i, hE.set i _⟩
  have m2 : (V : Int) % 4294967296 = (V : Int) := by omega
  have mw2 : IntKind.u32.wrap (V : Int) = (V : Int) := by rw [IntKind.wrap_u32]; omega
  have hvis := fun W h => visitR_any w0 q vb bb ab rb rs a n c zs xs p 4 0 W hs h (by omega) (by omega) hl hn
  rw [← hV] at hvis
  have HV := (show Hid _ from hV)
  clear h hV
  go_enter Tryd.func32, Tryd.ntmps32
  go_wp2_with fail
  go_region_with (first
    | (go_at_call 38; refine (hvis _ hd).mono ?_; rintro e w' ⟨rfl, hr'⟩; obtain ⟨cq', fq', hE⟩ := HST.out _ hr')
    | fail)
  all_goals
    have HE := (show Hid _ from hE)
    clear hE
    go_wp2
    go_end0
    refine ⟨⟨_, rfl⟩, ?_⟩
    rw [← HV.out]
    exact HE.out
end Go.Proofs.YtmikhnaffhheoaaDoor
