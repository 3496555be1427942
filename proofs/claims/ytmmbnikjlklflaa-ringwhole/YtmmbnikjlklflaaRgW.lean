/- The ring's contracts in the form that a walk with letters takes. -/
import Derived.Test.YtmmbnikjlklflaaRgLive
import Derived.Test.YtmmbnikjlklflaaDeedG
namespace Go.Proofs.Ytmmbnikjlklflaa
open Go.RowKit
theorem rnew_at (N : Nat) (w : World) (h1 : 1 ≤ N) (h2 : N ≤ 64) (v : Value) (hv : v = .int .i64 (N : Int)) : Calls Try.prog 11 #[v] w fun e w' => ∃ p, e = .returned (.tuple #[.pointer (some ⟨p, 0, none⟩), .int .i64 0]) ∧ (∃ g, Rng w' w.heap.size (fun k => k = p ∨ k = g) p g N 0 0 0 []) ∧ Below w.heap.size w w' := by
  subst hv
  exact rnew_any N w h1 h2
theorem fill_at (v1 v2 : Value) (B : Nat) (X : Nat → Prop) (p g N gv tk d : Nat) (rs : List (Nat × List Nat)) (a : Option Addr) (n c : Nat) (zs : List Nat) (w W : World) (h : Rng w B X p g N gv tk d rs) (hW : Below w.heap.size w W) (hs : Sl w a n c zs) (hd : d ≤ 1000000) (hB : B ≤ w.heap.size) (e1 : v1 = .pointer (some ⟨p, 0, none⟩)) (e2 : v2 = .slice a n c) :
    Calls Try.prog 12 #[v1, v2] W (FillP B X p g N gv tk d rs zs w) := by
  subst e1 e2
  refine (fill_any B X p g N gv tk d rs a n c zs W (h.below hW) (hs.below hW) hd (Nat.le_trans hB hW.size)).mono ?_
  rintro e w' ⟨h1, h2, b, h3, h4⟩
  exact ⟨h1, Fr.trans (Fr.of_below hW) h2, b, Nat.le_trans hW.size h3, h4⟩
/-- Take, whatever is filled. -/
def takeB (rs : List (Nat × List Nat)) : List Nat := (rs.head?.map (·.2)).getD []
def takeE (rs : List (Nat × List Nat)) : Nat := if rs = [] then 13 else 0
structure TakeP' (B : Nat) (X : Nat → Prop) (p g N gv tk d : Nat) (rs : List (Nat × List Nat)) (w : World) (e : Ending) (w' : World) : Prop where
  ret : ∃ a n c, e = .returned (.tuple #[.slice a n c, .int .i64 (takeE rs : Nat)]) ∧ (∀ W, Fr X w' W → Sl W a n c (takeB rs))
  fr : Fr (fun k => k = p ∨ k = g) w w'
  out : Rng w' B X p g N gv (if rs = [] then tk else tk + 1) d rs.tail
theorem take_any (B : Nat) (X : Nat → Prop) (p g N gv tk d : Nat) (rs : List (Nat × List Nat)) (w : World) (h : Rng w B X p g N gv tk d rs) :
    Calls Try.prog 13 #[.pointer (some ⟨p, 0, none⟩)] w (TakeP' B X p g N gv tk d rs w) := by
  cases rs with
  | nil =>
    refine (take_none B X p g N gv tk d w h).mono ?_
    rintro e w' ⟨rfl, rfl⟩
    exact ⟨⟨none, 0, 0, rfl, fun W _ => SlK.nil _ _ _ (by omega)⟩, Fr.refl _ _, by simpa using h⟩
  | cons r rs =>
    obtain ⟨b, zs⟩ := r
    have hl := (h.row 0 b zs rfl).2.2.1
    have hx := (h.row 0 b zs rfl).1
    refine (take_some B X p g N gv tk d b zs rs w h).mono ?_
    rintro e w' ⟨⟨c, rfl, ho⟩, h2, h3⟩
    exact ⟨⟨_, _, c, rfl, fun W hW => (ho.fr hW hx).sl (by omega)⟩, h2, by simpa using h3⟩
def giveE (tk : Nat) : Nat := if tk = 0 then 13 else 0
structure GiveP' (B : Nat) (X : Nat → Prop) (p g N gv tk d : Nat) (rs : List (Nat × List Nat)) (w : World) (e : Ending) (w' : World) : Prop where
  ret : e = .returned (.int .i64 (giveE tk : Nat))
  fr : Fr (fun k => k = p ∨ k = g) w w'
  out : Rng w' B X p g N (if tk = 0 then gv else (gv + 1) % N) (tk - 1) d rs
theorem give_any (B : Nat) (X : Nat → Prop) (p g N gv tk d : Nat) (rs : List (Nat × List Nat)) (w : World) (h : Rng w B X p g N gv tk d rs) :
    Calls Try.prog 14 #[.pointer (some ⟨p, 0, none⟩)] w (GiveP' B X p g N gv tk d rs w) := by
  cases tk with
  | zero =>
    refine (give_none B X p g N gv d rs w h).mono ?_
    rintro e w' ⟨rfl, rfl⟩
    exact ⟨rfl, Fr.refl _ _, by simpa using h⟩
  | succ tk =>
    refine (give_some B X p g N gv tk d rs w h).mono ?_
    rintro e w' ⟨rfl, h2, h3⟩
    exact ⟨rfl, h2, by simpa using h3⟩
theorem give_at (v1 : Value) (B : Nat) (X : Nat → Prop) (p g N gv tk d : Nat) (rs : List (Nat × List Nat)) (w W : World) (h : Rng w B X p g N gv tk d rs) (hW : Below w.heap.size w W) (e1 : v1 = .pointer (some ⟨p, 0, none⟩)) :
    Calls Try.prog 14 #[v1] W (GiveP' B X p g N gv tk d rs w) := by
  subst e1
  refine (give_any B X p g N gv tk d rs W (h.below hW)).mono ?_
  rintro e w' ⟨h1, h2, h3⟩
  exact ⟨h1, Fr.trans (Fr.of_below hW) h2, h3⟩
/-- Two rings side by side. -/
structure Two (w : World) (B : Nat) (px gx py gy N gv gw tk d : Nat) (rs qs : List (Nat × List Nat)) : Prop where
  x : Rng w B (fun k => k = px ∨ k = gx ∨ k = py ∨ k = gy) px gx N gv tk d rs
  y : Rng w B (fun k => k = px ∨ k = gx ∨ k = py ∨ k = gy) py gy N gw tk d qs
  same : rs.map (·.2) = qs.map (·.2)
  n1 : px ≠ py
  n2 : px ≠ gy
  n3 : gx ≠ py
  n4 : gx ≠ gy
end Go.Proofs.Ytmmbnikjlklflaa
