/- law06.play: a script on both. -/
import Derived.Test.YtmikhnaffhheoaaDoorZ1
import Derived.Test.YtmikhnaffhheoaaDoorZ6
import Derived.Test.YtmikhnaffhheoaaDoorZ7
import Derived.Test.YtmikhnaffhheoaaDoorProg
import Derived.Test.YtmikhnaffhheoaaDoorBase
import Derived.Deep.Strs
import Derived.RowKit
import Derived.ChangeSlices
import Derived.SizedLaws
import Derived.ProofKit
import Derived.OpenShut
namespace Go.Proofs.YtmikhnaffhheoaaDoor
open Go.RowKit
def PX (pp kx ky k : Nat) : Prop := k ≠ pp ∧ k ≠ kx ∧ k ≠ ky
/-- X: where the bytes of the secrets, and of what was sealed last, may lie. -/
structure PrX (w0 w : World) (pp kx ky : Nat) (cur : List Nat) (fm : Option (List Nat)) (rs : List Sec) (m : Nat) (X : Nat → Prop) : Prop where
  p : ∃ la ln lc zl, Stc w pp [.pointer (some ⟨kx, 0, none⟩), .pointer (some ⟨ky, 0, none⟩), .slice la ln lc] ∧ Sl w la ln lc zl ∧ ln ≤ 1000 ∧ ∀ k, blkOf la ln = some k → X k
  x : KyX w kx cur fm X
  y : RKyX w ky rs X
  L : CkL (rs.map (·.zs)) cur fm
  len : rs.length ≤ m
  n1 : pp ≠ kx
  n2 : pp ≠ ky
  n3 : kx ≠ ky
  kw : KW w0
  bel : Below w0.heap.size w0 w
  bp : w0.heap.size ≤ pp
  bx : w0.heap.size ≤ kx
  by_ : w0.heap.size ≤ ky
abbrev Pr (w0 w : World) (pp kx ky : Nat) (cur : List Nat) (fm : Option (List Nat)) (rs : List Sec) (m : Nat) : Prop := PrX w0 w pp kx ky cur fm rs m (PX pp kx ky)
theorem PrX.fr {P X : Nat → Prop} {w0 w w' : World} {pp kx ky m : Nat} {cur : List Nat} {fm : Option (List Nat)} {rs : List Sec} (h : PrX w0 w pp kx ky cur fm rs m X) (hf : Fr P w w') (hp : ¬ P pp) (hx : ¬ P kx) (hy : ¬ P ky) (hX : ∀ k, X k → ¬ P k) (hb : Below w0.heap.size w0 w') : PrX w0 w' pp kx ky cur fm rs m X := by
  obtain ⟨la, ln, lc, zl, p1, p2, p3, p4⟩ := h.p
  exact ⟨⟨la, ln, lc, zl, p1.fr hf hp, p2.frH hf (fun k hk => hX k (p4 k hk)), p3, p4⟩, h.x.fr hf hx hX, h.y.fr hf hy hX, h.L, h.len, h.n1, h.n2, h.n3, h.kw, hb, h.bp, h.bx, h.by_⟩
theorem PrX.below {X : Nat → Prop} {w0 w w' : World} {pp kx ky m : Nat} {cur : List Nat} {fm : Option (List Nat)} {rs : List Sec} (h : PrX w0 w pp kx ky cur fm rs m X) (hb : Below w.heap.size w w') : PrX w0 w' pp kx ky cur fm rs m X :=
  h.fr (Fr.of_below (P := fun _ => False) hb) (fun e => e) (fun e => e) (fun e => e) (fun _ _ e => e) (h.bel.trans (hb.mono h.bel.size))
theorem PrX.up_ {X : Nat → Prop} {w0 w : World} {pp kx ky m j : Nat} {cur : List Nat} {fm : Option (List Nat)} {rs : List Sec} (h : PrX w0 w pp kx ky cur fm rs m X) (hj : m ≤ j) : PrX w0 w pp kx ky cur fm rs j X :=
  ⟨h.p, h.x, h.y, h.L, Nat.le_trans h.len hj, h.n1, h.n2, h.n3, h.kw, h.bel, h.bp, h.bx, h.by_⟩
theorem PrX.sub {X Y : Nat → Prop} {w0 w : World} {pp kx ky m : Nat} {cur : List Nat} {fm : Option (List Nat)} {rs : List Sec} (h : PrX w0 w pp kx ky cur fm rs m X) (hy : ∀ k, k < w.heap.size → X k → Y k) : PrX w0 w pp kx ky cur fm rs m Y := by
  obtain ⟨la, ln, lc, zl, p1, p2, p3, p4⟩ := h.p
  have hlt := (slB_of p2).2
  exact ⟨⟨la, ln, lc, zl, p1, p2, p3, fun k hk => hy k (hlt k hk) (p4 k hk)⟩, h.x.sub hy, h.y.sub hy, h.L, h.len, h.n1, h.n2, h.n3, h.kw, h.bel, h.bp, h.bx, h.by_⟩
theorem PrX.ltp {X : Nat → Prop} {w0 w : World} {pp kx ky m : Nat} {cur : List Nat} {fm : Option (List Nat)} {rs : List Sec} (h : PrX w0 w pp kx ky cur fm rs m X) : pp < w.heap.size := by
  obtain ⟨la, ln, lc, zl, p1, _⟩ := h.p
  exact p1.lt
structure CdP (w0 : World) (pp kx ky m : Nat) (w : World) (e : Ending) (w' : World) : Prop where
  ret : e = .returned (.bool true)
  out : ∃ cur fm rs, Pr w0 w' pp kx ky cur fm rs (m + 1)
  fr : Fr (fun b => b = pp ∨ b = kx ∨ b = ky) w w'
/-- The last secret is the current one. -/
theorem CkL.last {rs : List Sec} {cur : List Nat} {fm : Option (List Nat)} (h : CkL (rs.map (·.zs)) cur fm) : ∃ j x, rs.length = j + 1 ∧ rs[j]? = some x ∧ x.zs = cur := by
  have key : ∀ (L : List (List Nat)) (pre : List (List Nat)), L = pre ++ [cur] → L = rs.map (·.zs) → ∃ j x, rs.length = j + 1 ∧ rs[j]? = some x ∧ x.zs = cur := by
    intro L pre e1 e2
    have hl : rs.length = pre.length + 1 := by
      have := congrArg List.length (e2.symm.trans e1)
      simpa using this
    have hg : (rs.map (·.zs))[pre.length]? = some cur := by rw [← e2, e1]; simp
    rw [List.getElem?_map] at hg
    obtain ⟨x, hx⟩ : ∃ x, rs[pre.length]? = some x := ⟨_, List.getElem?_eq_getElem (by omega)⟩
    rw [hx] at hg
    exact ⟨pre.length, x, hl, hx, by simpa using hg⟩
  rcases h with ⟨e, _⟩ | ⟨pre, f, e, _⟩
  · exact key _ [] e rfl
  · exact key _ (pre ++ [f]) (by rw [e]; simp) rfl
end Go.Proofs.YtmikhnaffhheoaaDoor
namespace Go.Proofs.YtmikhnaffhheoaaDoor
open Go.RowKit
/-- What stands while both turn. -/
structure TnC (w0 w : World) (pp kx ky D o : Nat) (cur : List Nat) (fm : Option (List Nat)) (rs : List Sec) (da : Option Addr) (dn dc : Nat) (a1 : Option Addr) (c1 B1 : Nat) (zs : List Nat) (V : World) : Prop where
  p : ∃ la ln lc zl, Stc V pp [.pointer (some ⟨kx, 0, none⟩), .pointer (some ⟨ky, 0, none⟩), .slice la ln lc] ∧ Sl V la ln lc zl ∧ ln ≤ 1000 ∧ ∀ k, blkOf la ln = some k → PX pp kx ky k ∧ k ≠ o
  x : KyX V kx cur fm (fun k => PX pp kx ky k ∧ k ≠ o)
  y : RKyX V ky rs (fun k => PX pp kx ky k ∧ k ≠ o)
  d : V.cell? ⟨D, 1, none⟩ = some (.slice da dn dc)
  dlt : D < V.heap.size
  own : OwnB V B1 a1 dn c1 zs
  olt : o < V.heap.size
  fr : Fr (fun b => b = pp ∨ b = kx ∨ b = ky) w V
  bel : Below w0.heap.size w0 V
theorem own_frO {P : Nat → Prop} {w w' : World} {B : Nat} {a : Option Addr} {n c : Nat} {zs : List Nat} (h : OwnB w B a n c zs) (hf : Fr P w w') (hp : ∀ k, B ≤ k → ¬ P k) : OwnB w' B a n c zs := by
  refine ⟨h.len, ?_, h.bnd⟩
  have h1 := h.own
  refine ⟨h1.1, ?_⟩
  rcases h1.2 with ⟨hv, h0⟩ | ⟨g0, cap, cur, hv, hB, hh, h2, h3, h4, h5⟩
  · exact .inl ⟨hv, h0⟩
  · have hlt : g0 < w.heap.size := by
      rcases Nat.lt_or_ge g0 w.heap.size with h9 | h9
      · exact h9
      · simp [h9] at hh
    exact .inr ⟨g0, cap, cur, hv, hB, by rw [hf.block g0 hlt (hp g0 hB)]; exact hh, h2, h3, h4, h5⟩
theorem TnC.next {w0 w : World} {pp kx ky D o : Nat} {cur : List Nat} {fm : Option (List Nat)} {rs : List Sec} {da : Option Addr} {dn dc : Nat} {a1 : Option Addr} {c1 B1 : Nat} {zs : List Nat} {V V' : World} (h : TnC w0 w pp kx ky D o cur fm rs da dn dc a1 c1 B1 zs V) (hb : Below V.heap.size V V') : TnC w0 w pp kx ky D o cur fm rs da dn dc a1 c1 B1 zs V' := by
  obtain ⟨la, ln, lc, zl, p1, p2, p3, p4⟩ := h.p
  exact ⟨⟨la, ln, lc, zl, p1.below hb, p2.below hb, p3, p4⟩, h.x.below hb, h.y.below hb, (hb.cell (p := ⟨D, 1, none⟩) h.dlt).trans h.d, Nat.lt_of_lt_of_le h.dlt hb.size, h.own.below hb, Nat.lt_of_lt_of_le h.olt hb.size, Fr.trans h.fr (Fr.of_below hb), h.bel.trans (hb.mono h.bel.size)⟩
/-- One of the two keys was turned. -/
theorem TnC.turned {w0 w : World} {pp kx ky D o q : Nat} {cur cur2 : List Nat} {fm fm2 : Option (List Nat)} {rs rs2 : List Sec} {da : Option Addr} {dn dc : Nat} {a1 : Option Addr} {c1 B1 : Nat} {zs : List Nat} {V V' : World} (h : TnC w0 w pp kx ky D o cur fm rs da dn dc a1 c1 B1 zs V) (hf : Fr (fun b => b = q) V V') (hq : q = kx ∨ q = ky) (hpq : pp ≠ q) (hD : D ≠ q) (hB : q < B1) (hx : KyX V' kx cur2 fm2 (fun k => PX pp kx ky k ∧ k ≠ o)) (hy : RKyX V' ky rs2 (fun k => PX pp kx ky k ∧ k ≠ o)) (b0 : w0.heap.size ≤ q) : TnC w0 w pp kx ky D o cur2 fm2 rs2 da dn dc a1 c1 B1 zs V' := by
  obtain ⟨la, ln, lc, zl, p1, p2, p3, p4⟩ := h.p
  refine ⟨⟨la, ln, lc, zl, p1.fr hf (fun e => hpq e), p2.frH hf (fun k hk e => ?_), p3, p4⟩, hx, hy, (hf.cell ⟨D, 1, none⟩ h.dlt (fun e => hD e)).trans h.d, Nat.lt_of_lt_of_le h.dlt hf.size, own_frO h.own hf (fun k hk e => by omega), Nat.lt_of_lt_of_le h.olt hf.size, Fr.trans h.fr (hf.mono (fun k _ e => ?_)), h.bel.trans (hf.below _ h.bel.size (fun k hk => by omega))⟩
  · have := (p4 k hk).1
    rcases hq with rfl | rfl
    · exact this.2.1 e
    · exact this.2.2 e
  · rcases hq with rfl | rfl
    · exact .inr (.inl e)
    · exact .inr (.inr e)
theorem own_g2 {w : World} {B : Nat} {a : Option Addr} {n c : Nat} {zs : List Nat} (h : OwnB w B a n c zs) (hn : 0 < n) : ∃ g, a = some ⟨g, 0, none⟩ ∧ B ≤ g := by
  rcases h.own.2 with ⟨hv, _⟩ | ⟨g, cap, cur, hv, hB, _⟩
  · injection hv with e1 e2 e3
    omega
  · injection hv with e1
    exact ⟨g, e1, hB⟩
theorem xor1_lt (x : Nat) (h : x < 256) : x ^^^ 1 < 256 := Nat.xor_lt_two_pow (n := 8) h (by decide)
theorem Fr.far {P : Nat → Prop} {w w1 w2 : World} {o : Nat} (h : Fr P w w1) (k : Fr (· = o) w1 w2) (ho : w.heap.size ≤ o) : Fr P w w2 :=
  ⟨k.os.trans h.os, k.tape.trans h.tape, k.output.trans h.output, Nat.le_trans h.size k.size, fun i hi hn => (k.block i (Nat.lt_of_lt_of_le hi h.size) (fun e => by omega)).trans (h.block i hi hn)⟩
set_option linter.unusedVariables false in
set_option maxRecDepth 100000 in
set_option maxHeartbeats 8000000 in
theorem do_turn (da : Option Addr) (dn dc : Nat) (zs : List Nat) (qmade qlife : Int) (qport qpport qtag qptag qtsn qptsn qroom qouts qins qaddr qother : Nat) (now : Int) (at_ by_ back : Nat) (pp kx ky m : Nat) (cur : List Nat) (fm : Option (List Nat)) (rs : List Sec) (w0 w : World) (h : Pr w0 w pp kx ky cur fm rs m) (hm : m ≤ 800) (hs : Sl w0 da dn dc zs) (hn : dc ≤ 140737488351232) :
    Calls Tryd.prog 9 #[.pointer (some ⟨pp, 0, none⟩), .agg #[.int .i64 0, .slice da dn dc, .int .i64 qmade, .int .i64 qlife, .int .u16 (qport : Nat), .int .u16 (qpport : Nat), .int .u32 (qtag : Nat), .int .u32 (qptag : Nat), .int .u32 (qtsn : Nat), .int .u32 (qptsn : Nat), .int .u32 (qroom : Nat), .int .u16 (qouts : Nat), .int .u16 (qins : Nat), .int .u32 (qaddr : Nat), .int .u32 (qother : Nat), .int .i64 now, .int .u8 (at_ : Nat), .int .u8 (by_ : Nat), .int .u8 (back : Nat)]] w (CdP w0 pp kx ky m w) := by
  have hcap := hs.cap
  have hl := hs.len
  have hsw := hs.below h.bel
  obtain ⟨W, hW⟩ : ∃ W, W = w.alloc (.cells #[.int .i64 0, .slice da dn dc, .int .i64 qmade, .int .i64 qlife, .int .u16 (qport : Nat), .int .u16 (qpport : Nat), .int .u32 (qtag : Nat), .int .u32 (qptag : Nat), .int .u32 (qtsn : Nat), .int .u32 (qptsn : Nat), .int .u32 (qroom : Nat), .int .u16 (qouts : Nat), .int .u16 (qins : Nat), .int .u32 (qaddr : Nat), .int .u32 (qother : Nat), .int .i64 now, .int .u8 (at_ : Nat), .int .u8 (by_ : Nat), .int .u8 (back : Nat)] 41) := ⟨_, rfl⟩
  have bW : Below w.heap.size w W := by rw [hW]; exact (Below.refl _ _).alloc (Nat.le_refl _) _
  have sD := Stc.new w [.int .i64 0, .slice da dn dc, .int .i64 qmade, .int .i64 qlife, .int .u16 (qport : Nat), .int .u16 (qpport : Nat), .int .u32 (qtag : Nat), .int .u32 (qptag : Nat), .int .u32 (qtsn : Nat), .int .u32 (qptsn : Nat), .int .u32 (qroom : Nat), .int .u16 (qouts : Nat), .int .u16 (qins : Nat), .int .u32 (qaddr : Nat), .int .u32 (qother : Nat), .int .i64 now, .int .u8 (at_ : Nat), .int .u8 (by_ : Nat), .int .u8 (back : Nat)] 41 W hW
  have hzW : W.heap.size = w.heap.size + 1 := by rw [hW]; simp
  have oE := own_empty W
  have sE := (hsw.below bW).alloc (.cells #[] 5)
  have hpl : pp < w.heap.size := by obtain ⟨la, ln, lc, zl, p1, _⟩ := h.p; exact p1.lt
  have hxl := h.x.lt
  have hyl := h.y.lt
  obtain ⟨j0, x0, hj0, _, _⟩ := h.L.last
  have hrl := h.len
  rw [hzW] at oE
  have OE := (show Hid _ from oE)
  have SE := (show Hid _ from sE)
  rw [hW] at oE sE
  go_enter Tryd.func9, Tryd.ntmps9
  go_wp2_with (at_builtin; go_must (refine app_list rfl _ _ rfl (w.heap.size + 1) _ 0 0 [] rfl oE _ dn dc zs rfl sE (by omega) (by simp) ?_))
  intro a1 c1 w1 o1 g1
  rw [← hW] at oE g1
  have b1 : Below W.heap.size W w1 := ((Below.refl _ _).alloc (Nat.le_refl _) _).trans (by rw [hzW]; exact oE.up g1 (by simp; omega))
  clear hW
  have o2 : OwnB w1 (w.heap.size + 1) a1 dn c1 zs := by simpa using o1
  have b01 : Below w.heap.size w w1 := bW.trans (b1.mono bW.size)
  have z1 := b1.size
  obtain ⟨o, hao, hob, hol⟩ : ∃ o, (0 < dn → a1 = some ⟨o, 0, none⟩) ∧ w.heap.size ≤ o ∧ o < w1.heap.size := by
    by_cases h0 : 0 < dn
    · obtain ⟨g, rfl, hgB⟩ := own_g2 o2 h0
      exact ⟨g, fun _ => rfl, by omega, (own_blk o2 g (by unfold blkOf; rw [if_neg (by omega)]; rfl)).2⟩
    · exact ⟨w.heap.size, fun h => absurd h h0, Nat.le_refl _, by omega⟩
  have hN := h.below b01
  have hC : TnC w0 w pp kx ky w.heap.size o cur fm rs da dn dc a1 c1 (w.heap.size + 1) zs w1 := by
    obtain ⟨la, ln, lc, zl, p1, p2, p3, p4⟩ := h.p
    have hlt := (slB_of p2).2
    have hx2 : KyX w kx cur fm (fun k => PX pp kx ky k ∧ k ≠ o) := h.x.sub (fun k hk he => ⟨he, by omega⟩)
    have hy2 : RKyX w ky rs (fun k => PX pp kx ky k ∧ k ≠ o) := h.y.sub (fun k hk he => ⟨he, by omega⟩)
    exact ⟨⟨la, ln, lc, zl, p1.below b01, p2.below b01, p3, fun k hk => ⟨p4 k hk, by have := hlt k hk; omega⟩⟩, hx2.below b01, hy2.below b01, (sD.below b1).cell 1 _ rfl, (sD.below b1).lt, o2, hol, Fr.of_below b01, hN.bel⟩
  have n1 := h.n1
  have n2 := h.n2
  have n3 := h.n3
  have bx := h.bx
  have by0 := h.by_
  have HALL : Hid (∀ cur fm rs w', TnC w0 w pp kx ky w.heap.size o cur fm rs da dn dc a1 c1 (w.heap.size + 1) zs w' → w'.cell? ⟨pp, 0, none⟩ = some (.pointer (some ⟨kx, 0, none⟩)) ∧ w'.cell? ⟨pp, 1, none⟩ = some (.pointer (some ⟨ky, 0, none⟩)) ∧ w'.cell? ⟨w.heap.size, 1, none⟩ = some (.slice da dn dc)) := fun cur fm rs w' h => by
    obtain ⟨la, ln, lc, zl, p1, _⟩ := h.p
    exact ⟨p1.cell 0 _ rfl, p1.cell 1 _ rfl, h.d⟩
  have hXn : ∀ V : World, w1.heap.size ≤ V.heap.size → ∀ k, V.heap.size ≤ k → PX pp kx ky k ∧ k ≠ o := fun V hV k hk => ⟨⟨by omega, by omega, by omega⟩, by omega⟩
  have hxx : ∀ V V', TnC w0 w pp kx ky w.heap.size o cur fm rs da dn dc a1 c1 (w.heap.size + 1) zs V → w1.heap.size ≤ V.heap.size → Below V.heap.size V V' → ∀ v1 v2, v1 = .pointer (some ⟨kx, 0, none⟩) → v2 = .slice a1 dn c1 → Calls Tryd.prog 14 #[v1, v2] V' fun e w' => e = .returned (.int .i64 0) ∧ TnC w0 w pp kx ky w.heap.size o zs (some cur) rs da dn dc a1 c1 (w.heap.size + 1) zs w' ∧ w1.heap.size ≤ w'.heap.size := by
    intro V V' hV hz hb v1 v2 e1 e2
    subst e1 e2
    have hV2 := hV.next hb
    have hz2 : w1.heap.size ≤ V'.heap.size := Nat.le_trans hz hb.size
    refine (turnX_any (fun k => PX pp kx ky k ∧ k ≠ o) kx cur fm a1 dn c1 zs V' hV2.x (hXn V' hz2) (hV2.own.sl (by omega)) (by omega)).mono ?_
    rintro e w' ⟨h1, h2, h3⟩
    exact ⟨h1, hV2.turned h3 (.inl rfl) n1 (by omega) (by omega) h2 (hV2.y.fr h3 (fun e => n3 e.symm) (fun k hk e => hk.1.2.1 e)) bx, Nat.le_trans hz2 h3.size⟩
  have hyy : ∀ V V', TnC w0 w pp kx ky w.heap.size o zs (some cur) rs da dn dc a1 c1 (w.heap.size + 1) zs V → w1.heap.size ≤ V.heap.size → Below V.heap.size V V' → ∀ v1 v2, v1 = .pointer (some ⟨ky, 0, none⟩) → v2 = .slice da dn dc → Calls Tryd.prog 15 #[v1, v2] V' fun e w' => e = .returned (.int .i64 0) ∧ (∃ rs2, rs2.map (·.zs) = rs.map (·.zs) ++ [zs] ∧ TnC w0 w pp kx ky w.heap.size o zs (some cur) rs2 da dn dc a1 c1 (w.heap.size + 1) zs w') ∧ w'.cell? ⟨pp, 0, none⟩ = some (.pointer (some ⟨kx, 0, none⟩)) ∧ w'.cell? ⟨pp, 1, none⟩ = some (.pointer (some ⟨ky, 0, none⟩)) ∧ w'.cell? ⟨w.heap.size, 1, none⟩ = some (.slice da dn dc) := by
    intro V V' hV hz hb v1 v2 e1 e2
    subst e1 e2
    have hV2 := hV.next hb
    have hz2 : w1.heap.size ≤ V'.heap.size := Nat.le_trans hz hb.size
    refine (rkturnX_any (fun k => PX pp kx ky k ∧ k ≠ o) ky rs da dn dc zs V' hV2.y (hXn V' hz2) (by omega) (by omega) (hs.below hV2.bel) (by omega)).mono ?_
    rintro e w' ⟨h1, ⟨rs2, h2, h2m⟩, h3⟩
    have hT := hV2.turned h3 (.inr rfl) n2 (by omega) (by omega) (hV2.x.fr h3 (fun e => n3 e) (fun k hk e => hk.1.2.2 e)) h2 by0
    exact ⟨h1, ⟨rs2, h2m, hT⟩, HALL.out _ _ _ _ hT⟩
  have HFIN : Hid (∀ w2 wr rs2, rs2.map (·.zs) = rs.map (·.zs) ++ [zs] → TnC w0 w pp kx ky w.heap.size o zs (some cur) rs2 da dn dc a1 c1 (w.heap.size + 1) zs w2 → Fr (fun b => b = o) w2 wr → CdP w0 pp kx ky m w (.returned (.bool true)) wr) := by
    show ∀ _, _
    intro w2 wr rs2 hm2 hT hf
    obtain ⟨la, ln, lc, zl, p1, p2, p3, p4⟩ := hT.p
    have hlen : rs2.length = rs.length + 1 := by have := congrArg List.length hm2; simpa using this
    have hbo : w0.heap.size ≤ o := Nat.le_trans h.bel.size hob
    refine ⟨rfl, ⟨zs, some cur, rs2, ⟨la, ln, lc, zl, p1.fr hf (fun e => by omega), p2.frH hf (fun k hk e => (p4 k hk).2 e), p3, fun k hk => (p4 k hk).1⟩, (hT.x.fr hf (fun e => by omega) (fun k hk e => hk.2 e)).sub (fun k _ hk => hk.1), (hT.y.fr hf (fun e => by omega) (fun k hk e => hk.2 e)).sub (fun k _ hk => hk.1), by rw [hm2]; exact h.L.turn zs, by omega, n1, n2, n3, h.kw, hT.bel.trans (hf.below _ hT.bel.size (fun k hk => by omega)), h.bp, bx, by0⟩, Fr.far hT.fr hf hob⟩
  clear hN h sD bW b1 b01 oE sE o1 g1 hsw OE SE o2 hXn
  go_wp2_with fail
  have hC' := hC.next (Below.refl _ _).drew
  have hz' : w1.heap.size ≤ w1.drew.heap.size := Nat.le_refl _
  clear hC
  obtain ⟨s0, s1, s2⟩ := HALL.out _ _ _ _ hC'
  go_region_held3 (fun w' => w'.cell? ⟨pp, 0, none⟩ = some (.pointer (some ⟨kx, 0, none⟩)) ∧ w'.cell? ⟨pp, 1, none⟩ = some (.pointer (some ⟨ky, 0, none⟩)) ∧ w'.cell? ⟨w.heap.size, 1, none⟩ = some (.slice da dn dc)) (first | exact ⟨by assumption, by assumption, by assumption⟩ | fail) (first
    | (go_at_call 14; refine (hxx _ _ hC' hz' (by first | exact Below.refl _ _ | exact (Below.refl _ _).drew) _ _ (by rfl) (by rfl)).mono ?_; rintro e wX ⟨rfl, hC', hz'⟩; obtain ⟨t0, t1, t2⟩ := HALL.out _ _ _ _ hC')
    | (go_at_call 15; refine (hyy _ _ hC' hz' (by first | exact Below.refl _ _ | exact (Below.refl _ _).drew) _ _ (by rfl) (by rfl)).mono ?_; rintro e wY ⟨rfl, hrY, u0, u1, u2⟩; have HRY := (show Hid _ from hrY); clear hrY)
    | fail)
  all_goals
    obtain ⟨rs2, hm2, hT⟩ := HRY.out
    have ho2 : 0 < dn → OwnB wY (w.heap.size + 1) (some ⟨o, 0, none⟩) dn c1 zs := fun h0 => by have := hT.own; rwa [hao h0] at this
    have HEND : Hid (∀ wr, Fr (fun b => b = o) wY wr → CdP w0 pp kx ky m w (.returned (.bool true)) wr) := fun wr hf => HFIN.out wY wr rs2 hm2 hT hf
    clear HRY HFIN hT hm2 hxx hyy HALL s0 s1 s2 t0 t1 t2 u0 u1 u2 hC' hz' hs
    go_wp2
    go_loopw [7] (fun iv wr => ∃ (i : Nat) (ys : List Nat), iv = .int .i64 (i : Nat) ∧ i ≤ dn ∧ (0 < dn → OwnB wr (w.heap.size + 1) (some ⟨o, 0, none⟩) dn c1 ys) ∧ Fr (fun b => b = o) wY wr) (fun iv _ => dn - (intOf iv).toNat)
    case atStart => exact ⟨0, zs, rfl, by omega, ho2, Fr.refl _ _⟩
    case round =>
      obtain ⟨i, ys, rfl, hi, hoi, hfo⟩ := hrel
      clear ho2
      by_cases hin : i < dn
      · have hi1 : (i : Int) < (dn : Int) := by omega
        have ho := hoi (by omega)
        obtain rfl := hao (by omega)
        have kc := ho.cell i hin
        have kf := ho.free i
        have hbd := ho.bnd i
        have HO : Hid (OwnB (wr.setCell ⟨o, i, none⟩ (.int .u8 ((ys.getD i 0 ^^^ 1 : Nat) : Int))) (w.heap.size + 1) (some ⟨o, 0, none⟩) dn c1 (ys.set i (ys.getD i 0 ^^^ 1))) := ho.store i _ (xor1_lt _ hbd)
        have HF : Hid (∀ v, Fr (fun b => b = o) wY (wr.setCell ⟨o, i, none⟩ v)) := fun v => Fr.trans hfo (Fr.setCell (fun b => b = o) _ _ _ rfl)
        have hx : bits .xor .u8 ((ys.getD i 0 : Nat) : Int) 1 = ((ys.getD i 0 ^^^ 1 : Nat) : Int) := u8_xor_nat (ys.getD i 0) 1 hbd (by omega)
        have hxb := xor1_lt _ hbd
        clear ho hoi hfo
        generalize ys.getD i 0 = y at *
        generalize y ^^^ 1 = z at *
        go_wp2
        go_roundw
        case rel => exact ⟨i + 1, ys.set i z, by go_num, by omega, fun _ => HO.out, HF.out _⟩
        case measure => simp [intOf]; omega
      · have hi1 : ¬ (i : Int) < (dn : Int) := by omega
        have HP := (show Hid _ from HEND.out wr hfo)
        clear hoi hfo HEND
        go_wp2
        go_ret
        exact HP.out
end Go.Proofs.YtmikhnaffhheoaaDoor
namespace Go.Proofs.YtmikhnaffhheoaaDoor
open Go.RowKit
set_option linter.unusedVariables false in
set_option maxRecDepth 100000 in
set_option maxHeartbeats 8000000 in
theorem do_seal (da : Option Addr) (dn dc : Nat) (zs : List Nat) (qmade qlife : Int) (qport qpport qtag qptag qtsn qptsn qroom qouts qins qaddr qother : Nat) (now : Int) (at_ by_ back : Nat) (pp kx ky m : Nat) (cur : List Nat) (fm : Option (List Nat)) (rs : List Sec) (w0 w : World) (h : Pr w0 w pp kx ky cur fm rs m) (hm : m ≤ 800) (hwm : (Lit.int .i64 qmade).wf = true) (hwl : (Lit.int .i64 qlife).wf = true) (hport : qport < 65536) (hpport : qpport < 65536) (htag : qtag < 4294967296) (hptag : qptag < 4294967296) (htsn : qtsn < 4294967296) (hptsn : qptsn < 4294967296) (hroom : qroom < 4294967296) (houts : qouts < 65536) (hins : qins < 65536) (haddr : qaddr < 4294967296) (hother : qother < 4294967296) :
    Calls Tryd.prog 9 #[.pointer (some ⟨pp, 0, none⟩), .agg #[.int .i64 1, .slice da dn dc, .int .i64 qmade, .int .i64 qlife, .int .u16 (qport : Nat), .int .u16 (qpport : Nat), .int .u32 (qtag : Nat), .int .u32 (qptag : Nat), .int .u32 (qtsn : Nat), .int .u32 (qptsn : Nat), .int .u32 (qroom : Nat), .int .u16 (qouts : Nat), .int .u16 (qins : Nat), .int .u32 (qaddr : Nat), .int .u32 (qother : Nat), .int .i64 now, .int .u8 (at_ : Nat), .int .u8 (by_ : Nat), .int .u8 (back : Nat)]] w (CdP w0 pp kx ky m w) := by
  obtain ⟨W, hW⟩ : ∃ W, W = w.alloc (.cells #[.int .i64 1, .slice da dn dc, .int .i64 qmade, .int .i64 qlife, .int .u16 (qport : Nat), .int .u16 (qpport : Nat), .int .u32 (qtag : Nat), .int .u32 (qptag : Nat), .int .u32 (qtsn : Nat), .int .u32 (qptsn : Nat), .int .u32 (qroom : Nat), .int .u16 (qouts : Nat), .int .u16 (qins : Nat), .int .u32 (qaddr : Nat), .int .u32 (qother : Nat), .int .i64 now, .int .u8 (at_ : Nat), .int .u8 (by_ : Nat), .int .u8 (back : Nat)] 41) := ⟨_, rfl⟩
  have bW : Below w.heap.size w W := by rw [hW]; exact (Below.refl _ _).alloc (Nat.le_refl _) _
  have sD := Stc.new w [.int .i64 1, .slice da dn dc, .int .i64 qmade, .int .i64 qlife, .int .u16 (qport : Nat), .int .u16 (qpport : Nat), .int .u32 (qtag : Nat), .int .u32 (qptag : Nat), .int .u32 (qtsn : Nat), .int .u32 (qptsn : Nat), .int .u32 (qroom : Nat), .int .u16 (qouts : Nat), .int .u16 (qins : Nat), .int .u32 (qaddr : Nat), .int .u32 (qother : Nat), .int .i64 now, .int .u8 (at_ : Nat), .int .u8 (by_ : Nat), .int .u8 (back : Nat)] 41 W hW
  obtain ⟨j, x, hj, hx, hxz⟩ := h.L.last
  obtain ⟨la, ln, lc, zl, p1, p2, p3, p4⟩ := h.p
  have hpl := p1.lt
  have hxl := h.x.lt
  have hyl := h.y.lt
  have c0 := p1.cell 0 _ rfl
  have hW1 := h.below bW
  have hS1 := seal_all kx cur fm qmade qlife qport qpport qtag qptag qtsn qptsn qroom qouts qins qaddr qother W hwm hwl hport hpport htag hptag htsn hptsn hroom houts hins haddr hother hW1.x.ky (hW1.kw.next hW1.bel)
  obtain ⟨SL, hSL⟩ : ∃ SL, SL = (if ckMay qmade qlife = true then sealV cur ⟨qmade.toNat, qlife.toNat, qport, qpport, qtag, qptag, qtsn, qptsn, qroom, qouts, qins, qaddr, qother⟩ else []) := ⟨_, rfl⟩
  obtain ⟨ER, hER⟩ : ∃ ER, ER = (if ckMay qmade qlife = true then 0 else 6) := ⟨_, rfl⟩
  rw [← hSL, ← hER] at hS1
  have hS2 : ∀ V, Below W.heap.size W V → Calls Tryd.prog 16 #[.pointer (some ⟨ky, 0, none⟩), .agg #[.int .i64 qmade, .int .i64 qlife, .int .u16 (qport : Nat), .int .u16 (qpport : Nat), .int .u32 (qtag : Nat), .int .u32 (qptag : Nat), .int .u32 (qtsn : Nat), .int .u32 (qptsn : Nat), .int .u32 (qroom : Nat), .int .u16 (qouts : Nat), .int .u16 (qins : Nat), .int .u32 (qaddr : Nat), .int .u32 (qother : Nat)]] V fun e w' => RowC V SL ER e w' := fun V hV => by
    have := rseal_all ky rs x j hj hx qmade qlife qport qpport qtag qptag qtsn qptsn qroom qouts qins qaddr qother V hwm hwl hport hpport htag hptag htsn hptsn hroom houts hins haddr hother (hW1.below hV).y.rk
    rw [hxz, ← hSL, ← hER] at this
    exact this
  have hlen : SL.length ≤ 84 := by rw [hSL]; split; rw [sealV_len]; exact Nat.le_refl _; simp
  have hcs : ER = 0 ∨ ER = 6 := by rw [hER]; split; exact .inl rfl; exact .inr rfl
  have HALL : Hid (∀ w', Below W.heap.size W w' → w'.cell? ⟨pp, 0, none⟩ = some (.pointer (some ⟨kx, 0, none⟩)) ∧ w'.cell? ⟨pp, 1, none⟩ = some (.pointer (some ⟨ky, 0, none⟩)) ∧ w'.cell? ⟨w.heap.size, 2, none⟩ = some (.int .i64 qmade) ∧ w'.cell? ⟨w.heap.size, 3, none⟩ = some (.int .i64 qlife) ∧ w'.cell? ⟨w.heap.size, 4, none⟩ = some (.int .u16 (qport : Nat)) ∧ w'.cell? ⟨w.heap.size, 5, none⟩ = some (.int .u16 (qpport : Nat)) ∧ w'.cell? ⟨w.heap.size, 6, none⟩ = some (.int .u32 (qtag : Nat)) ∧ w'.cell? ⟨w.heap.size, 7, none⟩ = some (.int .u32 (qptag : Nat)) ∧ w'.cell? ⟨w.heap.size, 8, none⟩ = some (.int .u32 (qtsn : Nat)) ∧ w'.cell? ⟨w.heap.size, 9, none⟩ = some (.int .u32 (qptsn : Nat)) ∧ w'.cell? ⟨w.heap.size, 10, none⟩ = some (.int .u32 (qroom : Nat)) ∧ w'.cell? ⟨w.heap.size, 11, none⟩ = some (.int .u16 (qouts : Nat)) ∧ w'.cell? ⟨w.heap.size, 12, none⟩ = some (.int .u16 (qins : Nat)) ∧ w'.cell? ⟨w.heap.size, 13, none⟩ = some (.int .u32 (qaddr : Nat)) ∧ w'.cell? ⟨w.heap.size, 14, none⟩ = some (.int .u32 (qother : Nat))) := fun w' hb => ⟨(p1.below (bW.trans (hb.mono bW.size))).cell 0 _ rfl, (p1.below (bW.trans (hb.mono bW.size))).cell 1 _ rfl, (sD.below hb).cell 2 _ rfl, (sD.below hb).cell 3 _ rfl, (sD.below hb).cell 4 _ rfl, (sD.below hb).cell 5 _ rfl, (sD.below hb).cell 6 _ rfl, (sD.below hb).cell 7 _ rfl, (sD.below hb).cell 8 _ rfl, (sD.below hb).cell 9 _ rfl, (sD.below hb).cell 10 _ rfl, (sD.below hb).cell 11 _ rfl, (sD.below hb).cell 12 _ rfl, (sD.below hb).cell 13 _ rfl, (sD.below hb).cell 14 _ rfl⟩
  have hA : ∀ V, Below W.heap.size W V → ∀ v1 v2, v1 = .pointer (some ⟨kx, 0, none⟩) → v2 = .agg #[.int .i64 qmade, .int .i64 qlife, .int .u16 (qport : Nat), .int .u16 (qpport : Nat), .int .u32 (qtag : Nat), .int .u32 (qptag : Nat), .int .u32 (qtsn : Nat), .int .u32 (qptsn : Nat), .int .u32 (qroom : Nat), .int .u16 (qouts : Nat), .int .u16 (qins : Nat), .int .u32 (qaddr : Nat), .int .u32 (qother : Nat)] → Calls Tryd.prog 10 #[v1, v2] V fun e w' => ∃ a1 c1, e = .returned (.tuple #[.slice a1 SL.length c1, .int .i64 (ER : Nat)]) ∧ OwnB w' W.heap.size a1 SL.length c1 SL ∧ Below W.heap.size W w' := by
    intro V hV v1 v2 e1 e2
    subst e1 e2
    have hq := seal_all kx cur fm qmade qlife qport qpport qtag qptag qtsn qptsn qroom qouts qins qaddr qother V hwm hwl hport hpport htag hptag htsn hptsn hroom houts hins haddr hother (hW1.below hV).x.ky (hW1.kw.next (hW1.below hV).bel)
    rw [← hSL, ← hER] at hq
    refine hq.mono ?_
    rintro e w' ⟨⟨a1, c1, h1, h2⟩, h3⟩
    exact ⟨a1, c1, h1, h2.base hV.size, hV.trans (h3.mono hV.size)⟩
  have hB : ∀ V, Below W.heap.size W V → ∀ v1 v2, v1 = .pointer (some ⟨ky, 0, none⟩) → v2 = .agg #[.int .i64 qmade, .int .i64 qlife, .int .u16 (qport : Nat), .int .u16 (qpport : Nat), .int .u32 (qtag : Nat), .int .u32 (qptag : Nat), .int .u32 (qtsn : Nat), .int .u32 (qptsn : Nat), .int .u32 (qroom : Nat), .int .u16 (qouts : Nat), .int .u16 (qins : Nat), .int .u32 (qaddr : Nat), .int .u32 (qother : Nat)] → Calls Tryd.prog 16 #[v1, v2] V fun e w' => ∃ a2 c2, e = .returned (.tuple #[.slice a2 SL.length c2, .int .i64 (ER : Nat)]) ∧ OwnB w' W.heap.size a2 SL.length c2 SL ∧ Below V.heap.size V w' ∧ Below W.heap.size W w' := by
    intro V hV v1 v2 e1 e2
    subst e1 e2
    refine (hS2 V hV).mono ?_
    rintro e w' ⟨⟨a1, c1, h1, h2⟩, h3⟩
    exact ⟨a1, c1, h1, h2.base hV.size, h3, hV.trans (h3.mono hV.size)⟩
  have HCS := (show Hid _ from hcs)
  have HSL := (show Hid _ from hSL)
  clear hS1 hS2 hcs hER hSL
  go_enter Tryd.func9, Tryd.ntmps9
  go_wp2_with fail
  rw [← hW]
  clear hW
  obtain ⟨ga, gb, g0, g1, g2, g3, g4, g5, g6, g7, g8, g9, g10, g11, g12⟩ := HALL.out _ ((Below.refl _ W).drew)
  go_region_held3 (fun w' => w'.cell? ⟨pp, 0, none⟩ = some (.pointer (some ⟨kx, 0, none⟩)) ∧ w'.cell? ⟨pp, 1, none⟩ = some (.pointer (some ⟨ky, 0, none⟩)) ∧ w'.cell? ⟨w.heap.size, 2, none⟩ = some (.int .i64 qmade) ∧ w'.cell? ⟨w.heap.size, 3, none⟩ = some (.int .i64 qlife) ∧ w'.cell? ⟨w.heap.size, 4, none⟩ = some (.int .u16 (qport : Nat)) ∧ w'.cell? ⟨w.heap.size, 5, none⟩ = some (.int .u16 (qpport : Nat)) ∧ w'.cell? ⟨w.heap.size, 6, none⟩ = some (.int .u32 (qtag : Nat)) ∧ w'.cell? ⟨w.heap.size, 7, none⟩ = some (.int .u32 (qptag : Nat)) ∧ w'.cell? ⟨w.heap.size, 8, none⟩ = some (.int .u32 (qtsn : Nat)) ∧ w'.cell? ⟨w.heap.size, 9, none⟩ = some (.int .u32 (qptsn : Nat)) ∧ w'.cell? ⟨w.heap.size, 10, none⟩ = some (.int .u32 (qroom : Nat)) ∧ w'.cell? ⟨w.heap.size, 11, none⟩ = some (.int .u16 (qouts : Nat)) ∧ w'.cell? ⟨w.heap.size, 12, none⟩ = some (.int .u16 (qins : Nat)) ∧ w'.cell? ⟨w.heap.size, 13, none⟩ = some (.int .u32 (qaddr : Nat)) ∧ w'.cell? ⟨w.heap.size, 14, none⟩ = some (.int .u32 (qother : Nat))) (first | exact ⟨by assumption, by assumption, by assumption, by assumption, by assumption, by assumption, by assumption, by assumption, by assumption, by assumption, by assumption, by assumption, by assumption, by assumption, by assumption⟩ | fail) (first
    | (go_at_call 10; refine (hA _ (by first | exact Below.refl _ _ | exact (Below.refl _ _).drew) _ _ (by rfl) (by rfl)).mono ?_; rintro e w1 ⟨a1, c1, rfl, o1, b1⟩; obtain ⟨fa, fb, f0, f1, f2, f3, f4, f5, f6, f7, f8, f9, f10, f11, f12⟩ := HALL.out _ b1)
    | fail)
  go_wp2_with fail
  clear ga gb g0 g1 g2 g3 g4 g5 g6 g7 g8 g9 g10 g11 g12
  obtain ⟨ga, gb, g0, g1, g2, g3, g4, g5, g6, g7, g8, g9, g10, g11, g12⟩ := HALL.out _ b1.drew
  have hb1d := b1.drew
  go_region_held3 (fun w' => w'.cell? ⟨pp, 0, none⟩ = some (.pointer (some ⟨kx, 0, none⟩)) ∧ w'.cell? ⟨pp, 1, none⟩ = some (.pointer (some ⟨ky, 0, none⟩)) ∧ w'.cell? ⟨w.heap.size, 2, none⟩ = some (.int .i64 qmade) ∧ w'.cell? ⟨w.heap.size, 3, none⟩ = some (.int .i64 qlife) ∧ w'.cell? ⟨w.heap.size, 4, none⟩ = some (.int .u16 (qport : Nat)) ∧ w'.cell? ⟨w.heap.size, 5, none⟩ = some (.int .u16 (qpport : Nat)) ∧ w'.cell? ⟨w.heap.size, 6, none⟩ = some (.int .u32 (qtag : Nat)) ∧ w'.cell? ⟨w.heap.size, 7, none⟩ = some (.int .u32 (qptag : Nat)) ∧ w'.cell? ⟨w.heap.size, 8, none⟩ = some (.int .u32 (qtsn : Nat)) ∧ w'.cell? ⟨w.heap.size, 9, none⟩ = some (.int .u32 (qptsn : Nat)) ∧ w'.cell? ⟨w.heap.size, 10, none⟩ = some (.int .u32 (qroom : Nat)) ∧ w'.cell? ⟨w.heap.size, 11, none⟩ = some (.int .u16 (qouts : Nat)) ∧ w'.cell? ⟨w.heap.size, 12, none⟩ = some (.int .u16 (qins : Nat)) ∧ w'.cell? ⟨w.heap.size, 13, none⟩ = some (.int .u32 (qaddr : Nat)) ∧ w'.cell? ⟨w.heap.size, 14, none⟩ = some (.int .u32 (qother : Nat))) (first | exact ⟨by assumption, by assumption, by assumption, by assumption, by assumption, by assumption, by assumption, by assumption, by assumption, by assumption, by assumption, by assumption, by assumption, by assumption, by assumption⟩ | fail) (first
    | (go_at_call 16; refine (hB _ (by first | exact b1 | exact hb1d | exact b1.drew) _ _ (by rfl) (by rfl)).mono ?_; rintro e w2 ⟨a2, c2, rfl, o2, b2, bW2⟩; obtain ⟨ia, ib, i0, i1, i2, i3, i4, i5, i6, i7, i8, i9, i10, i11, i12⟩ := HALL.out _ bW2)
    | fail)
  have o1' : OwnB w2 W.heap.size a1 SL.length c1 SL := by first | exact o1.below b2 | exact (o1.below (Below.refl _ _).drew).below b2
  have b02 := bW.trans (bW2.mono bW.size)
  have hP2 := h.below b02
  have sp := p1.below b02
  have y2 := sp.cell 2 _ rfl
  have y2f := sp.free 2
  have zW := bW.size
  have hbk := own_blk o2
  have HFA : Hid (CdP w0 pp kx ky m w (.returned (.bool true)) w2) := ⟨rfl, ⟨cur, fm, rs, hP2.up_ (Nat.le_succ _)⟩, Fr.of_below b02⟩
  have HFB : Hid (CdP w0 pp kx ky m w (.returned (.bool true)) (w2.setCell ⟨pp, 2, none⟩ (.slice a2 SL.length c2))) := by
    have hf : Fr (fun b => b = pp) w2 (w2.setCell ⟨pp, 2, none⟩ (.slice a2 SL.length c2)) := Fr.setCell _ _ _ _ rfl
    have hbe : Below w0.heap.size w0 (w2.setCell ⟨pp, 2, none⟩ (.slice a2 SL.length c2)) := hP2.bel.trans (hf.below _ hP2.bel.size (fun k hk => by have := h.bp; omega))
    exact ⟨rfl, ⟨cur, fm, rs, ⟨a2, SL.length, c2, SL, sp.set 2 _, ((o2.sl (by omega)).frH hf (fun k hk e => by have := (hbk k hk).1; omega)), by omega, fun k hk => by have := (hbk k hk).1; exact ⟨by omega, by omega, by omega⟩⟩, hP2.x.fr hf (fun e => h.n1 e.symm) (fun k hk e => hk.1 e), hP2.y.fr hf (fun e => h.n2 e.symm) (fun k hk e => hk.1 e), h.L, by have := h.len; omega, h.n1, h.n2, h.n3, h.kw, hbe, h.bp, h.bx, h.by_⟩, Fr.trans (Fr.of_below b02) (hf.mono (fun k _ e => .inl e))⟩
  have cvA := conv_str (o1'.sl (by omega))
  have cvB := conv_str (o2.sl (by omega))
  have cvC := conv_str ((o1'.setOther pp 2 (.slice a2 SL.length c2) (by omega)).sl (by omega))
  have cvD := conv_str ((o2.setOther pp 2 (.slice a2 SL.length c2) (by omega)).sl (by omega))
  clear ga gb g0 g1 g2 g3 g4 g5 g6 g7 g8 g9 g10 g11 g12 fa fb f0 f1 f2 f3 f4 f5 f6 f7 f8 f9 f10 f11 f12 ia ib i0 i1 i2 i3 i4 i5 i6 i7 i8 i9 i10 i11 i12 HALL hA hB sD o1 o1' o2 b1 b2 b02 hbk hP2 sp p2 h hW1 bW2 hb1d
  generalize strOf SL = st at *
  rcases HCS.out with hE | hE
  · subst hE
    clear HCS
    go_wp2
    all_goals
      go_ret
      first
        | exact HFB.out
        | (trace_state; fail)
  · subst hE
    clear HCS
    go_wp2
    all_goals
      go_ret
      first
        | exact HFA.out
        | (trace_state; fail)
end Go.Proofs.YtmikhnaffhheoaaDoor
namespace Go.Proofs.YtmikhnaffhheoaaDoor
open Go.RowKit
set_option linter.unusedVariables false in
set_option maxRecDepth 100000 in
set_option maxHeartbeats 8000000 in
theorem do_back (op : Int) (da : Option Addr) (dn dc : Nat) (zs : List Nat) (qmade qlife : Int) (qport qpport qtag qptag qtsn qptsn qroom qouts qins qaddr qother : Nat) (now : Int) (at_ by_ back : Nat) (pp kx ky m : Nat) (cur : List Nat) (fm : Option (List Nat)) (rs : List Sec) (w0 w : World) (h : Pr w0 w pp kx ky cur fm rs m) (hm : m ≤ 800) (hwm : (Lit.int .i64 qmade).wf = true) (hwl : (Lit.int .i64 qlife).wf = true) (hport : qport < 65536) (hpport : qpport < 65536) (htag : qtag < 4294967296) (hptag : qptag < 4294967296) (htsn : qtsn < 4294967296) (hptsn : qptsn < 4294967296) (hroom : qroom < 4294967296) (houts : qouts < 65536) (hins : qins < 65536) (haddr : qaddr < 4294967296) (hother : qother < 4294967296) (hbk : back < 256) (hop0 : ¬ op = 0) (hop1 : ¬ op = 1) (hop2 : ¬ op = 2) (hop3 : ¬ op = 3) :
    Calls Tryd.prog 9 #[.pointer (some ⟨pp, 0, none⟩), .agg #[.int .i64 op, .slice da dn dc, .int .i64 qmade, .int .i64 qlife, .int .u16 (qport : Nat), .int .u16 (qpport : Nat), .int .u32 (qtag : Nat), .int .u32 (qptag : Nat), .int .u32 (qtsn : Nat), .int .u32 (qptsn : Nat), .int .u32 (qroom : Nat), .int .u16 (qouts : Nat), .int .u16 (qins : Nat), .int .u32 (qaddr : Nat), .int .u32 (qother : Nat), .int .i64 now, .int .u8 (at_ : Nat), .int .u8 (by_ : Nat), .int .u8 (back : Nat)]] w (CdP w0 pp kx ky m w) := by
  obtain ⟨W, hW⟩ : ∃ W, W = w.alloc (.cells #[.int .i64 op, .slice da dn dc, .int .i64 qmade, .int .i64 qlife, .int .u16 (qport : Nat), .int .u16 (qpport : Nat), .int .u32 (qtag : Nat), .int .u32 (qptag : Nat), .int .u32 (qtsn : Nat), .int .u32 (qptsn : Nat), .int .u32 (qroom : Nat), .int .u16 (qouts : Nat), .int .u16 (qins : Nat), .int .u32 (qaddr : Nat), .int .u32 (qother : Nat), .int .i64 now, .int .u8 (at_ : Nat), .int .u8 (by_ : Nat), .int .u8 (back : Nat)] 41) := ⟨_, rfl⟩
  have bW : Below w.heap.size w W := by rw [hW]; exact (Below.refl _ _).alloc (Nat.le_refl _) _
  have sD := Stc.new w [.int .i64 op, .slice da dn dc, .int .i64 qmade, .int .i64 qlife, .int .u16 (qport : Nat), .int .u16 (qpport : Nat), .int .u32 (qtag : Nat), .int .u32 (qptag : Nat), .int .u32 (qtsn : Nat), .int .u32 (qptsn : Nat), .int .u32 (qroom : Nat), .int .u16 (qouts : Nat), .int .u16 (qins : Nat), .int .u32 (qaddr : Nat), .int .u32 (qother : Nat), .int .i64 now, .int .u8 (at_ : Nat), .int .u8 (by_ : Nat), .int .u8 (back : Nat)] 41 W hW
  obtain ⟨j, x0, hj, _, _⟩ := h.L.last
  obtain ⟨la, ln, lc, zl, p1, p2, p3, p4⟩ := h.p
  have hWr := (h.below bW)
  obtain ⟨g, n, c, k1, k2, k3, k4, k5, k6⟩ := hWr.y.rk.at_
  have hml := h.len
  have hn1 : 1 ≤ n := by omega
  obtain ⟨t, ht⟩ : ∃ t, t = n - 1 - back % n := ⟨_, rfl⟩
  have hbm : back % n < n := Nat.mod_lt _ (by omega)
  have htl : t < n := by omega
  have htm : Int.tmod (back : Int) (n : Int) = ((back % n : Nat) : Int) := by rw [Int.tmod_eq_emod_of_nonneg (by omega)]; rfl
  have hte : (n : Int) - 1 - ((back % n : Nat) : Int) = (t : Int) := by omega
  obtain ⟨x, hx⟩ : ∃ x, rs[t]? = some x := ⟨_, List.getElem?_eq_getElem (by omega)⟩
  have hxm := List.mem_of_getElem? hx
  obtain ⟨xs1, xs2, _⟩ := hWr.y.rk.each x hxm
  have BKN : ∀ V V', (Pr w0 V pp kx ky cur fm rs m ∧ Stc V w.heap.size [.int .i64 op, .slice da dn dc, .int .i64 qmade, .int .i64 qlife, .int .u16 (qport : Nat), .int .u16 (qpport : Nat), .int .u32 (qtag : Nat), .int .u32 (qptag : Nat), .int .u32 (qtsn : Nat), .int .u32 (qptsn : Nat), .int .u32 (qroom : Nat), .int .u16 (qouts : Nat), .int .u16 (qins : Nat), .int .u32 (qaddr : Nat), .int .u32 (qother : Nat), .int .i64 now, .int .u8 (at_ : Nat), .int .u8 (by_ : Nat), .int .u8 (back : Nat)]) → Below V.heap.size V V' → (Pr w0 V' pp kx ky cur fm rs m ∧ Stc V' w.heap.size [.int .i64 op, .slice da dn dc, .int .i64 qmade, .int .i64 qlife, .int .u16 (qport : Nat), .int .u16 (qpport : Nat), .int .u32 (qtag : Nat), .int .u32 (qptag : Nat), .int .u32 (qtsn : Nat), .int .u32 (qptsn : Nat), .int .u32 (qroom : Nat), .int .u16 (qouts : Nat), .int .u16 (qins : Nat), .int .u32 (qaddr : Nat), .int .u32 (qother : Nat), .int .i64 now, .int .u8 (at_ : Nat), .int .u8 (by_ : Nat), .int .u8 (back : Nat)]) := fun V V' hV hb => ⟨hV.1.below hb, hV.2.below hb⟩
  have HALL : Hid (∀ w', Below W.heap.size W w' → (Pr w0 w' pp kx ky cur fm rs m ∧ Stc w' w.heap.size [.int .i64 op, .slice da dn dc, .int .i64 qmade, .int .i64 qlife, .int .u16 (qport : Nat), .int .u16 (qpport : Nat), .int .u32 (qtag : Nat), .int .u32 (qptag : Nat), .int .u32 (qtsn : Nat), .int .u32 (qptsn : Nat), .int .u32 (qroom : Nat), .int .u16 (qouts : Nat), .int .u16 (qins : Nat), .int .u32 (qaddr : Nat), .int .u32 (qother : Nat), .int .i64 now, .int .u8 (at_ : Nat), .int .u8 (by_ : Nat), .int .u8 (back : Nat)]) → w'.cell? ⟨pp, 1, none⟩ = some (.pointer (some ⟨ky, 0, none⟩)) ∧ w'.cell? ⟨ky, 0, none⟩ = some (.slice (some ⟨g, 0, none⟩) n c) ∧ w'.cell? ⟨g, t, none⟩ = some (.slice x.a x.n x.c) ∧ w'.cell? ⟨w.heap.size, 2, none⟩ = some (.int .i64 qmade) ∧ w'.cell? ⟨w.heap.size, 3, none⟩ = some (.int .i64 qlife) ∧ w'.cell? ⟨w.heap.size, 4, none⟩ = some (.int .u16 (qport : Nat)) ∧ w'.cell? ⟨w.heap.size, 5, none⟩ = some (.int .u16 (qpport : Nat)) ∧ w'.cell? ⟨w.heap.size, 6, none⟩ = some (.int .u32 (qtag : Nat)) ∧ w'.cell? ⟨w.heap.size, 7, none⟩ = some (.int .u32 (qptag : Nat)) ∧ w'.cell? ⟨w.heap.size, 8, none⟩ = some (.int .u32 (qtsn : Nat)) ∧ w'.cell? ⟨w.heap.size, 9, none⟩ = some (.int .u32 (qptsn : Nat)) ∧ w'.cell? ⟨w.heap.size, 10, none⟩ = some (.int .u32 (qroom : Nat)) ∧ w'.cell? ⟨w.heap.size, 11, none⟩ = some (.int .u16 (qouts : Nat)) ∧ w'.cell? ⟨w.heap.size, 12, none⟩ = some (.int .u16 (qins : Nat)) ∧ w'.cell? ⟨w.heap.size, 13, none⟩ = some (.int .u32 (qaddr : Nat)) ∧ w'.cell? ⟨w.heap.size, 14, none⟩ = some (.int .u32 (qother : Nat))) := fun w' hb h' => by
    obtain ⟨la, ln, lc, zl, q1, _⟩ := h'.1.p
    exact ⟨q1.cell 1 _ rfl, (k1.below hb).cell 0 _ rfl, (hb.cell (p := ⟨g, t, none⟩) k4).trans (k6 t x hx), h'.2.cell 2 _ rfl, h'.2.cell 3 _ rfl, h'.2.cell 4 _ rfl, h'.2.cell 5 _ rfl, h'.2.cell 6 _ rfl, h'.2.cell 7 _ rfl, h'.2.cell 8 _ rfl, h'.2.cell 9 _ rfl, h'.2.cell 10 _ rfl, h'.2.cell 11 _ rfl, h'.2.cell 12 _ rfl, h'.2.cell 13 _ rfl, h'.2.cell 14 _ rfl⟩
  obtain ⟨SL, hSL⟩ : ∃ SL, SL = (if ckMay qmade qlife = true then sealV x.zs ⟨qmade.toNat, qlife.toNat, qport, qpport, qtag, qptag, qtsn, qptsn, qroom, qouts, qins, qaddr, qother⟩ else []) := ⟨_, rfl⟩
  obtain ⟨ER, hER⟩ : ∃ ER, ER = (if ckMay qmade qlife = true then 0 else 6) := ⟨_, rfl⟩
  have hlen : SL.length ≤ 84 := by rw [hSL]; split; rw [sealV_len]; exact Nat.le_refl _; simp
  have hnw : ∀ V, Below W.heap.size W V → ∀ v, v = .slice x.a x.n x.c → Calls Tryd.prog 12 #[v] V fun e w' => ∃ kp', e = .returned (.pointer (some ⟨kp', 0, none⟩)) ∧ (∃ rs', RKy w' kp' rs' ∧ rs'.map (·.zs) = [x.zs]) ∧ Below V.heap.size V w' := by
    intro V hV v hv
    subst hv
    refine (rknew_any x.a x.n x.c x.zs V (xs1.below hV) xs2).mono ?_
    rintro e w' ⟨⟨kp', rs', h1, h2, h3, _⟩, h4⟩
    exact ⟨kp', h1, ⟨rs', h2, h3⟩, h4⟩
  have hsl : ∀ V kp', (∃ rs', RKy V kp' rs' ∧ rs'.map (·.zs) = [x.zs]) → ∀ V', Below V.heap.size V V' → ∀ v1 v2, v1 = .pointer (some ⟨kp', 0, none⟩) → v2 = .agg #[.int .i64 qmade, .int .i64 qlife, .int .u16 (qport : Nat), .int .u16 (qpport : Nat), .int .u32 (qtag : Nat), .int .u32 (qptag : Nat), .int .u32 (qtsn : Nat), .int .u32 (qptsn : Nat), .int .u32 (qroom : Nat), .int .u16 (qouts : Nat), .int .u16 (qins : Nat), .int .u32 (qaddr : Nat), .int .u32 (qother : Nat)] → Calls Tryd.prog 16 #[v1, v2] V' fun e w' => ∃ a2 c2, e = .returned (.tuple #[.slice a2 SL.length c2, .int .i64 (ER : Nat)]) ∧ OwnB w' V'.heap.size a2 SL.length c2 SL ∧ Below V'.heap.size V' w' := by
    rintro V kp' ⟨rs', hR, hM⟩ V' hb v1 v2 e1 e2
    subst e1 e2
    obtain ⟨sec, rfl⟩ : ∃ sec, rs' = [sec] := by
      cases rs' with
      | nil => simp at hM
      | cons sec tl =>
        cases tl with
        | nil => exact ⟨sec, rfl⟩
        | cons _ _ => simp at hM
    have hz : sec.zs = x.zs := by simpa using hM
    have := rseal_all kp' [sec] sec 0 rfl rfl qmade qlife qport qpport qtag qptag qtsn qptsn qroom qouts qins qaddr qother V' hwm hwl hport hpport htag hptag htsn hptsn hroom houts hins haddr hother (hR.below hb)
    rw [hz, ← hSL, ← hER] at this
    refine this.mono ?_
    rintro e w' ⟨⟨a2, c2, h1, h2⟩, h3⟩
    exact ⟨a2, c2, h1, h2, h3⟩
  have HOP : Hid (∀ V, Below w.heap.size w V → ∀ a2 c2, Sl V a2 SL.length c2 SL → Calls Tryd.prog 17 #[.pointer (some ⟨pp, 0, none⟩), .slice a2 SL.length c2, .int .i64 now] V fun e w' => e = .returned (.bool true) ∧ Below V.heap.size V w') := fun V hV a2 c2 hs2 => by
    obtain ⟨la, ln, lc, zl, q1, _⟩ := (h.below hV).p
    exact popen_any pp kx ky _ cur fm rs a2 SL.length c2 SL now V q1 (h.below hV).x.ky (h.below hV).y.rk h.L hs2 (by omega) (h.kw.next (h.below hV).bel)
  have HFIN : Hid (∀ V, Below w.heap.size w V → CdP w0 pp kx ky m w (.returned (.bool true)) V) := fun V hV => ⟨rfl, ⟨cur, fm, rs, (h.below hV).up_ (Nat.le_succ _)⟩, Fr.of_below hV⟩
  have y1 := (p1.below bW).cell 1 _ rfl
  have y0 := k1.cell 0 _ rfl
  have yb : W.cell? ⟨w.heap.size, 18, none⟩ = some (.int .u8 (back : Nat)) := sD.cell 18 _ rfl
  have hz0 : ¬ (n : Int) = 0 := by omega
  have hn1000 : n ≤ 1000 := k3
  have hC0 : (Pr w0 W pp kx ky cur fm rs m ∧ Stc W w.heap.size [.int .i64 op, .slice da dn dc, .int .i64 qmade, .int .i64 qlife, .int .u16 (qport : Nat), .int .u16 (qpport : Nat), .int .u32 (qtag : Nat), .int .u32 (qptag : Nat), .int .u32 (qtsn : Nat), .int .u32 (qptsn : Nat), .int .u32 (qroom : Nat), .int .u16 (qouts : Nat), .int .u16 (qins : Nat), .int .u32 (qaddr : Nat), .int .u32 (qother : Nat), .int .i64 now, .int .u8 (at_ : Nat), .int .u8 (by_ : Nat), .int .u8 (back : Nat)]) := ⟨hWr, sD⟩
  clear h hWr hSL hER xs1 xs2 k1 k6 p1 p2 p3 p4 ht
  generalize back % n = bm at *
  go_enter Tryd.func9, Tryd.ntmps9
  go_wp2
  rw [← hW]
  clear hW
  go_quiet (fail)
  all_goals
    have bq : Below W.heap.size W (W.drewN nq) := ⟨rfl, rfl, rfl, Nat.le_refl _, fun _ _ => rfl⟩
    obtain ⟨V0, hV0⟩ : ∃ V, V = W.drewN nq := ⟨_, rfl⟩
    rw [← hV0] at bq ⊢
    clear hV0 y1 y0 yb
    go_wp2_with fail
    have hti : (0 : Int) ≤ (t : Int) := by omega
    have htn : (t : Int) < (n : Int) := by omega
    have bD := bq.drew
    obtain ⟨ga, gb, gc, g0, g1, g2, g3, g4, g5, g6, g7, g8, g9, g10, g11, g12⟩ := HALL.out _ bD (BKN _ _ hC0 bD)
    have hBs := bD
    go_region_held3 (fun w' => w'.cell? ⟨pp, 1, none⟩ = some (.pointer (some ⟨ky, 0, none⟩)) ∧ w'.cell? ⟨ky, 0, none⟩ = some (.slice (some ⟨g, 0, none⟩) n c) ∧ w'.cell? ⟨g, t, none⟩ = some (.slice x.a x.n x.c) ∧ w'.cell? ⟨w.heap.size, 2, none⟩ = some (.int .i64 qmade) ∧ w'.cell? ⟨w.heap.size, 3, none⟩ = some (.int .i64 qlife) ∧ w'.cell? ⟨w.heap.size, 4, none⟩ = some (.int .u16 (qport : Nat)) ∧ w'.cell? ⟨w.heap.size, 5, none⟩ = some (.int .u16 (qpport : Nat)) ∧ w'.cell? ⟨w.heap.size, 6, none⟩ = some (.int .u32 (qtag : Nat)) ∧ w'.cell? ⟨w.heap.size, 7, none⟩ = some (.int .u32 (qptag : Nat)) ∧ w'.cell? ⟨w.heap.size, 8, none⟩ = some (.int .u32 (qtsn : Nat)) ∧ w'.cell? ⟨w.heap.size, 9, none⟩ = some (.int .u32 (qptsn : Nat)) ∧ w'.cell? ⟨w.heap.size, 10, none⟩ = some (.int .u32 (qroom : Nat)) ∧ w'.cell? ⟨w.heap.size, 11, none⟩ = some (.int .u16 (qouts : Nat)) ∧ w'.cell? ⟨w.heap.size, 12, none⟩ = some (.int .u16 (qins : Nat)) ∧ w'.cell? ⟨w.heap.size, 13, none⟩ = some (.int .u32 (qaddr : Nat)) ∧ w'.cell? ⟨w.heap.size, 14, none⟩ = some (.int .u32 (qother : Nat))) (first | exact ⟨by assumption, by assumption, by assumption, by assumption, by assumption, by assumption, by assumption, by assumption, by assumption, by assumption, by assumption, by assumption, by assumption, by assumption, by assumption, by assumption⟩ | fail) (first
      | (go_at_call 12; refine (hnw _ (by first | exact hBs | exact bq) _ (by rfl)).mono ?_; rintro e wN ⟨kp', rfl, hRN, hbN⟩; have hBs := hBs.trans (hbN.mono hBs.size); obtain ⟨fa, fb, fc, f0, f1, f2, f3, f4, f5, f6, f7, f8, f9, f10, f11, f12⟩ := HALL.out _ hBs (BKN _ _ hC0 hBs))
      | (go_at_call 16; refine (hsl _ kp' hRN _ (by first | exact Below.refl _ _ | exact (Below.refl _ _).drew) _ _ (by rfl) (by rfl)).mono ?_; rintro e wS ⟨a2, c2, rfl, o2, bS⟩; have hBs := hBs.trans (bS.mono hBs.size); obtain ⟨ia, ib, ic, i0, i1, i2, i3, i4, i5, i6, i7, i8, i9, i10, i11, i12⟩ := HALL.out _ hBs (BKN _ _ hC0 hBs))
      | fail)
    all_goals
      have bwS := bW.trans (hBs.mono bW.size)
      have hop := HOP.out wS bwS a2 c2 (o2.sl (by omega))
      have cN : wS.cell? ⟨w.heap.size, 15, none⟩ = some (.int .i64 now) := (sD.below hBs).cell 15 _ rfl
      have HFN : Hid (∀ V, Below wS.heap.size wS V → CdP w0 pp kx ky m w (.returned (.bool true)) V) := fun V hV => HFIN.out V (bwS.trans (hV.mono bwS.size))
      clear ga gb gc g0 g1 g2 g3 g4 g5 g6 g7 g8 g9 g10 g11 g12 fa fb fc f0 f1 f2 f3 f4 f5 f6 f7 f8 f9 f10 f11 f12 ia ib ic i0 i1 i2 i3 i4 i5 i6 i7 i8 i9 i10 i11 i12 hBs o2 bS hRN hbN bD bq HALL hnw hsl HOP HFIN hC0 BKN bwS sD bW
      go_wp2_with fail
      refine hop.mono ?_
      rintro e wE ⟨rfl, bE⟩
      have HP := (show Hid _ from HFN.out wE bE)
      clear hop cN bE HFN
      go_wp2
      go_ret
      exact HP.out
end Go.Proofs.YtmikhnaffhheoaaDoor
namespace Go.Proofs.YtmikhnaffhheoaaDoor
open Go.RowKit
set_option maxRecDepth 100000 in
set_option maxHeartbeats 8000000 in
theorem do_open (act : Int) (da : Option Addr) (dn dc : Nat) (zs : List Nat) (qmade qlife : Int) (qport qpport qtag qptag qtsn qptsn qroom qouts qins qaddr qother : Nat) (now : Int) (at_ by_ back : Nat) (pp kx ky : Nat) (la : Value) (cur : List Nat) (fm : Option (List Nat)) (rs : List Sec) (w : World) (hp : Stc w pp [.pointer (some ⟨kx, 0, none⟩), .pointer (some ⟨ky, 0, none⟩), la]) (hx : Ky w kx cur fm) (hy : RKy w ky rs) (hL : CkL (rs.map (·.zs)) cur fm) (hs : Sl w da dn dc zs) (hn : dn ≤ 140737488354000) (hkw : KW w) (hact : act = 2) :
    Calls Tryd.prog 9 #[.pointer (some ⟨pp, 0, none⟩), .agg #[.int .i64 act, .slice da dn dc, .int .i64 qmade, .int .i64 qlife, .int .u16 (qport : Nat), .int .u16 (qpport : Nat), .int .u32 (qtag : Nat), .int .u32 (qptag : Nat), .int .u32 (qtsn : Nat), .int .u32 (qptsn : Nat), .int .u32 (qroom : Nat), .int .u16 (qouts : Nat), .int .u16 (qins : Nat), .int .u32 (qaddr : Nat), .int .u32 (qother : Nat), .int .i64 now, .int .u8 (at_ : Nat), .int .u8 (by_ : Nat), .int .u8 (back : Nat)]] w fun e w' => e = .returned (.bool true) ∧ Below w.heap.size w w' := by
  subst hact
  obtain ⟨W, hW⟩ : ∃ W, W = w.alloc (.cells #[.int .i64 2, .slice da dn dc, .int .i64 qmade, .int .i64 qlife, .int .u16 (qport : Nat), .int .u16 (qpport : Nat), .int .u32 (qtag : Nat), .int .u32 (qptag : Nat), .int .u32 (qtsn : Nat), .int .u32 (qptsn : Nat), .int .u32 (qroom : Nat), .int .u16 (qouts : Nat), .int .u16 (qins : Nat), .int .u32 (qaddr : Nat), .int .u32 (qother : Nat), .int .i64 now, .int .u8 (at_ : Nat), .int .u8 (by_ : Nat), .int .u8 (back : Nat)] 41) := ⟨_, rfl⟩
  have bW : Below w.heap.size w W := by rw [hW]; exact (Below.refl _ _).alloc (Nat.le_refl _) _
  have hpo := popen_any pp kx ky la cur fm rs da dn dc zs now W (hp.below bW) (hx.below bW) (hy.below bW) hL (hs.below bW) hn (hkw.next bW)
  go_enter Tryd.func9, Tryd.ntmps9
  go_wp2_with fail
  rw [← hW]
  refine hpo.mono ?_
  rintro e w1 ⟨rfl, b1⟩
  have b01 := bW.trans (b1.mono bW.size)
  clear hW bW b1 hpo
  go_wp2
  go_ret
  exact ⟨rfl, b01⟩
theorem own_g {w : World} {B : Nat} {a : Option Addr} {n c : Nat} {zs : List Nat} (h : OwnB w B a n c zs) (hn : 0 < n) : ∃ g, a = some ⟨g, 0, none⟩ ∧ B ≤ g := by
  rcases h.own.2 with ⟨hv, _⟩ | ⟨g, cap, cur, hv, hB, _⟩
  · injection hv with e1 e2 e3
    omega
  · injection hv with e1
    exact ⟨g, e1, hB⟩
set_option maxRecDepth 100000 in
set_option maxHeartbeats 8000000 in
theorem do_last (act : Int) (da : Option Addr) (dn dc : Nat) (qmade qlife : Int) (qport qpport qtag qptag qtsn qptsn qroom qouts qins qaddr qother : Nat) (now : Int) (at_ by_ back : Nat) (pp kx ky : Nat) (la : Option Addr) (ln lc : Nat) (zs : List Nat) (cur : List Nat) (fm : Option (List Nat)) (rs : List Sec) (w : World) (hp : Stc w pp [.pointer (some ⟨kx, 0, none⟩), .pointer (some ⟨ky, 0, none⟩), .slice la ln lc]) (hx : Ky w kx cur fm) (hy : RKy w ky rs) (hL : CkL (rs.map (·.zs)) cur fm) (hs : Sl w la ln lc zs) (hn : ln ≤ 1000) (hkw : KW w) (hat : at_ < 256) (hby : by_ < 256) (hact : act = 3) :
    Calls Tryd.prog 9 #[.pointer (some ⟨pp, 0, none⟩), .agg #[.int .i64 act, .slice da dn dc, .int .i64 qmade, .int .i64 qlife, .int .u16 (qport : Nat), .int .u16 (qpport : Nat), .int .u32 (qtag : Nat), .int .u32 (qptag : Nat), .int .u32 (qtsn : Nat), .int .u32 (qptsn : Nat), .int .u32 (qroom : Nat), .int .u16 (qouts : Nat), .int .u16 (qins : Nat), .int .u32 (qaddr : Nat), .int .u32 (qother : Nat), .int .i64 now, .int .u8 (at_ : Nat), .int .u8 (by_ : Nat), .int .u8 (back : Nat)]] w fun e w' => e = .returned (.bool true) ∧ Below w.heap.size w w' := by
  subst hact
  have bW : Below w.heap.size w (w.alloc (.cells #[.int .i64 3, .slice da dn dc, .int .i64 qmade, .int .i64 qlife, .int .u16 (qport : Nat), .int .u16 (qpport : Nat), .int .u32 (qtag : Nat), .int .u32 (qptag : Nat), .int .u32 (qtsn : Nat), .int .u32 (qptsn : Nat), .int .u32 (qroom : Nat), .int .u16 (qouts : Nat), .int .u16 (qins : Nat), .int .u32 (qaddr : Nat), .int .u32 (qother : Nat), .int .i64 now, .int .u8 (at_ : Nat), .int .u8 (by_ : Nat), .int .u8 (back : Nat)] 41)) := (Below.refl _ _).alloc (Nat.le_refl _) _
  have hz : (w.alloc (.cells #[.int .i64 3, .slice da dn dc, .int .i64 qmade, .int .i64 qlife, .int .u16 (qport : Nat), .int .u16 (qpport : Nat), .int .u32 (qtag : Nat), .int .u32 (qptag : Nat), .int .u32 (qtsn : Nat), .int .u32 (qptsn : Nat), .int .u32 (qroom : Nat), .int .u16 (qouts : Nat), .int .u16 (qins : Nat), .int .u32 (qaddr : Nat), .int .u32 (qother : Nat), .int .i64 now, .int .u8 (at_ : Nat), .int .u8 (by_ : Nat), .int .u8 (back : Nat)] 41)).heap.size = w.heap.size + 1 := by simp
  have oE := own_empty (w.alloc (.cells #[.int .i64 3, .slice da dn dc, .int .i64 qmade, .int .i64 qlife, .int .u16 (qport : Nat), .int .u16 (qpport : Nat), .int .u32 (qtag : Nat), .int .u32 (qptag : Nat), .int .u32 (qtsn : Nat), .int .u32 (qptsn : Nat), .int .u32 (qroom : Nat), .int .u16 (qouts : Nat), .int .u16 (qins : Nat), .int .u32 (qaddr : Nat), .int .u32 (qother : Nat), .int .i64 now, .int .u8 (at_ : Nat), .int .u8 (by_ : Nat), .int .u8 (back : Nat)] 41))
  rw [hz] at oE
  have sE := (hs.below bW).alloc (.cells #[] 5)
  have hpl := hp.lt
  have x2 := hp.cell 2 _ rfl
  go_enter Tryd.func9, Tryd.ntmps9
  go_wp2_with (at_builtin; go_must (refine app_list rfl _ _ rfl (w.heap.size + 1) _ 0 0 [] rfl oE _ ln lc zs rfl sE (by omega) (by simp) ?_))
  intro a1 c1 w1 o1 g1
  have b1 : Below (w.alloc (.cells #[.int .i64 3, .slice da dn dc, .int .i64 qmade, .int .i64 qlife, .int .u16 (qport : Nat), .int .u16 (qpport : Nat), .int .u32 (qtag : Nat), .int .u32 (qptag : Nat), .int .u32 (qtsn : Nat), .int .u32 (qptsn : Nat), .int .u32 (qroom : Nat), .int .u16 (qouts : Nat), .int .u16 (qins : Nat), .int .u32 (qaddr : Nat), .int .u32 (qother : Nat), .int .i64 now, .int .u8 (at_ : Nat), .int .u8 (by_ : Nat), .int .u8 (back : Nat)] 41)).heap.size (w.alloc (.cells #[.int .i64 3, .slice da dn dc, .int .i64 qmade, .int .i64 qlife, .int .u16 (qport : Nat), .int .u16 (qpport : Nat), .int .u32 (qtag : Nat), .int .u32 (qptag : Nat), .int .u32 (qtsn : Nat), .int .u32 (qptsn : Nat), .int .u32 (qroom : Nat), .int .u16 (qouts : Nat), .int .u16 (qins : Nat), .int .u32 (qaddr : Nat), .int .u32 (qother : Nat), .int .i64 now, .int .u8 (at_ : Nat), .int .u8 (by_ : Nat), .int .u8 (back : Nat)] 41)) w1 := ((Below.refl _ _).alloc (Nat.le_refl _) _).trans (by rw [hz]; exact oE.up g1 (by simp))
  have b01 : Below w.heap.size w w1 := bW.trans (b1.mono bW.size)
  have sD := (Stc.new w [.int .i64 3, .slice da dn dc, .int .i64 qmade, .int .i64 qlife, .int .u16 (qport : Nat), .int .u16 (qpport : Nat), .int .u32 (qtag : Nat), .int .u32 (qptag : Nat), .int .u32 (qtsn : Nat), .int .u32 (qptsn : Nat), .int .u32 (qroom : Nat), .int .u16 (qouts : Nat), .int .u16 (qins : Nat), .int .u32 (qaddr : Nat), .int .u32 (qother : Nat), .int .i64 now, .int .u8 (at_ : Nat), .int .u8 (by_ : Nat), .int .u8 (back : Nat)] 41 _ rfl).below b1
  have o2 : OwnB w1 (w.heap.size + 1) a1 ln c1 zs := by simpa using o1
  have z3 := sD.cell 15 _ rfl
  have z4 := sD.cell 16 _ rfl
  have z5 := sD.cell 17 _ rfl
  have hdl := sD.lt
  have hpo := fun W (hb : Below w.heap.size w W) (a : Option Addr) (n c : Nat) (ys : List Nat) (hs : Sl W a n c ys) (hn : n ≤ 1000) => popen_any pp kx ky (.slice la ln lc) cur fm rs a n c ys now W (hp.below hb) (hx.below hb) (hy.below hb) hL hs (by omega) (hkw.next hb)
  have HPO := (show Hid _ from hpo)
  clear oE sE o1 g1 b1 bW hpo x2 hz
  by_cases h0 : 0 < ln
  · obtain ⟨g, rfl, hgB⟩ := own_g o2 h0
    obtain ⟨j, hj⟩ : ∃ j, j = at_ % ln := ⟨_, rfl⟩
    have hjl : j < ln := by rw [hj]; exact Nat.mod_lt _ h0
    have htm : Int.tmod (at_ : Int) (ln : Int) = (j : Int) := by rw [Int.tmod_eq_emod_of_nonneg (by omega), hj]; rfl
    have hcj := o2.cell j hjl
    have hfj := o2.free j
    have hzb := (o2.sl (by omega)).bnd j
    obtain ⟨v, hv⟩ : ∃ v, v = zs.getD j 0 := ⟨_, rfl⟩
    rw [← hv] at hcj hzb
    have hxo := u8_xor_nat v by_ hzb hby
    have hxb : v ^^^ by_ < 256 := Nat.xor_lt_two_pow (n := 8) hzb hby
    obtain ⟨y, hyv⟩ : ∃ y, y = v ^^^ by_ := ⟨_, rfl⟩
    rw [← hyv] at hxo hxb
    have o3 := o2.store j y hxb
    have b3' : Below w.heap.size w (w1.setCell ⟨g, j, none⟩ (.int .u8 (y : Nat))) := b01.setCell (p := ⟨g, j, none⟩) (show w.heap.size ≤ g by omega) _
    have b3 : Below w.heap.size w (w1.setCell ⟨g, j, none⟩ (.int .u8 (y : Nat))).drew := b3'.drew
    have hpo := HPO.out _ b3 _ ln c1 _ ((o3.below (Below.refl _ _).drew).sl (by omega)) hn
    have HB3 := (show Hid _ from b3)
    have hne : ¬ g = w.heap.size := by omega
    have hne2 : ¬ w.heap.size = g := by omega
    have i0 : (0 : Int) < (ln : Int) := by omega
    have i1 : (0 : Int) ≤ (j : Int) := by omega
    have i2 : (j : Int) < (ln : Int) := by omega
    have i3 : ¬ (ln : Int) = 0 := by omega
    have i4 : ((ln : Int) == 0) = false := by simp; omega
    have i5 : ¬ ln = 0 := by omega
    have wj : IntKind.i64.wrap (j : Int) = (j : Int) := by rw [IntKind.wrap_i64]; omega
    have wa : IntKind.i64.wrap (at_ : Int) = (at_ : Int) := by rw [IntKind.wrap_i64]; omega
    clear hj hv hyv o3 o2 b3 b3' b01 HPO sD
    go_wp2_with fail
    go_region_with fail
    all_goals
      go_wp2_with fail
      refine hpo.mono ?_
      rintro e w4 ⟨rfl, b4⟩
      have b04 := HB3.out.trans (b4.mono HB3.out.size)
      clear HB3 hpo z3 z4 z5 hcj hfj b4
      go_wp2
      go_ret
      exact ⟨rfl, b04⟩
  · obtain rfl : ln = 0 := by omega
    have hpo := HPO.out _ b01 _ 0 c1 _ (o2.sl (by omega)) (by omega)
    clear HPO o2 sD
    go_wp2_with fail
    refine hpo.mono ?_
    rintro e w4 ⟨rfl, b4⟩
    have b04 := b01.trans (b4.mono b01.size)
    clear hpo z3 z4 z5 b4 b01
    go_wp2
    go_ret
    exact ⟨rfl, b04⟩
end Go.Proofs.YtmikhnaffhheoaaDoor
namespace Go.Proofs.YtmikhnaffhheoaaDoor
open Go.RowKit
set_option linter.unusedVariables false in
theorem do_open2 (da : Option Addr) (dn dc : Nat) (zs : List Nat) (qmade qlife : Int) (qport qpport qtag qptag qtsn qptsn qroom qouts qins qaddr qother : Nat) (now : Int) (at_ by_ back : Nat) (pp kx ky m : Nat) (cur : List Nat) (fm : Option (List Nat)) (rs : List Sec) (w0 w : World) (h : Pr w0 w pp kx ky cur fm rs m) (hm : m ≤ 800) (hs : Sl w0 da dn dc zs) (hn : dc ≤ 140737488351232) :
    Calls Tryd.prog 9 #[.pointer (some ⟨pp, 0, none⟩), .agg #[.int .i64 2, .slice da dn dc, .int .i64 qmade, .int .i64 qlife, .int .u16 (qport : Nat), .int .u16 (qpport : Nat), .int .u32 (qtag : Nat), .int .u32 (qptag : Nat), .int .u32 (qtsn : Nat), .int .u32 (qptsn : Nat), .int .u32 (qroom : Nat), .int .u16 (qouts : Nat), .int .u16 (qins : Nat), .int .u32 (qaddr : Nat), .int .u32 (qother : Nat), .int .i64 now, .int .u8 (at_ : Nat), .int .u8 (by_ : Nat), .int .u8 (back : Nat)]] w (CdP w0 pp kx ky m w) := by
  obtain ⟨la, ln, lc, zl, p1, p2, p3, p4⟩ := h.p
  have hsw := hs.below h.bel
  have hcap := hs.cap
  refine (do_open 2 da dn dc zs qmade qlife qport qpport qtag qptag qtsn qptsn qroom qouts qins qaddr qother now at_ by_ back pp kx ky _ cur fm rs w p1 h.x.ky h.y.rk h.L hsw (by omega) (h.kw.next h.bel) rfl).mono ?_
  rintro e w' ⟨rfl, hb⟩
  exact ⟨rfl, ⟨cur, fm, rs, (h.below hb).up_ (Nat.le_succ _)⟩, Fr.of_below hb⟩
set_option linter.unusedVariables false in
theorem do_last2 (da : Option Addr) (dn dc : Nat) (zs : List Nat) (qmade qlife : Int) (qport qpport qtag qptag qtsn qptsn qroom qouts qins qaddr qother : Nat) (now : Int) (at_ by_ back : Nat) (pp kx ky m : Nat) (cur : List Nat) (fm : Option (List Nat)) (rs : List Sec) (w0 w : World) (h : Pr w0 w pp kx ky cur fm rs m) (hm : m ≤ 800) (hat : at_ < 256) (hby : by_ < 256) :
    Calls Tryd.prog 9 #[.pointer (some ⟨pp, 0, none⟩), .agg #[.int .i64 3, .slice da dn dc, .int .i64 qmade, .int .i64 qlife, .int .u16 (qport : Nat), .int .u16 (qpport : Nat), .int .u32 (qtag : Nat), .int .u32 (qptag : Nat), .int .u32 (qtsn : Nat), .int .u32 (qptsn : Nat), .int .u32 (qroom : Nat), .int .u16 (qouts : Nat), .int .u16 (qins : Nat), .int .u32 (qaddr : Nat), .int .u32 (qother : Nat), .int .i64 now, .int .u8 (at_ : Nat), .int .u8 (by_ : Nat), .int .u8 (back : Nat)]] w (CdP w0 pp kx ky m w) := by
  obtain ⟨la, ln, lc, zl, p1, p2, p3, p4⟩ := h.p
  refine (do_last 3 da dn dc qmade qlife qport qpport qtag qptag qtsn qptsn qroom qouts qins qaddr qother now at_ by_ back pp kx ky la ln lc zl cur fm rs w p1 h.x.ky h.y.rk h.L p2 p3 (h.kw.next h.bel) hat hby rfl).mono ?_
  rintro e w' ⟨rfl, hb⟩
  exact ⟨rfl, ⟨cur, fm, rs, (h.below hb).up_ (Nat.le_succ _)⟩, Fr.of_below hb⟩
end Go.Proofs.YtmikhnaffhheoaaDoor
namespace Go.Proofs.YtmikhnaffhheoaaDoor
open Go.RowKit Go.ChangeShapes Go.WideShapes Go.ChangeAt
structure Cd where
  op : Int
  bA : Option Addr
  bN : Nat
  bC : Nat
  bZ : List Nat
  kmade : Int
  klife : Int
  kport : Nat
  kpport : Nat
  ktag : Nat
  kptag : Nat
  ktsn : Nat
  kptsn : Nat
  kroom : Nat
  kouts : Nat
  kins : Nat
  kaddr : Nat
  kother : Nat
  now : Int
  att : Nat
  byy : Nat
  back : Nat
instance : Inhabited Cd := ⟨⟨0, none, 0, 0, [], 0, 0, 0, 0, 0, 0, 0, 0, 0, 0, 0, 0, 0, 0, 0, 0, 0⟩⟩
def Cd.vals (x : Cd) : List Value := [.int .i64 x.op, .slice x.bA x.bN x.bC, .int .i64 x.kmade, .int .i64 x.klife, .int .u16 (x.kport : Nat), .int .u16 (x.kpport : Nat), .int .u32 (x.ktag : Nat), .int .u32 (x.kptag : Nat), .int .u32 (x.ktsn : Nat), .int .u32 (x.kptsn : Nat), .int .u32 (x.kroom : Nat), .int .u16 (x.kouts : Nat), .int .u16 (x.kins : Nat), .int .u32 (x.kaddr : Nat), .int .u32 (x.kother : Nat), .int .i64 x.now, .int .u8 (x.att : Nat), .int .u8 (x.byy : Nat), .int .u8 (x.back : Nat)]
def Cd.Wf (w : World) (x : Cd) : Prop := (Lit.int .i64 x.op).wf = true ∧ (Sl w x.bA x.bN x.bC x.bZ ∧ x.bC ≤ 140737488351232) ∧ (Lit.int .i64 x.kmade).wf = true ∧ (Lit.int .i64 x.klife).wf = true ∧ x.kport < 65536 ∧ x.kpport < 65536 ∧ x.ktag < 4294967296 ∧ x.kptag < 4294967296 ∧ x.ktsn < 4294967296 ∧ x.kptsn < 4294967296 ∧ x.kroom < 4294967296 ∧ x.kouts < 65536 ∧ x.kins < 65536 ∧ x.kaddr < 4294967296 ∧ x.kother < 4294967296 ∧ (Lit.int .i64 x.now).wf = true ∧ x.att < 256 ∧ x.byy < 256 ∧ x.back < 256
structure SlC (w : World) (a : Option Addr) (n c : Nat) (dd : List Cd) : Prop where
  len : dd.length = n
  cap : n ≤ c
  small : n ≤ 281474976710656
  at_ : n = 0 ∨ ∃ b off, a = some ⟨b, off, none⟩ ∧ b < w.heap.size ∧ ∀ i x, dd[i]? = some x → ∀ j v, x.vals[j]? = some v → w.cell? ⟨b, off + i * 19 + j, none⟩ = some v
  wf : ∀ x ∈ dd, x.Wf w
theorem SlC.below {w w' : World} {a : Option Addr} {n c : Nat} {dd : List Cd} (h : SlC w a n c dd) (hb : Below w.heap.size w w') : SlC w' a n c dd := by
  refine ⟨h.len, h.cap, h.small, ?_, fun x hx => ?_⟩
  · rcases h.at_ with h0 | ⟨b, off, rfl, hlt, hc⟩
    · exact .inl h0
    · exact .inr ⟨b, off, rfl, Nat.lt_of_lt_of_le hlt hb.size, fun i x hx j v hv => (hb.cell (p := ⟨b, off + i * 19 + j, none⟩) hlt).trans (hc i x hx j v hv)⟩
  · have hh := h.wf x hx
    unfold Cd.Wf at hh ⊢
    obtain ⟨h0, h1, h2, h3, h4, h5, h6, h7, h8, h9, h10, h11, h12, h13, h14, h15, h16, h17, h18⟩ := hh
    exact ⟨h0, ⟨h1.1.below hb, h1.2⟩, h2, h3, h4, h5, h6, h7, h8, h9, h10, h11, h12, h13, h14, h15, h16, h17, h18⟩
theorem SlC.wAll_mem {H : Type} {P : Program} {e : TypeId} : ∀ {ds : List (DataW H)} {d : DataW H}, d ∈ ds → ∀ n ∈ d.weights P e, n ∈ DataW.weightsAll P e ds
  | x :: ds, d, hd, n, hn => by
    unfold DataW.weightsAll
    rcases List.mem_cons.1 hd with rfl | h
    · exact List.mem_append_left _ hn
    · exact List.mem_append_right _ (SlC.wAll_mem h n hn)
theorem SlC.cells_int : Tryd.prog.cellsOf 3 = 1 := by kernel_rfl
theorem SlC.cells___uint8 : Tryd.prog.cellsOf 22 = 1 := by kernel_rfl
theorem SlC.cells_api_Cookie : Tryd.prog.cellsOf 39 = 13 := by kernel_rfl
theorem SlC.cells_uint16 : Tryd.prog.cellsOf 36 = 1 := by kernel_rfl
theorem SlC.cells_uint32 : Tryd.prog.cellsOf 37 = 1 := by kernel_rfl
theorem SlC.cells_uint8 : Tryd.prog.cellsOf 5 = 1 := by kernel_rfl
theorem SlC.bytes_u8 : Tryd.prog.bytesOf 5 = 1 := by kernel_rfl
theorem SlC.open_bytes {H : Type} {enc : TypeId × Value → H} {w : World} {base : Nat} {held : Bool} {fuel : Nat} {v : Value} {y : DataW H × List MemPlace}
    (h : DataW.trod enc Tryd.prog w base (fun _ => true) held fuel 22 [v] = some y) (hw : ∀ n ∈ y.1.weights Tryd.prog 22, n ≤ reachBytes) : ∃ a n c zs, v = .slice a n c ∧ Sl w a n c zs ∧ c ≤ 140737488351232 := by
  rcases open_ints Tryd.underlying22 Tryd.underlying5 (by kernel_rfl) h with ⟨hcs, _⟩ | ⟨x, l, c, zs, hcs, _, hl, hm, hz, hx, hcell, hwz⟩
  · simp at hcs
    exact ⟨none, 0, 0, [], hcs, SlK.nil _ _ _ (by omega), by omega⟩
  · simp at hcs
    have hz' : zs.length = c := by simpa using hz
    have hb : (lits (H := H) .u8 (zs.take l)).length + (lits (H := H) .u8 (zs.drop l)).length ≤ reachBytes := by
      have := hw (((lits (H := H) .u8 (zs.take l)).length + (lits (H := H) .u8 (zs.drop l)).length) * Tryd.prog.bytesOf 5) (by
        rw [hx]
        unfold DataW.weights
        rw [Tryd.underlying22]
        simp)
      rwa [SlC.bytes_u8, Nat.mul_one] at this
    simp only [lits, List.length_map, List.length_take, List.length_drop, reachBytes] at hb
    exact ⟨_, _, _, _, hcs, SlK.of_ints (by omega) (fun z hz => by simp [Lit.wf, IntKind.min, IntKind.max, IntKind.signed, IntKind.bits] at hz; omega) hl hm hz' (by omega) hcell hwz, by omega⟩
theorem SlC.open_s0_fields : ∃ f0 f1 f2 f3 f4 f5 f6 f7 f8 f9 f10 f11 f12 : Field, Tryd.prog.underlying 39 = some (.struct #[f0, f1, f2, f3, f4, f5, f6, f7, f8, f9, f10, f11, f12]) ∧ f0.offset = 0 ∧ f1.offset = 1 ∧ f2.offset = 2 ∧ f3.offset = 3 ∧ f4.offset = 4 ∧ f5.offset = 5 ∧ f6.offset = 6 ∧ f7.offset = 7 ∧ f8.offset = 8 ∧ f9.offset = 9 ∧ f10.offset = 10 ∧ f11.offset = 11 ∧ f12.offset = 12 ∧ f0.type = 3 ∧ f1.type = 3 ∧ f2.type = 36 ∧ f3.type = 36 ∧ f4.type = 37 ∧ f5.type = 37 ∧ f6.type = 37 ∧ f7.type = 37 ∧ f8.type = 37 ∧ f9.type = 36 ∧ f10.type = 36 ∧ f11.type = 37 ∧ f12.type = 37 := ⟨_, _, _, _, _, _, _, _, _, _, _, _, _, Tryd.underlying39, rfl, rfl, rfl, rfl, rfl, rfl, rfl, rfl, rfl, rfl, rfl, rfl, rfl, rfl, rfl, rfl, rfl, rfl, rfl, rfl, rfl, rfl, rfl, rfl, rfl, rfl⟩
set_option linter.unusedVariables false in
set_option maxRecDepth 100000 in
theorem SlC.open_s0 {H : Type} {enc : TypeId × Value → H} {w : World} {base : Nat} {held : Bool} {fuel : Nat} {cl : List Value} {y : DataW H × List MemPlace} (hl : cl.length = 13)
    (h : DataW.trod enc Tryd.prog w base (fun _ => true) held fuel 39 cl = some y) (hw : ∀ n ∈ y.1.weights Tryd.prog 39, n ≤ reachBytes) :
    ∃ (made : Int) (life : Int) (port : Nat) (pport : Nat) (tag : Nat) (ptag : Nat) (tsn : Nat) (ptsn : Nat) (room : Nat) (outs : Nat) (ins : Nat) (addr : Nat) (other : Nat), cl = [.int .i64 made, .int .i64 life, .int .u16 (port : Nat), .int .u16 (pport : Nat), .int .u32 (tag : Nat), .int .u32 (ptag : Nat), .int .u32 (tsn : Nat), .int .u32 (ptsn : Nat), .int .u32 (room : Nat), .int .u16 (outs : Nat), .int .u16 (ins : Nat), .int .u32 (addr : Nat), .int .u32 (other : Nat)] ∧ (Lit.int .i64 made).wf = true ∧ (Lit.int .i64 life).wf = true ∧ port < 65536 ∧ pport < 65536 ∧ tag < 4294967296 ∧ ptag < 4294967296 ∧ tsn < 4294967296 ∧ ptsn < 4294967296 ∧ room < 4294967296 ∧ outs < 65536 ∧ ins < 65536 ∧ addr < 4294967296 ∧ other < 4294967296 := by
  obtain ⟨f0, f1, f2, f3, f4, f5, f6, f7, f8, f9, f10, f11, f12, he, o0, o1, o2, o3, o4, o5, o6, o7, o8, o9, o10, o11, o12, t0, t1, t2, t3, t4, t5, t6, t7, t8, t9, t10, t11, t12⟩ := SlC.open_s0_fields
  obtain ⟨xs, m, _, hx, _, hlen, hfs⟩ := DataW.trod_struct he h
  have hlen2 : xs.length = 13 := hlen
  match cl, hl, xs, hlen2 with
  | [v0, v1, v2, v3, v4, v5, v6, v7, v8, v9, v10, v11, v12], _, [y0, y1, y2, y3, y4, y5, y6, y7, y8, y9, y10, y11, y12], _ =>
    have hd := congrArg Prod.fst hx
    simp only [List.map_cons, List.map_nil] at hd
    have g0 := hfs 0 f0 rfl
    simp [o0, t0, SlC.cells_int] at g0
    have g1 := hfs 1 f1 rfl
    simp [o1, t1, SlC.cells_int] at g1
    have g2 := hfs 2 f2 rfl
    simp [o2, t2, SlC.cells_uint16] at g2
    have g3 := hfs 3 f3 rfl
    simp [o3, t3, SlC.cells_uint16] at g3
    have g4 := hfs 4 f4 rfl
    simp [o4, t4, SlC.cells_uint32] at g4
    have g5 := hfs 5 f5 rfl
    simp [o5, t5, SlC.cells_uint32] at g5
    have g6 := hfs 6 f6 rfl
    simp [o6, t6, SlC.cells_uint32] at g6
    have g7 := hfs 7 f7 rfl
    simp [o7, t7, SlC.cells_uint32] at g7
    have g8 := hfs 8 f8 rfl
    simp [o8, t8, SlC.cells_uint32] at g8
    have g9 := hfs 9 f9 rfl
    simp [o9, t9, SlC.cells_uint16] at g9
    have g10 := hfs 10 f10 rfl
    simp [o10, t10, SlC.cells_uint16] at g10
    have g11 := hfs 11 f11 rfl
    simp [o11, t11, SlC.cells_uint32] at g11
    have g12 := hfs 12 f12 rfl
    simp [o12, t12, SlC.cells_uint32] at g12
    obtain ⟨madez, e0, _, w0⟩ := DataW.trod_int Tryd.underlying3 g0
    simp at e0
    subst e0
    obtain ⟨lifez, e1, _, w1⟩ := DataW.trod_int Tryd.underlying3 g1
    simp at e1
    subst e1
    obtain ⟨portz, e2, _, w2⟩ := DataW.trod_int Tryd.underlying36 g2
    simp at e2
    subst e2
    obtain ⟨port, rfl⟩ : ∃ m : Nat, portz = (m : Int) := ⟨portz.toNat, by have := bounds_u16 w2; omega⟩
    have b2 : port < 65536 := by have := bounds_u16 w2; omega
    obtain ⟨pportz, e3, _, w3⟩ := DataW.trod_int Tryd.underlying36 g3
    simp at e3
    subst e3
    obtain ⟨pport, rfl⟩ : ∃ m : Nat, pportz = (m : Int) := ⟨pportz.toNat, by have := bounds_u16 w3; omega⟩
    have b3 : pport < 65536 := by have := bounds_u16 w3; omega
    obtain ⟨tagz, e4, _, w4⟩ := DataW.trod_int Tryd.underlying37 g4
    simp at e4
    subst e4
    obtain ⟨tag, rfl⟩ : ∃ m : Nat, tagz = (m : Int) := ⟨tagz.toNat, by have := bounds_u32 w4; omega⟩
    have b4 : tag < 4294967296 := by have := bounds_u32 w4; omega
    obtain ⟨ptagz, e5, _, w5⟩ := DataW.trod_int Tryd.underlying37 g5
    simp at e5
    subst e5
    obtain ⟨ptag, rfl⟩ : ∃ m : Nat, ptagz = (m : Int) := ⟨ptagz.toNat, by have := bounds_u32 w5; omega⟩
    have b5 : ptag < 4294967296 := by have := bounds_u32 w5; omega
    obtain ⟨tsnz, e6, _, w6⟩ := DataW.trod_int Tryd.underlying37 g6
    simp at e6
    subst e6
    obtain ⟨tsn, rfl⟩ : ∃ m : Nat, tsnz = (m : Int) := ⟨tsnz.toNat, by have := bounds_u32 w6; omega⟩
    have b6 : tsn < 4294967296 := by have := bounds_u32 w6; omega
    obtain ⟨ptsnz, e7, _, w7⟩ := DataW.trod_int Tryd.underlying37 g7
    simp at e7
    subst e7
    obtain ⟨ptsn, rfl⟩ : ∃ m : Nat, ptsnz = (m : Int) := ⟨ptsnz.toNat, by have := bounds_u32 w7; omega⟩
    have b7 : ptsn < 4294967296 := by have := bounds_u32 w7; omega
    obtain ⟨roomz, e8, _, w8⟩ := DataW.trod_int Tryd.underlying37 g8
    simp at e8
    subst e8
    obtain ⟨room, rfl⟩ : ∃ m : Nat, roomz = (m : Int) := ⟨roomz.toNat, by have := bounds_u32 w8; omega⟩
    have b8 : room < 4294967296 := by have := bounds_u32 w8; omega
    obtain ⟨outsz, e9, _, w9⟩ := DataW.trod_int Tryd.underlying36 g9
    simp at e9
    subst e9
    obtain ⟨outs, rfl⟩ : ∃ m : Nat, outsz = (m : Int) := ⟨outsz.toNat, by have := bounds_u16 w9; omega⟩
    have b9 : outs < 65536 := by have := bounds_u16 w9; omega
    obtain ⟨insz, e10, _, w10⟩ := DataW.trod_int Tryd.underlying36 g10
    simp at e10
    subst e10
    obtain ⟨ins, rfl⟩ : ∃ m : Nat, insz = (m : Int) := ⟨insz.toNat, by have := bounds_u16 w10; omega⟩
    have b10 : ins < 65536 := by have := bounds_u16 w10; omega
    obtain ⟨addrz, e11, _, w11⟩ := DataW.trod_int Tryd.underlying37 g11
    simp at e11
    subst e11
    obtain ⟨addr, rfl⟩ : ∃ m : Nat, addrz = (m : Int) := ⟨addrz.toNat, by have := bounds_u32 w11; omega⟩
    have b11 : addr < 4294967296 := by have := bounds_u32 w11; omega
    obtain ⟨otherz, e12, _, w12⟩ := DataW.trod_int Tryd.underlying37 g12
    simp at e12
    subst e12
    obtain ⟨other, rfl⟩ : ∃ m : Nat, otherz = (m : Int) := ⟨otherz.toNat, by have := bounds_u32 w12; omega⟩
    have b12 : other < 4294967296 := by have := bounds_u32 w12; omega
    exact ⟨madez, lifez, port, pport, tag, ptag, tsn, ptsn, room, outs, ins, addr, other, rfl, w0, w1, b2, b3, b4, b5, b6, b7, b8, b9, b10, b11, b12⟩
theorem SlC.open_all_fields : ∃ f0 f1 f2 f3 f4 f5 f6 : Field, Tryd.prog.underlying 41 = some (.struct #[f0, f1, f2, f3, f4, f5, f6]) ∧ f0.offset = 0 ∧ f1.offset = 1 ∧ f2.offset = 2 ∧ f3.offset = 15 ∧ f4.offset = 16 ∧ f5.offset = 17 ∧ f6.offset = 18 ∧ f0.type = 3 ∧ f1.type = 22 ∧ f2.type = 39 ∧ f3.type = 3 ∧ f4.type = 5 ∧ f5.type = 5 ∧ f6.type = 5 := ⟨_, _, _, _, _, _, _, Tryd.underlying41, rfl, rfl, rfl, rfl, rfl, rfl, rfl, rfl, rfl, rfl, rfl, rfl, rfl, rfl⟩
set_option linter.unusedVariables false in
set_option maxRecDepth 100000 in
theorem SlC.open_all {H : Type} {enc : TypeId × Value → H} {w : World} {base : Nat} {held : Bool} {fuel : Nat} {cl : List Value} {y : DataW H × List MemPlace} (hl : cl.length = 19)
    (h : DataW.trod enc Tryd.prog w base (fun _ => true) held fuel 41 cl = some y) (hw : ∀ n ∈ y.1.weights Tryd.prog 41, n ≤ reachBytes) :
    ∃ (op : Int) (bA : Option Addr) (bN bC : Nat) (bZ : List Nat) (kmade : Int) (klife : Int) (kport : Nat) (kpport : Nat) (ktag : Nat) (kptag : Nat) (ktsn : Nat) (kptsn : Nat) (kroom : Nat) (kouts : Nat) (kins : Nat) (kaddr : Nat) (kother : Nat) (now : Int) (att : Nat) (byy : Nat) (back : Nat), cl = [.int .i64 op, .slice bA bN bC, .int .i64 kmade, .int .i64 klife, .int .u16 (kport : Nat), .int .u16 (kpport : Nat), .int .u32 (ktag : Nat), .int .u32 (kptag : Nat), .int .u32 (ktsn : Nat), .int .u32 (kptsn : Nat), .int .u32 (kroom : Nat), .int .u16 (kouts : Nat), .int .u16 (kins : Nat), .int .u32 (kaddr : Nat), .int .u32 (kother : Nat), .int .i64 now, .int .u8 (att : Nat), .int .u8 (byy : Nat), .int .u8 (back : Nat)] ∧ (Lit.int .i64 op).wf = true ∧ (Sl w bA bN bC bZ ∧ bC ≤ 140737488351232) ∧ (Lit.int .i64 kmade).wf = true ∧ (Lit.int .i64 klife).wf = true ∧ kport < 65536 ∧ kpport < 65536 ∧ ktag < 4294967296 ∧ kptag < 4294967296 ∧ ktsn < 4294967296 ∧ kptsn < 4294967296 ∧ kroom < 4294967296 ∧ kouts < 65536 ∧ kins < 65536 ∧ kaddr < 4294967296 ∧ kother < 4294967296 ∧ (Lit.int .i64 now).wf = true ∧ att < 256 ∧ byy < 256 ∧ back < 256 := by
  obtain ⟨f0, f1, f2, f3, f4, f5, f6, he, o0, o1, o2, o3, o4, o5, o6, t0, t1, t2, t3, t4, t5, t6⟩ := SlC.open_all_fields
  obtain ⟨xs, m, _, hx, _, hlen, hfs⟩ := DataW.trod_struct he h
  have hlen2 : xs.length = 7 := hlen
  match cl, hl, xs, hlen2 with
  | [v0, v1, v2, v3, v4, v5, v6, v7, v8, v9, v10, v11, v12, v13, v14, v15, v16, v17, v18], _, [y0, y1, y2, y3, y4, y5, y6], _ =>
    have hd := congrArg Prod.fst hx
    simp only [List.map_cons, List.map_nil] at hd
    have g0 := hfs 0 f0 rfl
    simp [o0, t0, SlC.cells_int] at g0
    have g1 := hfs 1 f1 rfl
    simp [o1, t1, SlC.cells___uint8] at g1
    have g2 := hfs 2 f2 rfl
    simp [o2, t2, SlC.cells_api_Cookie] at g2
    have g3 := hfs 3 f3 rfl
    simp [o3, t3, SlC.cells_int] at g3
    have g4 := hfs 4 f4 rfl
    simp [o4, t4, SlC.cells_uint8] at g4
    have g5 := hfs 5 f5 rfl
    simp [o5, t5, SlC.cells_uint8] at g5
    have g6 := hfs 6 f6 rfl
    simp [o6, t6, SlC.cells_uint8] at g6
    obtain ⟨opz, e0, _, w0⟩ := DataW.trod_int Tryd.underlying3 g0
    simp at e0
    subst e0
    obtain ⟨bA, bN, bC, bZ, rfl, s1, b1⟩ := SlC.open_bytes g1 (fun q hq => hw q (by
      rw [hd]
      unfold DataW.weights
      rw [he]
      exact DataW.weights_mem_each (j := 1) (t := f1.type) (d := y1.1) rfl rfl q (by rw [t1]; exact hq)))
    obtain ⟨kmade, klife, kport, kpport, ktag, kptag, ktsn, kptsn, kroom, kouts, kins, kaddr, kother, e2, Hkmade, Hklife, Hkport, Hkpport, Hktag, Hkptag, Hktsn, Hkptsn, Hkroom, Hkouts, Hkins, Hkaddr, Hkother⟩ := SlC.open_s0 rfl g2 (fun q hq => hw q (by
      rw [hd]
      unfold DataW.weights
      rw [he]
      exact DataW.weights_mem_each (j := 2) (t := f2.type) (d := y2.1) rfl rfl q (by rw [t2]; exact hq)))
    simp at e2
    obtain ⟨rfl, rfl, rfl, rfl, rfl, rfl, rfl, rfl, rfl, rfl, rfl, rfl, rfl⟩ := e2
    obtain ⟨nowz, e3, _, w3⟩ := DataW.trod_int Tryd.underlying3 g3
    simp at e3
    subst e3
    obtain ⟨attz, e4, _, w4⟩ := DataW.trod_int Tryd.underlying5 g4
    simp at e4
    subst e4
    obtain ⟨att, rfl⟩ : ∃ m : Nat, attz = (m : Int) := ⟨attz.toNat, by have := bounds_u8 w4; omega⟩
    have b4 : att < 256 := by have := bounds_u8 w4; omega
    obtain ⟨byyz, e5, _, w5⟩ := DataW.trod_int Tryd.underlying5 g5
    simp at e5
    subst e5
    obtain ⟨byy, rfl⟩ : ∃ m : Nat, byyz = (m : Int) := ⟨byyz.toNat, by have := bounds_u8 w5; omega⟩
    have b5 : byy < 256 := by have := bounds_u8 w5; omega
    obtain ⟨backz, e6, _, w6⟩ := DataW.trod_int Tryd.underlying5 g6
    simp at e6
    subst e6
    obtain ⟨back, rfl⟩ : ∃ m : Nat, backz = (m : Int) := ⟨backz.toNat, by have := bounds_u8 w6; omega⟩
    have b6 : back < 256 := by have := bounds_u8 w6; omega
    exact ⟨opz, bA, bN, bC, bZ, kmade, klife, kport, kpport, ktag, kptag, ktsn, kptsn, kroom, kouts, kins, kaddr, kother, nowz, att, byy, back, rfl, w0, ⟨s1, b1⟩, Hkmade, Hklife, Hkport, Hkpport, Hktag, Hkptag, Hktsn, Hkptsn, Hkroom, Hkouts, Hkins, Hkaddr, Hkother, w3, b4, b5, b6⟩
theorem SlC.cellsAll : Tryd.prog.cellsOf 41 = 19 := by kernel_rfl
theorem SlC.bytesAll : Tryd.prog.bytesOf 41 = 104 := by kernel_rfl
theorem SlC.open {H : Type} {enc : TypeId × Value → H} {w : World} {base : Nat} {held : Bool} {fuel : Nat} {a : Option Addr} {n c : Nat} {y : DataW H × List MemPlace}
    (h : DataW.trod enc Tryd.prog w base (fun _ => true) held fuel 23 [.slice a n c] = some y) (hw : ∀ n ∈ y.1.weights Tryd.prog 23, n ≤ reachBytes) : ∃ dd, SlC w a n c dd := by
  rcases Go.Deep.open_slice Tryd.underlying23 h with ⟨hcs, _⟩ | ⟨x, l, k, m, fn, D, Pl, hcs, hb, hl, hm, hmm, hx, hc⟩
  · simp at hcs
    obtain ⟨rfl, rfl, rfl⟩ := hcs
    exact ⟨[], rfl, Nat.le_refl _, by omega, .inl rfl, fun x hx => (by cases hx)⟩
  · simp at hcs
    obtain ⟨rfl, rfl, rfl⟩ := hcs
    have hmc : m = c := by simpa using hmm
    subst hmc
    subst hx
    have hsz : m * 104 ≤ reachBytes := by
      have := hw ((((List.range n).map D).length + ((List.range (m - n)).map fun j => D (n + j)).length) * Tryd.prog.bytesOf 41) (by
        unfold DataW.weights
        rw [Tryd.underlying23]
        simp)
      rw [SlC.bytesAll] at this
      simp at this
      omega
    simp only [reachBytes] at hsz
    rw [SlC.cellsAll] at hc
    have hwi : ∀ i, i < n → ∀ q ∈ (D i).weights Tryd.prog 41, q ≤ reachBytes := by
      intro i hi q hq
      refine hw q ?_
      unfold DataW.weights
      rw [Tryd.underlying23]
      simp only [List.mem_cons, List.mem_append]
      exact .inr (.inl (SlC.wAll_mem (List.mem_map.2 ⟨i, List.mem_range.2 hi, rfl⟩) q hq))
    have each : ∀ i, i < n → ∃ q : Cd, (∀ j v, q.vals[j]? = some v → w.cell? (x.add (i * 19 + j)) = some v) ∧ q.Wf w := by
      intro i hi
      obtain ⟨cs', h1, h2⟩ := hc i (by omega)
      obtain ⟨_, hlen, hcell⟩ := World.cells?_some h1
      obtain ⟨op, bA, bN, bC, bZ, kmade, klife, kport, kpport, ktag, kptag, ktsn, kptsn, kroom, kouts, kins, kaddr, kother, now, att, byy, back, rfl, Hop, Hb, Hkmade, Hklife, Hkport, Hkpport, Hktag, Hkptag, Hktsn, Hkptsn, Hkroom, Hkouts, Hkins, Hkaddr, Hkother, Hnow, Hatt, Hbyy, Hback⟩ := SlC.open_all hlen h2 (hwi i hi)
      refine ⟨⟨op, bA, bN, bC, bZ, kmade, klife, kport, kpport, ktag, kptag, ktsn, kptsn, kroom, kouts, kins, kaddr, kother, now, att, byy, back⟩, fun j v hv => ?_, ⟨Hop, Hb, Hkmade, Hklife, Hkport, Hkpport, Hktag, Hkptag, Hktsn, Hkptsn, Hkroom, Hkouts, Hkins, Hkaddr, Hkother, Hnow, Hatt, Hbyy, Hback⟩⟩
      have hj : j < 19 := (List.getElem?_eq_some_iff.1 hv).1
      have e := hcell j hj
      rw [Go.Deep.add_add] at e
      rw [e]
      exact hv
    obtain ⟨q, hq⟩ := Go.Deep.choose_lt each
    have hget : ∀ i z, ((List.range n).map q)[i]? = some z → i < n ∧ z = q i := fun i z hz => by
      have hi := (List.getElem?_eq_some_iff.1 hz).1
      simp at hi
      rw [List.getElem?_map, List.getElem?_range hi] at hz
      simp at hz
      exact ⟨hi, hz.symm⟩
    refine ⟨(List.range n).map q, by simp, hl, by omega, ?_, fun z hz => ?_⟩
    · by_cases h0 : n = 0
      · exact .inl h0
      · obtain ⟨b, off, spot⟩ := x
        have hc0 := (hq 0 (by omega)).1 0 _ rfl
        have hspot : spot = none := by simpa [Addr.add] using World.cell?_spot hc0
        subst hspot
        have hlt : b < w.heap.size := by
          have := hc0
          simp only [Addr.add, World.cell?] at this
          rcases Nat.lt_or_ge b w.heap.size with h9 | h9
          · exact h9
          · simp [h9] at this
        refine .inr ⟨b, off, rfl, hlt, fun i z hz j v hv => ?_⟩
        obtain ⟨hi, rfl⟩ := hget i z hz
        have h1 := (hq i hi).1 j v hv
        have ea : ∀ j, (⟨b, off, none⟩ : Addr).add j = ⟨b, off + j, none⟩ := by
          intro j
          unfold Addr.add
          split
          · subst_vars; rfl
          · rfl
        rw [ea] at h1
        rw [Nat.add_assoc]
        exact h1
    · obtain ⟨i, hi⟩ := List.getElem?_of_mem hz
      obtain ⟨hin, rfl⟩ := hget i z hi
      exact (hq i hin).2
end Go.Proofs.YtmikhnaffhheoaaDoor
namespace Go.Proofs.YtmikhnaffhheoaaDoor
open Go.RowKit
set_option maxRecDepth 100000 in
theorem cdo_any (x : Cd) (pp kx ky m : Nat) (cur : List Nat) (fm : Option (List Nat)) (rs : List Sec) (w0 w : World) (h : Pr w0 w pp kx ky cur fm rs m) (hm : m ≤ 800) (hx : x.Wf w0) :
    Calls Tryd.prog 9 #[.pointer (some ⟨pp, 0, none⟩), .agg #[.int .i64 x.op, .slice x.bA x.bN x.bC, .int .i64 x.kmade, .int .i64 x.klife, .int .u16 (x.kport : Nat), .int .u16 (x.kpport : Nat), .int .u32 (x.ktag : Nat), .int .u32 (x.kptag : Nat), .int .u32 (x.ktsn : Nat), .int .u32 (x.kptsn : Nat), .int .u32 (x.kroom : Nat), .int .u16 (x.kouts : Nat), .int .u16 (x.kins : Nat), .int .u32 (x.kaddr : Nat), .int .u32 (x.kother : Nat), .int .i64 x.now, .int .u8 (x.att : Nat), .int .u8 (x.byy : Nat), .int .u8 (x.back : Nat)]] w (CdP w0 pp kx ky m w) := by
  obtain ⟨h0, h1, h2, h3, h4, h5, h6, h7, h8, h9, h10, h11, h12, h13, h14, h15, h16, h17, h18⟩ := hx
  by_cases o0 : x.op = 0
  · rw [o0]; exact do_turn x.bA x.bN x.bC x.bZ x.kmade x.klife x.kport x.kpport x.ktag x.kptag x.ktsn x.kptsn x.kroom x.kouts x.kins x.kaddr x.kother x.now x.att x.byy x.back pp kx ky m cur fm rs w0 w h hm h1.1 h1.2
  by_cases o1 : x.op = 1
  · rw [o1]; exact do_seal x.bA x.bN x.bC x.bZ x.kmade x.klife x.kport x.kpport x.ktag x.kptag x.ktsn x.kptsn x.kroom x.kouts x.kins x.kaddr x.kother x.now x.att x.byy x.back pp kx ky m cur fm rs w0 w h hm h2 h3 h4 h5 h6 h7 h8 h9 h10 h11 h12 h13 h14
  by_cases o2 : x.op = 2
  · rw [o2]; exact do_open2 x.bA x.bN x.bC x.bZ x.kmade x.klife x.kport x.kpport x.ktag x.kptag x.ktsn x.kptsn x.kroom x.kouts x.kins x.kaddr x.kother x.now x.att x.byy x.back pp kx ky m cur fm rs w0 w h hm h1.1 h1.2
  by_cases o3 : x.op = 3
  · rw [o3]; exact do_last2 x.bA x.bN x.bC x.bZ x.kmade x.klife x.kport x.kpport x.ktag x.kptag x.ktsn x.kptsn x.kroom x.kouts x.kins x.kaddr x.kother x.now x.att x.byy x.back pp kx ky m cur fm rs w0 w h hm h16 h17
  · exact do_back x.op x.bA x.bN x.bC x.bZ x.kmade x.klife x.kport x.kpport x.ktag x.kptag x.ktsn x.kptsn x.kroom x.kouts x.kins x.kaddr x.kother x.now x.att x.byy x.back pp kx ky m cur fm rs w0 w h hm h2 h3 h4 h5 h6 h7 h8 h9 h10 h11 h12 h13 h14 h18 o0 o1 o2 o3
structure CplP (w0 : World) (e : Ending) (w' : World) : Prop where
  out : ∃ pp kx ky cur fm rs, e = .returned (.tuple #[.pointer (some ⟨pp, 0, none⟩), .bool true]) ∧ Pr w0 w' pp kx ky cur fm rs 41
theorem CdP.bel {w0 w w' : World} {pp kx ky m : Nat} {e : Ending} (h : CdP w0 pp kx ky m w e w') : Below w0.heap.size w0 w' := by
  obtain ⟨cur, fm, rs, hp⟩ := h.out
  exact hp.bel
set_option maxRecDepth 100000 in
set_option maxHeartbeats 8000000 in
theorem cplay_any (a : Option Addr) (n c : Nat) (zs : List Nat) (ad : Option Addr) (nd cd : Nat) (dd : List Cd) (w : World) (hs : Sl w a n c zs) (hc : c ≤ 140737488351232) (hl : SlC w ad nd cd dd) (hkw : KW w) :
    Calls Tryd.prog 5 #[.slice a n c, .slice ad nd cd] w (CplP w) := by
  have hcap := hs.cap
  have hlen := hl.len
  have hsm := hl.small
  go_enter Tryd.func5, Tryd.ntmps5
  go_wp2_with fail
  refine (knew_any a n c zs w hs (by omega)).mono ?_
  rintro e w1 ⟨⟨kx, rfl, hK1, hkx⟩, b1⟩
  have hX1 := hK1.toX
  have hxl := hX1.lt
  go_wp2_with fail
  refine (rknewX_any (fun k => w1.heap.size ≤ k) a n c zs w1 (fun k hk => hk) (hs.below b1) (by omega)).mono ?_
  rintro e w2 ⟨⟨ky, rs, rfl, hY2, hrs, hky⟩, b2⟩
  have hyl := hY2.lt
  have z1 := b1.size
  have z2 := b2.size
  have b02 := b1.trans (b2.mono b1.size)
  have HPR : Hid (∀ T, Pr w (w2.alloc (.cells #[.pointer (some ⟨kx, 0, none⟩), .pointer (some ⟨ky, 0, none⟩), .slice none 0 0] T)) w2.heap.size kx ky zs none rs 1) := by
    show ∀ _, _
    intro T
    have hb : Below w2.heap.size w2 (w2.alloc (.cells #[.pointer (some ⟨kx, 0, none⟩), .pointer (some ⟨ky, 0, none⟩), .slice none 0 0] T)) := (Below.refl _ _).alloc (Nat.le_refl _) _
    have hl1 : rs.length = 1 := by have := congrArg List.length hrs; simpa using this
    refine ⟨⟨none, 0, 0, [], Stc.new w2 _ T _ rfl, SlK.nil _ _ _ (by omega), by omega, fun k hk => by simp [blkOf] at hk⟩, ((hX1.below b2).sub (fun k hk he => ⟨by omega, he.2, by omega⟩)).below hb, ?_, by rw [hrs]; exact .inl ⟨rfl, rfl⟩, by omega, by omega, by omega, by omega, hkw, b02.trans (hb.mono b02.size), by omega, hkx, by omega⟩
    have hY3 : RKyX w2 ky rs (PX w2.heap.size kx ky) := by
      obtain ⟨g, m, d, e1, e2, e3, e4, e5, e6, e7⟩ := hY2.ex
      exact ⟨⟨g, m, d, e1, e2, e3, e4, e5, e6, ⟨by omega, by omega, e6⟩⟩, fun x hx => by
        obtain ⟨f1, f2, f3⟩ := hY2.each x hx
        exact ⟨f1, f2, fun k hk => by
          obtain ⟨g1, g2, g3⟩ := f3 k hk
          exact ⟨g1, g2, ⟨by omega, by omega, g2⟩⟩⟩⟩
    exact hY3.below hb
  clear hX1 hK1 hY2 b1 b2
  go_wp2
  go_loopw [7] (fun iv wr => ∃ (i : Nat) (cur : List Nat) (fm : Option (List Nat)) (rs : List Sec), iv = .int .i64 (i : Nat) ∧ i ≤ nd ∧ i ≤ 40 ∧ Pr w wr w2.heap.size kx ky cur fm rs (i + 1)) (fun iv _ => nd - (intOf iv).toNat)
  case atStart => exact ⟨0, zs, none, rs, rfl, by omega, by omega, HPR.out _⟩
  case round =>
    obtain ⟨j, cur, fm, rs3, rfl, hjn, hj40, hP⟩ := hrel
    clear HPR
    have hbel := hP.bel
    by_cases hjl : j < nd ∧ j < 40
    · obtain ⟨hjl, hjk⟩ := hjl
      obtain ⟨x, hx⟩ : ∃ x, dd[j]? = some x := ⟨_, List.getElem?_eq_getElem (by omega)⟩
      have hxm := List.mem_of_getElem? hx
      have hwf := hl.wf x hxm
      rcases hl.at_ with h0 | ⟨lb, off, rfl, hlt, hcell⟩
      · omega
      obtain ⟨cs, hcs⟩ : ∃ cs, cs = x.vals := ⟨_, rfl⟩
      have hrg : wr.rangeAt lb (off + j * 19) cs := fun i v hv => by
        rw [hcs] at hv
        exact (hbel.cell (p := ⟨lb, off + j * 19 + i, none⟩) hlt).trans (hcell j x hx i v hv)
      have hi19 : (Tryd.prog.info? 41).map (·.size) = some cs.length := by rw [hcs]; kernel_rfl
      have hj1 : (j : Int) < (nd : Int) := by omega
      have hj2 : (j : Int) < 40 := by omega
      have hdo : ∀ W, Below wr.heap.size wr W → Calls Tryd.prog 9 #[.pointer (some ⟨w2.heap.size, 0, none⟩), .agg cs.toArray] W (CdP w w2.heap.size kx ky (j + 1) W) := fun W hW => by
        rw [hcs]
        exact cdo_any x w2.heap.size kx ky (j + 1) cur fm rs3 w W (hP.below hW) (by omega) hwf
      clear hcell hwf hP hcs hx
      go_wp2_with (first | refine wpList_load_mid rfl 41 _ rfl lb (off + j * 19) rfl cs _ hrg Tryd.underlying41 rfl hi19 ?_ | fail)
      refine (hdo _ (by first | exact Below.refl _ _ | exact (Below.refl _ _).drew)).mono ?_
      rintro e w4 ⟨rfl, ⟨cur4, fm4, rs4, hP4⟩, _⟩
      have HP4 := (show Hid _ from hP4)
      clear hdo hP4 hbel hrg hi19
      go_wp2
      go_roundw
      case rel => exact ⟨j + 1, cur4, fm4, rs4, by go_num, by omega, by omega, HP4.out⟩
      case measure => simp [intOf]; omega
    · by_cases hjl2 : j < nd
      · have hj1 : (j : Int) < (nd : Int) := by omega
        have hj2 : ¬ (j : Int) < 40 := by omega
        have HP := (show Hid _ from hP.up_ (show j + 1 ≤ 41 by omega))
        clear hP hbel
        go_wp2
        go_ret2
        exact ⟨_, _, _, _, _, _, rfl, HP.out⟩
      · have hj1 : ¬ (j : Int) < (nd : Int) := by omega
        have HP := (show Hid _ from hP.up_ (show j + 1 ≤ 41 by omega))
        clear hP hbel
        go_wp2
        go_ret2
        exact ⟨_, _, _, _, _, _, rfl, HP.out⟩
end Go.Proofs.YtmikhnaffhheoaaDoor
