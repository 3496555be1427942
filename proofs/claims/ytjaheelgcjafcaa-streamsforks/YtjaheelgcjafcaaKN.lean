/- trunklineref13: drop. -/
import Derived.Test.YtjaheelgcjafcaaKA
import Derived.Test.YtjaheelgcjafcaaKL
import Derived.Test.YtjaheelgcjafcaaKE
import Derived.Test.YtjaheelgcjafcaaME
import Derived.Deep.MidRow
import Derived.Test.YtjaheelgcjafcaaRgX
namespace Go.Proofs.Ytjaheelgcjafcaa
open Go.RowKit
/-- A row as it lies, in a block of Z. -/
structure RowR {α : Type} (k : Nat) (cf : α → List Value) (w : World) (Z : Nat → Prop) (a : Option Addr) (n c : Nat) (xs : List α) : Prop where
  len : xs.length = n
  cap : n ≤ c ∧ c ≤ maxLen
  at_ : n = 0 ∨ ∃ g, a = some ⟨g, 0, none⟩ ∧ g < w.heap.size ∧ Z g ∧ ∀ (j : Nat) (x : α), xs[j]? = some x → ∀ (i : Nat) u, (cf x)[i]? = some u → w.cell? ⟨g, j * k + i, none⟩ = some u
theorem RowR.fr {α : Type} {k : Nat} {cf : α → List Value} {w w' : World} {Z Q : Nat → Prop} {a : Option Addr} {n c : Nat} {xs : List α} (h : RowR k cf w Z a n c xs) (hf : Fr Q w w') (hq : ∀ g, Z g → ¬ Q g) : RowR k cf w' Z a n c xs := by
  refine ⟨h.len, h.cap, ?_⟩
  rcases h.at_ with h0 | ⟨g, h1, h2, h3, h4⟩
  · exact .inl h0
  · exact .inr ⟨g, h1, Nat.lt_of_lt_of_le h2 hf.size, h3, fun j x hx i u hu => (hf.cell ⟨g, j * k + i, none⟩ h2 (hq g h3)).trans (h4 j x hx i u hu)⟩
theorem RowR.mono {α : Type} {k : Nat} {cf : α → List Value} {w : World} {Z Z' : Nat → Prop} {a : Option Addr} {n c : Nat} {xs : List α} (h : RowR k cf w Z a n c xs) (hz : ∀ g, Z g → Z' g) : RowR k cf w Z' a n c xs := by
  refine ⟨h.len, h.cap, ?_⟩
  rcases h.at_ with h0 | ⟨g, h1, h2, h3, h4⟩
  · exact .inl h0
  · exact .inr ⟨g, h1, h2, hz g h3, h4⟩
/-- A row of the call's own, as a row that lies. -/
theorem OwnG.rowR {α : Type} {T : TypeId} {k : Nat} {cf : α → List Value} {w : World} {B : Nat} {a : Option Addr} {n c : Nat} {xs : List α} (h : OwnG T k cf w B a n c xs) (hk : ∀ x, (cf x).length = k) (Z : Nat → Prop) (hz : ∀ g, B ≤ g → g < w.heap.size → Z g) : RowR k cf w Z a n c xs := by
  refine ⟨h.len, h.cap, ?_⟩
  rcases Nat.eq_zero_or_pos n with h0 | h0
  · exact .inl h0
  · obtain ⟨g, h1, h2, h3, _, _, h4, _⟩ := h.at_ hk h0
    exact .inr ⟨g, h1, h3, hz g h2 h3, h4⟩
/-- An empty row of its own. -/
theorem OwnG.empty {α : Type} {T : TypeId} {k : Nat} {cf : α → List Value} (w : World) : OwnG T k cf (w.alloc (.cells #[] T)) w.heap.size (some ⟨w.heap.size, 0, none⟩) 0 0 [] := by
  refine ⟨rfl, ⟨by simp [valsG], .inr ⟨w.heap.size, 0, #[], rfl, Nat.le_refl _, (by show (w.heap.push _)[w.heap.size]? = _; simp), Nat.le_refl _, by unfold maxLen; omega, by simp, by simp [valsG]⟩⟩⟩
/-- More than one behind: the run. -/
theorem OwnG.appN {α : Type} {P : Program} {S T : TypeId} {k bytes : Nat} {cf : α → List Value} {w : World} {B : Nat} {a : Option Addr} {n c : Nat} {ps : List α} (L : Lays P S T k bytes cf) (h : OwnG T k cf w B a n c ps) (ty : TypeId) (qs : List α) (ad : Addr) (m c2 : Nat) (hm : qs.length = m) (hc : ∀ j u, (valsG cf qs)[j]? = some u → w.cell? (ad.add j) = some u) (hm1 : 0 < m) (h63 : n + m ≤ maxLen) (hb : (n + m) * bytes ≤ 140737488355328) (hB : B ≤ w.heap.size) :
    ∃ g c' w', (Builtin.append_ #[S, S] ty #[.slice a n c, .slice (some ad) m c2]).run P w = .ok (.slice (some ⟨g, 0, none⟩) (n + m) c') w' ∧ OwnG T k cf w' B (some ⟨g, 0, none⟩) (n + m) c' (ps ++ qs) ∧ w.grownBy w' (Value.slice a n c).ownBlock ∧
      ((Value.slice a n c).ownBlock = some g ∨ g = w.heap.size) ∧ g < w'.heap.size := by
  obtain ⟨z, hinfo, hzs⟩ := L.info
  obtain ⟨i, hi, hz0, hz1, hz2⟩ := info_parts hinfo
  obtain ⟨g, cap, w', hr, hown, hg, hl, hlt⟩ := run_append_lies (P := P) w S ty B T i z k bytes L.under hi hz0 hz1 hz2 hzs L.pos (.slice a n c) n (valsG cf ps) h.own ad m c2 (valsG cf qs) (by rw [valsG_len L.len, hm]) hc (valsG_one L.one qs) hm1 h63 hb hB w.heap.size rfl
  refine ⟨g, cap, w', hr, ⟨by simp [h.len, hm], ?_⟩, hg, hl, hlt⟩
  rw [valsG_app]
  exact hown
/-- Rows of two types do not share a block. -/
theorem ownG_apart {α β : Type} {T T' : TypeId} {k k' : Nat} {cf : α → List Value} {cf' : β → List Value} {w : World} {B B' : Nat} {a a' : Option Addr} {n c n' c' : Nat} {xs : List α} {ys : List β} (hT : T ≠ T') (h : OwnG T k cf w B a n c xs) (h' : OwnG T' k' cf' w B' a' n' c' ys) (g : Nat) (hg : (Value.slice a n c).ownBlock = some g) : (Value.slice a' n' c').ownBlock ≠ some g := by
  intro hg'
  rcases h.own.2 with ⟨hv, _⟩ | ⟨g1, cap, cur, hv, _, hh, _⟩
  · injection hv with e1; subst e1; cases hg
  · injection hv with e1
    subst e1
    obtain rfl : g1 = g := Option.some.inj hg
    rcases h'.own.2 with ⟨hv', _⟩ | ⟨g2, cap2, cur2, hv', _, hh', _⟩
    · injection hv' with e1; subst e1; cases hg'
    · injection hv' with e1
      subst e1
      obtain rfl : g2 = g1 := Option.some.inj hg'
      rw [hh] at hh'
      injection hh' with hh'
      injection hh' with _ e2
      exact hT e2
/-- A message that waits, and how many pieces it had. -/
structure RyD where
  m : Mg
  a : Option Addr
  c : Nat
  n : Nat
def RyD.vals (x : RyD) : List Value := [.int .u16 (x.m.st : Nat), .int .u16 (x.m.ss : Nat), .int .u32 (x.m.pp : Nat), .bool x.m.fr, .slice x.a x.m.zs.length x.c, .int .i64 (x.n : Nat)]
def RyD.mn (x : RyD) : Mg × Nat := (x.m, x.n)
theorem layRy : Lays Try.prog 91 108 6 48 RyD.vals :=
  ⟨Try.underlying91, ⟨.agg #[.int .u16 0, .int .u16 0, .int .u32 0, .bool false, .slice none 0 0, .int .i64 0], by kernel_rfl, rfl⟩, by decide, fun _ => rfl, fun x u hu => by
    simp [RyD.vals] at hu
    rcases hu with rfl | rfl | rfl | rfl | rfl | rfl <;> rfl⟩
theorem layCq : Lays Try.prog 22 47 14 128 ChQ.vals :=
  ⟨Try.underlying22, ⟨.agg #[.int .u8 0, .int .u8 0, .int .u32 0, .int .u16 0, .int .u16 0, .int .u32 0, .int .u32 0, .int .u32 0, .int .u16 0, .int .u16 0, .slice none 0 0, .slice none 0 0, .slice none 0 0, .slice none 0 0], by kernel_rfl, rfl⟩, by decide, fun _ => rfl, fun x u hu => by
    simp [ChQ.vals] at hu
    rcases hu with rfl | rfl | rfl | rfl | rfl | rfl | rfl | rfl | rfl | rfl | rfl | rfl | rfl | rfl <;> rfl⟩
def nxV (n : Nat) : List Value := [.int .u16 (n : Nat)]
def ChQ.pc (x : ChQ) : Pc := ⟨x.f, x.st, x.ss, x.pp, x.xA, x.xN, x.xC, x.xZ⟩
def ChQ.kv (x : ChQ) : Nat × Pc := (x.t, x.pc)
/-- What a chunk is once it is held. -/
structure QOk (W0 : World) (x : ChQ) : Prop where
  wf : x.Wf W0
  n1 : 0 < x.xN
  n2 : x.xN ≤ 1452
structure Rw where
  aA : Option Addr
  aC : Nat
  lA : Option Addr
  lC : Nat
  vA : Option Addr
  vC : Nat
/-- The reference's streams: the struct p; three rows, and the bytes of the messages that wait, in blocks of Z, which are never written; W0: the world of the chunks that came. -/
structure RfS (W0 w : World) (p : Nat) (r : Rw) (nx : List Nat) (E : List ChQ) (V : List RyD) (Z : Nat → Prop) : Prop where
  st : Stc w p [.slice r.aA nx.length r.aC, .slice r.lA E.length r.lC, .slice r.vA V.length r.vC]
  ra : RowR 1 nxV w Z r.aA nx.length r.aC nx
  rl : RowR 14 ChQ.vals w Z r.lA E.length r.lC E
  rv : RowR 6 RyD.vals w Z r.vA V.length r.vC V
  ok : ∀ x ∈ E, QOk W0 x
  b0 : Below W0.heap.size W0 w
  sl : ∀ x ∈ V, Sl w x.a x.m.zs.length x.c x.m.zs ∧ ∀ g off, x.a = some ⟨g, off, none⟩ → Z g
  sm : ∀ x ∈ V, x.m.st < 65536 ∧ x.m.ss < 65536 ∧ x.m.pp < 4294967296 ∧ x.m.zs.length ≤ 200000 ∧ x.n ≤ 128
  n1 : 1 ≤ nx.length
  n8 : nx.length ≤ 8
  nv : ∀ i, nx.getD i 0 < 65536
  el : E.length ≤ 128
  vl : V.length ≤ 128
  zp : ∀ g, Z g → g ≠ p ∧ g < w.heap.size
  pn : W0.heap.size ≤ p
section
variable {W0 w w' : World} {p : Nat} {r : Rw} {nx : List Nat} {E : List ChQ} {V : List RyD} {Z : Nat → Prop}
theorem RfS.fr {Q : Nat → Prop} (h : RfS W0 w p r nx E V Z) (hf : Fr Q w w') (hq : ∀ g, Z g → ¬ Q g) (hp : ¬ Q p) (hW : ∀ g, g < W0.heap.size → ¬ Q g) : RfS W0 w' p r nx E V Z :=
  ⟨h.st.fr hf hp, h.ra.fr hf hq, h.rl.fr hf hq, h.rv.fr hf hq, h.ok, ⟨hf.os.trans h.b0.os, hf.tape.trans h.b0.tape, hf.output.trans h.b0.output, Nat.le_trans h.b0.size hf.size, fun k hk => (hf.block k (Nat.lt_of_lt_of_le hk h.b0.size) (hW k hk)).trans (h.b0.block k hk)⟩,
   fun x hx => ⟨(h.sl x hx).1.frA hf (fun b off e _ hQ => hq b ((h.sl x hx).2 b off e) hQ), (h.sl x hx).2⟩, h.sm, h.n1, h.n8, h.nv, h.el, h.vl, fun g hg => ⟨(h.zp g hg).1, Nat.lt_of_lt_of_le (h.zp g hg).2 hf.size⟩, h.pn⟩
theorem RfS.below (h : RfS W0 w p r nx E V Z) (hb : Below w.heap.size w w') : RfS W0 w' p r nx E V Z := h.fr (Q := fun _ => False) (Fr.of_below hb) (fun _ _ e => e) (fun e => e) (fun _ _ e => e)
end
theorem SlA.pos (n : Nat) (h : n ≠ 0) : 0 < n := Nat.pos_of_ne_zero h
theorem ChQ.sl {W0 : World} {x : ChQ} (h : x.Wf W0) : Sl W0 x.xA x.xN x.xC x.xZ := by
  unfold ChQ.Wf at h
  exact h.2.2.2.2.2.2.2.2.2.2.2.2.2.1
theorem ChQ.sml {W0 : World} {x : ChQ} (h : x.Wf W0) : x.k < 256 ∧ x.f < 256 ∧ x.t < 4294967296 ∧ x.st < 65536 ∧ x.ss < 65536 ∧ x.pp < 4294967296 := by
  unfold ChQ.Wf at h
  exact ⟨h.1, h.2.1, h.2.2.1, h.2.2.2.1, h.2.2.2.2.1, h.2.2.2.2.2.1⟩
/-- The first of a number. -/
def findQ (E : List ChQ) (t : Nat) : Option ChQ := E.find? fun x => x.t == t
theorem findQ_kv (E : List ChQ) (t : Nat) : lookD (E.map ChQ.kv) t = (findQ E t).map ChQ.pc := by
  unfold findQ
  induction E with
  | nil => rfl
  | cons x E ih =>
    rw [List.map_cons]
    unfold lookD
    by_cases e : x.t = t
    · rw [show ChQ.kv x = (x.t, x.pc) from rfl]
      dsimp only
      rw [if_pos e, List.find?_cons_of_pos (by simpa using e)]
      rfl
    · rw [show ChQ.kv x = (x.t, x.pc) from rfl]
      dsimp only
      rw [if_neg e, List.find?_cons_of_neg (by simpa using e), ih]
theorem findQ_in {E : List ChQ} {t : Nat} {x : ChQ} (h : findQ E t = some x) : x ∈ E ∧ x.t = t := by
  unfold findQ at h
  exact ⟨List.mem_of_find?_eq_some h, by simpa using List.find?_some h⟩
theorem findQ_take {E : List ChQ} {t i : Nat} (hn : ∀ (j : Nat) (x : ChQ), j < i → E[j]? = some x → x.t ≠ t) {x : ChQ} (hx : E[i]? = some x) (ht : x.t = t) : findQ E t = some x := by
  unfold findQ
  have hi := (List.getElem?_eq_some_iff.1 hx).1
  rw [List.find?_eq_some_iff_getElem]
  refine ⟨by simpa using ht, i, hi, (List.getElem?_eq_some_iff.1 hx).2, fun j hj => ?_⟩
  simpa using hn j _ hj (List.getElem?_eq_getElem (by omega))
theorem findQ_none {E : List ChQ} {t : Nat} (hn : ∀ (j : Nat) (x : ChQ), E[j]? = some x → x.t ≠ t) : findQ E t = none := by
  unfold findQ
  rw [List.find?_eq_none]
  intro x hx
  obtain ⟨j, hj⟩ := List.getElem?_of_mem hx
  simpa using hn j x hj
def zeroQ : List Value := [.int .u8 0, .int .u8 0, .int .u32 0, .int .u16 0, .int .u16 0, .int .u32 0, .int .u32 0, .int .u32 0, .int .u16 0, .int .u16 0, .slice none 0 0, .slice none 0 0, .slice none 0 0, .slice none 0 0]
/-- held's answer. -/
def heldV (E : List ChQ) (t : Nat) : Value := match findQ E t with
  | none => .tuple #[.agg zeroQ.toArray, .bool false]
  | some x => .tuple #[.agg x.vals.toArray, .bool true]
theorem RowR.get {α : Type} {k : Nat} {cf : α → List Value} {w : World} {Z : Nat → Prop} {a : Option Addr} {n c : Nat} {xs : List α} (h : RowR k cf w Z a n c xs) {i : Nat} (hi : i < n) : ∃ g x, a = some ⟨g, 0, none⟩ ∧ g < w.heap.size ∧ Z g ∧ xs[i]? = some x ∧ ∀ j u, (cf x)[j]? = some u → w.cell? ⟨g, i * k + j, none⟩ = some u := by
  obtain ⟨g, h1, h2, h3, h4⟩ := h.at_.resolve_left (by omega)
  obtain ⟨x, hx⟩ : ∃ x, xs[i]? = some x := ⟨_, List.getElem?_eq_getElem (by rw [h.len]; exact hi)⟩
  exact ⟨g, x, h1, h2, h3, hx, h4 i x hx⟩
theorem results_cellE2 {fn : Func} {p u : Tmp} {ty : TypeId} (h : fn.results = #[.cell p ty, .tmp u]) (tmps : Array Value) (w : World) (g o : Nat) (cs : List Value) (d : TypeDesc)
    (hp : tmps.getD p undef = .pointer (some ⟨g, o, none⟩)) (hc : w.rangeAt g o cs) (hu : Try.prog.underlying ty = some d) (hd : d.isRow = true) (hi : (Try.prog.info? ty).map (·.size) = some cs.length) :
    (results fn tmps).run Try.prog w = .ok (.tuple #[.agg cs.toArray, tmps.getD u undef]) w := by
  rw [results_cell_tmp h, hp]
  simp [asAddr, run_loadVar_mid w g o ty cs d hc hu hd hi, Result.andThen]
end Go.Proofs.Ytjaheelgcjafcaa
namespace Go.Proofs.Ytjaheelgcjafcaa
open Go.RowKit
set_option maxRecDepth 100000 in
set_option maxHeartbeats 8000000 in
theorem rheld_any {W0 w : World} {p : Nat} {r : Rw} {nx : List Nat} {E : List ChQ} {V : List RyD} {Z : Nat → Prop} (h : RfS W0 w p r nx E V Z) (t : Nat) (ht : t < 4294967296) :
    Calls Try.prog 49 #[.pointer (some ⟨p, 0, none⟩), .int .u32 (t : Nat)] w fun e w' => e = .returned (heldV E t) ∧ Below w.heap.size w w' := by
  obtain ⟨aA, aC, lA, lC, vA, vC⟩ := r
  obtain ⟨n, hn⟩ : ∃ n, n = E.length := ⟨_, rfl⟩
  have hp := h.st.lt
  have c1 : w.cell? ⟨p, 1, none⟩ = some (.slice lA n lC) := by rw [hn]; exact h.st.cell 1 _ rfl
  have HL : Hid (RowR 14 ChQ.vals w Z lA n lC E) := by rw [hn]; exact h.rl
  have hn128 : n ≤ 128 := by rw [hn]; exact h.el
  have hcap := HL.out.cap.1
  have HOK : Hid (∀ x ∈ E, x.t < 4294967296) := fun x hx => (ChQ.sml (h.ok x hx).wf).2.2.1
  have HN := (show Hid _ from hn)
  have HS0 := (show Hid _ from Stc.new w zeroQ 47 _ rfl)
  clear h hn
  go_enter Try.func49, Try.ntmps49
  go_wp2_with fail
  go_loopw [6] (fun iv wr => ∃ i : Nat, i ≤ n ∧ iv = .int .i64 (i : Nat) ∧ Below w.heap.size w wr ∧ Stc wr w.heap.size zeroQ ∧ ∀ (j : Nat) (x : ChQ), j < i → E[j]? = some x → x.t ≠ t) (fun iv _ => n - (intOf iv).toNat)
  case atStart => exact ⟨0, by omega, rfl, (Below.refl _ _).alloc (Nat.le_refl _) _, HS0.out, fun j x hj => by omega⟩
  case round =>
    obtain ⟨i, hin, rfl, hb, hs, hno⟩ := hrel
    have d1 := (hb.cell (p := ⟨p, 1, none⟩) hp).trans c1
    have HS := (show Hid _ from And.intro hb (And.intro hs hno))
    by_cases hlt : i < n
    · have g1 : (i : Int) < (n : Int) := by omega
      have g0 : (0 : Int) ≤ (i : Int) := by omega
      obtain ⟨g, x, rfl, hg, hZ, hx, hcx0⟩ := HL.out.get hlt
      have hcx : ∀ j u, x.vals[j]? = some u → wr.cell? ⟨g, i * 14 + j, none⟩ = some u := fun j u hu => (hb.cell (p := ⟨g, i * 14 + j, none⟩) hg).trans (hcx0 j u hu)
      have hxt := HOK.out x (List.mem_of_getElem? hx)
      have x2 : wr.cell? ⟨g, i * 14 + 2, none⟩ = some (.int .u32 (x.t : Nat)) := hcx 2 _ rfl
      have HX := (show Hid _ from And.intro hx (And.intro hZ hcx))
      clear hb hs hno hx hcx hcx0 hZ
      by_cases he : x.t = t
      · obtain ⟨hb, hs, hno⟩ := HS.out
        obtain ⟨hx, _, hcx⟩ := HX.out
        have x0 : wr.cell? ⟨g, i * 14, none⟩ = some (.int .u8 (x.k : Nat)) := hcx 0 _ rfl
        have x1 : wr.cell? ⟨g, i * 14 + 1, none⟩ = some (.int .u8 (x.f : Nat)) := hcx 1 _ rfl
        have x3 : wr.cell? ⟨g, i * 14 + 3, none⟩ = some (.int .u16 (x.st : Nat)) := hcx 3 _ rfl
        have x4 : wr.cell? ⟨g, i * 14 + 4, none⟩ = some (.int .u16 (x.ss : Nat)) := hcx 4 _ rfl
        have x5 : wr.cell? ⟨g, i * 14 + 5, none⟩ = some (.int .u32 (x.pp : Nat)) := hcx 5 _ rfl
        have x6 : wr.cell? ⟨g, i * 14 + 6, none⟩ = some (.int .u32 (x.tg : Nat)) := hcx 6 _ rfl
        have x7 : wr.cell? ⟨g, i * 14 + 7, none⟩ = some (.int .u32 (x.rm : Nat)) := hcx 7 _ rfl
        have x8 : wr.cell? ⟨g, i * 14 + 8, none⟩ = some (.int .u16 (x.os : Nat)) := hcx 8 _ rfl
        have x9 : wr.cell? ⟨g, i * 14 + 9, none⟩ = some (.int .u16 (x.is : Nat)) := hcx 9 _ rfl
        have x10 : wr.cell? ⟨g, i * 14 + 10, none⟩ = some (.slice x.bA x.bN x.bC) := hcx 10 _ rfl
        have x11 : wr.cell? ⟨g, i * 14 + 11, none⟩ = some (.slice x.dA x.dN x.dC) := hcx 11 _ rfl
        have x12 : wr.cell? ⟨g, i * 14 + 12, none⟩ = some (.slice x.pA x.pN x.pC) := hcx 12 _ rfl
        have x13 : wr.cell? ⟨g, i * 14 + 13, none⟩ = some (.slice x.xA x.xN x.xC) := hcx 13 _ rfl
        have qc0 := hs.cell 0 _ rfl
        have qf0 := hs.free 0
        have qc1 := hs.cell 1 _ rfl
        have qf1 := hs.free 1
        have qc2 := hs.cell 2 _ rfl
        have qf2 := hs.free 2
        have qc3 := hs.cell 3 _ rfl
        have qf3 := hs.free 3
        have qc4 := hs.cell 4 _ rfl
        have qf4 := hs.free 4
        have qc5 := hs.cell 5 _ rfl
        have qf5 := hs.free 5
        have qc6 := hs.cell 6 _ rfl
        have qf6 := hs.free 6
        have qc7 := hs.cell 7 _ rfl
        have qf7 := hs.free 7
        have qc8 := hs.cell 8 _ rfl
        have qf8 := hs.free 8
        have qc9 := hs.cell 9 _ rfl
        have qf9 := hs.free 9
        have qc10 := hs.cell 10 _ rfl
        have qf10 := hs.free 10
        have qc11 := hs.cell 11 _ rfl
        have qf11 := hs.free 11
        have qc12 := hs.cell 12 _ rfl
        have qf12 := hs.free 12
        have qc13 := hs.cell 13 _ rfl
        have qf13 := hs.free 13
        have HR := (show Hid _ from And.intro (findQ_take hno hx he) hs)
        subst he
        clear hb hs hno hx hcx
        go_wp2
        try simp only [Exit.inBlock, Exit.then]
        have hput := HR.out.2.put [.int .u8 (x.k : Nat), .int .u8 (x.f : Nat), .int .u32 (x.t : Nat), .int .u16 (x.st : Nat), .int .u16 (x.ss : Nat), .int .u32 (x.pp : Nat), .int .u32 (x.tg : Nat), .int .u32 (x.rm : Nat), .int .u16 (x.os : Nat), .int .u16 (x.is : Nat), .slice x.bA x.bN x.bC, .slice x.dA x.dN x.dC, .slice x.pA x.pN x.pC, .slice x.xA x.xN x.xC] rfl
        have hff := fr_setCellsX w.heap.size [.int .u8 (x.k : Nat), .int .u8 (x.f : Nat), .int .u32 (x.t : Nat), .int .u16 (x.st : Nat), .int .u16 (x.ss : Nat), .int .u32 (x.pp : Nat), .int .u32 (x.tg : Nat), .int .u32 (x.rm : Nat), .int .u16 (x.os : Nat), .int .u16 (x.is : Nat), .slice x.bA x.bN x.bC, .slice x.dA x.dN x.dC, .slice x.pA x.pN x.pC, .slice x.xA x.xN x.xC] 0 wr
        refine bodyPost_ret (results_cellE2 rfl _ _ w.heap.size 0 [.int .u8 (x.k : Nat), .int .u8 (x.f : Nat), .int .u32 (x.t : Nat), .int .u16 (x.st : Nat), .int .u16 (x.ss : Nat), .int .u32 (x.pp : Nat), .int .u32 (x.tg : Nat), .int .u32 (x.rm : Nat), .int .u16 (x.os : Nat), .int .u16 (x.is : Nat), .slice x.bA x.bN x.bC, .slice x.dA x.dN x.dC, .slice x.pA x.pN x.pC, .slice x.xA x.xN x.xC] _ rfl hput.range Try.underlying47 rfl (by kernel_rfl)) rfl ?_
        refine ⟨?_, HS.out.1.trans (hff.below _ HS.out.1.size (fun k hk => Nat.le_of_eq (Eq.symm hk)))⟩
        unfold heldV
        rw [HR.out.1]
        rfl
      · have ge : ¬ ((x.t : Nat) : Int) = (t : Int) := by omega
        go_wp2
        go_roundw
        case rel => exact ⟨i + 1, by omega, by go_num, HS.out.1, HS.out.2.1, fun j y hj hy => by
          by_cases e : j = i
          · subst e
            rw [HX.out.1] at hy
            obtain rfl := Option.some.inj hy
            exact he
          · exact HS.out.2.2 j y (by omega) hy⟩
        case measure => simp [intOf]; omega
    · obtain rfl : i = n := by omega
      have g1 : ¬ (i : Int) < (i : Int) := by omega
      have qc0 := hs.cell 0 _ rfl
      have qf0 := hs.free 0
      have qc1 := hs.cell 1 _ rfl
      have qf1 := hs.free 1
      have qc2 := hs.cell 2 _ rfl
      have qf2 := hs.free 2
      have qc3 := hs.cell 3 _ rfl
      have qf3 := hs.free 3
      have qc4 := hs.cell 4 _ rfl
      have qf4 := hs.free 4
      have qc5 := hs.cell 5 _ rfl
      have qf5 := hs.free 5
      have qc6 := hs.cell 6 _ rfl
      have qf6 := hs.free 6
      have qc7 := hs.cell 7 _ rfl
      have qf7 := hs.free 7
      have qc8 := hs.cell 8 _ rfl
      have qf8 := hs.free 8
      have qc9 := hs.cell 9 _ rfl
      have qf9 := hs.free 9
      have qc10 := hs.cell 10 _ rfl
      have qf10 := hs.free 10
      have qc11 := hs.cell 11 _ rfl
      have qf11 := hs.free 11
      have qc12 := hs.cell 12 _ rfl
      have qf12 := hs.free 12
      have qc13 := hs.cell 13 _ rfl
      have qf13 := hs.free 13
      have HR := (show Hid _ from hs)
      clear hb hs hno
      go_wp2
      try simp only [Exit.inBlock, Exit.then]
      have hput := HR.out.put [.int .u8 0, .int .u8 0, .int .u32 0, .int .u16 0, .int .u16 0, .int .u32 0, .int .u32 0, .int .u32 0, .int .u16 0, .int .u16 0, .slice none 0 0, .slice none 0 0, .slice none 0 0, .slice none 0 0] rfl
      have hff := fr_setCellsX w.heap.size [.int .u8 0, .int .u8 0, .int .u32 0, .int .u16 0, .int .u16 0, .int .u32 0, .int .u32 0, .int .u32 0, .int .u16 0, .int .u16 0, .slice none 0 0, .slice none 0 0, .slice none 0 0, .slice none 0 0] 0 wr
      refine bodyPost_ret (results_cellE2 rfl _ _ w.heap.size 0 [.int .u8 0, .int .u8 0, .int .u32 0, .int .u16 0, .int .u16 0, .int .u32 0, .int .u32 0, .int .u32 0, .int .u16 0, .int .u16 0, .slice none 0 0, .slice none 0 0, .slice none 0 0, .slice none 0 0] _ rfl hput.range Try.underlying47 rfl (by kernel_rfl)) rfl ?_
      refine ⟨?_, HS.out.1.trans (hff.below _ HS.out.1.size (fun k hk => Nat.le_of_eq (Eq.symm hk)))⟩
      unfold heldV
      rw [findQ_none (fun j y hy => HS.out.2.2 j y (by rw [HN.out]; exact (List.getElem?_eq_some_iff.1 hy).1) hy)]
      rfl
end Go.Proofs.Ytjaheelgcjafcaa
namespace Go.Proofs.Ytjaheelgcjafcaa
open Go.RowKit
def sumU {α : Type} (f : α → Nat) (l : List α) (i : Nat) : Nat := ((l.take i).map f).sum
theorem sumU_zero {α : Type} (f : α → Nat) (l : List α) : sumU f l 0 = 0 := by simp [sumU]
theorem sumU_succ {α : Type} (f : α → Nat) {l : List α} {i : Nat} {x : α} (h : l[i]? = some x) : sumU f l (i + 1) = sumU f l i + f x := by
  have hi := (List.getElem?_eq_some_iff.1 h).1
  have e : l[i] = x := (List.getElem?_eq_some_iff.1 h).2
  unfold sumU
  rw [List.take_succ_eq_append_getElem hi, e, List.map_append, List.sum_append]
  simp
theorem sumU_all {α : Type} (f : α → Nat) (l : List α) : sumU f l l.length = (l.map f).sum := by unfold sumU; rw [List.take_length]
theorem sumU_le {α : Type} (f : α → Nat) (M : Nat) {l : List α} (h : ∀ x ∈ l, f x ≤ M) : ∀ i, i ≤ l.length → sumU f l i ≤ M * i := by
  intro i
  induction i with
  | zero => intro _; rw [sumU_zero]; exact Nat.zero_le _
  | succ i ih =>
    intro hi
    obtain ⟨x, hx⟩ : ∃ x, l[i]? = some x := ⟨_, List.getElem?_eq_getElem (by omega)⟩
    rw [sumU_succ f hx, Nat.mul_succ]
    have := h x (List.mem_of_getElem? hx)
    have := ih (by omega)
    omega
def heldN13 (E : List ChQ) (V : List RyD) : Nat := E.length + (V.map (·.n)).sum
def heldB13 (E : List ChQ) (V : List RyD) : Nat := (E.map (·.xN)).sum + (V.map (·.m.zs.length)).sum
set_option maxRecDepth 100000 in
set_option maxHeartbeats 8000000 in
theorem rHeld_any {W0 w : World} {p : Nat} {r : Rw} {nx : List Nat} {E : List ChQ} {V : List RyD} {Z : Nat → Prop} (h : RfS W0 w p r nx E V Z) :
    Calls Try.prog 36 #[.pointer (some ⟨p, 0, none⟩)] w fun e w' => e = .returned (.tuple #[.int .i64 (heldN13 E V : Nat), .int .i64 (heldB13 E V : Nat)]) ∧ Below w.heap.size w w' := by
  obtain ⟨aA, aC, lA, lC, vA, vC⟩ := r
  obtain ⟨n, hn⟩ : ∃ n, n = E.length := ⟨_, rfl⟩
  obtain ⟨v, hv⟩ : ∃ v, v = V.length := ⟨_, rfl⟩
  have hp := h.st.lt
  have c1 : w.cell? ⟨p, 1, none⟩ = some (.slice lA n lC) := by rw [hn]; exact h.st.cell 1 _ rfl
  have c2 : w.cell? ⟨p, 2, none⟩ = some (.slice vA v vC) := by rw [hv]; exact h.st.cell 2 _ rfl
  have HL : Hid (RowR 14 ChQ.vals w Z lA n lC E) := by rw [hn]; exact h.rl
  have HV : Hid (RowR 6 RyD.vals w Z vA v vC V) := by rw [hv]; exact h.rv
  have hn128 : n ≤ 128 := by rw [hn]; exact h.el
  have hv128 : v ≤ 128 := by rw [hv]; exact h.vl
  have hcap := HL.out.cap.1
  have hcap2 := HV.out.cap.1
  have HE1 : Hid (∀ i, i ≤ n → sumU (·.xN) E i ≤ 1452 * i) := fun i hi => sumU_le (·.xN) 1452 (fun x hx => (h.ok x hx).n2) i (by omega)
  have HV1 : Hid (∀ i, i ≤ v → sumU (·.n) V i ≤ 128 * i) := fun i hi => sumU_le (·.n) 128 (fun x hx => (h.sm x hx).2.2.2.2) i (by omega)
  have HV2 : Hid (∀ i, i ≤ v → sumU (·.m.zs.length) V i ≤ 200000 * i) := fun i hi => sumU_le (·.m.zs.length) 200000 (fun x hx => (h.sm x hx).2.2.2.1) i (by omega)
  have HN := (show Hid _ from And.intro hn hv)
  clear h hn hv
  go_enter Try.func36, Try.ntmps36
  go_wp2_with fail
  go_loopw [5, 6] (fun bv iv wr => ∃ i b : Nat, i ≤ n ∧ b = sumU (·.xN) E i ∧ bv = .int .i64 (b : Nat) ∧ iv = .int .i64 (i : Nat) ∧ Below w.heap.size w wr) (fun _ iv _ => n - (intOf iv).toNat)
  case atStart => exact ⟨0, 0, by omega, (sumU_zero _ _).symm, rfl, rfl, Below.refl _ _⟩
  case round =>
    obtain ⟨i, b, hin, hb0, rfl, rfl, hb⟩ := hrel
    have hbb := HE1.out i hin
    rw [← hb0] at hbb
    have d1 := (hb.cell (p := ⟨p, 1, none⟩) hp).trans c1
    have d2 := (hb.cell (p := ⟨p, 2, none⟩) hp).trans c2
    have HB := (show Hid _ from And.intro hb hb0)
    by_cases hlt : i < n
    · have g1 : (i : Int) < (n : Int) := by omega
      have g0 : (0 : Int) ≤ (i : Int) := by omega
      obtain ⟨g, x, rfl, hg, hZ, hx, hcx0⟩ := HL.out.get hlt
      have x13 : wr.cell? ⟨g, i * 14 + 13, none⟩ = some (.slice x.xA x.xN x.xC) := (hb.cell (p := ⟨g, i * 14 + 13, none⟩) hg).trans (hcx0 13 _ rfl)
      have hxn : sumU (·.xN) E (i + 1) = b + x.xN := by rw [sumU_succ _ hx, hb0]
      have hxb := HE1.out (i + 1) (by omega)
      rw [hxn] at hxb
      have HX := (show Hid _ from hxn)
      clear hb hb0 hcx0 hx hxn hZ
      go_wp2
      go_roundw
      case rel => exact ⟨i + 1, b + x.xN, by omega, HX.out.symm, by go_num, by go_num, HB.out.1⟩
      case measure => simp [intOf]; omega
    · obtain rfl : i = n := by omega
      have g1 : ¬ (i : Int) < (i : Int) := by omega
      clear hb hb0
      go_wp2
      go_loopw [4, 5, 7] (fun nv bv jv ws => ∃ j m c : Nat, j ≤ v ∧ m = sumU (·.n) V j ∧ c = sumU (·.m.zs.length) V j ∧ nv = .int .i64 (((i + m : Nat)) : Nat) ∧ bv = .int .i64 ((b + c : Nat) : Nat) ∧ jv = .int .i64 (j : Nat) ∧ Below w.heap.size w ws) (fun _ _ jv _ => v - (intOf jv).toNat)
      case atStart => exact ⟨0, 0, 0, by omega, (sumU_zero _ _).symm, (sumU_zero _ _).symm, rfl, rfl, rfl, HB.out.1⟩
      case round =>
        rename_i ws
        obtain ⟨j, m, c, hjv, hm0, hc0, rfl, rfl, rfl, hb⟩ := hrel
        have hmm := HV1.out j hjv
        have hcc := HV2.out j hjv
        rw [← hm0] at hmm
        rw [← hc0] at hcc
        have d2 := (hb.cell (p := ⟨p, 2, none⟩) hp).trans c2
        have HB2 := (show Hid _ from And.intro hb (And.intro hm0 hc0))
        by_cases hlt2 : j < v
        · have g1 : (j : Int) < (v : Int) := by omega
          have g0 : (0 : Int) ≤ (j : Int) := by omega
          obtain ⟨g, x, rfl, hg, hZ, hx, hcx0⟩ := HV.out.get hlt2
          have x4 := (hb.cell (p := ⟨g, j * 6 + 4, none⟩) hg).trans (hcx0 4 _ rfl)
          have x5 := (hb.cell (p := ⟨g, j * 6 + 5, none⟩) hg).trans (hcx0 5 _ rfl)
          have hxn : sumU (·.n) V (j + 1) = m + x.n := by rw [sumU_succ _ hx, hm0]
          have hxc : sumU (·.m.zs.length) V (j + 1) = c + x.m.zs.length := by rw [sumU_succ _ hx, hc0]
          have hxb := HV1.out (j + 1) (by omega)
          have hxb2 := HV2.out (j + 1) (by omega)
          rw [hxn] at hxb
          rw [hxc] at hxb2
          obtain ⟨l, hl⟩ : ∃ l, l = x.m.zs.length := ⟨_, rfl⟩
          rw [← hl] at x4 hxc hxb2
          have HX := (show Hid _ from And.intro hxn hxc)
          clear hb hm0 hc0 hcx0 hx hxn hxc hZ hl
          go_wp2
          go_roundw
          case rel => exact ⟨j + 1, m + x.n, c + l, by omega, HX.out.1.symm, HX.out.2.symm, by go_num, by go_num, by go_num, HB2.out.1⟩
          case measure => simp [intOf]; omega
        · obtain rfl : j = v := by omega
          have g1 : ¬ (j : Int) < (j : Int) := by omega
          clear hb hm0 hc0
          go_wp2
          go_ret2
          refine ⟨?_, HB2.out.1⟩
          unfold heldN13 heldB13
          rw [← HN.out.1, ← sumU_all, ← sumU_all, ← sumU_all, ← HN.out.1, ← HN.out.2, ← HB2.out.2.1, ← HB2.out.2.2, ← HB.out.2]
          rfl
end Go.Proofs.Ytjaheelgcjafcaa
namespace Go.Proofs.Ytjaheelgcjafcaa
open Go.RowKit
theorem st_add {w : World} {q : Nat} {cs : List Value} (h : Stc w q cs) (j : Nat) (u : Value) (hu : cs[j]? = some u) : w.cell? ((⟨q, 0, none⟩ : Addr).add j) = some u := by
  have := h.cell j u hu
  unfold Addr.add
  split
  · rename_i e; subst e; exact this
  · simpa using this
theorem rbegins_any (x : ChQ) (w : World) (hf : x.f < 256) (v : Value) (hv : v = .agg x.vals.toArray) : Calls Try.prog 63 #[v] w fun e w' => e = .returned (.bool x.pc.beg) ∧ Below w.heap.size w w' := by
  subst hv
  have HS := (show Hid _ from Stc.new w [.int .u8 (x.k : Nat), .int .u8 (x.f : Nat), .int .u32 (x.t : Nat), .int .u16 (x.st : Nat), .int .u16 (x.ss : Nat), .int .u32 (x.pp : Nat), .int .u32 (x.tg : Nat), .int .u32 (x.rm : Nat), .int .u16 (x.os : Nat), .int .u16 (x.is : Nat), .slice x.bA x.bN x.bC, .slice x.dA x.dN x.dC, .slice x.pA x.pN x.pC, .slice x.xA x.xN x.xC] 47 _ rfl)
  have hb := (show Hid _ from (Below.refl w.heap.size w).alloc (Nat.le_refl _) (.cells [.int .u8 (x.k : Nat), .int .u8 (x.f : Nat), .int .u32 (x.t : Nat), .int .u16 (x.st : Nat), .int .u16 (x.ss : Nat), .int .u32 (x.pp : Nat), .int .u32 (x.tg : Nat), .int .u32 (x.rm : Nat), .int .u16 (x.os : Nat), .int .u16 (x.is : Nat), .slice x.bA x.bN x.bC, .slice x.dA x.dN x.dC, .slice x.pA x.pN x.pC, .slice x.xA x.xN x.xC].toArray 47))
  show Calls Try.prog 63 #[.agg #[.int .u8 (x.k : Nat), .int .u8 (x.f : Nat), .int .u32 (x.t : Nat), .int .u16 (x.st : Nat), .int .u16 (x.ss : Nat), .int .u32 (x.pp : Nat), .int .u32 (x.tg : Nat), .int .u32 (x.rm : Nat), .int .u16 (x.os : Nat), .int .u16 (x.is : Nat), .slice x.bA x.bN x.bC, .slice x.dA x.dN x.dC, .slice x.pA x.pN x.pC, .slice x.xA x.xN x.xC]] w _
  have c1 := HS.out.cell 1 _ rfl
  go_enter Try.func63, Try.ntmps63
  go_wp2
  go_ret
  have hfl : ((x.f : Int) / 2 % 2 == 1) = decide (x.f / 2 % 2 = 1) := by rw [Bool.eq_iff_iff]; simp; omega
  refine ⟨?_, hb.out⟩
  show Ending.returned (.bool ((x.f : Int) / 2 % 2 == 1)) = _
  rw [hfl]
  rfl
theorem rends_any (x : ChQ) (w : World) (hf : x.f < 256) (v : Value) (hv : v = .agg x.vals.toArray) : Calls Try.prog 65 #[v] w fun e w' => e = .returned (.bool x.pc.fin) ∧ Below w.heap.size w w' := by
  subst hv
  have HS := (show Hid _ from Stc.new w [.int .u8 (x.k : Nat), .int .u8 (x.f : Nat), .int .u32 (x.t : Nat), .int .u16 (x.st : Nat), .int .u16 (x.ss : Nat), .int .u32 (x.pp : Nat), .int .u32 (x.tg : Nat), .int .u32 (x.rm : Nat), .int .u16 (x.os : Nat), .int .u16 (x.is : Nat), .slice x.bA x.bN x.bC, .slice x.dA x.dN x.dC, .slice x.pA x.pN x.pC, .slice x.xA x.xN x.xC] 47 _ rfl)
  have hb := (show Hid _ from (Below.refl w.heap.size w).alloc (Nat.le_refl _) (.cells [.int .u8 (x.k : Nat), .int .u8 (x.f : Nat), .int .u32 (x.t : Nat), .int .u16 (x.st : Nat), .int .u16 (x.ss : Nat), .int .u32 (x.pp : Nat), .int .u32 (x.tg : Nat), .int .u32 (x.rm : Nat), .int .u16 (x.os : Nat), .int .u16 (x.is : Nat), .slice x.bA x.bN x.bC, .slice x.dA x.dN x.dC, .slice x.pA x.pN x.pC, .slice x.xA x.xN x.xC].toArray 47))
  show Calls Try.prog 65 #[.agg #[.int .u8 (x.k : Nat), .int .u8 (x.f : Nat), .int .u32 (x.t : Nat), .int .u16 (x.st : Nat), .int .u16 (x.ss : Nat), .int .u32 (x.pp : Nat), .int .u32 (x.tg : Nat), .int .u32 (x.rm : Nat), .int .u16 (x.os : Nat), .int .u16 (x.is : Nat), .slice x.bA x.bN x.bC, .slice x.dA x.dN x.dC, .slice x.pA x.pN x.pC, .slice x.xA x.xN x.xC]] w _
  have c1 := HS.out.cell 1 _ rfl
  go_enter Try.func65, Try.ntmps65
  go_wp2
  go_ret
  have hfl : ((x.f : Int) % 2 == 1) = decide (x.f % 2 = 1) := by rw [Bool.eq_iff_iff]; simp; omega
  refine ⟨?_, hb.out⟩
  show Ending.returned (.bool ((x.f : Int) % 2 == 1)) = _
  rw [hfl]
  rfl
theorem rfree_any (x : ChQ) (w : World) (hf : x.f < 256) (v : Value) (hv : v = .agg x.vals.toArray) : Calls Try.prog 64 #[v] w fun e w' => e = .returned (.bool x.pc.free) ∧ Below w.heap.size w w' := by
  subst hv
  have HS := (show Hid _ from Stc.new w [.int .u8 (x.k : Nat), .int .u8 (x.f : Nat), .int .u32 (x.t : Nat), .int .u16 (x.st : Nat), .int .u16 (x.ss : Nat), .int .u32 (x.pp : Nat), .int .u32 (x.tg : Nat), .int .u32 (x.rm : Nat), .int .u16 (x.os : Nat), .int .u16 (x.is : Nat), .slice x.bA x.bN x.bC, .slice x.dA x.dN x.dC, .slice x.pA x.pN x.pC, .slice x.xA x.xN x.xC] 47 _ rfl)
  have hb := (show Hid _ from (Below.refl w.heap.size w).alloc (Nat.le_refl _) (.cells [.int .u8 (x.k : Nat), .int .u8 (x.f : Nat), .int .u32 (x.t : Nat), .int .u16 (x.st : Nat), .int .u16 (x.ss : Nat), .int .u32 (x.pp : Nat), .int .u32 (x.tg : Nat), .int .u32 (x.rm : Nat), .int .u16 (x.os : Nat), .int .u16 (x.is : Nat), .slice x.bA x.bN x.bC, .slice x.dA x.dN x.dC, .slice x.pA x.pN x.pC, .slice x.xA x.xN x.xC].toArray 47))
  show Calls Try.prog 64 #[.agg #[.int .u8 (x.k : Nat), .int .u8 (x.f : Nat), .int .u32 (x.t : Nat), .int .u16 (x.st : Nat), .int .u16 (x.ss : Nat), .int .u32 (x.pp : Nat), .int .u32 (x.tg : Nat), .int .u32 (x.rm : Nat), .int .u16 (x.os : Nat), .int .u16 (x.is : Nat), .slice x.bA x.bN x.bC, .slice x.dA x.dN x.dC, .slice x.pA x.pN x.pC, .slice x.xA x.xN x.xC]] w _
  have c1 := HS.out.cell 1 _ rfl
  go_enter Try.func64, Try.ntmps64
  go_wp2
  go_ret
  have hfl : ((x.f : Int) / 4 % 2 == 1) = decide (x.f / 4 % 2 = 1) := by rw [Bool.eq_iff_iff]; simp; omega
  refine ⟨?_, hb.out⟩
  show Ending.returned (.bool ((x.f : Int) / 4 % 2 == 1)) = _
  rw [hfl]
  rfl
end Go.Proofs.Ytjaheelgcjafcaa
namespace Go.Proofs.Ytjaheelgcjafcaa
open Go.RowKit
def RyD.key (x : RyD) : Nat := keyM x.m
def dropY (V : List RyD) (k : Nat) : List RyD := V.filter fun x => !(x.key == k)
def findY (V : List RyD) (k : Nat) : Option RyD := V.find? fun x => x.key == k
def msgY : Option RyD → List Value
  | none => [.int .u16 0, .int .u16 0, .int .u32 0, .bool false, .slice none 0 0]
  | some x => [.int .u16 (x.m.st : Nat), .int .u16 (x.m.ss : Nat), .int .u32 (x.m.pp : Nat), .bool x.m.fr, .slice x.a x.m.zs.length x.c]
structure DropR (w : World) (p : Nat) (v0 v1 : Value) (V : List RyD) (k : Nat) (e : Ending) (w' : World) : Prop where
  ans : e = .returned (.tuple #[.agg (msgY (findY V k)).toArray, .bool (findY V k).isSome])
  row : ∃ a c, OwnG 108 6 RyD.vals w' w.heap.size a (dropY V k).length c (dropY V k) ∧ Stc w' p [v0, v1, .slice a (dropY V k).length c]
  fr : Fr (fun g => g = p) w w'
theorem dropY_snoc {V : List RyD} {k i : Nat} {x : RyD} (h : V[i]? = some x) : dropY (V.take (i + 1)) k = dropY (V.take i) k ++ if x.key == k then [] else [x] := by
  have hi := (List.getElem?_eq_some_iff.1 h).1
  have e : V[i] = x := (List.getElem?_eq_some_iff.1 h).2
  unfold dropY
  rw [List.take_succ_eq_append_getElem hi, e, List.filter_append]
  congr 1
  cases hk : x.key == k <;> simp [hk]
theorem findY_snoc {V : List RyD} {k i : Nat} {x : RyD} (h : V[i]? = some x) (hne : (x.key == k) = false) : findY (V.take (i + 1)) k = findY (V.take i) k := by
  have hi := (List.getElem?_eq_some_iff.1 h).1
  have e : V[i] = x := (List.getElem?_eq_some_iff.1 h).2
  unfold findY
  rw [List.take_succ_eq_append_getElem hi, e, List.find?_append]
  rw [show List.find? (fun x => x.key == k) [x] = none by rw [List.find?_cons_of_neg (by simp [hne])]; rfl]
  cases List.find? (fun x => x.key == k) (V.take i) <;> rfl
theorem findY_hit {V : List RyD} {k i : Nat} {x : RyD} (hn : (V.map RyD.key).Nodup) (h : V[i]? = some x) (hk : x.key = k) : findY (V.take (i + 1)) k = some x := by
  have hi := (List.getElem?_eq_some_iff.1 h).1
  have e : V[i] = x := (List.getElem?_eq_some_iff.1 h).2
  unfold findY
  rw [List.take_succ_eq_append_getElem hi, e, List.find?_append]
  have : List.find? (fun x => x.key == k) (V.take i) = none := by
    rw [List.find?_eq_none]
    intro y hy
    obtain ⟨j, hj⟩ := List.getElem?_of_mem hy
    have hjl := (List.getElem?_eq_some_iff.1 hj).1
    rw [List.length_take] at hjl
    have hj2 : V[j]? = some y := by rw [List.getElem?_take_of_lt (by omega)] at hj; exact hj
    simp only [beq_iff_eq]
    intro hyk
    have hp := List.pairwise_iff_getElem.1 (List.pairwise_map.1 hn) j i (by omega) hi (by omega)
    apply hp
    rw [e, (List.getElem?_eq_some_iff.1 hj2).2, hyk, hk]
  rw [this, List.find?_cons_of_pos (by simp [hk])]
  rfl
/-- drop under way. -/
structure DrI (w : World) (p : Nat) (V : List RyD) (k i : Nat) (ka : Option Addr) (kn kc : Nat) (b : Bool) (wr : World) : Prop where
  own : OwnG 108 6 RyD.vals wr w.heap.size ka kn kc (dropY (V.take i) k)
  ans : Stc wr w.heap.size (msgY none)
  out : Stc wr (w.heap.size + 2) (msgY (findY (V.take i) k))
  b : b = (findY (V.take i) k).isSome
  ne : ∀ g, (Value.slice ka kn kc).ownBlock = some g → g ≠ w.heap.size ∧ g ≠ w.heap.size + 2
  bel : Below w.heap.size w wr
theorem Fr.fresh {P Q : Nat → Prop} {a b c : World} (h : Fr P a b) (k : Fr Q b c) (hq : ∀ i, Q i → a.heap.size ≤ i) : Fr P a c :=
  ⟨k.os.trans h.os, k.tape.trans h.tape, k.output.trans h.output, Nat.le_trans h.size k.size, fun i hi hp => (k.block i (Nat.lt_of_lt_of_le hi h.size) (fun e => absurd (hq i e) (by omega))).trans (h.block i hi hp)⟩
theorem DrI.app {w wr w9 : World} {p : Nat} {V : List RyD} {k i : Nat} {ka : Option Addr} {kn kc : Nat} {b : Bool} {x : RyD} {o : Obj} {g9 c9 : Nat} (h : DrI w p V k i ka kn kc b wr) (hx : V[i]? = some x) (hk : (x.key == k) = false)
    (ho : OwnG 108 6 RyD.vals w9 w.heap.size (some ⟨g9, 0, none⟩) (kn + 1) c9 (dropY (V.take i) k ++ [x])) (hg : (wr.alloc o).grownBy w9 (Value.slice ka kn kc).ownBlock) (hl : (Value.slice ka kn kc).ownBlock = some g9 ∨ g9 = (wr.alloc o).heap.size) : DrI w p V k (i + 1) (some ⟨g9, 0, none⟩) (kn + 1) c9 b w9 := by
  have b1 : Below wr.heap.size wr (wr.alloc o) := (Below.refl _ _).alloc (Nat.le_refl _) _
  have f1 : Fr (fun k => (Value.slice ka kn kc).ownBlock = some k) (wr.alloc o) w9 := Fr.grown hg (fun k hk => hk)
  have hb := h.out.lt
  refine ⟨by rw [dropY_snoc hx, hk]; exact ho, (h.ans.below b1).fr f1 (fun e => (h.ne _ e).1 rfl), ?_, by rw [findY_snoc hx hk]; exact h.b, fun g hg2 => ?_, h.bel.trans ((b1.mono h.bel.size).trans (f1.below _ (Nat.le_trans h.bel.size b1.size) (fun k hk => (h.own.own.lt k hk).1)))⟩
  · rw [findY_snoc hx hk]
    exact (h.out.below b1).fr f1 (fun e => (h.ne _ e).2 rfl)
  · obtain rfl : g9 = g := Option.some.inj hg2
    rcases hl with hl | hl
    · exact h.ne _ hl
    · rw [hl]
      have e : (wr.alloc o).heap.size = wr.heap.size + 1 := by simp
      omega
theorem tkey_eq {st ss st' ss' : Nat} (h1 : ss < 65536) (h2 : ss' < 65536) : tkey st ss = tkey st' ss' ↔ st = st' ∧ ss = ss' := by unfold tkey; omega
set_option maxRecDepth 100000 in
set_option maxHeartbeats 8000000 in
theorem rdrop_any {W0 w : World} {p : Nat} {r : Rw} {nx : List Nat} {E : List ChQ} {V : List RyD} {Z : Nat → Prop} (h : RfS W0 w p r nx E V Z) (hnd : (V.map RyD.key).Nodup) (st ss : Nat) (hst : st < 65536) (hss : ss < 65536) :
    Calls Try.prog 67 #[.pointer (some ⟨p, 0, none⟩), .int .u16 (st : Nat), .int .u16 (ss : Nat)] w (DropR w p (.slice r.aA nx.length r.aC) (.slice r.lA E.length r.lC) V (tkey st ss)) := by
  obtain ⟨aA, aC, lA, lC, vA, vC⟩ := r
  obtain ⟨v, hv⟩ : ∃ v, v = V.length := ⟨_, rfl⟩
  obtain ⟨an, han⟩ : ∃ v, v = nx.length := ⟨_, rfl⟩
  obtain ⟨ln, hln⟩ : ∃ v, v = E.length := ⟨_, rfl⟩
  have hst3 : Stc w p [.slice aA an aC, .slice lA ln lC, .slice vA v vC] := by rw [hv, han, hln]; exact h.st
  show Calls _ _ _ w (DropR w p (.slice aA nx.length aC) (.slice lA E.length lC) V (tkey st ss))
  rw [← han, ← hln]
  have hp := hst3.lt
  have c2 : w.cell? ⟨p, 2, none⟩ = some (.slice vA v vC) := hst3.cell 2 _ rfl
  have HV : Hid (RowR 6 RyD.vals w Z vA v vC V) := by rw [hv]; exact h.rv
  have hv128 : v ≤ 128 := by rw [hv]; exact h.vl
  have hcap2 := HV.out.cap.1
  have HS := (show Hid _ from And.intro hst3 (And.intro hnd hv))
  have HSM := (show Hid _ from h.sm)
  have HI0 : Hid (DrI w p V (tkey st ss) 0 (some ⟨w.heap.size + 1, 0, none⟩) 0 0 false (((w.alloc (.cells (msgY none).toArray 51)).alloc (.cells #[] 108)).alloc (.cells (msgY none).toArray 51))) := by
    have b1 : Below w.heap.size w (w.alloc (.cells (msgY none).toArray 51)) := (Below.refl _ _).alloc (Nat.le_refl _) _
    have s1 := Stc.new w (msgY none) 51 _ rfl
    have o1 := OwnG.empty (T := 108) (k := 6) (cf := RyD.vals) (w.alloc (.cells (msgY none).toArray 51))
    have e1 : (w.alloc (.cells (msgY none).toArray 51)).heap.size = w.heap.size + 1 := by simp
    rw [e1] at o1
    have b2 : Below (w.alloc (.cells (msgY none).toArray 51)).heap.size (w.alloc (.cells (msgY none).toArray 51)) ((w.alloc (.cells (msgY none).toArray 51)).alloc (.cells #[] 108)) := (Below.refl _ _).alloc (Nat.le_refl _) _
    have b3 : Below ((w.alloc (.cells (msgY none).toArray 51)).alloc (.cells #[] 108)).heap.size ((w.alloc (.cells (msgY none).toArray 51)).alloc (.cells #[] 108)) (((w.alloc (.cells (msgY none).toArray 51)).alloc (.cells #[] 108)).alloc (.cells (msgY none).toArray 51)) := (Below.refl _ _).alloc (Nat.le_refl _) _
    have s3 := Stc.new ((w.alloc (.cells (msgY none).toArray 51)).alloc (.cells #[] 108)) (msgY none) 51 _ rfl
    have e2 : ((w.alloc (.cells (msgY none).toArray 51)).alloc (.cells #[] 108)).heap.size = w.heap.size + 2 := by simp
    refine ⟨(OwnG.base o1 (by omega)).below b3, (s1.below b2).below b3, by rw [e2] at s3; exact s3, rfl, fun g hg => ?_, (b1.trans (b2.mono (by simp))).trans (b3.mono (by simp; omega))⟩
    obtain rfl : w.heap.size + 1 = g := Option.some.inj hg
    omega
  clear h hv han hln hnd hst3
  go_enter Try.func67, Try.ntmps67
  go_wp2_with fail
  go_loopw [8, 10, 11] (fun kv bv iv wr => ∃ (i : Nat) (ka : Option Addr) (kn kc : Nat) (b : Bool), i ≤ v ∧ kv = .slice ka kn kc ∧ bv = .bool b ∧ iv = .int .i64 (i : Nat) ∧ DrI w p V (tkey st ss) i ka kn kc b wr) (fun _ _ iv _ => v - (intOf iv).toNat)
  case atStart => exact ⟨0, _, 0, 0, false, by omega, rfl, rfl, rfl, HI0.out⟩
  case round =>
    obtain ⟨i, ka, kn, kc, b, hiv, rfl, rfl, rfl, hI⟩ := hrel
    clear HI0
    have hb := hI.bel
    have d2 := (hb.cell (p := ⟨p, 2, none⟩) hp).trans c2
    have HI := (show Hid _ from hI)
    by_cases hlt : i < v
    · have g1 : (i : Int) < (v : Int) := by omega
      have g0 : (0 : Int) ≤ (i : Int) := by omega
      obtain ⟨g, x, rfl, hg, hZ, hx, hcx0⟩ := HV.out.get hlt
      have hcx : ∀ j u, x.vals[j]? = some u → wr.cell? ⟨g, i * 6 + j, none⟩ = some u := fun j u hu => (hb.cell (p := ⟨g, i * 6 + j, none⟩) hg).trans (hcx0 j u hu)
      have hsx := HSM.out x (List.mem_of_getElem? hx)
      obtain ⟨l, hl⟩ : ∃ l, l = x.m.zs.length := ⟨_, rfl⟩
      have x0 : wr.cell? ⟨g, i * 6, none⟩ = some (.int .u16 (x.m.st : Nat)) := hcx 0 _ rfl
      have x1 : wr.cell? ⟨g, i * 6 + 1, none⟩ = some (.int .u16 (x.m.ss : Nat)) := hcx 1 _ rfl
      have x2 : wr.cell? ⟨g, i * 6 + 2, none⟩ = some (.int .u32 (x.m.pp : Nat)) := hcx 2 _ rfl
      have x3 : wr.cell? ⟨g, i * 6 + 3, none⟩ = some (.bool x.m.fr) := hcx 3 _ rfl
      have x4 : wr.cell? ⟨g, i * 6 + 4, none⟩ = some (.slice x.a l x.c) := by rw [hl]; exact hcx 4 _ rfl
      have x5 : wr.cell? ⟨g, i * 6 + 5, none⟩ = some (.int .i64 (x.n : Nat)) := hcx 5 _ rfl
      have hkn : kn ≤ 128 := by
        have h1 := hI.own.len
        have h2 : (dropY (V.take i) (tkey st ss)).length ≤ (V.take i).length := List.length_filter_le _ _
        have h3 : (V.take i).length ≤ i := List.length_take_le _ _
        omega
      have HX := (show Hid _ from And.intro hx (And.intro hsx hl))
      clear hb hcx hcx0 hx hsx hZ hl
      by_cases he : x.m.st = st ∧ x.m.ss = ss
      · obtain ⟨he1, he2⟩ := he
        have hko : x.key = tkey st ss := by unfold RyD.key keyM; rw [he1, he2]
        subst he1 he2
        have so := hI.out
        obtain ⟨cs, hcs⟩ : ∃ cs, cs = msgY (findY (V.take i) (tkey x.m.st x.m.ss)) := ⟨_, rfl⟩
        obtain ⟨s0, s1, s2, s3, s4, hs4⟩ : ∃ s0 s1 s2 s3 s4, cs = [s0, s1, s2, s3, s4] := by
          rw [hcs]
          cases findY (V.take i) (tkey x.m.st x.m.ss) with
          | none => exact ⟨_, _, _, _, _, rfl⟩
          | some y => exact ⟨_, _, _, _, _, rfl⟩
        rw [← hcs, hs4] at so
        have y0 := so.cell 0 _ rfl
        have y1 := so.cell 1 _ rfl
        have y2 := so.cell 2 _ rfl
        have y3 := so.cell 3 _ rfl
        have y4 := so.cell 4 _ rfl
        have z0 := so.free 0
        have z1 := so.free 1
        have z2 := so.free 2
        have z3 := so.free 3
        have z4 := so.free 4
        have HSO := (show Hid _ from so)
        clear so hcs hs4 hI
        go_wp2
        go_roundw
        case rel =>
          have hput := HSO.out.put [.int .u16 (x.m.st : Nat), .int .u16 (x.m.ss : Nat), .int .u32 (x.m.pp : Nat), .bool x.m.fr, .slice x.a l x.c] rfl
          have hff := fr_setCellsX (w.heap.size + 2) [.int .u16 (x.m.st : Nat), .int .u16 (x.m.ss : Nat), .int .u32 (x.m.pp : Nat), .bool x.m.fr, .slice x.a l x.c] 0 wr
          obtain ⟨hx, hsx, hl⟩ := HX.out
          have hI := HI.out
          have hhit := findY_hit HS.out.2.1 hx hko
          have hdr : dropY (V.take (i + 1)) (tkey x.m.st x.m.ss) = dropY (V.take i) (tkey x.m.st x.m.ss) := by rw [dropY_snoc hx, hko]; simp
          refine ⟨i + 1, ka, kn, kc, true, by omega, rfl, rfl, by go_num, ⟨?_, hI.ans.fr hff (by omega), ?_, by rw [hhit]; rfl, hI.ne, hI.bel.trans (hff.below _ hI.bel.size (fun k hk => by omega))⟩⟩
          · rw [hdr]
            exact OwnG.fr hI.own hff (fun k hk hk2 => (hI.ne k hk).2 hk2)
          · rw [hhit]
            show Stc _ _ [.int .u16 (x.m.st : Nat), .int .u16 (x.m.ss : Nat), .int .u32 (x.m.pp : Nat), .bool x.m.fr, .slice x.a x.m.zs.length x.c]
            rw [← hl]
            exact hput
        case measure => simp [intOf]; omega
      · have hkn2 : (x.key == tkey st ss) = false := by
          rw [beq_eq_false_iff_ne]
          intro e
          exact he ((tkey_eq HX.out.2.1.2.1 hss).1 e)
        have HK := (show Hid _ from And.intro hkn2 he)
        have HNE : ∀ V2, (∃ o, V2 = wr.alloc o) → True := fun _ _ => trivial
        clear hI he hkn2 HNE
        have ho := (show Hid _ from HI.out.own)
        have hbs : w.heap.size + 2 < wr.heap.size := HI.out.out.lt
        by_cases he1 : (x.m.st : Int) = (st : Int)
        · have he2 : ¬ (x.m.ss : Int) = (ss : Int) := fun e => HK.out.2 ⟨by omega, by omega⟩
          go_wp2_with (first
            | (at_builtin; refine OwnG.wpl layRy rfl _ _ rfl rfl (ho.out.below ((Below.refl _ _).alloc (Nat.le_refl _) (.cells #[.int .u16 (st : Nat), .int .u16 (x.m.ss : Nat), .int .u32 (x.m.pp : Nat), .bool x.m.fr, .slice x.a l x.c, .int .i64 (x.n : Nat)] 108))) x ⟨wr.heap.size, 0, none⟩ rfl (by have e : x.vals = [.int .u16 (st : Nat), .int .u16 (x.m.ss : Nat), .int .u32 (x.m.pp : Nat), .bool x.m.fr, .slice x.a l x.c, .int .i64 (x.n : Nat)] := (by unfold RyD.vals; rw [← HX.out.2.2, he1]); rw [e]; exact st_add (Stc.new wr _ 108 _ rfl)) (by unfold maxLen; omega) (by omega) (Nat.le_trans HI.out.bel.size (by simp)) ?_; intro g9 c9 w9 ho9 hg9 hl9 hlt9; have H9 := (show Hid _ from And.intro ho9 (And.intro hg9 (And.intro hl9 hlt9))); clear ho9 hg9 hl9 hlt9)
            | fail)
          go_roundw
          case rel => exact ⟨i + 1, _, _, c9, b, by omega, rfl, rfl, by go_num, HI.out.app HX.out.1 HK.out.1 H9.out.1 H9.out.2.1 H9.out.2.2.1⟩
          case measure => simp [intOf]; omega
        · go_wp2_with (first
            | (at_builtin; refine OwnG.wpl layRy rfl _ _ rfl rfl (ho.out.below ((Below.refl _ _).alloc (Nat.le_refl _) (.cells #[.int .u16 (x.m.st : Nat), .int .u16 (x.m.ss : Nat), .int .u32 (x.m.pp : Nat), .bool x.m.fr, .slice x.a l x.c, .int .i64 (x.n : Nat)] 108))) x ⟨wr.heap.size, 0, none⟩ rfl (by have e : x.vals = [.int .u16 (x.m.st : Nat), .int .u16 (x.m.ss : Nat), .int .u32 (x.m.pp : Nat), .bool x.m.fr, .slice x.a l x.c, .int .i64 (x.n : Nat)] := (by unfold RyD.vals; rw [← HX.out.2.2]); rw [e]; exact st_add (Stc.new wr _ 108 _ rfl)) (by unfold maxLen; omega) (by omega) (Nat.le_trans HI.out.bel.size (by simp)) ?_; intro g9 c9 w9 ho9 hg9 hl9 hlt9; have H9 := (show Hid _ from And.intro ho9 (And.intro hg9 (And.intro hl9 hlt9))); clear ho9 hg9 hl9 hlt9)
            | fail)
          go_roundw
          case rel => exact ⟨i + 1, _, _, c9, b, by omega, rfl, rfl, by go_num, HI.out.app HX.out.1 HK.out.1 H9.out.1 H9.out.2.1 H9.out.2.2.1⟩
          case measure => simp [intOf]; omega
    · obtain rfl : i = v := by omega
      have g1 : ¬ (i : Int) < (i : Int) := by omega
      have hI2 := hI
      obtain ⟨hst3, hnd, hv⟩ := HS.out
      have e1 : V.take i = V := List.take_of_length_le (by omega)
      have hsp := hst3.fr (Fr.of_below (P := fun _ => False) hb) (fun e => e)
      have pf := hsp.free 2
      have so := hI.out
      rw [e1] at so
      cases hfy : findY V (tkey st ss) with
      | none =>
        rw [hfy] at so
        have sa := hI.ans
        have ne1 : ¬ p = w.heap.size := by omega
        have ne2 : ¬ p = w.heap.size + 2 := by omega
        have y0 := so.cell 0 _ rfl
        have a0 := sa.cell 0 _ rfl
        have z0 := sa.free 0
        have y1 := so.cell 1 _ rfl
        have a1 := sa.cell 1 _ rfl
        have z1 := sa.free 1
        have y2 := so.cell 2 _ rfl
        have a2 := sa.cell 2 _ rfl
        have z2 := sa.free 2
        have y3 := so.cell 3 _ rfl
        have a3 := sa.cell 3 _ rfl
        have z3 := sa.free 3
        have y4 := so.cell 4 _ rfl
        have a4 := sa.cell 4 _ rfl
        have z4 := sa.free 4
        have HF := (show Hid _ from And.intro hsp (And.intro sa (And.intro hfy e1)))
        clear hI hI2 hst3 hnd hv e1 hsp so hfy sa hb
        go_wp2
        try simp only [Exit.inBlock, Exit.then]
        obtain ⟨hsp, sa, hfy, e1⟩ := HF.out
        have hps := hsp.set 2 (.slice ka kn kc)
        have hfs : Fr (fun k => k = p) wr (wr.setCell ⟨p, 2, none⟩ (.slice ka kn kc)) := Fr.setCell _ _ _ _ rfl
        have hput := (sa.fr hfs (fun e => ne1 e.symm)).put [.int .u16 0, .int .u16 0, .int .u32 0, .bool false, .slice none 0 0] rfl
        have hff := fr_setCellsX w.heap.size [.int .u16 0, .int .u16 0, .int .u32 0, .bool false, .slice none 0 0] 0 (wr.setCell ⟨p, 2, none⟩ (.slice ka kn kc))
        refine bodyPost_ret (results_cellE2 rfl _ _ w.heap.size 0 [.int .u16 0, .int .u16 0, .int .u32 0, .bool false, .slice none 0 0] _ rfl hput.range Try.underlying51 rfl (by kernel_rfl)) rfl ?_
        have hI := HI.out
        have ho := hI.own
        have hbb := hI.b
        rw [e1, hfy] at hbb
        subst hbb
        rw [e1] at ho
        have hl := ho.len
        subst hl
        refine ⟨by rw [hfy]; rfl, ⟨ka, kc, OwnG.fr (OwnG.fr ho hfs (fun k hk hk2 => ?_)) hff (fun k hk hk2 => (hI.ne k hk).1 hk2), hps.fr hff ne1⟩, ?_⟩
        · have := (ho.own.lt k hk).1
          omega
        · exact ((Fr.of_below hI.bel).trans hfs).fresh hff (fun k hk => Nat.le_of_eq hk.symm)
      | some y =>
        rw [hfy] at so
        obtain ⟨l2, hl2⟩ : ∃ l, l = y.m.zs.length := ⟨_, rfl⟩
        have so : Stc wr (w.heap.size + 2) [.int .u16 (y.m.st : Nat), .int .u16 (y.m.ss : Nat), .int .u32 (y.m.pp : Nat), .bool y.m.fr, .slice y.a l2 y.c] := by rw [hl2]; exact so
        have HL2 := (show Hid _ from hl2)
        clear hl2
        have sa := hI.ans
        have ne1 : ¬ p = w.heap.size := by omega
        have ne2 : ¬ p = w.heap.size + 2 := by omega
        have y0 := so.cell 0 _ rfl
        have a0 := sa.cell 0 _ rfl
        have z0 := sa.free 0
        have y1 := so.cell 1 _ rfl
        have a1 := sa.cell 1 _ rfl
        have z1 := sa.free 1
        have y2 := so.cell 2 _ rfl
        have a2 := sa.cell 2 _ rfl
        have z2 := sa.free 2
        have y3 := so.cell 3 _ rfl
        have a3 := sa.cell 3 _ rfl
        have z3 := sa.free 3
        have y4 := so.cell 4 _ rfl
        have a4 := sa.cell 4 _ rfl
        have z4 := sa.free 4
        have HF := (show Hid _ from And.intro hsp (And.intro sa (And.intro hfy e1)))
        clear hI hI2 hst3 hnd hv e1 hsp so hfy sa hb
        go_wp2
        try simp only [Exit.inBlock, Exit.then]
        obtain ⟨hsp, sa, hfy, e1⟩ := HF.out
        have hps := hsp.set 2 (.slice ka kn kc)
        have hfs : Fr (fun k => k = p) wr (wr.setCell ⟨p, 2, none⟩ (.slice ka kn kc)) := Fr.setCell _ _ _ _ rfl
        have hput := (sa.fr hfs (fun e => ne1 e.symm)).put [.int .u16 (y.m.st : Nat), .int .u16 (y.m.ss : Nat), .int .u32 (y.m.pp : Nat), .bool y.m.fr, .slice y.a l2 y.c] rfl
        have hff := fr_setCellsX w.heap.size [.int .u16 (y.m.st : Nat), .int .u16 (y.m.ss : Nat), .int .u32 (y.m.pp : Nat), .bool y.m.fr, .slice y.a l2 y.c] 0 (wr.setCell ⟨p, 2, none⟩ (.slice ka kn kc))
        refine bodyPost_ret (results_cellE2 rfl _ _ w.heap.size 0 [.int .u16 (y.m.st : Nat), .int .u16 (y.m.ss : Nat), .int .u32 (y.m.pp : Nat), .bool y.m.fr, .slice y.a l2 y.c] _ rfl hput.range Try.underlying51 rfl (by kernel_rfl)) rfl ?_
        have hI := HI.out
        have ho := hI.own
        have hbb := hI.b
        rw [e1, hfy] at hbb
        subst hbb
        rw [e1] at ho
        have hl := ho.len
        subst hl
        refine ⟨by rw [hfy]; unfold msgY; dsimp only; rw [← HL2.out]; rfl, ⟨ka, kc, OwnG.fr (OwnG.fr ho hfs (fun k hk hk2 => ?_)) hff (fun k hk hk2 => (hI.ne k hk).1 hk2), hps.fr hff ne1⟩, ?_⟩
        · have := (ho.own.lt k hk).1
          omega
        · exact ((Fr.of_below hI.bel).trans hfs).fresh hff (fun k hk => Nat.le_of_eq hk.symm)
end Go.Proofs.Ytjaheelgcjafcaa
