/- judge: gotNext's two books, whatever the order in which they are fetched and laid. -/
import Derived.Test.YtpdnkbhgobdniaaJd6
import Derived.Test.YtpdnkbhgobdniaaRgI
namespace Go.Proofs.Ytpdnkbhgobdniaa
open Go.RowKit Go.MapKept Go.Maps
def bcl (x : Nat × Nat × Nat) (p : Bp) : List Value := [.map (some x.1), .map (some x.2.1), .map (some x.2.2), .int .i64 p.owed, .bool p.came, .bool p.ended, .bool p.shuts]
def scl (q : Sd) : List Value := [.int .i64 q.1, .int .u32 (q.2.1 : Nat), .int .u32 (q.2.2 : Nat)]
structure Gv where
  w0 : World
  cb : Nat
  n : Nat
  cp : Cp
  q : Sd
  m : Mg
  sb : Nat
  mb : Nat
/-- What is chosen on the way: who owns which block, where the two variables lie, the two books' maps. -/
structure Gx where
  own : Ow
  b7 : Nat
  b8 : Nat
  x : Nat × Nat × Nat
  y : Nat × Nat × Nat
/-- What stands behind operation j. -/
def Fact (v : Gv) (x : Gx) (t : Array Value) (W : World) : Nat → Prop
  | 0 => t.getD 11 undef = .map (some v.cb)
  | 1 => t.getD 12 undef = .agg (scl v.q).toArray
  | 2 => t.getD 13 undef = .agg (scl (oth v.q)).toArray
  | 3 => t.getD 14 undef = .agg (bcl x.x (v.cp (oth v.q))).toArray ∧ BkOk v.w0 W x.own (oth v.q) x.x.1 x.x.2.1 x.x.2.2 (v.cp (oth v.q)) v.n
  | 4 => t.getD 15 undef = .map (some v.cb)
  | 5 => t.getD 16 undef = .agg (scl v.q).toArray
  | 6 => t.getD 17 undef = .agg (bcl x.y (v.cp v.q)).toArray ∧ BkOk v.w0 W x.own v.q x.y.1 x.y.2.1 x.y.2.2 (v.cp v.q) v.n
  | 7 => t.getD 7 undef = .pointer (some ⟨x.b7, 0, none⟩) ∧ v.sb < x.b7 ∧ v.mb < x.b7 ∧ v.cb < x.b7 ∧ x.b7 < W.heap.size ∧ W.there x.b7 0 7
  | 8 => t.getD 8 undef = .pointer (some ⟨x.b8, 0, none⟩) ∧ v.sb < x.b8 ∧ v.mb < x.b8 ∧ v.cb < x.b8 ∧ x.b8 < W.heap.size ∧ W.there x.b8 0 7
  | 9 => W.rangeAt x.b7 0 (bcl x.x (v.cp (oth v.q))) ∧ x.b7 < W.heap.size
  | 10 => W.rangeAt x.b8 0 (bcl x.y (v.cp v.q)) ∧ x.b8 < W.heap.size
  | _ => True
def slotOf : Nat → Nat
  | 0 => 11
  | 1 => 12
  | 2 => 13
  | 3 => 14
  | 4 => 15
  | 5 => 16
  | 6 => 17
  | 7 => 7
  | 8 => 8
  | _ => 1000
theorem Fact.mono {v : Gv} {x x' : Gx} {t t' : Array Value} {W W' : World} {Q : Nat → Prop} (j : Nat) (h : Fact v x t W j) (ht : j ≤ 8 → t'.getD (slotOf j) undef = t.getD (slotOf j) undef) (hf : Fr Q W W') (hth : ∀ b, b < W.heap.size → W.there b 0 7 → W'.there b 0 7)
    (ho : ∀ g o, x.own g = some o → x'.own g = some o) (hno : ∀ g o, x.own g = some o → ¬ Q g) (h7 : j = 7 ∨ j = 9 → x'.b7 = x.b7) (h8 : j = 8 ∨ j = 10 → x'.b8 = x.b8) (hx : j = 3 ∨ j = 9 → x'.x = x.x) (hy : j = 6 ∨ j = 10 → x'.y = x.y) (q7 : j = 9 → ¬ Q x.b7) (q8 : j = 10 → ¬ Q x.b8) : Fact v x' t' W' j := by
  match j, h, ht, h7, h8, hx, hy, q7, q8 with
  | 0, h, ht, _, _, _, _, _, _ => exact (ht (by omega)).trans h
  | 1, h, ht, _, _, _, _, _, _ => exact (ht (by omega)).trans h
  | 2, h, ht, _, _, _, _, _, _ => exact (ht (by omega)).trans h
  | 3, h, ht, _, _, hx, _, _, _ =>
    have e := hx (by omega)
    unfold Fact
    rw [e]
    exact ⟨(ht (by omega)).trans h.1, (h.2.fr hf (fun g i hg => hno g _ hg)).ext ho⟩
  | 4, h, ht, _, _, _, _, _, _ => exact (ht (by omega)).trans h
  | 5, h, ht, _, _, _, _, _, _ => exact (ht (by omega)).trans h
  | 6, h, ht, _, _, _, hy, _, _ =>
    have e := hy (by omega)
    unfold Fact
    rw [e]
    exact ⟨(ht (by omega)).trans h.1, (h.2.fr hf (fun g i hg => hno g _ hg)).ext ho⟩
  | 7, h, ht, h7, _, _, _, _, _ =>
    have e := h7 (by omega)
    unfold Fact
    rw [e]
    exact ⟨(ht (by omega)).trans h.1, h.2.1, h.2.2.1, h.2.2.2.1, Nat.lt_of_lt_of_le h.2.2.2.2.1 hf.size, hth _ h.2.2.2.2.1 h.2.2.2.2.2⟩
  | 8, h, ht, _, h8, _, _, _, _ =>
    have e := h8 (by omega)
    unfold Fact
    rw [e]
    exact ⟨(ht (by omega)).trans h.1, h.2.1, h.2.2.1, h.2.2.2.1, Nat.lt_of_lt_of_le h.2.2.2.2.1 hf.size, hth _ h.2.2.2.2.1 h.2.2.2.2.2⟩
  | 9, h, _, h7, _, hx, _, q7, _ =>
    have e := h7 (by omega)
    have e2 := hx (by omega)
    unfold Fact
    rw [e, e2]
    exact ⟨fun i u hu => (hf.cell ⟨x.b7, 0 + i, none⟩ h.2 (q7 rfl)).trans (h.1 i u hu), Nat.lt_of_lt_of_le h.2 hf.size⟩
  | 10, h, _, _, h8, _, hy, _, q8 =>
    have e := h8 (by omega)
    have e2 := hy (by omega)
    unfold Fact
    rw [e, e2]
    exact ⟨fun i u hu => (hf.cell ⟨x.b8, 0 + i, none⟩ h.2 (q8 rfl)).trans (h.1 i u hu), Nat.lt_of_lt_of_le h.2 hf.size⟩
  | _ + 11, _, _, _, _, _, _, _, _ => trivial
/-- What stands all the while. -/
structure G0 (v : Gv) (F : Array Value) (x : Gx) (L : Nat → Bool) (t : Array Value) (d : Bool) (W : World) : Prop where
  sz : t.size = 56
  df : d = true
  keep : ∀ k, (k ≠ 7 ∧ k ≠ 8 ∧ (k < 11 ∨ 17 < k)) → t.getD k undef = F.getD k undef
  rs : W.rangeAt v.sb 0 (scl v.q)
  rm : W.rangeAt v.mb 0 v.m.cells
  ls : v.sb < W.heap.size
  lm : v.mb < W.heap.size
  ct : Ct v.w0 W v.cb x.own v.n v.cp (fun _ => False)
  no : ∀ g o, x.own g = some o → g ≠ v.sb ∧ g ≠ v.mb ∧ (L 7 = true → g ≠ x.b7) ∧ (L 8 = true → g ≠ x.b8)
  ne : L 7 = true → L 8 = true → x.b7 ≠ x.b8
  d9 : L 9 = true → L 7 = true ∧ L 3 = true
  d10 : L 10 = true → L 8 = true ∧ L 6 = true
def G1 (v : Gv) (F : Array Value) (listed : Array Bool) (a : Act) (W : World) : Prop :=
  ∃ x : Gx, G0 v F x (fun j => listed.getD j false) a.tmps a.defers.isEmpty W ∧ ∀ j, listed.getD j false = true → Fact v x a.tmps W j
/-- An operation that only makes memory: its slot is written; what it makes stands. -/
theorem G1.step {v : Gv} {F : Array Value} {listed : Array Bool} {a : Act} {W W' : World} {x x' : Gx} (i : Nat) (hi : i ≤ 8) (hl : listed.getD i true = false) (u : Value) (h0 : G0 v F x (fun j => listed.getD j false) a.tmps a.defers.isEmpty W) (hF : ∀ j, listed.getD j false = true → Fact v x a.tmps W j)
    (hb : Below W.heap.size W W') (ho : ∀ g o, x.own g = some o → x'.own g = some o) (ho2 : ∀ g o, x'.own g = some o → x.own g = some o ∨ (W.heap.size ≤ g ∧ i ≠ 7 ∧ i ≠ 8)) (hct : Ct v.w0 W' v.cb x'.own v.n v.cp (fun _ => False))
    (e7 : i ≠ 7 → x'.b7 = x.b7) (e8 : i ≠ 8 → x'.b8 = x.b8) (ex : i ≠ 3 → x'.x = x.x) (ey : i ≠ 6 → x'.y = x.y)
    (hn7 : i = 7 → W.heap.size ≤ x'.b7) (hn8 : i = 8 → W.heap.size ≤ x'.b8) (hnew : Fact v x' (a.put (some (slotOf i)) u).tmps W' i) : G1 v F (listed.setIfInBounds i true) (a.put (some (slotOf i)) u) W' := by
  have hfr : Fr (fun _ => False) W W' := Fr.of_below hb
  have hlt7 : listed.getD 7 false = true → x.b7 < W.heap.size := fun h => (hF 7 h).2.2.2.2.1
  have hlt8 : listed.getD 8 false = true → x.b8 < W.heap.size := fun h => (hF 8 h).2.2.2.2.1
  have hno : listed.getD i false = true → False := fun h => by
    rcases Nat.lt_or_ge i listed.size with h1 | h1
    · simp only [Array.getD_eq_getD_getElem?, Array.getElem?_eq_getElem h1, Option.getD_some] at h hl
      rw [h] at hl
      cases hl
    · simp [h1] at hl
  have hup : ∀ j, listed.getD j false = true → (listed.setIfInBounds i true).getD j false = true := fun j hj => by
    by_cases e : j = i
    · exact absurd (e ▸ hj) hno
    · rw [set_other e]; exact hj
  have hsl : 11 ≤ slotOf i ∧ slotOf i ≤ 17 ∨ slotOf i = 7 ∨ slotOf i = 8 := by
    match i, hi with
    | 0, _ | 1, _ | 2, _ | 3, _ | 4, _ | 5, _ | 6, _ | 7, _ | 8, _ => simp [slotOf]
  have hinj : ∀ j, j ≤ 8 → j ≠ i → slotOf j ≠ slotOf i := by
    intro j hj hne
    match i, hi, j, hj with
    | 0, _, 0, _ | 1, _, 1, _ | 2, _, 2, _ | 3, _, 3, _ | 4, _, 4, _ | 5, _, 5, _ | 6, _, 6, _ | 7, _, 7, _ | 8, _, 8, _ => exact absurd rfl hne
    | 0, _, 1, _ | 0, _, 2, _ | 0, _, 3, _ | 0, _, 4, _ | 0, _, 5, _ | 0, _, 6, _ | 0, _, 7, _ | 0, _, 8, _ => simp [slotOf]
    | 1, _, 0, _ | 1, _, 2, _ | 1, _, 3, _ | 1, _, 4, _ | 1, _, 5, _ | 1, _, 6, _ | 1, _, 7, _ | 1, _, 8, _ => simp [slotOf]
    | 2, _, 0, _ | 2, _, 1, _ | 2, _, 3, _ | 2, _, 4, _ | 2, _, 5, _ | 2, _, 6, _ | 2, _, 7, _ | 2, _, 8, _ => simp [slotOf]
    | 3, _, 0, _ | 3, _, 1, _ | 3, _, 2, _ | 3, _, 4, _ | 3, _, 5, _ | 3, _, 6, _ | 3, _, 7, _ | 3, _, 8, _ => simp [slotOf]
    | 4, _, 0, _ | 4, _, 1, _ | 4, _, 2, _ | 4, _, 3, _ | 4, _, 5, _ | 4, _, 6, _ | 4, _, 7, _ | 4, _, 8, _ => simp [slotOf]
    | 5, _, 0, _ | 5, _, 1, _ | 5, _, 2, _ | 5, _, 3, _ | 5, _, 4, _ | 5, _, 6, _ | 5, _, 7, _ | 5, _, 8, _ => simp [slotOf]
    | 6, _, 0, _ | 6, _, 1, _ | 6, _, 2, _ | 6, _, 3, _ | 6, _, 4, _ | 6, _, 5, _ | 6, _, 7, _ | 6, _, 8, _ => simp [slotOf]
    | 7, _, 0, _ | 7, _, 1, _ | 7, _, 2, _ | 7, _, 3, _ | 7, _, 4, _ | 7, _, 5, _ | 7, _, 6, _ | 7, _, 8, _ => simp [slotOf]
    | 8, _, 0, _ | 8, _, 1, _ | 8, _, 2, _ | 8, _, 3, _ | 8, _, 4, _ | 8, _, 5, _ | 8, _, 6, _ | 8, _, 7, _ => simp [slotOf]
  refine ⟨x', ⟨?_, ?_, ?_, ?_, ?_, Nat.lt_of_lt_of_le h0.ls hb.size, Nat.lt_of_lt_of_le h0.lm hb.size, hct, ?_, ?_, ?_, ?_⟩, ?_⟩
  · rw [put_size]; exact h0.sz
  · rw [put_defers]; exact h0.df
  · intro k hk
    rw [put_other _ (by omega)]
    exact h0.keep k hk
  · exact range_below h0.rs hb h0.ls
  · exact range_below h0.rm hb h0.lm
  · intro g o hg
    rcases ho2 g o hg with h1 | ⟨h1, h2, h3⟩
    · have hlt := (h0.ct.ownB g o h1).2.1
      obtain ⟨a1, a2, a3, a4⟩ := h0.no g o h1
      refine ⟨a1, a2, fun hL => ?_, fun hL => ?_⟩
      · by_cases e : i = 7
        · have := hn7 e
          omega
        · rw [set_other (Ne.symm e)] at hL
          rw [e7 e]
          exact a3 hL
      · by_cases e : i = 8
        · have := hn8 e
          omega
        · rw [set_other (Ne.symm e)] at hL
          rw [e8 e]
          exact a4 hL
    · refine ⟨by have := h0.ls; omega, by have := h0.lm; omega, fun hL => ?_, fun hL => ?_⟩
      · rw [set_other (Ne.symm h2)] at hL
        have := hlt7 hL
        rw [e7 h2]
        omega
      · rw [set_other (Ne.symm h3)] at hL
        have := hlt8 hL
        rw [e8 h3]
        omega
  · intro hL7 hL8
    by_cases e : i = 7
    · rw [set_other (by omega)] at hL8
      have := hlt8 hL8
      have := hn7 e
      rw [e8 (by omega)]
      omega
    · rw [set_other (Ne.symm e)] at hL7
      by_cases e2 : i = 8
      · have := hlt7 hL7
        have := hn8 e2
        rw [e7 e]
        omega
      · rw [set_other (Ne.symm e2)] at hL8
        rw [e7 e, e8 e2]
        exact h0.ne hL7 hL8
  · intro hL
    rw [set_other (by omega)] at hL
    exact ⟨hup _ (h0.d9 hL).1, hup _ (h0.d9 hL).2⟩
  · intro hL
    rw [set_other (by omega)] at hL
    exact ⟨hup _ (h0.d10 hL).1, hup _ (h0.d10 hL).2⟩
  · intro j hj
    by_cases e : j = i
    · subst e
      exact hnew
    · rw [set_other e] at hj
      refine Fact.mono j (hF j hj) (fun hj8 => ?_) hfr (fun b hbl hth => there_below hth hb hbl) ho (fun _ _ _ h => h) (fun h => ?_) (fun h => ?_) (fun h => ?_) (fun h => ?_) (fun _ h => h) (fun _ h => h)
      · exact put_other _ (hinj j hj8 e)
      · rcases h with rfl | rfl
        · exact e7 (Ne.symm e)
        · exact e7 (fun e3 => hno (e3 ▸ (h0.d9 hj).1))
      · rcases h with rfl | rfl
        · exact e8 (Ne.symm e)
        · exact e8 (fun e3 => hno (e3 ▸ (h0.d10 hj).1))
      · rcases h with rfl | rfl
        · exact ex (Ne.symm e)
        · exact ex (fun e3 => hno (e3 ▸ (h0.d9 hj).2))
      · rcases h with rfl | rfl
        · exact ey (Ne.symm e)
        · exact ey (fun e3 => hno (e3 ▸ (h0.d10 hj).2))
/-- A variable gets its book. -/
theorem G1.store {v : Gv} {F : Array Value} {listed : Array Bool} {a : Act} {W : World} {x : Gx} (i b : Nat) (cs : List Value) (hi : i = 9 ∧ b = x.b7 ∧ cs = bcl x.x (v.cp (oth v.q)) ∨ i = 10 ∧ b = x.b8 ∧ cs = bcl x.y (v.cp v.q)) (hl : listed.getD i true = false) (h0 : G0 v F x (fun j => listed.getD j false) a.tmps a.defers.isEmpty W) (hF : ∀ j, listed.getD j false = true → Fact v x a.tmps W j)
    (l7 : listed.getD 7 false = true) (l8 : listed.getD 8 false = true) (l3 : listed.getD 3 false = true) (l6 : listed.getD 6 false = true) : G1 v F (listed.setIfInBounds i true) a (W.setCells b 0 cs) := by
  have hno : listed.getD i false = true → False := fun h => by
    rcases Nat.lt_or_ge i listed.size with h1 | h1
    · simp only [Array.getD_eq_getD_getElem?, Array.getElem?_eq_getElem h1, Option.getD_some] at h hl
      rw [h] at hl
      cases hl
    · simp [h1] at hl
  have hup : ∀ j, listed.getD j false = true → (listed.setIfInBounds i true).getD j false = true := fun j hj => by
    by_cases e : j = i
    · exact absurd (e ▸ hj) hno
    · rw [set_other e]; exact hj
  have f7 := hF 7 l7
  have f8 := hF 8 l8
  have hne := h0.ne l7 l8
  have hcl : cs.length = 7 := by rcases hi with ⟨_, _, rfl⟩ | ⟨_, _, rfl⟩ <;> rfl
  have hb : b = x.b7 ∨ b = x.b8 := by rcases hi with ⟨_, h, _⟩ | ⟨_, h, _⟩; exact .inl h; exact .inr h
  have hbs : v.sb < b ∧ v.mb < b ∧ v.cb < b ∧ b < W.heap.size ∧ W.there b 0 7 := by rcases hb with rfl | rfl; exact f7.2; exact f8.2
  have hfr : Fr (· = b) W (W.setCells b 0 cs) := fr_setCells b cs 0 W
  have hown : ∀ g o, x.own g = some o → ¬ g = b := fun g o hg => by
    have := h0.no g o hg
    rcases hb with rfl | rfl
    · exact this.2.2.1 l7
    · exact this.2.2.2 l8
  have hB : v.w0.heap.size ≤ b := by have := h0.ct.cbB; omega
  refine ⟨x, ⟨h0.sz, h0.df, h0.keep, ?_, ?_, Nat.lt_of_lt_of_le h0.ls hfr.size, Nat.lt_of_lt_of_le h0.lm hfr.size, ?_, ?_, ?_, ?_, ?_⟩, ?_⟩
  · exact fun k u hu => (hfr.cell ⟨v.sb, 0 + k, none⟩ h0.ls (by show ¬ v.sb = b; omega)).trans (h0.rs k u hu)
  · exact fun k u hu => (hfr.cell ⟨v.mb, 0 + k, none⟩ h0.lm (by show ¬ v.mb = b; omega)).trans (h0.rm k u hu)
  · exact h0.ct.fr hfr (fun g hg => by rw [hg]; exact hB) (by show ¬ v.cb = b; omega) (fun g q' k hg hQ => absurd hQ (hown g _ hg))
  · intro g o hg
    obtain ⟨a1, a2, a3, a4⟩ := h0.no g o hg
    exact ⟨a1, a2, fun _ => a3 l7, fun _ => a4 l8⟩
  · exact fun _ _ => hne
  · exact fun _ => ⟨hup _ l7, hup _ l3⟩
  · exact fun _ => ⟨hup _ l8, hup _ l6⟩
  · intro j hj
    have hset := World.rangeAt_setCells_same W b 0 cs (by rw [hcl]; exact hbs.2.2.2.2)
    by_cases e : j = i
    · subst e
      rcases hi with ⟨rfl, rfl, rfl⟩ | ⟨rfl, rfl, rfl⟩
      · exact ⟨hset, Nat.lt_of_lt_of_le hbs.2.2.2.1 hfr.size⟩
      · exact ⟨hset, Nat.lt_of_lt_of_le hbs.2.2.2.1 hfr.size⟩
    · rw [set_other e] at hj
      refine Fact.mono j (hF j hj) (fun _ => rfl) hfr (fun g _ hth => World.there_setCells hth b 0 cs) (fun _ _ h => h) (fun g o hg => hown g o hg) (fun _ => rfl) (fun _ => rfl) (fun _ => rfl) (fun _ => rfl) (fun h9 => ?_) (fun h10 => ?_)
      · rcases hi with ⟨h1, _, _⟩ | ⟨_, h1, _⟩
        · omega
        · rw [h1]; exact hne
      · rcases hi with ⟨_, h1, _⟩ | ⟨h1, _, _⟩
        · rw [h1]; exact hne.symm
        · omega
end Go.Proofs.Ytpdnkbhgobdniaa
