/- judge: newBook, of, other, contentOf, isAlike. -/
import Derived.Test.YtpdnkbhgobdniaaJdM
import Derived.Deep.MidRow
namespace Go.Proofs.Ytpdnkbhgobdniaa
open Go.RowKit Go.MapKept Go.Maps
theorem results_cellE {fn : Func} {p : Tmp} {ty : TypeId} (h : fn.results = #[.cell p ty]) (tmps : Array Value) (w : World) (g o : Nat) (cs : List Value) (d : TypeDesc)
    (hp : tmps.getD p undef = .pointer (some ⟨g, o, none⟩)) (hc : w.rangeAt g o cs) (hu : Try.prog.underlying ty = some d) (hd : d.isRow = true) (hi : (Try.prog.info? ty).map (·.size) = some cs.length) :
    (results fn tmps).run Try.prog w = .ok (.agg cs.toArray) w := by
  have hp' : tmps[p]?.getD undef = .pointer (some ⟨g, o, none⟩) := by simpa using hp
  simp [results, h, hp', asAddr, run_loadVar_mid w g o ty cs d hc hu hd hi]
theorem range_new (w : World) (cs : List Value) (T : TypeId) (W : World) (hW : W = w.alloc (.cells cs.toArray T)) : W.rangeAt w.heap.size 0 cs := by
  subst hW
  intro i v h
  rw [Nat.zero_add, World.cell?_alloc_mark]
  simpa using h
theorem range_below {w w' : World} {g o : Nat} {cs : List Value} (h : w.rangeAt g o cs) (hb : Below w.heap.size w w') (hg : g < w.heap.size) : w'.rangeAt g o cs :=
  fun i v hv => (hb.cell (p := ⟨g, o + i, none⟩) hg).trans (h i v hv)
/-- What newBook answers: three new maps. -/
structure NbP (w : World) (e : Ending) (w' : World) : Prop where
  out : ∃ r l t, e = .returned (.agg #[.map (some r), .map (some l), .map (some t), .int .i64 0, .bool false, .bool false, .bool false]) ∧ w.heap.size ≤ r ∧ w.heap.size ≤ l ∧ w.heap.size ≤ t ∧ r ≠ l ∧ r ≠ t ∧ l ≠ t ∧ Mp stV StK w' r 0 (fun _ => none) ∧ Mp cnV CnK w' l 0 (fun _ => none) ∧ Mp stV StK w' t 0 (fun _ => none)
  bel : Below w.heap.size w w'
set_option maxRecDepth 100000 in
set_option maxHeartbeats 1000000 in
theorem newBook_any (w : World) : Calls Try.prog 23 #[] w (NbP w) := by
  have hmm := @run_makeMap Try.prog
  go_enter Try.func23, Try.ntmps23
  go_wp2
  obtain ⟨w1, e1⟩ : ∃ w1, w1 = w.alloc (.cells #[.map (some (w.heap.size + 1)), .map (some (w.heap.size + 1 + 1)), .map (some (w.heap.size + 1 + 1 + 1)), .int .i64 0, .bool false, .bool false, .bool false] 54) := ⟨_, rfl⟩
  rw [← e1]
  have hs1 : w1.heap.size = w.heap.size + 1 := by rw [e1]; simp
  have b1 : Below w.heap.size w w1 := by rw [e1]; exact (Below.refl _ _).alloc (Nat.le_refl _) _
  have r1 : w1.rangeAt w.heap.size 0 [.map (some (w.heap.size + 1)), .map (some (w.heap.size + 1 + 1)), .map (some (w.heap.size + 1 + 1 + 1)), .int .i64 0, .bool false, .bool false, .bool false] := range_new w _ 54 w1 e1
  obtain ⟨w2, e2⟩ : ∃ w2, w2 = w1.alloc (.map #[] 0) := ⟨_, rfl⟩
  obtain ⟨w3, e3⟩ : ∃ w3, w3 = w2.alloc (.map #[] 0) := ⟨_, rfl⟩
  obtain ⟨w4, e4⟩ : ∃ w4, w4 = w3.alloc (.map #[] 0) := ⟨_, rfl⟩
  rw [← e2, ← e3, ← e4]
  have hs2 : w2.heap.size = w.heap.size + 1 + 1 := by rw [e2]; simp [hs1]
  have hs3 : w3.heap.size = w.heap.size + 1 + 1 + 1 := by rw [e3]; simp [hs2]
  have b2 : Below w1.heap.size w1 w2 := by rw [e2]; exact (Below.refl _ _).alloc (Nat.le_refl _) _
  have b3 : Below w2.heap.size w2 w3 := by rw [e3]; exact (Below.refl _ _).alloc (Nat.le_refl _) _
  have b4 : Below w3.heap.size w3 w4 := by rw [e4]; exact (Below.refl _ _).alloc (Nat.le_refl _) _
  have b14 : Below w1.heap.size w1 w4 := b2.trans ((b3.trans (b4.mono (by omega))).mono (by omega))
  have m2 : Mp stV StK w2 (w.heap.size + 1) 0 (fun _ => none) := by rw [← hs1]; exact Mp.made w1 w2 e2
  have m3 : Mp cnV CnK w3 (w.heap.size + 1 + 1) 0 (fun _ => none) := by rw [← hs2]; exact Mp.made w2 w3 e3
  have m4 : Mp stV StK w4 (w.heap.size + 1 + 1 + 1) 0 (fun _ => none) := by rw [← hs3]; exact Mp.made w3 w4 e4
  refine bodyPost_ret (results_cellE rfl _ _ w.heap.size 0 [.map (some (w.heap.size + 1)), .map (some (w.heap.size + 1 + 1)), .map (some (w.heap.size + 1 + 1 + 1)), .int .i64 0, .bool false, .bool false, .bool false] _ rfl (range_below r1 b14 (by omega)) Try.underlying54 rfl (by kernel_rfl)) rfl ?_
  exact ⟨⟨_, _, _, rfl, by omega, by omega, by omega, by omega, by omega, by omega, (m2.below b3).below b4, m3.below b4, m4⟩, b1.trans (b14.mono (by omega))⟩
/-- What c.of answers: the side's book, in three maps (its own, or new ones). -/
structure OfP (w0 : World) (cb : Nat) (own : Ow) (n : Nat) (cp : Cp) (q : Sd) (w : World) (e : Ending) (w' : World) : Prop where
  out : ∃ r l t own', e = .returned (bval r l t (cp q)) ∧ (∀ X, Ct w0 w cb own n cp X → Ct w0 w' cb own' n cp X) ∧ BkOk w0 w' own' q r l t (cp q) n ∧ (∀ g o, own g = some o → own' g = some o) ∧ (∀ g o, own' g = some o → own g = some o ∨ w.heap.size ≤ g)
  bel : Below w.heap.size w w'
theorem bcell {W w1 : World} {B : Nat} (hb : Below B W w1) : (∀ b o, b < B → w1.cell? ⟨b, o, none⟩ = W.cell? ⟨b, o, none⟩) ∧ (∀ b o, b < B → w1.frozen? ⟨b, o, none⟩ = W.frozen? ⟨b, o, none⟩) :=
  ⟨fun b o h => hb.cell (p := ⟨b, o, none⟩) h, fun b o h => hb.frozen (p := ⟨b, o, none⟩) h⟩
theorem fr_setCells (b : Nat) : ∀ (vs : List Value) (o : Nat) (w : World), Fr (· = b) w (w.setCells b o vs)
  | [], _, w => Fr.refl _ w
  | v :: vs, o, w => (Fr.setCell (· = b) w ⟨b, o, none⟩ v rfl).trans (fr_setCells b vs (o + 1) _)
theorem there_new (w : World) (cs : List Value) (T : TypeId) (W : World) (hW : W = w.alloc (.cells cs.toArray T)) : W.there w.heap.size 0 cs.length := by
  intro j hj
  refine ⟨(range_new w cs T W hW).isSome j hj, ?_⟩
  subst hW
  have hh : (w.alloc (.cells cs.toArray T)).heap[w.heap.size]? = some (.cells cs.toArray T) := by
    show (w.heap.push _)[w.heap.size]? = _
    simp
  unfold World.frozen?
  dsimp only
  rw [hh]
  simp
theorem there_below {w w' : World} {g o n : Nat} (h : w.there g o n) (hb : Below w.heap.size w w') (hg : g < w.heap.size) : w'.there g o n :=
  fun j hj => ⟨by rw [hb.cell (p := ⟨g, o + j, none⟩) hg]; exact (h j hj).1, by rw [hb.frozen (p := ⟨g, o + j, none⟩) hg]; exact (h j hj).2⟩
theorem book_size : (Try.prog.info? 54).map (·.size) = some 7 := by kernel_rfl
theorem bk_empty {w0 w : World} {own : Ow} {q : Sd} {r l t : Nat} (hr : own r = some (q, 0)) (hl : own l = some (q, 1)) (ht : own t = some (q, 2)) (m1 : Mp stV StK w r 0 (fun _ => none)) (m2 : Mp cnV CnK w l 0 (fun _ => none)) (m3 : Mp stV StK w t 0 (fun _ => none)) (n : Nat) : BkOk w0 w own q r l t Bp.empty n :=
  ⟨hr, hl, ht, ⟨_, m1.mono (Nat.zero_le _), fun s _ => ⟨none, 0, 0, rfl, OwnG.nil _ _, fun g hg => by simp [Value.ownBlock] at hg⟩⟩, ⟨_, m2.mono (Nat.zero_le _), fun _ _ => rfl⟩, ⟨_, m3.mono (Nat.zero_le _), fun _ _ => rfl⟩, fun s m hm => by simp [Bp.empty] at hm, fun s => by simp [Bp.empty], fun k => by simp [Bp.empty], fun s => by simp [Bp.empty], by simp [Bp.empty]⟩
set_option maxRecDepth 100000 in
set_option maxHeartbeats 2000000 in
theorem of_any (w0 : World) (cb : Nat) (own : Ow) (n : Nat) (cp : Cp) (X : Sd → Prop) (q : Sd) (w : World) (h : Ct w0 w cb own n cp X) (hk : SdK q) (hx : ¬ X q) (v : Value) (hv : v = sdV q) :
    Calls Try.prog 20 #[.map (some cb), v] w (OfP w0 cb own n cp q w) := by
  subst hv
  obtain ⟨g, hm, hg⟩ := h.ex
  have hlt := hm.lt
  have hb : Below w.heap.size w ((w.alloc (.cells #[.int .i64 q.1, .int .u32 (q.2.1 : Nat), .int .u32 (q.2.2 : Nat)] 57)).alloc (.cells #[.map none, .map none, .map none, .int .i64 0, .bool false, .bool false, .bool false] 54)) :=
    ((Below.refl _ _).alloc (Nat.le_refl _) _).alloc (by simp) _
  have hlk := (hm.below hb).look sdKE true Try.underlying48 (zero_book _) hk
  rw [if_pos rfl] at hlk
  unfold sdV at hlk ⊢
  rcases hg q hk hx with ⟨hg1, hg2⟩ | ⟨r, l, t, hg1, hbk⟩
  · rw [hg1] at hlk
    simp only [Option.getD_none, Option.isSome_none] at hlk
    clear hm hb hg1
    have HH := (show Hid _ from And.intro h hg2)
    clear h hg hg2
    go_enter Try.func20, Try.ntmps20
    have HTH : Hid (∀ W, Below (w.heap.size + 1 + 1 + 1) (((w.alloc (.cells #[.int .i64 q.1, .int .u32 (q.2.1 : Nat), .int .u32 (q.2.2 : Nat)] 57)).alloc (.cells #[.map none, .map none, .map none, .int .i64 0, .bool false, .bool false, .bool false] 54)).alloc (.cells #[.map none, .map none, .map none, .int .i64 0, .bool false, .bool false, .bool false] 54)) W → W.there (w.heap.size + 1) 0 7 ∧ Below w.heap.size w W ∧ w.heap.size + 1 + 1 + 1 ≤ W.heap.size) := by
      intro W hW
      obtain ⟨w1, e1⟩ : ∃ w1, w1 = w.alloc (.cells #[.int .i64 q.1, .int .u32 (q.2.1 : Nat), .int .u32 (q.2.2 : Nat)] 57) := ⟨_, rfl⟩
      rw [← e1] at hW
      obtain ⟨w2, e2⟩ : ∃ w2, w2 = w1.alloc (.cells #[.map none, .map none, .map none, .int .i64 0, .bool false, .bool false, .bool false] 54) := ⟨_, rfl⟩
      rw [← e2] at hW
      have hs1 : w1.heap.size = w.heap.size + 1 := by rw [e1]; simp
      have hs2 : w2.heap.size = w.heap.size + 1 + 1 := by rw [e2]; simp [hs1]
      have b1 : Below w.heap.size w w1 := by rw [e1]; exact (Below.refl _ _).alloc (Nat.le_refl _) _
      have b2 : Below w1.heap.size w1 w2 := by rw [e2]; exact (Below.refl _ _).alloc (Nat.le_refl _) _
      have b3 : Below w2.heap.size w2 W := ((Below.refl _ _).alloc (Nat.le_refl _) _).trans (hW.mono (by omega))
      have t2 := there_new w1 _ 54 w2 e2
      rw [hs1] at t2
      refine ⟨there_below t2 b3 (by omega), b1.trans ((b2.trans (b3.mono (by omega))).mono (by omega)), ?_⟩
      have := hW.size
      simp [hs2] at this
      omega
    go_wp2_with (first
      | (go_at_call 23; refine (newBook_any _).mono ?_; rintro e w2 ⟨⟨r, l, t, he, hr0, hl0, ht0, hrl, hrt, hlt2, m1, m2, m3⟩, hb2⟩; obtain ⟨cs, HCS⟩ : ∃ cs : List Value, Hid (cs = [.map (some r), .map (some l), .map (some t), .int .i64 0, .bool false, .bool false, .bool false]) := ⟨_, rfl⟩; obtain rfl : e = .returned (.agg cs.toArray) := (by rw [HCS.out]; exact he); clear he; have HN := (show Hid _ from And.intro (And.intro hr0 (And.intro hl0 ht0)) (And.intro (And.intro hrl (And.intro hrt hlt2)) (And.intro (And.intro m1 (And.intro m2 m3)) hb2))); simp at hb2; have hth := (HTH.out _ hb2).1; have hsz7 : cs.toArray.size = 7 := (by rw [HCS.out]; rfl); rw [← hsz7] at hth; have hi7 := book_size; rw [← hsz7] at hi7; have hone : ∀ v ∈ cs, v.oneCell' = true := (by rw [HCS.out]; simp [Value.oneCell']); clear hsz7 hr0 hl0 ht0 hrl hrt hlt2 m1 m2 m3 hb2)
      | (refine wpList_store_mid rfl 54 _ _ rfl (w.heap.size + 1) 0 cs.toArray rfl rfl hth hi7 (all_oneCell_toArray hone) ?_)
      | fail)
    try simp only [Exit.inBlock, Exit.then]
    obtain ⟨⟨hr0, hl0, ht0⟩, ⟨hrl, hrt, hlt2⟩, ⟨m1, m2, m3⟩, hb2⟩ := HN.out
    simp at hb2 hr0 hl0 ht0
    clear hth hi7 hone
    obtain ⟨hth, hbw, hsz⟩ := HTH.out _ hb2
    obtain rfl := HCS.out
    have hfr := fr_setCells (w.heap.size + 1) [.map (some r), .map (some l), .map (some t), .int .i64 0, .bool false, .bool false, .bool false] 0 w2
    refine bodyPost_ret (results_cellE rfl _ _ (w.heap.size + 1) 0 [.map (some r), .map (some l), .map (some t), .int .i64 0, .bool false, .bool false, .bool false] _ rfl (World.rangeAt_setCells_same _ _ _ _ hth) Try.underlying54 rfl (by kernel_rfl)) rfl ?_
    obtain ⟨h, hemp⟩ := HH.out
    have n1 := m1.fr hfr (by omega)
    have n2 := m2.fr hfr (by omega)
    have n3 := m3.fr hfr (by omega)
    have hbel := hbw.trans (hfr.below w.heap.size hbw.size (fun k hk => by omega))
    refine ⟨⟨r, l, t, fun g => if g = r then some (q, 0) else if g = l then some (q, 1) else if g = t then some (q, 2) else own g, ?_, fun X' hX => ?_, ?_, ?_, ?_⟩, hbel⟩
    · rw [hemp]; rfl
    · have hnew : ∀ g o, own g = some o → g < w.heap.size := fun g o ho => (hX.ownB g o ho).2.1
      refine (hX.below hbel).ext (fun g o ho => ?_) (fun g o ho => ?_)
      · have := hnew g o ho
        rw [if_neg (by omega), if_neg (by omega), if_neg (by omega)]
        exact ho
      · have h1 := hX.bel.size
        have h2 := hbel.size
        have h3 := hX.lt
        by_cases g1 : g = r
        · subst g1; exact ⟨by omega, n1.lt, by omega⟩
        · by_cases g2 : g = l
          · subst g2; exact ⟨by omega, n2.lt, by omega⟩
          · by_cases g3 : g = t
            · subst g3; exact ⟨by omega, n3.lt, by omega⟩
            · rw [if_neg g1, if_neg g2, if_neg g3] at ho
              have := hX.ownB g o ho
              exact ⟨this.1, by omega, this.2.2⟩
    · rw [hemp]
      exact bk_empty (by simp) (by simp [hrl.symm]) (by simp [hrt.symm, hlt2.symm]) n1 n2 n3 n
    · intro g o ho
      have := (h.ownB g o ho).2.1
      dsimp only
      rw [if_neg (by omega), if_neg (by omega), if_neg (by omega)]
      exact ho
    · intro g o ho
      by_cases g1 : g = r
      · exact .inr (by omega)
      · by_cases g2 : g = l
        · exact .inr (by omega)
        · by_cases g3 : g = t
          · exact .inr (by omega)
          · dsimp only at ho
            rw [if_neg g1, if_neg g2, if_neg g3] at ho
            exact .inl ho
  · rw [hg1] at hlk
    simp only [Option.getD_some, Option.isSome_some] at hlk
    unfold bval at hlk
    clear hm hb hg1
    have HH := (show Hid _ from And.intro h hbk)
    clear h hg hbk
    go_enter Try.func20, Try.ntmps20
    go_wp2
    obtain ⟨h, hbk⟩ := HH.out
    have hbel : ∀ W, W = ((w.alloc (.cells #[.int .i64 q.1, .int .u32 (q.2.1 : Nat), .int .u32 (q.2.2 : Nat)] 57)).alloc (.cells #[.map (some r), .map (some l), .map (some t), .int .i64 (cp q).owed, .bool (cp q).came, .bool (cp q).ended, .bool (cp q).shuts] 54)).alloc (.cells #[.map (some r), .map (some l), .map (some t), .int .i64 (cp q).owed, .bool (cp q).came, .bool (cp q).ended, .bool (cp q).shuts] 54) → Below w.heap.size w W ∧ W.rangeAt (w.heap.size + 1) 0 [.map (some r), .map (some l), .map (some t), .int .i64 (cp q).owed, .bool (cp q).came, .bool (cp q).ended, .bool (cp q).shuts] := by
      intro W hW
      subst hW
      refine ⟨(((Below.refl _ _).alloc (Nat.le_refl _) _).alloc (by simp) _).alloc (by simp; omega) _, ?_⟩
      refine World.rangeAt_alloc ?_ _
      have := range_new (w.alloc (.cells #[.int .i64 q.1, .int .u32 (q.2.1 : Nat), .int .u32 (q.2.2 : Nat)] 57)) [.map (some r), .map (some l), .map (some t), .int .i64 (cp q).owed, .bool (cp q).came, .bool (cp q).ended, .bool (cp q).shuts] 54 _ rfl
      simpa using this
    refine bodyPost_ret (results_cellE rfl _ _ (w.heap.size + 1) 0 [.map (some r), .map (some l), .map (some t), .int .i64 (cp q).owed, .bool (cp q).came, .bool (cp q).ended, .bool (cp q).shuts] _ rfl (hbel _ rfl).2 Try.underlying54 rfl (by kernel_rfl)) rfl ?_
    have hb := (hbel _ rfl).1
    exact ⟨⟨r, l, t, own, rfl, fun X' hX => hX.below hb, hbk.below hb, fun _ _ h => h, fun _ _ h => .inl h⟩, hb⟩
theorem oth_K (q : Sd) (h : SdK q) (h0 : q.1 = 0 ∨ q.1 = 1) : SdK (oth q) := by
  refine ⟨?_, h.2.2, h.2.1⟩
  show (Lit.int .i64 (1 - q.1)).wf = true
  rcases h0 with h0 | h0 <;> rw [h0] <;> rfl
theorem oth_ne (q : Sd) : oth q ≠ q := fun e => by
  have := congrArg Prod.fst e
  simp [oth] at this
  omega
set_option maxRecDepth 100000 in
set_option maxHeartbeats 1000000 in
theorem other_any (q : Sd) (w : World) (h0 : q.1 = 0 ∨ q.1 = 1) (v : Value) (hv : v = sdV q) : Calls Try.prog 30 #[v] w fun e w' => e = .returned (sdV (oth q)) ∧ Below w.heap.size w w' := by
  subst hv
  have k1 : (0 : Int) ≤ q.1 := by omega
  have k2 : q.1 ≤ 1 := by omega
  clear h0
  unfold sdV
  go_enter Try.func30, Try.ntmps30
  go_wp2
  have hr : ∀ W, W = (w.alloc (.cells #[.int .i64 q.1, .int .u32 (q.2.1 : Nat), .int .u32 (q.2.2 : Nat)] 57)).alloc (.cells #[.int .i64 (1 - q.1), .int .u32 (q.2.2 : Nat), .int .u32 (q.2.1 : Nat)] 57) → W.rangeAt (w.heap.size + 1) 0 [.int .i64 (1 - q.1), .int .u32 (q.2.2 : Nat), .int .u32 (q.2.1 : Nat)] := by
    intro W hW
    subst hW
    have := range_new (w.alloc (.cells #[.int .i64 q.1, .int .u32 (q.2.1 : Nat), .int .u32 (q.2.2 : Nat)] 57)) [.int .i64 (1 - q.1), .int .u32 (q.2.2 : Nat), .int .u32 (q.2.1 : Nat)] 57 _ rfl
    simpa using this
  refine bodyPost_ret (results_cellE rfl _ _ (w.heap.size + 1) 0 [.int .i64 (1 - q.1), .int .u32 (q.2.2 : Nat), .int .u32 (q.2.1 : Nat)] _ rfl (hr _ rfl) Try.underlying57 rfl (by kernel_rfl)) rfl ?_
  exact ⟨rfl, ((Below.refl _ _).alloc (Nat.le_refl _) _).alloc (by simp) _⟩
set_option maxRecDepth 100000 in
set_option maxHeartbeats 1000000 in
theorem content_any (m : Mg) (w : World) (h : m.Ok w) (v : Value) (hv : v = .agg m.cells.toArray) : Calls Try.prog 29 #[v] w fun e w' => e = .returned (cnV m.cn) ∧ Below w.heap.size w w' := by
  subst hv
  have hcv := conv_str (h.sl.below (w' := (w.alloc (.cells #[.int .u16 (m.st : Nat), .int .u16 (m.ssn : Nat), .int .u32 (m.pp : Nat), .bool m.free, .slice m.a m.n m.c] 41)).alloc (.cells #[.int .u16 0, .int .u32 0, .string ⟨#[]⟩] 67)) (((Below.refl _ _).alloc (Nat.le_refl _) _).alloc (by simp) _))
  clear h
  unfold cnV Mg.cells Mg.cn
  go_enter Try.func29, Try.ntmps29
  go_wp2
  have hr : ∀ W, W = (w.alloc (.cells #[.int .u16 (m.st : Nat), .int .u16 (m.ssn : Nat), .int .u32 (m.pp : Nat), .bool m.free, .slice m.a m.n m.c] 41)).alloc (.cells #[.int .u16 (m.st : Nat), .int .u32 (m.pp : Nat), .string (strOf m.zs)] 67) → W.rangeAt (w.heap.size + 1) 0 [.int .u16 (m.st : Nat), .int .u32 (m.pp : Nat), .string (strOf m.zs)] := by
    intro W hW
    subst hW
    have := range_new (w.alloc (.cells #[.int .u16 (m.st : Nat), .int .u16 (m.ssn : Nat), .int .u32 (m.pp : Nat), .bool m.free, .slice m.a m.n m.c] 41)) [.int .u16 (m.st : Nat), .int .u32 (m.pp : Nat), .string (strOf m.zs)] 67 _ rfl
    simpa using this
  refine bodyPost_ret (results_cellE rfl _ _ (w.heap.size + 1) 0 [.int .u16 (m.st : Nat), .int .u32 (m.pp : Nat), .string (strOf m.zs)] _ rfl (hr _ rfl) Try.underlying67 rfl (by kernel_rfl)) rfl ?_
  exact ⟨rfl, ((Below.refl _ _).alloc (Nat.le_refl _) _).alloc (by simp) _⟩
theorem strOf_beq {A B : List Nat} (hA : ∀ i, A.getD i 0 < 256) (hB : ∀ i, B.getD i 0 < 256) : ((strOf A).toList == (strOf B).toList) = decide (A = B) := by
  by_cases h : A = B
  · subst h; simp
  · rw [decide_eq_false h]
    cases e : ((strOf A).toList == (strOf B).toList) with
    | false => rfl
    | true =>
      refine absurd (strOf_inj hA hB ?_) h
      have h1 : (strOf A).toList = (strOf B).toList := by simpa using e
      have h2 := congrArg List.toArray h1
      have e1 : ∀ zs, (strOf zs).toList = zs.map UInt8.ofNat := fun zs => by
        rw [ByteArray.toList_eq]
        simp [strOf]
      rw [e1, e1] at h1
      unfold strOf
      rw [h1]
set_option maxHeartbeats 1000000 in
theorem equal_any (a : Option Addr) (n c : Nat) (zs : List Nat) (b : Option Addr) (m k : Nat) (ys : List Nat) (w : World) (h1 : Sl w a n c zs) (h2 : Sl w b m k ys) :
    Calls Try.prog 32 #[.slice a n c, .slice b m k] w fun e w' => e = .returned (.bool (decide (zs = ys))) ∧ w' = w := by
  have c1 := conv_str h1
  have c2 := conv_str h2
  have HB : Hid _ := strOf_beq h1.bnd h2.bnd
  clear h1 h2
  go_enter Try.func32, Try.ntmps32
  go_wp2
  go_ret
  rw [HB.out]
  exact ⟨rfl, rfl⟩
set_option maxRecDepth 100000 in
set_option maxHeartbeats 1000000 in
theorem isAlike_any (y m : Mg) (w : World) (hy : y.Ok w) (hm : m.Ok w) (v u : Value) (hv : v = .agg y.cells.toArray) (hu : u = .agg m.cells.toArray) : Calls Try.prog 31 #[v, u] w fun e w' => e = .returned (.bool (alikeJ y m)) ∧ Below w.heap.size w w' := by
  subst hv hu
  have H1 : Hid (∀ W, Below w.heap.size w W → y.Ok W ∧ m.Ok W) := fun W hW => ⟨hy.below hW, hm.below hW⟩
  clear hy hm
  unfold Mg.cells alikeJ
  by_cases hp : y.pp = m.pp
  · have hp1 : ((y.pp : Nat) : Int) = ((m.pp : Nat) : Int) := by omega
    go_enter Try.func31, Try.ntmps31
    go_wp2_with (first | (go_at_call 32; refine (equal_any _ _ _ y.zs _ _ _ m.zs _ (H1.out _ (((Below.refl _ _).alloc (Nat.le_refl _) _).alloc (by simp) _)).1.sl (H1.out _ (((Below.refl _ _).alloc (Nat.le_refl _) _).alloc (by simp) _)).2.sl).mono ?_; rintro e w' ⟨rfl, rfl⟩) | fail)
    go_ret
    exact ⟨by simp [hp], ((Below.refl _ _).alloc (Nat.le_refl _) _).alloc (by simp) _⟩
  · have hp1 : ¬ ((y.pp : Nat) : Int) = ((m.pp : Nat) : Int) := by omega
    go_enter Try.func31, Try.ntmps31
    go_wp2
    go_ret
    exact ⟨by simp [hp], ((Below.refl _ _).alloc (Nat.le_refl _) _).alloc (by simp) _⟩
end Go.Proofs.Ytpdnkbhgobdniaa
