/- judge: gotNext. -/
import Derived.Test.YtpdnkbhgobdniaaJd7
namespace Go.Proofs.Ytpdnkbhgobdniaa
open Go.RowKit Go.MapKept Go.Maps
theorem side_size : (Try.prog.info? 57).map (·.size) = some 3 := by kernel_rfl
theorem fn_of : ∃ fn, Try.prog.funcs[20]? = some fn ∧ (fn.name == "runtime.NumGoroutine") = false ∧ fn.body.isNone = false := ⟨_, Try.func20, by kernel_rfl, by kernel_rfl⟩
theorem fn_other : ∃ fn, Try.prog.funcs[30]? = some fn ∧ (fn.name == "runtime.NumGoroutine") = false ∧ fn.body.isNone = false := ⟨_, Try.func30, by kernel_rfl, by kernel_rfl⟩
theorem mixed : Try.prog.follows .mixedOrders = true := by kernel_rfl
/-- The side and two books in their boxes. -/
structure H3 (sb b7 b8 : Nat) (sc c7 c8 : List Value) (W : World) : Prop where
  s : W.rangeAt sb 0 sc
  b : W.rangeAt b7 0 c7
  d : W.rangeAt b8 0 c8
  ls : sb < W.heap.size
  lb : b7 < W.heap.size
  ld : b8 < W.heap.size
theorem H3.fr {sb b7 b8 : Nat} {sc c7 c8 : List Value} {W W' : World} {Q : Nat → Prop} (h : H3 sb b7 b8 sc c7 c8 W) (hf : Fr Q W W') (h1 : ¬ Q sb) (h2 : ¬ Q b7) (h3 : ¬ Q b8) : H3 sb b7 b8 sc c7 c8 W' :=
  ⟨fun i v hv => (hf.cell ⟨sb, 0 + i, none⟩ h.ls h1).trans (h.s i v hv), fun i v hv => (hf.cell ⟨b7, 0 + i, none⟩ h.lb h2).trans (h.b i v hv), fun i v hv => (hf.cell ⟨b8, 0 + i, none⟩ h.ld h3).trans (h.d i v hv), Nat.lt_of_lt_of_le h.ls hf.size, Nat.lt_of_lt_of_le h.lb hf.size, Nat.lt_of_lt_of_le h.ld hf.size⟩
theorem H3.below {sb b7 b8 : Nat} {sc c7 c8 : List Value} {W W' : World} (h : H3 sb b7 b8 sc c7 c8 W) (hb : Below W.heap.size W W') : H3 sb b7 b8 sc c7 c8 W' :=
  h.fr (Fr.of_below (P := fun _ => False) hb) (fun h => h) (fun h => h) (fun h => h)
theorem H3.all {sb b7 b8 : Nat} {a0 a1 a2 b0 b1 b2 b3 b4 b5 b6 d0 d1 d2 d3 d4 d5 d6 : Value} {W : World} (h : H3 sb b7 b8 [a0, a1, a2] [b0, b1, b2, b3, b4, b5, b6] [d0, d1, d2, d3, d4, d5, d6] W) :
    W.cell? ⟨sb, 0, none⟩ = some a0 ∧ W.cell? ⟨sb, 1, none⟩ = some a1 ∧ W.cell? ⟨sb, 2, none⟩ = some a2 ∧ W.cell? ⟨b7, 0, none⟩ = some b0 ∧ W.cell? ⟨b7, 1, none⟩ = some b1 ∧ W.cell? ⟨b7, 2, none⟩ = some b2 ∧ W.cell? ⟨b7, 3, none⟩ = some b3 ∧ W.cell? ⟨b7, 4, none⟩ = some b4 ∧ W.cell? ⟨b7, 5, none⟩ = some b5 ∧ W.cell? ⟨b7, 6, none⟩ = some b6 ∧ W.cell? ⟨b8, 0, none⟩ = some d0 ∧ W.cell? ⟨b8, 1, none⟩ = some d1 ∧ W.cell? ⟨b8, 2, none⟩ = some d2 ∧ W.cell? ⟨b8, 3, none⟩ = some d3 ∧ W.cell? ⟨b8, 4, none⟩ = some d4 ∧ W.cell? ⟨b8, 5, none⟩ = some d5 ∧ W.cell? ⟨b8, 6, none⟩ = some d6 ∧ H3 sb b7 b8 [a0, a1, a2] [b0, b1, b2, b3, b4, b5, b6] [d0, d1, d2, d3, d4, d5, d6] W :=
  ⟨h.s 0 _ rfl, h.s 1 _ rfl, h.s 2 _ rfl, h.b 0 _ rfl, h.b 1 _ rfl, h.b 2 _ rfl, h.b 3 _ rfl, h.b 4 _ rfl, h.b 5 _ rfl, h.b 6 _ rfl, h.d 0 _ rfl, h.d 1 _ rfl, h.d 2 _ rfl, h.d 3 _ rfl, h.d 4 _ rfl, h.d 5 _ rfl, h.d 6 _ rfl, h⟩
theorem H3.setOwed {sb b7 b8 : Nat} {sc c8 : List Value} {b0 b1 b2 b3 b4 b5 b6 : Value} {W : World} (h : H3 sb b7 b8 sc [b0, b1, b2, b3, b4, b5, b6] c8 W) (h1 : sb ≠ b7) (h2 : b8 ≠ b7) (v : Value) : H3 sb b7 b8 sc [b0, b1, b2, v, b4, b5, b6] c8 (W.setCell ⟨b7, 3, none⟩ v) := by
  have hfs := Fr.setCell (· = b7) W ⟨b7, 3, none⟩ v rfl
  refine ⟨fun i u hu => (hfs.cell ⟨sb, 0 + i, none⟩ h.ls h1).trans (h.s i u hu), fun i u hu => ?_, fun i u hu => (hfs.cell ⟨b8, 0 + i, none⟩ h.ld h2).trans (h.d i u hu), Nat.lt_of_lt_of_le h.ls hfs.size, Nat.lt_of_lt_of_le h.lb hfs.size, Nat.lt_of_lt_of_le h.ld hfs.size⟩
  rw [Nat.zero_add]
  by_cases e : i = 3
  · subst e
    obtain rfl : v = u := by simpa using hu
    have := h.b 3 _ rfl
    rw [Nat.zero_add] at this
    exact World.cell?_setCell_same' _ _ _ (by rw [this]; rfl)
  · rw [World.cell?_setCell_other _ _ _ _ (by intro e2; injection e2 with _ e3; exact e e3.symm)]
    have hu2 : [b0, b1, b2, b3, b4, b5, b6][i]? = some u := by
      match i, hu with
      | 0, hu | 1, hu | 2, hu | 4, hu | 5, hu | 6, hu => exact hu
      | 3, _ => omega
      | _ + 7, hu => simp at hu
    have := h.b i u hu2
    rwa [Nat.zero_add] at this
/-- Where gotNext stands when both books are there. -/
structure GnS (w0 : World) (cb : Nat) (own : Ow) (n : Nat) (cp : Cp) (q : Sd) (st ssn pp : Nat) (a : Option Addr) (nn c : Nat) (zs : List Nat) (sb mb b7 b8 rf lf tf rt lt tt : Nat) (W : World) : Prop where
  ct : Ct w0 W cb own n cp (fun _ => False)
  f : BkOk w0 W own (oth q) rf lf tf (cp (oth q)) n
  t : BkOk w0 W own q rt lt tt (cp q) n
  rs : W.rangeAt sb 0 [.int .i64 q.1, .int .u32 (q.2.1 : Nat), .int .u32 (q.2.2 : Nat)]
  rm : W.rangeAt mb 0 [.int .u16 (st : Nat), .int .u16 (ssn : Nat), .int .u32 (pp : Nat), .bool false, .slice a nn c]
  r7 : W.rangeAt b7 0 [.map (some rf), .map (some lf), .map (some tf), .int .i64 (cp (oth q)).owed, .bool (cp (oth q)).came, .bool (cp (oth q)).ended, .bool (cp (oth q)).shuts]
  r8 : W.rangeAt b8 0 [.map (some rt), .map (some lt), .map (some tt), .int .i64 (cp q).owed, .bool (cp q).came, .bool (cp q).ended, .bool (cp q).shuts]
  ls : sb < W.heap.size
  lm : mb < W.heap.size
  l7 : b7 < W.heap.size
  l8 : b8 < W.heap.size
  t7 : W.there b7 0 7
  no : ∀ g o, own g = some o → g ≠ sb ∧ g ≠ mb ∧ g ≠ b7 ∧ g ≠ b8
  ne : b7 ≠ b8
  o7 : sb < b7 ∧ mb < b7 ∧ cb < b7
  o8 : sb < b8 ∧ mb < b8 ∧ cb < b8
theorem GnS.below {w0 : World} {cb : Nat} {own : Ow} {n : Nat} {cp : Cp} {q : Sd} {st ssn pp : Nat} {a : Option Addr} {nn c : Nat} {zs : List Nat} {sb mb b7 b8 rf lf tf rt lt tt : Nat} {W W' : World} (h : GnS w0 cb own n cp q st ssn pp a nn c zs sb mb b7 b8 rf lf tf rt lt tt W) (hb : Below W.heap.size W W') : GnS w0 cb own n cp q st ssn pp a nn c zs sb mb b7 b8 rf lf tf rt lt tt W' :=
  ⟨h.ct.below hb, h.f.below hb, h.t.below hb, range_below h.rs hb h.ls, range_below h.rm hb h.lm, range_below h.r7 hb h.l7, range_below h.r8 hb h.l8, Nat.lt_of_lt_of_le h.ls hb.size, Nat.lt_of_lt_of_le h.lm hb.size, Nat.lt_of_lt_of_le h.l7 hb.size, Nat.lt_of_lt_of_le h.l8 hb.size, there_below h.t7 hb h.l7, h.no, h.ne, h.o7, h.o8⟩
/-- What its second statement reads. -/
theorem GnS.all2 {w0 : World} {cb : Nat} {own : Ow} {n : Nat} {cp : Cp} {q : Sd} {st ssn pp : Nat} {a : Option Addr} {nn c : Nat} {zs : List Nat} {sb mb b7 b8 rf lf tf rt lt tt : Nat} {W : World} (h : GnS w0 cb own n cp q st ssn pp a nn c zs sb mb b7 b8 rf lf tf rt lt tt W) {ra : Option Addr} {rm rc k : Nat} (hl : ∀ V, V.heap[rf]? = W.heap[rf]? → (Instr.lookup 50 (.map (some rf)) (stV st) false).run Try.prog V = .ok (.slice ra rm rc) V) (hk : (cp q).told st = (k : Int)) (hs : StK st) :
    W.cell? ⟨b7, 0, none⟩ = some (.map (some rf)) ∧ W.cell? ⟨b8, 2, none⟩ = some (.map (some tt)) ∧ W.cell? ⟨mb, 0, none⟩ = some (.int .u16 (st : Nat)) ∧ (Instr.lookup 50 (.map (some rf)) (.int .u16 (st : Nat)) false).run Try.prog W = .ok (.slice ra rm rc) W ∧ (Instr.lookup 52 (.map (some tt)) (.int .u16 (st : Nat)) false).run Try.prog W = .ok (.int .i64 (k : Int)) W := by
  have h1 := (h.t.tell st hs 0 (by omega)).1
  rw [hk] at h1
  exact ⟨h.r7 0 _ rfl, h.r8 2 _ rfl, h.rm 0 _ rfl, hl W rfl, h1⟩
set_option maxRecDepth 100000 in
set_option maxHeartbeats 8000000 in
theorem gotNext_any (w0 : World) (cb : Nat) (own : Ow) (n : Nat) (cp : Cp) (q : Sd) (st ssn pp : Nat) (a : Option Addr) (nn c : Nat) (zs : List Nat) (w : World) (h : Ct w0 w cb own n cp (fun _ => False)) (hk : SdK q) (h01 : q.1 = 0 ∨ q.1 = 1) (hm : (Mg.mk st ssn pp false a nn c zs).Ok w0) (hn : n ≤ 100000) :
    Calls Try.prog 26 #[.map (some cb), .agg #[.int .i64 q.1, .int .u32 (q.2.1 : Nat), .int .u32 (q.2.2 : Nat)], .agg #[.int .u16 (st : Nat), .int .u16 (ssn : Nat), .int .u32 (pp : Nat), .bool false, .slice a nn c]] w (TkP w0 cb (n + 1) (gotNextJ cp q ⟨st, ssn, pp, false, a, nn, c, zs⟩)) := by
  have hk2 := oth_K q hk h01
  have HH := (show Hid _ from h)
  clear h
  go_enter Try.func26, Try.ntmps26
  go_wp2_with fail
  refine wp_region_inv mixed (G1 ⟨w0, cb, n, cp, q, ⟨st, ssn, pp, false, a, nn, c, zs⟩, w.heap.size, w.heap.size + 1⟩ #[.map (some cb), .agg #[.int .i64 q.1, .int .u32 (q.2.1 : Nat), .int .u32 (q.2.2 : Nat)], .agg #[.int .u16 (st : Nat), .int .u16 (ssn : Nat), .int .u32 (pp : Nat), .bool false, .slice a nn c], undef, .pointer (some ⟨w.heap.size, 0, none⟩), .pointer (some ⟨w.heap.size + 1, 0, none⟩), .int .i64 0, undef, undef, undef, undef, undef, undef, undef, undef, undef, undef, undef, undef, undef, undef, undef, undef, undef, undef, undef, undef, undef, undef, undef, undef, undef, undef, undef, undef, undef, undef, undef, undef, undef, undef, undef, undef, undef, undef, undef, undef, undef, undef, undef, undef, undef, undef, undef, undef, undef]) ?h0 ?hs ?he
  case h0 =>
    have hb : Below w.heap.size w ((w.alloc (.cells #[.int .i64 q.1, .int .u32 (q.2.1 : Nat), .int .u32 (q.2.2 : Nat)] 57)).alloc (.cells #[.int .u16 (st : Nat), .int .u16 (ssn : Nat), .int .u32 (pp : Nat), .bool false, .slice a nn c] 41)).drew := (((Below.refl _ _).alloc (Nat.le_refl _) _).alloc (by simp) _).drew
    have r1 : ((w.alloc (.cells #[.int .i64 q.1, .int .u32 (q.2.1 : Nat), .int .u32 (q.2.2 : Nat)] 57)).alloc (.cells #[.int .u16 (st : Nat), .int .u16 (ssn : Nat), .int .u32 (pp : Nat), .bool false, .slice a nn c] 41)).drew.rangeAt w.heap.size 0 (scl q) := World.rangeAt_alloc (range_new w (scl q) 57 _ rfl) (.cells #[.int .u16 (st : Nat), .int .u16 (ssn : Nat), .int .u32 (pp : Nat), .bool false, .slice a nn c] 41)
    have r2 : ((w.alloc (.cells #[.int .i64 q.1, .int .u32 (q.2.1 : Nat), .int .u32 (q.2.2 : Nat)] 57)).alloc (.cells #[.int .u16 (st : Nat), .int .u16 (ssn : Nat), .int .u32 (pp : Nat), .bool false, .slice a nn c] 41)).drew.rangeAt (w.heap.size + 1) 0 (Mg.cells ⟨st, ssn, pp, false, a, nn, c, zs⟩) := by
      have := range_new (w.alloc (.cells #[.int .i64 q.1, .int .u32 (q.2.1 : Nat), .int .u32 (q.2.2 : Nat)] 57)) (Mg.cells ⟨st, ssn, pp, false, a, nn, c, zs⟩) 41 _ rfl
      have e : (w.alloc (.cells #[.int .i64 q.1, .int .u32 (q.2.1 : Nat), .int .u32 (q.2.2 : Nat)] 57)).heap.size = w.heap.size + 1 := by simp
      rw [e] at this
      exact this
    refine ⟨⟨own, 0, 0, (0, 0, 0), (0, 0, 0)⟩, ⟨rfl, rfl, fun _ _ => rfl, r1, r2, ?_, ?_, HH.out.below hb, fun g o hg => ?_, ?_, ?_, ?_⟩, fun j hj => ?_⟩
    · show w.heap.size < (w.heap.push _ |>.push _).size; simp; omega
    · show w.heap.size + 1 < (w.heap.push _ |>.push _).size; simp
    · have := (HH.out.ownB g o hg).2.1
      dsimp only
      refine ⟨by omega, by omega, fun h => ?_, fun h => ?_⟩ <;> simp at h
    · intro h; simp at h
    · intro h; simp at h
    · intro h; simp at h
    · exfalso
      simp [Array.getElem?_replicate] at hj
      split at hj <;> simp at hj
  case hs =>
    intro listed a1 W i hi hG
    obtain ⟨o, ho, hl, hd⟩ := ready_spec hi
    obtain ⟨x, h0, hF⟩ := hG
    have hi11 : i < 11 := by have := (Array.getElem?_eq_some_iff.1 ho).1; simpa using this
    clear hi
    obtain rfl | rfl | rfl | rfl | rfl | rfl | rfl | rfl | rfl | rfl | rfl : i = 0 ∨ i = 1 ∨ i = 2 ∨ i = 3 ∨ i = 4 ∨ i = 5 ∨ i = 6 ∨ i = 7 ∨ i = 8 ∨ i = 9 ∨ i = 10 := by omega
    · clear ho hd
      refine wpOp_move (by simp only [List.getElem?_toArray, List.getElem?_cons_zero]; rfl) rfl (.inl rfl) ?_
      exact G1.step 0 (by omega) hl _ h0 hF (Below.refl _ _) (fun _ _ h => h) (fun _ _ h => .inl h) h0.ct (fun _ => rfl) (fun _ => rfl) (fun _ => rfl) (fun _ => rfl) (by omega) (by omega) ((put_same _ (by rw [h0.sz]; decide)).trans (h0.keep 0 (by omega)))
    · clear ho hd
      refine wpOp_load (by simp only [List.getElem?_toArray, List.getElem?_cons_succ, List.getElem?_cons_zero]; rfl) rfl rfl (show a1.eval (.tmp 4) = .pointer (some ⟨w.heap.size, 0, none⟩) from h0.keep 4 (by omega)) h0.rs Try.underlying57 rfl side_size ?_
      exact G1.step 1 (by omega) hl _ h0 hF (Below.refl _ _) (fun _ _ h => h) (fun _ _ h => .inl h) h0.ct (fun _ => rfl) (fun _ => rfl) (fun _ => rfl) (fun _ => rfl) (by omega) (by omega) (put_same _ (by rw [h0.sz]; decide))
    · obtain rfl := Option.some.inj ho
      have l1 := hd ⟨1, .data⟩ (by simp) rfl
      obtain ⟨fn, hfn, hf1, hf2⟩ := fn_other
      refine wpOp_call (by simp only [List.getElem?_toArray, List.getElem?_cons_succ, List.getElem?_cons_zero]; rfl) rfl rfl (vs := #[.agg (scl q).toArray]) (by simp only [List.map_toArray, List.map_cons, List.map_nil, Act.eval]; rw [show a1.tmps.getD 12 undef = .agg (scl q).toArray from hF 1 l1]) hfn hf1 hf2 (other_any q W h01 _ rfl) ?_
      rintro e W' ⟨rfl, hb⟩
      refine ⟨_, rfl, ?_⟩
      exact G1.step 2 (by omega) hl _ h0 hF hb (fun _ _ h => h) (fun _ _ h => .inl h) (h0.ct.below hb) (fun _ => rfl) (fun _ => rfl) (fun _ => rfl) (fun _ => rfl) (by omega) (by omega) (put_same _ (by rw [h0.sz]; decide))
    · obtain rfl := Option.some.inj ho
      have l0 := hd ⟨0, .data⟩ (by simp) rfl
      have l2 := hd ⟨2, .data⟩ (by simp) rfl
      obtain ⟨fn, hfn, hf1, hf2⟩ := fn_of
      refine wpOp_call (by simp only [List.getElem?_toArray, List.getElem?_cons_succ, List.getElem?_cons_zero]; rfl) rfl rfl (vs := #[.map (some cb), .agg (scl (oth q)).toArray]) (by simp only [List.map_toArray, List.map_cons, List.map_nil, Act.eval]; rw [show a1.tmps.getD 11 undef = .map (some cb) from hF 0 l0, show a1.tmps.getD 13 undef = .agg (scl (oth q)).toArray from hF 2 l2]) hfn hf1 hf2 (of2 w0 cb x.own n cp (oth q) W h0.ct hk2 _ rfl) ?_
      rintro e W' ⟨⟨r, l, t, own2, rfl, hct, hbk, hx1, hx2⟩, hb⟩
      refine ⟨_, rfl, ?_⟩
      exact G1.step (x' := ⟨own2, x.b7, x.b8, (r, l, t), x.y⟩) 3 (by omega) hl _ h0 hF hb hx1 (fun g o hg => by rcases hx2 g o hg with h | h; exact .inl h; exact .inr ⟨h, by omega, by omega⟩) hct (fun _ => rfl) (fun _ => rfl) (by omega) (fun _ => rfl) (by omega) (by omega) ⟨put_same _ (by rw [h0.sz]; decide), hbk⟩
    · clear ho hd
      refine wpOp_move (by simp only [List.getElem?_toArray, List.getElem?_cons_succ, List.getElem?_cons_zero]; rfl) rfl (.inl rfl) ?_
      exact G1.step 4 (by omega) hl _ h0 hF (Below.refl _ _) (fun _ _ h => h) (fun _ _ h => .inl h) h0.ct (fun _ => rfl) (fun _ => rfl) (fun _ => rfl) (fun _ => rfl) (by omega) (by omega) ((put_same _ (by rw [h0.sz]; decide)).trans (h0.keep 0 (by omega)))
    · clear ho hd
      refine wpOp_load (by simp only [List.getElem?_toArray, List.getElem?_cons_succ, List.getElem?_cons_zero]; rfl) rfl rfl (show a1.eval (.tmp 4) = .pointer (some ⟨w.heap.size, 0, none⟩) from h0.keep 4 (by omega)) h0.rs Try.underlying57 rfl side_size ?_
      exact G1.step 5 (by omega) hl _ h0 hF (Below.refl _ _) (fun _ _ h => h) (fun _ _ h => .inl h) h0.ct (fun _ => rfl) (fun _ => rfl) (fun _ => rfl) (fun _ => rfl) (by omega) (by omega) (put_same _ (by rw [h0.sz]; decide))
    · obtain rfl := Option.some.inj ho
      have l4 := hd ⟨4, .data⟩ (by simp) rfl
      have l5 := hd ⟨5, .data⟩ (by simp) rfl
      obtain ⟨fn, hfn, hf1, hf2⟩ := fn_of
      refine wpOp_call (by simp only [List.getElem?_toArray, List.getElem?_cons_succ, List.getElem?_cons_zero]; rfl) rfl rfl (vs := #[.map (some cb), .agg (scl (q)).toArray]) (by simp only [List.map_toArray, List.map_cons, List.map_nil, Act.eval]; rw [show a1.tmps.getD 15 undef = .map (some cb) from hF 4 l4, show a1.tmps.getD 16 undef = .agg (scl (q)).toArray from hF 5 l5]) hfn hf1 hf2 (of2 w0 cb x.own n cp (q) W h0.ct hk _ rfl) ?_
      rintro e W' ⟨⟨r, l, t, own2, rfl, hct, hbk, hx1, hx2⟩, hb⟩
      refine ⟨_, rfl, ?_⟩
      exact G1.step (x' := ⟨own2, x.b7, x.b8, x.x, (r, l, t)⟩) 6 (by omega) hl _ h0 hF hb hx1 (fun g o hg => by rcases hx2 g o hg with h | h; exact .inl h; exact .inr ⟨h, by omega, by omega⟩) hct (fun _ => rfl) (fun _ => rfl) (fun _ => rfl) (by omega) (by omega) (by omega) ⟨put_same _ (by rw [h0.sz]; decide), hbk⟩
    · clear ho hd
      refine wpOp_alloc (by simp only [List.getElem?_toArray, List.getElem?_cons_succ, List.getElem?_cons_zero]; rfl) rfl rfl zero_book ?_
      have hb : Below W.heap.size W (W.alloc (.cells #[.map none, .map none, .map none, .int .i64 0, .bool false, .bool false, .bool false] 54)) := (Below.refl _ _).alloc (Nat.le_refl _) _
      have hls := h0.ls
      have hlm := h0.lm
      have hlc := h0.ct.lt
      dsimp only at hls hlm hlc
      exact G1.step (x' := ⟨x.own, W.heap.size, x.b8, x.x, x.y⟩) 7 (by omega) hl _ h0 hF hb (fun _ _ h => h) (fun _ _ h => .inl h) (h0.ct.below hb) (by omega) (fun _ => rfl) (fun _ => rfl) (fun _ => rfl) (fun _ => Nat.le_refl _) (by omega) ⟨put_same _ (by rw [h0.sz]; decide), hls, hlm, hlc, by simp, there_new W _ 54 _ rfl⟩
    · clear ho hd
      refine wpOp_alloc (by simp only [List.getElem?_toArray, List.getElem?_cons_succ, List.getElem?_cons_zero]; rfl) rfl rfl zero_book ?_
      have hb : Below W.heap.size W (W.alloc (.cells #[.map none, .map none, .map none, .int .i64 0, .bool false, .bool false, .bool false] 54)) := (Below.refl _ _).alloc (Nat.le_refl _) _
      have hls := h0.ls
      have hlm := h0.lm
      have hlc := h0.ct.lt
      dsimp only at hls hlm hlc
      exact G1.step (x' := ⟨x.own, x.b7, W.heap.size, x.x, x.y⟩) 8 (by omega) hl _ h0 hF hb (fun _ _ h => h) (fun _ _ h => .inl h) (h0.ct.below hb) (fun _ => rfl) (by omega) (fun _ => rfl) (fun _ => rfl) (by omega) (fun _ => Nat.le_refl _) ⟨put_same _ (by rw [h0.sz]; decide), hls, hlm, hlc, by simp, there_new W _ 54 _ rfl⟩
    · obtain rfl := Option.some.inj ho
      have l7 := hd ⟨7, .data⟩ (by simp) rfl
      have l3 := hd ⟨3, .data⟩ (by simp) rfl
      have l6 := hd ⟨6, .chain⟩ (by simp) rfl
      have l8 := hd ⟨8, .phase⟩ (by simp) rfl
      refine wpOp_store (by simp only [List.getElem?_toArray, List.getElem?_cons_succ, List.getElem?_cons_zero]; rfl) rfl rfl (show a1.eval (.tmp 7) = .pointer (some ⟨x.b7, 0, none⟩) from (hF 7 l7).1) (cs := (bcl x.x (cp (oth q))).toArray) (show a1.eval (.tmp 14) = _ from (hF 3 l3).1) (hF 7 l7).2.2.2.2.2 book_size (all_oneCell_toArray (by simp [bcl, Value.oneCell'])) ?_
      exact G1.store 9 _ _ (.inl ⟨rfl, rfl, rfl⟩) hl h0 hF l7 l8 l3 l6
    · obtain rfl := Option.some.inj ho
      have l8 := hd ⟨8, .data⟩ (by simp) rfl
      have l6 := hd ⟨6, .data⟩ (by simp) rfl
      have l7 := hd ⟨7, .phase⟩ (by simp) rfl
      have l3 := hd ⟨3, .phase⟩ (by simp) rfl
      refine wpOp_store (by simp only [List.getElem?_toArray, List.getElem?_cons_succ, List.getElem?_cons_zero]; rfl) rfl rfl (show a1.eval (.tmp 8) = .pointer (some ⟨x.b8, 0, none⟩) from (hF 8 l8).1) (cs := (bcl x.y (cp q)).toArray) (show a1.eval (.tmp 17) = _ from (hF 6 l6).1) (hF 8 l8).2.2.2.2.2 book_size (all_oneCell_toArray (by simp [bcl, Value.oneCell'])) ?_
      exact G1.store 10 _ _ (.inr ⟨rfl, rfl, rfl⟩) hl h0 hF l7 l8 l3 l6
  case he =>
    intro listed a1 W hz hr hG
    obtain ⟨x, h0, hF⟩ := hG
    have l0 : listed.getD 0 false = true := by
      refine all_listed hz hr 0 _ (by simp only [List.getElem?_toArray, List.getElem?_cons_zero]; rfl) ?_
      intro e he hb
      simp at he
    have l1 : listed.getD 1 false = true := by
      refine all_listed hz hr 1 _ (by simp only [List.getElem?_toArray, List.getElem?_cons_succ, List.getElem?_cons_zero]; rfl) ?_
      intro e he hb
      simp at he
    have l2 : listed.getD 2 false = true := by
      refine all_listed hz hr 2 _ (by simp only [List.getElem?_toArray, List.getElem?_cons_succ, List.getElem?_cons_zero]; rfl) ?_
      intro e he hb
      simp at he
      subst he
      assumption
    have l3 : listed.getD 3 false = true := by
      refine all_listed hz hr 3 _ (by simp only [List.getElem?_toArray, List.getElem?_cons_succ, List.getElem?_cons_zero]; rfl) ?_
      intro e he hb
      simp at he
      rcases he with rfl | rfl | rfl <;> first | assumption | (exact absurd hb (by decide))
    have l4 : listed.getD 4 false = true := by
      refine all_listed hz hr 4 _ (by simp only [List.getElem?_toArray, List.getElem?_cons_succ, List.getElem?_cons_zero]; rfl) ?_
      intro e he hb
      simp at he
    have l5 : listed.getD 5 false = true := by
      refine all_listed hz hr 5 _ (by simp only [List.getElem?_toArray, List.getElem?_cons_succ, List.getElem?_cons_zero]; rfl) ?_
      intro e he hb
      simp at he
    have l6 : listed.getD 6 false = true := by
      refine all_listed hz hr 6 _ (by simp only [List.getElem?_toArray, List.getElem?_cons_succ, List.getElem?_cons_zero]; rfl) ?_
      intro e he hb
      simp at he
      rcases he with rfl | rfl | rfl <;> first | assumption | (exact absurd hb (by decide))
    have l7 : listed.getD 7 false = true := by
      refine all_listed hz hr 7 _ (by simp only [List.getElem?_toArray, List.getElem?_cons_succ, List.getElem?_cons_zero]; rfl) ?_
      intro e he hb
      simp at he
    have l8 : listed.getD 8 false = true := by
      refine all_listed hz hr 8 _ (by simp only [List.getElem?_toArray, List.getElem?_cons_succ, List.getElem?_cons_zero]; rfl) ?_
      intro e he hb
      simp at he
    have l9 : listed.getD 9 false = true := by
      refine all_listed hz hr 9 _ (by simp only [List.getElem?_toArray, List.getElem?_cons_succ, List.getElem?_cons_zero]; rfl) ?_
      intro e he hb
      simp at he
      rcases he with rfl | rfl | rfl | rfl | rfl | rfl | rfl | rfl | rfl | rfl | rfl | rfl <;> first | assumption | (exact absurd hb (by decide))
    have l10 : listed.getD 10 false = true := by
      refine all_listed hz hr 10 _ (by simp only [List.getElem?_toArray, List.getElem?_cons_succ, List.getElem?_cons_zero]; rfl) ?_
      intro e he hb
      simp at he
      rcases he with rfl | rfl | rfl | rfl | rfl | rfl | rfl | rfl | rfl | rfl | rfl | rfl | rfl <;> first | assumption | (exact absurd hb (by decide))
    clear hz hr
    have hfe := frame_eq (a := a1) (F := #[.map (some cb), .agg #[.int .i64 q.1, .int .u32 (q.2.1 : Nat), .int .u32 (q.2.2 : Nat)], .agg #[.int .u16 (st : Nat), .int .u16 (ssn : Nat), .int .u32 (pp : Nat), .bool false, .slice a nn c], undef, .pointer (some ⟨w.heap.size, 0, none⟩), .pointer (some ⟨w.heap.size + 1, 0, none⟩), .int .i64 0, undef, undef, undef, undef, undef, undef, undef, undef, undef, undef, undef, undef, undef, undef, undef, undef, undef, undef, undef, undef, undef, undef, undef, undef, undef, undef, undef, undef, undef, undef, undef, undef, undef, undef, undef, undef, undef, undef, undef, undef, undef, undef, undef, undef, undef, undef, undef, undef, undef]) [(7, .pointer (some ⟨x.b7, 0, none⟩)), (8, .pointer (some ⟨x.b8, 0, none⟩)), (11, .map (some cb)), (12, .agg (scl q).toArray), (13, .agg (scl (oth q)).toArray), (14, .agg (bcl x.x (cp (oth q))).toArray), (15, .map (some cb)), (16, .agg (scl q).toArray), (17, .agg (bcl x.y (cp q)).toArray)] h0.sz (by simpa using h0.df) (by simp) (by simp) (by simp only [List.forall_mem_cons, List.not_mem_nil, false_implies, implies_true, and_true]; exact ⟨(hF 7 l7).1, (hF 8 l8).1, hF 0 l0, hF 1 l1, hF 2 l2, (hF 3 l3).1, hF 4 l4, hF 5 l5, (hF 6 l6).1⟩) (fun k hk => h0.keep k (by simp at hk; omega))
    have f3 := (hF 3 l3).2
    have f6 := (hF 6 l6).2
    have f7 := (hF 7 l7).2
    have f8 := (hF 8 l8).2
    have f9 := hF 9 l9
    have f10 := hF 10 l10
    have hno : ∀ g o, x.own g = some o → g ≠ w.heap.size ∧ g ≠ w.heap.size + 1 ∧ g ≠ x.b7 ∧ g ≠ x.b8 := fun g o hg => ⟨(h0.no g o hg).1, (h0.no g o hg).2.1, (h0.no g o hg).2.2.1 l7, (h0.no g o hg).2.2.2 l8⟩
    have hne := h0.ne l7 l8
    have hct := h0.ct
    have hrs := h0.rs
    have hrm := h0.rm
    have hls := h0.ls
    have hlm := h0.lm
    rw [hfe]
    clear hfe l0 l1 l2 l3 l4 l5 l6 l7 l8 l9 l10 hF h0 listed
    obtain ⟨own2, b7, b8, ⟨rf, lf, tf⟩, ⟨rt, lt, tt⟩⟩ := x
    dsimp only [bcl, scl, Mg.cells] at f3 f6 f7 f8 f9 f10 hno hne hct hrs hrm hls hlm ⊢
    simp only [List.foldl, List.setIfInBounds_toArray, List.set_cons_zero, List.set_cons_succ]
    have HF := (show Hid _ from GnS.mk (q := q) (st := st) (ssn := ssn) (pp := pp) (a := a) (nn := nn) (c := c) (zs := zs) hct f3 f6 hrs hrm f9.1 f10.1 hls hlm f9.2 f10.2 f7.2.2.2.2 hno hne ⟨f7.1, f7.2.1, f7.2.2.1⟩ ⟨f8.1, f8.2.1, f8.2.2.1⟩)
    clear f3 f6 f7 f8 f9 f10 hno hne hct hrs hrm hls hlm
    obtain ⟨k, hk3⟩ : ∃ k : Nat, (cp q).told st = (k : Int) := ⟨((cp q).told st).toNat, by have := HF.out.t.b3 st; omega⟩
    have hkn : k ≤ n := by have := HF.out.t.b3 st; omega
    obtain ⟨ra, rm, rc, hlook, hrow, hro⟩ := (HF.out.below (Below.refl _ _).drew).f.lookRow st hm.st
    obtain ⟨d0, d1, d2, d3, d4⟩ := (HF.out.below (Below.refl _ _).drew).all2 hlook hk3 hm.st
    have HR := (show Hid _ from And.intro hrow hro)
    have hrl := hrow.len
    have hcap := hrow.cap
    have hrn := HF.out.f.b1 st
    rw [hrl] at hrn
    unfold maxLen at hcap
    have HHR := (show Hid _ from hrl)
    have HK3 := (show Hid _ from hk3)
    clear hlook hrow hro hrl hk3
    simp only [Exit.then]
    go_wp2_with fail
    go_region_held3 (fun V => V.cell? ⟨b7, 0, none⟩ = some (.map (some rf)) ∧ V.cell? ⟨b8, 2, none⟩ = some (.map (some tt)) ∧ V.cell? ⟨w.heap.size + 1, 0, none⟩ = some (.int .u16 (st : Nat)) ∧ (Instr.lookup 50 (.map (some rf)) (.int .u16 (st : Nat)) false).run Try.prog V = .ok (.slice ra rm rc) V ∧ (Instr.lookup 52 (.map (some tt)) (.int .u16 (st : Nat)) false).run Try.prog V = .ok (.int .i64 (k : Int)) V) (first | exact ⟨by assumption, by assumption, by assumption, by assumption, by assumption⟩) (fail)
    all_goals
      clear d0 d1 d2 d3 d4
      have hsD := HF.out.below (Below.refl _ _).drew
      by_cases hlt : k < rm
      rotate_left
      · have E0 : Hid (gotNextJ cp q ⟨st, ssn, pp, false, a, nn, c, zs⟩ = (cp, 16)) := by
          unfold gotNextJ
          have : ((cp (oth q)).rows st)[((cp q).told st).toNat]? = none := by rw [HK3.out, Int.toNat_natCast]; exact List.getElem?_eq_none (by rw [HHR.out]; omega)
          dsimp only
          rw [this]
          exact rfl
        have HC := (show Hid _ from hsD.ct)
        have hle : ((rm : Nat) : Int) ≤ (k : Int) := by omega
        clear hsD HF HR HHR HK3
        simp only [Exit.then]
        go_wp2
        go_ret
        rw [E0.out]
        exact ⟨rfl, own2, HC.out.mono (show n ≤ n + 1 + 2 by omega)⟩
      · obtain ⟨y, hy⟩ : ∃ y, ((cp (oth q)).rows st)[k]? = some y := ⟨_, List.getElem?_eq_getElem (by rw [HHR.out]; exact hlt)⟩
        have E0 : Hid (gotNextJ cp q ⟨st, ssn, pp, false, a, nn, c, zs⟩ = if alikeJ y ⟨st, ssn, pp, false, a, nn, c, zs⟩ = true then ((cp.set q ((cp q).tell st)).set (oth q) (cp (oth q)).less, 0) else (cp, 4)) := by
          unfold gotNextJ
          have : ((cp (oth q)).rows st)[((cp q).told st).toNat]? = some y := by rw [HK3.out, Int.toNat_natCast]; exact hy
          dsimp only
          rw [this]
          exact rfl
        obtain ⟨g, rfl, hgB, hgl, _, _, hcell, _⟩ := HR.out.1.at_ mgLays.len (by omega)
        have y0 := hcell k y hy 0 _ rfl
        have y1 := hcell k y hy 1 _ rfl
        have y2 := hcell k y hy 2 _ rfl
        have y3 := hcell k y hy 3 _ rfl
        have y4 := hcell k y hy 4 _ rfl
        have HY : Hid (∀ V, Below W.drew.heap.size W.drew V → y.Ok V ∧ (Mg.mk st ssn pp false a nn c zs).Ok V) := fun V hV => ⟨(hsD.f.ok st y (List.mem_of_getElem? hy)).below (hsD.ct.below hV).bel, hm.below (hsD.ct.below hV).bel⟩
        have hlt1 : ((k : Nat) : Int) < (rm : Int) := by omega
        have hlt0 : (0 : Int) ≤ ((k : Nat) : Int) := by omega
        have hlt2 : ¬ ((rm : Nat) : Int) ≤ (k : Int) := by omega
        obtain ⟨al, HAL⟩ : ∃ al, Hid (al = alikeJ y ⟨st, ssn, pp, false, a, nn, c, zs⟩) := ⟨_, rfl⟩
        have mm0 := hsD.rm 0 _ rfl
        have mm1 := hsD.rm 1 _ rfl
        have mm2 := hsD.rm 2 _ rfl
        have mm3 := hsD.rm 3 _ rfl
        have mm4 := hsD.rm 4 _ rfl
        rw [Nat.zero_add] at mm0 mm1 mm2 mm3 mm4
        have HS := (show Hid _ from hsD)
        have HLT := (show Hid _ from And.intro hlt hgl)
        clear hcell hy HR HHR hsD hgB hgl hlt
        simp only [Exit.then]
        go_wp2_with fail
        have HALL5 : Hid (∀ V, Below W.drew.heap.size W.drew V → V.cell? ⟨g, k * 5, none⟩ = some (.int .u16 (y.st : Nat)) ∧ V.cell? ⟨g, k * 5 + 1, none⟩ = some (.int .u16 (y.ssn : Nat)) ∧ V.cell? ⟨g, k * 5 + 2, none⟩ = some (.int .u32 (y.pp : Nat)) ∧ V.cell? ⟨g, k * 5 + 3, none⟩ = some (.bool y.free) ∧ V.cell? ⟨g, k * 5 + 4, none⟩ = some (.slice y.a y.n y.c) ∧ V.cell? ⟨w.heap.size + 1, 0, none⟩ = some (.int .u16 (st : Nat)) ∧ V.cell? ⟨w.heap.size + 1, 1, none⟩ = some (.int .u16 (ssn : Nat)) ∧ V.cell? ⟨w.heap.size + 1, 2, none⟩ = some (.int .u32 (pp : Nat)) ∧ V.cell? ⟨w.heap.size + 1, 3, none⟩ = some (.bool false) ∧ V.cell? ⟨w.heap.size + 1, 4, none⟩ = some (.slice a nn c) ∧ Below W.drew.heap.size W.drew V) := fun V hV =>
          ⟨(hV.cell (p := ⟨g, k * 5, none⟩) HLT.out.2).trans y0, (hV.cell (p := ⟨g, k * 5 + 1, none⟩) HLT.out.2).trans y1, (hV.cell (p := ⟨g, k * 5 + 2, none⟩) HLT.out.2).trans y2, (hV.cell (p := ⟨g, k * 5 + 3, none⟩) HLT.out.2).trans y3, (hV.cell (p := ⟨g, k * 5 + 4, none⟩) HLT.out.2).trans y4, (hV.cell (p := ⟨w.heap.size + 1, 0, none⟩) HS.out.lm).trans mm0, (hV.cell (p := ⟨w.heap.size + 1, 1, none⟩) HS.out.lm).trans mm1, (hV.cell (p := ⟨w.heap.size + 1, 2, none⟩) HS.out.lm).trans mm2, (hV.cell (p := ⟨w.heap.size + 1, 3, none⟩) HS.out.lm).trans mm3, (hV.cell (p := ⟨w.heap.size + 1, 4, none⟩) HS.out.lm).trans mm4, hV⟩
        have hbD : Below W.drew.heap.size W.drew W.drew.drew := (Below.refl _ _).drew
        clear y0 y1 y2 y3 y4 mm0 mm1 mm2 mm3 mm4
        go_region_held3 (fun V => V.cell? ⟨g, k * 5, none⟩ = some (.int .u16 (y.st : Nat)) ∧ V.cell? ⟨g, k * 5 + 1, none⟩ = some (.int .u16 (y.ssn : Nat)) ∧ V.cell? ⟨g, k * 5 + 2, none⟩ = some (.int .u32 (y.pp : Nat)) ∧ V.cell? ⟨g, k * 5 + 3, none⟩ = some (.bool y.free) ∧ V.cell? ⟨g, k * 5 + 4, none⟩ = some (.slice y.a y.n y.c) ∧ V.cell? ⟨w.heap.size + 1, 0, none⟩ = some (.int .u16 (st : Nat)) ∧ V.cell? ⟨w.heap.size + 1, 1, none⟩ = some (.int .u16 (ssn : Nat)) ∧ V.cell? ⟨w.heap.size + 1, 2, none⟩ = some (.int .u32 (pp : Nat)) ∧ V.cell? ⟨w.heap.size + 1, 3, none⟩ = some (.bool false) ∧ V.cell? ⟨w.heap.size + 1, 4, none⟩ = some (.slice a nn c) ∧ Below W.drew.heap.size W.drew V) (first | exact HALL5.out _ (by assumption)) (first
          | (go_at_call 31; refine (isAlike_any y ⟨st, ssn, pp, false, a, nn, c, zs⟩ _ (HY.out _ (by assumption)).1 (HY.out _ (by assumption)).2 _ _ (by rfl) (by rfl)).mono ?_; rintro e w5 ⟨he, hb5⟩; obtain rfl : e = .returned (.bool al) := (by rw [HAL.out]; exact he); clear he; have hbW := hbD.trans (hb5.mono hbD.size))
          | fail)
        all_goals
          have hs5 := HS.out.below hbW
          clear hbD hb5 hbW HALL5 HY HS
          cases al
          · have HC := (show Hid _ from hs5.ct)
            clear hs5
            simp only [Exit.then]
            go_wp2
            go_ret
            rw [E0.out, ← HAL.out]
            exact ⟨rfl, own2, HC.out.mono (show n ≤ n + 1 + 2 by omega)⟩
          · simp only [Exit.then]
            obtain ⟨hlk, w6, hupd, hbT6, hfr6⟩ := hs5.t.tell st hm.st ((k : Int) + 1) (by omega)
            rw [HK3.out] at hlk
            unfold stV at hlk hupd
            have htt := hs5.t.ht
            have hnt := hs5.no tt _ htt
            have hcbt : cb ≠ tt := fun e => (hs5.ct.ownB tt _ htt).2.2 e.symm
            have hoq := oth_ne q
            have hct6 := (hs5.ct.weak (Y := fun x => x = q ∨ x = oth q) (fun _ h => h.elim)).fr hfr6 (fun g hg => by rw [hg]; exact (hs5.ct.ownB tt _ htt).1) hcbt (fun g q1 i hg hQ => by rw [show g = tt from hQ, htt] at hg; simp at hg; exact .inl hg.1.symm)
            have hbF6 := hs5.f.fr hfr6 (fun g i hg hQ => by rw [show g = tt from hQ, htt] at hg; simp at hg; exact hoq hg.1.symm)
            have h36 : H3 w.heap.size b7 b8 _ _ _ w6 := (H3.mk hs5.rs hs5.r7 hs5.r8 hs5.ls hs5.l7 hs5.l8).fr hfr6 (Ne.symm hnt.1) (Ne.symm hnt.2.2.1) (Ne.symm hnt.2.2.2)
            have hfz : w6.frozen? ⟨b7, 3, none⟩ = false := (hfr6.frozen ⟨b7, 3, none⟩ hs5.l7 (Ne.symm hnt.2.2.1)).trans (hs5.t7 3 (by omega)).2
            obtain ⟨z0, z1, z2, k0, k1, k2, k3, k4, k5, k6, _, _, _, _, _, _, _, _⟩ := h36.all
            have p2 := hs5.r8 2 _ rfl
            have pm := hs5.rm 0 _ rfl
            rw [Nat.zero_add] at p2 pm
            have h37 := h36.setOwed (by have := hs5.o7.1; omega) (Ne.symm hs5.ne) (.int .i64 ((cp (oth q)).owed - 1))
            have hfs := Fr.setCell (· = b7) w6 ⟨b7, 3, none⟩ (.int .i64 ((cp (oth q)).owed - 1)) rfl
            have hb7B : w0.heap.size ≤ b7 := by have := hs5.ct.cbB; have := hs5.o7.2.2; omega
            have hct7 := hct6.fr hfs (fun g hg => by rw [hg]; exact hb7B) (by show ¬ cb = b7; have := hs5.o7.2.2; omega) (fun g q1 i hg hQ => absurd hQ (hs5.no g _ hg).2.2.1)
            have hbF7 := ((hbF6.fr hfs (fun g i hg => (hs5.no g _ hg).2.2.1)).mono (Nat.le_add_right n 1)).flags ((cp (oth q)).owed - 1) (cp (oth q)).came (cp (oth q)).ended (cp (oth q)).shuts (by have := hbF6.b4; omega)
            have hbT7 := hbT6.fr hfs (fun g i hg => (hs5.no g _ hg).2.2.1)
            have ho1 : -100000 ≤ (cp (oth q)).owed := by have := hbF6.b4; omega
            have ho2 : (cp (oth q)).owed ≤ 100000 := by have := hbF6.b4; omega
            have HX := (show Hid _ from And.intro (hct7.mono (Nat.le_add_right n 1)) (And.intro hbF7 hbT7))
            have HNC : Hid (¬ w.heap.size = cb ∧ ¬ b7 = cb ∧ ¬ b8 = cb) := ⟨by have := HH.out.lt; omega, by have := hs5.o7.2.2; omega, by have := hs5.o8.2.2; omega⟩
            clear hct6 hbF6 h36 hct7 hbF7 hbT7 hfs hb7B hbT6 hfr6 htt hnt hcbt hs5
            go_wp2
            have HALL9 : Hid (∀ V, H3 w.heap.size b7 b8 [.int .i64 q.1, .int .u32 (q.2.1 : Nat), .int .u32 (q.2.2 : Nat)] [.map (some rf), .map (some lf), .map (some tf), .int .i64 ((cp (oth q)).owed - 1), .bool (cp (oth q)).came, .bool (cp (oth q)).ended, .bool (cp (oth q)).shuts] [.map (some rt), .map (some lt), .map (some tt), .int .i64 (cp q).owed, .bool (cp q).came, .bool (cp q).ended, .bool (cp q).shuts] V → _) := fun V h => H3.all h
            have h38 := h37.below (Below.refl _ _).drew
            obtain ⟨hct8, hbF8, hbT8⟩ := HX.out
            have hct8 := hct8.below (Below.refl _ _).drew
            have hbF8 := hbF8.below (Below.refl _ _).drew
            have hbT8 := hbT8.below (Below.refl _ _).drew
            clear HX h37 z0 z1 z2 k0 k1 k2 k3 k4 k5 k6 p2 pm hlk hupd hfz
            obtain ⟨ov, HOV⟩ : ∃ ov, Hid (ov = sdV (oth q)) := ⟨_, rfl⟩
            go_region_held3 (fun V => V.cell? ⟨w.heap.size, 0, none⟩ = some (.int .i64 q.1) ∧ V.cell? ⟨w.heap.size, 1, none⟩ = some (.int .u32 (q.2.1 : Nat)) ∧ V.cell? ⟨w.heap.size, 2, none⟩ = some (.int .u32 (q.2.2 : Nat)) ∧ V.cell? ⟨b7, 0, none⟩ = some (.map (some rf)) ∧ V.cell? ⟨b7, 1, none⟩ = some (.map (some lf)) ∧ V.cell? ⟨b7, 2, none⟩ = some (.map (some tf)) ∧ V.cell? ⟨b7, 3, none⟩ = some (.int .i64 ((cp (oth q)).owed - 1)) ∧ V.cell? ⟨b7, 4, none⟩ = some (.bool (cp (oth q)).came) ∧ V.cell? ⟨b7, 5, none⟩ = some (.bool (cp (oth q)).ended) ∧ V.cell? ⟨b7, 6, none⟩ = some (.bool (cp (oth q)).shuts) ∧ V.cell? ⟨b8, 0, none⟩ = some (.map (some rt)) ∧ V.cell? ⟨b8, 1, none⟩ = some (.map (some lt)) ∧ V.cell? ⟨b8, 2, none⟩ = some (.map (some tt)) ∧ V.cell? ⟨b8, 3, none⟩ = some (.int .i64 (cp q).owed) ∧ V.cell? ⟨b8, 4, none⟩ = some (.bool (cp q).came) ∧ V.cell? ⟨b8, 5, none⟩ = some (.bool (cp q).ended) ∧ V.cell? ⟨b8, 6, none⟩ = some (.bool (cp q).shuts) ∧ H3 w.heap.size b7 b8 [.int .i64 q.1, .int .u32 (q.2.1 : Nat), .int .u32 (q.2.2 : Nat)] [.map (some rf), .map (some lf), .map (some tf), .int .i64 ((cp (oth q)).owed - 1), .bool (cp (oth q)).came, .bool (cp (oth q)).ended, .bool (cp (oth q)).shuts] [.map (some rt), .map (some lt), .map (some tt), .int .i64 (cp q).owed, .bool (cp q).came, .bool (cp q).ended, .bool (cp q).shuts] V) (first | exact HALL9.out _ (by assumption)) (first
              | (go_at_call 30; refine (other_any q _ h01 _ (by rfl)).mono ?_; rintro e w8 ⟨he, hb8⟩; obtain rfl : e = .returned ov := (by rw [HOV.out]; exact he); clear he; have h39 := H3.below (by assumption) hb8; obtain ⟨w9, hput1, hct9, hfr9⟩ := (hct8.below hb8).put hk (hbT8.below hb8); obtain ⟨w10, hput2, hct10, hfr10⟩ := hct9.put hk2 (((hbF8.below hb8).fr hfr9 (fun g i hg => ((hct8.below hb8).ownB g _ hg).2.2)).mono (Nat.le_add_right _ 1)); unfold bval at hput1 hput2; dsimp only at hput1 hput2; unfold sdV at hput1; rw [← HOV.out] at hput2; have h3a := h39.fr hfr9 HNC.out.1 HNC.out.2.1 HNC.out.2.2; have h3b := h3a.fr hfr10 HNC.out.1 HNC.out.2.1 HNC.out.2.2; have HC := (show Hid _ from hct10); clear hct9 hct10 hfr9 hfr10 hb8)
              | fail)
            all_goals
              clear hput1 hput2 h38 h39 h3a h3b hct8 hbF8 hbT8 HALL9
              go_wp2
              go_ret
              rw [E0.out, ← HAL.out, if_pos rfl]
              refine ⟨rfl, own2, ?_⟩
              have hh := HC.out.done (fun x h => by rcases h.1.1 with e | e; exact h.1.2 e; exact h.2 e)
              have e1 : (cp q).tell st = { cp q with told := fun s' => if s' = st then (k : Int) + 1 else (cp q).told s' } := by
                unfold Bp.tell
                congr 1
                funext s'
                split
                · rename_i e2; rw [e2, HK3.out]
                · rfl
              dsimp only
              rw [e1]
              exact hh
end Go.Proofs.Ytpdnkbhgobdniaa
