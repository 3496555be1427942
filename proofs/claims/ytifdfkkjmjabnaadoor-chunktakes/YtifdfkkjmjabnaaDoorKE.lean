/- chunk.takeChunks over any bytes: the chunks, or what it fails with. -/
import Derived.Test.YtifdfkkjmjabnaaDoorRgW
import Derived.Test.YtifdfkkjmjabnaaDoorRd1
import Derived.WalkLawsBesides
import Derived.Test.YtifdfkkjmjabnaaDoorRd9
import Derived.Test.YtifdfkkjmjabnaaDoorKA
import Derived.Test.YtifdfkkjmjabnaaDoorRd10
import Derived.Test.YtifdfkkjmjabnaaDoorBytes
namespace Go.Proofs.YtifdfkkjmjabnaaDoor
open Go.RowKit
/-- An operation's run gives R of value and world, or it is a call that panics, with H. -/
def GivesF (P : Program) (ρ : Operand → Value) (o : Oper) (R : Value → World → Prop) (H : List PanicEntry → World → Prop) (w : World) : Prop :=
  match (execOp ρ o).run P w with
  | .ok (.value u) w' => R u w'
  | .ok .skip w' => R undef w'
  | .ok (.enter f args) w' => Calls P f args w' fun e w'' => (∃ v, e = .returned v ∧ R v w'') ∨ ∃ ch, e = .panicked ch ∧ H ch w''
  | _ => False
def SeqOpF (P : Program) (ops : Array Oper) (F Z : Array Value) (G : (Nat → Bool) → World → Prop) (H : Nat → List PanicEntry → World → Prop) (i : Nat) (o : Oper) : Prop :=
  ∀ l w, l i = false → (∀ j, dirD ops i j = true → l j = true) → (∀ k j, ancD ops 12 k j = true → l k = true → l j = true) → G l w →
    (Region.wanted o (yielded ops F) = true ∧ GivesF P (Act.eval ⟨F, []⟩) o (fun v w' => (∀ d, o.dst = some d → v = Z.getD d undef) ∧ G (updL l i) w') (H i) w) ∨ (Region.wanted o (yielded ops F) = false ∧ (∀ d, o.dst = some d → undef = Z.getD d undef) ∧ G (updL l i) w)
@[reducible] def SeqAllF (P : Program) (ops : Array Oper) (T Z : Array Value) (G : (Nat → Bool) → World → Prop) (H : Nat → List PanicEntry → World → Prop) : Nat → List Bool → List Oper → Prop
  | _, _, [] => True
  | i, true :: bs, o :: os => SeqOpF P ops T Z G H i o ∧ SeqAllF P ops T Z G H (i + 1) bs os
  | i, false :: bs, o :: os => SeqOpF P ops Z Z G H i o ∧ SeqAllF P ops T Z G H (i + 1) bs os
  | i, [], o :: os => SeqOpF P ops Z Z G H i o ∧ SeqAllF P ops T Z G H (i + 1) [] os
theorem seqAllF_at {P : Program} {ops : Array Oper} {T Z : Array Value} {G : (Nat → Bool) → World → Prop} {H : Nat → List PanicEntry → World → Prop} : ∀ (os : List Oper) (old : List Bool) (k : Nat), SeqAllF P ops T Z G H k old os → ∀ i o, os[i]? = some o → SeqOpF P ops (oldA old T Z i) Z G H (k + i) o := by
  intro os
  induction os with
  | nil => intro old k _ i o h; simp at h
  | cons x os ih =>
    intro old k h i o ho
    match old, h with
    | [], h =>
      cases i with
      | zero => simp at ho; subst ho; exact h.1
      | succ i => rw [show k + (i + 1) = k + 1 + i by omega]; exact ih [] (k + 1) h.2 i o (by simpa using ho)
    | true :: bs, h =>
      cases i with
      | zero => simp at ho; subst ho; exact h.1
      | succ i => rw [show k + (i + 1) = k + 1 + i by omega]; exact ih bs (k + 1) h.2 i o (by simpa using ho)
    | false :: bs, h =>
      cases i with
      | zero => simp at ho; subst ho; exact h.1
      | succ i => rw [show k + (i + 1) = k + 1 + i by omega]; exact ih bs (k + 1) h.2 i o (by simpa using ho)
theorem wp_region_seqF {P : Program} {os : List Oper} {Q : Exit → Act → World → Prop} {id : Nat} {a : Act} {w : World} (hm : P.follows .mixedOrders = true) (old : List Bool) (G : (Nat → Bool) → World → Prop) (H : Nat → List PanicEntry → World → Prop) (ws : List (Nat × Value)) (Z : Array Value)
    (hZ : ws.foldl (fun F p => F.setIfInBounds p.1 p.2) a.tmps = Z) (hok : okD os.toArray = true) (hchk : chkO os.toArray old = true) (hws : ws.map (·.1) = os.filterMap (·.dst)) (hin : (ws.all fun p => decide (p.1 < a.tmps.size)) = true)
    (h0 : G (fun _ => false) w.drew) (hops : SeqAllF P os.toArray a.tmps Z G H 0 old os)
    (hQ : ∀ i ch A w', A.defers = a.defers → A.tmps.size = a.tmps.size → (∀ k, ((List.range os.length).all fun j => !wrD os.toArray j k || ancD os.toArray 12 j i) = true → A.tmps.getD k undef = a.tmps.getD k undef) → H i ch w' → Q (.panic ch) A w') (he : ∀ l w, (∀ i, i < os.length → l i = true) → G l w → Q .normal ⟨Z, a.defers⟩ w) : (Code.region id os.toArray true).wp P Q a w := by
  have hsz : Z.size = a.tmps.size := by rw [← hZ, foldl_size]
  have hind : ∀ o ∈ os, ∀ d, o.dst = some d → d < Z.size := fun o ho d hd => by
    have h1 : d ∈ ws.map (·.1) := by rw [hws]; exact List.mem_filterMap.2 ⟨o, ho, hd⟩
    obtain ⟨p, hp, rfl⟩ := List.mem_map.1 h1
    rw [List.all_eq_true] at hin
    have := hin p hp
    rw [hsz]
    simpa using this
  have hb : ∀ k, (∀ o ∈ os, o.dst ≠ some k) → Z.getD k undef = a.tmps.getD k undef := fun k hk => by
    rw [← hZ, Array.getD_eq_getD_getElem?, Array.getD_eq_getD_getElem?, foldl_other ws _ k (fun p hp e => ?_)]
    have h1 : p.1 ∈ os.filterMap (·.dst) := by rw [← hws]; exact List.mem_map.2 ⟨p, hp, rfl⟩
    obtain ⟨o, ho, hod⟩ := List.mem_filterMap.1 h1
    exact hk o ho (by rw [hod, e])
  have hofs : ∀ {i : Nat} {o : Oper}, os.toArray[i]? = some o → os[i]? = some o := fun h => by simpa using h
  refine wp_region_inv hm (fun listed A W => FixI os.toArray a Z (fun _ => True) listed A W ∧ G (lst listed) W) ⟨⟨hsz.symm, rfl, fun i o _ h => ?_, fun i o d _ _ h => ?_, fun _ _ => rfl, trivial⟩, ?_⟩ (fun listed A W i hi hI => ?_) (fun listed A W hls hr hI => ?_)
  · exfalso; simp [Array.getElem?_replicate] at h; split at h <;> simp at h
  · exfalso; simp [Array.getElem?_replicate] at h; split at h <;> simp at h
  · have : lst (Array.replicate os.toArray.size false) = fun _ => false := by
      funext j
      unfold lst
      rw [Array.getD_eq_getD_getElem?, Array.getElem?_replicate]
      split <;> rfl
    rw [this]
    exact h0
  · obtain ⟨hI, hG⟩ := hI
    obtain ⟨o, ho, hl, hd⟩ := ready_spec hi
    have hsp := okD_spec hok ho
    have hop := seqAllF_at os old 0 hops i o (hofs ho)
    rw [Nat.zero_add] at hop
    have hlf : lst listed i = false := getD_both hl
    obtain ⟨F, hF⟩ : ∃ F, F = oldA old a.tmps Z i := ⟨_, rfl⟩
    rw [← hF] at hop
    have hFs : F.size = Z.size := by rw [hF]; unfold oldA; split; exact hsz.symm; rfl
    have hval : ∀ t, t ∈ o.looksAt os.toArray → A.tmps.getD t undef = F.getD t undef := by
      intro t ht
      have h1 : (if old.getD i false then srcA os.toArray i t else srcZ os.toArray i t) = true := by
        unfold chkO at hchk
        rw [List.all_eq_true] at hchk
        have hil := (Array.getElem?_eq_some_iff.1 ho).1
        have h1 := hchk i (by simpa using hil)
        rw [ho] at h1
        dsimp only at h1
        rw [List.all_eq_true] at h1
        exact h1 t ht
      unfold oldA at hF
      cases hod : old.getD i false with
      | true =>
        rw [hod, if_pos rfl] at h1 hF
        rw [hF]
        refine hI.off t (fun j p hp hpt => ?_)
        have hjl := (Array.getElem?_eq_some_iff.1 hp).1
        unfold srcA at h1
        rw [List.all_eq_true] at h1
        have h3 := h1 j (by simpa using hjl)
        simp only [wrD, hp, Option.bind_some, hpt, beq_self_eq_true, Bool.not_true, Bool.false_or] at h3
        cases hlj : listed.getD j false with
        | false => rfl
        | true =>
          have := ancD_spec hI.cl 8 j i h3 hlj
          rw [getD_both hl] at this
          cases this
      | false =>
        rw [hod, if_neg (by decide)] at h1 hF
        rw [hF]
        by_cases hw : ∃ (j : Nat) (p : Oper), os.toArray[j]? = some p ∧ p.dst = some t
        · obtain ⟨j, p, hp, hpt⟩ := hw
          have hjl := (Array.getElem?_eq_some_iff.1 hp).1
          unfold srcZ at h1
          rw [List.all_eq_true] at h1
          have h3 := h1 j (by simpa using hjl)
          simp only [wrD, hp, Option.bind_some, hpt, beq_self_eq_true, Bool.not_true, Bool.false_or] at h3
          obtain ⟨e, he', hb', rfl⟩ := dirD_spec ho h3
          exact hI.on e.on p t hp hpt (hd e he' hb')
        · have h3 := hI.off t (fun j p hp hpt => absurd ⟨j, p, hp, hpt⟩ hw)
          rw [h3, hb t (fun p hp hpt => by
            obtain ⟨j, hj⟩ := List.getElem?_of_mem hp
            exact hw ⟨j, p, by simpa using hj, hpt⟩)]
    have hpl : ∀ cs b, o.op ≠ .select cs b := fun cs b e => by have := hsp.1; unfold plainD at this; rw [e] at this; cases this
    have hex : execOp A.eval o = execOp (Act.eval ⟨F, []⟩) o := execOp_congr o hpl (fun x hx => by
      cases x with
      | tmp t =>
        have ht : t ∈ o.looksAt os.toArray := List.mem_append_left _ (List.mem_filterMap.2 ⟨.tmp t, by simpa using hx, rfl⟩)
        simpa [Act.eval] using hval t ht
      | _ => rfl)
    have hwa : Region.wanted o (yielded os.toArray A.tmps) = Region.wanted o (yielded os.toArray F) := by
      unfold Region.wanted
      cases hg : o.guard with
      | none => rfl
      | some gw =>
        obtain ⟨g, want⟩ := gw
        have hy : yielded os.toArray A.tmps g = yielded os.toArray F g := by
          unfold yielded
          cases ht : (os.toArray[g]?).bind (·.dst) with
          | none => rfl
          | some t =>
            have hlk : t ∈ o.looksAt os.toArray := by simp only [Oper.looksAt, hg, ht]; simp
            have := getElem?_of_getD (hI.sz.trans hFs.symm) (hval t hlk)
            simp only [Option.bind_some, this]
        simp only [hy]
    have hnext : ∀ v w', ((∀ d, o.dst = some d → v = Z.getD d undef) ∧ G (updL (lst listed) i) w') → FixI os.toArray a Z (fun _ => True) (listed.setIfInBounds i true) (A.put o.dst v) w' ∧ G (lst (listed.setIfInBounds i true)) w' := by
      rintro v w' ⟨h2, h3⟩
      refine ⟨(hI.par (Z' := Z) (w' := w') rfl (fun _ _ _ _ _ _ => rfl)).put hok ho hl hd v h2 (fun d hd' => hind o (List.mem_of_getElem? (hofs ho)) d hd') trivial, ?_⟩
      rw [lst_set hl]
      exact h3
    have hcl : ∀ k j, ancD os.toArray 12 k j = true → lst listed k = true → lst listed j = true := fun k j h1 h2 => ancD_spec hI.cl 12 k j h1 h2
    have hdep : ∀ j, dirD os.toArray i j = true → lst listed j = true := fun j hj => by
      obtain ⟨e, he', hb', rfl⟩ := dirD_spec ho hj
      exact hd e he' hb'
    unfold wpOp
    rw [ho]
    dsimp only
    rw [hwa]
    rcases hop (lst listed) W hlf hdep hcl hG with ⟨hw, hgv⟩ | ⟨hw, hnx⟩
    · rw [if_pos hw]
      refine .inl ?_
      unfold Oper.wp
      rw [hex]
      unfold GivesF at hgv
      generalize (execOp (Act.eval ⟨F, []⟩) o).run P W = r at *
      cases r with
      | ok n w' =>
        cases n with
        | value u => exact hnext _ _ hgv
        | skip => exact hnext _ _ hgv
        | enter f args =>
          refine Calls.mono hgv (fun e w'' hp => ?_)
          rcases hp with ⟨v, rfl, hR⟩ | ⟨ch, rfl, hH⟩
          · exact hnext _ _ hR
          · refine hQ i ch A w'' hI.df (hI.sz.trans hsz) (fun k hk => hI.off k (fun j p hp hpk => ?_)) hH
            rw [List.all_eq_true] at hk
            have hjl := (Array.getElem?_eq_some_iff.1 hp).1
            have h3 := hk j (by simpa using hjl)
            simp only [wrD, hp, Option.bind_some, hpk, beq_self_eq_true, Bool.not_true, Bool.false_or] at h3
            cases hlj : listed.getD j false with
            | false => rfl
            | true =>
              have := ancD_spec hI.cl 12 j i h3 hlj
              rw [getD_both hl] at this
              cases this
        | _ => exact hgv.elim
      | halt x w' => exact hgv.elim
    · rw [if_neg (by rw [hw]; decide)]
      exact hnext _ _ hnx
  · obtain ⟨hI, hG⟩ := hI
    have hall : ∀ i o, os.toArray[i]? = some o → listed.getD i false = true := by
      intro i
      induction i using Nat.strongRecOn with
      | _ i ih =>
        intro o ho
        refine all_listed hls hr i o ho (fun e he' hb' => ?_)
        have hlt := (okD_spec hok ho).2.1 e he' hb'
        have hil := (Array.getElem?_eq_some_iff.1 ho).1
        obtain ⟨p, hp⟩ : ∃ p, os.toArray[e.on]? = some p := ⟨_, Array.getElem?_eq_getElem (by omega)⟩
        exact ih e.on hlt p hp
    have hA : A = ⟨Z, a.defers⟩ := by
      obtain ⟨t, d⟩ := A
      have h1 := hI.sz
      have h2 := hI.df
      dsimp only at h1 h2
      subst h2
      congr 1
      apply Array.ext_getElem?
      intro k
      refine getElem?_of_getD h1 ?_
      by_cases hw : ∃ (j : Nat) (p : Oper), os.toArray[j]? = some p ∧ p.dst = some k
      · obtain ⟨j, p, hp, hpk⟩ := hw
        exact hI.on j p k hp hpk (hall j p hp)
      · have h3 := hI.off k (fun j p hp hpk => absurd ⟨j, p, hp, hpk⟩ hw)
        rw [h3, hb k (fun p hp hpt => by
          obtain ⟨j, hj⟩ := List.getElem?_of_mem hp
          exact hw ⟨j, p, by simpa using hj, hpt⟩)]
    rw [hA]
    exact he (lst listed) W (fun i hi => by
      obtain ⟨o, ho⟩ : ∃ o, os.toArray[i]? = some o := ⟨_, Array.getElem?_eq_getElem (by simpa using hi)⟩
      exact hall i o ho) hG
section
variable {P : Program} {ops : Array Oper} {F Z : Array Value} {G : (Nat → Bool) → World → Prop} {H : Nat → List PanicEntry → World → Prop} {i : Nat} {o : Oper}
theorem seqF_val (hw : Region.wanted o (yielded ops F) = true) (hG : ∀ l w, G l w → G (updL l i) w)
    (h : ∀ l w, l i = false → (∀ k j, ancD ops 12 k j = true → l k = true → l j = true) → G l w → (execOp (Act.eval ⟨F, []⟩) o).run P w = .ok (.value ((o.dst.map (fun d => Z.getD d undef)).getD undef)) w) : SeqOpF P ops F Z G H i o := by
  intro l w hl hd hc hg
  refine .inl ⟨hw, ?_⟩
  unfold GivesF
  rw [h l w hl hc hg]
  exact ⟨fun d hd' => by rw [hd']; rfl, hG l w hg⟩
theorem seqF_run (hw : Region.wanted o (yielded ops F) = true)
    (h : ∀ l w, l i = false → (∀ j, dirD ops i j = true → l j = true) → (∀ k j, ancD ops 12 k j = true → l k = true → l j = true) → G l w → ∃ w', (execOp (Act.eval ⟨F, []⟩) o).run P w = .ok (.value ((o.dst.map (fun d => Z.getD d undef)).getD undef)) w' ∧ G (updL l i) w') : SeqOpF P ops F Z G H i o := by
  intro l w hl hd hc hg
  obtain ⟨w', h1, h2⟩ := h l w hl hd hc hg
  refine .inl ⟨hw, ?_⟩
  unfold GivesF
  rw [h1]
  exact ⟨fun d hd' => by rw [hd']; rfl, h2⟩
theorem seqF_skip (hw : Region.wanted o (yielded ops F) = true) (hdst : o.dst = none)
    (h : ∀ l w, l i = false → (∀ j, dirD ops i j = true → l j = true) → (∀ k j, ancD ops 12 k j = true → l k = true → l j = true) → G l w → ∃ w', (execOp (Act.eval ⟨F, []⟩) o).run P w = .ok .skip w' ∧ G (updL l i) w') : SeqOpF P ops F Z G H i o := by
  intro l w hl hd hc hg
  obtain ⟨w', h1, h2⟩ := h l w hl hd hc hg
  refine .inl ⟨hw, ?_⟩
  unfold GivesF
  rw [h1]
  exact ⟨fun d hd' => (by rw [hdst] at hd'; cases hd'), h2⟩
theorem seqF_off (hw : Region.wanted o (yielded ops F) = false) (h : ∀ d, o.dst = some d → undef = Z.getD d undef) (hG : ∀ l w, G l w → G (updL l i) w) : SeqOpF P ops F Z G H i o :=
  fun l w _ _ _ hg => .inr ⟨hw, h, hG l w hg⟩
/-- A call that answers what stands ahead, or panics. -/
theorem seqF_call (hw : Region.wanted o (yielded ops F) = true) {f : FuncId} {args : List Operand} {ts : Array TypeId} (hx : o.op = .call { callee := .value (.func f), args := args.toArray, argTypes := ts }) {vs : List Value} (hvs : args.map (Act.eval ⟨F, []⟩) = vs) {fn : Func} (hfn : P.funcs[f]? = some fn) (hname : (fn.name == "runtime.NumGoroutine") = false) (hbody : fn.body.isNone = false)
    (hc : ∀ l w, l i = false → (∀ j, dirD ops i j = true → l j = true) → (∀ k j, ancD ops 12 k j = true → l k = true → l j = true) → G l w → Calls P f vs.toArray w fun e w' => (e = .returned ((o.dst.map (fun d => Z.getD d undef)).getD undef) ∧ G (updL l i) w') ∨ ∃ ch, e = .panicked ch ∧ H i ch w') : SeqOpF P ops F Z G H i o := by
  intro l w hl hd hcl hg
  refine .inl ⟨hw, ?_⟩
  have hr : (execOp (Act.eval ⟨F, []⟩) o).run P w = .ok (.enter f vs.toArray) w := by
    subst hvs
    obtain ⟨dst, op, ty, pos, after, guard⟩ := o
    dsimp only at hx
    subst hx
    rw [execOp_call_go]
    have h1 : ¬ fn.name = "runtime.NumGoroutine" := by simpa using hname
    have h2 : ¬ fn.body = none := fun e => by rw [e] at hbody; simp at hbody
    simp [callFunc, hfn, h1, h2, Result.andThen]
  unfold GivesF
  rw [hr]
  refine Calls.mono (hc l w hl hd hcl hg) (fun e w' h => ?_)
  rcases h with ⟨h1, h2⟩ | h
  · exact .inl ⟨_, h1, fun d hd' => by rw [hd']; rfl, h2⟩
  · exact .inr h
end
end Go.Proofs.YtifdfkkjmjabnaaDoor
namespace Go.Proofs.YtifdfkkjmjabnaaDoor
open Go.RowKit
/-- The reader's panic with an error. -/
def flt (e : Int) : List PanicEntry := [{ v := .iface 102 (.int .i64 e), recovered := false }]
/-- A call of a reader that fails with er: its own block alone was turned. -/
structure RdF (w : World) (q : Nat) (er : Int) (e : Ending) (w' : World) : Prop where
  out : e = .panicked (flt er)
  fr : Fr (fun k => k = q) w w'
theorem must_no (e : Int) (w : World) : Calls Tryd.prog 73 #[.bool false, .int .i64 e] w fun r w' => r = .panicked (flt e) ∧ w' = w := by
  go_enter Tryd.func73, Tryd.ntmps73
  go_wp2
  exact ⟨rfl, rfl, rfl⟩
set_option linter.unusedVariables false in
set_option maxRecDepth 100000 in
set_option maxHeartbeats 4000000 in
theorem rcut_no {W0 w : World} {q : Nat} {zs : List Nat} {sh : Int} (h : RdW W0 w q zs sh) (k : Nat) (hk : zs.length < k) (hk2 : k < 1000000) :
    Calls Tryd.prog 69 #[.pointer (some ⟨q, 0, none⟩), .int .i64 (k : Nat)] w (RdF w q sh) := by
  obtain ⟨b, off, n, c, hst, hs⟩ := h.ex
  have hl := hs.len
  rw [hl] at hk
  have HKC : Hid (w.drew.cell? ⟨q, 0, none⟩ = some (.slice (some ⟨b, off, none⟩) n c) ∧ w.drew.cell? ⟨q, 1, none⟩ = some (.int .i64 sh)) := by
    have s := hst.below (Below.refl _ _).drew
    exact ⟨s.cell 0 _ rfl, s.cell 1 _ rfl⟩
  have hk1 : ¬ (k : Int) ≤ (n : Int) := by omega
  have HF : Hid (Fr (fun k => k = q) w w.drew) := Fr.of_below (Below.refl _ _).drew
  clear hst hs h hl
  go_enter Tryd.func69, Tryd.ntmps69
  go_wp2_with fail
  refine wp_region_seqF mixedX [] (fun l V => V = w.drew ∧ l 11 = false) (fun _ ch V => ch = flt sh ∧ V = w.drew) [(6, .pointer (some ⟨q, 0, none⟩)), (7, .pointer (some ⟨q, 0, none⟩)), (8, .pointer (some ⟨q, 0, none⟩)), (9, .slice (some ⟨b, off, none⟩) n c), (10, .int .i64 (n : Nat)), (11, .int .i64 (k : Nat)), (12, .bool false), (13, .pointer (some ⟨q, 0, none⟩)), (14, .pointer (some ⟨q, 0, none⟩)), (15, .pointer (some ⟨q, 1, none⟩)), (16, .int .i64 sh), (17, .tuple #[])] ?Z1 ?hZ1 (by kernel_rfl) (by kernel_rfl) (by kernel_rfl) (by kernel_rfl) ?h01 ?hops1 ?hq1 ?he1
  case hZ1 => simp only [List.foldl_cons, List.foldl_nil, List.setIfInBounds_toArray, List.set_cons_zero, List.set_cons_succ]; rfl
  case h01 => exact ⟨rfl, rfl⟩
  case hops1 =>
    refine ⟨?_, ?_, ?_, ?_, ?_, ?_, ?_, ?_, ?_, ?_, ?_, ?_, trivial⟩
    · exact seqF_val (by rfl) (fun l V hg => by exact ⟨hg.1, by simpa [updL] using hg.2⟩) (fun l V hl hc hg => by obtain ⟨rfl, _⟩ := hg; obtain ⟨c0, c1⟩ := HKC.out; go_simp; (try with_reducible rfl); (try omega))
    · exact seqF_val (by rfl) (fun l V hg => by exact ⟨hg.1, by simpa [updL] using hg.2⟩) (fun l V hl hc hg => by obtain ⟨rfl, _⟩ := hg; obtain ⟨c0, c1⟩ := HKC.out; go_simp; (try with_reducible rfl); (try omega))
    · exact seqF_val (by rfl) (fun l V hg => by exact ⟨hg.1, by simpa [updL] using hg.2⟩) (fun l V hl hc hg => by obtain ⟨rfl, _⟩ := hg; obtain ⟨c0, c1⟩ := HKC.out; go_simp; (try with_reducible rfl); (try omega))
    · exact seqF_val (by rfl) (fun l V hg => by exact ⟨hg.1, by simpa [updL] using hg.2⟩) (fun l V hl hc hg => by obtain ⟨rfl, _⟩ := hg; obtain ⟨c0, c1⟩ := HKC.out; go_simp; (try with_reducible rfl); (try omega))
    · exact seqF_val (by rfl) (fun l V hg => by exact ⟨hg.1, by simpa [updL] using hg.2⟩) (fun l V hl hc hg => by obtain ⟨rfl, _⟩ := hg; obtain ⟨c0, c1⟩ := HKC.out; go_simp; (try with_reducible rfl); (try omega))
    · exact seqF_val (by rfl) (fun l V hg => by exact ⟨hg.1, by simpa [updL] using hg.2⟩) (fun l V hl hc hg => by obtain ⟨rfl, _⟩ := hg; obtain ⟨c0, c1⟩ := HKC.out; go_simp; (try with_reducible rfl); (try omega))
    · exact seqF_val (by rfl) (fun l V hg => by exact ⟨hg.1, by simpa [updL] using hg.2⟩) (fun l V hl hc hg => by obtain ⟨rfl, _⟩ := hg; obtain ⟨c0, c1⟩ := HKC.out; go_simp; (try with_reducible rfl); (try omega))
    · exact seqF_val (by rfl) (fun l V hg => by exact ⟨hg.1, by simpa [updL] using hg.2⟩) (fun l V hl hc hg => by obtain ⟨rfl, _⟩ := hg; obtain ⟨c0, c1⟩ := HKC.out; go_simp; (try with_reducible rfl); (try omega))
    · exact seqF_val (by rfl) (fun l V hg => by exact ⟨hg.1, by simpa [updL] using hg.2⟩) (fun l V hl hc hg => by obtain ⟨rfl, _⟩ := hg; obtain ⟨c0, c1⟩ := HKC.out; go_simp; (try with_reducible rfl); (try omega))
    · exact seqF_val (by rfl) (fun l V hg => by exact ⟨hg.1, by simpa [updL] using hg.2⟩) (fun l V hl hc hg => by obtain ⟨rfl, _⟩ := hg; obtain ⟨c0, c1⟩ := HKC.out; go_simp; (try with_reducible rfl); (try omega))
    · exact seqF_val (by rfl) (fun l V hg => by exact ⟨hg.1, by simpa [updL] using hg.2⟩) (fun l V hl hc hg => by obtain ⟨rfl, _⟩ := hg; obtain ⟨c0, c1⟩ := HKC.out; go_simp; (try with_reducible rfl); (try omega))
    · exact seqF_call (vs := [.bool false, .int .i64 sh]) (by rfl) rfl (by rfl) Tryd.func73 (by rfl) (by rfl) (fun l V hl hd hc hg => by
        obtain ⟨rfl, _⟩ := hg
        exact (must_no sh _).mono (fun e V h => .inr ⟨_, h.1, rfl, h.2⟩))
  case hq1 => 
    rintro i ch A w' hdf hsz hoff ⟨rfl, rfl⟩
    go_wp2
    exact ⟨hdf, rfl, HF.out⟩
  case he1 =>

  rintro l V hall ⟨_, hg⟩
  rw [hall 11 (by decide)] at hg
  cases hg
set_option linter.unusedVariables false in
set_option maxRecDepth 100000 in
theorem rnum_no {W0 w : World} {q : Nat} {zs : List Nat} {sh : Int} (h : RdW W0 w q zs sh) (k : Nat) (hk : zs.length < k) (hk2 : k < 1000000) :
    Calls Tryd.prog 72 #[.pointer (some ⟨q, 0, none⟩), .int .i64 (k : Nat)] w (RdF w q sh) := by
  have HCU := (show Hid _ from rcut_no h k hk hk2)
  clear h
  go_enter Tryd.func72, Tryd.ntmps72
  go_wp2_with fail
  refine Calls.mono HCU.out ?_
  clear HCU
  rintro e w1 hP
  obtain ⟨rfl, hf⟩ := hP
  have HF := (show Hid _ from hf)
  clear hf
  go_wp2
  exact ⟨rfl, rfl, HF.out⟩
set_option linter.unusedVariables false in
set_option maxRecDepth 100000 in
theorem rhalf_no {W0 w : World} {q : Nat} {zs : List Nat} {sh : Int} (h : RdW W0 w q zs sh) (hk : zs.length < 2) :
    Calls Tryd.prog 67 #[.pointer (some ⟨q, 0, none⟩)] w (RdF w q sh) := by
  have HCU := (show Hid _ from rnum_no h 2 hk (by decide))
  clear h
  go_enter Tryd.func67, Tryd.ntmps67
  go_wp2_with fail
  refine Calls.mono HCU.out ?_
  clear HCU
  rintro e w1 hP
  obtain ⟨rfl, hf⟩ := hP
  have HF := (show Hid _ from hf)
  clear hf
  go_wp2
  exact ⟨rfl, rfl, HF.out⟩
set_option linter.unusedVariables false in
set_option maxRecDepth 100000 in
theorem rword_no {W0 w : World} {q : Nat} {zs : List Nat} {sh : Int} (h : RdW W0 w q zs sh) (hk : zs.length < 4) :
    Calls Tryd.prog 68 #[.pointer (some ⟨q, 0, none⟩)] w (RdF w q sh) := by
  have HCU := (show Hid _ from rnum_no h 4 hk (by decide))
  clear h
  go_enter Tryd.func68, Tryd.ntmps68
  go_wp2_with fail
  refine Calls.mono HCU.out ?_
  clear HCU
  rintro e w1 hP
  obtain ⟨rfl, hf⟩ := hP
  have HF := (show Hid _ from hf)
  clear hf
  go_wp2
  exact ⟨rfl, rfl, HF.out⟩
set_option linter.unusedVariables false in
set_option maxRecDepth 100000 in
theorem rlen_no {W0 w : World} {q : Nat} {zs : List Nat} {sh : Int} (h : RdW W0 w q zs sh) (hk : zs.length < 2) :
    Calls Tryd.prog 74 #[.pointer (some ⟨q, 0, none⟩)] w (RdF w q sh) := by
  have HCU := (show Hid _ from rhalf_no h hk)
  clear h
  go_enter Tryd.func74, Tryd.ntmps74
  go_wp2_with fail
  refine Calls.mono HCU.out ?_
  clear HCU
  rintro e w1 hP
  obtain ⟨rfl, hf⟩ := hP
  have HF := (show Hid _ from hf)
  clear hf
  go_wp2
  exact ⟨rfl, rfl, HF.out⟩
set_option linter.unusedVariables false in
set_option maxRecDepth 100000 in
theorem rlen_low {W0 w : World} {q : Nat} {zs : List Nat} {sh : Int} (h : RdW W0 w q zs sh) (hk : 2 ≤ zs.length) (hn : numB (zs.take 2) < 4) :
    Calls Tryd.prog 74 #[.pointer (some ⟨q, 0, none⟩)] w (RdF w q 4) := by
  have HCU := (show Hid _ from rhalf_any h hk)
  clear h
  generalize numB (zs.take 2) = nv at *
  have hn1 : ¬ (4 : Int) ≤ (nv : Int) := by omega
  go_enter Tryd.func74, Tryd.ntmps74
  go_wp2_with fail
  refine Calls.mono HCU.out ?_
  clear HCU
  rintro e w1 hP
  obtain ⟨rfl, hr, hf⟩ := hP
  have HF := (show Hid _ from hf)
  clear hf hr
  go_wp2_with fail
  rw [show decide ((4 : Int) ≤ (nv : Int)) = false from decide_eq_false (by omega)]
  refine Calls.mono (must_no 4 w1) ?_
  rintro e w2 ⟨rfl, rfl⟩
  go_wp2
  exact ⟨rfl, rfl, HF.out⟩
end Go.Proofs.YtifdfkkjmjabnaaDoor
namespace Go.Proofs.YtifdfkkjmjabnaaDoor
open Go.RowKit
/-- Bytes that begin with no parameter. -/
def badP (zs : List Nat) : Prop := zs.length < 4 ∨ numB ((zs.drop 2).take 2) < 4 ∨ zs.length < numB ((zs.drop 2).take 2)
instance (zs : List Nat) : Decidable (badP zs) := inferInstanceAs (Decidable (_ ∨ _ ∨ _))
/-- The first parameter, and what is left behind it. -/
def pmOf (zs : List Nat) : Pm := ⟨numB (zs.take 2), (zs.drop 4).take (numB ((zs.drop 2).take 2) - 4)⟩
def nextP (zs : List Nat) : List Nat := ((zs.drop 4).drop (numB ((zs.drop 2).take 2) - 4)).drop (min (padN (numB ((zs.drop 2).take 2) - 4)) ((zs.drop 4).drop (numB ((zs.drop 2).take 2) - 4)).length)
def combP (ps : List Pm) : Except Int (List Pm) → Except Int (List Pm)
  | .ok l => .ok (ps ++ l)
  | .error e => .error e
/-- The parameters of bytes, k of them ahead. -/
def parP : Nat → Nat → List Nat → Except Int (List Pm)
  | 0, _, _ => .ok []
  | f + 1, k, zs => if zs = [] then .ok [] else if badP zs then .error 4 else if 16 ≤ k then .error 6 else combP [pmOf zs] (parP f (k + 1) (nextP zs))
theorem combP_comb (ps qs : List Pm) (r : Except Int (List Pm)) : combP ps (combP qs r) = combP (ps ++ qs) r := by
  cases r with
  | ok l => simp [combP]
  | error e => rfl
theorem combP_nil (r : Except Int (List Pm)) : combP [] r = r := by cases r <;> rfl
theorem nextP_len (zs : List Nat) (h : ¬ badP zs) : (nextP zs).length + 4 ≤ zs.length := by
  unfold badP at h
  unfold nextP
  simp only [List.length_drop]
  omega
/-- What takeParams does: r is what is parsed. -/
structure RpX (W0 w : World) (q : Nat) (r : Except Int (List Pm)) (e : Ending) (w' : World) : Prop where
  ok : ∀ ps, r = .ok ps → RpsP W0 w q ps 4 e w'
  no : ∀ er, r = .error er → RdF w q er e w'
theorem RpX.fail {W0 w w' : World} {q : Nat} {r : Except Int (List Pm)} {er : Int} (h : r = .error er) (hf : Fr (fun k => k = q ∨ w.heap.size ≤ k) w w') : RpX W0 w q r (.panicked (flt er)) w' := by
  subst h
  exact ⟨fun ps e => (by cases e), fun er2 e => by injection e with e; subst e; exact ⟨rfl, hf.mono (fun k hk hp => hp.elim id (fun e => by omega))⟩⟩
set_option linter.unusedVariables false in
set_option maxRecDepth 100000 in
set_option maxHeartbeats 8000000 in
theorem rparamsX {W0 w : World} {q : Nat} (zs0 : List Nat) (h : RdW W0 w q zs0 4) (hsm : zs0.length ≤ 2000) :
    Calls Tryd.prog 80 #[.pointer (some ⟨q, 0, none⟩)] w (RpX W0 w q (parP (zs0.length + 1) 0 zs0)) := by
  have hql := h.lt
  have hWq := h.old
  obtain ⟨r, hr⟩ : ∃ r, r = parP (zs0.length + 1) 0 zs0 := ⟨_, rfl⟩
  have HU : Hid (RuS W0 w q zs0 4 w ∧ PmO w w.heap.size none 0 0 [] ∧ r = combP [] (parP (zs0.length + 1) 0 zs0)) := ⟨⟨h, Fr.refl _ _⟩, ⟨[], rfl, OwnG.nil _ _, fun x hx => (by cases hx)⟩, by rw [combP_nil]; exact hr⟩
  rw [← hr]
  clear h hr
  go_enter Tryd.func80, Tryd.ntmps80
  go_wp2
  go_loopw [3] (fun u3 wr => ∃ (f i : Nat) (la : Option Addr) (lc : Nat) (ps : List Pm) (zs : List Nat), i = ps.length ∧ i ≤ 16 ∧ zs.length < f ∧ zs.length ≤ 2000 ∧ u3 = .slice la i lc ∧ RuS W0 w q zs 4 wr ∧ PmO wr w.heap.size la i lc ps ∧ r = combP ps (parP f i zs)) (fun u3 _ => match u3 with | .slice _ i _ => 17 - i | _ => 0)
  case atStart => exact ⟨zs0.length + 1, 0, none, 0, [], zs0, rfl, by omega, by omega, hsm, rfl, HU.out⟩
  case round =>
    obtain ⟨f, i, la, lc, ps, zs, hips, hi16, hf, hzs, rfl, hu, ho, hrr⟩ := hrel
    obtain ⟨f, rfl⟩ : ∃ g, f = g + 1 := ⟨f - 1, by omega⟩
    obtain ⟨b, off, m0, c, hst, hs⟩ := hu.rd.ex
    have c0 := hst.cell 0 _ rfl
    have hm := hs.len
    have HUO := (show Hid _ from And.intro hu ho)
    have HRR := (show Hid _ from hrr)
    have HIP := (show Hid _ from hips)
    clear hst hs hu ho HU hrr hips
    by_cases hz : zs = []
    · have hm0 : m0 = 0 := by rw [← hm, hz]; rfl
      have HF : Hid (RpX W0 w q r (.returned (.slice la i lc)) wr) := by
        obtain ⟨hu, ho⟩ := HUO.out
        have e1 : r = .ok ps := by rw [HRR.out, hz]; unfold parP; rw [if_pos rfl]; simp [combP]
        rw [hz] at hu
        refine ⟨fun ps' e => ?_, fun er e => by rw [e1] at e; cases e⟩
        rw [e1] at e
        injection e with e
        subst e
        refine ⟨⟨la, lc, by rw [HIP.out], ?_⟩, hu.rd, hu.fr.mono (fun k hk hp => hp.elim id (fun e => by omega))⟩
        rw [← HIP.out]
        exact ho
      subst hm0
      clear HUO hm hz HRR
      go_wp2
      go_ret
      exact HF.out
    · have hm0 : (0 : Int) < (m0 : Int) := by
        have : zs.length ≠ 0 := fun e => hz (List.eq_nil_of_length_eq_zero e)
        omega
      have hE4 : ∀ k, badP zs → parP (f + 1) k zs = .error 4 := fun k hb => by unfold parP; rw [if_neg hz, if_pos hb]
      have hE6 : ∀ k, ¬ badP zs → 16 ≤ k → parP (f + 1) k zs = .error 6 := fun k hb hk => by unfold parP; rw [if_neg hz, if_neg hb, if_pos hk]
      have hNX : ∀ k, ¬ badP zs → ¬ 16 ≤ k → parP (f + 1) k zs = combP [pmOf zs] (parP f (k + 1) (nextP zs)) := fun k hb hk => by conv => lhs; unfold parP; rw [if_neg hz, if_neg hb, if_neg hk]
      have HE4 := (show Hid _ from hE4)
      have HE6 := (show Hid _ from hE6)
      have HNX := (show Hid _ from hNX)
      clear hE4 hE6 hNX hz
      by_cases h2 : 2 ≤ zs.length
      case neg =>
        clear hm
        have HN := (show Hid _ from rhalf_no HUO.out.1.rd (by omega))
        have HRE : Hid (r = .error 4) := by
          show _ = _
          rw [HRR.out, HE4.out _ (by unfold badP; omega)]
          rfl
        go_wp2_with fail
        refine Calls.mono HN.out ?_
        clear HN
        rintro e w9 hP
        obtain ⟨rfl, hf⟩ := hP
        have HF : Hid (RpX W0 w q r (.panicked (flt 4)) w9) := RpX.fail HRE.out (HUO.out.1.fr.trans (hf.mono (fun _ _ hk => .inl hk)))
        clear hf HRE HRR
        go_wp2
        exact ⟨rfl, HF.out⟩
      have HN := (show Hid _ from rhalf_any HUO.out.1.rd h2)
      have HKB := (show Hid _ from numB_take HUO.out.1.rd.bnd 2 h2)
      obtain ⟨pk, hpk⟩ : ∃ pk, pk = numB (zs.take 2) := ⟨_, rfl⟩
      have HPK := (show Hid _ from hpk)
      rw [← hpk] at HN
      clear hm hpk
      go_wp2_with fail
      refine Calls.mono HN.out ?_
      clear HN c0 hm0
      rintro e w1 hP
      have he := hP.out
      subst he
      have HU1 : Hid (RuS W0 w q (zs.drop 2) 4 w1 ∧ PmO w1 w.heap.size la i lc ps) := ⟨HUO.out.1.next hP, HUO.out.2.fr hP.fr (fun g hg _ e => by omega)⟩
      clear HUO hP
      by_cases h4 : 4 ≤ zs.length
      case neg =>
        have HN := (show Hid _ from rlen_no HU1.out.1.rd (by rw [List.length_drop]; omega))
        have HRE : Hid (r = .error 4) := by
          show _ = _
          rw [HRR.out, HE4.out _ (by unfold badP; omega)]
          rfl
        go_wp2_with fail
        refine Calls.mono HN.out ?_
        clear HN
        rintro e w9 hP
        obtain ⟨rfl, hf⟩ := hP
        have HF : Hid (RpX W0 w q r (.panicked (flt 4)) w9) := RpX.fail HRE.out (HU1.out.1.fr.trans (hf.mono (fun _ _ hk => .inl hk)))
        clear hf HRE HRR
        go_wp2
        exact ⟨rfl, HF.out⟩
      have h22 : 2 ≤ (zs.drop 2).length := by rw [List.length_drop]; omega
      by_cases hn4 : numB ((zs.drop 2).take 2) < 4
      case pos =>
        have HN := (show Hid _ from rlen_low HU1.out.1.rd h22 hn4)
        have HRE : Hid (r = .error 4) := by
          show _ = _
          rw [HRR.out, HE4.out _ (by unfold badP; omega)]
          rfl
        go_wp2_with fail
        refine Calls.mono HN.out ?_
        clear HN
        rintro e w9 hP
        obtain ⟨rfl, hf⟩ := hP
        have HF : Hid (RpX W0 w q r (.panicked (flt 4)) w9) := RpX.fail HRE.out (HU1.out.1.fr.trans (hf.mono (fun _ _ hk => .inl hk)))
        clear hf HRE HRR
        go_wp2
        exact ⟨rfl, HF.out⟩
      obtain ⟨m, hmz⟩ : ∃ m, m = numB ((zs.drop 2).take 2) - 4 := ⟨_, rfl⟩
      have HMZ := (show Hid _ from hmz)
      have hmb : m < 65536 := by
        have := numB_take HU1.out.1.rd.bnd 2 h22
        omega
      have HN := (show Hid _ from rlen_any HU1.out.1.rd h22 m (by omega))
      rw [show (zs.drop 2).drop 2 = zs.drop 4 from by rw [List.drop_drop]] at HN
      clear h22 hmz
      go_wp2_with fail
      refine Calls.mono HN.out ?_
      clear HN
      rintro e w2 hP
      have he := hP.out
      subst he
      have HU2 : Hid (RuS W0 w q (zs.drop 4) 4 w2 ∧ PmO w2 w.heap.size la i lc ps) := ⟨HU1.out.1.next hP, HU1.out.2.fr hP.fr (fun g hg _ e => by omega)⟩
      clear HU1 hP
      by_cases hml : m ≤ (zs.drop 4).length
      case neg =>
        have hml2 : ¬ m ≤ zs.length - 4 := by rw [List.length_drop] at hml; exact hml
        have HN := (show Hid _ from rcut_no HU2.out.1.rd m (by omega) (by omega))
        have HRE : Hid (r = .error 4) := by
          show _ = _
          rw [HRR.out, HE4.out _ (by have := HMZ.out; unfold badP; omega)]
          rfl
        go_wp2_with fail
        refine Calls.mono HN.out ?_
        clear HN
        rintro e w9 hP
        obtain ⟨rfl, hf⟩ := hP
        have HF : Hid (RpX W0 w q r (.panicked (flt 4)) w9) := RpX.fail HRE.out (HU2.out.1.fr.trans (hf.mono (fun _ _ hk => .inl hk)))
        clear hf HRE HRR
        go_wp2
        exact ⟨rfl, HF.out⟩
      have hml2 : m ≤ zs.length - 4 := by rw [List.length_drop] at hml; exact hml
      have HNB : Hid (¬ badP zs) := by
        have := HMZ.out
        show ¬ _
        unfold badP
        omega
      have HN := (show Hid _ from rcut_any HU2.out.1.rd m hml)
      go_wp2_with fail
      refine Calls.mono HN.out ?_
      clear HN
      rintro e w3 hP
      obtain ⟨cb, co, cc, rfl, hs1⟩ := hP.ex
      have hrd3 := hP.rd
      obtain ⟨pz, hpz⟩ : ∃ pz, pz = (zs.drop 4).take m := ⟨_, rfl⟩
      obtain ⟨R, hR⟩ : ∃ R, R = (zs.drop 4).drop m := ⟨_, rfl⟩
      have hpl : pz.length = m := by rw [hpz, List.length_take]; omega
      have HPZ := (show Hid _ from hpz)
      have HRQ0 := (show Hid _ from hR)
      rw [← hpz] at hs1
      rw [← hR] at hrd3
      have HU3 : Hid (RuS W0 w q R 4 w3 ∧ PmO w3 w.heap.size la i lc ps) := ⟨⟨hrd3, HU2.out.1.fr.trans (hP.fr.mono (fun _ _ hk => .inl hk))⟩, HU2.out.2.fr hP.fr (fun g hg _ e => by omega)⟩
      have HC := (show Hid _ from clone_any _ m cc pz w3 (hs1.below hrd3.bel) (by omega))
      have HPL : Hid (m = pz.length) := hpl.symm
      have hRl : R.length ≤ 2000 := by rw [hR, List.length_drop, List.length_drop]; omega
      have HRL : Hid (R.length + 4 ≤ zs.length) := by
        show _ ≤ _
        rw [hR, List.length_drop, List.length_drop]
        omega
      clear HU2 hP hs1 hrd3 hpz hR hpl hml hml2 hn4
      by_cases hi : i < 16
      case neg =>
        have hi2 : ¬ (i : Int) < 16 := by omega
        have HRE : Hid (r = .error 6) := by
          show _ = _
          rw [HRR.out, HE6.out _ HNB.out (by omega)]
          rfl
        have HF : Hid (RpX W0 w q r (.panicked (flt 6)) w3) := RpX.fail HRE.out HU3.out.1.fr
        clear HRE HRR
        go_wp2_with fail
        rw [show decide ((i : Int) < 16) = false from decide_eq_false (by omega)]
        refine Calls.mono (must_no 6 w3) ?_
        rintro e v3 ⟨rfl, hv3⟩
        subst hv3
        go_wp2
        exact ⟨rfl, HF.out⟩
      obtain ⟨mn, hmn⟩ : ∃ mn, mn = min (padN m) R.length := ⟨_, rfl⟩
      obtain ⟨rr, hrr⟩ : ∃ rr, rr = R.drop mn := ⟨_, rfl⟩
      have HNXT : Hid (rr = nextP zs) := by
        show _ = _
        rw [hrr, hmn, HRQ0.out]
        unfold nextP
        rw [HMZ.out]
      have HPMO : Hid ((⟨pk, pz⟩ : Pm) = pmOf zs) := by
        show _ = _
        rw [HPK.out, HPZ.out, HMZ.out]
        rfl
      have HRR2 : Hid (r = combP (ps ++ [⟨pk, pz⟩]) (parP f (i + 1) rr)) := by
        show _ = _
        rw [HRR.out, HNX.out _ HNB.out (by omega), combP_comb, HPMO.out, HNXT.out]
      have hpmn : min (padN m : Int) ((R.length : Nat) : Int) = (mn : Int) := by omega
      have hpl := padN_lt m
      obtain ⟨pm, hpm⟩ : ∃ pm, pm = padN m := ⟨_, rfl⟩
      have HPD : Hid (∀ V, Calls Tryd.prog 41 #[.int .i64 (m : Nat)] V fun e w' => e = .returned (.int .i64 (pm : Nat)) ∧ w' = V) := fun V => by rw [hpm]; exact padding_any m V (by omega) _ rfl
      rw [← hpm] at hpmn
      have hi16' : (i : Int) < 16 := by omega
      have hil : i ≤ 1000 := by omega
      have HMN0 := (show Hid _ from hpmn)
      have HRRd : Hid (List.drop mn R = rr) := hrr.symm
      have hmnR : mn ≤ R.length := by omega
      have hrrl : rr.length + 4 ≤ zs.length := by
        have := HRL.out
        rw [hrr, List.length_drop]
        omega
      clear hpm hpl hpmn hmn hrr HRR HE4 HE6 HNX HNB HNXT HPMO HKB
      go_wp2_with fail
      refine Calls.mono (must_yes 6 w3) ?_
      rintro e v3 ⟨rfl, hv3⟩
      subst hv3
      go_wp2_with fail
      refine Calls.mono HC.out ?_
      clear HC
      rintro e w4 ⟨ma, mc, rfl, ho4, _, b4⟩
      have hsz4 : w.heap.size ≤ w4.heap.size := Nat.le_trans HU3.out.1.fr.size b4.size
      have hu4 := HU3.out.1.below b4
      have hom : OwnB w4 w.heap.size ma (Pm.mk pk pz).zs.length mc (Pm.mk pk pz).zs := by
        have := ho4.base HU3.out.1.fr.size
        rw [HPL.out] at this
        exact this
      obtain ⟨g7, c7, v4, hr7, ho7, hf7⟩ := (HU3.out.2.below b4).app hom hsz4 hil
      dsimp only at hr7
      rw [← HPL.out] at hr7
      have hu7 : RuS W0 w q R 4 v4 := ⟨hu4.rd.fr hf7 (fun e => by omega) (fun g hg => by omega), hu4.fr.trans (hf7.mono (fun k _ hk => .inr hk))⟩
      have bd : Below v4.heap.size v4 v4.drew := (Below.refl _ _).drew
      have hu8 := hu7.below bd
      have ho8 := ho7.below bd
      obtain ⟨lb, lo, ln, lc, hst, hsl⟩ := hu8.rd.ex
      have HC0 := (show Hid _ from hst.cell 0 _ rfl)
      have hln : ln = R.length := hsl.len.symm
      have hlnb : ln ≤ 2000 := by omega
      have HMN : Hid (∀ (ts : Array TypeId) (t : TypeId) (V : World), (Builtin.min_ ts t #[.int .i64 (pm : Nat), .int .i64 (ln : Nat)]).run Tryd.prog V = .ok (.int .i64 (mn : Nat)) V) := fun ts t V => by
        rw [Lib.run_min_ints, hln, HMN0.out]
      have HCT := (show Hid _ from rcut_any hu8.rd mn hmnR)
      have HU8 := (show Hid _ from And.intro hu8 ho8)
      clear HU3 ho4 b4 hsz4 hu4 hom ho7 hf7 hu7 bd hu8 ho8 hst hsl hln hmnR
      go_wp2_with (at_builtin; refine app_eq_listR rfl _ _ rfl rfl rfl rfl hr7 ?_)
      clear hr7
      refine wp_region_parW mixedX (fun θ : Nat × Nat × Nat => [(31, .pointer (some ⟨q, 0, none⟩)), (32, .int .i64 (m : Nat)), (33, .int .i64 (pm : Nat)), (34, .pointer (some ⟨q, 0, none⟩)), (35, .pointer (some ⟨q, 0, none⟩)), (36, .pointer (some ⟨q, 0, none⟩)), (37, .slice (some ⟨lb, lo, none⟩) ln lc), (38, .int .i64 (ln : Nat)), (39, .int .i64 (mn : Nat)), (40, .slice (some ⟨θ.1, θ.2.1, none⟩) mn θ.2.2)]) (fun θ l V => (l 9 = false → V = v4.drew) ∧ (l 9 = true → RdW W0 V q rr 4 ∧ Fr (fun k => k = q) v4.drew V)) (0, 0, 0) ?Z1 ?hZ1 (by kernel_rfl) (by kernel_rfl) (fun θ => by kernel_rfl) (by kernel_rfl) ?h01 ?hops1 ?he1
      case hZ1 => intro θ; simp only [List.foldl_cons, List.foldl_nil, List.setIfInBounds_toArray, List.set_cons_zero, List.set_cons_succ]; rfl
      case h01 => exact ⟨fun _ => rfl, fun e => (by cases e)⟩
      case hops1 =>
        refine ⟨?_, ?_, ?_, ?_, ?_, ?_, ?_, ?_, ?_, ?_, trivial⟩
        · exact par_val (fun θ => by rfl) (fun θ l V hg => ⟨fun e => hg.1 (by simpa [updL] using e), fun e => hg.2 (by simpa [updL] using e)⟩) (fun θ l V hl hc hd hg => by have hcF : l 9 = false := (by cases h : l 9 with | false => rfl | true => exact absurd (hc 9 0 (by kernel_rfl) h) (by rw [hl]; decide)); obtain rfl := hg.1 hcF; have c0 := HC0.out; have hmin := HMN.out; go_simp; (try with_reducible rfl); (try omega))
        · exact par_val (fun θ => by rfl) (fun θ l V hg => ⟨fun e => hg.1 (by simpa [updL] using e), fun e => hg.2 (by simpa [updL] using e)⟩) (fun θ l V hl hc hd hg => by have hcF : l 9 = false := (by cases h : l 9 with | false => rfl | true => exact absurd (hc 9 1 (by kernel_rfl) h) (by rw [hl]; decide)); obtain rfl := hg.1 hcF; have c0 := HC0.out; have hmin := HMN.out; go_simp; (try with_reducible rfl); (try omega))
        · exact par_call (fun θ => by rfl) rfl (vs := fun _ => [.int .i64 (m : Nat)]) (fun θ => by rfl) Tryd.func41 (by rfl) (by rfl) (fun θ l V hl hc hd hg => by
            refine Calls.mono (HPD.out V) ?_
            rintro e V2 ⟨rfl, hv⟩
            subst hv
            exact ⟨_, rfl, θ, fun _ _ _ _ _ _ => rfl, fun d hd => (by cases hd; rfl), ⟨fun e => hg.1 (by simpa [updL] using e), fun e => hg.2 (by simpa [updL] using e)⟩⟩)
        · exact par_val (fun θ => by rfl) (fun θ l V hg => ⟨fun e => hg.1 (by simpa [updL] using e), fun e => hg.2 (by simpa [updL] using e)⟩) (fun θ l V hl hc hd hg => by have hcF : l 9 = false := (by cases h : l 9 with | false => rfl | true => exact absurd (hc 9 3 (by kernel_rfl) h) (by rw [hl]; decide)); obtain rfl := hg.1 hcF; have c0 := HC0.out; have hmin := HMN.out; go_simp; (try with_reducible rfl); (try omega))
        · exact par_val (fun θ => by rfl) (fun θ l V hg => ⟨fun e => hg.1 (by simpa [updL] using e), fun e => hg.2 (by simpa [updL] using e)⟩) (fun θ l V hl hc hd hg => by have hcF : l 9 = false := (by cases h : l 9 with | false => rfl | true => exact absurd (hc 9 4 (by kernel_rfl) h) (by rw [hl]; decide)); obtain rfl := hg.1 hcF; have c0 := HC0.out; have hmin := HMN.out; go_simp; (try with_reducible rfl); (try omega))
        · exact par_val (fun θ => by rfl) (fun θ l V hg => ⟨fun e => hg.1 (by simpa [updL] using e), fun e => hg.2 (by simpa [updL] using e)⟩) (fun θ l V hl hc hd hg => by have hcF : l 9 = false := (by cases h : l 9 with | false => rfl | true => exact absurd (hc 9 5 (by kernel_rfl) h) (by rw [hl]; decide)); obtain rfl := hg.1 hcF; have c0 := HC0.out; have hmin := HMN.out; go_simp; (try with_reducible rfl); (try omega))
        · exact par_val (fun θ => by rfl) (fun θ l V hg => ⟨fun e => hg.1 (by simpa [updL] using e), fun e => hg.2 (by simpa [updL] using e)⟩) (fun θ l V hl hc hd hg => by have hcF : l 9 = false := (by cases h : l 9 with | false => rfl | true => exact absurd (hc 9 6 (by kernel_rfl) h) (by rw [hl]; decide)); obtain rfl := hg.1 hcF; have c0 := HC0.out; have hmin := HMN.out; go_simp; (try with_reducible rfl); (try omega))
        · exact par_val (fun θ => by rfl) (fun θ l V hg => ⟨fun e => hg.1 (by simpa [updL] using e), fun e => hg.2 (by simpa [updL] using e)⟩) (fun θ l V hl hc hd hg => by have hcF : l 9 = false := (by cases h : l 9 with | false => rfl | true => exact absurd (hc 9 7 (by kernel_rfl) h) (by rw [hl]; decide)); obtain rfl := hg.1 hcF; have c0 := HC0.out; have hmin := HMN.out; go_simp; (try with_reducible rfl); (try omega))
        · exact par_val (fun θ => by rfl) (fun θ l V hg => ⟨fun e => hg.1 (by simpa [updL] using e), fun e => hg.2 (by simpa [updL] using e)⟩) (fun θ l V hl hc hd hg => by have hcF : l 9 = false := (by cases h : l 9 with | false => rfl | true => exact absurd (hc 9 8 (by kernel_rfl) h) (by rw [hl]; decide)); obtain rfl := hg.1 hcF; have c0 := HC0.out; have hmin := HMN.out; go_simp; (try with_reducible rfl); (try omega))
        · exact par_call (fun θ => by rfl) rfl (vs := fun _ => [.pointer (some ⟨q, 0, none⟩), .int .i64 (mn : Nat)]) (fun θ => by rfl) Tryd.func69 (by rfl) (by rfl) (fun θ l V hl hc hd hg => by
            obtain rfl := hg.1 hl
            refine Calls.mono HCT.out ?_
            rintro e V2 hP
            obtain ⟨cb, co, cc, rfl, _⟩ := hP.ex
            exact ⟨_, rfl, next_set (by kernel_rfl) ((cb, co, cc) : Nat × Nat × Nat) [(40, .slice (some ⟨cb, co, none⟩) mn cc, 9)] (by simp only [List.foldl_cons, List.foldl_nil, List.setIfInBounds_toArray, List.set_cons_zero, List.set_cons_succ]) (by kernel_rfl) (fun y hy => by simp at hy; subst hy; exact hl) (fun d hd => by cases hd; rfl) ⟨fun e => (by simp [updL] at e), fun _ => ⟨by have := hP.rd; rwa [HRRd.out] at this, hP.fr⟩⟩⟩)
      case he1 =>
      rintro ⟨cb, co, cc⟩ l V hall hg
      have hP := hg.2 (hall 9 (by decide))
      clear hall hg
      dsimp only
      have HF : Hid (RuS W0 w q rr 4 V ∧ PmO V w.heap.size (some ⟨g7, 0, none⟩) (i + 1) c7 (ps ++ [⟨pk, pz⟩]) ∧ r = combP (ps ++ [⟨pk, pz⟩]) (parP f (i + 1) rr)) :=
        ⟨⟨hP.1, HU8.out.1.fr.trans (hP.2.mono (fun _ _ hk => .inl hk))⟩, HU8.out.2.fr hP.2 (fun g hg _ e => by omega), HRR2.out⟩
      clear hP HU8 HCT HMN HC0 HPD HRR2
      go_wp2
      go_roundw
      case rel => exact ⟨f, i + 1, _, _, ps ++ [⟨pk, pz⟩], rr, by rw [HIP.out]; simp, by omega, by omega, by omega, rfl, HF.out⟩
      case measure => simp; omega
end Go.Proofs.YtifdfkkjmjabnaaDoor
namespace Go.Proofs.YtifdfkkjmjabnaaDoor
open Go.RowKit
/-- nb blocks and nd doubles are told; bs and ds stand there, ex behind them. -/
structure SkC (nb nd : Nat) (bs : List (Nat × Nat)) (ds ex : List Nat) : Prop where
  le : bs.length ≤ nb
  ld : ds.length ≤ nd
  sb : bs.length < nb → ds = [] ∧ ex.length < 4
  sd : bs.length = nb → ds.length < nd → ex.length < 4
structure RdKx (W0 w : World) (q : Nat) (tsn room : Nat) (bs : List (Nat × Nat)) (ds ex : List Nat) (sh : Int) (e : Ending) (w' : World) : Prop where
  got : ∃ la lc ma mc, e = .returned (.iface 84 (.agg #[.int .u32 (tsn : Nat), .int .u32 (room : Nat), .slice la bs.length lc, .slice ma ds.length mc])) ∧ OwnK w' w.heap.size la bs.length lc bs ∧ OwnD w' w.heap.size ma ds.length mc ds
  rd : RdW W0 w' q ex sh
  fr : Fr (fun k => k = q) w w'
structure RkX (W0 w : World) (q : Nat) (tsn room nb nd : Nat) (bs : List (Nat × Nat)) (ds ex : List Nat) (sh : Int) (e : Ending) (w' : World) : Prop where
  ok : bs.length = nb ∧ ds.length = nd → RdKx W0 w q tsn room bs ds ex sh e w'
  no : ¬ (bs.length = nb ∧ ds.length = nd) → RdF w q sh e w'
theorem RkX.fail {W0 w w' : World} {q : Nat} {tsn room nb nd : Nat} {bs : List (Nat × Nat)} {ds ex : List Nat} {sh : Int} (h : ¬ (bs.length = nb ∧ ds.length = nd)) (hf : Fr (fun k => k = q ∨ w.heap.size ≤ k) w w') : RkX W0 w q tsn room nb nd bs ds ex sh (.panicked (flt sh)) w' :=
  ⟨fun e => absurd e h, fun _ => ⟨rfl, hf.mono (fun k hk hp => hp.elim id (fun e => by omega))⟩⟩
set_option linter.unusedVariables false in
set_option maxRecDepth 100000 in
set_option maxHeartbeats 8000000 in
theorem rsackX {W0 w : World} {q : Nat} {sh : Int} (tsn room nb nd : Nat) (bs : List (Nat × Nat)) (ds ex : List Nat) (h : RdW W0 w q (bytesB tsn 4 ++ (bytesB room 4 ++ (bytesB nb 2 ++ (bytesB nd 2 ++ (bksB bs ++ (dusB ds ++ ex)))))) sh) (htb : tsn < 4294967296) (hrb : room < 4294967296) (hbn : nb < 65536) (hdn : nd < 65536) (hbl : bs.length ≤ 1000) (hdl : ds.length ≤ 1000) (hbb : ∀ p ∈ bs, p.1 < 65536 ∧ p.2 < 65536) (hdb : ∀ d ∈ ds, d < 4294967296) (hcs : SkC nb nd bs ds ex) :
    Calls Tryd.prog 79 #[.pointer (some ⟨q, 0, none⟩)] w (RkX W0 w q tsn room nb nd bs ds ex sh) := by
  have hql := h.lt
  have hWq := h.old
  have hWw : W0.heap.size ≤ w.heap.size := by omega
  have HBB := (show Hid _ from And.intro hbb hdb)
  have HNB := (show Hid _ from hcs)
  have HLL := (show Hid _ from And.intro hbl hdl)
  obtain ⟨W1, hW1⟩ : ∃ W1, W1 = w.alloc (.cells #[.int .u32 0, .int .u32 0, .slice none 0 0, .slice none 0 0] 84) := ⟨_, rfl⟩
  have b1 : Below w.heap.size w W1 := by rw [hW1]; exact (Below.refl _ _).alloc (Nat.le_refl _) _
  have s1 := Stc.new w [.int .u32 0, .int .u32 0, .slice none 0 0, .slice none 0 0] 84 W1 hW1
  have hz := zero_sv
  have HU0 : Hid (RuS W0 w q _ sh W1 ∧ Stc W1 w.heap.size [.int .u32 0, .int .u32 0, .slice none 0 0, .slice none 0 0]) := ⟨⟨h.below b1, Fr.of_below b1⟩, s1⟩
  have HN := (show Hid _ from rword_any HU0.out.1.rd (by simp [bytesB_len]))
  rw [take4B, drop4B, numB_four htb] at HN
  clear h b1 s1 hbb hdb hcs hbl hdl
  go_enter Tryd.func79, Tryd.ntmps79
  go_wp2_with fail
  rw [← hW1]
  clear hW1 hz
  refine Calls.mono HN.out ?_
  clear HN
  rintro e v0 hP
  have he := hP.out
  subst he
  obtain ⟨hu, s1⟩ := HU0.out
  replace s1 := s1.fr hP.fr (by omega)
  replace hu := hu.next hP
  have f0 := s1.free 0
  have c0 := s1.cell 0 _ rfl
  have hf := Fr.setCell (fun k => k = w.heap.size) v0 ⟨w.heap.size, 0, none⟩ (.int .u32 (tsn : Nat)) rfl
  obtain ⟨w1, hw1⟩ : ∃ w1, w1 = v0.setCell ⟨w.heap.size, 0, none⟩ (.int .u32 (tsn : Nat)) := ⟨_, rfl⟩
  have HU1 : Hid (RuS W0 w q (bytesB room 4 ++ (bytesB nb 2 ++ (bytesB nd 2 ++ (bksB bs ++ (dusB ds ++ ex))))) sh w1 ∧ Stc w1 w.heap.size [.int .u32 (tsn : Nat), .int .u32 0, .slice none 0 0, .slice none 0 0]) := by
    rw [hw1]
    exact ⟨hu.own (Nat.le_refl _) hql (by omega) hf, s1.set 0 _⟩
  clear HU0 hP hu s1 hf
  have HN := (show Hid _ from rword_any HU1.out.1.rd (by simp [bytesB_len]))
  rw [take4B, drop4B, numB_four hrb] at HN
  go_wp2_with fail
  rw [← hw1]
  clear hw1 f0 c0
  refine Calls.mono HN.out ?_
  clear HN
  rintro e v1 hP
  have he := hP.out
  subst he
  obtain ⟨hu, s1⟩ := HU1.out
  replace s1 := s1.fr hP.fr (by omega)
  replace hu := hu.next hP
  have f0 := s1.free 1
  have c0 := s1.cell 1 _ rfl
  have hf := Fr.setCell (fun k => k = w.heap.size) v1 ⟨w.heap.size, 1, none⟩ (.int .u32 (room : Nat)) rfl
  obtain ⟨w2, hw2⟩ : ∃ w2, w2 = v1.setCell ⟨w.heap.size, 1, none⟩ (.int .u32 (room : Nat)) := ⟨_, rfl⟩
  have HU2 : Hid (SkS W0 w q sh (bytesB nb 2 ++ (bytesB nd 2 ++ (bksB bs ++ (dusB ds ++ ex)))) tsn room none 0 none 0 [] [] w2) := by
    rw [hw2]
    exact ⟨hu.own (Nat.le_refl _) hql (by omega) hf, s1.set 1 _, OwnG.nil _ _, OwnG.nil _ _⟩
  clear HU1 hP hu s1 hf
  have HN := (show Hid _ from rhalf_any HU2.out.ru.rd (by simp [bytesB_len]))
  rw [take2B, drop2B, numB_two (by omega)] at HN
  go_wp2_with fail
  rw [← hw2]
  clear hw2 f0 c0
  refine Calls.mono HN.out ?_
  clear HN
  rintro e w3 hP
  have he := hP.out
  subst he
  have HU3 := (show Hid _ from HU2.out.next hql hP)
  clear HU2 hP
  have HN := (show Hid _ from rhalf_any HU3.out.ru.rd (by simp [bytesB_len]))
  rw [take2B, drop2B, numB_two (by omega)] at HN
  go_wp2_with fail
  refine Calls.mono HN.out ?_
  clear HN
  rintro e w4 hP
  have he := hP.out
  subst he
  have HU4 : Hid (SkS W0 w q sh (bksB (bs.drop 0) ++ (dusB ds ++ ex)) tsn room none 0 none 0 (bs.take 0) [] w4) := HU3.out.next hql hP
  clear HU3 hP
  go_wp2
  go_loopw [19] (fun u19 wr => ∃ (i : Nat) (la : Option Addr) (lc : Nat), i ≤ bs.length ∧ u19 = .int .u16 (i : Nat) ∧ SkS W0 w q sh (bksB (bs.drop i) ++ (dusB ds ++ ex)) tsn room la lc none 0 (bs.take i) [] wr) (fun u19 _ => nb - (intOf u19).toNat)
  case atStart => exact ⟨0, none, 0, by omega, rfl, HU4.out⟩
  case round =>
    obtain ⟨i, la, lc, hin, rfl, hS⟩ := hrel
    have hli : (bs.take i).length = i := by rw [List.length_take]; omega
    have hbl := HNB.out.le
    have hll := HLL.out.1
    by_cases hlt2 : i < nb
    · have hlt1 : (i : Int) < (nb : Int) := by omega
      by_cases hil : i < bs.length
      case neg =>
        obtain ⟨hds, hex⟩ := HNB.out.sb (by omega)
        have hbd : bs.drop i = [] := List.drop_of_length_le (by omega)
        rw [hbd, hds] at hS
        have hS' : SkS W0 w q sh ex tsn room la lc none 0 (bs.take i) [] wr := hS
        have HS := (show Hid _ from hS')
        have HNO : Hid (¬ (bs.length = nb ∧ ds.length = nd)) := fun e => by omega
        clear hS hS' hbd hds HU4
        by_cases h2 : 2 ≤ ex.length
        · have HN := (show Hid _ from rhalf_any HS.out.ru.rd h2)
          generalize numB (ex.take 2) = nv at *
          go_wp2_with fail
          refine Calls.mono HN.out ?_
          clear HN
          rintro e u1 hP
          have he := hP.out
          subst he
          have HS1 := (show Hid _ from HS.out.next hql hP)
          clear HS hP
          have HN := (show Hid _ from rhalf_no HS1.out.ru.rd (by rw [List.length_drop]; omega))
          go_wp2_with fail
          refine Calls.mono HN.out ?_
          clear HN
          rintro e u2 hP
          obtain ⟨rfl, hf⟩ := hP
          have HF : Hid (RkX W0 w q tsn room nb nd bs ds ex sh (.panicked (flt sh)) u2) := RkX.fail HNO.out (HS1.out.ru.fr.trans (hf.mono (fun _ _ hk => .inl hk)))
          clear hf HS1
          go_wp2
          exact ⟨rfl, HF.out⟩
        · have HN := (show Hid _ from rhalf_no HS.out.ru.rd (by omega))
          go_wp2_with fail
          refine Calls.mono HN.out ?_
          clear HN
          rintro e u2 hP
          obtain ⟨rfl, hf⟩ := hP
          have HF : Hid (RkX W0 w q tsn room nb nd bs ds ex sh (.panicked (flt sh)) u2) := RkX.fail HNO.out (HS.out.ru.fr.trans (hf.mono (fun _ _ hk => .inl hk)))
          clear hf HS
          go_wp2
          exact ⟨rfl, HF.out⟩
      obtain ⟨p, hd, hpi⟩ : ∃ p, bs.drop i = p :: bs.drop (i + 1) ∧ bs[i]? = some p := ⟨bs[i], List.drop_eq_getElem_cons hil, List.getElem?_eq_getElem hil⟩
      obtain ⟨hp1, hp2⟩ := HBB.out.1 p (List.mem_of_getElem? hpi)
      have HTK : Hid (bs.take i ++ [p] = bs.take (i + 1)) := by rw [List.take_add_one, hpi]; rfl
      rw [hd, bksB_cons] at hS
      obtain ⟨f1, f2⟩ := p
      dsimp only at hp1 hp2 hS
      have HS := (show Hid _ from hS)
      have HN := (show Hid _ from rhalf_any hS.ru.rd (by simp [bytesB_len]))
      rw [take2B, drop2B, numB_two hp1] at HN
      have hwi : IntKind.u16.wrap ((i : Int) + 1) = (i : Int) + 1 := by rw [IntKind.wrap_u16]; omega
      clear hS hd hpi HU4
      go_wp2_with fail
      refine Calls.mono HN.out ?_
      clear HN
      rintro e u1 hP
      have he := hP.out
      subst he
      have HS1 := (show Hid _ from HS.out.next hql hP)
      clear HS hP
      have HN := (show Hid _ from rhalf_any HS1.out.ru.rd (by simp [bytesB_len]))
      rw [take2B, drop2B, numB_two hp2] at HN
      go_wp2_with fail
      refine Calls.mono HN.out ?_
      clear HN
      rintro e u2 hP
      have he := hP.out
      subst he
      have hS2 := HS1.out.next hql hP
      clear HS1 hP
      obtain ⟨g7, c7, v7, hr7, r7, hs7⟩ := hS2.blk hql hWw (f1, f2) (by omega)
      have k2 := hS2.st.cell 2 _ rfl
      rw [hli] at hr7 r7 hs7 k2
      rw [HTK.out] at hs7
      have k7 := r7.cell 2 _ rfl
      have f7 := r7.free 2
      have HF := (show Hid _ from hs7)
      dsimp only at hr7
      clear hS2 hs7 r7
      go_wp2_with (at_builtin; refine app_eq_listR rfl _ _ rfl rfl rfl rfl hr7 ?_)
      clear hr7 k2
      go_wp2
      go_roundw
      case rel => exact ⟨i + 1, _, _, by omega, by go_num, HF.out⟩
      case measure => simp [intOf]; omega
    · have hlt1 : ¬ (i : Int) < (nb : Int) := by omega
      have HBL : Hid (bs.length = nb) := by show _ = _; omega
      have hbe : bs.take i = bs := List.take_of_length_le (by omega)
      have hbd : bs.drop i = [] := List.drop_of_length_le (by omega)
      have HS5 : Hid (SkS W0 w q sh (dusB (ds.drop 0) ++ ex) tsn room la lc none 0 bs (ds.take 0) wr) := by
        rw [hbe, hbd] at hS
        exact hS
      clear hS hbe hbd hli HU4
      go_wp2
      go_loopw [35] (fun u35 wr => ∃ (j : Nat) (ma : Option Addr) (mc : Nat), j ≤ ds.length ∧ u35 = .int .u16 (j : Nat) ∧ SkS W0 w q sh (dusB (ds.drop j) ++ ex) tsn room la lc ma mc bs (ds.take j) wr) (fun u35 _ => nd - (intOf u35).toNat)
      case atStart => exact ⟨0, none, 0, by omega, rfl, HS5.out⟩
      case round =>
        clear hlt1 hlt2
        obtain ⟨j, ma, mc, hjn, rfl, hS⟩ := hrel
        have hlj : (ds.take j).length = j := by rw [List.length_take]; omega
        have hdl := HNB.out.ld
        have hll2 := HLL.out.2
        by_cases hlt2 : j < nd
        · have hlt1 : (j : Int) < (nd : Int) := by omega
          by_cases hjl : j < ds.length
          case neg =>
            have hex := HNB.out.sd HBL.out (by omega)
            have hdd : ds.drop j = [] := List.drop_of_length_le (by omega)
            rw [hdd] at hS
            have hS' : SkS W0 w q sh ex tsn room la lc ma mc bs (ds.take j) wr := hS
            have HNO : Hid (¬ (bs.length = nb ∧ ds.length = nd)) := fun e => by omega
            have hSd := hS'.below ((Below.refl _ _).drew : Below wr.heap.size wr wr.drew)
            have HWN := (show Hid _ from rword_no hSd.ru.rd hex)
            have HSF := (show Hid _ from hS'.ru.fr)
            have HL0 : Hid (wr.drew.cell? ⟨w.heap.size, 3, none⟩ = some (.slice ma j mc)) := by
              have := hSd.st.cell 3 _ rfl
              rw [hlj] at this
              exact this
            clear hS hS' hSd hdd HS5 hlj hex
            go_wp2_with fail
            refine wp_region_seqF mixedX [] (fun l V => V = wr.drew ∧ l 3 = false) (fun _ ch V => ch = flt sh ∧ Fr (fun k => k = q) wr.drew V) [(37, .pointer (some ⟨w.heap.size, 3, none⟩)), (38, .slice ma j mc), (39, .pointer (some ⟨q, 0, none⟩)), (40, .int .u32 0), (41, undef), (42, undef), (43, .pointer (some ⟨w.heap.size, 3, none⟩))] ?Z1 ?hZ1 (by kernel_rfl) (by kernel_rfl) (by kernel_rfl) (by kernel_rfl) ?h01 ?hops1 ?hq1 ?he1
            case hZ1 => simp only [List.foldl_cons, List.foldl_nil, List.setIfInBounds_toArray, List.set_cons_zero, List.set_cons_succ]; rfl
            case h01 => exact ⟨rfl, rfl⟩
            case hops1 =>
              refine ⟨?_, ?_, ?_, ?_, ?_, ?_, ?_, ?_, trivial⟩
              · exact seqF_val (by rfl) (fun l V hg => by exact ⟨hg.1, by simpa [updL] using hg.2⟩) (fun l V hl hc hg => by obtain ⟨rfl, _⟩ := hg; have d3 := HL0.out; go_simp; (try with_reducible rfl); (try omega))
              · exact seqF_val (by rfl) (fun l V hg => by exact ⟨hg.1, by simpa [updL] using hg.2⟩) (fun l V hl hc hg => by obtain ⟨rfl, _⟩ := hg; have d3 := HL0.out; go_simp; (try with_reducible rfl); (try omega))
              · exact seqF_val (by rfl) (fun l V hg => by exact ⟨hg.1, by simpa [updL] using hg.2⟩) (fun l V hl hc hg => by obtain ⟨rfl, _⟩ := hg; have d3 := HL0.out; go_simp; (try with_reducible rfl); (try omega))
              · exact seqF_call (vs := [.pointer (some ⟨q, 0, none⟩)]) (by rfl) rfl (by rfl) Tryd.func68 (by rfl) (by rfl) (fun l V hl hd hc hg => by
                  obtain ⟨rfl, _⟩ := hg
                  exact Calls.mono HWN.out (fun e V h => .inr ⟨_, h.out, rfl, h.fr⟩))
              · exact fun l V hl hd hc hg => absurd (hd 3 (by kernel_rfl)) (by have h3 : l 3 = false := hg.2; intro hj; rw [h3] at hj; cases hj)
              · exact fun l V hl hd hc hg => absurd (hd 4 (by kernel_rfl)) (by have h3 : l 3 = false := hg.2; intro hj; have := hc 4 3 (by kernel_rfl) hj; rw [h3] at this; cases this)
              · exact seqF_val (by rfl) (fun l V hg => by exact ⟨hg.1, by simpa [updL] using hg.2⟩) (fun l V hl hc hg => by obtain ⟨rfl, _⟩ := hg; have d3 := HL0.out; go_simp; (try with_reducible rfl); (try omega))
              · exact fun l V hl hd hc hg => absurd (hd 5 (by kernel_rfl)) (by have h3 : l 3 = false := hg.2; intro hj; have := hc 5 3 (by kernel_rfl) hj; rw [h3] at this; cases this)
            case hq1 => 
                rintro i ch A w' hdf hsz hoff ⟨rfl, hf⟩
                have HF : Hid (RkX W0 w q tsn room nb nd bs ds ex sh (.panicked (flt sh)) w') := RkX.fail HNO.out ((HSF.out.trans (Fr.of_below (Below.refl _ _).drew)).trans (hf.mono (fun _ _ hk => .inl hk)))
                clear hf
                go_wp2
                exact ⟨hdf, HF.out⟩
            case he1 =>

            rintro l V hall ⟨_, hg⟩
            rw [hall 3 (by decide)] at hg
            cases hg
          obtain ⟨d, hd, hdi⟩ : ∃ d, ds.drop j = d :: ds.drop (j + 1) ∧ ds[j]? = some d := ⟨ds[j], List.drop_eq_getElem_cons hjl, List.getElem?_eq_getElem hjl⟩
          have hdb := HBB.out.2 d (List.mem_of_getElem? hdi)
          have HTK : Hid (ds.take j ++ [d] = ds.take (j + 1)) := by rw [List.take_add_one, hdi]; rfl
          rw [hd, dusB_cons, List.append_assoc] at hS
          have hSd := hS.below ((Below.refl _ _).drew : Below wr.heap.size wr wr.drew)
          have hwi : IntKind.u16.wrap ((j : Int) + 1) = (j : Int) + 1 := by rw [IntKind.wrap_u16]; omega
          obtain ⟨S1, hS1⟩ : ∃ S1 : World → Prop, S1 = SkS W0 w q sh (dusB (ds.drop (j + 1)) ++ ex) tsn room la lc ma mc bs (ds.take j) := ⟨_, rfl⟩
          obtain ⟨FF, hFF⟩ : ∃ FF : Nat → Nat → World → Prop, FF = fun g c V => SkS W0 w q sh (dusB (ds.drop (j + 1)) ++ ex) tsn room la lc (some ⟨g, 0, none⟩) c bs (ds.take (j + 1)) V := ⟨_, rfl⟩
          have HWD : Hid (Calls Tryd.prog 68 #[.pointer (some ⟨q, 0, none⟩)] wr.drew fun e V => e = .returned (.int .u32 (d : Nat)) ∧ S1 V) := by
            have hN := rword_any hSd.ru.rd (by simp [bytesB_len])
            rw [take4B, drop4B, numB_four hdb] at hN
            refine Calls.mono hN ?_
            intro e V hP
            exact ⟨hP.out, by rw [hS1]; exact hSd.next hql hP⟩
          have HL0 : Hid (wr.drew.cell? ⟨w.heap.size, 3, none⟩ = some (.slice ma j mc)) := by
            have := hSd.st.cell 3 _ rfl
            rw [hlj] at this
            exact this
          have HL1 : Hid (∀ V, S1 V → V.cell? ⟨w.heap.size, 3, none⟩ = some (.slice ma j mc)) := fun V hV => by
            rw [hS1] at hV
            have := hV.st.cell 3 _ rfl
            rw [hlj] at this
            exact this
          have HL2 : Hid (∀ V, S1 V → (V.alloc (.cells #[.int .u32 (d : Nat)] 22)).cell? ⟨w.heap.size, 3, none⟩ = some (.slice ma j mc)) := fun V hV => by
            rw [hS1] at hV
            have := (hV.below ((Below.refl _ _).alloc (Nat.le_refl _) (.cells #[.int .u32 (d : Nat)] 22))).st.cell 3 _ rfl
            rw [hlj] at this
            exact this
          have HAP : Hid (∀ V, S1 V → ∃ g c' V', (Builtin.append_ #[25, 25] 25 #[.slice ma j mc, .slice (some ⟨V.heap.size, 0, none⟩) 1 1]).run Tryd.prog (V.alloc (.cells #[.int .u32 (d : Nat)] 22)) = .ok (.slice (some ⟨g, 0, none⟩) (j + 1) c') V' ∧ V'.cell? ⟨w.heap.size, 3, none⟩ = some (.slice ma j mc) ∧ V'.frozen? ⟨w.heap.size, 3, none⟩ = false ∧ FF g c' (V'.setCell ⟨w.heap.size, 3, none⟩ (.slice (some ⟨g, 0, none⟩) (j + 1) c'))) := fun V hV => by
            rw [hS1] at hV
            obtain ⟨g, c', V', hr, r2, hs⟩ := hV.dup hql hWw d (by omega)
            rw [hlj] at hr r2 hs
            rw [HTK.out] at hs
            exact ⟨g, c', V', hr, r2.cell 3 _ rfl, r2.free 3, by rw [hFF]; exact hs⟩
          have HFF := (show Hid _ from hFF)
          clear hS hd hdi HS5 hSd hS1 hFF hlj hdb
          go_wp2_with fail
          refine wp_region_parW mixedX (fun θ : Nat × Nat × Nat => [(37, .pointer (some ⟨w.heap.size, 3, none⟩)), (38, .slice ma j mc), (39, .pointer (some ⟨q, 0, none⟩)), (40, .int .u32 (d : Nat)), (41, .slice (some ⟨θ.1, 0, none⟩) 1 1), (42, .slice (some ⟨θ.2.1, 0, none⟩) (j + 1) θ.2.2), (43, .pointer (some ⟨w.heap.size, 3, none⟩))]) (SkG wr.drew w.heap.size (.slice ma j mc) d j S1 FF) (0, 0, 0) ?Y1 ?hY1 (by kernel_rfl) (by kernel_rfl) (fun θ => by kernel_rfl) (by kernel_rfl) ?g01 ?gops1 ?ge1
          case hY1 => intro θ; simp only [List.foldl_cons, List.foldl_nil, List.setIfInBounds_toArray, List.set_cons_zero, List.set_cons_succ]; rfl
          case g01 => exact SkG.start _
          case gops1 =>
            refine ⟨?_, ?_, ?_, ?_, ?_, ?_, ?_, ?_, trivial⟩
            · exact par_val (fun θ => by rfl) (fun θ l V hg => hg.other 0 (by decide) (by decide) (by decide) (by decide)) (fun θ l V hl hc hd hg => by go_simp; (try with_reducible rfl); (try omega))
            · exact par_val (fun θ => by rfl) (fun θ l V hg => hg.other 1 (by decide) (by decide) (by decide) (by decide)) (fun θ l V hl hc hd hg => by have h7 : l 7 = false := (by cases h : l 7 with | false => rfl | true => exact absurd (hc 7 1 (by kernel_rfl) h) (by rw [hl]; decide)); have d3 := hg.cell h7 HL0.out HL1.out HL2.out; go_simp; (try with_reducible rfl); (try omega))
            · exact par_val (fun θ => by rfl) (fun θ l V hg => hg.other 2 (by decide) (by decide) (by decide) (by decide)) (fun θ l V hl hc hd hg => by go_simp; (try with_reducible rfl); (try omega))
            · exact par_call (fun θ => by rfl) rfl (vs := fun _ => [.pointer (some ⟨q, 0, none⟩)]) (fun θ => by rfl) Tryd.func68 (by rfl) (by rfl) (fun θ l V hl hc hd hg => by
                have h4 : l 4 = false := (by cases h : l 4 with | false => rfl | true => exact absurd (hc 4 3 (by kernel_rfl) h) (by rw [hl]; decide))
                have h5 : l 5 = false := (by cases h : l 5 with | false => rfl | true => exact absurd (hc 5 3 (by kernel_rfl) h) (by rw [hl]; decide))
                have h7 : l 7 = false := (by cases h : l 7 with | false => rfl | true => exact absurd (hc 7 3 (by kernel_rfl) h) (by rw [hl]; decide))
                obtain rfl := hg.s0 hl
                refine Calls.mono HWD.out ?_
                rintro e V2 ⟨rfl, h2⟩
                exact ⟨_, rfl, θ, fun _ _ _ _ _ _ => rfl, fun d hd => (by cases hd; rfl), SkG.call h4 h5 h7 h2⟩)
            · exact par_run (fun θ => by rfl) (fun θ l V hl hc hd hg => by
                have h3 : l 3 = true := hd 3 (by kernel_rfl)
                have h5 : l 5 = false := (by cases h : l 5 with | false => rfl | true => exact absurd (hc 5 4 (by kernel_rfl) h) (by rw [hl]; decide))
                have h7 : l 7 = false := (by cases h : l 7 with | false => rfl | true => exact absurd (hc 7 4 (by kernel_rfl) h) (by rw [hl]; decide))
                refine ⟨_, _, run_bsd d V (by rfl) (by rfl), ?_⟩
                exact next_set (by kernel_rfl) (V.heap.size, θ.2) [(41, .slice (some ⟨V.heap.size, 0, none⟩) 1 1, 4)] (by simp only [List.foldl_cons, List.foldl_nil, List.setIfInBounds_toArray, List.set_cons_zero, List.set_cons_succ]) (by kernel_rfl) (fun y hy => by simp at hy; subst hy; exact hl) (fun d hd => by cases hd; rfl) (hg.alloc h3 hl h5 h7))
            · exact par_run (fun θ => by rfl) (fun θ l V hl hc hd hg => by
                have h4 : l 4 = true := hd 4 (by kernel_rfl)
                have h7 : l 7 = false := (by cases h : l 7 with | false => rfl | true => exact absurd (hc 7 5 (by kernel_rfl) h) (by rw [hl]; decide))
                obtain ⟨V6, hS6, hV6, rfl⟩ := hg.s2 h4 hl
                obtain ⟨g7, c7, V7, hr7, k7, f7, hw7⟩ := HAP.out V6 hS6
                refine ⟨_, V7, run_appX (S := 25) rfl rfl (by rfl) (by rfl) (by rw [hV6]; exact hr7), ?_⟩
                exact next_set (by kernel_rfl) (θ.1, g7, c7) [(42, .slice (some ⟨g7, 0, none⟩) (j + 1) c7, 5)] (by simp only [List.foldl_cons, List.foldl_nil, List.setIfInBounds_toArray, List.set_cons_zero, List.set_cons_succ]) (by kernel_rfl) (fun y hy => by simp at hy; subst hy; exact hl) (fun d hd => by cases hd; rfl) (SkG.app (hcl4 := hc 4 3 (by kernel_rfl) h4) h4 h7 k7 f7 hw7))
            · exact par_val (fun θ => by rfl) (fun θ l V hg => hg.other 6 (by decide) (by decide) (by decide) (by decide)) (fun θ l V hl hc hd hg => by go_simp; (try with_reducible rfl); (try omega))
            · exact par_skip (fun θ => by rfl) (fun θ l V hl hc hd hg => by
                have h5 : l 5 = true := hd 5 (by kernel_rfl)
                obtain ⟨k7, f7, hw7⟩ := hg.s3 h5 hl
                refine ⟨V.setCell ⟨w.heap.size, 3, none⟩ (.slice (some ⟨θ.2.1, 0, none⟩) (j + 1) θ.2.2), by go_simp, θ, fun _ _ _ _ _ _ => rfl, fun d hd => (by cases hd), SkG.store (hcl5 := hc 5 4 (by kernel_rfl) h5) (hcl4 := hc 4 3 (by kernel_rfl) (hc 5 4 (by kernel_rfl) h5)) h5 hw7⟩)
          case ge1 =>
          rintro ⟨b6, g7, c7⟩ l w8 hall hg
          have HF0 := (show Hid _ from hg.s4 (hall 7 (by decide)))
          clear hg hall
          dsimp only at HF0 ⊢
          rw [HFF.out] at HF0
          go_wp2
          go_roundw
          case rel => exact ⟨j + 1, _, _, by omega, by go_num, HF0.out⟩
          case measure => simp [intOf]; omega
        · have hlt1 : ¬ (j : Int) < (nd : Int) := by omega
          have HDL : Hid (ds.length = nd) := by show _ = _; omega
          have hde : ds.take j = ds := List.take_of_length_le (by omega)
          have hdd : ds.drop j = [] := List.drop_of_length_le (by omega)
          rw [hde, hdd] at hS
          have d0 := hS.st.cell 0 _ rfl
          have d1 := hS.st.cell 1 _ rfl
          have d2 := hS.st.cell 2 _ rfl
          have d3 := hS.st.cell 3 _ rfl
          have HF : Hid (RkX W0 w q tsn room nb nd bs ds ex sh (.returned (.iface 84 (.agg #[.int .u32 (tsn : Nat), .int .u32 (room : Nat), .slice la bs.length lc, .slice ma ds.length mc]))) wr) := by
            have hd := hS.ru.done (v := .tuple #[]) (e := .returned (.tuple #[])) rfl
            exact ⟨fun _ => ⟨⟨la, lc, ma, mc, rfl, OwnG.base hS.ob (by omega), OwnG.base hS.od (by omega)⟩, hd.rd, hd.fr⟩, fun hn => absurd ⟨HBL.out, HDL.out⟩ hn⟩
          clear hS hde hdd hlj HS5 HBL HDL hbl hdl hll hll2 HNB HLL
          generalize bs.length = bl at *
          generalize ds.length = dl at *
          go_wp2
          go_ret
          exact HF.out
end Go.Proofs.YtifdfkkjmjabnaaDoor
namespace Go.Proofs.YtifdfkkjmjabnaaDoor
open Go.RowKit
set_option linter.unusedVariables false in
set_option maxRecDepth 100000 in
set_option maxHeartbeats 4000000 in
theorem rdata_no {W0 w : World} {q : Nat} {zs : List Nat} {sh : Int} (h : RdW W0 w q zs sh) (hk : zs.length < 12) :
    Calls Tryd.prog 77 #[.pointer (some ⟨q, 0, none⟩)] w (RdF w q sh) := by
  have hql := h.lt
  have hWq := h.old
  obtain ⟨W1, hW1⟩ : ∃ W1, W1 = w.alloc (.cells #[.int .u32 0, .int .u16 0, .int .u16 0, .int .u32 0, .slice none 0 0] 79) := ⟨_, rfl⟩
  have b1 : Below w.heap.size w W1 := by rw [hW1]; exact (Below.refl _ _).alloc (Nat.le_refl _) _
  have s1 := Stc.new w [.int .u32 0, .int .u16 0, .int .u16 0, .int .u32 0, .slice none 0 0] 79 W1 hW1
  have hz := zero_dv
  have HU0 : Hid (RuS W0 w q (zs.drop 0) sh W1 ∧ Stc W1 w.heap.size [.int .u32 0, .int .u16 0, .int .u16 0, .int .u32 0, .slice none 0 0]) := ⟨⟨h.below b1, Fr.of_below b1⟩, s1⟩
  clear h b1 s1
  by_cases h0 : 4 ≤ zs.length
  case neg =>
    have HN := (show Hid _ from rword_no HU0.out.1.rd (by rw [List.length_drop]; omega))
    go_enter Tryd.func77, Tryd.ntmps77
    go_wp2_with fail
    rw [← hW1]
    clear hW1 hz
    refine Calls.mono HN.out ?_
    clear HN
    rintro e v hP
    obtain ⟨rfl, hf⟩ := hP
    have HF : Hid (RdF w q sh (.panicked (flt sh)) v) := ⟨rfl, (HU0.out.1.fr.trans (hf.mono (fun _ _ hk => .inl hk))).mono (fun k hk hp => hp.elim id (fun e => by omega))⟩
    clear hf HU0
    go_wp2
    exact ⟨rfl, HF.out⟩
  obtain ⟨n0, hn0⟩ : ∃ n0, n0 = numB ((zs.drop 0).take 4) := ⟨_, rfl⟩
  have HN := (show Hid _ from rword_any HU0.out.1.rd (by rw [List.length_drop]; omega))
  rw [← hn0] at HN
  clear hn0
  go_enter Tryd.func77, Tryd.ntmps77
  go_wp2_with fail
  rw [← hW1]
  clear hW1 hz
  refine Calls.mono HN.out ?_
  clear HN
  rintro e v0 hP
  have he := hP.out
  subst he
  obtain ⟨hu, s1⟩ := HU0.out
  replace s1 := s1.fr hP.fr (by omega)
  replace hu := hu.next hP
  rw [List.drop_drop] at hu
  have f0 := s1.free 0
  have c0 := s1.cell 0 _ rfl
  have hf := Fr.setCell (fun k => k = w.heap.size) v0 ⟨w.heap.size, 0, none⟩ (.int .u32 (n0 : Nat)) rfl
  obtain ⟨w1, hw1⟩ : ∃ w1, w1 = v0.setCell ⟨w.heap.size, 0, none⟩ (.int .u32 (n0 : Nat)) := ⟨_, rfl⟩
  have HU1 : Hid (RuS W0 w q (zs.drop 4) sh w1 ∧ Stc w1 w.heap.size [.int .u32 (n0 : Nat), .int .u16 0, .int .u16 0, .int .u32 0, .slice none 0 0]) := by
    rw [hw1]
    exact ⟨hu.own (Nat.le_refl _) hql (by omega) hf, s1.set 0 _⟩
  clear HU0 hP hu s1 hf
  by_cases h1 : 6 ≤ zs.length
  case neg =>
    have HN := (show Hid _ from rhalf_no HU1.out.1.rd (by rw [List.length_drop]; omega))
    go_wp2_with fail
    rw [← hw1]
    clear hw1 f0 c0
    refine Calls.mono HN.out ?_
    clear HN
    rintro e v hP
    obtain ⟨rfl, hf⟩ := hP
    have HF : Hid (RdF w q sh (.panicked (flt sh)) v) := ⟨rfl, (HU1.out.1.fr.trans (hf.mono (fun _ _ hk => .inl hk))).mono (fun k hk hp => hp.elim id (fun e => by omega))⟩
    clear hf HU1
    go_wp2
    exact ⟨rfl, HF.out⟩
  obtain ⟨n1, hn1⟩ : ∃ n1, n1 = numB ((zs.drop 4).take 2) := ⟨_, rfl⟩
  have HN := (show Hid _ from rhalf_any HU1.out.1.rd (by rw [List.length_drop]; omega))
  rw [← hn1] at HN
  clear hn1
  go_wp2_with fail
  rw [← hw1]
  clear hw1 f0 c0
  refine Calls.mono HN.out ?_
  clear HN
  rintro e v1 hP
  have he := hP.out
  subst he
  obtain ⟨hu, s1⟩ := HU1.out
  replace s1 := s1.fr hP.fr (by omega)
  replace hu := hu.next hP
  rw [List.drop_drop] at hu
  have f0 := s1.free 1
  have c0 := s1.cell 1 _ rfl
  have hf := Fr.setCell (fun k => k = w.heap.size) v1 ⟨w.heap.size, 1, none⟩ (.int .u16 (n1 : Nat)) rfl
  obtain ⟨w2, hw2⟩ : ∃ w2, w2 = v1.setCell ⟨w.heap.size, 1, none⟩ (.int .u16 (n1 : Nat)) := ⟨_, rfl⟩
  have HU2 : Hid (RuS W0 w q (zs.drop 6) sh w2 ∧ Stc w2 w.heap.size [.int .u32 (n0 : Nat), .int .u16 (n1 : Nat), .int .u16 0, .int .u32 0, .slice none 0 0]) := by
    rw [hw2]
    exact ⟨hu.own (Nat.le_refl _) hql (by omega) hf, s1.set 1 _⟩
  clear HU1 hP hu s1 hf
  by_cases h2 : 8 ≤ zs.length
  case neg =>
    have HN := (show Hid _ from rhalf_no HU2.out.1.rd (by rw [List.length_drop]; omega))
    go_wp2_with fail
    rw [← hw2]
    clear hw2 f0 c0
    refine Calls.mono HN.out ?_
    clear HN
    rintro e v hP
    obtain ⟨rfl, hf⟩ := hP
    have HF : Hid (RdF w q sh (.panicked (flt sh)) v) := ⟨rfl, (HU2.out.1.fr.trans (hf.mono (fun _ _ hk => .inl hk))).mono (fun k hk hp => hp.elim id (fun e => by omega))⟩
    clear hf HU2
    go_wp2
    exact ⟨rfl, HF.out⟩
  obtain ⟨n2, hn2⟩ : ∃ n2, n2 = numB ((zs.drop 6).take 2) := ⟨_, rfl⟩
  have HN := (show Hid _ from rhalf_any HU2.out.1.rd (by rw [List.length_drop]; omega))
  rw [← hn2] at HN
  clear hn2
  go_wp2_with fail
  rw [← hw2]
  clear hw2 f0 c0
  refine Calls.mono HN.out ?_
  clear HN
  rintro e v2 hP
  have he := hP.out
  subst he
  obtain ⟨hu, s1⟩ := HU2.out
  replace s1 := s1.fr hP.fr (by omega)
  replace hu := hu.next hP
  rw [List.drop_drop] at hu
  have f0 := s1.free 2
  have c0 := s1.cell 2 _ rfl
  have hf := Fr.setCell (fun k => k = w.heap.size) v2 ⟨w.heap.size, 2, none⟩ (.int .u16 (n2 : Nat)) rfl
  obtain ⟨w3, hw3⟩ : ∃ w3, w3 = v2.setCell ⟨w.heap.size, 2, none⟩ (.int .u16 (n2 : Nat)) := ⟨_, rfl⟩
  have HU3 : Hid (RuS W0 w q (zs.drop 8) sh w3 ∧ Stc w3 w.heap.size [.int .u32 (n0 : Nat), .int .u16 (n1 : Nat), .int .u16 (n2 : Nat), .int .u32 0, .slice none 0 0]) := by
    rw [hw3]
    exact ⟨hu.own (Nat.le_refl _) hql (by omega) hf, s1.set 2 _⟩
  clear HU2 hP hu s1 hf
  have HN := (show Hid _ from rword_no HU3.out.1.rd (by rw [List.length_drop]; omega))
  go_wp2_with fail
  rw [← hw3]
  clear hw3 f0 c0
  refine Calls.mono HN.out ?_
  clear HN
  rintro e v hP
  obtain ⟨rfl, hf⟩ := hP
  have HF : Hid (RdF w q sh (.panicked (flt sh)) v) := ⟨rfl, (HU3.out.1.fr.trans (hf.mono (fun _ _ hk => .inl hk))).mono (fun k hk hp => hp.elim id (fun e => by omega))⟩
  clear hf HU3
  go_wp2
  exact ⟨rfl, HF.out⟩
set_option linter.unusedVariables false in
set_option maxRecDepth 100000 in
set_option maxHeartbeats 4000000 in
theorem rinit_no {W0 w : World} {q : Nat} {zs : List Nat} {sh : Int} (h : RdW W0 w q zs sh) (hk : zs.length < 16) :
    Calls Tryd.prog 78 #[.pointer (some ⟨q, 0, none⟩)] w (RdF w q sh) := by
  have hql := h.lt
  have hWq := h.old
  obtain ⟨W1, hW1⟩ : ∃ W1, W1 = w.alloc (.cells #[.int .u32 0, .int .u32 0, .int .u16 0, .int .u16 0, .int .u32 0, .slice none 0 0] 82) := ⟨_, rfl⟩
  have b1 : Below w.heap.size w W1 := by rw [hW1]; exact (Below.refl _ _).alloc (Nat.le_refl _) _
  have s1 := Stc.new w [.int .u32 0, .int .u32 0, .int .u16 0, .int .u16 0, .int .u32 0, .slice none 0 0] 82 W1 hW1
  have hz := zero_iv
  have HU0 : Hid (RuS W0 w q (zs.drop 0) sh W1 ∧ Stc W1 w.heap.size [.int .u32 0, .int .u32 0, .int .u16 0, .int .u16 0, .int .u32 0, .slice none 0 0]) := ⟨⟨h.below b1, Fr.of_below b1⟩, s1⟩
  clear h b1 s1
  by_cases h0 : 4 ≤ zs.length
  case neg =>
    have HN := (show Hid _ from rword_no HU0.out.1.rd (by rw [List.length_drop]; omega))
    go_enter Tryd.func78, Tryd.ntmps78
    go_wp2_with fail
    rw [← hW1]
    clear hW1 hz
    refine Calls.mono HN.out ?_
    clear HN
    rintro e v hP
    obtain ⟨rfl, hf⟩ := hP
    have HF : Hid (RdF w q sh (.panicked (flt sh)) v) := ⟨rfl, (HU0.out.1.fr.trans (hf.mono (fun _ _ hk => .inl hk))).mono (fun k hk hp => hp.elim id (fun e => by omega))⟩
    clear hf HU0
    go_wp2
    exact ⟨rfl, HF.out⟩
  obtain ⟨n0, hn0⟩ : ∃ n0, n0 = numB ((zs.drop 0).take 4) := ⟨_, rfl⟩
  have HN := (show Hid _ from rword_any HU0.out.1.rd (by rw [List.length_drop]; omega))
  rw [← hn0] at HN
  clear hn0
  go_enter Tryd.func78, Tryd.ntmps78
  go_wp2_with fail
  rw [← hW1]
  clear hW1 hz
  refine Calls.mono HN.out ?_
  clear HN
  rintro e v0 hP
  have he := hP.out
  subst he
  obtain ⟨hu, s1⟩ := HU0.out
  replace s1 := s1.fr hP.fr (by omega)
  replace hu := hu.next hP
  rw [List.drop_drop] at hu
  have f0 := s1.free 0
  have c0 := s1.cell 0 _ rfl
  have hf := Fr.setCell (fun k => k = w.heap.size) v0 ⟨w.heap.size, 0, none⟩ (.int .u32 (n0 : Nat)) rfl
  obtain ⟨w1, hw1⟩ : ∃ w1, w1 = v0.setCell ⟨w.heap.size, 0, none⟩ (.int .u32 (n0 : Nat)) := ⟨_, rfl⟩
  have HU1 : Hid (RuS W0 w q (zs.drop 4) sh w1 ∧ Stc w1 w.heap.size [.int .u32 (n0 : Nat), .int .u32 0, .int .u16 0, .int .u16 0, .int .u32 0, .slice none 0 0]) := by
    rw [hw1]
    exact ⟨hu.own (Nat.le_refl _) hql (by omega) hf, s1.set 0 _⟩
  clear HU0 hP hu s1 hf
  by_cases h1 : 8 ≤ zs.length
  case neg =>
    have HN := (show Hid _ from rword_no HU1.out.1.rd (by rw [List.length_drop]; omega))
    go_wp2_with fail
    rw [← hw1]
    clear hw1 f0 c0
    refine Calls.mono HN.out ?_
    clear HN
    rintro e v hP
    obtain ⟨rfl, hf⟩ := hP
    have HF : Hid (RdF w q sh (.panicked (flt sh)) v) := ⟨rfl, (HU1.out.1.fr.trans (hf.mono (fun _ _ hk => .inl hk))).mono (fun k hk hp => hp.elim id (fun e => by omega))⟩
    clear hf HU1
    go_wp2
    exact ⟨rfl, HF.out⟩
  obtain ⟨n1, hn1⟩ : ∃ n1, n1 = numB ((zs.drop 4).take 4) := ⟨_, rfl⟩
  have HN := (show Hid _ from rword_any HU1.out.1.rd (by rw [List.length_drop]; omega))
  rw [← hn1] at HN
  clear hn1
  go_wp2_with fail
  rw [← hw1]
  clear hw1 f0 c0
  refine Calls.mono HN.out ?_
  clear HN
  rintro e v1 hP
  have he := hP.out
  subst he
  obtain ⟨hu, s1⟩ := HU1.out
  replace s1 := s1.fr hP.fr (by omega)
  replace hu := hu.next hP
  rw [List.drop_drop] at hu
  have f0 := s1.free 1
  have c0 := s1.cell 1 _ rfl
  have hf := Fr.setCell (fun k => k = w.heap.size) v1 ⟨w.heap.size, 1, none⟩ (.int .u32 (n1 : Nat)) rfl
  obtain ⟨w2, hw2⟩ : ∃ w2, w2 = v1.setCell ⟨w.heap.size, 1, none⟩ (.int .u32 (n1 : Nat)) := ⟨_, rfl⟩
  have HU2 : Hid (RuS W0 w q (zs.drop 8) sh w2 ∧ Stc w2 w.heap.size [.int .u32 (n0 : Nat), .int .u32 (n1 : Nat), .int .u16 0, .int .u16 0, .int .u32 0, .slice none 0 0]) := by
    rw [hw2]
    exact ⟨hu.own (Nat.le_refl _) hql (by omega) hf, s1.set 1 _⟩
  clear HU1 hP hu s1 hf
  by_cases h2 : 10 ≤ zs.length
  case neg =>
    have HN := (show Hid _ from rhalf_no HU2.out.1.rd (by rw [List.length_drop]; omega))
    go_wp2_with fail
    rw [← hw2]
    clear hw2 f0 c0
    refine Calls.mono HN.out ?_
    clear HN
    rintro e v hP
    obtain ⟨rfl, hf⟩ := hP
    have HF : Hid (RdF w q sh (.panicked (flt sh)) v) := ⟨rfl, (HU2.out.1.fr.trans (hf.mono (fun _ _ hk => .inl hk))).mono (fun k hk hp => hp.elim id (fun e => by omega))⟩
    clear hf HU2
    go_wp2
    exact ⟨rfl, HF.out⟩
  obtain ⟨n2, hn2⟩ : ∃ n2, n2 = numB ((zs.drop 8).take 2) := ⟨_, rfl⟩
  have HN := (show Hid _ from rhalf_any HU2.out.1.rd (by rw [List.length_drop]; omega))
  rw [← hn2] at HN
  clear hn2
  go_wp2_with fail
  rw [← hw2]
  clear hw2 f0 c0
  refine Calls.mono HN.out ?_
  clear HN
  rintro e v2 hP
  have he := hP.out
  subst he
  obtain ⟨hu, s1⟩ := HU2.out
  replace s1 := s1.fr hP.fr (by omega)
  replace hu := hu.next hP
  rw [List.drop_drop] at hu
  have f0 := s1.free 2
  have c0 := s1.cell 2 _ rfl
  have hf := Fr.setCell (fun k => k = w.heap.size) v2 ⟨w.heap.size, 2, none⟩ (.int .u16 (n2 : Nat)) rfl
  obtain ⟨w3, hw3⟩ : ∃ w3, w3 = v2.setCell ⟨w.heap.size, 2, none⟩ (.int .u16 (n2 : Nat)) := ⟨_, rfl⟩
  have HU3 : Hid (RuS W0 w q (zs.drop 10) sh w3 ∧ Stc w3 w.heap.size [.int .u32 (n0 : Nat), .int .u32 (n1 : Nat), .int .u16 (n2 : Nat), .int .u16 0, .int .u32 0, .slice none 0 0]) := by
    rw [hw3]
    exact ⟨hu.own (Nat.le_refl _) hql (by omega) hf, s1.set 2 _⟩
  clear HU2 hP hu s1 hf
  by_cases h3 : 12 ≤ zs.length
  case neg =>
    have HN := (show Hid _ from rhalf_no HU3.out.1.rd (by rw [List.length_drop]; omega))
    go_wp2_with fail
    rw [← hw3]
    clear hw3 f0 c0
    refine Calls.mono HN.out ?_
    clear HN
    rintro e v hP
    obtain ⟨rfl, hf⟩ := hP
    have HF : Hid (RdF w q sh (.panicked (flt sh)) v) := ⟨rfl, (HU3.out.1.fr.trans (hf.mono (fun _ _ hk => .inl hk))).mono (fun k hk hp => hp.elim id (fun e => by omega))⟩
    clear hf HU3
    go_wp2
    exact ⟨rfl, HF.out⟩
  obtain ⟨n3, hn3⟩ : ∃ n3, n3 = numB ((zs.drop 10).take 2) := ⟨_, rfl⟩
  have HN := (show Hid _ from rhalf_any HU3.out.1.rd (by rw [List.length_drop]; omega))
  rw [← hn3] at HN
  clear hn3
  go_wp2_with fail
  rw [← hw3]
  clear hw3 f0 c0
  refine Calls.mono HN.out ?_
  clear HN
  rintro e v3 hP
  have he := hP.out
  subst he
  obtain ⟨hu, s1⟩ := HU3.out
  replace s1 := s1.fr hP.fr (by omega)
  replace hu := hu.next hP
  rw [List.drop_drop] at hu
  have f0 := s1.free 3
  have c0 := s1.cell 3 _ rfl
  have hf := Fr.setCell (fun k => k = w.heap.size) v3 ⟨w.heap.size, 3, none⟩ (.int .u16 (n3 : Nat)) rfl
  obtain ⟨w4, hw4⟩ : ∃ w4, w4 = v3.setCell ⟨w.heap.size, 3, none⟩ (.int .u16 (n3 : Nat)) := ⟨_, rfl⟩
  have HU4 : Hid (RuS W0 w q (zs.drop 12) sh w4 ∧ Stc w4 w.heap.size [.int .u32 (n0 : Nat), .int .u32 (n1 : Nat), .int .u16 (n2 : Nat), .int .u16 (n3 : Nat), .int .u32 0, .slice none 0 0]) := by
    rw [hw4]
    exact ⟨hu.own (Nat.le_refl _) hql (by omega) hf, s1.set 3 _⟩
  clear HU3 hP hu s1 hf
  have HN := (show Hid _ from rword_no HU4.out.1.rd (by rw [List.length_drop]; omega))
  go_wp2_with fail
  rw [← hw4]
  clear hw4 f0 c0
  refine Calls.mono HN.out ?_
  clear HN
  rintro e v hP
  obtain ⟨rfl, hf⟩ := hP
  have HF : Hid (RdF w q sh (.panicked (flt sh)) v) := ⟨rfl, (HU4.out.1.fr.trans (hf.mono (fun _ _ hk => .inl hk))).mono (fun k hk hp => hp.elim id (fun e => by omega))⟩
  clear hf HU4
  go_wp2
  exact ⟨rfl, HF.out⟩
set_option linter.unusedVariables false in
set_option maxRecDepth 100000 in
set_option maxHeartbeats 4000000 in
theorem rsack_no {W0 w : World} {q : Nat} {zs : List Nat} {sh : Int} (h : RdW W0 w q zs sh) (hk : zs.length < 12) :
    Calls Tryd.prog 79 #[.pointer (some ⟨q, 0, none⟩)] w (RdF w q sh) := by
  have hql := h.lt
  have hWq := h.old
  obtain ⟨W1, hW1⟩ : ∃ W1, W1 = w.alloc (.cells #[.int .u32 0, .int .u32 0, .slice none 0 0, .slice none 0 0] 84) := ⟨_, rfl⟩
  have b1 : Below w.heap.size w W1 := by rw [hW1]; exact (Below.refl _ _).alloc (Nat.le_refl _) _
  have s1 := Stc.new w [.int .u32 0, .int .u32 0, .slice none 0 0, .slice none 0 0] 84 W1 hW1
  have hz := zero_sv
  have HU0 : Hid (RuS W0 w q (zs.drop 0) sh W1 ∧ Stc W1 w.heap.size [.int .u32 0, .int .u32 0, .slice none 0 0, .slice none 0 0]) := ⟨⟨h.below b1, Fr.of_below b1⟩, s1⟩
  clear h b1 s1
  by_cases h0 : 4 ≤ zs.length
  case neg =>
    have HN := (show Hid _ from rword_no HU0.out.1.rd (by rw [List.length_drop]; omega))
    go_enter Tryd.func79, Tryd.ntmps79
    go_wp2_with fail
    rw [← hW1]
    clear hW1 hz
    refine Calls.mono HN.out ?_
    clear HN
    rintro e v hP
    obtain ⟨rfl, hf⟩ := hP
    have HF : Hid (RdF w q sh (.panicked (flt sh)) v) := ⟨rfl, (HU0.out.1.fr.trans (hf.mono (fun _ _ hk => .inl hk))).mono (fun k hk hp => hp.elim id (fun e => by omega))⟩
    clear hf HU0
    go_wp2
    exact ⟨rfl, HF.out⟩
  obtain ⟨n0, hn0⟩ : ∃ n0, n0 = numB ((zs.drop 0).take 4) := ⟨_, rfl⟩
  have HN := (show Hid _ from rword_any HU0.out.1.rd (by rw [List.length_drop]; omega))
  rw [← hn0] at HN
  clear hn0
  go_enter Tryd.func79, Tryd.ntmps79
  go_wp2_with fail
  rw [← hW1]
  clear hW1 hz
  refine Calls.mono HN.out ?_
  clear HN
  rintro e v0 hP
  have he := hP.out
  subst he
  obtain ⟨hu, s1⟩ := HU0.out
  replace s1 := s1.fr hP.fr (by omega)
  replace hu := hu.next hP
  rw [List.drop_drop] at hu
  have f0 := s1.free 0
  have c0 := s1.cell 0 _ rfl
  have hf := Fr.setCell (fun k => k = w.heap.size) v0 ⟨w.heap.size, 0, none⟩ (.int .u32 (n0 : Nat)) rfl
  obtain ⟨w1, hw1⟩ : ∃ w1, w1 = v0.setCell ⟨w.heap.size, 0, none⟩ (.int .u32 (n0 : Nat)) := ⟨_, rfl⟩
  have HU1 : Hid (RuS W0 w q (zs.drop 4) sh w1 ∧ Stc w1 w.heap.size [.int .u32 (n0 : Nat), .int .u32 0, .slice none 0 0, .slice none 0 0]) := by
    rw [hw1]
    exact ⟨hu.own (Nat.le_refl _) hql (by omega) hf, s1.set 0 _⟩
  clear HU0 hP hu s1 hf
  by_cases h1 : 8 ≤ zs.length
  case neg =>
    have HN := (show Hid _ from rword_no HU1.out.1.rd (by rw [List.length_drop]; omega))
    go_wp2_with fail
    rw [← hw1]
    clear hw1 f0 c0
    refine Calls.mono HN.out ?_
    clear HN
    rintro e v hP
    obtain ⟨rfl, hf⟩ := hP
    have HF : Hid (RdF w q sh (.panicked (flt sh)) v) := ⟨rfl, (HU1.out.1.fr.trans (hf.mono (fun _ _ hk => .inl hk))).mono (fun k hk hp => hp.elim id (fun e => by omega))⟩
    clear hf HU1
    go_wp2
    exact ⟨rfl, HF.out⟩
  obtain ⟨n1, hn1⟩ : ∃ n1, n1 = numB ((zs.drop 4).take 4) := ⟨_, rfl⟩
  have HN := (show Hid _ from rword_any HU1.out.1.rd (by rw [List.length_drop]; omega))
  rw [← hn1] at HN
  clear hn1
  go_wp2_with fail
  rw [← hw1]
  clear hw1 f0 c0
  refine Calls.mono HN.out ?_
  clear HN
  rintro e v1 hP
  have he := hP.out
  subst he
  obtain ⟨hu, s1⟩ := HU1.out
  replace s1 := s1.fr hP.fr (by omega)
  replace hu := hu.next hP
  rw [List.drop_drop] at hu
  have f0 := s1.free 1
  have c0 := s1.cell 1 _ rfl
  have hf := Fr.setCell (fun k => k = w.heap.size) v1 ⟨w.heap.size, 1, none⟩ (.int .u32 (n1 : Nat)) rfl
  obtain ⟨w2, hw2⟩ : ∃ w2, w2 = v1.setCell ⟨w.heap.size, 1, none⟩ (.int .u32 (n1 : Nat)) := ⟨_, rfl⟩
  have HU2 : Hid (RuS W0 w q (zs.drop 8) sh w2 ∧ Stc w2 w.heap.size [.int .u32 (n0 : Nat), .int .u32 (n1 : Nat), .slice none 0 0, .slice none 0 0]) := by
    rw [hw2]
    exact ⟨hu.own (Nat.le_refl _) hql (by omega) hf, s1.set 1 _⟩
  clear HU1 hP hu s1 hf
  by_cases h2 : 10 ≤ zs.length
  case neg =>
    have HN := (show Hid _ from rhalf_no HU2.out.1.rd (by rw [List.length_drop]; omega))
    go_wp2_with fail
    rw [← hw2]
    clear hw2 f0 c0
    refine Calls.mono HN.out ?_
    clear HN
    rintro e v hP
    obtain ⟨rfl, hf⟩ := hP
    have HF : Hid (RdF w q sh (.panicked (flt sh)) v) := ⟨rfl, (HU2.out.1.fr.trans (hf.mono (fun _ _ hk => .inl hk))).mono (fun k hk hp => hp.elim id (fun e => by omega))⟩
    clear hf HU2
    go_wp2
    exact ⟨rfl, HF.out⟩
  obtain ⟨n2, hn2⟩ : ∃ n2, n2 = numB ((zs.drop 8).take 2) := ⟨_, rfl⟩
  have HN := (show Hid _ from rhalf_any HU2.out.1.rd (by rw [List.length_drop]; omega))
  rw [← hn2] at HN
  clear hn2
  go_wp2_with fail
  rw [← hw2]
  clear hw2 f0 c0
  refine Calls.mono HN.out ?_
  clear HN
  rintro e v2 hP
  have he := hP.out
  subst he
  obtain ⟨hu, s1⟩ := HU2.out
  replace s1 := s1.fr hP.fr (by omega)
  replace hu := hu.next hP
  rw [List.drop_drop] at hu
  have HU3 : Hid (RuS W0 w q (zs.drop 10) sh v2 ∧ Stc v2 w.heap.size [.int .u32 (n0 : Nat), .int .u32 (n1 : Nat), .slice none 0 0, .slice none 0 0]) := ⟨hu, s1⟩
  clear HU2 hP hu s1
  have HN := (show Hid _ from rhalf_no HU3.out.1.rd (by rw [List.length_drop]; omega))
  go_wp2_with fail
  refine Calls.mono HN.out ?_
  clear HN
  rintro e v hP
  obtain ⟨rfl, hf⟩ := hP
  have HF : Hid (RdF w q sh (.panicked (flt sh)) v) := ⟨rfl, (HU3.out.1.fr.trans (hf.mono (fun _ _ hk => .inl hk))).mono (fun k hk hp => hp.elim id (fun e => by omega))⟩
  clear hf HU3
  go_wp2
  exact ⟨rfl, HF.out⟩
structure RiX (W0 w : World) (q : Nat) (n1 n2 n3 n4 n5 : Nat) (r : Except Int (List Pm)) (e : Ending) (w' : World) : Prop where
  ok : ∀ ps, r = .ok ps → RdI W0 w q n1 n2 n3 n4 n5 ps 4 e w'
  no : ∀ er, r = .error er → RdF w q er e w'
theorem RiX.fail {W0 w w' : World} {q n1 n2 n3 n4 n5 : Nat} {r : Except Int (List Pm)} {er : Int} (h : r = .error er) (hf : Fr (fun k => k = q ∨ w.heap.size ≤ k) w w') : RiX W0 w q n1 n2 n3 n4 n5 r (.panicked (flt er)) w' := by
  subst h
  exact ⟨fun ps e => (by cases e), fun er2 e => by injection e with e; subst e; exact ⟨rfl, hf.mono (fun k hk hp => hp.elim id (fun e => by omega))⟩⟩
theorem RiX.good {W0 w w' : World} {q n1 n2 n3 n4 n5 : Nat} {ps : List Pm} {e : Ending} (h : RdI W0 w q n1 n2 n3 n4 n5 ps 4 e w') : RiX W0 w q n1 n2 n3 n4 n5 (.ok ps) e w' :=
  ⟨fun ps' e => by injection e with e; subst e; exact h, fun er e => (by cases e)⟩
set_option linter.unusedVariables false in
set_option maxRecDepth 100000 in
set_option maxHeartbeats 4000000 in
theorem rinitX {W0 w : World} {q : Nat} {zs : List Nat} (h : RdW W0 w q zs 4) (hk : 16 ≤ zs.length) (hb : zs.length ≤ 2000) :
    Calls Tryd.prog 78 #[.pointer (some ⟨q, 0, none⟩)] w (RiX W0 w q (numB (zs.take 4)) (numB ((zs.drop 4).take 4)) (numB ((zs.drop 8).take 2)) (numB ((zs.drop 10).take 2)) (numB ((zs.drop 12).take 4)) (parP ((zs.drop 16).length + 1) 0 (zs.drop 16))) := by
  have hql := h.lt
  have hWq := h.old
  obtain ⟨r, hr⟩ : ∃ r, r = parP ((zs.drop 16).length + 1) 0 (zs.drop 16) := ⟨_, rfl⟩
  have HRQ := (show Hid _ from hr)
  rw [← hr]
  clear hr
  obtain ⟨W1, hW1⟩ : ∃ W1, W1 = w.alloc (.cells #[.int .u32 0, .int .u32 0, .int .u16 0, .int .u16 0, .int .u32 0, .slice none 0 0] 82) := ⟨_, rfl⟩
  have b1 : Below w.heap.size w W1 := by rw [hW1]; exact (Below.refl _ _).alloc (Nat.le_refl _) _
  have s1 := Stc.new w [.int .u32 0, .int .u32 0, .int .u16 0, .int .u16 0, .int .u32 0, .slice none 0 0] 82 W1 hW1
  have hz := zero_iv
  have HU0 : Hid (RuS W0 w q (zs.drop 0) 4 W1 ∧ Stc W1 w.heap.size [.int .u32 0, .int .u32 0, .int .u16 0, .int .u16 0, .int .u32 0, .slice none 0 0]) := ⟨⟨h.below b1, Fr.of_below b1⟩, s1⟩
  clear h b1 s1
  obtain ⟨n1, hn1⟩ : ∃ n1, n1 = numB (zs.take 4) := ⟨_, rfl⟩
  obtain ⟨n2, hn2⟩ : ∃ n2, n2 = numB ((zs.drop 4).take 4) := ⟨_, rfl⟩
  obtain ⟨n3, hn3⟩ : ∃ n3, n3 = numB ((zs.drop 8).take 2) := ⟨_, rfl⟩
  obtain ⟨n4, hn4⟩ : ∃ n4, n4 = numB ((zs.drop 10).take 2) := ⟨_, rfl⟩
  obtain ⟨n5, hn5⟩ : ∃ n5, n5 = numB ((zs.drop 12).take 4) := ⟨_, rfl⟩
  rw [← hn1, ← hn2, ← hn3, ← hn4, ← hn5]
  have HNN := (show Hid _ from And.intro hn1 (And.intro hn2 (And.intro hn3 (And.intro hn4 hn5))))
  clear hn1 hn2 hn3 hn4 hn5
  have HN := (show Hid _ from rword_any HU0.out.1.rd (by rw [List.length_drop]; omega))
  rw [List.drop_zero] at HN
  rw [← HNN.out.1] at HN
  go_enter Tryd.func78, Tryd.ntmps78
  go_wp2_with fail
  rw [← hW1]
  clear hW1 hz
  refine Calls.mono HN.out ?_
  clear HN
  rintro e v0 hP
  have he := hP.out
  subst he
  obtain ⟨hu, s1⟩ := HU0.out
  replace s1 := s1.fr hP.fr (by omega)
  replace hu := hu.next hP
  skip
  have f0 := s1.free 0
  have c0 := s1.cell 0 _ rfl
  have hf := Fr.setCell (fun k => k = w.heap.size) v0 ⟨w.heap.size, 0, none⟩ (.int .u32 (n1 : Nat)) rfl
  obtain ⟨w1, hw1⟩ : ∃ w1, w1 = v0.setCell ⟨w.heap.size, 0, none⟩ (.int .u32 (n1 : Nat)) := ⟨_, rfl⟩
  have HU1 : Hid (RuS W0 w q (zs.drop 4) 4 w1 ∧ Stc w1 w.heap.size [.int .u32 (n1 : Nat), .int .u32 0, .int .u16 0, .int .u16 0, .int .u32 0, .slice none 0 0]) := by
    rw [hw1]
    exact ⟨hu.own (Nat.le_refl _) hql (by omega) hf, s1.set 0 _⟩
  clear HU0 hP hu s1 hf
  have HN := (show Hid _ from rword_any HU1.out.1.rd (by rw [List.length_drop]; omega))
  rw [← HNN.out.2.1] at HN
  go_wp2_with fail
  rw [← hw1]
  clear hw1 f0 c0
  refine Calls.mono HN.out ?_
  clear HN
  rintro e v1 hP
  have he := hP.out
  subst he
  obtain ⟨hu, s1⟩ := HU1.out
  replace s1 := s1.fr hP.fr (by omega)
  replace hu := hu.next hP
  rw [List.drop_drop] at hu
  have f0 := s1.free 1
  have c0 := s1.cell 1 _ rfl
  have hf := Fr.setCell (fun k => k = w.heap.size) v1 ⟨w.heap.size, 1, none⟩ (.int .u32 (n2 : Nat)) rfl
  obtain ⟨w2, hw2⟩ : ∃ w2, w2 = v1.setCell ⟨w.heap.size, 1, none⟩ (.int .u32 (n2 : Nat)) := ⟨_, rfl⟩
  have HU2 : Hid (RuS W0 w q (zs.drop 8) 4 w2 ∧ Stc w2 w.heap.size [.int .u32 (n1 : Nat), .int .u32 (n2 : Nat), .int .u16 0, .int .u16 0, .int .u32 0, .slice none 0 0]) := by
    rw [hw2]
    exact ⟨hu.own (Nat.le_refl _) hql (by omega) hf, s1.set 1 _⟩
  clear HU1 hP hu s1 hf
  have HN := (show Hid _ from rhalf_any HU2.out.1.rd (by rw [List.length_drop]; omega))
  rw [← HNN.out.2.2.1] at HN
  go_wp2_with fail
  rw [← hw2]
  clear hw2 f0 c0
  refine Calls.mono HN.out ?_
  clear HN
  rintro e v2 hP
  have he := hP.out
  subst he
  obtain ⟨hu, s1⟩ := HU2.out
  replace s1 := s1.fr hP.fr (by omega)
  replace hu := hu.next hP
  rw [List.drop_drop] at hu
  have f0 := s1.free 2
  have c0 := s1.cell 2 _ rfl
  have hf := Fr.setCell (fun k => k = w.heap.size) v2 ⟨w.heap.size, 2, none⟩ (.int .u16 (n3 : Nat)) rfl
  obtain ⟨w3, hw3⟩ : ∃ w3, w3 = v2.setCell ⟨w.heap.size, 2, none⟩ (.int .u16 (n3 : Nat)) := ⟨_, rfl⟩
  have HU3 : Hid (RuS W0 w q (zs.drop 10) 4 w3 ∧ Stc w3 w.heap.size [.int .u32 (n1 : Nat), .int .u32 (n2 : Nat), .int .u16 (n3 : Nat), .int .u16 0, .int .u32 0, .slice none 0 0]) := by
    rw [hw3]
    exact ⟨hu.own (Nat.le_refl _) hql (by omega) hf, s1.set 2 _⟩
  clear HU2 hP hu s1 hf
  have HN := (show Hid _ from rhalf_any HU3.out.1.rd (by rw [List.length_drop]; omega))
  rw [← HNN.out.2.2.2.1] at HN
  go_wp2_with fail
  rw [← hw3]
  clear hw3 f0 c0
  refine Calls.mono HN.out ?_
  clear HN
  rintro e v3 hP
  have he := hP.out
  subst he
  obtain ⟨hu, s1⟩ := HU3.out
  replace s1 := s1.fr hP.fr (by omega)
  replace hu := hu.next hP
  rw [List.drop_drop] at hu
  have f0 := s1.free 3
  have c0 := s1.cell 3 _ rfl
  have hf := Fr.setCell (fun k => k = w.heap.size) v3 ⟨w.heap.size, 3, none⟩ (.int .u16 (n4 : Nat)) rfl
  obtain ⟨w4, hw4⟩ : ∃ w4, w4 = v3.setCell ⟨w.heap.size, 3, none⟩ (.int .u16 (n4 : Nat)) := ⟨_, rfl⟩
  have HU4 : Hid (RuS W0 w q (zs.drop 12) 4 w4 ∧ Stc w4 w.heap.size [.int .u32 (n1 : Nat), .int .u32 (n2 : Nat), .int .u16 (n3 : Nat), .int .u16 (n4 : Nat), .int .u32 0, .slice none 0 0]) := by
    rw [hw4]
    exact ⟨hu.own (Nat.le_refl _) hql (by omega) hf, s1.set 3 _⟩
  clear HU3 hP hu s1 hf
  have HN := (show Hid _ from rword_any HU4.out.1.rd (by rw [List.length_drop]; omega))
  rw [← HNN.out.2.2.2.2] at HN
  go_wp2_with fail
  rw [← hw4]
  clear hw4 f0 c0
  refine Calls.mono HN.out ?_
  clear HN
  rintro e v4 hP
  have he := hP.out
  subst he
  obtain ⟨hu, s1⟩ := HU4.out
  replace s1 := s1.fr hP.fr (by omega)
  replace hu := hu.next hP
  rw [List.drop_drop] at hu
  have f0 := s1.free 4
  have c0 := s1.cell 4 _ rfl
  have hf := Fr.setCell (fun k => k = w.heap.size) v4 ⟨w.heap.size, 4, none⟩ (.int .u32 (n5 : Nat)) rfl
  obtain ⟨w5, hw5⟩ : ∃ w5, w5 = v4.setCell ⟨w.heap.size, 4, none⟩ (.int .u32 (n5 : Nat)) := ⟨_, rfl⟩
  have HU5 : Hid (RuS W0 w q (zs.drop 16) 4 w5 ∧ Stc w5 w.heap.size [.int .u32 (n1 : Nat), .int .u32 (n2 : Nat), .int .u16 (n3 : Nat), .int .u16 (n4 : Nat), .int .u32 (n5 : Nat), .slice none 0 0]) := by
    rw [hw5]
    exact ⟨hu.own (Nat.le_refl _) hql (by omega) hf, s1.set 4 _⟩
  clear HU4 hP hu s1 hf
  have HN := (show Hid _ from rparamsX (zs.drop 16) HU5.out.1.rd (by rw [List.length_drop]; omega))
  rw [← HRQ.out] at HN
  clear HRQ
  go_wp2_with fail
  rw [← hw5]
  clear hw5 f0 c0
  refine Calls.mono HN.out ?_
  clear HN
  rintro e v5 hPX
  cases r with
  | error er =>
    obtain ⟨rfl, hf⟩ := hPX.no er rfl
    have HF : Hid (RiX W0 w q n1 n2 n3 n4 n5 (.error er) (.panicked (flt er)) v5) := RiX.fail rfl (HU5.out.1.fr.trans (hf.mono (fun _ _ hk => .inl hk)))
    clear hf HU5 hPX
    go_wp2
    exact ⟨rfl, HF.out⟩
  | ok ps =>
  have hP := hPX.ok ps rfl
  clear hPX
  obtain ⟨xa, xc, rfl, ho⟩ := hP.ex
  have s1 := HU5.out.2.fr hP.fr (by omega)
  have hwl := HU5.out.2.lt
  obtain ⟨xl, hxl⟩ : ∃ xl, xl = ps.length := ⟨_, rfl⟩
  have HX := (show Hid _ from hxl)
  rw [← hxl] at ho ⊢
  have f0 := s1.free 5
  have d0 := s1.cell 0 _ rfl
  have d1 := s1.cell 1 _ rfl
  have d2 := s1.cell 2 _ rfl
  have d3 := s1.cell 3 _ rfl
  have d4 := s1.cell 4 _ rfl
  have d5 := s1.cell 5 _ rfl
  have hf := Fr.setCell (fun k => k = w.heap.size) v5 ⟨w.heap.size, 5, none⟩ (.slice xa xl xc) rfl
  have hu6 : RuS W0 w q [] 4 (v5.setCell ⟨w.heap.size, 5, none⟩ (.slice xa xl xc)) := (⟨hP.rd, HU5.out.1.fr.trans (hP.fr.mono (fun _ _ hk => .inl hk))⟩ : RuS W0 w q [] 4 v5).own (Nat.le_refl _) hql (by omega) hf
  have HF : Hid (RiX W0 w q n1 n2 n3 n4 n5 (.ok ps) (.returned (.iface 82 (.agg #[.int .u32 (n1 : Nat), .int .u32 (n2 : Nat), .int .u16 (n3 : Nat), .int .u16 (n4 : Nat), .int .u32 (n5 : Nat), .slice xa xl xc]))) (v5.setCell ⟨w.heap.size, 5, none⟩ (.slice xa xl xc))) := by
    have hd := hu6.done (v := .tuple #[]) (e := .returned (.tuple #[])) rfl
    refine RiX.good ⟨⟨xa, xc, by rw [hxl], ?_⟩, hd.rd, hd.fr⟩
    rw [← hxl]
    exact (ho.fr hf (fun g hg _ e => by have : g = w.heap.size := e; omega)).base (Nat.le_of_lt hwl)
  clear ho hP HU5 s1 hf hu6 hxl
  go_wp2
  go_ret
  exact HF.out
end Go.Proofs.YtifdfkkjmjabnaaDoor
namespace Go.Proofs.YtifdfkkjmjabnaaDoor
open Go.RowKit
structure Holds (Q : Ending → World → Prop) (e : Ending) (w : World) : Prop where
  h : Q e w
set_option linter.unusedVariables false in
set_option maxRecDepth 100000 in
set_option maxHeartbeats 4000000 in
theorem tvw_data {w : World} {q : Nat} (kind : Nat) (hk : kind = 0) (Q : Ending → World → Prop) (hc : ∀ W, Below w.heap.size w W → Calls Tryd.prog 77 #[.pointer (some ⟨q, 0, none⟩)] W Q)
    (Q' : Ending → World → Prop) (hQ : ∀ e V, Q e V → (∃ v, e = .returned v ∧ Q' (.returned v) V) ∨ ∃ er, e = .panicked (flt er) ∧ Q' (.panicked (flt er)) V) :
    Calls Tryd.prog 75 #[.pointer (some ⟨q, 0, none⟩), .int .u8 (kind : Nat)] w (Holds Q') := by
  have HV : Hid (Calls Tryd.prog 20 #[.agg #[.int .u8 (kind : Nat), .int .u8 0, .int .u32 0, .int .u16 0, .int .u16 0, .int .u32 0, .int .u32 0, .int .u32 0, .int .u16 0, .int .u16 0, .slice none 0 0, .slice none 0 0, .slice none 0 0, .slice none 0 0]] w fun e w' => e = .returned (.iface 79 (.agg #[.int .u32 0, .int .u16 0, .int .u16 0, .int .u32 0, .slice none 0 0])) ∧ Below w.heap.size w w') := valueOf_data kind 0 0 0 0 0 0 0 0 0 none 0 0 none 0 0 none 0 0 none 0 0 w hk
  have t0 := fun (v : Value) (w : World) => ta_yes_st 79 _ v Tryd.underlying79 w
  have HC := (show Hid _ from hc)
  have HQ := (show Hid _ from hQ)
  clear hc hQ hk
  go_enter Tryd.func75, Tryd.ntmps75
  go_wp2_with fail
  refine Calls.mono HV.out ?_
  clear HV
  rintro e w1 ⟨rfl, b1⟩
  obtain ⟨Wx, hWx⟩ : ∃ Wx, Wx = w1.alloc (.cells #[.int .u32 0, .int .u16 0, .int .u16 0, .int .u32 0, .slice none 0 0] 79) := ⟨_, rfl⟩
  have bx : Below w1.heap.size w1 Wx := by rw [hWx]; exact (Below.refl _ _).alloc (Nat.le_refl _) _
  have HD := (show Hid _ from HC.out Wx (b1.trans (bx.mono b1.size)))
  clear b1 bx HC
  go_wp2_with fail
  rw [← hWx]
  clear hWx
  refine Calls.mono HD.out ?_
  clear HD
  rintro e w2 hP
  rcases HQ.out e w2 hP with ⟨v, rfl, hq⟩ | ⟨er, rfl, hq⟩
  · have HF := (show Hid _ from hq)
    clear hq hP HQ
    go_wp2
    go_ret
    exact ⟨HF.out⟩
  · have HF := (show Hid _ from hq)
    clear hq hP HQ
    go_wp2
    exact ⟨rfl, ⟨HF.out⟩⟩
set_option linter.unusedVariables false in
set_option maxRecDepth 100000 in
set_option maxHeartbeats 4000000 in
theorem tvw_init {w : World} {q : Nat} (kind : Nat) (hk : kind = 1 ∨ kind = 2) (Q : Ending → World → Prop) (hc : ∀ W, Below w.heap.size w W → Calls Tryd.prog 78 #[.pointer (some ⟨q, 0, none⟩)] W Q)
    (Q' : Ending → World → Prop) (hQ : ∀ e V, Q e V → (∃ v, e = .returned v ∧ Q' (.returned v) V) ∨ ∃ er, e = .panicked (flt er) ∧ Q' (.panicked (flt er)) V) :
    Calls Tryd.prog 75 #[.pointer (some ⟨q, 0, none⟩), .int .u8 (kind : Nat)] w (Holds Q') := by
  have HV : Hid (Calls Tryd.prog 20 #[.agg #[.int .u8 (kind : Nat), .int .u8 0, .int .u32 0, .int .u16 0, .int .u16 0, .int .u32 0, .int .u32 0, .int .u32 0, .int .u16 0, .int .u16 0, .slice none 0 0, .slice none 0 0, .slice none 0 0, .slice none 0 0]] w fun e w' => e = .returned (.iface 82 (.agg #[.int .u32 0, .int .u32 0, .int .u16 0, .int .u16 0, .int .u32 0, .slice none 0 0])) ∧ Below w.heap.size w w') := valueOf_init kind 0 0 0 0 0 0 0 0 0 none 0 0 none 0 0 none 0 0 none 0 0 w hk
  have t0 := fun (v : Value) (w : World) => ta_no_st 82 79 _ (.agg #[.int .u32 0, .int .u16 0, .int .u16 0, .int .u32 0, .slice none 0 0]) v Tryd.underlying79 (by kernel_rfl) (by decide) w
  have t1 := fun (v : Value) (w : World) => ta_yes_st 82 _ v Tryd.underlying82 w
  have HC := (show Hid _ from hc)
  have HQ := (show Hid _ from hQ)
  clear hc hQ hk
  go_enter Tryd.func75, Tryd.ntmps75
  go_wp2_with fail
  refine Calls.mono HV.out ?_
  clear HV
  rintro e w1 ⟨rfl, b1⟩
  obtain ⟨Wx, hWx⟩ : ∃ Wx, Wx = w1.alloc (.cells #[.int .u32 0, .int .u32 0, .int .u16 0, .int .u16 0, .int .u32 0, .slice none 0 0] 82) := ⟨_, rfl⟩
  have bx : Below w1.heap.size w1 Wx := by rw [hWx]; exact (Below.refl _ _).alloc (Nat.le_refl _) _
  have HD := (show Hid _ from HC.out Wx (b1.trans (bx.mono b1.size)))
  clear b1 bx HC
  go_wp2_with fail
  rw [← hWx]
  clear hWx
  refine Calls.mono HD.out ?_
  clear HD
  rintro e w2 hP
  rcases HQ.out e w2 hP with ⟨v, rfl, hq⟩ | ⟨er, rfl, hq⟩
  · have HF := (show Hid _ from hq)
    clear hq hP HQ
    go_wp2
    go_ret
    exact ⟨HF.out⟩
  · have HF := (show Hid _ from hq)
    clear hq hP HQ
    go_wp2
    exact ⟨rfl, ⟨HF.out⟩⟩
set_option linter.unusedVariables false in
set_option maxRecDepth 100000 in
set_option maxHeartbeats 4000000 in
theorem tvw_sack {w : World} {q : Nat} (kind : Nat) (hk : kind = 3) (Q : Ending → World → Prop) (hc : ∀ W, Below w.heap.size w W → Calls Tryd.prog 79 #[.pointer (some ⟨q, 0, none⟩)] W Q)
    (Q' : Ending → World → Prop) (hQ : ∀ e V, Q e V → (∃ v, e = .returned v ∧ Q' (.returned v) V) ∨ ∃ er, e = .panicked (flt er) ∧ Q' (.panicked (flt er)) V) :
    Calls Tryd.prog 75 #[.pointer (some ⟨q, 0, none⟩), .int .u8 (kind : Nat)] w (Holds Q') := by
  have HV : Hid (Calls Tryd.prog 20 #[.agg #[.int .u8 (kind : Nat), .int .u8 0, .int .u32 0, .int .u16 0, .int .u16 0, .int .u32 0, .int .u32 0, .int .u32 0, .int .u16 0, .int .u16 0, .slice none 0 0, .slice none 0 0, .slice none 0 0, .slice none 0 0]] w fun e w' => e = .returned (.iface 84 (.agg #[.int .u32 0, .int .u32 0, .slice none 0 0, .slice none 0 0])) ∧ Below w.heap.size w w') := valueOf_sack kind 0 0 0 0 0 0 0 0 0 none 0 0 none 0 0 none 0 0 none 0 0 w hk
  have t0 := fun (v : Value) (w : World) => ta_no_st 84 79 _ (.agg #[.int .u32 0, .int .u16 0, .int .u16 0, .int .u32 0, .slice none 0 0]) v Tryd.underlying79 (by kernel_rfl) (by decide) w
  have t1 := fun (v : Value) (w : World) => ta_no_st 84 82 _ (.agg #[.int .u32 0, .int .u32 0, .int .u16 0, .int .u16 0, .int .u32 0, .slice none 0 0]) v Tryd.underlying82 (by kernel_rfl) (by decide) w
  have t2 := fun (v : Value) (w : World) => ta_yes_st 84 _ v Tryd.underlying84 w
  have HC := (show Hid _ from hc)
  have HQ := (show Hid _ from hQ)
  clear hc hQ hk
  go_enter Tryd.func75, Tryd.ntmps75
  go_wp2_with fail
  refine Calls.mono HV.out ?_
  clear HV
  rintro e w1 ⟨rfl, b1⟩
  obtain ⟨Wx, hWx⟩ : ∃ Wx, Wx = w1.alloc (.cells #[.int .u32 0, .int .u32 0, .slice none 0 0, .slice none 0 0] 84) := ⟨_, rfl⟩
  have bx : Below w1.heap.size w1 Wx := by rw [hWx]; exact (Below.refl _ _).alloc (Nat.le_refl _) _
  have HD := (show Hid _ from HC.out Wx (b1.trans (bx.mono b1.size)))
  clear b1 bx HC
  go_wp2_with fail
  rw [← hWx]
  clear hWx
  refine Calls.mono HD.out ?_
  clear HD
  rintro e w2 hP
  rcases HQ.out e w2 hP with ⟨v, rfl, hq⟩ | ⟨er, rfl, hq⟩
  · have HF := (show Hid _ from hq)
    clear hq hP HQ
    go_wp2
    go_ret
    exact ⟨HF.out⟩
  · have HF := (show Hid _ from hq)
    clear hq hP HQ
    go_wp2
    exact ⟨rfl, ⟨HF.out⟩⟩
set_option linter.unusedVariables false in
set_option maxRecDepth 100000 in
set_option maxHeartbeats 4000000 in
theorem tvw_params {w : World} {q : Nat} (kind : Nat) (hk : kind = 4 ∨ kind = 5 ∨ kind = 6 ∨ kind = 9) (Q : Ending → World → Prop) (hc : ∀ W, Below w.heap.size w W → Calls Tryd.prog 80 #[.pointer (some ⟨q, 0, none⟩)] W Q)
    (Q' : Ending → World → Prop) (hQ : ∀ e V, Q e V → (∃ a n c, e = .returned (.slice a n c) ∧ Q' (.returned (.iface 80 (.slice a n c))) V) ∨ ∃ er, e = .panicked (flt er) ∧ Q' (.panicked (flt er)) V) :
    Calls Tryd.prog 75 #[.pointer (some ⟨q, 0, none⟩), .int .u8 (kind : Nat)] w (Holds Q') := by
  have HV : Hid (Calls Tryd.prog 20 #[.agg #[.int .u8 (kind : Nat), .int .u8 0, .int .u32 0, .int .u16 0, .int .u16 0, .int .u32 0, .int .u32 0, .int .u32 0, .int .u16 0, .int .u16 0, .slice none 0 0, .slice none 0 0, .slice none 0 0, .slice none 0 0]] w fun e w' => e = .returned (.iface 80 (.slice none 0 0)) ∧ Below w.heap.size w w') := valueOf_prms kind 0 0 0 0 0 0 0 0 0 none 0 0 none 0 0 none 0 0 none 0 0 w hk
  have t0 := fun (v : Value) (w : World) => ta_no_st 80 79 _ (.agg #[.int .u32 0, .int .u16 0, .int .u16 0, .int .u32 0, .slice none 0 0]) v Tryd.underlying79 (by kernel_rfl) (by decide) w
  have t1 := fun (v : Value) (w : World) => ta_no_st 80 82 _ (.agg #[.int .u32 0, .int .u32 0, .int .u16 0, .int .u16 0, .int .u32 0, .slice none 0 0]) v Tryd.underlying82 (by kernel_rfl) (by decide) w
  have t2 := fun (v : Value) (w : World) => ta_no_st 80 84 _ (.agg #[.int .u32 0, .int .u32 0, .slice none 0 0, .slice none 0 0]) v Tryd.underlying84 (by kernel_rfl) (by decide) w
  have t3 := fun (v : Value) (w : World) => ta_yes_sl 80 _ v Tryd.underlying80 w
  have HC := (show Hid _ from hc)
  have HQ := (show Hid _ from hQ)
  clear hc hQ hk
  go_enter Tryd.func75, Tryd.ntmps75
  go_wp2_with fail
  refine Calls.mono HV.out ?_
  clear HV
  rintro e w1 ⟨rfl, b1⟩
  have HD := (show Hid _ from HC.out w1 b1)
  clear b1 HC
  go_wp2_with fail
  refine Calls.mono HD.out ?_
  clear HD
  rintro e w2 hP
  rcases HQ.out e w2 hP with ⟨a, n, c, rfl, hq⟩ | ⟨er, rfl, hq⟩
  · have HF := (show Hid _ from hq)
    clear hq hP HQ
    go_wp2
    go_ret
    exact ⟨HF.out⟩
  · have HF := (show Hid _ from hq)
    clear hq hP HQ
    go_wp2
    exact ⟨rfl, ⟨HF.out⟩⟩
set_option linter.unusedVariables false in
set_option maxRecDepth 100000 in
set_option maxHeartbeats 4000000 in
theorem tvw_tsn {w : World} {q : Nat} (kind : Nat) (hk : kind = 7) (Q : Ending → World → Prop) (hc : ∀ W, Below w.heap.size w W → Calls Tryd.prog 68 #[.pointer (some ⟨q, 0, none⟩)] W Q)
    (Q' : Ending → World → Prop) (hQ : ∀ e V, Q e V → (∃ n, e = .returned (.int .u32 n) ∧ Q' (.returned (.iface 85 (.int .u32 n))) V) ∨ ∃ er, e = .panicked (flt er) ∧ Q' (.panicked (flt er)) V) :
    Calls Tryd.prog 75 #[.pointer (some ⟨q, 0, none⟩), .int .u8 (kind : Nat)] w (Holds Q') := by
  have HV : Hid (Calls Tryd.prog 20 #[.agg #[.int .u8 (kind : Nat), .int .u8 0, .int .u32 0, .int .u16 0, .int .u16 0, .int .u32 0, .int .u32 0, .int .u32 0, .int .u16 0, .int .u16 0, .slice none 0 0, .slice none 0 0, .slice none 0 0, .slice none 0 0]] w fun e w' => e = .returned (.iface 85 (.int .u32 0)) ∧ Below w.heap.size w w') := valueOf_tsnv kind 0 0 0 0 0 0 0 0 0 none 0 0 none 0 0 none 0 0 none 0 0 w hk
  have t0 := fun (v : Value) (w : World) => ta_no_st 85 79 _ (.agg #[.int .u32 0, .int .u16 0, .int .u16 0, .int .u32 0, .slice none 0 0]) v Tryd.underlying79 (by kernel_rfl) (by decide) w
  have t1 := fun (v : Value) (w : World) => ta_no_st 85 82 _ (.agg #[.int .u32 0, .int .u32 0, .int .u16 0, .int .u16 0, .int .u32 0, .slice none 0 0]) v Tryd.underlying82 (by kernel_rfl) (by decide) w
  have t2 := fun (v : Value) (w : World) => ta_no_st 85 84 _ (.agg #[.int .u32 0, .int .u32 0, .slice none 0 0, .slice none 0 0]) v Tryd.underlying84 (by kernel_rfl) (by decide) w
  have t3 := fun (v : Value) (w : World) => ta_no_sl 85 80 _ (.slice none 0 0) v Tryd.underlying80 (by kernel_rfl) (by decide) w
  have t4 := fun (v : Value) (w : World) => ta_yes_in 85 _ v Tryd.underlying85 w
  have HC := (show Hid _ from hc)
  have HQ := (show Hid _ from hQ)
  clear hc hQ hk
  go_enter Tryd.func75, Tryd.ntmps75
  go_wp2_with fail
  refine Calls.mono HV.out ?_
  clear HV
  rintro e w1 ⟨rfl, b1⟩
  have HD := (show Hid _ from HC.out w1 b1)
  clear b1 HC
  go_wp2_with fail
  refine Calls.mono HD.out ?_
  clear HD
  rintro e w2 hP
  rcases HQ.out e w2 hP with ⟨n, rfl, hq⟩ | ⟨er, rfl, hq⟩
  · have HF := (show Hid _ from hq)
    clear hq hP HQ
    go_wp2
    go_ret
    exact ⟨HF.out⟩
  · have HF := (show Hid _ from hq)
    clear hq hP HQ
    go_wp2
    exact ⟨rfl, ⟨HF.out⟩⟩
end Go.Proofs.YtifdfkkjmjabnaaDoor
namespace Go.Proofs.YtifdfkkjmjabnaaDoor
open Go.RowKit
/-- What takeValue does over the bytes vz: it fails with er, or leaves lf; whether the value lacks data, has too many. -/
structure ChV (W0 : World) (kind flags : Nat) (vz : List Nat) (X : Nat → Value → List Value → World → Prop) (er : Option Int) (lf : List Nat) (lk tm : Bool) : Prop where
  fr : ∀ {B vv cs V V'} {Q : Nat → Prop}, X B vv cs V → Fr Q V V' → (∀ g, B ≤ g → g < V.heap.size → ¬ Q g) → X B vv cs V'
  base : ∀ {B B' vv cs V}, X B vv cs V → B' ≤ B → X B' vv cs V
  tv : ∀ W x, RdW W0 W x vz 4 → Calls Tryd.prog 75 #[.pointer (some ⟨x, 0, none⟩), .int .u8 (kind : Nat)] W (Holds fun e V => (er = none ∧ ∃ vv cs, e = .returned vv ∧ X W.heap.size vv cs V ∧ RdW W0 V x lf 4 ∧ Fr (fun k => k = x) W V) ∨ ∃ c, er = some c ∧ e = .panicked (flt c) ∧ Fr (fun k => k = x) W V)
  lk : ∀ B vv cs V, X B vv cs V → Calls Tryd.prog 23 #[vv] V fun e V' => e = .returned (.bool lk) ∧ Below V.heap.size V V'
  tm : ∀ B vv cs V, X B vv cs V → Calls Tryd.prog 24 #[vv] V fun e V' => e = .returned (.bool tm) ∧ Below V.heap.size V V'
  co : ∀ B vv cs V, X B vv cs V → Calls Tryd.prog 22 #[.int .u8 (kind : Nat), .int .u8 (flags : Nat), vv] V fun e V' => e = .returned (.agg cs.toArray) ∧ Below V.heap.size V V'
  cs : ∀ B vv cs V, X B vv cs V → cs.length = 14 ∧ ∀ u ∈ cs, u.oneCell' = true
def vOut (er : Option Int) (lf : List Nat) (lk tm : Bool) : Option Int :=
  match er with
  | some c => some c
  | none => if lf ≠ [] ∨ lk = true then some 4 else if tm = true then some 6 else none
/-- The length of the value that a chunk's head tells. -/
def lenC (zs : List Nat) : Nat := numB ((zs.drop 2).take 2) - 4
def headO (zs : List Nat) (ahead : Nat) : Option Int :=
  if zs.length < 4 then some 3
  else if numB ((zs.drop 2).take 2) < 4 then some 4
  else if zs.length < 4 + lenC zs + padN (lenC zs) then some 3
  else if 32 ≤ ahead then some 6 else none
def orO (a b : Option Int) : Option Int := match a with | some c => some c | none => b
def valC (zs : List Nat) : List Nat := (zs.drop 4).take (lenC zs)
def restC (zs : List Nat) : List Nat := ((zs.drop 4).drop (lenC zs)).drop (padN (lenC zs))
structure RcV (W0 w : World) (q : Nat) (X : Nat → Value → List Value → World → Prop) (rest : List Nat) (o : Option Int) (e : Ending) (w' : World) : Prop where
  ok : o = none → RdC W0 w q X rest 3 e w'
  no : ∀ c, o = some c → RdF w q c e w'
theorem RcV.fail {W0 w w' : World} {q : Nat} {X : Nat → Value → List Value → World → Prop} {rest : List Nat} {o : Option Int} {er : Int} (h : o = some er) (hf : Fr (fun k => k = q ∨ w.heap.size ≤ k) w w') : RcV W0 w q X rest o (.panicked (flt er)) w' := by
  subst h
  exact ⟨fun e => (by cases e), fun c e => by injection e with e; subst e; exact ⟨rfl, hf.mono (fun k hk hp => hp.elim id (fun e => by omega))⟩⟩
set_option linter.unusedVariables false in
set_option maxRecDepth 100000 in
set_option maxHeartbeats 8000000 in
theorem rchunkV {W0 w : World} {q : Nat} {zs : List Nat} {X : Nat → Value → List Value → World → Prop} {er : Option Int} {lf : List Nat} {lk tm : Bool} (ahead : Nat) (hX : ChV W0 (numB (zs.take 1)) (numB ((zs.drop 1).take 1)) (valC zs) X er lf lk tm) (h : RdW W0 w q zs 3) (hzl : zs.length ≤ 2000) :
    Calls Tryd.prog 70 #[.pointer (some ⟨q, 0, none⟩), .int .i64 (ahead : Nat)] w (RcV W0 w q X (restC zs) (orO (headO zs ahead) (vOut er lf lk tm))) := by
  have hql := h.lt
  have hWq := h.old
  have hbnd := h.bnd
  obtain ⟨o, ho⟩ : ∃ o, o = orO (headO zs ahead) (vOut er lf lk tm) := ⟨_, rfl⟩
  obtain ⟨rest, hrest⟩ : ∃ rest, rest = restC zs := ⟨_, rfl⟩
  rw [← ho, ← hrest]
  have HOE := (show Hid _ from ho)
  have HRS := (show Hid _ from hrest)
  obtain ⟨kind, hkd⟩ : ∃ kind, kind = numB (zs.take 1) := ⟨_, rfl⟩
  obtain ⟨flags, hfl⟩ : ∃ flags, flags = numB ((zs.drop 1).take 1) := ⟨_, rfl⟩
  rw [← hkd, ← hfl] at hX
  have HX := (show Hid _ from hX)
  obtain ⟨W1, hW1⟩ : ∃ W1, W1 = w.alloc (.cells #[.int .u8 0, .int .u8 0, .int .u32 0, .int .u16 0, .int .u16 0, .int .u32 0, .int .u32 0, .int .u32 0, .int .u16 0, .int .u16 0, .slice none 0 0, .slice none 0 0, .slice none 0 0, .slice none 0 0] 29) := ⟨_, rfl⟩
  have b1 : Below w.heap.size w W1 := by rw [hW1]; exact (Below.refl _ _).alloc (Nat.le_refl _) _
  have s1 := Stc.new w [.int .u8 0, .int .u8 0, .int .u32 0, .int .u16 0, .int .u16 0, .int .u32 0, .int .u32 0, .int .u32 0, .int .u16 0, .int .u16 0, .slice none 0 0, .slice none 0 0, .slice none 0 0, .slice none 0 0] 29 W1 hW1
  have HU : Hid (RuS W0 w q zs 3 W1 ∧ Stc W1 w.heap.size [.int .u8 0, .int .u8 0, .int .u32 0, .int .u16 0, .int .u16 0, .int .u32 0, .int .u32 0, .int .u32 0, .int .u16 0, .int .u16 0, .slice none 0 0, .slice none 0 0, .slice none 0 0, .slice none 0 0]) := ⟨⟨h.below b1, Fr.of_below b1⟩, s1⟩
  have hz := zero_ch14R w
  clear h b1 s1 hX ho hrest
  by_cases h1 : 1 ≤ zs.length
  case neg =>
    have HN := (show Hid _ from rnum_no HU.out.1.rd 1 (by omega) (by decide))
    have HO : Hid (o = some 3) := by
      show _ = _
      rw [HOE.out]
      unfold headO; rw [if_pos (by omega)]; rfl
    go_enter Tryd.func70, Tryd.ntmps70
    go_wp2_with fail
    rw [← hW1]
    refine Calls.mono HN.out ?_
    clear HN
    rintro e v9 hP
    obtain ⟨rfl, hf⟩ := hP
    have HF : Hid (RcV W0 w q X rest o (.panicked (flt 3)) v9) := RcV.fail HO.out (HU.out.1.fr.trans (hf.mono (fun _ _ hk => .inl hk)))
    clear hf HO HU
    go_wp2
    exact ⟨rfl, HF.out⟩
  have HN := (show Hid _ from rnum_any HU.out.1.rd 1 h1 (by decide) (by decide))
  have hk256 : kind < 256 := by have := numB_take hbnd 1 h1; omega
  rw [← hkd] at HN
  have hwk : IntKind.u8.wrap (kind : Int) = kind := by rw [IntKind.wrap_u8]; omega
  clear hkd
  go_enter Tryd.func70, Tryd.ntmps70
  go_wp2_with fail
  rw [← hW1]
  clear hW1 hz
  refine Calls.mono HN.out ?_
  clear HN
  rintro e w2 hP
  have he := hP.out
  subst he
  have HU2 : Hid (RuS W0 w q (zs.drop 1) 3 w2 ∧ Stc w2 w.heap.size [.int .u8 0, .int .u8 0, .int .u32 0, .int .u16 0, .int .u16 0, .int .u32 0, .int .u32 0, .int .u32 0, .int .u16 0, .int .u16 0, .slice none 0 0, .slice none 0 0, .slice none 0 0, .slice none 0 0]) := ⟨HU.out.1.next hP, HU.out.2.fr hP.fr (by omega)⟩
  clear HU hP
  by_cases h2 : 2 ≤ zs.length
  case neg =>
    have HN := (show Hid _ from rnum_no HU2.out.1.rd 1 (by rw [List.length_drop]; omega) (by decide))
    have HO : Hid (o = some 3) := by
      show _ = _
      rw [HOE.out]
      unfold headO; rw [if_pos (by omega)]; rfl
    go_wp2_with fail
    refine Calls.mono HN.out ?_
    clear HN
    rintro e v9 hP
    obtain ⟨rfl, hf⟩ := hP
    have HF : Hid (RcV W0 w q X rest o (.panicked (flt 3)) v9) := RcV.fail HO.out (HU2.out.1.fr.trans (hf.mono (fun _ _ hk => .inl hk)))
    clear hf HO HU2
    go_wp2
    exact ⟨rfl, HF.out⟩
  have HN := (show Hid _ from rnum_any HU2.out.1.rd 1 (by rw [List.length_drop]; omega) (by decide) (by decide))
  have hf256 : flags < 256 := by have := numB_take HU2.out.1.rd.bnd 1 (by rw [List.length_drop]; omega); omega
  have hwf : IntKind.u8.wrap (flags : Int) = flags := by rw [IntKind.wrap_u8]; omega
  rw [← hfl, List.drop_drop] at HN
  clear hfl
  go_wp2_with fail
  refine Calls.mono HN.out ?_
  clear HN
  rintro e w3 hP
  have he := hP.out
  subst he
  have HU3 : Hid (RuS W0 w q (zs.drop 2) 3 w3 ∧ Stc w3 w.heap.size [.int .u8 0, .int .u8 0, .int .u32 0, .int .u16 0, .int .u16 0, .int .u32 0, .int .u32 0, .int .u32 0, .int .u16 0, .int .u16 0, .slice none 0 0, .slice none 0 0, .slice none 0 0, .slice none 0 0]) := ⟨HU2.out.1.next hP, HU2.out.2.fr hP.fr (by omega)⟩
  clear HU2 hP
  by_cases h4 : 4 ≤ zs.length
  case neg =>
    have HN := (show Hid _ from rlen_no HU3.out.1.rd (by rw [List.length_drop]; omega))
    have HO : Hid (o = some 3) := by
      show _ = _
      rw [HOE.out]
      unfold headO; rw [if_pos (by omega)]; rfl
    go_wp2_with fail
    refine Calls.mono HN.out ?_
    clear HN
    rintro e v9 hP
    obtain ⟨rfl, hf⟩ := hP
    have HF : Hid (RcV W0 w q X rest o (.panicked (flt 3)) v9) := RcV.fail HO.out (HU3.out.1.fr.trans (hf.mono (fun _ _ hk => .inl hk)))
    clear hf HO HU3
    go_wp2
    exact ⟨rfl, HF.out⟩
  have h22 : 2 ≤ (zs.drop 2).length := by rw [List.length_drop]; omega
  by_cases hn4 : numB ((zs.drop 2).take 2) < 4
  case pos =>
    have HN := (show Hid _ from rlen_low HU3.out.1.rd h22 hn4)
    have HO : Hid (o = some 4) := by
      show _ = _
      rw [HOE.out]
      unfold headO; rw [if_neg (by omega), if_pos hn4]; rfl
    go_wp2_with fail
    refine Calls.mono HN.out ?_
    clear HN
    rintro e v9 hP
    obtain ⟨rfl, hf⟩ := hP
    have HF : Hid (RcV W0 w q X rest o (.panicked (flt 4)) v9) := RcV.fail HO.out (HU3.out.1.fr.trans (hf.mono (fun _ _ hk => .inl hk)))
    clear hf HO HU3
    go_wp2
    exact ⟨rfl, HF.out⟩
  obtain ⟨m, hm⟩ : ∃ m, m = lenC zs := ⟨_, rfl⟩
  have HM := (show Hid _ from hm)
  have hmn : numB ((zs.drop 2).take 2) = 4 + m := by rw [hm]; unfold lenC; omega
  have hmb : 4 + m < 65536 := by have := numB_take HU3.out.1.rd.bnd 2 h22; omega
  have HN := (show Hid _ from rlen_any HU3.out.1.rd h22 m hmn)
  rw [List.drop_drop] at HN
  have HN4 := (show Hid _ from hn4)
  clear h22 hm hmn hn4
  go_wp2_with fail
  refine Calls.mono HN.out ?_
  clear HN hwk hwf
  rintro e w4 hP
  have he := hP.out
  subst he
  have HU4 : Hid (RuS W0 w q (zs.drop 4) 3 w4 ∧ Stc w4 w.heap.size [.int .u8 0, .int .u8 0, .int .u32 0, .int .u16 0, .int .u16 0, .int .u32 0, .int .u32 0, .int .u32 0, .int .u16 0, .int .u16 0, .slice none 0 0, .slice none 0 0, .slice none 0 0, .slice none 0 0]) := ⟨HU3.out.1.next hP, HU3.out.2.fr hP.fr (by omega)⟩
  clear HU3 hP
  by_cases hml : m ≤ (zs.drop 4).length
  case neg =>
    have hml2 : ¬ m ≤ zs.length - 4 := by rw [List.length_drop] at hml; exact hml
    have HN := (show Hid _ from rcut_no HU4.out.1.rd m (by omega) (by omega))
    have HO : Hid (o = some 3) := by
      show _ = _
      rw [HOE.out]
      unfold headO; rw [if_neg (by omega), if_neg HN4.out, if_pos (by rw [← HM.out]; omega)]; rfl
    go_wp2_with fail
    refine Calls.mono HN.out ?_
    clear HN
    rintro e v9 hP
    obtain ⟨rfl, hf⟩ := hP
    have HF : Hid (RcV W0 w q X rest o (.panicked (flt 3)) v9) := RcV.fail HO.out (HU4.out.1.fr.trans (hf.mono (fun _ _ hk => .inl hk)))
    clear hf HO HU4
    go_wp2
    exact ⟨rfl, HF.out⟩
  have hml2 : m ≤ zs.length - 4 := by rw [List.length_drop] at hml; exact hml
  have HN := (show Hid _ from rcut_any HU4.out.1.rd m hml)
  go_wp2_with fail
  refine Calls.mono HN.out ?_
  clear HN
  rintro e w5 hP
  obtain ⟨cb, co, cc, rfl, hsl⟩ := hP.ex
  have hrd5 := hP.rd
  obtain ⟨vz, hvz⟩ : ∃ vz, vz = valC zs := ⟨_, rfl⟩
  have hvz2 : (zs.drop 4).take m = vz := by rw [hvz]; unfold valC; rw [← HM.out]
  obtain ⟨R, hR⟩ : ∃ R, R = (zs.drop 4).drop m := ⟨_, rfl⟩
  have HRL : Hid (R.length = zs.length - 4 - m) := by show _ = _; rw [hR, List.length_drop, List.length_drop]
  have HRQ := (show Hid _ from hR)
  rw [hvz2] at hsl
  rw [← hR] at hrd5
  rw [← hvz] at HX
  have HU5 : Hid (RuS W0 w q R 3 w5 ∧ Stc w5 w.heap.size [.int .u8 0, .int .u8 0, .int .u32 0, .int .u16 0, .int .u16 0, .int .u32 0, .int .u32 0, .int .u32 0, .int .u16 0, .int .u16 0, .slice none 0 0, .slice none 0 0, .slice none 0 0, .slice none 0 0]) := ⟨⟨hrd5, HU4.out.1.fr.trans (hP.fr.mono (fun _ _ hk => .inl hk))⟩, HU4.out.2.fr hP.fr (by omega)⟩
  obtain ⟨w6, hw6⟩ : ∃ w6, w6 = w5.alloc (.cells #[.slice (some ⟨cb, co, none⟩) m cc, .int .i64 4] 105) := ⟨_, rfl⟩
  have b6 : Below w5.heap.size w5 w6 := by rw [hw6]; exact (Below.refl _ _).alloc (Nat.le_refl _) _
  have sx := Stc.new w5 [.slice (some ⟨cb, co, none⟩) m cc, .int .i64 4] 105 w6 hw6
  obtain ⟨x, hx⟩ : ∃ x, x = w5.heap.size := ⟨_, rfl⟩
  rw [← hx] at sx
  have hxw : w.heap.size < x := by rw [hx]; exact HU5.out.2.lt
  have hu6 := HU5.out.1.below b6
  have HU6 : Hid (RuS W0 w q R 3 w6 ∧ Stc w6 w.heap.size [.int .u8 0, .int .u8 0, .int .u32 0, .int .u16 0, .int .u16 0, .int .u32 0, .int .u32 0, .int .u32 0, .int .u16 0, .int .u16 0, .slice none 0 0, .slice none 0 0, .slice none 0 0, .slice none 0 0] ∧ RdW W0 w6 x vz 4) := ⟨hu6, HU5.out.2.below b6, ⟨⟨cb, co, m, cc, sx, hsl⟩, hu6.rd.bel, by omega⟩⟩
  clear HU4 HU5 hP hrd5 b6 sx hsl hu6 hvz hvz2 hR hml
  obtain ⟨pn, hpn⟩ : ∃ pn, pn = padN m := ⟨_, rfl⟩
  have HPD : Hid (∀ V, Calls Tryd.prog 41 #[.int .i64 (m : Nat)] V fun e w' => e = .returned (.int .i64 (pn : Nat)) ∧ w' = V) := fun V => by rw [hpn]; exact padding_any m V (by omega) _ rfl
  have hp3 : pn ≤ 3 := by rw [hpn]; exact padN_lt m
  have HPN := (show Hid _ from hpn)
  clear hpn
  go_wp2_with fail
  rw [← hw6, ← hx]
  clear hw6 hx
  refine Calls.mono (HPD.out w6) ?_
  rintro e w7 ⟨rfl, hw7⟩
  subst hw7
  clear HPD
  by_cases hpl : pn ≤ R.length
  case neg =>
    have hpl2 : zs.length < 4 + m + pn := by have := HRL.out; omega
    have HN := (show Hid _ from rcut_no HU6.out.1.rd pn (by omega) (by omega))
    have HO : Hid (o = some 3) := by
      show _ = _
      rw [HOE.out]
      unfold headO; rw [if_neg (by omega), if_neg HN4.out, if_pos (by rw [← HM.out, ← HPN.out]; exact hpl2)]; rfl
    go_wp2_with fail
    refine Calls.mono HN.out ?_
    clear HN
    rintro e v9 hP
    obtain ⟨rfl, hf⟩ := hP
    have HF : Hid (RcV W0 w q X rest o (.panicked (flt 3)) v9) := RcV.fail HO.out (HU6.out.1.fr.trans (hf.mono (fun _ _ hk => .inl hk)))
    clear hf HO HU6
    go_wp2
    exact ⟨rfl, HF.out⟩
  have HH3 : Hid (¬ zs.length < 4 + lenC zs + padN (lenC zs)) := by
    have := HRL.out
    show ¬ _
    rw [← HM.out, ← HPN.out]
    omega
  have HN := (show Hid _ from rcut_any HU6.out.1.rd pn hpl)
  go_wp2_with fail
  refine Calls.mono HN.out ?_
  clear HN
  rintro e w8 hP
  obtain ⟨cb2, co2, cc2, rfl, _⟩ := hP.ex
  have hrd8 := hP.rd
  rw [show R.drop pn = rest from by rw [HRS.out, HRQ.out, HPN.out, HM.out]; rfl] at hrd8
  have HU8 : Hid (RuS W0 w q rest 3 w8 ∧ Stc w8 w.heap.size [.int .u8 0, .int .u8 0, .int .u32 0, .int .u16 0, .int .u16 0, .int .u32 0, .int .u32 0, .int .u32 0, .int .u16 0, .int .u16 0, .slice none 0 0, .slice none 0 0, .slice none 0 0, .slice none 0 0] ∧ RdW W0 w8 x vz 4) := ⟨⟨hrd8, HU6.out.1.fr.trans (hP.fr.mono (fun _ _ hk => .inl hk))⟩, HU6.out.2.1.fr hP.fr (by omega), HU6.out.2.2.fr hP.fr (by omega) (fun g hg => by omega)⟩
  clear HU6 hP hrd8
  by_cases ha : ahead < 32
  case neg =>
    have HO : Hid (o = some 6) := by
      show _ = _
      rw [HOE.out]
      unfold headO; rw [if_neg (by omega), if_neg HN4.out, if_neg HH3.out, if_pos (by omega)]; rfl
    have HF : Hid (RcV W0 w q X rest o (.panicked (flt 6)) w8) := RcV.fail HO.out HU8.out.1.fr
    clear HO HU8
    go_wp2_with fail
    rw [show decide ((ahead : Int) < 32) = false from decide_eq_false (by omega)]
    refine Calls.mono (must_no 6 w8) ?_
    rintro e v9 ⟨rfl, hv9⟩
    subst hv9
    go_wp2
    exact ⟨rfl, HF.out⟩
  have ha1 : (ahead : Int) < 32 := by omega
  have HOV : Hid (o = vOut er lf lk tm) := by
    show _ = _
    rw [HOE.out]
    unfold headO
    rw [if_neg (by omega), if_neg HN4.out, if_neg HH3.out, if_neg (by omega)]
    rfl
  clear HOE HH3 HN4 HRL HRQ HRS HM HPN
  go_wp2_with fail
  refine Calls.mono (must_yes 6 w8) ?_
  rintro e w9 ⟨rfl, hw9⟩
  subst hw9
  have HVN := (show Hid _ from HX.out.tv w9 x HU8.out.2.2)
  go_wp2_with fail
  refine Calls.mono HVN.out ?_
  clear HVN
  rintro e wa ⟨hQ⟩
  rcases hQ with ⟨her, vv, cs, rfl, hxa, hra, fa⟩ | ⟨c, her, rfl, fa⟩
  case inr =>
    have HF : Hid (RcV W0 w q X rest o (.panicked (flt c)) wa) := RcV.fail (by rw [HOV.out, her]; rfl) (HU8.out.1.own (Nat.le_of_lt hxw) hql (by omega) fa).fr
    clear fa her HU8 HOV HX
    go_wp2
    exact ⟨rfl, HF.out⟩
  have hx9 := HU8.out.2.2.lt
  have hsz9 : w.heap.size + 1 ≤ w9.heap.size := HU8.out.2.1.lt
  obtain ⟨rb, ro, rn, rc, hst, hs0⟩ := hra.ex
  have hrn : lf.length = rn := hs0.len
  have HUa : Hid (RuS W0 w q rest 3 wa ∧ Stc wa w.heap.size [.int .u8 0, .int .u8 0, .int .u32 0, .int .u16 0, .int .u16 0, .int .u32 0, .int .u32 0, .int .u32 0, .int .u16 0, .int .u16 0, .slice none 0 0, .slice none 0 0, .slice none 0 0, .slice none 0 0] ∧ X (w.heap.size + 1) vv cs wa) := ⟨HU8.out.1.own (Nat.le_of_lt hxw) hql (by omega) fa, HU8.out.2.1.fr fa (by omega), HX.out.base hxa hsz9⟩
  have d0 := hst.cell 0 _ rfl
  have HER := (show Hid _ from her)
  clear HU8 fa hxa hra hst hs0 her
  by_cases hlf : lf = []
  case neg =>
    have hrn1 : ((rn : Int) == 0) = false := by
      have : lf.length ≠ 0 := fun e => hlf (List.eq_nil_of_length_eq_zero e)
      simp
      omega
    have HF : Hid (RcV W0 w q X rest o (.panicked (flt 4)) wa) := RcV.fail (by rw [HOV.out, HER.out]; unfold vOut; rw [if_pos (.inl hlf)]) HUa.out.1.fr
    clear hlf HUa HOV HX HER hrn
    go_wp2_with fail
    refine Calls.mono (must_no 4 wa) ?_
    rintro e v9 ⟨rfl, hv9⟩
    subst hv9
    go_wp2
    exact ⟨rfl, HF.out⟩
  have hrn0 : rn = 0 := by rw [← hrn, hlf]; rfl
  subst hrn0
  have HLF := (show Hid _ from hlf)
  clear hlf hrn
  have HLK := (show Hid _ from HX.out.lk _ vv cs wa HUa.out.2.2)
  go_wp2_with fail
  refine Calls.mono HLK.out ?_
  clear HLK d0
  rintro e wb ⟨rfl, bb⟩
  have HUb : Hid (RuS W0 w q rest 3 wb ∧ Stc wb w.heap.size [.int .u8 0, .int .u8 0, .int .u32 0, .int .u16 0, .int .u16 0, .int .u32 0, .int .u32 0, .int .u32 0, .int .u16 0, .int .u16 0, .slice none 0 0, .slice none 0 0, .slice none 0 0, .slice none 0 0] ∧ X (w.heap.size + 1) vv cs wb) := ⟨HUa.out.1.below bb, HUa.out.2.1.below bb, HX.out.fr (Q := fun _ => False) HUa.out.2.2 (Fr.of_below bb) (fun _ _ _ e => e)⟩
  clear HUa bb
  cases lk with
  | true =>
    have HF : Hid (RcV W0 w q X rest o (.panicked (flt 4)) wb) := RcV.fail (by rw [HOV.out, HER.out]; unfold vOut; rw [if_pos (.inr rfl)]) HUb.out.1.fr
    clear HLF HUb HOV HX HER
    go_wp2_with fail
    refine Calls.mono (must_no 4 wb) ?_
    rintro e v9 ⟨rfl, hv9⟩
    subst hv9
    go_wp2
    exact ⟨rfl, HF.out⟩
  | false =>
  go_wp2_with fail
  refine Calls.mono (must_yes 4 wb) ?_
  rintro e wc ⟨rfl, hwc⟩
  subst hwc
  have HMN := (show Hid _ from HX.out.tm _ vv cs wc HUb.out.2.2)
  go_wp2_with fail
  refine Calls.mono HMN.out ?_
  clear HMN
  rintro e wd ⟨rfl, bd⟩
  have HUd : Hid (RuS W0 w q rest 3 wd ∧ Stc wd w.heap.size [.int .u8 0, .int .u8 0, .int .u32 0, .int .u16 0, .int .u16 0, .int .u32 0, .int .u32 0, .int .u32 0, .int .u16 0, .int .u16 0, .slice none 0 0, .slice none 0 0, .slice none 0 0, .slice none 0 0] ∧ X (w.heap.size + 1) vv cs wd) := ⟨HUb.out.1.below bd, HUb.out.2.1.below bd, HX.out.fr (Q := fun _ => False) HUb.out.2.2 (Fr.of_below bd) (fun _ _ _ e => e)⟩
  clear HUb bd
  cases tm with
  | true =>
    have HF : Hid (RcV W0 w q X rest o (.panicked (flt 6)) wd) := RcV.fail (by rw [HOV.out, HER.out, HLF.out]; rfl) HUd.out.1.fr
    clear HLF HUd HOV HX HER
    go_wp2_with fail
    refine Calls.mono (must_no 6 wd) ?_
    rintro e v9 ⟨rfl, hv9⟩
    subst hv9
    go_wp2
    exact ⟨rfl, HF.out⟩
  | false =>
  have HON : Hid (o = none) := by show _ = _; rw [HOV.out, HER.out, HLF.out]; rfl
  clear HOV HER HLF
  go_wp2_with fail
  refine Calls.mono (must_yes 6 wd) ?_
  rintro e we ⟨rfl, hwe⟩
  subst hwe
  have HCO := (show Hid _ from HX.out.co _ vv cs we HUd.out.2.2)
  go_wp2_with fail
  refine Calls.mono HCO.out ?_
  clear HCO
  rintro e wf ⟨rfl, bf⟩
  have hxf := HX.out.fr (Q := fun _ => False) HUd.out.2.2 (Fr.of_below bf) (fun _ _ _ e => e)
  obtain ⟨hcl, hone⟩ := HX.out.cs _ _ _ _ hxf
  have s := HUd.out.2.1.below bf
  have hth : wf.there w.heap.size 0 cs.toArray.size := by
    have e : cs.toArray.size = 14 := by simp [hcl]
    rw [e]
    exact s.there
  have hi14 := ch_size14R cs hcl
  have hi14' : (Tryd.prog.info? 29).map (·.size) = some cs.toArray.size := by rw [List.size_toArray]; exact hi14
  have hput := s.put cs (by rw [hcl]; rfl)
  have hff := fr_setCellsX w.heap.size cs 0 wf
  have hxg := HX.out.base (B' := w.heap.size) (HX.out.fr hxf hff (fun g hg _ e => by have : g = w.heap.size := e; omega)) (by omega)
  have HF := (show Hid _ from And.intro (((HUd.out.1.below bf).own (Nat.le_refl _) hql (by omega) hff)) (And.intro hput hxg))
  clear HUd bf s hput hff hxf hxg
  go_wp2_with (first | (refine wpList_store_mid rfl 29 _ _ rfl w.heap.size 0 cs.toArray rfl rfl hth hi14' (all_oneCell_toArray hone) ?_; change wpList _ _ _ _ _ (wf.setCells w.heap.size 0 cs)) | fail)
  try simp only [Exit.inBlock, Exit.then]
  refine bodyPost_ret (results_cellE rfl _ _ w.heap.size 0 cs _ rfl HF.out.2.1.range Tryd.underlying29 rfl hi14) rfl ?_
  have hd := HF.out.1.done (v := .tuple #[]) (e := .returned (.tuple #[])) rfl
  exact ⟨fun _ => ⟨⟨vv, cs, rfl, HF.out.2.2⟩, hd.rd, hd.fr⟩, fun c e => by rw [HON.out] at e; cases e⟩
end Go.Proofs.YtifdfkkjmjabnaaDoor
namespace Go.Proofs.YtifdfkkjmjabnaaDoor
open Go.RowKit
theorem bytesB_mod (n : Nat) : ∀ a r : Nat, bytesB (a * 256 ^ n + r) n = bytesB r n := by
  induction n with
  | zero => intro a r; rfl
  | succ n ih =>
    intro a r
    have hP : 0 < 256 ^ n := Nat.pow_pos (by omega)
    have e1 : a * 256 ^ (n + 1) + r = (a * 256) * 256 ^ n + r := by rw [Nat.pow_succ, Nat.mul_assoc, Nat.mul_comm 256]
    show ((a * 256 ^ (n + 1) + r) / 256 ^ n % 256) :: bytesB (a * 256 ^ (n + 1) + r) n = (r / 256 ^ n % 256) :: bytesB r n
    rw [e1, ih, Nat.add_comm, Nat.add_mul_div_right _ _ hP]
    congr 1
    omega
theorem numB_acc (l : List Nat) : ∀ acc, l.foldl (fun v d => v * 256 + d) acc = acc * 256 ^ l.length + numB l := by
  induction l with
  | nil => intro acc; simp [numB]
  | cons x l ih =>
    intro acc
    show l.foldl _ (acc * 256 + x) = acc * 256 ^ (l.length + 1) + l.foldl _ (0 * 256 + x)
    rw [ih, ih (0 * 256 + x), Nat.pow_succ]
    generalize 256 ^ l.length = P
    rw [Nat.add_mul, Nat.zero_mul, Nat.zero_add, Nat.mul_assoc, Nat.mul_comm 256 P]
    omega
theorem numB_cons (x : Nat) (l : List Nat) : numB (x :: l) = x * 256 ^ l.length + numB l := by
  show l.foldl _ (0 * 256 + x) = _
  rw [numB_acc]
  simp
theorem numB_ltM (l : List Nat) (hb : ∀ x ∈ l, x < 256) : numB l < 256 ^ l.length := by
  refine numB_lt l fun i => ?_
  rw [List.getD_eq_getElem?_getD]
  cases h : l[i]? with
  | none => simp
  | some x => exact hb x (List.mem_of_getElem? h)
theorem bytesB_numB (l : List Nat) (hb : ∀ x ∈ l, x < 256) : bytesB (numB l) l.length = l := by
  induction l with
  | nil => rfl
  | cons x l ih =>
    have hl : ∀ y ∈ l, y < 256 := fun y hy => hb y (List.mem_cons_of_mem _ hy)
    have hx := hb x List.mem_cons_self
    have hlt := numB_ltM l hl
    have hP : 0 < 256 ^ l.length := Nat.pow_pos (by omega)
    rw [numB_cons]
    show ((x * 256 ^ l.length + numB l) / 256 ^ l.length % 256) :: bytesB (x * 256 ^ l.length + numB l) l.length = x :: l
    rw [bytesB_mod, ih hl, Nat.add_comm, Nat.add_mul_div_right _ _ hP, Nat.div_eq_of_lt hlt]
    congr 1
    omega
/-- A number that stands in bytes is read there. -/
theorem numV_at (A : List Nat) (v k : Nat) (R : List Nat) (h1 : 1 ≤ k) (h8 : k ≤ 8) (hv : v < 256 ^ k) (p : Nat) (hp : p = A.length) : numV (A ++ (bytesB v k ++ R)) (p : Int) (k : Int) = v := by
  subst hp
  unfold numV
  have e : nspanE (A ++ (bytesB v k ++ R)).length (A.length : Int) (k : Int) = 0 := by
    unfold nspanE spanE
    rw [if_neg (by omega)]
    simp only [List.length_append, bytesB_len]
    rw [if_neg (by omega), if_neg (by omega)]
  rw [if_pos e, Int.toNat_natCast, Int.toNat_natCast, List.drop_left, List.take_append_of_le_length (by rw [bytesB_len]; exact Nat.le_refl _), List.take_of_length_le (by rw [bytesB_len]; exact Nat.le_refl _)]
  show (bytesB v k).foldl _ 0 = v
  rw [numB_bytes, Nat.mod_eq_of_lt hv]
  omega
theorem mem_bnd {zs : List Nat} (hb : ∀ i, zs.getD i 0 < 256) : ∀ x ∈ zs, x < 256 := by
  intro x hx
  obtain ⟨i, hi⟩ := List.getElem?_of_mem hx
  have := hb i
  rw [List.getD_eq_getElem?_getD, hi] at this
  exact this
/-- The bytes of a number that is read are the bytes that stand there. -/
theorem bytesB_at (zs : List Nat) (p k : Nat) (hb : ∀ i, zs.getD i 0 < 256) (h1 : 1 ≤ k) (h8 : k ≤ 8) (hl : p + k ≤ zs.length) : bytesB (numV zs (p : Int) (k : Int)) k = (zs.drop p).take k := by
  unfold numV
  have e : nspanE zs.length (p : Int) (k : Int) = 0 := by
    unfold nspanE spanE
    rw [if_neg (by omega), if_neg (by omega), if_neg (by omega)]
  rw [if_pos e, Int.toNat_natCast, Int.toNat_natCast]
  have hll : ((zs.drop p).take k).length = k := by rw [List.length_take, List.length_drop]; omega
  have hm : ∀ x ∈ (zs.drop p).take k, x < 256 := fun x hx => mem_bnd hb x (List.mem_of_mem_drop (List.mem_of_mem_take hx))
  have := bytesB_numB _ hm
  rwa [hll] at this
end Go.Proofs.YtifdfkkjmjabnaaDoor
namespace Go.Proofs.YtifdfkkjmjabnaaDoor
open Go.RowKit
theorem chV_bad {W0 : World} (kind flags : Nat) (vz : List Nat) (c : Int) (h : ∀ W x, RdW W0 W x vz 4 → Calls Tryd.prog 75 #[.pointer (some ⟨x, 0, none⟩), .int .u8 (kind : Nat)] W (Holds fun e V => e = .panicked (flt c) ∧ Fr (fun k => k = x) W V)) : ChV W0 kind flags vz (fun _ _ _ _ => False) (some c) [] false false where
  fr := fun h _ _ => h
  base := fun h _ => h
  tv := fun W x hr => Calls.mono (h W x hr) (fun _ _ hP => ⟨.inr ⟨c, rfl, hP.h.1, hP.h.2⟩⟩)
  lk := fun _ _ _ _ h => h.elim
  tm := fun _ _ _ _ h => h.elim
  co := fun _ _ _ _ h => h.elim
  cs := fun _ _ _ _ h => h.elim
theorem chV_data {W0 : World} (kind flags : Nat) (vz : List Nat) (h12 : 12 ≤ vz.length) (hb : vz.length ≤ 2000) (hk : kind = 0) : ChV W0 kind flags vz (fun B vv cs V => ∃ xa xc, vv = .iface 79 (.agg #[.int .u32 (numB (vz.take 4) : Nat), .int .u16 (numB ((vz.drop 4).take 2) : Nat), .int .u16 (numB ((vz.drop 6).take 2) : Nat), .int .u32 (numB ((vz.drop 8).take 4) : Nat), .slice xa (vz.drop 12).length xc]) ∧ cs = [.int .u8 (kind : Nat), .int .u8 (flags : Nat), .int .u32 (numB (vz.take 4) : Nat), .int .u16 (numB ((vz.drop 4).take 2) : Nat), .int .u16 (numB ((vz.drop 6).take 2) : Nat), .int .u32 (numB ((vz.drop 8).take 4) : Nat), .int .u32 0, .int .u32 0, .int .u16 0, .int .u16 0, .slice none 0 0, .slice none 0 0, .slice none 0 0, .slice xa (vz.drop 12).length xc] ∧ OwnB V B xa (vz.drop 12).length xc (vz.drop 12)) none [] (decide ((vz.drop 12).length = 0)) false where
  fr := fun ⟨xa, xc, h1, h2, o0⟩ hf hq => ⟨xa, xc, h1, h2, o0.fr hf hq⟩
  base := fun ⟨xa, xc, h1, h2, o0⟩ hb => ⟨xa, xc, h1, h2, o0.base hb⟩
  tv := fun W x h => Calls.mono (rvalue_data h kind hk h12 (by omega)) (fun e V hP => ⟨.inl ⟨rfl, by obtain ⟨xa, xc, rfl, o0⟩ := hP.ex; exact ⟨_, _, rfl, ⟨xa, xc, rfl, rfl, o0⟩, hP.rd, hP.fr⟩⟩⟩)
  lk := fun B vv cs V ⟨xa, xc, h1, h2, o0⟩ => by
    have := lacks_data kind flags (numB (vz.take 4)) (numB ((vz.drop 4).take 2)) (numB ((vz.drop 6).take 2)) (numB ((vz.drop 8).take 4)) 0 0 0 0 none 0 0 none 0 0 none 0 0 xa ((vz.drop 12).length) xc V vv h1
    exact this
  tm := fun B vv cs V ⟨xa, xc, h1, h2, o0⟩ => by
    have := many_data kind flags (numB (vz.take 4)) (numB ((vz.drop 4).take 2)) (numB ((vz.drop 6).take 2)) (numB ((vz.drop 8).take 4)) 0 0 0 0 none 0 0 none 0 0 none 0 0 xa ((vz.drop 12).length) xc V vv h1
    exact this
  co := fun B vv cs V ⟨xa, xc, h1, h2, o0⟩ => by
    subst h2
    exact chunkOf_data kind flags (numB (vz.take 4)) (numB ((vz.drop 4).take 2)) (numB ((vz.drop 6).take 2)) (numB ((vz.drop 8).take 4)) 0 0 0 0 none 0 0 none 0 0 none 0 0 xa ((vz.drop 12).length) xc V _ _ vv rfl rfl h1
  cs := fun B vv cs V ⟨xa, xc, h1, h2, o0⟩ => by
    subst h2
    refine ⟨rfl, fun u hu => ?_⟩
    simp only [List.mem_cons, List.not_mem_nil, or_false] at hu
    rcases hu with rfl | rfl | rfl | rfl | rfl | rfl | rfl | rfl | rfl | rfl | rfl | rfl | rfl | rfl <;> rfl
theorem chV_init {W0 : World} (kind flags : Nat) (vz : List Nat) (ps : List Pm) (h16 : ps.length ≤ 16) (hz16 : 16 ≤ vz.length) (hb : vz.length ≤ 2000) (hps : parP ((vz.drop 16).length + 1) 0 (vz.drop 16) = .ok ps) (hk : kind = 1 ∨ kind = 2) : ChV W0 kind flags vz (fun B vv cs V => ∃ xa xc, vv = .iface 82 (.agg #[.int .u32 (numB (vz.take 4) : Nat), .int .u32 (numB ((vz.drop 4).take 4) : Nat), .int .u16 (numB ((vz.drop 8).take 2) : Nat), .int .u16 (numB ((vz.drop 10).take 2) : Nat), .int .u32 (numB ((vz.drop 12).take 4) : Nat), .slice xa ps.length xc]) ∧ cs = [.int .u8 (kind : Nat), .int .u8 (flags : Nat), .int .u32 (numB ((vz.drop 12).take 4) : Nat), .int .u16 0, .int .u16 0, .int .u32 0, .int .u32 (numB (vz.take 4) : Nat), .int .u32 (numB ((vz.drop 4).take 4) : Nat), .int .u16 (numB ((vz.drop 8).take 2) : Nat), .int .u16 (numB ((vz.drop 10).take 2) : Nat), .slice none 0 0, .slice none 0 0, .slice xa ps.length xc, .slice none 0 0] ∧ PmO V B xa ps.length xc ps) none [] false false where
  fr := fun ⟨xa, xc, h1, h2, o0⟩ hf hq => ⟨xa, xc, h1, h2, o0.fr hf hq⟩
  base := fun ⟨xa, xc, h1, h2, o0⟩ hb => ⟨xa, xc, h1, h2, o0.base hb⟩
  tv := fun W x h => by
    refine tvw_init kind hk (fun e V => ∃ xa xc, e = .returned (.iface 82 (.agg #[.int .u32 (numB (vz.take 4) : Nat), .int .u32 (numB ((vz.drop 4).take 4) : Nat), .int .u16 (numB ((vz.drop 8).take 2) : Nat), .int .u16 (numB ((vz.drop 10).take 2) : Nat), .int .u32 (numB ((vz.drop 12).take 4) : Nat), .slice xa ps.length xc])) ∧ PmO V W.heap.size xa ps.length xc ps ∧ RdW W0 V x [] 4 ∧ Fr (fun k => k = x) W V) (fun W1 hb1 => Calls.mono (rinitX (h.below hb1) hz16 hb) (fun e V hP => ?_)) _ (fun e V hq => ?_)
    · have hI := hP.ok ps hps
      obtain ⟨xa, xc, he, o0⟩ := hI.ex
      exact ⟨xa, xc, he, o0.base hb1.size, hI.rd, (Fr.of_below hb1).trans hI.fr⟩
    · obtain ⟨xa, xc, rfl, o0, hr, hf⟩ := hq
      exact .inl ⟨_, rfl, .inl ⟨rfl, _, _, rfl, ⟨xa, xc, rfl, rfl, o0⟩, hr, hf⟩⟩
  lk := fun B vv cs V ⟨xa, xc, h1, h2, o0⟩ => by
    have := lacks_init kind flags (numB ((vz.drop 12).take 4)) 0 0 0 (numB (vz.take 4)) (numB ((vz.drop 4).take 4)) (numB ((vz.drop 8).take 2)) (numB ((vz.drop 10).take 2)) none 0 0 none 0 0 xa (ps.length) xc none 0 0 V vv h1
    exact this
  tm := fun B vv cs V ⟨xa, xc, h1, h2, o0⟩ => by
    have := many_init kind flags (numB ((vz.drop 12).take 4)) 0 0 0 (numB (vz.take 4)) (numB ((vz.drop 4).take 4)) (numB ((vz.drop 8).take 2)) (numB ((vz.drop 10).take 2)) none 0 0 none 0 0 xa (ps.length) xc none 0 0 V vv h1
    rwa [decide_eq_false (by omega)] at this
  co := fun B vv cs V ⟨xa, xc, h1, h2, o0⟩ => by
    subst h2
    exact chunkOf_init kind flags (numB ((vz.drop 12).take 4)) 0 0 0 (numB (vz.take 4)) (numB ((vz.drop 4).take 4)) (numB ((vz.drop 8).take 2)) (numB ((vz.drop 10).take 2)) none 0 0 none 0 0 xa (ps.length) xc none 0 0 V _ _ vv rfl rfl h1
  cs := fun B vv cs V ⟨xa, xc, h1, h2, o0⟩ => by
    subst h2
    refine ⟨rfl, fun u hu => ?_⟩
    simp only [List.mem_cons, List.not_mem_nil, or_false] at hu
    rcases hu with rfl | rfl | rfl | rfl | rfl | rfl | rfl | rfl | rfl | rfl | rfl | rfl | rfl | rfl <;> rfl
theorem chV_sack {W0 : World} (kind flags : Nat) (vz : List Nat) (tsn room nb nd : Nat) (bs : List (Nat × Nat)) (ds ex : List Nat) (hvz : vz = bytesB tsn 4 ++ (bytesB room 4 ++ (bytesB nb 2 ++ (bytesB nd 2 ++ (bksB bs ++ (dusB ds ++ ex)))))) (htb : tsn < 4294967296) (hrb : room < 4294967296) (hbn : nb < 65536) (hdn : nd < 65536) (hbl : bs.length ≤ 1000) (hdl : ds.length ≤ 1000) (hbb : ∀ p ∈ bs, p.1 < 65536 ∧ p.2 < 65536) (hdb : ∀ d ∈ ds, d < 4294967296) (hcs : SkC nb nd bs ds ex) (he : bs.length = nb ∧ ds.length = nd) (hk : kind = 3) : ChV W0 kind flags vz (fun B vv cs V => ∃ la lc ma mc, vv = .iface 84 (.agg #[.int .u32 (tsn : Nat), .int .u32 (room : Nat), .slice la bs.length lc, .slice ma ds.length mc]) ∧ cs = [.int .u8 (kind : Nat), .int .u8 (flags : Nat), .int .u32 (tsn : Nat), .int .u16 0, .int .u16 0, .int .u32 0, .int .u32 0, .int .u32 (room : Nat), .int .u16 0, .int .u16 0, .slice la bs.length lc, .slice ma ds.length mc, .slice none 0 0, .slice none 0 0] ∧ OwnK V B la bs.length lc bs ∧ OwnD V B ma ds.length mc ds) none ex false (decide (16 < bs.length ∨ 16 < ds.length)) where
  fr := fun ⟨la, lc, ma, mc, h1, h2, o0, o1⟩ hf hq => ⟨la, lc, ma, mc, h1, h2, OwnG.fr o0 hf (fun g hg => hq g (o0.own.lt g hg).1 (o0.own.lt g hg).2), OwnG.fr o1 hf (fun g hg => hq g (o1.own.lt g hg).1 (o1.own.lt g hg).2)⟩
  base := fun ⟨la, lc, ma, mc, h1, h2, o0, o1⟩ hb => ⟨la, lc, ma, mc, h1, h2, OwnG.base o0 hb, OwnG.base o1 hb⟩
  tv := fun W x h => by
    refine tvw_sack kind hk (fun e V => ∃ la lc ma mc, e = .returned (.iface 84 (.agg #[.int .u32 (tsn : Nat), .int .u32 (room : Nat), .slice la bs.length lc, .slice ma ds.length mc])) ∧ OwnK V W.heap.size la bs.length lc bs ∧ OwnD V W.heap.size ma ds.length mc ds ∧ RdW W0 V x ex 4 ∧ Fr (fun k => k = x) W V) (fun W1 hb1 => Calls.mono (rsackX tsn room nb nd bs ds ex (hvz ▸ h.below hb1) htb hrb hbn hdn hbl hdl hbb hdb hcs) (fun e V hP => ?_)) _ (fun e V hq => ?_)
    · have hI := hP.ok he
      obtain ⟨la, lc, ma, mc, h9, o0, o1⟩ := hI.got
      exact ⟨la, lc, ma, mc, h9, OwnG.base o0 hb1.size, OwnG.base o1 hb1.size, hI.rd, (Fr.of_below hb1).trans hI.fr⟩
    · obtain ⟨la, lc, ma, mc, rfl, o0, o1, hr, hf⟩ := hq
      exact .inl ⟨_, rfl, .inl ⟨rfl, _, _, rfl, ⟨la, lc, ma, mc, rfl, rfl, o0, o1⟩, hr, hf⟩⟩
  lk := fun B vv cs V ⟨la, lc, ma, mc, h1, h2, o0, o1⟩ => by
    have := lacks_sack kind flags (tsn) 0 0 0 0 (room) 0 0 la (bs.length) lc ma (ds.length) mc none 0 0 none 0 0 V vv h1
    exact this
  tm := fun B vv cs V ⟨la, lc, ma, mc, h1, h2, o0, o1⟩ => by
    have := many_sack kind flags (tsn) 0 0 0 0 (room) 0 0 la (bs.length) lc ma (ds.length) mc none 0 0 none 0 0 V vv h1
    exact this
  co := fun B vv cs V ⟨la, lc, ma, mc, h1, h2, o0, o1⟩ => by
    subst h2
    exact chunkOf_sack kind flags (tsn) 0 0 0 0 (room) 0 0 la (bs.length) lc ma (ds.length) mc none 0 0 none 0 0 V _ _ vv rfl rfl h1
  cs := fun B vv cs V ⟨la, lc, ma, mc, h1, h2, o0, o1⟩ => by
    subst h2
    refine ⟨rfl, fun u hu => ?_⟩
    simp only [List.mem_cons, List.not_mem_nil, or_false] at hu
    rcases hu with rfl | rfl | rfl | rfl | rfl | rfl | rfl | rfl | rfl | rfl | rfl | rfl | rfl | rfl <;> rfl
theorem chV_prms {W0 : World} (kind flags : Nat) (vz : List Nat) (ps : List Pm) (h16 : ps.length ≤ 16) (hb : vz.length ≤ 2000) (hps : parP (vz.length + 1) 0 vz = .ok ps) (hk : kind = 4 ∨ kind = 5 ∨ kind = 6 ∨ kind = 9) : ChV W0 kind flags vz (fun B vv cs V => ∃ xa xc, vv = .iface 80 (.slice xa ps.length xc) ∧ cs = [.int .u8 (kind : Nat), .int .u8 (flags : Nat), .int .u32 0, .int .u16 0, .int .u16 0, .int .u32 0, .int .u32 0, .int .u32 0, .int .u16 0, .int .u16 0, .slice none 0 0, .slice none 0 0, .slice xa ps.length xc, .slice none 0 0] ∧ PmO V B xa ps.length xc ps) none [] false false where
  fr := fun ⟨xa, xc, h1, h2, o0⟩ hf hq => ⟨xa, xc, h1, h2, o0.fr hf hq⟩
  base := fun ⟨xa, xc, h1, h2, o0⟩ hb => ⟨xa, xc, h1, h2, o0.base hb⟩
  tv := fun W x h => by
    refine tvw_params kind hk (fun e V => ∃ xa xc, e = .returned (.slice xa ps.length xc) ∧ PmO V W.heap.size xa ps.length xc ps ∧ RdW W0 V x [] 4 ∧ Fr (fun k => k = x) W V) (fun W1 hb1 => Calls.mono (rparamsX vz (h.below hb1) hb) (fun e V hP => ?_)) _ (fun e V hq => ?_)
    · have hI := hP.ok ps hps
      obtain ⟨xa, xc, he, o0⟩ := hI.ex
      exact ⟨xa, xc, he, o0.base hb1.size, hI.rd, (Fr.of_below hb1).trans hI.fr⟩
    · obtain ⟨xa, xc, rfl, o0, hr, hf⟩ := hq
      exact .inl ⟨_, _, _, rfl, .inl ⟨rfl, _, _, rfl, ⟨xa, xc, rfl, rfl, o0⟩, hr, hf⟩⟩
  lk := fun B vv cs V ⟨xa, xc, h1, h2, o0⟩ => by
    have := lacks_prms kind flags 0 0 0 0 0 0 0 0 none 0 0 none 0 0 xa (ps.length) xc none 0 0 V vv h1
    exact this
  tm := fun B vv cs V ⟨xa, xc, h1, h2, o0⟩ => by
    have := many_prms kind flags 0 0 0 0 0 0 0 0 none 0 0 none 0 0 xa (ps.length) xc none 0 0 V vv h1
    rwa [decide_eq_false (by omega)] at this
  co := fun B vv cs V ⟨xa, xc, h1, h2, o0⟩ => by
    subst h2
    exact chunkOf_prms kind flags 0 0 0 0 0 0 0 0 none 0 0 none 0 0 xa (ps.length) xc none 0 0 V _ _ vv rfl rfl h1
  cs := fun B vv cs V ⟨xa, xc, h1, h2, o0⟩ => by
    subst h2
    refine ⟨rfl, fun u hu => ?_⟩
    simp only [List.mem_cons, List.not_mem_nil, or_false] at hu
    rcases hu with rfl | rfl | rfl | rfl | rfl | rfl | rfl | rfl | rfl | rfl | rfl | rfl | rfl | rfl <;> rfl
theorem chV_tsnv {W0 : World} (kind flags : Nat) (vz : List Nat) (h4 : 4 ≤ vz.length) (hk : kind = 7) : ChV W0 kind flags vz (fun _B vv cs _V => vv = .iface 85 (.int .u32 (numB (vz.take 4) : Nat)) ∧ cs = [.int .u8 (kind : Nat), .int .u8 (flags : Nat), .int .u32 (numB (vz.take 4) : Nat), .int .u16 0, .int .u16 0, .int .u32 0, .int .u32 0, .int .u32 0, .int .u16 0, .int .u16 0, .slice none 0 0, .slice none 0 0, .slice none 0 0, .slice none 0 0]) none (vz.drop 4) false false where
  fr := fun ⟨h1, h2⟩ hf hq => ⟨h1, h2⟩
  base := fun ⟨h1, h2⟩ hb => ⟨h1, h2⟩
  tv := fun W x h => by
    refine tvw_tsn kind hk (fun e V => e = .returned (.int .u32 (numB (vz.take 4) : Nat)) ∧ RdW W0 V x (vz.drop 4) 4 ∧ Fr (fun k => k = x) W V) (fun W1 hb1 => Calls.mono (rword_any (h.below hb1) h4) (fun e V hP => ⟨hP.out, hP.rd, (Fr.of_below hb1).trans hP.fr⟩)) _ (fun e V hq => ?_)
    obtain ⟨rfl, hr, hf⟩ := hq
    exact .inl ⟨_, rfl, .inl ⟨rfl, _, _, rfl, ⟨rfl, rfl⟩, hr, hf⟩⟩
  lk := fun B vv cs V ⟨h1, h2⟩ => by
    have := lacks_tsnv kind flags (numB (vz.take 4)) 0 0 0 0 0 0 0 none 0 0 none 0 0 none 0 0 none 0 0 V vv h1
    exact this
  tm := fun B vv cs V ⟨h1, h2⟩ => by
    have := many_tsnv kind flags (numB (vz.take 4)) 0 0 0 0 0 0 0 none 0 0 none 0 0 none 0 0 none 0 0 V vv h1
    exact this
  co := fun B vv cs V ⟨h1, h2⟩ => by
    subst h2
    exact chunkOf_tsnv kind flags (numB (vz.take 4)) 0 0 0 0 0 0 0 none 0 0 none 0 0 none 0 0 none 0 0 V _ _ vv rfl rfl h1
  cs := fun B vv cs V ⟨h1, h2⟩ => by
    subst h2
    refine ⟨rfl, fun u hu => ?_⟩
    simp only [List.mem_cons, List.not_mem_nil, or_false] at hu
    rcases hu with rfl | rfl | rfl | rfl | rfl | rfl | rfl | rfl | rfl | rfl | rfl | rfl | rfl | rfl <;> rfl
theorem chV_raw {W0 : World} (kind flags : Nat) (vz : List Nat) (hb : vz.length ≤ 2000) (hk : ¬ kind = 0 ∧ ¬ kind = 1 ∧ ¬ kind = 2 ∧ ¬ kind = 3 ∧ ¬ kind = 4 ∧ ¬ kind = 5 ∧ ¬ kind = 6 ∧ ¬ kind = 7 ∧ ¬ kind = 8 ∧ ¬ kind = 9 ∧ ¬ kind = 11 ∧ ¬ kind = 14) : ChV W0 kind flags vz (fun B vv cs V => ∃ xa xc, vv = .iface 88 (.slice xa vz.length xc) ∧ cs = [.int .u8 (kind : Nat), .int .u8 (flags : Nat), .int .u32 0, .int .u16 0, .int .u16 0, .int .u32 0, .int .u32 0, .int .u32 0, .int .u16 0, .int .u16 0, .slice none 0 0, .slice none 0 0, .slice none 0 0, .slice xa vz.length xc] ∧ OwnB V B xa vz.length xc vz) none [] false false where
  fr := fun ⟨xa, xc, h1, h2, o0⟩ hf hq => ⟨xa, xc, h1, h2, o0.fr hf hq⟩
  base := fun ⟨xa, xc, h1, h2, o0⟩ hb => ⟨xa, xc, h1, h2, o0.base hb⟩
  tv := fun W x h => Calls.mono (rvalue_raw h kind hk (by omega)) (fun e V hP => ⟨.inl ⟨rfl, by obtain ⟨xa, xc, rfl, o0⟩ := hP.ex; exact ⟨_, _, rfl, ⟨xa, xc, rfl, rfl, o0⟩, hP.rd, hP.fr⟩⟩⟩)
  lk := fun B vv cs V ⟨xa, xc, h1, h2, o0⟩ => by
    have := lacks_raw kind flags 0 0 0 0 0 0 0 0 none 0 0 none 0 0 none 0 0 xa (vz.length) xc V vv h1
    exact this
  tm := fun B vv cs V ⟨xa, xc, h1, h2, o0⟩ => by
    have := many_raw kind flags 0 0 0 0 0 0 0 0 none 0 0 none 0 0 none 0 0 xa (vz.length) xc V vv h1
    exact this
  co := fun B vv cs V ⟨xa, xc, h1, h2, o0⟩ => by
    subst h2
    exact chunkOf_raw kind flags 0 0 0 0 0 0 0 0 none 0 0 none 0 0 none 0 0 xa (vz.length) xc V _ _ vv rfl rfl h1
  cs := fun B vv cs V ⟨xa, xc, h1, h2, o0⟩ => by
    subst h2
    refine ⟨rfl, fun u hu => ?_⟩
    simp only [List.mem_cons, List.not_mem_nil, or_false] at hu
    rcases hu with rfl | rfl | rfl | rfl | rfl | rfl | rfl | rfl | rfl | rfl | rfl | rfl | rfl | rfl <;> rfl
theorem chV_none {W0 : World} (kind flags : Nat) (vz : List Nat) (hk : kind = 8 ∨ kind = 11 ∨ kind = 14) : ChV W0 kind flags vz (fun _B vv cs _V => vv = .iface 87 (.agg #[]) ∧ cs = [.int .u8 (kind : Nat), .int .u8 (flags : Nat), .int .u32 0, .int .u16 0, .int .u16 0, .int .u32 0, .int .u32 0, .int .u32 0, .int .u16 0, .int .u16 0, .slice none 0 0, .slice none 0 0, .slice none 0 0, .slice none 0 0]) none vz false false where
  fr := fun ⟨h1, h2⟩ hf hq => ⟨h1, h2⟩
  base := fun ⟨h1, h2⟩ hb => ⟨h1, h2⟩
  tv := fun W x h => Calls.mono (rvalue_none x kind W hk) (fun e V hP => ⟨.inl ⟨rfl, _, _, hP.1, ⟨rfl, rfl⟩, h.below hP.2, Fr.of_below hP.2⟩⟩)
  lk := fun B vv cs V ⟨h1, h2⟩ => by
    have := lacks_none kind flags 0 0 0 0 0 0 0 0 none 0 0 none 0 0 none 0 0 none 0 0 V vv h1
    exact this
  tm := fun B vv cs V ⟨h1, h2⟩ => by
    have := many_none kind flags 0 0 0 0 0 0 0 0 none 0 0 none 0 0 none 0 0 none 0 0 V vv h1
    exact this
  co := fun B vv cs V ⟨h1, h2⟩ => by
    subst h2
    exact chunkOf_none kind flags 0 0 0 0 0 0 0 0 none 0 0 none 0 0 none 0 0 none 0 0 V _ _ vv rfl rfl h1
  cs := fun B vv cs V ⟨h1, h2⟩ => by
    subst h2
    refine ⟨rfl, fun u hu => ?_⟩
    simp only [List.mem_cons, List.not_mem_nil, or_false] at hu
    rcases hu with rfl | rfl | rfl | rfl | rfl | rfl | rfl | rfl | rfl | rfl | rfl | rfl | rfl | rfl <;> rfl
/-- Blocks and doubles of bytes. -/
def bsOf (X : List Nat) : Nat → List (Nat × Nat)
  | 0 => []
  | n + 1 => (numB (X.take 2), numB ((X.drop 2).take 2)) :: bsOf (X.drop 4) n
def dsOf (X : List Nat) : Nat → List Nat
  | 0 => []
  | n + 1 => numB (X.take 4) :: dsOf (X.drop 4) n
theorem bsOf_len (X : List Nat) (n : Nat) : (bsOf X n).length = n := by
  induction n generalizing X with
  | zero => rfl
  | succ n ih => simp [bsOf, ih]
theorem dsOf_len (X : List Nat) (n : Nat) : (dsOf X n).length = n := by
  induction n generalizing X with
  | zero => rfl
  | succ n ih => simp [dsOf, ih]
theorem mem_bndX {X : List Nat} (h : ∀ i, X.getD i 0 < 256) : ∀ x ∈ X, x < 256 := by
  intro x hx
  obtain ⟨i, hi⟩ := List.getElem?_of_mem hx
  have := h i
  rw [List.getD_eq_getElem?_getD, hi] at this
  exact this
theorem drop_bnd {X : List Nat} (h : ∀ i, X.getD i 0 < 256) (k : Nat) : ∀ i, (X.drop k).getD i 0 < 256 := fun i => by
  rw [List.getD_eq_getElem?_getD, List.getElem?_drop, ← List.getD_eq_getElem?_getD]; exact h _
theorem take_bnd {X : List Nat} (h : ∀ i, X.getD i 0 < 256) (k : Nat) : ∀ i, (X.take k).getD i 0 < 256 := fun i => by
  rw [List.getD_eq_getElem?_getD, List.getElem?_take]
  split
  · rw [← List.getD_eq_getElem?_getD]; exact h i
  · decide
theorem bytesB_take {X : List Nat} (h : ∀ i, X.getD i 0 < 256) (k : Nat) (hk : k ≤ X.length) : bytesB (numB (X.take k)) k = X.take k := by
  have hl : (X.take k).length = k := by rw [List.length_take]; omega
  have := bytesB_numB (X.take k) (mem_bndX (take_bnd h k))
  rwa [hl] at this
theorem bsOf_eq {X : List Nat} (h : ∀ i, X.getD i 0 < 256) (n : Nat) (hn : 4 * n ≤ X.length) : bksB (bsOf X n) ++ X.drop (4 * n) = X := by
  induction n generalizing X with
  | zero => rfl
  | succ n ih =>
    have h2 := drop_bnd h 2
    rw [show bsOf X (n + 1) = (numB (X.take 2), numB ((X.drop 2).take 2)) :: bsOf (X.drop 4) n from rfl, bksB_cons]
    dsimp only
    rw [bytesB_take h 2 (by omega), bytesB_take h2 2 (by rw [List.length_drop]; omega)]
    have := ih (drop_bnd h 4) (by rw [List.length_drop]; omega)
    rw [List.drop_drop, show 4 + 4 * n = 4 * (n + 1) by omega] at this
    rw [this]
    have e : (X.drop 2).take 2 ++ X.drop 4 = X.drop 2 := by
      rw [show X.drop 4 = (X.drop 2).drop 2 from by rw [List.drop_drop], List.take_append_drop]
    rw [e, List.take_append_drop]
theorem dsOf_eq {X : List Nat} (h : ∀ i, X.getD i 0 < 256) (n : Nat) (hn : 4 * n ≤ X.length) : dusB (dsOf X n) ++ X.drop (4 * n) = X := by
  induction n generalizing X with
  | zero => rfl
  | succ n ih =>
    rw [show dsOf X (n + 1) = numB (X.take 4) :: dsOf (X.drop 4) n from rfl, dusB_cons, bytesB_take h 4 (by omega), List.append_assoc]
    have := ih (drop_bnd h 4) (by rw [List.length_drop]; omega)
    rw [List.drop_drop, show 4 + 4 * n = 4 * (n + 1) by omega] at this
    rw [this, List.take_append_drop]
theorem bsOf_bnd {X : List Nat} (h : ∀ i, X.getD i 0 < 256) (n : Nat) (hn : 4 * n ≤ X.length) : ∀ p ∈ bsOf X n, p.1 < 65536 ∧ p.2 < 65536 := by
  induction n generalizing X with
  | zero => intro p hp; cases hp
  | succ n ih =>
    intro p hp
    rcases List.mem_cons.1 hp with rfl | hp
    · exact ⟨numB_take h 2 (by omega), numB_take (drop_bnd h 2) 2 (by rw [List.length_drop]; omega)⟩
    · exact ih (drop_bnd h 4) (by rw [List.length_drop]; omega) p hp
theorem dsOf_bnd {X : List Nat} (h : ∀ i, X.getD i 0 < 256) (n : Nat) (hn : 4 * n ≤ X.length) : ∀ d ∈ dsOf X n, d < 4294967296 := by
  induction n generalizing X with
  | zero => intro p hp; cases hp
  | succ n ih =>
    intro p hp
    rcases List.mem_cons.1 hp with rfl | hp
    · exact numB_take h 4 (by omega)
    · exact ih (drop_bnd h 4) (by rw [List.length_drop]; omega) p hp
theorem parP_len : ∀ (f k : Nat) (zs : List Nat) (ps : List Pm), k ≤ 16 → parP f k zs = .ok ps → k + ps.length ≤ 16
  | 0, k, zs, ps, hk, h => by
    injection h with h
    subst h
    exact hk
  | f + 1, k, zs, ps, hk, h => by
    unfold parP at h
    split at h
    · injection h with h; subst h; exact hk
    · split at h
      · cases h
      · split at h
        · cases h
        · cases hr : parP f (k + 1) (nextP zs) with
          | error e => rw [hr] at h; cases h
          | ok l =>
            rw [hr] at h
            injection h with h
            subst h
            have := parP_len f (k + 1) (nextP zs) l (by omega) hr
            simp
            omega
/-- The chunk of a kind, flags and a value's bytes, or the error. -/
def valR (kind flags : Nat) (vz : List Nat) : Except Int CD :=
  if kind = 0 then (if vz.length ≤ 12 then .error 4 else .ok ⟨kind, flags, numB (vz.take 4), numB ((vz.drop 4).take 2), numB ((vz.drop 6).take 2), numB ((vz.drop 8).take 4), 0, 0, 0, 0, [], [], [], vz.drop 12⟩)
  else if kind = 1 ∨ kind = 2 then (if vz.length < 16 then .error 4 else match parP ((vz.drop 16).length + 1) 0 (vz.drop 16) with
    | .error e => .error e
    | .ok ps => .ok ⟨kind, flags, numB ((vz.drop 12).take 4), 0, 0, 0, numB (vz.take 4), numB ((vz.drop 4).take 4), numB ((vz.drop 8).take 2), numB ((vz.drop 10).take 2), [], [], ps, []⟩)
  else if kind = 3 then (if vz.length < 12 then .error 4
    else if vz.length ≠ 12 + 4 * numB ((vz.drop 8).take 2) + 4 * numB ((vz.drop 10).take 2) then .error 4
    else if 16 < numB ((vz.drop 8).take 2) ∨ 16 < numB ((vz.drop 10).take 2) then .error 6
    else .ok ⟨kind, flags, numB (vz.take 4), 0, 0, 0, 0, numB ((vz.drop 4).take 4), 0, 0, bsOf (vz.drop 12) (numB ((vz.drop 8).take 2)), dsOf ((vz.drop 12).drop (4 * numB ((vz.drop 8).take 2))) (numB ((vz.drop 10).take 2)), [], []⟩)
  else if kind = 4 ∨ kind = 5 ∨ kind = 6 ∨ kind = 9 then (match parP (vz.length + 1) 0 vz with
    | .error e => .error e
    | .ok ps => .ok ⟨kind, flags, 0, 0, 0, 0, 0, 0, 0, 0, [], [], ps, []⟩)
  else if kind = 7 then (if vz.length ≠ 4 then .error 4 else .ok ⟨kind, flags, numB (vz.take 4), 0, 0, 0, 0, 0, 0, 0, [], [], [], []⟩)
  else if kind = 8 ∨ kind = 11 ∨ kind = 14 then (if vz ≠ [] then .error 4 else .ok ⟨kind, flags, 0, 0, 0, 0, 0, 0, 0, 0, [], [], [], []⟩)
  else .ok ⟨kind, flags, 0, 0, 0, 0, 0, 0, 0, 0, [], [], [], vz⟩
def chuR (zs : List Nat) (ahead : Nat) : Except Int CD := match headO zs ahead with
  | some e => .error e
  | none => valR (numB (zs.take 1)) (numB ((zs.drop 1).take 1)) (valC zs)
structure RoX (W0 w : World) (q : Nat) (r : Except Int CD) (rest : List Nat) (e : Ending) (w' : World) : Prop where
  ok : ∀ c, r = .ok c → RdO W0 w q c rest 3 e w'
  no : ∀ er, r = .error er → RdF w q er e w'
theorem rchunk_of {W0 w : World} {q : Nat} {zs : List Nat} {X : Nat → Value → List Value → World → Prop} {er : Option Int} {lf : List Nat} {lk tm : Bool} (ahead : Nat) (hX : ChV W0 (numB (zs.take 1)) (numB ((zs.drop 1).take 1)) (valC zs) X er lf lk tm) (h : RdW W0 w q zs 3) (hzl : zs.length ≤ 2000)
    (hn : ∀ c, vOut er lf lk tm = some c → valR (numB (zs.take 1)) (numB ((zs.drop 1).take 1)) (valC zs) = .error c)
    (hy : vOut er lf lk tm = none → ∃ cd, valR (numB (zs.take 1)) (numB ((zs.drop 1).take 1)) (valC zs) = .ok cd ∧ ∀ B vv cs V, X B vv cs V → ChO V B cd cs) :
    Calls Tryd.prog 70 #[.pointer (some ⟨q, 0, none⟩), .int .i64 (ahead : Nat)] w (RoX W0 w q (chuR zs ahead) (restC zs)) := by
  refine Calls.mono (rchunkV ahead hX h hzl) ?_
  intro e V hP
  unfold chuR
  cases hh : headO zs ahead with
  | some c =>
    rw [hh] at hP
    exact ⟨fun c e => (by cases e), fun c' e => by injection e with e; subst e; exact hP.no c rfl⟩
  | none =>
    rw [hh] at hP
    dsimp only
    cases hv : vOut er lf lk tm with
    | some c =>
      rw [hv] at hP
      rw [hn c hv]
      exact ⟨fun c e => (by cases e), fun c' e => by injection e with e; subst e; exact hP.no c rfl⟩
    | none =>
      rw [hv] at hP
      obtain ⟨cd, h1, h2⟩ := hy hv
      rw [h1]
      refine ⟨fun c e => ?_, fun c' e => (by cases e)⟩
      injection e with e
      subst e
      have hC := hP.ok rfl
      obtain ⟨vv, cs, he, hx⟩ := hC.ex
      exact ⟨⟨cs, he, h2 _ _ _ _ hx⟩, hC.rd, hC.fr⟩
set_option maxHeartbeats 4000000 in
theorem rchunkR {W0 w : World} {q : Nat} {zs : List Nat} (ahead : Nat) (h : RdW W0 w q zs 3) (hzl : zs.length ≤ 2000) :
    Calls Tryd.prog 70 #[.pointer (some ⟨q, 0, none⟩), .int .i64 (ahead : Nat)] w (RoX W0 w q (chuR zs ahead) (restC zs)) := by
  have key := fun {X : Nat → Value → List Value → World → Prop} {er : Option Int} {lf : List Nat} {lk tm : Bool} (hX : ChV W0 (numB (zs.take 1)) (numB ((zs.drop 1).take 1)) (valC zs) X er lf lk tm) => rchunk_of ahead hX h hzl
  have hvb : ∀ i, (valC zs).getD i 0 < 256 := take_bnd (drop_bnd h.bnd 4) _
  have hvl : (valC zs).length ≤ 2000 := by unfold valC; rw [List.length_take, List.length_drop]; omega
  generalize numB (zs.take 1) = kind at *
  generalize numB ((zs.drop 1).take 1) = flags at *
  generalize valC zs = vz at *
  have bad : ∀ c, (∀ W x, RdW W0 W x vz 4 → Calls Tryd.prog 75 #[.pointer (some ⟨x, 0, none⟩), .int .u8 (kind : Nat)] W (Holds fun e V => e = .panicked (flt c) ∧ Fr (fun k => k = x) W V)) → valR kind flags vz = .error c → Calls Tryd.prog 70 #[.pointer (some ⟨q, 0, none⟩), .int .i64 (ahead : Nat)] w (RoX W0 w q (chuR zs ahead) (restC zs)) := fun c h1 h2 => key (chV_bad kind flags vz c h1) (fun c' e => by injection e with e; subst e; exact h2) (fun e => (by cases e))
  by_cases h0 : kind = 0
  · have eV : valR kind flags vz = if vz.length ≤ 12 then .error 4 else .ok ⟨kind, flags, numB (vz.take 4), numB ((vz.drop 4).take 2), numB ((vz.drop 6).take 2), numB ((vz.drop 8).take 4), 0, 0, 0, 0, [], [], [], vz.drop 12⟩ := by unfold valR; rw [if_pos h0]
    by_cases h12 : vz.length < 12
    · refine bad 4 (fun W x hr => tvw_data kind h0 (fun e V => e = .panicked (flt 4) ∧ Fr (fun k => k = x) W V) (fun W1 hb => Calls.mono (rdata_no (hr.below hb) h12) (fun e V hP => ⟨hP.out, (Fr.of_below hb).trans hP.fr⟩)) _ (fun e V hq => .inr ⟨4, hq.1, rfl, hq.2⟩)) ?_
      rw [eV, if_pos (by omega)]
    · refine key (chV_data kind flags vz (by omega) hvl h0) (fun c e => ?_) (fun e => ?_)
      · unfold vOut at e
        by_cases hl : (vz.drop 12).length = 0
        · rw [if_pos (.inr (decide_eq_true hl))] at e
          injection e with e
          subst e
          rw [List.length_drop] at hl
          rw [eV, if_pos (by omega)]
        · rw [if_neg (by rw [decide_eq_false hl]; simp), if_neg (by simp)] at e
          cases e
      · unfold vOut at e
        by_cases hl : (vz.drop 12).length = 0
        · rw [if_pos (.inr (decide_eq_true hl))] at e
          cases e
        · rw [List.length_drop] at hl
          refine ⟨_, by rw [eV, if_neg (by omega)], ?_⟩
          rintro B vv cs V ⟨xa, xc, h1, h2, o0⟩
          exact ⟨none, 0, none, 0, none, 0, xa, xc, h2, OwnG.nil _ _, OwnG.nil _ _, PmO.nil _ _, o0⟩
  by_cases h1 : kind = 1 ∨ kind = 2
  · have eV : valR kind flags vz = (if vz.length < 16 then .error 4 else match parP ((vz.drop 16).length + 1) 0 (vz.drop 16) with
      | .error e => .error e
      | .ok ps => .ok ⟨kind, flags, numB ((vz.drop 12).take 4), 0, 0, 0, numB (vz.take 4), numB ((vz.drop 4).take 4), numB ((vz.drop 8).take 2), numB ((vz.drop 10).take 2), [], [], ps, []⟩) := by unfold valR; rw [if_neg h0, if_pos h1]
    by_cases h16 : vz.length < 16
    · refine bad 4 (fun W x hr => tvw_init kind h1 (fun e V => e = .panicked (flt 4) ∧ Fr (fun k => k = x) W V) (fun W1 hb => Calls.mono (rinit_no (hr.below hb) h16) (fun e V hP => ⟨hP.out, (Fr.of_below hb).trans hP.fr⟩)) _ (fun e V hq => .inr ⟨4, hq.1, rfl, hq.2⟩)) ?_
      rw [eV, if_pos h16]
    · rw [if_neg h16] at eV
      cases hp : parP ((vz.drop 16).length + 1) 0 (vz.drop 16) with
      | error c =>
        rw [hp] at eV
        exact bad c (fun W x hr => tvw_init kind h1 (fun e V => e = .panicked (flt c) ∧ Fr (fun k => k = x) W V) (fun W1 hb => Calls.mono (rinitX (hr.below hb) (by omega) hvl) (fun e V hP => ⟨(hP.no c hp).out, (Fr.of_below hb).trans (hP.no c hp).fr⟩)) _ (fun e V hq => .inr ⟨c, hq.1, rfl, hq.2⟩)) eV
      | ok ps =>
        rw [hp] at eV
        have hl := parP_len _ _ _ _ (by omega) hp
        refine key (chV_init kind flags vz ps (by omega) (by omega) hvl hp h1) (fun c e => (by cases e)) (fun _ => ⟨_, eV, ?_⟩)
        rintro B vv cs V ⟨xa, xc, h1, h2, o0⟩
        exact ⟨none, 0, none, 0, xa, xc, none, 0, h2, OwnG.nil _ _, OwnG.nil _ _, o0, OwnB.nil _ _⟩
  by_cases h3 : kind = 3
  · have eV : valR kind flags vz = (if vz.length < 12 then .error 4
      else if vz.length ≠ 12 + 4 * numB ((vz.drop 8).take 2) + 4 * numB ((vz.drop 10).take 2) then .error 4
      else if 16 < numB ((vz.drop 8).take 2) ∨ 16 < numB ((vz.drop 10).take 2) then .error 6
      else .ok ⟨kind, flags, numB (vz.take 4), 0, 0, 0, 0, numB ((vz.drop 4).take 4), 0, 0, bsOf (vz.drop 12) (numB ((vz.drop 8).take 2)), dsOf ((vz.drop 12).drop (4 * numB ((vz.drop 8).take 2))) (numB ((vz.drop 10).take 2)), [], []⟩) := by unfold valR; rw [if_neg h0, if_neg h1, if_pos h3]
    by_cases h12 : vz.length < 12
    · refine bad 4 (fun W x hr => tvw_sack kind h3 (fun e V => e = .panicked (flt 4) ∧ Fr (fun k => k = x) W V) (fun W1 hb => Calls.mono (rsack_no (hr.below hb) h12) (fun e V hP => ⟨hP.out, (Fr.of_below hb).trans hP.fr⟩)) _ (fun e V hq => .inr ⟨4, hq.1, rfl, hq.2⟩)) ?_
      rw [eV, if_pos h12]
    · rw [if_neg h12] at eV
      have l8 := drop_bnd hvb 8
      have l10 := drop_bnd hvb 10
      have l4 := drop_bnd hvb 4
      have l12 := drop_bnd hvb 12
      have hnb := numB_take l8 2 (by rw [List.length_drop]; omega)
      have hnd := numB_take l10 2 (by rw [List.length_drop]; omega)
      have htb := numB_take hvb 4 (by omega)
      have hrb := numB_take l4 4 (by rw [List.length_drop]; omega)
      have head : vz = bytesB (numB (vz.take 4)) 4 ++ (bytesB (numB ((vz.drop 4).take 4)) 4 ++ (bytesB (numB ((vz.drop 8).take 2)) 2 ++ (bytesB (numB ((vz.drop 10).take 2)) 2 ++ vz.drop 12))) := by
        rw [bytesB_take hvb 4 (by omega), bytesB_take l4 4 (by rw [List.length_drop]; omega), bytesB_take l8 2 (by rw [List.length_drop]; omega), bytesB_take l10 2 (by rw [List.length_drop]; omega)]
        rw [show vz.drop 12 = (vz.drop 10).drop 2 from by rw [List.drop_drop], List.take_append_drop, show vz.drop 10 = (vz.drop 8).drop 2 from by rw [List.drop_drop], List.take_append_drop, show vz.drop 8 = (vz.drop 4).drop 4 from by rw [List.drop_drop], List.take_append_drop, List.take_append_drop]
      have xl : (vz.drop 12).length = vz.length - 12 := List.length_drop
      generalize numB (vz.take 4) = tsn at *
      generalize numB ((vz.drop 4).take 4) = room at *
      generalize numB ((vz.drop 8).take 2) = nb at *
      generalize numB ((vz.drop 10).take 2) = nd at *
      generalize vz.drop 12 = X at *
      by_cases hs1 : X.length < 4 * nb
      · -- too few for the blocks
        obtain ⟨kb, hkb⟩ : ∃ kb, kb = X.length / 4 := ⟨_, rfl⟩
        have e1 := bsOf_eq l12 kb (by omega)
        have hX : vz = bytesB tsn 4 ++ (bytesB room 4 ++ (bytesB nb 2 ++ (bytesB nd 2 ++ (bksB (bsOf X kb) ++ (dusB [] ++ X.drop (4 * kb)))))) := by
          rw [show dusB [] ++ X.drop (4 * kb) = X.drop (4 * kb) from rfl, e1]
          exact head
        have hC : SkC nb nd (bsOf X kb) [] (X.drop (4 * kb)) := ⟨by rw [bsOf_len]; omega, by simp, fun _ => ⟨rfl, by rw [List.length_drop]; omega⟩, fun e => by rw [bsOf_len] at e; omega⟩
        refine bad 4 (fun W x hr => tvw_sack kind h3 (fun e V => e = .panicked (flt 4) ∧ Fr (fun k => k = x) W V) (fun W1 hb => Calls.mono (rsackX tsn room nb nd (bsOf X kb) [] (X.drop (4 * kb)) (hX ▸ hr.below hb) htb hrb hnb hnd (by rw [bsOf_len]; omega) (by simp) (bsOf_bnd l12 kb (by omega)) (fun d hd => (by cases hd)) hC) (fun e V hP => ?_)) _ (fun e V hq => .inr ⟨4, hq.1, rfl, hq.2⟩)) ?_
        · have hF := hP.no (by rw [bsOf_len]; omega)
          exact ⟨hF.out, (Fr.of_below hb).trans hF.fr⟩
        · rw [eV, if_pos (by omega)]
      · have e1 := bsOf_eq l12 nb (by omega)
        have l13 := drop_bnd l12 (4 * nb)
        have xl2 : (X.drop (4 * nb)).length = X.length - 4 * nb := List.length_drop
        obtain ⟨Y, hY⟩ : ∃ Y, Y = X.drop (4 * nb) := ⟨_, rfl⟩
        rw [← hY] at e1 l13 xl2 eV
        by_cases hs2 : Y.length < 4 * nd
        · obtain ⟨kd, hkd⟩ : ∃ kd, kd = Y.length / 4 := ⟨_, rfl⟩
          have e2 := dsOf_eq l13 kd (by omega)
          have hX : vz = bytesB tsn 4 ++ (bytesB room 4 ++ (bytesB nb 2 ++ (bytesB nd 2 ++ (bksB (bsOf X nb) ++ (dusB (dsOf Y kd) ++ Y.drop (4 * kd)))))) := by
            rw [e2, e1]
            exact head
          have hC : SkC nb nd (bsOf X nb) (dsOf Y kd) (Y.drop (4 * kd)) := ⟨by rw [bsOf_len]; omega, by rw [dsOf_len]; omega, fun e => by rw [bsOf_len] at e; omega, fun _ _ => by rw [List.length_drop]; omega⟩
          refine bad 4 (fun W x hr => tvw_sack kind h3 (fun e V => e = .panicked (flt 4) ∧ Fr (fun k => k = x) W V) (fun W1 hb => Calls.mono (rsackX tsn room nb nd (bsOf X nb) (dsOf Y kd) (Y.drop (4 * kd)) (hX ▸ hr.below hb) htb hrb hnb hnd (by rw [bsOf_len]; omega) (by rw [dsOf_len]; omega) (bsOf_bnd l12 nb (by omega)) (dsOf_bnd l13 kd (by omega)) hC) (fun e V hP => ?_)) _ (fun e V hq => .inr ⟨4, hq.1, rfl, hq.2⟩)) ?_
          · have hF := hP.no (by rw [dsOf_len]; omega)
            exact ⟨hF.out, (Fr.of_below hb).trans hF.fr⟩
          · rw [eV, if_pos (by omega)]
        · have e2 := dsOf_eq l13 nd (by omega)
          have hX : vz = bytesB tsn 4 ++ (bytesB room 4 ++ (bytesB nb 2 ++ (bytesB nd 2 ++ (bksB (bsOf X nb) ++ (dusB (dsOf Y nd) ++ Y.drop (4 * nd)))))) := by
            rw [e2, e1]
            exact head
          have hC : SkC nb nd (bsOf X nb) (dsOf Y nd) (Y.drop (4 * nd)) := ⟨by rw [bsOf_len]; omega, by rw [dsOf_len]; omega, fun e => by rw [bsOf_len] at e; omega, fun _ e => by rw [dsOf_len] at e; omega⟩
          have hcv := chV_sack (W0 := W0) kind flags vz tsn room nb nd (bsOf X nb) (dsOf Y nd) (Y.drop (4 * nd)) hX htb hrb hnb hnd (by rw [bsOf_len]; omega) (by rw [dsOf_len]; omega) (bsOf_bnd l12 nb (by omega)) (dsOf_bnd l13 nd (by omega)) hC ⟨bsOf_len _ _, dsOf_len _ _⟩ h3
          have xl3 : (Y.drop (4 * nd)).length = Y.length - 4 * nd := List.length_drop
          refine key hcv (fun c e => ?_) (fun e => ?_)
          · unfold vOut at e
            by_cases hl : Y.drop (4 * nd) = []
            · rw [if_neg (by simp [hl])] at e
              rw [hl] at xl3
              simp at xl3
              by_cases hm : 16 < (bsOf X nb).length ∨ 16 < (dsOf Y nd).length
              · rw [if_pos (decide_eq_true hm)] at e
                injection e with e
                subst e
                rw [bsOf_len, dsOf_len] at hm
                rw [eV, if_neg (by omega), if_pos hm]
              · rw [if_neg (by rw [decide_eq_false hm]; simp)] at e
                cases e
            · rw [if_pos (.inl hl)] at e
              injection e with e
              subst e
              have : (Y.drop (4 * nd)).length ≠ 0 := fun e => hl (List.eq_nil_of_length_eq_zero e)
              rw [eV, if_pos (by omega)]
          · unfold vOut at e
            by_cases hl : Y.drop (4 * nd) = []
            · rw [if_neg (by simp [hl])] at e
              rw [hl] at xl3
              simp at xl3
              by_cases hm : 16 < (bsOf X nb).length ∨ 16 < (dsOf Y nd).length
              · rw [if_pos (decide_eq_true hm)] at e
                cases e
              · rw [bsOf_len, dsOf_len] at hm
                refine ⟨_, by rw [eV, if_neg (by omega), if_neg hm], ?_⟩
                rintro B vv cs V ⟨la, lc, ma, mc, h1, h2, o0, o1⟩
                exact ⟨la, lc, ma, mc, none, 0, none, 0, h2, o0, o1, PmO.nil _ _, OwnB.nil _ _⟩
            · rw [if_pos (.inl hl)] at e
              cases e
  by_cases h4 : kind = 4 ∨ kind = 5 ∨ kind = 6 ∨ kind = 9
  · have eV : valR kind flags vz = (match parP (vz.length + 1) 0 vz with
      | .error e => .error e
      | .ok ps => .ok ⟨kind, flags, 0, 0, 0, 0, 0, 0, 0, 0, [], [], ps, []⟩) := by unfold valR; rw [if_neg h0, if_neg h1, if_neg h3, if_pos h4]
    cases hp : parP (vz.length + 1) 0 vz with
    | error c =>
      rw [hp] at eV
      exact bad c (fun W x hr => tvw_params kind h4 (fun e V => e = .panicked (flt c) ∧ Fr (fun k => k = x) W V) (fun W1 hb => Calls.mono (rparamsX vz (hr.below hb) hvl) (fun e V hP => ⟨(hP.no c hp).out, (Fr.of_below hb).trans (hP.no c hp).fr⟩)) _ (fun e V hq => .inr ⟨c, hq.1, rfl, hq.2⟩)) eV
    | ok ps =>
      rw [hp] at eV
      have hl := parP_len _ _ _ _ (by omega) hp
      refine key (chV_prms kind flags vz ps (by omega) hvl hp h4) (fun c e => (by cases e)) (fun _ => ⟨_, eV, ?_⟩)
      rintro B vv cs V ⟨xa, xc, h1, h2, o0⟩
      exact ⟨none, 0, none, 0, xa, xc, none, 0, h2, OwnG.nil _ _, OwnG.nil _ _, o0, OwnB.nil _ _⟩
  by_cases h7 : kind = 7
  · have eV : valR kind flags vz = (if vz.length ≠ 4 then .error 4 else .ok ⟨kind, flags, numB (vz.take 4), 0, 0, 0, 0, 0, 0, 0, [], [], [], []⟩) := by unfold valR; rw [if_neg h0, if_neg h1, if_neg h3, if_neg h4, if_pos h7]
    by_cases hl4 : vz.length < 4
    · refine bad 4 (fun W x hr => tvw_tsn kind h7 (fun e V => e = .panicked (flt 4) ∧ Fr (fun k => k = x) W V) (fun W1 hb => Calls.mono (rword_no (hr.below hb) hl4) (fun e V hP => ⟨hP.out, (Fr.of_below hb).trans hP.fr⟩)) _ (fun e V hq => .inr ⟨4, hq.1, rfl, hq.2⟩)) ?_
      rw [eV, if_pos (by omega)]
    · refine key (chV_tsnv kind flags vz (by omega) h7) (fun c e => ?_) (fun e => ?_)
      · unfold vOut at e
        by_cases hl : vz.drop 4 = []
        · rw [if_neg (by simp [hl]), if_neg (by simp)] at e
          cases e
        · rw [if_pos (.inl hl)] at e
          injection e with e
          subst e
          have : (vz.drop 4).length ≠ 0 := fun e => hl (List.eq_nil_of_length_eq_zero e)
          rw [List.length_drop] at this
          rw [eV, if_pos (by omega)]
      · unfold vOut at e
        by_cases hl : vz.drop 4 = []
        · have : (vz.drop 4).length = 0 := by rw [hl]; rfl
          rw [List.length_drop] at this
          refine ⟨_, by rw [eV, if_neg (by omega)], ?_⟩
          rintro B vv cs V ⟨h1, h2⟩
          exact ⟨none, 0, none, 0, none, 0, none, 0, h2, OwnG.nil _ _, OwnG.nil _ _, PmO.nil _ _, OwnB.nil _ _⟩
        · rw [if_pos (.inl hl)] at e
          cases e
  by_cases h8 : kind = 8 ∨ kind = 11 ∨ kind = 14
  · have eV : valR kind flags vz = (if vz ≠ [] then .error 4 else .ok ⟨kind, flags, 0, 0, 0, 0, 0, 0, 0, 0, [], [], [], []⟩) := by unfold valR; rw [if_neg h0, if_neg h1, if_neg h3, if_neg h4, if_neg h7, if_pos h8]
    refine key (chV_none kind flags vz h8) (fun c e => ?_) (fun e => ?_)
    · unfold vOut at e
      by_cases hl : vz = []
      · rw [if_neg (by simp [hl]), if_neg (by simp)] at e
        cases e
      · rw [if_pos (.inl hl)] at e
        injection e with e
        subst e
        rw [eV, if_pos hl]
    · unfold vOut at e
      by_cases hl : vz = []
      · refine ⟨_, by rw [eV, if_neg (by simp [hl])], ?_⟩
        rintro B vv cs V ⟨h1, h2⟩
        exact ⟨none, 0, none, 0, none, 0, none, 0, h2, OwnG.nil _ _, OwnG.nil _ _, PmO.nil _ _, OwnB.nil _ _⟩
      · rw [if_pos (.inl hl)] at e
        cases e
  · have eV : valR kind flags vz = .ok ⟨kind, flags, 0, 0, 0, 0, 0, 0, 0, 0, [], [], [], vz⟩ := by unfold valR; rw [if_neg h0, if_neg h1, if_neg h3, if_neg h4, if_neg h7, if_neg h8]
    refine key (chV_raw kind flags vz hvl (by omega)) (fun c e => (by cases e)) (fun _ => ⟨_, eV, ?_⟩)
    rintro B vv cs V ⟨xa, xc, h1, h2, o0⟩
    exact ⟨none, 0, none, 0, none, 0, xa, xc, h2, OwnG.nil _ _, OwnG.nil _ _, PmO.nil _ _, o0⟩
end Go.Proofs.YtifdfkkjmjabnaaDoor
namespace Go.Proofs.YtifdfkkjmjabnaaDoor
open Go.RowKit
def combC (cs : List CD) : Except Int (List CD) → Except Int (List CD)
  | .ok l => .ok (cs ++ l)
  | .error e => .error e
/-- The chunks of bytes, i of them ahead. -/
def chsR : Nat → Nat → List Nat → Except Int (List CD)
  | 0, _, _ => .ok []
  | f + 1, i, zs => if zs = [] then .ok [] else match chuR zs i with
    | .error e => .error e
    | .ok c => combC [c] (chsR f (i + 1) (restC zs))
theorem combC_comb (ps qs : List CD) (r : Except Int (List CD)) : combC ps (combC qs r) = combC (ps ++ qs) r := by
  cases r with
  | ok l => simp [combC]
  | error e => rfl
theorem combC_nil (r : Except Int (List CD)) : combC [] r = r := by cases r <;> rfl
theorem chuR_ok {zs : List Nat} {i : Nat} {c : CD} (h : chuR zs i = .ok c) : headO zs i = none ∧ i < 32 ∧ (restC zs).length + 4 ≤ zs.length := by
  unfold chuR at h
  cases hh : headO zs i with
  | some e => rw [hh] at h; cases h
  | none =>
    refine ⟨rfl, ?_⟩
    unfold headO at hh
    split at hh
    · cases hh
    · split at hh
      · cases hh
      · split at hh
        · cases hh
        · split at hh
          · cases hh
          · refine ⟨by omega, ?_⟩
            unfold restC
            simp only [List.length_drop]
            omega
structure RlX (W0 w : World) (q : Nat) (r : Except Int (List CD)) (e : Ending) (w' : World) : Prop where
  ok : ∀ cds, r = .ok cds → RdL2 W0 w q cds 3 e w'
  no : ∀ er, r = .error er → RdF w q er e w'
theorem RlX.fail {W0 w w' : World} {q : Nat} {r : Except Int (List CD)} {er : Int} (h : r = .error er) (hf : Fr (fun k => k = q ∨ w.heap.size ≤ k) w w') : RlX W0 w q r (.panicked (flt er)) w' := by
  subst h
  exact ⟨fun ps e => (by cases e), fun er2 e => by injection e with e; subst e; exact ⟨rfl, hf.mono (fun k hk hp => hp.elim id (fun e => by omega))⟩⟩
set_option linter.unusedVariables false in
set_option maxRecDepth 100000 in
set_option maxHeartbeats 4000000 in
theorem rchunksX {W0 w : World} {q : Nat} (zs0 : List Nat) (h : RdW W0 w q zs0 3) (hsm : zs0.length ≤ 2000) :
    Calls Tryd.prog 56 #[.pointer (some ⟨q, 0, none⟩)] w (RlX W0 w q (chsR (zs0.length + 1) 0 zs0)) := by
  have hql := h.lt
  have hWq := h.old
  obtain ⟨r, hr⟩ : ∃ r, r = chsR (zs0.length + 1) 0 zs0 := ⟨_, rfl⟩
  have HU : Hid (RuS W0 w q zs0 3 w ∧ ChsO w w.heap.size none 0 0 [] ∧ r = combC [] (chsR (zs0.length + 1) 0 zs0)) := ⟨⟨h, Fr.refl _ _⟩, ⟨[], rfl, OwnG.nil _ _, fun i c x hc hx => (by simp at hx)⟩, by rw [combC_nil]; exact hr⟩
  rw [← hr]
  clear h hr
  go_enter Tryd.func56, Tryd.ntmps56
  go_wp2
  go_loopw [3] (fun u3 wr => ∃ (f i : Nat) (la : Option Addr) (lc : Nat) (cds : List CD) (zs : List Nat), i = cds.length ∧ i ≤ 32 ∧ zs.length < f ∧ zs.length ≤ 2000 ∧ u3 = .slice la i lc ∧ RuS W0 w q zs 3 wr ∧ ChsO wr w.heap.size la i lc cds ∧ r = combC cds (chsR f i zs)) (fun u3 _ => match u3 with | .slice _ i _ => 33 - i | _ => 0)
  case atStart => exact ⟨zs0.length + 1, 0, none, 0, [], zs0, rfl, by omega, by omega, hsm, rfl, HU.out⟩
  case round =>
    obtain ⟨f, i, la, lc, cds, zs, hips, hi32, hf, hzs, rfl, hu, ho, hrr⟩ := hrel
    obtain ⟨f, rfl⟩ : ∃ g, f = g + 1 := ⟨f - 1, by omega⟩
    obtain ⟨b, off, m, c, hst, hs⟩ := hu.rd.ex
    have c0 := hst.cell 0 _ rfl
    have hm := hs.len
    have HUO := (show Hid _ from And.intro hu ho)
    have HRR := (show Hid _ from hrr)
    have HIP := (show Hid _ from hips)
    clear hst hs hu ho HU hrr hips
    by_cases hz : zs = []
    · have hm0 : m = 0 := by rw [← hm, hz]; rfl
      have HF : Hid (RlX W0 w q r (.returned (.slice la i lc)) wr) := by
        obtain ⟨hu, ho⟩ := HUO.out
        have e1 : r = .ok cds := by rw [HRR.out, hz]; unfold chsR; rw [if_pos rfl]; simp [combC]
        rw [hz] at hu
        refine ⟨fun ps' e => ?_, fun er e => by rw [e1] at e; cases e⟩
        rw [e1] at e
        injection e with e
        subst e
        refine ⟨⟨la, lc, by rw [HIP.out], ?_⟩, hu.rd, hu.fr.mono (fun k hk hp => hp.elim id (fun e => by omega))⟩
        rw [← HIP.out]
        exact ho
      subst hm0
      clear HUO hm hz HRR
      go_wp2
      go_ret
      exact HF.out
    · have hm0 : (0 : Int) < (m : Int) := by
        have : zs.length ≠ 0 := fun e => hz (List.eq_nil_of_length_eq_zero e)
        omega
      have HN := (show Hid _ from rchunkR i HUO.out.1.rd hzs)
      have HST : Hid (chsR (f + 1) i zs = match chuR zs i with
        | .error e => .error e
        | .ok c => combC [c] (chsR f (i + 1) (restC zs))) := by show _ = _; conv => lhs; unfold chsR; rw [if_neg hz]
      clear hm hz
      cases hcu : chuR zs i with
      | error er =>
        rw [hcu] at HN HST
        have HRE : Hid (r = .error er) := by show _ = _; rw [HRR.out, HST.out]; rfl
        clear hcu HST
        go_wp2_with fail
        refine Calls.mono HN.out ?_
        clear HN
        rintro e w9 hP
        obtain ⟨rfl, hf9⟩ := hP.no er rfl
        have HF : Hid (RlX W0 w q r (.panicked (flt er)) w9) := RlX.fail HRE.out (HUO.out.1.fr.trans (hf9.mono (fun _ _ hk => .inl hk)))
        clear hf9 hP HRE HRR HUO
        go_wp2
        exact ⟨rfl, HF.out⟩
      | ok cd =>
      obtain ⟨_, hi, hrl⟩ := chuR_ok hcu
      rw [hcu] at HN HST
      have HRE : Hid (r = combC (cds ++ [cd]) (chsR f (i + 1) (restC zs))) := by show _ = _; rw [HRR.out, HST.out]; exact combC_comb _ _ _
      clear hcu HST HRR
      go_wp2_with fail
      refine Calls.mono HN.out ?_
      clear HN c0 hm0
      rintro e w2 hPX
      have hP := hPX.ok cd rfl
      clear hPX
      obtain ⟨cs, rfl, hco⟩ := hP.ex
      have ho2 : ChsO w2 w.heap.size la i lc cds := HUO.out.2.fr hP.fr (fun g hg _ e => by omega)
      have hsz2 : w.heap.size ≤ w2.heap.size := Nat.le_trans HUO.out.1.fr.size hP.fr.size
      obtain ⟨g7, c7, w7, hr7, ho7, hf7⟩ := ho2.app (hco.base HUO.out.1.fr.size) hsz2 (by omega)
      have HF : Hid (RuS W0 w q (restC zs) 3 w7 ∧ ChsO w7 w.heap.size (some ⟨g7, 0, none⟩) (i + 1) c7 (cds ++ [cd]) ∧ r = combC (cds ++ [cd]) (chsR f (i + 1) (restC zs))) := by
        have hu2 : RuS W0 w q (restC zs) 3 w2 := ⟨hP.rd, HUO.out.1.fr.trans (hP.fr.mono (fun _ _ hk => .inl hk))⟩
        exact ⟨⟨hu2.rd.fr hf7 (fun e => by omega) (fun g hg => by omega), hu2.fr.trans (hf7.mono (fun k _ hk => .inr hk))⟩, ho7, HRE.out⟩
      have hcl : cs.length = 14 := hco.c14.1
      have hcl2 : cs.toArray.size = 14 := by simp [hcl]
      clear hP ho2 ho7 hf7 HUO hco HRE
      go_wp2_with (at_builtin; rw [fold14 cs hcl]; refine app_eq_listR rfl _ _ rfl rfl rfl rfl hr7 ?_)
      clear hr7
      go_wp2
      go_roundw
      case rel => exact ⟨f, i + 1, _, _, cds ++ [cd], restC zs, by rw [HIP.out]; simp, by omega, by omega, by omega, rfl, HF.out⟩
      case measure => simp; omega
end Go.Proofs.YtifdfkkjmjabnaaDoor
