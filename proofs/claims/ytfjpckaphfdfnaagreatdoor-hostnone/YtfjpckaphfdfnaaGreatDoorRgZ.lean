/- A region that draws its order, whatever its operations do: one fact an operation; what is not known ahead (addresses, answers) is a parameter that is found on the way. -/
import Derived.Test.YtfjpckaphfdfnaaGreatDoorRgY
namespace Go.Proofs.YtfjpckaphfdfnaaGreatDoor
open Go.RowKit
/-- An operation's run, and what is to hold behind it. -/
def GivesP (P : Program) (ρ : Operand → Value) (o : Oper) (R : Value → World → Prop) (w : World) : Prop :=
  match (execOp ρ o).run P w with
  | .ok (.value u) w' => R u w'
  | .ok .skip w' => R undef w'
  | .ok (.enter f args) w' => Calls P f args w' fun e w'' => ∃ v, e = .returned v ∧ R v w''
  | _ => False
/-- What holds behind operation i (of which l says which ones are done): a parameter that keeps what was told. -/
def NextP {Θ : Type} (ops : Array Oper) (Z : Θ → Array Value) (G : Θ → (Nat → Bool) → World → Prop) (θ : Θ) (l : Nat → Bool) (i : Nat) (o : Oper) (v : Value) (w : World) : Prop :=
  ∃ θ', (∀ j p d, ops[j]? = some p → p.dst = some d → l j = true → (Z θ').getD d undef = (Z θ).getD d undef) ∧ (∀ d, o.dst = some d → v = (Z θ').getD d undef) ∧ G θ' (updL l i) w
def ParOp {Θ : Type} (P : Program) (ops : Array Oper) (Z : Θ → Array Value) (G : Θ → (Nat → Bool) → World → Prop) (i : Nat) (o : Oper) : Prop :=
  ∀ θ l w, l i = false → (∀ j, dirD ops i j = true → l j = true) → (∀ k j, ancD ops 12 k j = true → l k = true → l j = true) → G θ l w →
    (Region.wanted o (yielded ops (Z θ)) = true ∧ GivesP P (Act.eval ⟨Z θ, []⟩) o (NextP ops Z G θ l i o) w) ∨ (Region.wanted o (yielded ops (Z θ)) = false ∧ NextP ops Z G θ l i o undef w)
@[reducible] def ParAll {Θ : Type} (P : Program) (ops : Array Oper) (Z : Θ → Array Value) (G : Θ → (Nat → Bool) → World → Prop) : Nat → List Oper → Prop
  | _, [] => True
  | i, o :: os => ParOp P ops Z G i o ∧ ParAll P ops Z G (i + 1) os
theorem parAll_at {Θ : Type} {P : Program} {ops : Array Oper} {Z : Θ → Array Value} {G : Θ → (Nat → Bool) → World → Prop} : ∀ (os : List Oper) (k : Nat), ParAll P ops Z G k os → ∀ i o, os[i]? = some o → ParOp P ops Z G (k + i) o := by
  intro os
  induction os with
  | nil => intro k _ i o h; simp at h
  | cons x os ih =>
    intro k h i o ho
    cases i with
    | zero => simp at ho; subst ho; exact h.1
    | succ i => rw [show k + (i + 1) = k + 1 + i by omega]; exact ih (k + 1) h.2 i o (by simpa using ho)
theorem FixI.par {ops : Array Oper} {a : Act} {Z Z' : Array Value} {listed : Array Bool} {A : Act} {w w' : World} (h : FixI ops a Z (fun _ => True) listed A w) (hz : Z'.size = Z.size) (hk : ∀ j p d, ops[j]? = some p → p.dst = some d → lst listed j = true → Z'.getD d undef = Z.getD d undef) : FixI ops a Z' (fun _ => True) listed A w' :=
  ⟨by rw [hz]; exact h.sz, h.df, h.cl, fun i o d ho hd hl => (h.on i o d ho hd hl).trans (hk i o d ho hd hl).symm, h.off, trivial⟩
theorem wp_region_par {Θ : Type} {P : Program} {os : List Oper} {Q : Exit → Act → World → Prop} {id : Nat} {a : Act} {w : World} (hm : P.follows .mixedOrders = true) (Z : Θ → Array Value) (G : Θ → (Nat → Bool) → World → Prop) (θ0 : Θ)
    (hsz : ∀ θ, (Z θ).size = a.tmps.size) (hb : ∀ θ k, (∀ o ∈ os, o.dst ≠ some k) → (Z θ).getD k undef = a.tmps.getD k undef) (hok : okD os.toArray = true) (hchk : chkZ os.toArray = true) (hin : ∀ o ∈ os, ∀ d, o.dst = some d → d < a.tmps.size)
    (h0 : G θ0 (fun _ => false) w.drew) (hops : ParAll P os.toArray Z G 0 os) (he : ∀ θ l w, (∀ i, i < os.length → l i = true) → G θ l w → Q .normal ⟨Z θ, a.defers⟩ w) : (Code.region id os.toArray true).wp P Q a w := by
  have hofs : ∀ {i : Nat} {o : Oper}, os.toArray[i]? = some o → os[i]? = some o := fun h => by simpa using h
  refine wp_region_inv hm (fun listed A W => ∃ θ, FixI os.toArray a (Z θ) (fun _ => True) listed A W ∧ G θ (lst listed) W) ⟨θ0, ⟨(hsz θ0).symm, rfl, fun i o _ h => ?_, fun i o d _ _ h => ?_, fun _ _ => rfl, trivial⟩, ?_⟩ (fun listed A W i hi hI => ?_) (fun listed A W hls hr hI => ?_)
  · exfalso; simp [Array.getElem?_replicate] at h; split at h <;> simp at h
  · exfalso; simp [Array.getElem?_replicate] at h; split at h <;> simp at h
  · have : lst (Array.replicate os.toArray.size false) = fun _ => false := by
      funext j
      unfold lst
      rw [Array.getD_eq_getD_getElem?, Array.getElem?_replicate]
      split <;> rfl
    rw [this]
    exact h0
  · obtain ⟨θ, hI, hG⟩ := hI
    obtain ⟨o, ho, hl, hd⟩ := ready_spec hi
    have hsp := okD_spec hok ho
    have hop := parAll_at os 0 hops i o (hofs ho)
    rw [Nat.zero_add] at hop
    have hlf : lst listed i = false := getD_both hl
    have hval : ∀ t, t ∈ o.looksAt os.toArray → A.tmps.getD t undef = (Z θ).getD t undef := by
      intro t ht
      have h1 : srcZ os.toArray i t = true := by
        unfold chkZ at hchk
        rw [List.all_eq_true] at hchk
        have hil := (Array.getElem?_eq_some_iff.1 ho).1
        have h1 := hchk i (by simpa using hil)
        rw [ho] at h1
        dsimp only at h1
        rw [List.all_eq_true] at h1
        exact h1 t ht
      by_cases hw : ∃ (j : Nat) (p : Oper), os.toArray[j]? = some p ∧ p.dst = some t
      · obtain ⟨j, p, hp, hpt⟩ := hw
        have hjl := (Array.getElem?_eq_some_iff.1 hp).1
        unfold srcZ at h1
        rw [List.all_eq_true] at h1
        have h3 := h1 j (by simpa using hjl)
        simp only [wrD, hp, Option.bind_some, hpt, beq_self_eq_true, Bool.not_true, Bool.false_or] at h3
        obtain ⟨e, he', hb', rfl⟩ := dirD_spec ho h3
        exact hI.on e.on p t hp hpt (hd e he' hb')
      · have h3 := hI.off t (fun j p hp hpt => absurd ⟨j, p, hp, hpt⟩ hw)
        rw [h3, hb θ t (fun p hp hpt => by
          obtain ⟨j, hj⟩ := List.getElem?_of_mem hp
          exact hw ⟨j, p, by simpa using hj, hpt⟩)]
    have hpl : ∀ cs b, o.op ≠ .select cs b := fun cs b e => by have := hsp.1; unfold plainD at this; rw [e] at this; cases this
    have hex : execOp A.eval o = execOp (Act.eval ⟨Z θ, []⟩) o := execOp_congr o hpl (fun x hx => by
      cases x with
      | tmp t =>
        have ht : t ∈ o.looksAt os.toArray := List.mem_append_left _ (List.mem_filterMap.2 ⟨.tmp t, by simpa using hx, rfl⟩)
        simpa [Act.eval] using hval t ht
      | _ => rfl)
    have hwa : Region.wanted o (yielded os.toArray A.tmps) = Region.wanted o (yielded os.toArray (Z θ)) := by
      unfold Region.wanted
      cases hg : o.guard with
      | none => rfl
      | some gw =>
        obtain ⟨g, want⟩ := gw
        have hy : yielded os.toArray A.tmps g = yielded os.toArray (Z θ) g := by
          unfold yielded
          cases ht : (os.toArray[g]?).bind (·.dst) with
          | none => rfl
          | some t =>
            have hlk : t ∈ o.looksAt os.toArray := by simp only [Oper.looksAt, hg, ht]; simp
            have := getElem?_of_getD hI.sz (hval t hlk)
            simp only [Option.bind_some, this]
        simp only [hy]
    have hind : ∀ θ', ∀ d, o.dst = some d → d < (Z θ').size := fun θ' d hd' => by rw [hsz]; exact hin o (List.mem_of_getElem? (hofs ho)) d hd'
    have hnext : ∀ v w', NextP os.toArray Z G θ (lst listed) i o v w' → ∃ θ', FixI os.toArray a (Z θ') (fun _ => True) (listed.setIfInBounds i true) (A.put o.dst v) w' ∧ G θ' (lst (listed.setIfInBounds i true)) w' := by
      rintro v w' ⟨θ', h1, h2, h3⟩
      refine ⟨θ', (hI.par (Z' := Z θ') (w' := w') (by rw [hsz, hsz]) h1).put hok ho hl hd v h2 (hind θ') trivial, ?_⟩
      rw [lst_set hl]
      exact h3
    have hcl : ∀ k j, ancD os.toArray 12 k j = true → lst listed k = true → lst listed j = true := fun k j h1 h2 => ancD_spec hI.cl 12 k j h1 h2
    have hdep : ∀ j, dirD os.toArray i j = true → lst listed j = true := fun j hj => by
      obtain ⟨e, he', hb', rfl⟩ := dirD_spec ho hj
      exact hd e he' hb'
    unfold wpOp
    rw [ho]
    dsimp only
    rw [hwa]
    rcases hop θ (lst listed) W hlf hdep hcl hG with ⟨hw, hgv⟩ | ⟨hw, hnx⟩
    · rw [if_pos hw]
      refine .inl ?_
      unfold Oper.wp
      rw [hex]
      unfold GivesP at hgv
      generalize (execOp (Act.eval ⟨Z θ, []⟩) o).run P W = r at *
      cases r with
      | ok n w' =>
        cases n with
        | value u => exact hnext _ _ hgv
        | skip => exact hnext _ _ hgv
        | enter f args =>
          refine Calls.mono hgv (fun e w'' hp => ?_)
          obtain ⟨v, rfl, hR⟩ := hp
          exact hnext _ _ hR
        | _ => exact hgv.elim
      | halt x w' => exact hgv.elim
    · rw [if_neg (by rw [hw]; decide)]
      exact hnext _ _ hnx
  · obtain ⟨θ, hI, hG⟩ := hI
    have hall : ∀ i o, os.toArray[i]? = some o → listed.getD i false = true := by
      intro i
      induction i using Nat.strongRecOn with
      | _ i ih =>
        intro o ho
        refine all_listed hls hr i o ho (fun e he' hb' => ?_)
        have hlt := (okD_spec hok ho).2.1 e he' hb'
        have hil := (Array.getElem?_eq_some_iff.1 ho).1
        obtain ⟨p, hp⟩ : ∃ p, os.toArray[e.on]? = some p := ⟨_, Array.getElem?_eq_getElem (by omega)⟩
        exact ih e.on hlt p hp
    have hA : A = ⟨Z θ, a.defers⟩ := by
      obtain ⟨t, d⟩ := A
      have h1 := hI.sz
      have h2 := hI.df
      dsimp only at h1 h2
      subst h2
      congr 1
      apply Array.ext_getElem?
      intro k
      refine getElem?_of_getD h1 ?_
      by_cases hw : ∃ (j : Nat) (p : Oper), os.toArray[j]? = some p ∧ p.dst = some k
      · obtain ⟨j, p, hp, hpk⟩ := hw
        exact hI.on j p k hp hpk (hall j p hp)
      · have h3 := hI.off k (fun j p hp hpk => absurd ⟨j, p, hp, hpk⟩ hw)
        rw [h3, hb θ k (fun p hp hpt => by
          obtain ⟨j, hj⟩ := List.getElem?_of_mem hp
          exact hw ⟨j, p, by simpa using hj, hpt⟩)]
    rw [hA]
    exact he θ (lst listed) W (fun i hi => by
      obtain ⟨o, ho⟩ : ∃ o, os.toArray[i]? = some o := ⟨_, Array.getElem?_eq_getElem (by simpa using hi)⟩
      exact hall i o ho) hG
/-- The same; ws: what is laid, by the parameter. -/
theorem wp_region_parW {Θ : Type} {P : Program} {os : List Oper} {Q : Exit → Act → World → Prop} {id : Nat} {a : Act} {w : World} (hm : P.follows .mixedOrders = true) (ws : Θ → List (Nat × Value)) (G : Θ → (Nat → Bool) → World → Prop) (θ0 : Θ) (Z : Θ → Array Value)
    (hZ : ∀ θ, (ws θ).foldl (fun F p => F.setIfInBounds p.1 p.2) a.tmps = Z θ) (hok : okD os.toArray = true) (hchk : chkZ os.toArray = true) (hws : ∀ θ, (ws θ).map (·.1) = os.filterMap (·.dst)) (hin : (os.all fun o => match o.dst with | none => true | some d => decide (d < a.tmps.size)) = true)
    (h0 : G θ0 (fun _ => false) w.drew) (hops : ParAll P os.toArray Z G 0 os) (he : ∀ θ l w, (∀ i, i < os.length → l i = true) → G θ l w → Q .normal ⟨Z θ, a.defers⟩ w) : (Code.region id os.toArray true).wp P Q a w := by
  refine wp_region_par hm Z G θ0 (fun θ => by rw [← hZ, foldl_size]) (fun θ k hk => ?_) hok hchk (fun o ho d hd => ?_) h0 hops he
  · rw [← hZ, Array.getD_eq_getD_getElem?, Array.getD_eq_getD_getElem?, foldl_other (ws θ) _ k (fun p hp e => ?_)]
    have h1 : p.1 ∈ os.filterMap (·.dst) := by rw [← hws θ]; exact List.mem_map.2 ⟨p, hp, rfl⟩
    obtain ⟨o, ho, hod⟩ := List.mem_filterMap.1 h1
    exact hk o ho (by rw [hod, e])
  · rw [List.all_eq_true] at hin
    have := hin o ho
    rw [hd] at this
    simpa using this
theorem run_storeX {P : Program} {ρ : Operand → Value} {o : Oper} {w : World} {ty : TypeId} {x y : Operand} (ho : o.op = .store ty x y) {b k : Nat} (hx : ρ x = .pointer (some ⟨b, k, none⟩)) {cs : List Value} (hy : ρ y = .agg cs.toArray) (ht : w.there b k cs.length) (hi : (P.info? ty).map (·.size) = some cs.length) (h1 : ∀ v ∈ cs, v.oneCell' = true) : (execOp ρ o).run P w = .ok .skip (w.setCells b k cs) := by
  have h := run_storeAt_mid (P := P) w b k ty cs.toArray (by simpa using ht) (by simpa using hi) (all_oneCell_toArray h1)
  simp [execOp, ho, hx, hy, h, Result.andThen]
theorem run_allocX {P : Program} {ρ : Operand → Value} {o : Oper} {w : World} {t : TypeId} (ho : o.op = .alloc t) {z : Array Value} (hz : ∀ w, (zeroValue t).run P w = .ok (.agg z) w) : (execOp ρ o).run P w = .ok (.value (.pointer (some ⟨w.heap.size, 0, none⟩))) (w.alloc (.cells z t)) := by
  simp [execOp, ho, Instr.alloc, hz, Result.andThen, newVar]
  rfl
/-- Another parameter: what differs is laid by operations that are not done yet. -/
theorem next_set {Θ : Type} {ops : Array Oper} {Z : Θ → Array Value} {G : Θ → (Nat → Bool) → World → Prop} {θ : Θ} {l : Nat → Bool} {i : Nat} {o : Oper} {v : Value} {w : World} (hok : okD ops = true) (θ' : Θ) (D : List (Nat × Value × Nat)) (hset : Z θ' = D.foldl (fun F p => F.setIfInBounds p.1 p.2.1) (Z θ)) (hwr : (D.all fun t => wrD ops t.2.2 t.1) = true) (hun : ∀ t ∈ D, l t.2.2 = false) (hv : ∀ d, o.dst = some d → v = (Z θ').getD d undef) (hG : G θ' (updL l i) w) : NextP ops Z G θ l i o v w := by
  refine ⟨θ', fun j p d hp hd hl => ?_, hv, hG⟩
  rw [hset]
  have key : ∀ (D : List (Nat × Value × Nat)) (F : Array Value), (∀ t ∈ D, d ≠ t.1) → (D.foldl (fun F p => F.setIfInBounds p.1 p.2.1) F).getD d undef = F.getD d undef := by
    intro D
    induction D with
    | nil => intro F _; rfl
    | cons t D ih =>
      intro F h
      rw [List.foldl_cons, ih _ (fun t ht => h t (List.mem_cons_of_mem _ ht))]
      have := h t List.mem_cons_self
      simp [Array.getElem?_setIfInBounds_ne (Ne.symm this)]
  refine key D _ (fun t ht e => ?_)
  rw [List.all_eq_true] at hwr
  have h1 := hwr t ht
  unfold wrD at h1
  cases ho' : ops[t.2.2]? with
  | none => rw [ho'] at h1; simp at h1
  | some q =>
    rw [ho'] at h1
    have hq : q.dst = some t.1 := by simpa using h1
    have := (okD_spec hok hp).2.2 t.2.2 q d ho' hd (by rw [hq, e])
    subst this
    rw [hun t ht] at hl
    cases hl
section
variable {Θ : Type} {P : Program} {ops : Array Oper} {Z : Θ → Array Value} {G : Θ → (Nat → Bool) → World → Prop} {i : Nat} {o : Oper}
/-- An operation that gives its value and leaves the world. -/
theorem par_val (hw : ∀ θ, Region.wanted o (yielded ops (Z θ)) = true) (hG : ∀ θ l w, G θ l w → G θ (updL l i) w)
    (h : ∀ θ l w, l i = false → (∀ k j, ancD ops 12 k j = true → l k = true → l j = true) → (∀ j, dirD ops i j = true → l j = true) → G θ l w → (execOp (Act.eval ⟨Z θ, []⟩) o).run P w = .ok (.value ((o.dst.map (fun d => (Z θ).getD d undef)).getD undef)) w) : ParOp P ops Z G i o := by
  intro θ l w hl hd hc hg
  refine .inl ⟨hw θ, ?_⟩
  unfold GivesP
  rw [h θ l w hl hc hd hg]
  exact ⟨θ, fun _ _ _ _ _ _ => rfl, fun d hd' => by rw [hd']; rfl, hG θ l w hg⟩
theorem par_run (hw : ∀ θ, Region.wanted o (yielded ops (Z θ)) = true)
    (h : ∀ θ l w, l i = false → (∀ k j, ancD ops 12 k j = true → l k = true → l j = true) → (∀ j, dirD ops i j = true → l j = true) → G θ l w → ∃ v w', (execOp (Act.eval ⟨Z θ, []⟩) o).run P w = .ok (.value v) w' ∧ NextP ops Z G θ l i o v w') : ParOp P ops Z G i o := by
  intro θ l w hl hd hc hg
  obtain ⟨v, w', h1, h2⟩ := h θ l w hl hc hd hg
  refine .inl ⟨hw θ, ?_⟩
  unfold GivesP
  rw [h1]
  exact h2
theorem par_skip (hw : ∀ θ, Region.wanted o (yielded ops (Z θ)) = true)
    (h : ∀ θ l w, l i = false → (∀ k j, ancD ops 12 k j = true → l k = true → l j = true) → (∀ j, dirD ops i j = true → l j = true) → G θ l w → ∃ w', (execOp (Act.eval ⟨Z θ, []⟩) o).run P w = .ok .skip w' ∧ NextP ops Z G θ l i o undef w') : ParOp P ops Z G i o := by
  intro θ l w hl hd hc hg
  obtain ⟨w', h1, h2⟩ := h θ l w hl hc hd hg
  refine .inl ⟨hw θ, ?_⟩
  unfold GivesP
  rw [h1]
  exact h2
theorem par_call (hw : ∀ θ, Region.wanted o (yielded ops (Z θ)) = true) {f : FuncId} {args : List Operand} {ts : Array TypeId} (hx : o.op = .call { callee := .value (.func f), args := args.toArray, argTypes := ts }) {vs : Θ → List Value} (hvs : ∀ θ, args.map (Act.eval ⟨Z θ, []⟩) = vs θ) {fn : Func} (hfn : P.funcs[f]? = some fn) (hname : (fn.name == "runtime.NumGoroutine") = false) (hbody : fn.body.isNone = false)
    (h : ∀ θ l w, l i = false → (∀ k j, ancD ops 12 k j = true → l k = true → l j = true) → (∀ j, dirD ops i j = true → l j = true) → G θ l w → Calls P f (vs θ).toArray w fun e w' => ∃ v, e = .returned v ∧ NextP ops Z G θ l i o v w') : ParOp P ops Z G i o := by
  intro θ l w hl hd hc hg
  refine .inl ⟨hw θ, ?_⟩
  unfold GivesP
  have hr : (execOp (Act.eval ⟨Z θ, []⟩) o).run P w = .ok (.enter f (vs θ).toArray) w := by
    rw [← hvs θ]
    obtain ⟨dst, op, ty, pos, after, guard⟩ := o
    dsimp only at hx
    subst hx
    rw [execOp_call_go]
    have h1 : ¬ fn.name = "runtime.NumGoroutine" := by simpa using hname
    have h2 : ¬ fn.body = none := fun e => by rw [e] at hbody; simp at hbody
    simp [callFunc, hfn, h1, h2, Result.andThen]
  rw [hr]
  exact h θ l w hl hc hd hg
end
end Go.Proofs.YtfjpckaphfdfnaaGreatDoor
