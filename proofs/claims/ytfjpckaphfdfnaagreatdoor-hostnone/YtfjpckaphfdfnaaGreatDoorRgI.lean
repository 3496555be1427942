/- A region that draws its order, by an invariant over what has been carried out: each operation once, whatever the order. -/
import Derived.Test.YtfjpckaphfdfnaaGreatDoorProg
import Derived.Test.YtfjpckaphfdfnaaGreatDoorBase
import Derived.Orders
import Derived.BigCall
import Derived.Deep.MidRow
namespace Go.Proofs.YtfjpckaphfdfnaaGreatDoor
open Go.RowKit
theorem ready_spec {ops : Array Oper} {listed : Array Bool} {i : Nat} (h : i ∈ Region.ready .any ops listed) :
    ∃ o, ops[i]? = some o ∧ listed.getD i true = false ∧ ∀ e ∈ o.after, Region.binds .any e = true → listed.getD e.on false = true := by
  unfold Region.ready at h
  rw [List.mem_filter] at h
  obtain ⟨h1, h2⟩ := h
  have hi : i < ops.size := by simpa using h1
  refine ⟨ops[i], Array.getElem?_eq_getElem hi, ?_⟩
  rw [Array.getElem?_eq_getElem hi] at h2
  simp only [Option.map_some, Option.getD_some, Bool.and_eq_true, Bool.not_eq_true', Array.all_eq_true_iff_forall_mem] at h2
  refine ⟨h2.1, fun e he hb => ?_⟩
  have := h2.2 e (by simpa using he)
  simpa [hb] using this
theorem ready_mk {ops : Array Oper} {listed : Array Bool} {i : Nat} {o : Oper} (ho : ops[i]? = some o) (hl : listed.getD i true = false) (hd : ∀ e ∈ o.after, Region.binds .any e = true → listed.getD e.on false = true) : i ∈ Region.ready .any ops listed := by
  have hi := (Array.getElem?_eq_some_iff.1 ho).1
  unfold Region.ready
  rw [List.mem_filter]
  refine ⟨by simpa using hi, ?_⟩
  rw [ho]
  simp only [Option.map_some, Option.getD_some, Bool.and_eq_true, Bool.not_eq_true', Array.all_eq_true_iff_forall_mem]
  refine ⟨hl, fun e he => ?_⟩
  cases hb : Region.binds .any e
  · rfl
  · simpa using hd e (by simpa using he) hb
def left (listed : Array Bool) : Nat := listed.toList.countP (· == false)
theorem left_set {listed : Array Bool} {i : Nat} (h : listed.getD i true = false) : left (listed.setIfInBounds i true) + 1 = left listed := by
  obtain ⟨l⟩ := listed
  unfold left
  simp at h ⊢
  induction l generalizing i with
  | nil => simp at h
  | cons x l ih =>
    cases i with
    | zero => simp at h; subst h; simp
    | succ i =>
      simp at h
      have := ih h
      simp only [List.set_cons_succ, List.countP_cons]
      omega
theorem wp_region_inv {P : Program} {ops : Array Oper} {Q : Exit → Act → World → Prop} {id : Nat} {a : Act} {w : World} (hm : P.follows .mixedOrders = true) (I : Array Bool → Act → World → Prop)
    (h0 : I (Array.replicate ops.size false) a w.drew)
    (hs : ∀ listed a w i, i ∈ Region.ready .any ops listed → I listed a w → wpOp P ops Q i (I (listed.setIfInBounds i true)) a w)
    (he : ∀ listed a w, listed.size = ops.size → Region.ready .any ops listed = [] → I listed a w → Q .normal a w) : (Code.region id ops true).wp P Q a w := by
  refine wp_region_any hm ?_
  have key : ∀ (fuel : Nat) (listed : Array Bool) (a : Act) (w : World), listed.size = ops.size → left listed ≤ fuel → I listed a w → wpAny P .any ops Q fuel listed a w := by
    intro fuel
    induction fuel with
    | zero =>
      intro listed a w hz hf hI
      have hr : Region.ready .any ops listed = [] := by
        cases hr : Region.ready .any ops listed with
        | nil => rfl
        | cons i r =>
          obtain ⟨o, _, h2, _⟩ := ready_spec (show i ∈ Region.ready .any ops listed by rw [hr]; simp)
          have := left_set h2
          omega
      exact ⟨hr, he listed a w hz hr hI⟩
    | succ fuel ih =>
      intro listed a w hz hf hI
      refine ⟨fun hr => he listed a w hz hr hI, fun i hi => ?_⟩
      obtain ⟨o, _, h2, _⟩ := ready_spec hi
      have := left_set h2
      exact wpOp_mono (fun a' w' hI' => ih _ a' w' (by simpa using hz) (by omega) hI') (hs listed a w i hi hI)
  refine key _ _ _ _ (by simp) ?_ h0
  unfold left
  exact Nat.le_trans List.countP_le_length (by simp)
section
variable {P : Program} {ops : Array Oper} {Q : Exit → Act → World → Prop} {i : Nat} {o : Oper} {a : Act} {w : World} {K : Act → World → Prop}
theorem wpOp_of (ho : ops[i]? = some o) (hg : o.guard = none) (h : o.wp P a w K Q) : wpOp P ops Q i K a w := by
  unfold wpOp
  rw [ho]
  dsimp only
  have hw : Region.wanted o (yielded ops a.tmps) = true := by simp [Region.wanted, hg]
  rw [if_pos hw]
  exact .inl h
theorem wpOp_run (ho : ops[i]? = some o) (hg : o.guard = none) {v : Value} {w' : World} (hr : (execOp a.eval o).run P w = .ok (.value v) w') (h : K (a.put o.dst v) w') : wpOp P ops Q i K a w :=
  wpOp_of ho hg (by unfold Oper.wp; rw [hr]; exact h)
theorem wpOp_skip (ho : ops[i]? = some o) (hg : o.guard = none) {w' : World} (hr : (execOp a.eval o).run P w = .ok .skip w') (h : K (a.put o.dst undef) w') : wpOp P ops Q i K a w :=
  wpOp_of ho hg (by unfold Oper.wp; rw [hr]; exact h)
theorem wpOp_move (ho : ops[i]? = some o) (hg : o.guard = none) {x : Operand} (hx : o.op = .move x ∨ o.op = .assign x) (h : K (a.put o.dst (a.eval x)) w) : wpOp P ops Q i K a w :=
  wpOp_run ho hg (by rcases hx with hx | hx <;> simp [execOp, hx]) h
theorem wpOp_load (ho : ops[i]? = some o) (hg : o.guard = none) {t : TypeId} {x : Operand} (hx : o.op = .load t x) {b k : Nat} (hv : a.eval x = .pointer (some ⟨b, k, none⟩)) {cs : List Value} {d : TypeDesc} (hc : w.rangeAt b k cs) (hu : P.underlying t = some d) (hd : d.isRow = true) (hi : (P.info? t).map (·.size) = some cs.length) (h : K (a.put o.dst (.agg cs.toArray)) w) : wpOp P ops Q i K a w :=
  wpOp_of ho hg (wp_load_mid t x hx b k hv cs d hc hu hd hi h)
theorem wpOp_store (ho : ops[i]? = some o) (hg : o.guard = none) {t : TypeId} {x y : Operand} (hx : o.op = .store t x y) {b k : Nat} (hv : a.eval x = .pointer (some ⟨b, k, none⟩)) {cs : Array Value} (hy : a.eval y = .agg cs) (ht : w.there b k cs.size) (hi : (P.info? t).map (·.size) = some cs.size) (h1 : cs.all (·.oneCell') = true) (h : K (a.put o.dst undef) (w.setCells b k cs.toList)) : wpOp P ops Q i K a w :=
  wpOp_of ho hg (wp_store_mid t x y hx b k cs hv hy ht hi h1 h)
theorem wpOp_alloc (ho : ops[i]? = some o) (hg : o.guard = none) {t : TypeId} (hx : o.op = .alloc t) {z : Array Value} (hz : ∀ w, (zeroValue t).run P w = .ok (.agg z) w) (h : K (a.put o.dst (.pointer (some ⟨w.heap.size, 0, none⟩))) (w.alloc (.cells z t))) : wpOp P ops Q i K a w :=
  wpOp_run ho hg (by simp [execOp, hx, Instr.alloc, hz, Result.andThen, newVar]; rfl) h
theorem wpOp_call (ho : ops[i]? = some o) (hg : o.guard = none) {f : FuncId} {args : Array Operand} {ts : Array TypeId} (hx : o.op = .call { callee := .value (.func f), args := args, argTypes := ts }) {vs : Array Value} (hvs : args.map a.eval = vs) {post : Ending → World → Prop} {fn : Func} (hfn : P.funcs[f]? = some fn) (hname : (fn.name == "runtime.NumGoroutine") = false) (hbody : fn.body.isNone = false) (hc : Calls P f vs w post) (h : ∀ e w', post e w' → ∃ v, e = .returned v ∧ K (a.put o.dst v) w') : wpOp P ops Q i K a w := by
  refine wpOp_of ho hg ?_
  unfold Oper.wp
  have hr : (execOp a.eval o).run P w = .ok (.enter f vs) w := by
    subst hvs
    obtain ⟨dst, op, ty, pos, after, guard⟩ := o
    dsimp only at hx
    subst hx
    rw [execOp_call_go]
    have h1 : ¬ fn.name = "runtime.NumGoroutine" := by simpa using hname
    have h2 : ¬ fn.body = none := fun e => by rw [e] at hbody; simp at hbody
    simp [callFunc, hfn, h1, h2, Result.andThen]
  rw [hr]
  refine Calls.mono hc (fun e w' hp => ?_)
  obtain ⟨v, rfl, hk⟩ := h e w' hp
  exact hk
theorem put_size (d : Option Tmp) (v : Value) : (a.put d v).tmps.size = a.tmps.size := by
  unfold Act.put
  cases d <;> simp
theorem put_defers (d : Option Tmp) (v : Value) : (a.put d v).defers = a.defers := by
  unfold Act.put
  cases d <;> rfl
theorem put_same {k : Nat} (v : Value) (h : k < a.tmps.size) : (a.put (some k) v).tmps.getD k undef = v := by
  unfold Act.put
  simp [h]
theorem put_other {k j : Nat} (v : Value) (h : j ≠ k) : (a.put (some k) v).tmps.getD j undef = a.tmps.getD j undef := by
  unfold Act.put
  simp [Ne.symm h]
end
theorem set_same {listed : Array Bool} {i : Nat} (h : listed.getD i true = false) : (listed.setIfInBounds i true).getD i false = true := by
  have : i < listed.size := by
    rcases Nat.lt_or_ge i listed.size with h1 | h1
    · exact h1
    · simp [h1] at h
  simp [this]
theorem set_other {listed : Array Bool} {i j : Nat} (h : j ≠ i) : (listed.setIfInBounds i true).getD j false = listed.getD j false := by
  simp [Ne.symm h]
theorem foldl_other (ws : List (Nat × Value)) : ∀ (F : Array Value) (k : Nat), (∀ p ∈ ws, k ≠ p.1) → (ws.foldl (fun F p => F.setIfInBounds p.1 p.2) F)[k]? = F[k]? := by
  induction ws with
  | nil => intro F k _; rfl
  | cons p ws ih =>
    intro F k h
    rw [List.foldl_cons, ih _ k (fun p hp => h p (List.mem_cons_of_mem _ hp))]
    simp [Ne.symm (h p List.mem_cons_self)]
theorem foldl_size (ws : List (Nat × Value)) : ∀ (F : Array Value), (ws.foldl (fun F p => F.setIfInBounds p.1 p.2) F).size = F.size := by
  induction ws with
  | nil => intro F; rfl
  | cons p ws ih => intro F; rw [List.foldl_cons, ih]; simp
theorem foldl_in (ws : List (Nat × Value)) : ∀ (F : Array Value) (p : Nat × Value), p ∈ ws → (ws.map (·.1)).Nodup → p.1 < F.size → (ws.foldl (fun F p => F.setIfInBounds p.1 p.2) F)[p.1]? = some p.2 := by
  induction ws with
  | nil => intro F p h; cases h
  | cons q ws ih =>
    intro F p hp hn hl
    rw [List.foldl_cons]
    rw [List.map_cons, List.nodup_cons] at hn
    rcases List.mem_cons.1 hp with rfl | hp
    · rw [foldl_other ws _ _ (fun r hr e => hn.1 (List.mem_map.2 ⟨r, hr, e.symm⟩))]
      simp [hl]
    · exact ih _ p hp hn.2 (by simpa using hl)
/-- A frame that is known slot by slot. -/
theorem frame_eq {a : Act} {F : Array Value} (ws : List (Nat × Value)) (hz : a.tmps.size = F.size) (hd : a.defers = []) (hn : (ws.map (·.1)).Nodup) (hl : ∀ p ∈ ws, p.1 < F.size) (h1 : ∀ p ∈ ws, a.tmps.getD p.1 undef = p.2) (h2 : ∀ k, (∀ p ∈ ws, k ≠ p.1) → a.tmps.getD k undef = F.getD k undef) :
    a = { tmps := ws.foldl (fun F p => F.setIfInBounds p.1 p.2) F, defers := [] } := by
  obtain ⟨t, d⟩ := a
  dsimp only at hz hd h1 h2
  subst hd
  congr 1
  apply Array.ext_getElem?
  intro k
  by_cases hk : ∃ p ∈ ws, k = p.1
  · obtain ⟨p, hp, rfl⟩ := hk
    have hlt := hl p hp
    rw [foldl_in ws F p hp hn hlt]
    have := h1 p hp
    rw [Array.getD_eq_getD_getElem?] at this
    rw [Array.getElem?_eq_getElem (by omega)] at this ⊢
    simpa using this
  · have hk' : ∀ p ∈ ws, k ≠ p.1 := fun p hp e => hk ⟨p, hp, e⟩
    rw [foldl_other ws F k hk']
    have := h2 k hk'
    rw [Array.getD_eq_getD_getElem?, Array.getD_eq_getD_getElem?] at this
    rcases Nat.lt_or_ge k t.size with h3 | h3
    · rw [Array.getElem?_eq_getElem h3, Array.getElem?_eq_getElem (by omega)] at this ⊢
      simpa using this
    · rw [Array.getElem?_eq_none h3, Array.getElem?_eq_none (by omega)]
/-- Where nothing may come up any more, all has been carried out. -/
theorem all_listed {ops : Array Oper} {listed : Array Bool} (hz : listed.size = ops.size) (hr : Region.ready .any ops listed = []) (i : Nat) (o : Oper) (ho : ops[i]? = some o) (hd : ∀ e ∈ o.after, Region.binds .any e = true → listed.getD e.on false = true) : listed.getD i false = true := by
  have hi := (Array.getElem?_eq_some_iff.1 ho).1
  cases h : listed.getD i true with
  | false =>
    have := ready_mk ho h hd
    rw [hr] at this
    cases this
  | true =>
    simp only [Array.getD_eq_getD_getElem?, Array.getElem?_eq_getElem (show i < listed.size by omega), Option.getD_some] at h ⊢
    exact h
end Go.Proofs.YtfjpckaphfdfnaaGreatDoor
