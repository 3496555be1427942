/- A region that goes in its order, each of whose operations gives what it gives (guards by letters: a value may be 'undef' where a guard is off): one fact an operation, read in the frame behind the region. -/
import Derived.Test.YtjaheelgcjafcaaRgX
namespace Go.Proofs.Ytjaheelgcjafcaa
open Go.RowKit
/-- What operation i reads is written by none, or ahead of it; slots are written once. -/
def chkP (ops : Array Oper) : Bool := (List.range ops.size).all fun i => match ops[i]? with
  | none => true
  | some o => plainD o && ((o.looksAt ops).all fun t => (List.range ops.size).all fun j => !wrD ops j t || decide (j < i)) && ((List.range ops.size).all fun j => match o.dst with | none => true | some d => !wrD ops j d || i == j)
theorem chkP_spec {ops : Array Oper} (h : chkP ops = true) {i : Nat} {o : Oper} (ho : ops[i]? = some o) :
    plainD o = true ∧ (∀ t ∈ o.looksAt ops, ∀ j p, ops[j]? = some p → p.dst = some t → j < i) ∧ ∀ j o' d, ops[j]? = some o' → o.dst = some d → o'.dst = some d → i = j := by
  have hi := (Array.getElem?_eq_some_iff.1 ho).1
  unfold chkP at h
  rw [List.all_eq_true] at h
  have h1 := h i (by simpa using hi)
  rw [ho] at h1
  simp only [Bool.and_eq_true, List.all_eq_true, List.mem_range] at h1
  obtain ⟨⟨h1, h2⟩, h3⟩ := h1
  refine ⟨h1, fun t ht j p hp hpt => ?_, fun j o' d hj hd hd' => ?_⟩
  · have hjl := (Array.getElem?_eq_some_iff.1 hp).1
    have := h2 t ht j hjl
    simp only [wrD, hp, Option.bind_some, hpt, beq_self_eq_true, Bool.not_true, Bool.false_or, decide_eq_true_eq] at this
    exact this
  · have hjl := (Array.getElem?_eq_some_iff.1 hj).1
    have := h3 j hjl
    rw [hd] at this
    simp only [wrD, hj, Option.bind_some, hd'] at this
    simpa using this
structure FixP (ops : Array Oper) (a : Act) (Z : Array Value) (G : World → Prop) (k : Nat) (A : Act) (w : World) : Prop where
  sz : A.tmps.size = Z.size
  df : A.defers = a.defers
  on : ∀ i o d, i < k → ops[i]? = some o → o.dst = some d → A.tmps.getD d undef = Z.getD d undef
  off : ∀ t, (∀ i o, i < k → ops[i]? = some o → o.dst ≠ some t) → A.tmps.getD t undef = a.tmps.getD t undef
  g : G w
theorem FixP.put {ops : Array Oper} {a : Act} {Z : Array Value} {G : World → Prop} {k : Nat} {A : Act} {w w' : World} (h : FixP ops a Z G k A w) (hok : chkP ops = true) {o : Oper} (ho : ops[k]? = some o) (v : Value) (hv : ∀ d, o.dst = some d → v = Z.getD d undef) (hin : ∀ d, o.dst = some d → d < Z.size) (hG : G w') :
    FixP ops a Z G (k + 1) (A.put o.dst v) w' := by
  refine ⟨by rw [put_size]; exact h.sz, by rw [Go.Proofs.Ytjaheelgcjafcaa.put_defers]; exact h.df, fun i p d hi hp hpd => ?_, fun t ht => ?_, hG⟩
  · by_cases hik : i = k
    · subst hik
      rw [ho] at hp
      injection hp with hp
      subst hp
      rw [hpd, put_same v (by rw [h.sz]; exact hin d hpd)]
      exact hv d hpd
    · have h1 := h.on i p d (by omega) hp hpd
      cases hod : o.dst with
      | none => exact h1
      | some d' =>
        have hne : d ≠ d' := fun e => hik ((chkP_spec hok hp).2.2 k o d ho hpd (by rw [hod, e]))
        rw [put_other v hne]
        exact h1
  · have h1 := h.off t (fun i p hi hp => ht i p (by omega) hp)
    cases hod : o.dst with
    | none => exact h1
    | some d' =>
      have hne : t ≠ d' := fun e => ht k o (by omega) ho (by rw [hod, e])
      rw [put_other v hne]
      exact h1
theorem wpList_fixP {P : Program} {os : List Oper} {Q : Exit → Act → World → Prop} {a : Act} (G : World → Prop) (Z : Array Value) (hok : chkP os.toArray = true) (hin : ∀ o ∈ os, ∀ d, o.dst = some d → d < Z.size) (hb : ∀ t, (∀ o ∈ os, o.dst ≠ some t) → Z.getD t undef = a.tmps.getD t undef)
    (hops : FixAll P os.toArray (fun _ => Z) Z G 0 os) (he : ∀ w, G w → Q .normal ⟨Z, a.defers⟩ w) :
    ∀ (l : List Oper) (k : Nat), (∀ j, l[j]? = os[k + j]?) → ∀ A W, FixP os.toArray a Z G k A W → wpList P os.toArray Q l A W := by
  intro l
  induction l with
  | nil =>
    intro k hl A W hI
    refine wpList_nil ?_
    have hk : os.length ≤ k := by
      have := hl 0
      simp at this
      exact this
    have hA : A = ⟨Z, a.defers⟩ := by
      obtain ⟨t, d⟩ := A
      have h1 := hI.sz
      have h2 := hI.df
      dsimp only at h1 h2
      subst h2
      congr 1
      apply Array.ext_getElem?
      intro s
      refine getElem?_of_getD h1 ?_
      by_cases hw : ∃ (j : Nat) (p : Oper), os.toArray[j]? = some p ∧ p.dst = some s
      · obtain ⟨j, p, hp, hpk⟩ := hw
        have hjl := (Array.getElem?_eq_some_iff.1 hp).1
        exact hI.on j p s (by simp at hjl; omega) hp hpk
      · have h3 := hI.off s (fun j p _ hp hpk => hw ⟨j, p, hp, hpk⟩)
        rw [h3, hb s (fun p hp hpt => by
          obtain ⟨j, hj⟩ := List.getElem?_of_mem hp
          exact hw ⟨j, p, by simpa using hj, hpt⟩)]
    rw [hA]
    exact he W hI.g
  | cons o rest ih =>
    intro k hl A W hI
    have hok0 : os[k]? = some o := by simpa using (hl 0).symm
    have ho : os.toArray[k]? = some o := by simpa using hok0
    have hsp := chkP_spec hok ho
    have hfix := fixAll_at os 0 hops k o hok0
    have hval : ∀ t, t ∈ o.looksAt os.toArray → A.tmps.getD t undef = Z.getD t undef := by
      intro t ht
      by_cases hw : ∃ (j : Nat) (p : Oper), os.toArray[j]? = some p ∧ p.dst = some t
      · obtain ⟨j, p, hp, hpt⟩ := hw
        exact hI.on j p t (hsp.2.1 t ht j p hp hpt) hp hpt
      · have h3 := hI.off t (fun j p _ hp hpt => hw ⟨j, p, hp, hpt⟩)
        rw [h3, hb t (fun p hp hpt => by
          obtain ⟨j, hj⟩ := List.getElem?_of_mem hp
          exact hw ⟨j, p, by simpa using hj, hpt⟩)]
    have hsz : A.tmps.size = Z.size := hI.sz
    have hpl : ∀ cs b, o.op ≠ .select cs b := fun cs b e => by have := hsp.1; unfold plainD at this; rw [e] at this; cases this
    have hex : execOp A.eval o = execOp (Act.eval ⟨Z, []⟩) o := execOp_congr o hpl (fun x hx => by
      cases x with
      | tmp t =>
        have ht : t ∈ o.looksAt os.toArray := List.mem_append_left _ (List.mem_filterMap.2 ⟨.tmp t, by simpa using hx, rfl⟩)
        simpa [Act.eval] using hval t ht
      | _ => rfl)
    have hwa : Region.wanted o (yielded os.toArray A.tmps) = Region.wanted o (yielded os.toArray Z) := by
      unfold Region.wanted
      cases hg : o.guard with
      | none => rfl
      | some gw =>
        obtain ⟨g, want⟩ := gw
        have hy : yielded os.toArray A.tmps g = yielded os.toArray Z g := by
          unfold yielded
          cases ht : (os.toArray[g]?).bind (·.dst) with
          | none => rfl
          | some t =>
            have hlk : t ∈ o.looksAt os.toArray := by simp only [Oper.looksAt, hg, ht]; simp
            have := getElem?_of_getD hsz (hval t hlk)
            simp only [Option.bind_some, this]
        simp only [hy]
    have hind : ∀ d, o.dst = some d → d < Z.size := hin o (List.mem_of_getElem? hok0)
    have hrest : ∀ A' W', FixP os.toArray a Z G (k + 1) A' W' → wpList P os.toArray Q rest A' W' := fun A' W' hI' => ih (k + 1) (fun j => by have := hl (j + 1); simpa [Nat.add_assoc, Nat.add_comm 1 j] using this) A' W' hI'
    refine wpList_step fun K hK => ?_
    rw [hwa]
    rcases hfix W hI.g with ⟨hw, hgv⟩ | ⟨hw, hu⟩
    · rw [if_pos hw]
      unfold Oper.wp
      rw [hex]
      unfold Gives at hgv
      generalize (execOp (Act.eval ⟨Z, []⟩) o).run P W = r at *
      cases r with
      | ok n w' =>
        cases n with
        | value u =>
          obtain ⟨rfl, hG⟩ := hgv
          exact hK _ _ (hrest _ _ (hI.put hok ho _ (fun d hd' => by rw [hd']; rfl) hind hG))
        | skip =>
          obtain ⟨h1, hG⟩ := hgv
          exact hK _ _ (hrest _ _ (hI.put hok ho _ (fun d hd' => by rw [hd'] at h1; exact h1.symm) hind hG))
        | enter f args =>
          refine Calls.mono hgv (fun e w'' hp => ?_)
          obtain ⟨rfl, hG⟩ := hp
          exact hK _ _ (hrest _ _ (hI.put hok ho _ (fun d hd' => by rw [hd']; rfl) hind hG))
        | _ => exact hgv.elim
      | halt x w' => exact hgv.elim
    · rw [if_neg (by rw [hw]; decide)]
      exact hK _ _ (hrest _ _ (hI.put hok ho _ (fun d hd' => (hu d hd').symm) hind hI.g))
/-- The law, with what is laid (ws). -/
theorem wp_region_fixP {P : Program} {os : List Oper} {Q : Exit → Act → World → Prop} {id : Nat} {a : Act} {w : World} (G : World → Prop) (ws : List (Nat × Value)) (Z : Array Value)
    (hZ : ws.foldl (fun F p => F.setIfInBounds p.1 p.2) a.tmps = Z) (hok : chkP os.toArray = true) (hws : ws.map (·.1) = os.filterMap (·.dst)) (hin : (ws.all fun p => decide (p.1 < a.tmps.size)) = true)
    (h0 : G w) (hops : FixAll P os.toArray (fun _ => Z) Z G 0 os) (he : ∀ w, G w → Q .normal ⟨Z, a.defers⟩ w) : (Code.region id os.toArray false).wp P Q a w := by
  have hsz : Z.size = a.tmps.size := by rw [← hZ, foldl_size]
  refine wp_region_lit (wpList_fixP (a := a) G Z hok (fun o ho d hd => ?_) (fun k hk => ?_) hops he os 0 (fun j => by rw [Nat.zero_add]) a w ⟨hsz.symm, rfl, fun i o d hi => (by omega), fun _ _ => rfl, h0⟩)
  · have h1 : d ∈ ws.map (·.1) := by rw [hws]; exact List.mem_filterMap.2 ⟨o, ho, hd⟩
    obtain ⟨p, hp, rfl⟩ := List.mem_map.1 h1
    rw [List.all_eq_true] at hin
    have := hin p hp
    rw [hsz]
    simpa using this
  · rw [← hZ, Array.getD_eq_getD_getElem?, Array.getD_eq_getD_getElem?, foldl_other ws _ k (fun p hp e => ?_)]
    have h1 : p.1 ∈ os.filterMap (·.dst) := by rw [← hws]; exact List.mem_map.2 ⟨p, hp, rfl⟩
    obtain ⟨o, ho, hd⟩ := List.mem_filterMap.1 h1
    exact hk o ho (by rw [hd, e])
end Go.Proofs.Ytjaheelgcjafcaa
