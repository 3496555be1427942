/- A region that draws its order, each of whose operations gives what it gives whatever came ahead (guards on or off, calls that only make memory): one fact an operation. -/
import Derived.Test.YtfjpckaphfdfnaaGreatDoorRgI
namespace Go.Proofs.YtfjpckaphfdfnaaGreatDoor
open Go.RowKit
theorem mixedX : Tryz.prog.follows .mixedOrders = true := by kernel_rfl
def wrD (ops : Array Oper) (j t : Nat) : Bool := ((ops[j]?).bind (·.dst)) == some t
def dirD (ops : Array Oper) (i j : Nat) : Bool := ((ops[i]?).map (·.after.any fun e => Region.binds .any e && e.on == j)).getD false
def ancD (ops : Array Oper) : Nat → Nat → Nat → Bool
  | 0, i, j => i == j
  | f + 1, i, j => i == j || ((ops[i]?).map (·.after.any fun e => Region.binds .any e && ancD ops f e.on j)).getD false
/-- What operation i reads in slot t was written by one that it waits for (or by none). -/
def srcZ (ops : Array Oper) (i t : Nat) : Bool := (List.range ops.size).all fun j => !wrD ops j t || dirD ops i j
/-- .. or is written by one that waits for i. -/
def srcA (ops : Array Oper) (i t : Nat) : Bool := (List.range ops.size).all fun j => !wrD ops j t || ancD ops 8 j i
def plainD (o : Oper) : Bool := match o.op with | .select _ _ => false | _ => true
def okD (ops : Array Oper) : Bool :=
  (List.range ops.size).all fun i => match ops[i]? with
    | none => true
    | some o => plainD o && (o.after.all fun e => !Region.binds .any e || decide (e.on < i)) && ((List.range ops.size).all fun j => match o.dst with | none => true | some d => !wrD ops j d || i == j)
theorem okD_spec {ops : Array Oper} (h : okD ops = true) {i : Nat} {o : Oper} (ho : ops[i]? = some o) :
    plainD o = true ∧ (∀ e ∈ o.after, Region.binds .any e = true → e.on < i) ∧ ∀ j o' d, ops[j]? = some o' → o.dst = some d → o'.dst = some d → i = j := by
  have hi := (Array.getElem?_eq_some_iff.1 ho).1
  unfold okD at h
  rw [List.all_eq_true] at h
  have h1 := h i (by simpa using hi)
  rw [ho] at h1
  simp only [Bool.and_eq_true, Array.all_eq_true_iff_forall_mem, List.all_eq_true, List.mem_range] at h1
  obtain ⟨⟨h1, h2⟩, h3⟩ := h1
  refine ⟨h1, fun e he hb => ?_, fun j o' d hj hd hd' => ?_⟩
  · have := h2 e he
    simpa [hb] using this
  · have hjl := (Array.getElem?_eq_some_iff.1 hj).1
    have := h3 j hjl
    rw [hd] at this
    simp only [wrD, hj, Option.bind_some, hd'] at this
    simpa using this
theorem dirD_spec {ops : Array Oper} {i j : Nat} {o : Oper} (ho : ops[i]? = some o) (h : dirD ops i j = true) : ∃ e ∈ o.after, Region.binds .any e = true ∧ e.on = j := by
  unfold dirD at h
  rw [ho] at h
  simp only [Option.map_some, Option.getD_some, Array.any_eq_true'] at h
  obtain ⟨e, he, h⟩ := h
  simp only [Bool.and_eq_true, beq_iff_eq] at h
  exact ⟨e, he, h.1, h.2⟩
theorem ancD_spec {ops : Array Oper} {listed : Array Bool} (cl : ∀ i o, ops[i]? = some o → listed.getD i false = true → ∀ e ∈ o.after, Region.binds .any e = true → listed.getD e.on false = true) :
    ∀ (f i j : Nat), ancD ops f i j = true → listed.getD i false = true → listed.getD j false = true := by
  intro f
  induction f with
  | zero => intro i j h hl; simp only [ancD, beq_iff_eq] at h; subst h; exact hl
  | succ f ih =>
    intro i j h hl
    simp only [ancD, Bool.or_eq_true, beq_iff_eq] at h
    rcases h with rfl | h
    · exact hl
    · cases ho : ops[i]? with
      | none => rw [ho] at h; simp at h
      | some o =>
        rw [ho] at h
        simp only [Option.map_some, Option.getD_some, Array.any_eq_true'] at h
        obtain ⟨e, he, h⟩ := h
        simp only [Bool.and_eq_true] at h
        exact ih e.on j h.2 (cl i o ho hl e he h.1)
/-- An operation's run gives v, and G of the world behind it. -/
def Gives (P : Program) (ρ : Operand → Value) (o : Oper) (v : Value) (G : World → Prop) (w : World) : Prop :=
  match (execOp ρ o).run P w with
  | .ok (.value u) w' => u = v ∧ G w'
  | .ok .skip w' => v = undef ∧ G w'
  | .ok (.enter f args) w' => Calls P f args w' fun e w'' => e = .returned v ∧ G w''
  | _ => False
theorem gives_val {P : Program} {ρ : Operand → Value} {o : Oper} {v : Value} {G : World → Prop} {w w' : World} (h : (execOp ρ o).run P w = .ok (.value v) w') (hG : G w') : Gives P ρ o v G w := by
  unfold Gives; rw [h]; exact ⟨rfl, hG⟩
theorem gives_skip {P : Program} {ρ : Operand → Value} {o : Oper} {v : Value} {G : World → Prop} {w w' : World} (h : (execOp ρ o).run P w = .ok .skip w') (hv : v = undef) (hG : G w') : Gives P ρ o v G w := by
  unfold Gives; rw [h]; exact ⟨hv, hG⟩
theorem gives_call {P : Program} {ρ : Operand → Value} {o : Oper} {v : Value} {G : World → Prop} {w : World} {f : FuncId} {args : Array Value} (h : (execOp ρ o).run P w = .ok (.enter f args) w) (hc : Calls P f args w fun e w' => e = .returned v ∧ G w') : Gives P ρ o v G w := by
  unfold Gives; rw [h]; exact hc
/-- The fact that is asked of an operation: F its frame, Z the frame behind the region. -/
def FixOp (P : Program) (ops : Array Oper) (F Z : Array Value) (G : World → Prop) (o : Oper) : Prop :=
  ∀ w, G w → (Region.wanted o (yielded ops F) = true ∧ Gives P (Act.eval ⟨F, []⟩) o ((o.dst.map (fun d => Z.getD d undef)).getD undef) G w) ∨ (Region.wanted o (yielded ops F) = false ∧ ∀ d, o.dst = some d → Z.getD d undef = undef)
@[reducible] def FixAll (P : Program) (ops : Array Oper) (M : Nat → Array Value) (Z : Array Value) (G : World → Prop) : Nat → List Oper → Prop
  | _, [] => True
  | i, o :: os => FixOp P ops (M i) Z G o ∧ FixAll P ops M Z G (i + 1) os
theorem fixAll_at {P : Program} {ops : Array Oper} {M : Nat → Array Value} {Z : Array Value} {G : World → Prop} : ∀ (os : List Oper) (k : Nat), FixAll P ops M Z G k os → ∀ i o, os[i]? = some o → FixOp P ops (M (k + i)) Z G o := by
  intro os
  induction os with
  | nil => intro k _ i o h; simp at h
  | cons x os ih =>
    intro k h i o ho
    cases i with
    | zero => simp at ho; subst ho; exact h.1
    | succ i => rw [show k + (i + 1) = k + 1 + i by omega]; exact ih (k + 1) h.2 i o (by simpa using ho)
structure FixI (ops : Array Oper) (a : Act) (Z : Array Value) (G : World → Prop) (listed : Array Bool) (A : Act) (w : World) : Prop where
  sz : A.tmps.size = Z.size
  df : A.defers = a.defers
  cl : ∀ i o, ops[i]? = some o → listed.getD i false = true → ∀ e ∈ o.after, Region.binds .any e = true → listed.getD e.on false = true
  on : ∀ i o d, ops[i]? = some o → o.dst = some d → listed.getD i false = true → A.tmps.getD d undef = Z.getD d undef
  off : ∀ k, (∀ i o, ops[i]? = some o → o.dst = some k → listed.getD i false = false) → A.tmps.getD k undef = a.tmps.getD k undef
  g : G w
theorem getD_both {l : Array Bool} {i : Nat} (h : l.getD i true = false) : l.getD i false = false := by
  simp only [Array.getD_eq_getD_getElem?] at h ⊢
  cases hh : l[i]? with
  | none => rw [hh] at h; simp at h
  | some b => rw [hh] at h; simpa using h
theorem FixI.put {ops : Array Oper} {a : Act} {Z : Array Value} {G : World → Prop} {listed : Array Bool} {A : Act} {w w' : World} (h : FixI ops a Z G listed A w) (hok : okD ops = true) {i : Nat} {o : Oper} (ho : ops[i]? = some o) (hl : listed.getD i true = false) (hd : ∀ e ∈ o.after, Region.binds .any e = true → listed.getD e.on false = true) (v : Value) (hv : ∀ d, o.dst = some d → v = Z.getD d undef) (hin : ∀ d, o.dst = some d → d < Z.size) (hG : G w') :
    FixI ops a Z G (listed.setIfInBounds i true) (A.put o.dst v) w' := by
  refine ⟨by rw [put_size]; exact h.sz, by rw [Go.Proofs.YtfjpckaphfdfnaaGreatDoor.put_defers]; exact h.df, fun j p hp hj e he hb => ?_, fun j p d hp hpd hj => ?_, fun k hk => ?_, hG⟩
  · by_cases hji : j = i
    · subst hji
      rw [ho] at hp
      injection hp with hp
      subst hp
      have h1 := hd e he hb
      by_cases hei : e.on = j
      · rw [hei]; exact set_same hl
      · rw [set_other hei]; exact h1
    · rw [set_other hji] at hj
      have h1 := h.cl j p hp hj e he hb
      by_cases hei : e.on = i
      · rw [hei]; exact set_same hl
      · rw [set_other hei]; exact h1
  · by_cases hji : j = i
    · subst hji
      rw [ho] at hp
      injection hp with hp
      subst hp
      rw [hpd, put_same v (by rw [h.sz]; exact hin d hpd)]
      exact hv d hpd
    · rw [set_other hji] at hj
      have h1 := h.on j p d hp hpd hj
      cases hod : o.dst with
      | none => exact h1
      | some d' =>
        have hne : d ≠ d' := fun e => hji ((okD_spec hok hp).2.2 i o d ho hpd (by rw [hod, e]))
        rw [put_other v hne]
        exact h1
  · have h1 : A.tmps.getD k undef = a.tmps.getD k undef := h.off k (fun j p hp hpk => by
      have := hk j p hp hpk
      by_cases hji : j = i
      · subst hji; exact getD_both hl
      · rwa [set_other hji] at this)
    cases hod : o.dst with
    | none => exact h1
    | some d' =>
      have hne : k ≠ d' := fun e => by
        have := hk i o ho (by rw [hod, e])
        rw [set_same hl] at this
        cases this
      rw [put_other v hne]
      exact h1
theorem getElem?_of_getD {x y : Array Value} (hz : x.size = y.size) {k : Nat} (h : x.getD k undef = y.getD k undef) : x[k]? = y[k]? := by
  simp only [Array.getD_eq_getD_getElem?] at h
  rcases Nat.lt_or_ge k x.size with h3 | h3
  · rw [Array.getElem?_eq_getElem h3, Array.getElem?_eq_getElem (by omega)] at h ⊢
    simpa using h
  · rw [Array.getElem?_eq_none h3, Array.getElem?_eq_none (by omega)]
theorem wp_region_fix {P : Program} {os : List Oper} {Q : Exit → Act → World → Prop} {id : Nat} {a : Act} {w : World} (hm : P.follows .mixedOrders = true) (G : World → Prop) (Z : Array Value) (M : Nat → Array Value)
    (hok : okD os.toArray = true) (hin : ∀ o ∈ os, ∀ d, o.dst = some d → d < Z.size) (hz : Z.size = a.tmps.size) (hMz : ∀ i, (M i).size = Z.size)
    (hM : ∀ i o t, os[i]? = some o → t ∈ o.looksAt os.toArray → (srcZ os.toArray i t = true ∧ (M i).getD t undef = Z.getD t undef) ∨ (srcA os.toArray i t = true ∧ (M i).getD t undef = a.tmps.getD t undef))
    (hb : ∀ k, (∀ o ∈ os, o.dst ≠ some k) → Z.getD k undef = a.tmps.getD k undef)
    (h0 : G w.drew) (hops : FixAll P os.toArray M Z G 0 os) (he : ∀ w, G w → Q .normal ⟨Z, a.defers⟩ w) : (Code.region id os.toArray true).wp P Q a w := by
  have hofs : ∀ {i : Nat} {o : Oper}, os.toArray[i]? = some o → os[i]? = some o := fun h => by simpa using h
  refine wp_region_inv hm (FixI os.toArray a Z G) ⟨hz.symm, rfl, fun i o _ h => ?_, fun i o d _ _ h => ?_, fun _ _ => rfl, h0⟩ (fun listed A W i hi hI => ?_) (fun listed A W hls hr hI => ?_)
  · exfalso; simp [Array.getElem?_replicate] at h; split at h <;> simp at h
  · exfalso; simp [Array.getElem?_replicate] at h; split at h <;> simp at h
  · obtain ⟨o, ho, hl, hd⟩ := ready_spec hi
    have hsp := okD_spec hok ho
    have hfix := fixAll_at os 0 hops i o (hofs ho)
    rw [Nat.zero_add] at hfix
    have hval : ∀ t, t ∈ o.looksAt os.toArray → A.tmps.getD t undef = (M i).getD t undef := by
      intro t ht
      rcases hM i o t (hofs ho) ht with ⟨h1, h2⟩ | ⟨h1, h2⟩
      · rw [h2]
        by_cases hw : ∃ (j : Nat) (p : Oper), os.toArray[j]? = some p ∧ p.dst = some t
        · obtain ⟨j, p, hp, hpt⟩ := hw
          have hjl := (Array.getElem?_eq_some_iff.1 hp).1
          unfold srcZ at h1
          rw [List.all_eq_true] at h1
          have h3 := h1 j (by simpa using hjl)
          simp only [wrD, hp, Option.bind_some, hpt, beq_self_eq_true, Bool.not_true, Bool.false_or] at h3
          obtain ⟨e, he', hb', rfl⟩ := dirD_spec ho h3
          exact hI.on e.on p t hp hpt (hd e he' hb')
        · have h3 := hI.off t (fun j p hp hpt => absurd ⟨j, p, hp, hpt⟩ hw)
          rw [h3, hb t (fun p hp hpt => by
            obtain ⟨j, hj⟩ := List.getElem?_of_mem hp
            exact hw ⟨j, p, by simpa using hj, hpt⟩)]
      · rw [h2]
        refine hI.off t (fun j p hp hpt => ?_)
        have hjl := (Array.getElem?_eq_some_iff.1 hp).1
        unfold srcA at h1
        rw [List.all_eq_true] at h1
        have h3 := h1 j (by simpa using hjl)
        simp only [wrD, hp, Option.bind_some, hpt, beq_self_eq_true, Bool.not_true, Bool.false_or] at h3
        cases hlj : listed.getD j false with
        | false => rfl
        | true =>
          have := ancD_spec hI.cl 8 j i h3 hlj
          rw [getD_both hl] at this
          cases this
    have hsz : A.tmps.size = (M i).size := by rw [hI.sz, hMz]
    have hpl : ∀ cs b, o.op ≠ .select cs b := fun cs b e => by have := hsp.1; unfold plainD at this; rw [e] at this; cases this
    have hex : execOp A.eval o = execOp (Act.eval ⟨M i, []⟩) o := execOp_congr o hpl (fun x hx => by
      cases x with
      | tmp t =>
        have ht : t ∈ o.looksAt os.toArray := List.mem_append_left _ (List.mem_filterMap.2 ⟨.tmp t, by simpa using hx, rfl⟩)
        simpa [Act.eval] using hval t ht
      | _ => rfl)
    have hwa : Region.wanted o (yielded os.toArray A.tmps) = Region.wanted o (yielded os.toArray (M i)) := by
      unfold Region.wanted
      cases hg : o.guard with
      | none => rfl
      | some gw =>
        obtain ⟨g, want⟩ := gw
        have hy : yielded os.toArray A.tmps g = yielded os.toArray (M i) g := by
          unfold yielded
          cases ht : (os.toArray[g]?).bind (·.dst) with
          | none => rfl
          | some t =>
            have hlk : t ∈ o.looksAt os.toArray := by simp only [Oper.looksAt, hg, ht]; simp
            have := getElem?_of_getD hsz (hval t hlk)
            simp only [Option.bind_some, this]
        simp only [hy]
    have hind : ∀ d, o.dst = some d → d < Z.size := hin o (List.mem_of_getElem? (hofs ho))
    unfold wpOp
    rw [ho]
    dsimp only
    rw [hwa]
    rcases hfix W hI.g with ⟨hw, hgv⟩ | ⟨hw, hu⟩
    · rw [if_pos hw]
      refine .inl ?_
      unfold Oper.wp
      rw [hex]
      unfold Gives at hgv
      generalize (execOp (Act.eval ⟨M i, []⟩) o).run P W = r at *
      cases r with
      | ok n w' =>
        cases n with
        | value u =>
          obtain ⟨rfl, hG⟩ := hgv
          exact hI.put hok ho hl hd _ (fun d hd' => by rw [hd']; rfl) hind hG
        | skip =>
          obtain ⟨h1, hG⟩ := hgv
          exact hI.put hok ho hl hd _ (fun d hd' => by rw [hd'] at h1; exact h1.symm) hind hG
        | enter f args =>
          refine Calls.mono hgv (fun e w'' hp => ?_)
          obtain ⟨rfl, hG⟩ := hp
          exact hI.put hok ho hl hd _ (fun d hd' => by rw [hd']; rfl) hind hG
        | _ => exact hgv.elim
      | halt x w' => exact hgv.elim
    · rw [if_neg (by rw [hw]; decide)]
      exact hI.put hok ho hl hd _ (fun d hd' => (hu d hd').symm) hind hI.g
  · have hall : ∀ i o, os.toArray[i]? = some o → listed.getD i false = true := by
      intro i
      induction i using Nat.strongRecOn with
      | _ i ih =>
        intro o ho
        refine all_listed hls hr i o ho (fun e he' hb' => ?_)
        have hlt := (okD_spec hok ho).2.1 e he' hb'
        have hil := (Array.getElem?_eq_some_iff.1 ho).1
        obtain ⟨p, hp⟩ : ∃ p, os.toArray[e.on]? = some p := ⟨_, Array.getElem?_eq_getElem (by omega)⟩
        exact ih e.on hlt p hp
    have hA : A = ⟨Z, a.defers⟩ := by
      obtain ⟨t, d⟩ := A
      have h1 := hI.sz
      have h2 := hI.df
      dsimp only at h1 h2
      subst h2
      congr 1
      apply Array.ext_getElem?
      intro k
      refine getElem?_of_getD h1 ?_
      by_cases hw : ∃ (j : Nat) (p : Oper), os.toArray[j]? = some p ∧ p.dst = some k
      · obtain ⟨j, p, hp, hpk⟩ := hw
        exact hI.on j p k hp hpk (hall j p hp)
      · have h3 := hI.off k (fun j p hp hpk => absurd ⟨j, p, hp, hpk⟩ hw)
        rw [h3, hb k (fun p hp hpt => by
          obtain ⟨j, hj⟩ := List.getElem?_of_mem hp
          exact hw ⟨j, p, by simpa using hj, hpt⟩)]
    rw [hA]
    exact he W hI.g
def chkZ (ops : Array Oper) : Bool := (List.range ops.size).all fun i => match ops[i]? with
  | none => true
  | some o => (o.looksAt ops).all fun t => srcZ ops i t
/-- The same, where every operation reads what stands behind the region; ws: what is laid. -/
theorem wp_region_fixW {P : Program} {os : List Oper} {Q : Exit → Act → World → Prop} {id : Nat} {a : Act} {w : World} (hm : P.follows .mixedOrders = true) (G : World → Prop) (ws : List (Nat × Value)) (Z : Array Value)
    (hZ : ws.foldl (fun F p => F.setIfInBounds p.1 p.2) a.tmps = Z) (hok : okD os.toArray = true) (hchk : chkZ os.toArray = true) (hws : ws.map (·.1) = os.filterMap (·.dst)) (hin : (ws.all fun p => decide (p.1 < a.tmps.size)) = true)
    (h0 : G w.drew) (hops : FixAll P os.toArray (fun _ => Z) Z G 0 os) (he : ∀ w, G w → Q .normal ⟨Z, a.defers⟩ w) : (Code.region id os.toArray true).wp P Q a w := by
  have hsz : Z.size = a.tmps.size := by rw [← hZ, foldl_size]
  refine wp_region_fix hm G Z (fun _ => Z) hok (fun o ho d hd => ?_) hsz (fun _ => rfl) (fun i o t ho ht => .inl ⟨?_, rfl⟩) (fun k hk => ?_) h0 hops he
  · have h1 : d ∈ ws.map (·.1) := by rw [hws]; exact List.mem_filterMap.2 ⟨o, ho, hd⟩
    obtain ⟨p, hp, rfl⟩ := List.mem_map.1 h1
    rw [List.all_eq_true] at hin
    have := hin p hp
    rw [hsz]
    simpa using this
  · unfold chkZ at hchk
    rw [List.all_eq_true] at hchk
    have hi := (List.getElem?_eq_some_iff.1 ho).1
    have h1 := hchk i (by simpa using hi)
    have ho' : os.toArray[i]? = some o := by simpa using ho
    rw [ho'] at h1
    dsimp only at h1
    rw [List.all_eq_true] at h1
    exact h1 t ht
  · rw [← hZ, Array.getD_eq_getD_getElem?, Array.getD_eq_getD_getElem?, foldl_other ws _ k (fun p hp e => ?_)]
    have h1 : p.1 ∈ os.filterMap (·.dst) := by rw [← hws]; exact List.mem_map.2 ⟨p, hp, rfl⟩
    obtain ⟨o, ho, hod⟩ := List.mem_filterMap.1 h1
    exact hk o ho (by rw [hod, e])
theorem fix_val {P : Program} {ops : Array Oper} {F Z : Array Value} {G : World → Prop} {o : Oper} (hw : Region.wanted o (yielded ops F) = true) (h : ∀ w, G w → (execOp (Act.eval ⟨F, []⟩) o).run P w = .ok (.value ((o.dst.map (fun d => Z.getD d undef)).getD undef)) w) : FixOp P ops F Z G o :=
  fun w hG => .inl ⟨hw, gives_val (h w hG) hG⟩
theorem fix_off {P : Program} {ops : Array Oper} {F Z : Array Value} {G : World → Prop} {o : Oper} (hw : Region.wanted o (yielded ops F) = false) (h : ∀ d, o.dst = some d → Z.getD d undef = undef) : FixOp P ops F Z G o :=
  fun _ _ => .inr ⟨hw, h⟩
theorem fix_call {P : Program} {ops : Array Oper} {F Z : Array Value} {G : World → Prop} {o : Oper} (hw : Region.wanted o (yielded ops F) = true) {f : FuncId} {args : List Operand} {ts : Array TypeId} (hx : o.op = .call { callee := .value (.func f), args := args.toArray, argTypes := ts }) {vs : List Value} (hvs : args.map (Act.eval ⟨F, []⟩) = vs) {fn : Func} (hfn : P.funcs[f]? = some fn) (hname : (fn.name == "runtime.NumGoroutine") = false) (hbody : fn.body.isNone = false)
    (hc : ∀ w, G w → Calls P f vs.toArray w fun e w' => e = .returned ((o.dst.map (fun d => Z.getD d undef)).getD undef) ∧ G w') : FixOp P ops F Z G o := by
  refine fun w hG => .inl ⟨hw, gives_call (f := f) (args := vs.toArray) ?_ (hc w hG)⟩
  subst hvs
  obtain ⟨dst, op, ty, pos, after, guard⟩ := o
  dsimp only at hx
  subst hx
  rw [execOp_call_go]
  have h1 : ¬ fn.name = "runtime.NumGoroutine" := by simpa using hname
  have h2 : ¬ fn.body = none := fun e => by rw [e] at hbody; simp at hbody
  simp [callFunc, hfn, h1, h2, Result.andThen]
end Go.Proofs.YtfjpckaphfdfnaaGreatDoor
