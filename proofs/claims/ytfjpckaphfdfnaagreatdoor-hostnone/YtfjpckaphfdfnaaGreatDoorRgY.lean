/- A region that draws its order, some of whose operations, one behind the other, change the world: by stages. -/
import Derived.Test.YtfjpckaphfdfnaaGreatDoorRgX
namespace Go.Proofs.YtfjpckaphfdfnaaGreatDoor
open Go.RowKit
def updL (l : Nat → Bool) (i : Nat) : Nat → Bool := fun j => if j = i then true else l j
def cntL (l : Nat → Bool) : List Nat → Nat
  | [] => 0
  | i :: r => if l i = true then cntL l r + 1 else 0
theorem cntL_other (l : Nat → Bool) (i : Nat) : ∀ es : List Nat, i ∉ es → cntL (updL l i) es = cntL l es := by
  intro es
  induction es with
  | nil => intro _; rfl
  | cons j es ih =>
    intro h
    have h1 : j ≠ i := fun e => h (by rw [e]; exact List.mem_cons_self)
    have h2 := ih (fun e => h (List.mem_cons_of_mem _ e))
    show (if updL l i j = true then cntL (updL l i) es + 1 else 0) = _
    rw [h2, show updL l i j = l j from if_neg h1]
    rfl
theorem cntL_le (l : Nat → Bool) : ∀ es : List Nat, cntL l es ≤ es.length := by
  intro es
  induction es with
  | nil => exact Nat.le_refl _
  | cons j es ih =>
    show (if l j = true then cntL l es + 1 else 0) ≤ _
    split
    · simpa using ih
    · exact Nat.zero_le _
theorem cntL_full (l : Nat → Bool) : ∀ es : List Nat, cntL l es = es.length → ∀ j ∈ es, l j = true := by
  intro es
  induction es with
  | nil => intro _ j hj; cases hj
  | cons i es ih =>
    intro h j hj
    have h' : (if l i = true then cntL l es + 1 else 0) = es.length + 1 := h
    split at h'
    · rename_i hl
      rcases List.mem_cons.1 hj with rfl | hj
      · exact hl
      · exact ih (by omega) j hj
    · omega
theorem cntL_at (l : Nat → Bool) : ∀ (es : List Nat) (k i : Nat), es[k]? = some i → l i = false → (∀ j x, j < k → es[j]? = some x → l x = true) → cntL l es = k := by
  intro es
  induction es with
  | nil => intro k i h; simp at h
  | cons y es ih =>
    intro k i h hl hp
    show (if l y = true then cntL l es + 1 else 0) = k
    cases k with
    | zero =>
      have e : y = i := by simpa using h
      subst e
      rw [if_neg (by rw [hl]; decide)]
    | succ k =>
      rw [if_pos (hp 0 y (by omega) rfl), ih k i (by simpa using h) hl (fun j x hj hx => hp (j + 1) x (by omega) (by simpa using hx))]
theorem nodup_at {es : List Nat} (h : es.Nodup) {j k x : Nat} (hj : es[j]? = some x) (hk : es[k]? = some x) (hjk : j < k) : False := by
  have h1 := (List.getElem?_eq_some_iff.1 hj)
  have h2 := (List.getElem?_eq_some_iff.1 hk)
  exact (List.pairwise_iff_getElem.1 h) j k h1.1 h2.1 hjk (h1.2.trans h2.2.symm)
/-- The operations es come one behind the other. -/
def chainD (ops : Array Oper) (es : List Nat) : Bool := (List.range es.length).all fun k => (List.range k).all fun j => ancD ops 12 (es.getD k 0) (es.getD j 0)
def lastD (ops : Array Oper) (es : List Nat) : Bool := match es.getLast? with
  | none => false
  | some i => (List.range ops.size).all fun j => ancD ops 3 i j
theorem chainD_spec {ops : Array Oper} {es : List Nat} (h : chainD ops es = true) {k j : Nat} {x y : Nat} (hk : es[k]? = some x) (hj : es[j]? = some y) (hjk : j < k) : ancD ops 12 x y = true := by
  have hkl := (List.getElem?_eq_some_iff.1 hk).1
  unfold chainD at h
  rw [List.all_eq_true] at h
  have h1 := h k (by simpa using hkl)
  rw [List.all_eq_true] at h1
  have h2 := h1 j (by simpa using hjk)
  rw [List.getD_eq_getElem?_getD, List.getD_eq_getElem?_getD, hk, hj] at h2
  exact h2
/-- The fact that is asked of an operation. -/
def StgOp (P : Program) (ops : Array Oper) (Z : Array Value) (es : List Nat) (Gs : Nat → World → Prop) (S : World → Prop) (i : Nat) (o : Oper) : Prop :=
  match es.idxOf? i with
  | some k => ∀ w, Gs k w → Region.wanted o (yielded ops Z) = true ∧ Gives P (Act.eval ⟨Z, []⟩) o ((o.dst.map (fun d => Z.getD d undef)).getD undef) (Gs (k + 1)) w
  | none => ∀ w, S w → (Region.wanted o (yielded ops Z) = true ∧ (execOp (Act.eval ⟨Z, []⟩) o).run P w = .ok (.value ((o.dst.map (fun d => Z.getD d undef)).getD undef)) w) ∨ (Region.wanted o (yielded ops Z) = false ∧ ∀ d, o.dst = some d → Z.getD d undef = undef)
@[reducible] def StgAll (P : Program) (ops : Array Oper) (Z : Array Value) (es : List Nat) (Gs : Nat → World → Prop) (S : World → Prop) : Nat → List Oper → Prop
  | _, [] => True
  | i, o :: os => StgOp P ops Z es Gs S i o ∧ StgAll P ops Z es Gs S (i + 1) os
theorem stgAll_at {P : Program} {ops : Array Oper} {Z : Array Value} {es : List Nat} {Gs : Nat → World → Prop} {S : World → Prop} : ∀ (os : List Oper) (k : Nat), StgAll P ops Z es Gs S k os → ∀ i o, os[i]? = some o → StgOp P ops Z es Gs S (k + i) o := by
  intro os
  induction os with
  | nil => intro k _ i o h; simp at h
  | cons x os ih =>
    intro k h i o ho
    cases i with
    | zero => simp at ho; subst ho; exact h.1
    | succ i => rw [show k + (i + 1) = k + 1 + i by omega]; exact ih (k + 1) h.2 i o (by simpa using ho)
def lst (listed : Array Bool) : Nat → Bool := fun i => listed.getD i false
theorem lst_set {listed : Array Bool} {i : Nat} (h : listed.getD i true = false) : lst (listed.setIfInBounds i true) = updL (lst listed) i := by
  funext j
  unfold lst updL
  by_cases hj : j = i
  · subst hj; rw [if_pos rfl]; exact set_same h
  · rw [if_neg hj]; exact set_other hj
theorem wp_region_stage {P : Program} {os : List Oper} {Q : Exit → Act → World → Prop} {id : Nat} {a : Act} {w : World} (hm : P.follows .mixedOrders = true) (es : List Nat) (Gs : Nat → World → Prop) (S : World → Prop) (ws : List (Nat × Value)) (Z : Array Value)
    (hZ : ws.foldl (fun F p => F.setIfInBounds p.1 p.2) a.tmps = Z) (hok : okD os.toArray = true) (hchk : chkZ os.toArray = true) (hws : ws.map (·.1) = os.filterMap (·.dst)) (hin : (ws.all fun p => decide (p.1 < a.tmps.size)) = true) (hch : chainD os.toArray es = true)
    (h0 : Gs 0 w.drew) (hS : ∀ k W, k < es.length → Gs k W → S W) (hlast : lastD os.toArray es = true ∨ ∀ W, Gs es.length W → S W) (hops : StgAll P os.toArray Z es Gs S 0 os) (he : ∀ w, Gs es.length w → Q .normal ⟨Z, a.defers⟩ w) (hesb : (es.all fun i => decide (i < os.length)) = true) (hnd : es.Nodup) : (Code.region id os.toArray true).wp P Q a w := by
  have hsz : Z.size = a.tmps.size := by rw [← hZ, foldl_size]
  have hofs : ∀ {i : Nat} {o : Oper}, os.toArray[i]? = some o → os[i]? = some o := fun h => by simpa using h
  have hb : ∀ k, (∀ o ∈ os, o.dst ≠ some k) → Z.getD k undef = a.tmps.getD k undef := by
    intro k hk
    rw [← hZ, Array.getD_eq_getD_getElem?, Array.getD_eq_getD_getElem?, foldl_other ws _ k (fun p hp e => ?_)]
    have h1 : p.1 ∈ os.filterMap (·.dst) := by rw [← hws]; exact List.mem_map.2 ⟨p, hp, rfl⟩
    obtain ⟨o, ho, hod⟩ := List.mem_filterMap.1 h1
    exact hk o ho (by rw [hod, e])
  have hin' : ∀ o ∈ os, ∀ d, o.dst = some d → d < Z.size := by
    intro o ho d hd
    have h1 : d ∈ ws.map (·.1) := by rw [hws]; exact List.mem_filterMap.2 ⟨o, ho, hd⟩
    obtain ⟨p, hp, rfl⟩ := List.mem_map.1 h1
    rw [List.all_eq_true] at hin
    have := hin p hp
    rw [hsz]
    simpa using this
  refine wp_region_inv hm (fun listed A W => FixI os.toArray a Z (fun _ => True) listed A W ∧ Gs (cntL (lst listed) es) W) ⟨⟨hsz.symm, rfl, fun i o _ h => ?_, fun i o d _ _ h => ?_, fun _ _ => rfl, trivial⟩, ?_⟩ (fun listed A W i hi hI => ?_) (fun listed A W hls hr hI => ?_)
  · exfalso; simp [Array.getElem?_replicate] at h; split at h <;> simp at h
  · exfalso; simp [Array.getElem?_replicate] at h; split at h <;> simp at h
  · have hz : ∀ l : List Nat, cntL (lst (Array.replicate os.toArray.size false)) l = 0 := by
      intro l
      cases l with
      | nil => rfl
      | cons x l =>
        show (if lst _ x = true then _ else 0) = 0
        rw [if_neg]
        unfold lst
        rw [Array.getD_eq_getD_getElem?, Array.getElem?_replicate]
        split <;> simp
    rw [hz]
    exact h0
  · obtain ⟨hI, hG⟩ := hI
    obtain ⟨o, ho, hl, hd⟩ := ready_spec hi
    have hsp := okD_spec hok ho
    have hop := stgAll_at os 0 hops i o (hofs ho)
    rw [Nat.zero_add] at hop
    have hlf : lst listed i = false := getD_both hl
    have hval : ∀ t, t ∈ o.looksAt os.toArray → A.tmps.getD t undef = Z.getD t undef := by
      intro t ht
      have h1 : srcZ os.toArray i t = true := by
        unfold chkZ at hchk
        rw [List.all_eq_true] at hchk
        have hil := (Array.getElem?_eq_some_iff.1 ho).1
        have h1 := hchk i (by simpa using hil)
        rw [ho] at h1
        dsimp only at h1
        rw [List.all_eq_true] at h1
        exact h1 t ht
      by_cases hw : ∃ (j : Nat) (p : Oper), os.toArray[j]? = some p ∧ p.dst = some t
      · obtain ⟨j, p, hp, hpt⟩ := hw
        have hjl := (Array.getElem?_eq_some_iff.1 hp).1
        unfold srcZ at h1
        rw [List.all_eq_true] at h1
        have h3 := h1 j (by simpa using hjl)
        simp only [wrD, hp, Option.bind_some, hpt, beq_self_eq_true, Bool.not_true, Bool.false_or] at h3
        obtain ⟨e, he', hb', rfl⟩ := dirD_spec ho h3
        exact hI.on e.on p t hp hpt (hd e he' hb')
      · have h3 := hI.off t (fun j p hp hpt => absurd ⟨j, p, hp, hpt⟩ hw)
        rw [h3, hb t (fun p hp hpt => by
          obtain ⟨j, hj⟩ := List.getElem?_of_mem hp
          exact hw ⟨j, p, by simpa using hj, hpt⟩)]
    have hpl : ∀ cs b, o.op ≠ .select cs b := fun cs b e => by have := hsp.1; unfold plainD at this; rw [e] at this; cases this
    have hex : execOp A.eval o = execOp (Act.eval ⟨Z, []⟩) o := execOp_congr o hpl (fun x hx => by
      cases x with
      | tmp t =>
        have ht : t ∈ o.looksAt os.toArray := List.mem_append_left _ (List.mem_filterMap.2 ⟨.tmp t, by simpa using hx, rfl⟩)
        simpa [Act.eval] using hval t ht
      | _ => rfl)
    have hwa : Region.wanted o (yielded os.toArray A.tmps) = Region.wanted o (yielded os.toArray Z) := by
      unfold Region.wanted
      cases hg : o.guard with
      | none => rfl
      | some gw =>
        obtain ⟨g, want⟩ := gw
        have hy : yielded os.toArray A.tmps g = yielded os.toArray Z g := by
          unfold yielded
          cases ht : (os.toArray[g]?).bind (·.dst) with
          | none => rfl
          | some t =>
            have hlk : t ∈ o.looksAt os.toArray := by simp only [Oper.looksAt, hg, ht]; simp
            have := getElem?_of_getD hI.sz (hval t hlk)
            simp only [Option.bind_some, this]
        simp only [hy]
    have hind : ∀ d, o.dst = some d → d < Z.size := hin' o (List.mem_of_getElem? (hofs ho))
    unfold wpOp
    rw [ho]
    dsimp only
    rw [hwa]
    unfold StgOp at hop
    cases hix : es.idxOf? i with
    | some k =>
      rw [hix] at hop
      dsimp only at hop
      have hik : es[k]? = some i := by
        have := List.of_findIdx?_eq_some hix
        cases hek : es[k]? with
        | none => rw [hek] at this; simp at this
        | some x => rw [hek] at this; simp at this; rw [this]
      have hcnt : cntL (lst listed) es = k := cntL_at _ es k i hik hlf (fun j x hj hx => by
        -- the earlier ones are behind us: each is one that i waits for
        have hanc := chainD_spec hch hik hx hj
        have hxne : x ≠ i := fun e => by
          subst e
          exact nodup_at hnd hx hik hj
        simp only [ancD, Bool.or_eq_true, beq_iff_eq] at hanc
        rcases hanc with h | h
        · exact absurd h.symm hxne
        · rw [ho] at h
          simp only [Option.map_some, Option.getD_some, Array.any_eq_true'] at h
          obtain ⟨e, hee, h⟩ := h
          simp only [Bool.and_eq_true] at h
          exact ancD_spec hI.cl 11 e.on x h.2 (hd e hee h.1))
      have hcnt2 : cntL (lst (listed.setIfInBounds i true)) es = k + 1 := by
        rw [lst_set hl]
        cases hk1 : es[k + 1]? with
        | none =>
          have h1 := (List.getElem?_eq_none_iff.1 hk1)
          have h2 := (List.getElem?_eq_some_iff.1 hik).1
          have hall : ∀ (l : Nat → Bool) (es : List Nat), (∀ x ∈ es, l x = true) → cntL l es = es.length := by
            intro l es
            induction es with
            | nil => intro _; rfl
            | cons y es ih => intro h; show (if l y = true then cntL l es + 1 else 0) = _; rw [if_pos (h y List.mem_cons_self), ih (fun x hx => h x (List.mem_cons_of_mem _ hx))]; rfl
          rw [hall _ es (fun x hx => by
            obtain ⟨j, hj⟩ := List.getElem?_of_mem hx
            unfold updL
            by_cases hxi : x = i
            · rw [if_pos hxi]
            · rw [if_neg hxi]
              have hjl := (List.getElem?_eq_some_iff.1 hj).1
              have hjk : j < k := by
                rcases Nat.lt_or_ge j k with h | h
                · exact h
                · have : j = k := by omega
                  subst this
                  rw [hik] at hj
                  injection hj with hj
                  exact absurd hj.symm hxi
              have hanc := chainD_spec hch hik hj hjk
              simp only [ancD, Bool.or_eq_true, beq_iff_eq] at hanc
              rcases hanc with h | h
              · exact absurd h.symm hxi
              · rw [ho] at h
                simp only [Option.map_some, Option.getD_some, Array.any_eq_true'] at h
                obtain ⟨e, hee, h⟩ := h
                simp only [Bool.and_eq_true] at h
                exact ancD_spec hI.cl 11 e.on x h.2 (hd e hee h.1))]
          omega
        | some y =>
          refine cntL_at _ es (k + 1) y hk1 ?_ (fun j x hj hx => ?_)
          · unfold updL
            have hyi : y ≠ i := fun e => by
              subst e
              exact nodup_at hnd hik hk1 (by omega)
            rw [if_neg hyi]
            cases hly : lst listed y with
            | false => rfl
            | true =>
              have := ancD_spec hI.cl 12 y i (chainD_spec hch hk1 hik (by omega)) hly
              rw [show listed.getD i false = lst listed i from rfl, hlf] at this
              cases this
          · unfold updL
            by_cases hxi : x = i
            · rw [if_pos hxi]
            · rw [if_neg hxi]
              have hjk : j < k := by
                rcases Nat.lt_or_ge j k with h | h
                · exact h
                · have : j = k := by omega
                  subst this
                  rw [hik] at hx
                  injection hx with hx
                  exact absurd hx.symm hxi
              have hanc := chainD_spec hch hik hx hjk
              simp only [ancD, Bool.or_eq_true, beq_iff_eq] at hanc
              rcases hanc with h | h
              · exact absurd h.symm hxi
              · rw [ho] at h
                simp only [Option.map_some, Option.getD_some, Array.any_eq_true'] at h
                obtain ⟨e, hee, h⟩ := h
                simp only [Bool.and_eq_true] at h
                exact ancD_spec hI.cl 11 e.on x h.2 (hd e hee h.1)
      rw [hcnt] at hG
      obtain ⟨hw, hgv⟩ := hop W hG
      rw [if_pos hw]
      refine .inl ?_
      unfold Oper.wp
      rw [hex]
      unfold Gives at hgv
      generalize (execOp (Act.eval ⟨Z, []⟩) o).run P W = r at *
      cases r with
      | ok n w' =>
        cases n with
        | value u =>
          obtain ⟨rfl, hG'⟩ := hgv
          exact ⟨hI.put hok ho hl hd _ (fun d hd' => by rw [hd']; rfl) hind trivial, by rw [hcnt2]; exact hG'⟩
        | skip =>
          obtain ⟨h1, hG'⟩ := hgv
          exact ⟨hI.put hok ho hl hd _ (fun d hd' => by rw [hd'] at h1; exact h1.symm) hind trivial, by rw [hcnt2]; exact hG'⟩
        | enter f args =>
          refine Calls.mono hgv (fun e w'' hp => ?_)
          obtain ⟨rfl, hG'⟩ := hp
          exact ⟨hI.put hok ho hl hd _ (fun d hd' => by rw [hd']; rfl) hind trivial, by rw [hcnt2]; exact hG'⟩
        | _ => exact hgv.elim
      | halt x w' => exact hgv.elim
    | none =>
      rw [hix] at hop
      dsimp only at hop
      have hni : i ∉ es := by
        have := List.findIdx?_eq_none_iff.1 hix
        intro hm'
        have := this i hm'
        simp at this
      have hcnt2 : cntL (lst (listed.setIfInBounds i true)) es = cntL (lst listed) es := by rw [lst_set hl]; exact cntL_other _ i es hni
      have hSW : S W := by
        rcases Nat.lt_or_ge (cntL (lst listed) es) es.length with h | h
        · exact hS _ W h hG
        · have hfull : cntL (lst listed) es = es.length := Nat.le_antisymm (cntL_le _ _) h
          rcases hlast with hl' | hl'
          · exfalso
            unfold lastD at hl'
            cases hgl : es.getLast? with
            | none => rw [hgl] at hl'; cases hl'
            | some x =>
              rw [hgl] at hl'
              dsimp only at hl'
              rw [List.all_eq_true] at hl'
              have hxm : x ∈ es := List.mem_of_getLast? hgl
              have hil := (Array.getElem?_eq_some_iff.1 ho).1
              have h1 := hl' i (by simpa using hil)
              have hlx := cntL_full _ es hfull x hxm
              have := ancD_spec hI.cl 3 x i h1 hlx
              rw [show listed.getD i false = lst listed i from rfl, hlf] at this
              cases this
          · rw [hfull] at hG
            exact hl' W hG
      rcases hop W hSW with ⟨hw, hrun⟩ | ⟨hw, hu⟩
      · rw [if_pos hw]
        refine .inl ?_
        unfold Oper.wp
        rw [hex, hrun]
        exact ⟨hI.put hok ho hl hd _ (fun d hd' => by rw [hd']; rfl) hind trivial, by rw [hcnt2]; exact hG⟩
      · rw [if_neg (by rw [hw]; decide)]
        exact ⟨hI.put hok ho hl hd _ (fun d hd' => (hu d hd').symm) hind trivial, by rw [hcnt2]; exact hG⟩
  · obtain ⟨hI, hG⟩ := hI
    have hall : ∀ i o, os.toArray[i]? = some o → listed.getD i false = true := by
      intro i
      induction i using Nat.strongRecOn with
      | _ i ih =>
        intro o ho
        refine all_listed hls hr i o ho (fun e he' hb' => ?_)
        have hlt := (okD_spec hok ho).2.1 e he' hb'
        have hil := (Array.getElem?_eq_some_iff.1 ho).1
        obtain ⟨p, hp⟩ : ∃ p, os.toArray[e.on]? = some p := ⟨_, Array.getElem?_eq_getElem (by omega)⟩
        exact ih e.on hlt p hp
    have hcf : cntL (lst listed) es = es.length := by
      have : ∀ l : List Nat, (∀ i ∈ l, i < os.length) → cntL (lst listed) l = l.length := by
        intro l
        induction l with
        | nil => intro _; rfl
        | cons y l ih =>
          intro h
          have hyl := h y List.mem_cons_self
          obtain ⟨oy, hoy⟩ : ∃ oy, os.toArray[y]? = some oy := ⟨_, Array.getElem?_eq_getElem (by simpa using hyl)⟩
          show (if lst listed y = true then cntL (lst listed) l + 1 else 0) = _
          rw [if_pos (show lst listed y = true from hall y oy hoy), ih (fun i hi => h i (List.mem_cons_of_mem _ hi))]
          rfl
      exact this es (fun i hi => by rw [List.all_eq_true] at hesb; simpa using hesb i hi)
    rw [hcf] at hG
    have hA : A = ⟨Z, a.defers⟩ := by
      obtain ⟨t, d⟩ := A
      have h1 := hI.sz
      have h2 := hI.df
      dsimp only at h1 h2
      subst h2
      congr 1
      apply Array.ext_getElem?
      intro k
      refine getElem?_of_getD h1 ?_
      by_cases hw : ∃ (j : Nat) (p : Oper), os.toArray[j]? = some p ∧ p.dst = some k
      · obtain ⟨j, p, hp, hpk⟩ := hw
        exact hI.on j p k hp hpk (hall j p hp)
      · have h3 := hI.off k (fun j p hp hpk => absurd ⟨j, p, hp, hpk⟩ hw)
        rw [h3, hb k (fun p hp hpt => by
          obtain ⟨j, hj⟩ := List.getElem?_of_mem hp
          exact hw ⟨j, p, by simpa using hj, hpt⟩)]
    rw [hA]
    exact he W hG
theorem run_callV {P : Program} {ρ : Operand → Value} {o : Oper} {w : World} {s : Operand} {args : List Operand} {ts : Array TypeId} {f : FuncId} {caps vs : List Value} (ho : o.op = .call { callee := .value s, args := args.toArray, argTypes := ts }) (hs : ρ s = .func (.func f) #[] caps.toArray) (hvs : args.map ρ = vs) (hcf : ∀ a w, (callFunc f a).run P w = .ok (.enter f a) w) : (execOp ρ o).run P w = .ok (.enter f (vs ++ caps).toArray) w := by
  subst hvs
  simp [execOp, ho, resolve, hs, Deferred.ofValue, invoke, hcf]
theorem run_appX {P : Program} {S : TypeId} {ρ : Operand → Value} {o : Oper} {w w' : World} {v u r : Value} {ty : TypeId} {s x : Operand}
    (ho : o.op = .call { callee := .builtin .append, args := #[s, x], argTypes := #[S, S] }) (hty : o.type = ty) (hs : ρ s = v) (hx : ρ x = u) (hrun : (Builtin.append_ #[S, S] ty #[v, u]).run P w = .ok r w') : (execOp ρ o).run P w = .ok (.value r) w' := by
  subst hty
  simp [execOp, ho, resolve, invoke, builtin, hs, hx, hrun, Result.andThen]
section
variable {P : Program} {ops : Array Oper} {Z : Array Value} {es : List Nat} {Gs : Nat → World → Prop} {S : World → Prop} {i k : Nat} {o : Oper}
theorem stg_val (hix : es.idxOf? i = none) (hw : Region.wanted o (yielded ops Z) = true) (h : ∀ w, S w → (execOp (Act.eval ⟨Z, []⟩) o).run P w = .ok (.value ((o.dst.map (fun d => Z.getD d undef)).getD undef)) w) : StgOp P ops Z es Gs S i o := by
  unfold StgOp; rw [hix]; exact fun w hS => .inl ⟨hw, h w hS⟩
theorem stg_off (hix : es.idxOf? i = none) (hw : Region.wanted o (yielded ops Z) = false) (h : ∀ d, o.dst = some d → Z.getD d undef = undef) : StgOp P ops Z es Gs S i o := by
  unfold StgOp; rw [hix]; exact fun w hS => .inr ⟨hw, h⟩
theorem stg_run (hix : es.idxOf? i = some k) (hw : Region.wanted o (yielded ops Z) = true) (h : ∀ w, Gs k w → ∃ w', (execOp (Act.eval ⟨Z, []⟩) o).run P w = .ok (.value ((o.dst.map (fun d => Z.getD d undef)).getD undef)) w' ∧ Gs (k + 1) w') : StgOp P ops Z es Gs S i o := by
  unfold StgOp; rw [hix]; exact fun w hG => ⟨hw, by obtain ⟨w', h1, h2⟩ := h w hG; exact gives_val h1 h2⟩
theorem stg_skip (hix : es.idxOf? i = some k) (hw : Region.wanted o (yielded ops Z) = true) (hd : o.dst = none) (h : ∀ w, Gs k w → ∃ w', (execOp (Act.eval ⟨Z, []⟩) o).run P w = .ok .skip w' ∧ Gs (k + 1) w') : StgOp P ops Z es Gs S i o := by
  unfold StgOp; rw [hix]; exact fun w hG => ⟨hw, by obtain ⟨w', h1, h2⟩ := h w hG; exact gives_skip h1 (by rw [hd]; rfl) h2⟩
theorem stg_enter (hix : es.idxOf? i = some k) (hw : Region.wanted o (yielded ops Z) = true) {f : FuncId} {args : Array Value} (hr : ∀ w, (execOp (Act.eval ⟨Z, []⟩) o).run P w = .ok (.enter f args) w)
    (hc : ∀ w, Gs k w → Calls P f args w fun e w' => e = .returned ((o.dst.map (fun d => Z.getD d undef)).getD undef) ∧ Gs (k + 1) w') : StgOp P ops Z es Gs S i o := by
  unfold StgOp; rw [hix]
  exact fun w hG => ⟨hw, gives_call (hr w) (hc w hG)⟩
theorem stg_call (hix : es.idxOf? i = some k) (hw : Region.wanted o (yielded ops Z) = true) {f : FuncId} {args : List Operand} {ts : Array TypeId} (hx : o.op = .call { callee := .value (.func f), args := args.toArray, argTypes := ts }) {vs : List Value} (hvs : args.map (Act.eval ⟨Z, []⟩) = vs) {fn : Func} (hfn : P.funcs[f]? = some fn) (hname : (fn.name == "runtime.NumGoroutine") = false) (hbody : fn.body.isNone = false)
    (hc : ∀ w, Gs k w → Calls P f vs.toArray w fun e w' => e = .returned ((o.dst.map (fun d => Z.getD d undef)).getD undef) ∧ Gs (k + 1) w') : StgOp P ops Z es Gs S i o := by
  unfold StgOp; rw [hix]
  refine fun w hG => ⟨hw, gives_call (f := f) (args := vs.toArray) ?_ (hc w hG)⟩
  subst hvs
  obtain ⟨dst, op, ty, pos, after, guard⟩ := o
  dsimp only at hx
  subst hx
  rw [execOp_call_go]
  have h1 : ¬ fn.name = "runtime.NumGoroutine" := by simpa using hname
  have h2 : ¬ fn.body = none := fun e => by rw [e] at hbody; simp at hbody
  simp [callFunc, hfn, h1, h2, Result.andThen]
end
end Go.Proofs.YtfjpckaphfdfnaaGreatDoor
