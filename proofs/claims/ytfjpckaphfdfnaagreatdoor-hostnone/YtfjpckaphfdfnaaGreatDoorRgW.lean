/- A region that draws its order: values known ahead, the world by what is done; some operations (old) read the frame as it was ahead of the region. -/
import Derived.Test.YtfjpckaphfdfnaaGreatDoorRgZ
namespace Go.Proofs.YtfjpckaphfdfnaaGreatDoor
open Go.RowKit
def SeqOp (P : Program) (ops : Array Oper) (F Z : Array Value) (G : (Nat → Bool) → World → Prop) (i : Nat) (o : Oper) : Prop :=
  ∀ l w, l i = false → (∀ j, dirD ops i j = true → l j = true) → (∀ k j, ancD ops 12 k j = true → l k = true → l j = true) → G l w →
    (Region.wanted o (yielded ops F) = true ∧ GivesP P (Act.eval ⟨F, []⟩) o (fun v w' => (∀ d, o.dst = some d → v = Z.getD d undef) ∧ G (updL l i) w') w) ∨ (Region.wanted o (yielded ops F) = false ∧ (∀ d, o.dst = some d → undef = Z.getD d undef) ∧ G (updL l i) w)
@[reducible] def SeqAll (P : Program) (ops : Array Oper) (T Z : Array Value) (G : (Nat → Bool) → World → Prop) : Nat → List Bool → List Oper → Prop
  | _, _, [] => True
  | i, true :: bs, o :: os => SeqOp P ops T Z G i o ∧ SeqAll P ops T Z G (i + 1) bs os
  | i, false :: bs, o :: os => SeqOp P ops Z Z G i o ∧ SeqAll P ops T Z G (i + 1) bs os
  | i, [], o :: os => SeqOp P ops Z Z G i o ∧ SeqAll P ops T Z G (i + 1) [] os
def oldA (old : List Bool) (T Z : Array Value) (i : Nat) : Array Value := if old.getD i false = true then T else Z
theorem seqAll_at {P : Program} {ops : Array Oper} {T Z : Array Value} {G : (Nat → Bool) → World → Prop} : ∀ (os : List Oper) (old : List Bool) (k : Nat), SeqAll P ops T Z G k old os → ∀ i o, os[i]? = some o → SeqOp P ops (oldA old T Z i) Z G (k + i) o := by
  intro os
  induction os with
  | nil => intro old k _ i o h; simp at h
  | cons x os ih =>
    intro old k h i o ho
    match old, h with
    | [], h =>
      cases i with
      | zero => simp at ho; subst ho; exact h.1
      | succ i => rw [show k + (i + 1) = k + 1 + i by omega]; exact ih [] (k + 1) h.2 i o (by simpa using ho)
    | true :: bs, h =>
      cases i with
      | zero => simp at ho; subst ho; exact h.1
      | succ i => rw [show k + (i + 1) = k + 1 + i by omega]; exact ih bs (k + 1) h.2 i o (by simpa using ho)
    | false :: bs, h =>
      cases i with
      | zero => simp at ho; subst ho; exact h.1
      | succ i => rw [show k + (i + 1) = k + 1 + i by omega]; exact ih bs (k + 1) h.2 i o (by simpa using ho)
def chkO (ops : Array Oper) (old : List Bool) : Bool := (List.range ops.size).all fun i => match ops[i]? with
  | none => true
  | some o => (o.looksAt ops).all fun t => if old.getD i false then srcA ops i t else srcZ ops i t
theorem wp_region_seq {P : Program} {os : List Oper} {Q : Exit → Act → World → Prop} {id : Nat} {a : Act} {w : World} (hm : P.follows .mixedOrders = true) (old : List Bool) (G : (Nat → Bool) → World → Prop) (ws : List (Nat × Value)) (Z : Array Value)
    (hZ : ws.foldl (fun F p => F.setIfInBounds p.1 p.2) a.tmps = Z) (hok : okD os.toArray = true) (hchk : chkO os.toArray old = true) (hws : ws.map (·.1) = os.filterMap (·.dst)) (hin : (ws.all fun p => decide (p.1 < a.tmps.size)) = true)
    (h0 : G (fun _ => false) w.drew) (hops : SeqAll P os.toArray a.tmps Z G 0 old os) (he : ∀ l w, (∀ i, i < os.length → l i = true) → G l w → Q .normal ⟨Z, a.defers⟩ w) : (Code.region id os.toArray true).wp P Q a w := by
  have hsz : Z.size = a.tmps.size := by rw [← hZ, foldl_size]
  have hind : ∀ o ∈ os, ∀ d, o.dst = some d → d < Z.size := fun o ho d hd => by
    have h1 : d ∈ ws.map (·.1) := by rw [hws]; exact List.mem_filterMap.2 ⟨o, ho, hd⟩
    obtain ⟨p, hp, rfl⟩ := List.mem_map.1 h1
    rw [List.all_eq_true] at hin
    have := hin p hp
    rw [hsz]
    simpa using this
  have hb : ∀ k, (∀ o ∈ os, o.dst ≠ some k) → Z.getD k undef = a.tmps.getD k undef := fun k hk => by
    rw [← hZ, Array.getD_eq_getD_getElem?, Array.getD_eq_getD_getElem?, foldl_other ws _ k (fun p hp e => ?_)]
    have h1 : p.1 ∈ os.filterMap (·.dst) := by rw [← hws]; exact List.mem_map.2 ⟨p, hp, rfl⟩
    obtain ⟨o, ho, hod⟩ := List.mem_filterMap.1 h1
    exact hk o ho (by rw [hod, e])
  have hofs : ∀ {i : Nat} {o : Oper}, os.toArray[i]? = some o → os[i]? = some o := fun h => by simpa using h
  refine wp_region_inv hm (fun listed A W => FixI os.toArray a Z (fun _ => True) listed A W ∧ G (lst listed) W) ⟨⟨hsz.symm, rfl, fun i o _ h => ?_, fun i o d _ _ h => ?_, fun _ _ => rfl, trivial⟩, ?_⟩ (fun listed A W i hi hI => ?_) (fun listed A W hls hr hI => ?_)
  · exfalso; simp [Array.getElem?_replicate] at h; split at h <;> simp at h
  · exfalso; simp [Array.getElem?_replicate] at h; split at h <;> simp at h
  · have : lst (Array.replicate os.toArray.size false) = fun _ => false := by
      funext j
      unfold lst
      rw [Array.getD_eq_getD_getElem?, Array.getElem?_replicate]
      split <;> rfl
    rw [this]
    exact h0
  · obtain ⟨hI, hG⟩ := hI
    obtain ⟨o, ho, hl, hd⟩ := ready_spec hi
    have hsp := okD_spec hok ho
    have hop := seqAll_at os old 0 hops i o (hofs ho)
    rw [Nat.zero_add] at hop
    have hlf : lst listed i = false := getD_both hl
    obtain ⟨F, hF⟩ : ∃ F, F = oldA old a.tmps Z i := ⟨_, rfl⟩
    rw [← hF] at hop
    have hFs : F.size = Z.size := by rw [hF]; unfold oldA; split; exact hsz.symm; rfl
    have hval : ∀ t, t ∈ o.looksAt os.toArray → A.tmps.getD t undef = F.getD t undef := by
      intro t ht
      have h1 : (if old.getD i false then srcA os.toArray i t else srcZ os.toArray i t) = true := by
        unfold chkO at hchk
        rw [List.all_eq_true] at hchk
        have hil := (Array.getElem?_eq_some_iff.1 ho).1
        have h1 := hchk i (by simpa using hil)
        rw [ho] at h1
        dsimp only at h1
        rw [List.all_eq_true] at h1
        exact h1 t ht
      unfold oldA at hF
      cases hod : old.getD i false with
      | true =>
        rw [hod, if_pos rfl] at h1 hF
        rw [hF]
        refine hI.off t (fun j p hp hpt => ?_)
        have hjl := (Array.getElem?_eq_some_iff.1 hp).1
        unfold srcA at h1
        rw [List.all_eq_true] at h1
        have h3 := h1 j (by simpa using hjl)
        simp only [wrD, hp, Option.bind_some, hpt, beq_self_eq_true, Bool.not_true, Bool.false_or] at h3
        cases hlj : listed.getD j false with
        | false => rfl
        | true =>
          have := ancD_spec hI.cl 8 j i h3 hlj
          rw [getD_both hl] at this
          cases this
      | false =>
        rw [hod, if_neg (by decide)] at h1 hF
        rw [hF]
        by_cases hw : ∃ (j : Nat) (p : Oper), os.toArray[j]? = some p ∧ p.dst = some t
        · obtain ⟨j, p, hp, hpt⟩ := hw
          have hjl := (Array.getElem?_eq_some_iff.1 hp).1
          unfold srcZ at h1
          rw [List.all_eq_true] at h1
          have h3 := h1 j (by simpa using hjl)
          simp only [wrD, hp, Option.bind_some, hpt, beq_self_eq_true, Bool.not_true, Bool.false_or] at h3
          obtain ⟨e, he', hb', rfl⟩ := dirD_spec ho h3
          exact hI.on e.on p t hp hpt (hd e he' hb')
        · have h3 := hI.off t (fun j p hp hpt => absurd ⟨j, p, hp, hpt⟩ hw)
          rw [h3, hb t (fun p hp hpt => by
            obtain ⟨j, hj⟩ := List.getElem?_of_mem hp
            exact hw ⟨j, p, by simpa using hj, hpt⟩)]
    have hpl : ∀ cs b, o.op ≠ .select cs b := fun cs b e => by have := hsp.1; unfold plainD at this; rw [e] at this; cases this
    have hex : execOp A.eval o = execOp (Act.eval ⟨F, []⟩) o := execOp_congr o hpl (fun x hx => by
      cases x with
      | tmp t =>
        have ht : t ∈ o.looksAt os.toArray := List.mem_append_left _ (List.mem_filterMap.2 ⟨.tmp t, by simpa using hx, rfl⟩)
        simpa [Act.eval] using hval t ht
      | _ => rfl)
    have hwa : Region.wanted o (yielded os.toArray A.tmps) = Region.wanted o (yielded os.toArray F) := by
      unfold Region.wanted
      cases hg : o.guard with
      | none => rfl
      | some gw =>
        obtain ⟨g, want⟩ := gw
        have hy : yielded os.toArray A.tmps g = yielded os.toArray F g := by
          unfold yielded
          cases ht : (os.toArray[g]?).bind (·.dst) with
          | none => rfl
          | some t =>
            have hlk : t ∈ o.looksAt os.toArray := by simp only [Oper.looksAt, hg, ht]; simp
            have := getElem?_of_getD (hI.sz.trans hFs.symm) (hval t hlk)
            simp only [Option.bind_some, this]
        simp only [hy]
    have hnext : ∀ v w', ((∀ d, o.dst = some d → v = Z.getD d undef) ∧ G (updL (lst listed) i) w') → FixI os.toArray a Z (fun _ => True) (listed.setIfInBounds i true) (A.put o.dst v) w' ∧ G (lst (listed.setIfInBounds i true)) w' := by
      rintro v w' ⟨h2, h3⟩
      refine ⟨(hI.par (Z' := Z) (w' := w') rfl (fun _ _ _ _ _ _ => rfl)).put hok ho hl hd v h2 (fun d hd' => hind o (List.mem_of_getElem? (hofs ho)) d hd') trivial, ?_⟩
      rw [lst_set hl]
      exact h3
    have hcl : ∀ k j, ancD os.toArray 12 k j = true → lst listed k = true → lst listed j = true := fun k j h1 h2 => ancD_spec hI.cl 12 k j h1 h2
    have hdep : ∀ j, dirD os.toArray i j = true → lst listed j = true := fun j hj => by
      obtain ⟨e, he', hb', rfl⟩ := dirD_spec ho hj
      exact hd e he' hb'
    unfold wpOp
    rw [ho]
    dsimp only
    rw [hwa]
    rcases hop (lst listed) W hlf hdep hcl hG with ⟨hw, hgv⟩ | ⟨hw, hnx⟩
    · rw [if_pos hw]
      refine .inl ?_
      unfold Oper.wp
      rw [hex]
      unfold GivesP at hgv
      generalize (execOp (Act.eval ⟨F, []⟩) o).run P W = r at *
      cases r with
      | ok n w' =>
        cases n with
        | value u => exact hnext _ _ hgv
        | skip => exact hnext _ _ hgv
        | enter f args =>
          refine Calls.mono hgv (fun e w'' hp => ?_)
          obtain ⟨v, rfl, hR⟩ := hp
          exact hnext _ _ hR
        | _ => exact hgv.elim
      | halt x w' => exact hgv.elim
    · rw [if_neg (by rw [hw]; decide)]
      exact hnext _ _ hnx
  · obtain ⟨hI, hG⟩ := hI
    have hall : ∀ i o, os.toArray[i]? = some o → listed.getD i false = true := by
      intro i
      induction i using Nat.strongRecOn with
      | _ i ih =>
        intro o ho
        refine all_listed hls hr i o ho (fun e he' hb' => ?_)
        have hlt := (okD_spec hok ho).2.1 e he' hb'
        have hil := (Array.getElem?_eq_some_iff.1 ho).1
        obtain ⟨p, hp⟩ : ∃ p, os.toArray[e.on]? = some p := ⟨_, Array.getElem?_eq_getElem (by omega)⟩
        exact ih e.on hlt p hp
    have hA : A = ⟨Z, a.defers⟩ := by
      obtain ⟨t, d⟩ := A
      have h1 := hI.sz
      have h2 := hI.df
      dsimp only at h1 h2
      subst h2
      congr 1
      apply Array.ext_getElem?
      intro k
      refine getElem?_of_getD h1 ?_
      by_cases hw : ∃ (j : Nat) (p : Oper), os.toArray[j]? = some p ∧ p.dst = some k
      · obtain ⟨j, p, hp, hpk⟩ := hw
        exact hI.on j p k hp hpk (hall j p hp)
      · have h3 := hI.off k (fun j p hp hpk => absurd ⟨j, p, hp, hpk⟩ hw)
        rw [h3, hb k (fun p hp hpt => by
          obtain ⟨j, hj⟩ := List.getElem?_of_mem hp
          exact hw ⟨j, p, by simpa using hj, hpt⟩)]
    rw [hA]
    exact he (lst listed) W (fun i hi => by
      obtain ⟨o, ho⟩ : ∃ o, os.toArray[i]? = some o := ⟨_, Array.getElem?_eq_getElem (by simpa using hi)⟩
      exact hall i o ho) hG
section
variable {P : Program} {ops : Array Oper} {F Z : Array Value} {G : (Nat → Bool) → World → Prop} {i : Nat} {o : Oper}
theorem seq_val (hw : Region.wanted o (yielded ops F) = true) (hG : ∀ l w, G l w → G (updL l i) w)
    (h : ∀ l w, l i = false → (∀ k j, ancD ops 12 k j = true → l k = true → l j = true) → G l w → (execOp (Act.eval ⟨F, []⟩) o).run P w = .ok (.value ((o.dst.map (fun d => Z.getD d undef)).getD undef)) w) : SeqOp P ops F Z G i o := by
  intro l w hl hd hc hg
  refine .inl ⟨hw, ?_⟩
  unfold GivesP
  rw [h l w hl hc hg]
  exact ⟨fun d hd' => by rw [hd']; rfl, hG l w hg⟩
theorem seq_skip (hw : Region.wanted o (yielded ops F) = true) (hdst : o.dst = none)
    (h : ∀ l w, l i = false → (∀ j, dirD ops i j = true → l j = true) → (∀ k j, ancD ops 12 k j = true → l k = true → l j = true) → G l w → ∃ w', (execOp (Act.eval ⟨F, []⟩) o).run P w = .ok .skip w' ∧ G (updL l i) w') : SeqOp P ops F Z G i o := by
  intro l w hl hd hc hg
  obtain ⟨w', h1, h2⟩ := h l w hl hd hc hg
  refine .inl ⟨hw, ?_⟩
  unfold GivesP
  rw [h1]
  exact ⟨fun d hd' => (by rw [hdst] at hd'; cases hd'), h2⟩
end
end Go.Proofs.YtfjpckaphfdfnaaGreatDoor
