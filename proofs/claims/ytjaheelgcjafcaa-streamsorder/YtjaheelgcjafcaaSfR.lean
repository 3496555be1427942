/- streams: the run of a message. -/
import Derived.Test.YtjaheelgcjafcaaSfK
import Derived.Test.YtjaheelgcjafcaaOwnG
import Derived.WalkMore
namespace Go.Proofs.Ytjaheelgcjafcaa
open Go.RowKit
theorem app_eq_list {P : Program} {S : TypeId} {ops : Array Oper} {rest : List Oper} {o : Oper} {A : Act} {w w' : World} {Q : Exit → Act → World → Prop} {v u r : Value} {ty : TypeId} (hgd : Region.wanted o (yielded ops A.tmps) = true) (s x : Operand)
    (ho : o.op = .call { callee := .builtin .append, args := #[s, x], argTypes := #[S, S] }) (hty : o.type = ty) (hs : A.eval s = v) (hx : A.eval x = u)
    (hrun : (Builtin.append_ #[S, S] ty #[v, u]).run P w = .ok r w') (hK : wpList P ops Q rest (A.put o.dst r) w') : wpList P ops Q (o :: rest) A w :=
  wpList_step fun K hK' => by
    rw [if_pos hgd]
    subst hty
    have := hK' _ _ hK
    unfold Oper.wp
    simp [execOp, ho, resolve, invoke, builtin, hs, hx, hrun, Result.andThen]
    exact this
/-- A row of one, as it is written out. -/
theorem OwnG.one {α : Type} {T : TypeId} {k : Nat} {cf : α → List Value} (hk : ∀ x, (cf x).length = k) (w : World) (x : α) (W : World) (hW : W = w.alloc (.cells (cf x).toArray T)) : OwnG T k cf W w.heap.size (some ⟨w.heap.size, 0, none⟩) 1 1 [x] := by
  subst hW
  refine ⟨rfl, ⟨by simp [valsG, hk], .inr ⟨w.heap.size, 1, (cf x).toArray, rfl, Nat.le_refl _, ?_, Nat.le_refl _, by unfold maxLen; omega, by simp [hk], by simp [valsG, List.take_of_length_le (Nat.le_of_eq (hk x))]⟩⟩⟩
  show (w.heap.push _)[w.heap.size]? = _
  simp
def tsC (q : Nat) : List Value := [.int .u32 (q : Nat)]
abbrev OwnT := OwnG 30 1 tsC
theorem layT : Lays Try.prog 44 30 1 4 tsC :=
  ⟨Try.underlying44, ⟨.int .u32 0, by kernel_rfl, rfl⟩, by decide, fun _ => rfl, fun x u hu => by simp [tsC] at hu; subst hu; rfl⟩
def lenOf : Value → Nat
  | .slice _ n _ => n
  | _ => 0
def bkM (t : Nat) (v : Value) : Nat := 200 - (t + 4294967296 - (intOf v).toNat) % 4294967296
theorem bkM_eq (t q : Nat) : bkM t (.int .u32 (q : Nat)) = 200 - (t + 4294967296 - q) % 4294967296 := by unfold bkM; simp [intOf]
theorem bkM_lt {t q k : Nat} (h : q < 4294967296) (hk : k + 1 ≤ 128) (e : (q + k) % 4294967296 = t) : bkM t (.int .u32 (bk1 q : Nat)) < bkM t (.int .u32 (q : Nat)) ∧ (bk1 q + (k + 1)) % 4294967296 = t := by
  rw [bkM_eq, bkM_eq]
  have hbd : bk1 q = (q + 4294967295) % 4294967296 := by unfold bk1; omega
  generalize bk1 q = r at *
  have h1 : (t + 4294967296 - r) % 4294967296 = k + 1 := by omega
  have h2 : (t + 4294967296 - q) % 4294967296 = k := by omega
  rw [h1, h2]
  exact ⟨by omega, by omega⟩
structure RunP (w : World) (D : List (Nat × Pc)) (t : Nat) (e : Ending) (w' : World) : Prop where
  ex : ∃ a c, e = .returned (.slice a (runF D t).length c) ∧ OwnT w' w.heap.size a (runF D t).length c (runF D t)
  bel : Below w.heap.size w w'
theorem RunP.none_ {w w' : World} {D : List (Nat × Pc)} {t : Nat} (h : runF D t = []) (hb : Below w.heap.size w w') : RunP w D t (.returned (.slice none 0 0)) w' :=
  ⟨⟨none, 0, by rw [h]; rfl, by rw [h]; exact OwnG.nil _ _⟩, hb⟩
set_option linter.unusedVariables false in
set_option maxRecDepth 100000 in
set_option maxHeartbeats 4000000 in
theorem run_any {w : World} {p nb mb wb : Nat} {wr0 : Nat → Option Addr × Nat} {Y : Nat → Prop} {s : SmS} (h : SmW w p nb mb wb wr0 Y s) (t : Nat) (ht : t < 4294967296) (hin : (lookD s.D t).isSome = true) :
    Calls Try.prog 26 #[.pointer (some ⟨p, 0, none⟩), .int .u32 (t : Nat)] w (RunP w s.D t) := by
  have hsd := h.sd
  have hdl := h.lenDle
  have HLK : Hid (∀ V, Below w.heap.size w V → ∀ q, q < 4294967296 → (Instr.lookup 73 (.map (some mb)) (.int .u32 (q : Nat)) false).run Try.prog V = .ok (pcAt s.D q).val V) := fun V hV q hq => by
    have := h.look hV q hq false
    simp only [Bool.false_eq_true, if_false] at this
    exact this
  have HC1 : Hid (∀ V, Below w.heap.size w V → V.cell? ⟨p, 1, none⟩ = some (.map (some mb))) := fun V hV => (h.st.below hV).cell 1 _ rfl
  have HJN : Hid (∀ V, Below w.heap.size w V → ∀ q, q < 4294967296 → Calls Try.prog 40 #[.pointer (some ⟨p, 0, none⟩), .int .u32 (q : Nat)] V fun e w' => e = .returned (.bool (joinsB s.D q)) ∧ Below V.heap.size V w') := fun V hV q hq => joins_any (h.below hV) q hq
  have HBG : Hid (∀ V q v, v = (pcAt s.D q).val → Calls Try.prog 39 #[v] V fun e w' => e = .returned (.bool (pcAt s.D q).beg) ∧ Below V.heap.size V w') := fun V q v hv => begins_any (pcAt s.D q).fl _ _ _ _ V (h.pcOk q).fl v hv
  have HEN : Hid (∀ V q v, v = (pcAt s.D q).val → Calls Try.prog 42 #[v] V fun e w' => e = .returned (.bool (pcAt s.D q).fin) ∧ Below V.heap.size V w') := fun V q v hv => ends_any (pcAt s.D q).fl _ _ _ _ V (h.pcOk q).fl v hv
  have HBK : Hid (∀ V q, q < 4294967296 → Calls Try.prog 41 #[.int .u32 (q : Nat), .int .i64 (-1)] V fun e w' => e = .returned (.int .u32 (bk1 q : Nat)) ∧ Below V.heap.size V w') := fun V q hq => by
    rw [← addV_bk]
    exact onward_any q (-1) V hq _ _ rfl rfl
  have HON : Hid (∀ V q, q < 4294967296 → Calls Try.prog 41 #[.int .u32 (q : Nat), .int .i64 1] V fun e w' => e = .returned (.int .u32 (on1 q : Nat)) ∧ Below V.heap.size V w') := fun V q hq => by
    rw [← addV_on]
    exact onward_any q 1 V hq _ _ rfl rfl
  have hpl := h.st.lt
  clear h
  generalize s.D = D at *
  go_enter Try.func26, Try.ntmps26
  go_wp2
  go_step3
  go_wp2
  go_step3
  go_wp2
  go_loopw [5] (fun u5 wr => ∃ q k : Nat, u5 = .int .u32 (q : Nat) ∧ BkS D t q k ∧ (q + k) % 4294967296 = t ∧ Below w.heap.size w wr) (fun u5 _ => bkM t u5)
  case atStart => exact ⟨t, 0, rfl, BkS.start ht hin, by omega, Below.refl _ _⟩
  case round =>
    obtain ⟨q, k, rfl, hbk, hqk, hb⟩ := hrel
    have hq := hbk.lt
    have hk := hbk.len hsd
    obtain ⟨v, hv⟩ : ∃ v, v = (pcAt D q).val := ⟨_, rfl⟩
    have hr := HLK.out wr hb q hq
    rw [← hv] at hr
    have hc1 := HC1.out wr hb
    have HV := (show Hid _ from hv)
    have HS := (show Hid _ from And.intro hbk (And.intro hqk hb))
    clear hv hbk hb hqk
    go_wp2_with fail
    refine (HBG.out _ q v HV.out).mono ?_
    rintro e V1 ⟨rfl, hb1⟩
    have HB1 : Hid (Below w.heap.size w V1) := HS.out.2.2.trans (hb1.mono HS.out.2.2.size)
    clear hb1 hr hc1
    cases hbeg : (pcAt D q).beg with
    | true =>
      have HDone := (show Hid _ from HS.out.1.done hsd hbeg)
      have HIN : Hid ((lookD D q).isSome = true) := by
        have := HS.out.1.th 0 (by omega)
        rw [Nat.add_zero, Nat.mod_eq_of_lt hq] at this
        exact this
      clear hbeg HV HS hk
      have hOne := OwnG.one (T := 30) (cf := tsC) (fun _ => rfl) V1 q (V1.alloc (.cells #[.int .u32 (q : Nat)] 30)) rfl
      have HOne := (show Hid _ from hOne)
      clear hOne
      go_wp2
      go_step3
      go_wp2
      go_loopw [6, 7] (fun u6 u7 wr => ∃ (q1 k : Nat) (L : List Nat) (a : Option Addr) (c : Nat), u6 = .int .u32 (q1 : Nat) ∧ u7 = .slice a (k + 1) c ∧ OnS D q q1 k L ∧ OwnT wr w.heap.size a (k + 1) c L ∧ Below w.heap.size w wr) (fun _ u7 _ => 200 - lenOf u7)
      case atStart => exact ⟨q, 0, [q], _, 1, rfl, rfl, OnS.start hq HIN.out, HOne.out.base HB1.out.size, HB1.out.trans (((Below.refl _ _).alloc (Nat.le_refl _) _).mono HB1.out.size)⟩
      case round =>
        obtain ⟨q1, k, L, a, c, rfl, rfl, hon, hrow, hb⟩ := hrel
        have hq1 := hon.lt
        have hk := hon.few hsd
        obtain ⟨v, hv⟩ : ∃ v, v = (pcAt D q1).val := ⟨_, rfl⟩
        have hr := HLK.out wr hb q1 hq1
        rw [← hv] at hr
        have hc1 := HC1.out wr hb
        have HV := (show Hid _ from hv)
        have HS := (show Hid _ from And.intro hon (And.intro hrow hb))
        clear hv hon hb hrow
        go_wp2_with fail
        refine (HEN.out _ q1 v HV.out).mono ?_
        rintro e V1 ⟨rfl, hb1⟩
        have HB2 : Hid (Below w.heap.size w V1 ∧ OwnT V1 w.heap.size a (k + 1) c L) := ⟨HS.out.2.2.trans (hb1.mono HS.out.2.2.size), HS.out.2.1.below hb1⟩
        clear hb1 hr hc1
        cases hfin : (pcAt D q1).fin with
        | true =>
          have HD2 := (show Hid _ from HS.out.1.done hsd hfin)
          have HL := (show Hid _ from HS.out.1.len)
          clear hfin HV HS
          go_wp2
          rw [Exit.noGoto_ret]
          go_ret
          have e : runF D t = L := by
            unfold runF
            rw [HDone.out]
            dsimp only
            rw [HD2.out]
            rfl
          exact ⟨⟨a, c, by rw [e, HL.out]; rfl, by rw [e, HL.out]; exact HB2.out.2⟩, HB2.out.1⟩
        | false =>
          have HNF := (show Hid _ from hfin)
          clear hfin
          go_wp2_with fail
          refine (HJN.out _ HB2.out.1 q1 hq1).mono ?_
          rintro e V2 ⟨rfl, hb2⟩
          have HB3 : Hid (Below w.heap.size w V2 ∧ OwnT V2 w.heap.size a (k + 1) c L) := ⟨HB2.out.1.trans (hb2.mono HB2.out.1.size), HB2.out.2.below hb2⟩
          clear hb2 HB2
          cases hj : joinsB D q1 with
          | false =>
            have HD2 := (show Hid _ from HS.out.1.stop hsd HNF.out hj)
            clear hj HV HS HNF
            go_wp2
            rw [Exit.noGoto_ret]
            go_ret
            have e : runF D t = [] := by
              unfold runF
              rw [HDone.out]
              dsimp only
              rw [HD2.out]
              rfl
            exact RunP.none_ e HB3.out.1
          | true =>
            have HN := (show Hid _ from HS.out.1.step hsd (by omega) HNF.out hj)
            clear hj HV HS HNF
            go_wp2_with fail
            refine (HON.out _ q1 hq1).mono ?_
            rintro e V3 ⟨rfl, hb3⟩
            obtain ⟨b3, o3⟩ : Below w.heap.size w V3 ∧ OwnT V3 w.heap.size a (k + 1) c L := ⟨HB3.out.1.trans (hb3.mono HB3.out.1.size), HB3.out.2.below hb3⟩
            generalize on1 q1 = q2 at *
            obtain ⟨W, hW⟩ : ∃ W, W = V3.alloc (.cells #[.int .u32 (q2 : Nat)] 30) := ⟨_, rfl⟩
            have b0 : Below V3.heap.size V3 W := by rw [hW]; exact (Below.refl _ _).alloc (Nat.le_refl _) _
            have st2 := Stc.new V3 [.int .u32 (q2 : Nat)] 30 W hW
            obtain ⟨g7, c7, w7, hr7, ho7, hgr7, _, _⟩ := OwnG.app layT (OwnG.below o3 b0) 44 q2 ⟨V3.heap.size, 0, none⟩ (fun j u hj => by
              have := st2.cell j u hj
              unfold Addr.add
              split
              · rename_i e; subst e; exact this
              · simpa using this) (by unfold maxLen; omega) (by omega) (Nat.le_trans b3.size b0.size)
            have hb7 : Below w.heap.size w w7 := (b3.trans (b0.mono b3.size)).trans ((OwnG.below o3 b0).up hgr7 (Nat.le_trans b3.size b0.size))
            rw [hW] at hr7
            have HZ := (show Hid _ from And.intro ho7 hb7)
            clear ho7 hb7 hgr7 st2 b0 hW b3 o3 hb3 HB3
            go_wp2_with (at_builtin; refine app_eq_list rfl _ _ rfl rfl rfl rfl hr7 ?_)
            go_roundw
            case rel => exact ⟨q2, k + 1, L ++ [q2], _, c7, rfl, rfl, HN.out, HZ.out.1, HZ.out.2⟩
            case measure => simp [lenOf]; omega
    | false =>
      have HNF := (show Hid _ from hbeg)
      clear hbeg
      go_wp2_with fail
      refine (HBK.out _ q hq).mono ?_
      rintro e V2 ⟨rfl, hb2⟩
      have HB2 : Hid (Below w.heap.size w V2) := HB1.out.trans (hb2.mono HB1.out.size)
      clear hb2 HB1
      go_wp2_with fail
      refine (HJN.out _ HB2.out (bk1 q) (bk1_lt q)).mono ?_
      rintro e V3 ⟨rfl, hb3⟩
      have HB3 : Hid (Below w.heap.size w V3) := HB2.out.trans (hb3.mono HB2.out.size)
      clear hb3 HB2
      cases hj : joinsB D (bk1 q) with
      | false =>
        have HD2 := (show Hid _ from HS.out.1.stop hsd HNF.out hj)
        clear hj HV HS HNF
        go_wp2
        rw [Exit.noGoto_ret]
        go_ret
        have e : runF D t = [] := by
          unfold runF
          rw [HD2.out]
        exact RunP.none_ e HB3.out
      | true =>
        have HN := (show Hid _ from HS.out.1.step hsd (by omega) HNF.out hj)
        have hqk := HS.out.2.1
        have HQ := (show Hid _ from bkM_lt hq (by omega : k + 1 ≤ 128) hqk)
        clear hj HV HS HNF hqk
        go_wp2_with fail
        refine (HBK.out _ q hq).mono ?_
        rintro e V4 ⟨rfl, hb4⟩
        have HB4 : Hid (Below w.heap.size w V4) := HB3.out.trans (hb4.mono HB3.out.size)
        clear hb4 HB3
        go_wp2
        go_roundw
        case rel => exact ⟨bk1 q, k + 1, rfl, HN.out, HQ.out.2, HB4.out⟩
        case measure => exact HQ.out.1
end Go.Proofs.Ytjaheelgcjafcaa
