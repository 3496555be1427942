/- streams: a row of messages that are told, as it lies; what release takes out of the maps. -/
import Derived.Test.YtjaheelgcjafcaaKD
import Derived.Test.YtjaheelgcjafcaaOwnG
import Derived.WalkMore
import Derived.Test.YtjaheelgcjafcaaKC
namespace Go.Proofs.Ytjaheelgcjafcaa
open Go.RowKit
theorem app_eq_list {P : Program} {S : TypeId} {ops : Array Oper} {rest : List Oper} {o : Oper} {A : Act} {w w' : World} {Q : Exit → Act → World → Prop} {v u r : Value} {ty : TypeId} (hgd : Region.wanted o (yielded ops A.tmps) = true) (s x : Operand)
    (ho : o.op = .call { callee := .builtin .append, args := #[s, x], argTypes := #[S, S] }) (hty : o.type = ty) (hs : A.eval s = v) (hx : A.eval x = u)
    (hrun : (Builtin.append_ #[S, S] ty #[v, u]).run P w = .ok r w') (hK : wpList P ops Q rest (A.put o.dst r) w') : wpList P ops Q (o :: rest) A w :=
  wpList_step fun K hK' => by
    rw [if_pos hgd]
    subst hty
    have := hK' _ _ hK
    unfold Oper.wp
    simp [execOp, ho, resolve, invoke, builtin, hs, hx, hrun, Result.andThen]
    exact this
/-- A row of one, as it is written out. -/
theorem OwnG.one {α : Type} {T : TypeId} {k : Nat} {cf : α → List Value} (hk : ∀ x, (cf x).length = k) (w : World) (x : α) (W : World) (hW : W = w.alloc (.cells (cf x).toArray T)) : OwnG T k cf W w.heap.size (some ⟨w.heap.size, 0, none⟩) 1 1 [x] := by
  subst hW
  refine ⟨rfl, ⟨by simp [valsG, hk], .inr ⟨w.heap.size, 1, (cf x).toArray, rfl, Nat.le_refl _, ?_, Nat.le_refl _, by unfold maxLen; omega, by simp [hk], by simp [valsG, List.take_of_length_le (Nat.le_of_eq (hk x))]⟩⟩⟩
  show (w.heap.push _)[w.heap.size]? = _
  simp
def tsC (q : Nat) : List Value := [.int .u32 (q : Nat)]
abbrev OwnT := OwnG 30 1 tsC
theorem layT : Lays Try.prog 44 30 1 4 tsC :=
  ⟨Try.underlying44, ⟨.int .u32 0, by kernel_rfl, rfl⟩, by decide, fun _ => rfl, fun x u hu => by simp [tsC] at hu; subst hu; rfl⟩
def lenOf : Value → Nat
  | .slice _ n _ => n
  | _ => 0
def bkM (t : Nat) (v : Value) : Nat := 200 - (t + 4294967296 - (intOf v).toNat) % 4294967296
theorem bkM_eq (t q : Nat) : bkM t (.int .u32 (q : Nat)) = 200 - (t + 4294967296 - q) % 4294967296 := by unfold bkM; simp [intOf]
theorem bkM_lt {t q k : Nat} (h : q < 4294967296) (hk : k + 1 ≤ 128) (e : (q + k) % 4294967296 = t) : bkM t (.int .u32 (bk1 q : Nat)) < bkM t (.int .u32 (q : Nat)) ∧ (bk1 q + (k + 1)) % 4294967296 = t := by
  rw [bkM_eq, bkM_eq]
  have hbd : bk1 q = (q + 4294967295) % 4294967296 := by unfold bk1; omega
  generalize bk1 q = r at *
  have h1 : (t + 4294967296 - r) % 4294967296 = k + 1 := by omega
  have h2 : (t + 4294967296 - q) % 4294967296 = k := by omega
  rw [h1, h2]
  exact ⟨by omega, by omega⟩
structure RunP (w : World) (D : List (Nat × Pc)) (t : Nat) (e : Ending) (w' : World) : Prop where
  ex : ∃ a c, e = .returned (.slice a (runF D t).length c) ∧ OwnT w' w.heap.size a (runF D t).length c (runF D t)
  bel : Below w.heap.size w w'
theorem RunP.none_ {w w' : World} {D : List (Nat × Pc)} {t : Nat} (h : runF D t = []) (hb : Below w.heap.size w w') : RunP w D t (.returned (.slice none 0 0)) w' :=
  ⟨⟨none, 0, by rw [h]; rfl, by rw [h]; exact OwnG.nil _ _⟩, hb⟩
set_option linter.unusedVariables false in
set_option maxRecDepth 100000 in
set_option maxHeartbeats 4000000 in
theorem run_any {w : World} {p nb mb wb : Nat} {wr0 : Nat → Option Addr × Nat} {Y : Nat → Prop} {s : SmS} (h : SmW w p nb mb wb wr0 Y s) (t : Nat) (ht : t < 4294967296) (hin : (lookD s.D t).isSome = true) :
    Calls Try.prog 26 #[.pointer (some ⟨p, 0, none⟩), .int .u32 (t : Nat)] w (RunP w s.D t) := by
  have hsd := h.sd
  have hdl := h.lenDle
  have HLK : Hid (∀ V, Below w.heap.size w V → ∀ q, q < 4294967296 → (Instr.lookup 73 (.map (some mb)) (.int .u32 (q : Nat)) false).run Try.prog V = .ok (pcAt s.D q).val V) := fun V hV q hq => by
    have := h.look hV q hq false
    simp only [Bool.false_eq_true, if_false] at this
    exact this
  have HC1 : Hid (∀ V, Below w.heap.size w V → V.cell? ⟨p, 1, none⟩ = some (.map (some mb))) := fun V hV => (h.st.below hV).cell 1 _ rfl
  have HJN : Hid (∀ V, Below w.heap.size w V → ∀ q, q < 4294967296 → Calls Try.prog 40 #[.pointer (some ⟨p, 0, none⟩), .int .u32 (q : Nat)] V fun e w' => e = .returned (.bool (joinsB s.D q)) ∧ Below V.heap.size V w') := fun V hV q hq => joins_any (h.below hV) q hq
  have HBG : Hid (∀ V q v, v = (pcAt s.D q).val → Calls Try.prog 39 #[v] V fun e w' => e = .returned (.bool (pcAt s.D q).beg) ∧ Below V.heap.size V w') := fun V q v hv => begins_any (pcAt s.D q).fl _ _ _ _ V (h.pcOk q).fl v hv
  have HEN : Hid (∀ V q v, v = (pcAt s.D q).val → Calls Try.prog 42 #[v] V fun e w' => e = .returned (.bool (pcAt s.D q).fin) ∧ Below V.heap.size V w') := fun V q v hv => ends_any (pcAt s.D q).fl _ _ _ _ V (h.pcOk q).fl v hv
  have HBK : Hid (∀ V q, q < 4294967296 → Calls Try.prog 41 #[.int .u32 (q : Nat), .int .i64 (-1)] V fun e w' => e = .returned (.int .u32 (bk1 q : Nat)) ∧ Below V.heap.size V w') := fun V q hq => by
    rw [← addV_bk]
    exact onward_any q (-1) V hq _ _ rfl rfl
  have HON : Hid (∀ V q, q < 4294967296 → Calls Try.prog 41 #[.int .u32 (q : Nat), .int .i64 1] V fun e w' => e = .returned (.int .u32 (on1 q : Nat)) ∧ Below V.heap.size V w') := fun V q hq => by
    rw [← addV_on]
    exact onward_any q 1 V hq _ _ rfl rfl
  have hpl := h.st.lt
  clear h
  generalize s.D = D at *
  go_enter Try.func26, Try.ntmps26
  go_wp2
  go_step3
  go_wp2
  go_step3
  go_wp2
  go_loopw [5] (fun u5 wr => ∃ q k : Nat, u5 = .int .u32 (q : Nat) ∧ BkS D t q k ∧ (q + k) % 4294967296 = t ∧ Below w.heap.size w wr) (fun u5 _ => bkM t u5)
  case atStart => exact ⟨t, 0, rfl, BkS.start ht hin, by omega, Below.refl _ _⟩
  case round =>
    obtain ⟨q, k, rfl, hbk, hqk, hb⟩ := hrel
    have hq := hbk.lt
    have hk := hbk.len hsd
    obtain ⟨v, hv⟩ : ∃ v, v = (pcAt D q).val := ⟨_, rfl⟩
    have hr := HLK.out wr hb q hq
    rw [← hv] at hr
    have hc1 := HC1.out wr hb
    have HV := (show Hid _ from hv)
    have HS := (show Hid _ from And.intro hbk (And.intro hqk hb))
    clear hv hbk hb hqk
    go_wp2_with fail
    refine (HBG.out _ q v HV.out).mono ?_
    rintro e V1 ⟨rfl, hb1⟩
    have HB1 : Hid (Below w.heap.size w V1) := HS.out.2.2.trans (hb1.mono HS.out.2.2.size)
    clear hb1 hr hc1
    cases hbeg : (pcAt D q).beg with
    | true =>
      have HDone := (show Hid _ from HS.out.1.done hsd hbeg)
      have HIN : Hid ((lookD D q).isSome = true) := by
        have := HS.out.1.th 0 (by omega)
        rw [Nat.add_zero, Nat.mod_eq_of_lt hq] at this
        exact this
      clear hbeg HV HS hk
      have hOne := OwnG.one (T := 30) (cf := tsC) (fun _ => rfl) V1 q (V1.alloc (.cells #[.int .u32 (q : Nat)] 30)) rfl
      have HOne := (show Hid _ from hOne)
      clear hOne
      go_wp2
      go_step3
      go_wp2
      go_loopw [6, 7] (fun u6 u7 wr => ∃ (q1 k : Nat) (L : List Nat) (a : Option Addr) (c : Nat), u6 = .int .u32 (q1 : Nat) ∧ u7 = .slice a (k + 1) c ∧ OnS D q q1 k L ∧ OwnT wr w.heap.size a (k + 1) c L ∧ Below w.heap.size w wr) (fun _ u7 _ => 200 - lenOf u7)
      case atStart => exact ⟨q, 0, [q], _, 1, rfl, rfl, OnS.start hq HIN.out, HOne.out.base HB1.out.size, HB1.out.trans (((Below.refl _ _).alloc (Nat.le_refl _) _).mono HB1.out.size)⟩
      case round =>
        obtain ⟨q1, k, L, a, c, rfl, rfl, hon, hrow, hb⟩ := hrel
        have hq1 := hon.lt
        have hk := hon.few hsd
        obtain ⟨v, hv⟩ : ∃ v, v = (pcAt D q1).val := ⟨_, rfl⟩
        have hr := HLK.out wr hb q1 hq1
        rw [← hv] at hr
        have hc1 := HC1.out wr hb
        have HV := (show Hid _ from hv)
        have HS := (show Hid _ from And.intro hon (And.intro hrow hb))
        clear hv hon hb hrow
        go_wp2_with fail
        refine (HEN.out _ q1 v HV.out).mono ?_
        rintro e V1 ⟨rfl, hb1⟩
        have HB2 : Hid (Below w.heap.size w V1 ∧ OwnT V1 w.heap.size a (k + 1) c L) := ⟨HS.out.2.2.trans (hb1.mono HS.out.2.2.size), HS.out.2.1.below hb1⟩
        clear hb1 hr hc1
        cases hfin : (pcAt D q1).fin with
        | true =>
          have HD2 := (show Hid _ from HS.out.1.done hsd hfin)
          have HL := (show Hid _ from HS.out.1.len)
          clear hfin HV HS
          go_wp2
          rw [Exit.noGoto_ret]
          go_ret
          have e : runF D t = L := by
            unfold runF
            rw [HDone.out]
            dsimp only
            rw [HD2.out]
            rfl
          exact ⟨⟨a, c, by rw [e, HL.out]; rfl, by rw [e, HL.out]; exact HB2.out.2⟩, HB2.out.1⟩
        | false =>
          have HNF := (show Hid _ from hfin)
          clear hfin
          go_wp2_with fail
          refine (HJN.out _ HB2.out.1 q1 hq1).mono ?_
          rintro e V2 ⟨rfl, hb2⟩
          have HB3 : Hid (Below w.heap.size w V2 ∧ OwnT V2 w.heap.size a (k + 1) c L) := ⟨HB2.out.1.trans (hb2.mono HB2.out.1.size), HB2.out.2.below hb2⟩
          clear hb2 HB2
          cases hj : joinsB D q1 with
          | false =>
            have HD2 := (show Hid _ from HS.out.1.stop hsd HNF.out hj)
            clear hj HV HS HNF
            go_wp2
            rw [Exit.noGoto_ret]
            go_ret
            have e : runF D t = [] := by
              unfold runF
              rw [HDone.out]
              dsimp only
              rw [HD2.out]
              rfl
            exact RunP.none_ e HB3.out.1
          | true =>
            have HN := (show Hid _ from HS.out.1.step hsd (by omega) HNF.out hj)
            clear hj HV HS HNF
            go_wp2_with fail
            refine (HON.out _ q1 hq1).mono ?_
            rintro e V3 ⟨rfl, hb3⟩
            obtain ⟨b3, o3⟩ : Below w.heap.size w V3 ∧ OwnT V3 w.heap.size a (k + 1) c L := ⟨HB3.out.1.trans (hb3.mono HB3.out.1.size), HB3.out.2.below hb3⟩
            generalize on1 q1 = q2 at *
            obtain ⟨W, hW⟩ : ∃ W, W = V3.alloc (.cells #[.int .u32 (q2 : Nat)] 30) := ⟨_, rfl⟩
            have b0 : Below V3.heap.size V3 W := by rw [hW]; exact (Below.refl _ _).alloc (Nat.le_refl _) _
            have st2 := Stc.new V3 [.int .u32 (q2 : Nat)] 30 W hW
            obtain ⟨g7, c7, w7, hr7, ho7, hgr7, _, _⟩ := OwnG.app layT (OwnG.below o3 b0) 44 q2 ⟨V3.heap.size, 0, none⟩ (fun j u hj => by
              have := st2.cell j u hj
              unfold Addr.add
              split
              · rename_i e; subst e; exact this
              · simpa using this) (by unfold maxLen; omega) (by omega) (Nat.le_trans b3.size b0.size)
            have hb7 : Below w.heap.size w w7 := (b3.trans (b0.mono b3.size)).trans ((OwnG.below o3 b0).up hgr7 (Nat.le_trans b3.size b0.size))
            rw [hW] at hr7
            have HZ := (show Hid _ from And.intro ho7 hb7)
            clear ho7 hb7 hgr7 st2 b0 hW b3 o3 hb3 HB3
            go_wp2_with (at_builtin; refine app_eq_list rfl _ _ rfl rfl rfl rfl hr7 ?_)
            go_roundw
            case rel => exact ⟨q2, k + 1, L ++ [q2], _, c7, rfl, rfl, HN.out, HZ.out.1, HZ.out.2⟩
            case measure => simp [lenOf]; omega
    | false =>
      have HNF := (show Hid _ from hbeg)
      clear hbeg
      go_wp2_with fail
      refine (HBK.out _ q hq).mono ?_
      rintro e V2 ⟨rfl, hb2⟩
      have HB2 : Hid (Below w.heap.size w V2) := HB1.out.trans (hb2.mono HB1.out.size)
      clear hb2 HB1
      go_wp2_with fail
      refine (HJN.out _ HB2.out (bk1 q) (bk1_lt q)).mono ?_
      rintro e V3 ⟨rfl, hb3⟩
      have HB3 : Hid (Below w.heap.size w V3) := HB2.out.trans (hb3.mono HB2.out.size)
      clear hb3 HB2
      cases hj : joinsB D (bk1 q) with
      | false =>
        have HD2 := (show Hid _ from HS.out.1.stop hsd HNF.out hj)
        clear hj HV HS HNF
        go_wp2
        rw [Exit.noGoto_ret]
        go_ret
        have e : runF D t = [] := by
          unfold runF
          rw [HD2.out]
        exact RunP.none_ e HB3.out
      | true =>
        have HN := (show Hid _ from HS.out.1.step hsd (by omega) HNF.out hj)
        have hqk := HS.out.2.1
        have HQ := (show Hid _ from bkM_lt hq (by omega : k + 1 ≤ 128) hqk)
        clear hj HV HS HNF hqk
        go_wp2_with fail
        refine (HBK.out _ q hq).mono ?_
        rintro e V4 ⟨rfl, hb4⟩
        have HB4 : Hid (Below w.heap.size w V4) := HB3.out.trans (hb4.mono HB3.out.size)
        clear hb4 HB3
        go_wp2
        go_roundw
        case rel => exact ⟨bk1 q, k + 1, rfl, HN.out, HQ.out.2, HB4.out⟩
        case measure => exact HQ.out.1
end Go.Proofs.Ytjaheelgcjafcaa
namespace Go.Proofs.Ytjaheelgcjafcaa
open Go.RowKit Go.MapKept Go.Maps
abbrev OwnP := OwnG 79 5 Pc.v
theorem layP : Lays Try.prog 83 79 5 40 Pc.v :=
  ⟨Try.underlying83, ⟨zeroPc.val, by kernel_rfl, rfl⟩, by decide, fun _ => rfl, fun x u hu => by
    simp [Pc.v] at hu
    rcases hu with rfl | rfl | rfl | rfl | rfl <;> rfl⟩
theorem mkp (c : Nat) (hc : c ≤ 1000) (w : World) : (Instr.makeSlice 83 (.int .i64 0) (.int .i64 (c : Int))).run Try.prog w = .ok (.slice (some ⟨w.heap.size, 0, none⟩) 0 c) (w.alloc (.cells (madeCells zeroPc.val.cells (c * 5)) 79)) := by
  have hinfo : (Try.prog.info? 79).map (fun i => (i.zero, i.size, i.bytes)) = some (some zeroPc.val, 5, 40) := by kernel_rfl
  obtain ⟨i, hi, hz0, hz1, hz2⟩ := info_parts hinfo
  have := run_make (P := Try.prog) w 83 79 i zeroPc.val Try.underlying83 hi hz0 .i64 .i64 0 (c : Int) (by omega) (by omega) (by rw [hz2]; omega) (by omega)
  rw [hz1] at this
  simpa using this
theorem own_madeP (w : World) (c : Nat) (hc : c ≤ 1000) : OwnP (w.alloc (.cells (madeCells zeroPc.val.cells (c * 5)) 79)) w.heap.size (some ⟨w.heap.size, 0, none⟩) 0 c [] :=
  ⟨rfl, World.ownsRow_made w _ c (Nat.le_refl _) (by unfold maxLen; omega) (by rw [size_madeCells])⟩
section
variable {w w' : World} {p nb mb wb : Nat} {wr : Nat → Option Addr × Nat} {Y : Nat → Prop} {s : SmS}
/-- Other pieces in the map. -/
theorem SmW.setD (h : SmW w p nb mb wb wr Y s) (hf : Fr (fun k => k = mb) w w') {D' : List (Nat × Pc)} (hm : Mp ipV IpK w' mb D'.length (fun q => (lookD D' q).map Pc.val)) (hds : ∀ y ∈ D', IpK y.1 ∧ PcW Y w' y.2) (hs : Srt D') (hl : D'.length + sumD List.length s.W ≤ 128) (hdn : ∀ y ∈ D', y.2.st < s.nx.length) : SmW w' p nb mb wb wr Y ⟨s.nx, D', s.W⟩ := by
  obtain ⟨n1, n2, n3, n4, n5, n6⟩ := h.ne
  have hyq : ∀ g, g < w.heap.size → g = mb → ¬ Y g := fun g _ e hy => (h.yx g hy).2.2.1 e
  obtain ⟨cN, hcN, hsN⟩ := h.sx
  exact ⟨⟨cN, hcN, hsN.fr hf n2⟩, fun i hi => (hf.cell ⟨nb, i, none⟩ h.nl n4).trans (h.nx i hi), fun i => (hf.frozen ⟨nb, i, none⟩ h.nl n4).trans (h.nf i), Nat.lt_of_lt_of_le h.nl hf.size, h.n1, h.n8, h.nv, hm, h.wm.fr hf (fun e => n6 e.symm), hds, fun y hy => ⟨(h.ws y hy).1, (h.ws y hy).2.fr hf hyq⟩, hs, h.sw, h.ne, h.yx, fun g hg => Nat.lt_of_lt_of_le (h.yl g hg) hf.size, hl, hdn⟩
/-- A piece is deleted. -/
theorem SmW.delD (h : SmW w p nb mb wb wr Y s) (q : Nat) (hq : IpK q) : ∃ w', (Builtin.delete_ #[73, 30] 0 #[.map (some mb), .int .u32 (q : Nat)]).run Try.prog w = .ok (.tuple #[]) w' ∧ SmW w' p nb mb wb wr Y ⟨s.nx, delD s.D q, s.W⟩ ∧ Fr (fun k => k = mb) w w' := by
  obtain ⟨w6, hr6, hm6, hf6, _⟩ := h.mp.del (P := Try.prog) ipKE Try.underlying73 (q := q) hq 0
  unfold ipV at hr6
  have hyq : ∀ g, g < w.heap.size → g = mb → ¬ Y g := fun g _ e hy => (h.yx g hy).2.2.1 e
  refine ⟨w6, hr6, h.setD hf6 (Mp.cut (f := fun _ => Pc.val) hm6 ipKE.inj h.sd (fun y hy => (h.ds y hy).1)) (fun y hy => ⟨(h.ds y (delD_mem hy)).1, (h.ds y (delD_mem hy)).2.fr hf6 hyq⟩) (h.sd.del q) ?_ (fun y hy => h.dn y (delD_mem hy)), hf6⟩
  have h1 := len_del s.D q
  have h2 := h.held
  unfold SmS.heldN at h2
  split at h1 <;> omega
end
theorem look_liftn : ∀ (L : List Nat) (D : List (Nat × Pc)) (q : Nat), Srt D → q ∉ L → lookD (liftD D L) q = lookD D q
  | [], _, _, _, _ => rfl
  | r :: L, D, q, hs, hq => by
    show lookD (liftD (delD D r) L) q = _
    rw [look_liftn L (delD D r) q (hs.del r) (fun h => hq (List.mem_cons_of_mem _ h)), look_del _ _ _ hs, if_neg (fun e => hq (by rw [e]; exact List.mem_cons_self))]
structure LiftP (w : World) (p nb mb wb : Nat) (wr : Nat → Option Addr × Nat) (Y : Nat → Prop) (s : SmS) (L : List Nat) (e : Ending) (w' : World) : Prop where
  ex : ∃ g c, e = .returned (.slice (some ⟨g, 0, none⟩) L.length c) ∧ w.heap.size ≤ g ∧ g < w'.heap.size ∧ RowW (fun k => Y k ∨ k = g) w' (some ⟨g, 0, none⟩) c (L.map (pcAt s.D))
  sm : SmW w' p nb mb wb wr Y ⟨s.nx, liftD s.D L, s.W⟩
  fr : Fr (fun k => k = mb) w w'
set_option linter.unusedVariables false in
set_option maxRecDepth 100000 in
set_option maxHeartbeats 4000000 in
theorem lift_any {w : World} {p nb mb wb : Nat} {wr0 : Nat → Option Addr × Nat} {Y : Nat → Prop} {s : SmS} (h : SmW w p nb mb wb wr0 Y s) {B : Nat} {a : Option Addr} {c : Nat} {L : List Nat} (hrow : OwnT w B a L.length c L) (hB : mb < B) (hpos : 0 < L.length) (hnd : L.Nodup) (hin : ∀ q ∈ L, (lookD s.D q).isSome = true) (hlt32 : ∀ q ∈ L, q < 4294967296) (hL : L.length ≤ 128) :
    Calls Try.prog 28 #[.pointer (some ⟨p, 0, none⟩), .slice a L.length c] w (LiftP w p nb mb wb wr0 Y s L) := by
  obtain ⟨gr, rfl, hgr1, hgr2, hcap, hcapm, hcell, _⟩ := OwnG.at_ hrow (fun _ => rfl) hpos
  have HC := (show Hid _ from hcell)
  have HH := (show Hid _ from And.intro h (And.intro hnd (And.intro hin hlt32)))
  have hpl := h.st.lt
  have hgm : ¬ gr = mb := by omega
  obtain ⟨n, hn⟩ : ∃ n, n = L.length := ⟨_, rfl⟩
  obtain ⟨W0, hW0⟩ : ∃ W0, W0 = w.alloc (.cells (madeCells zeroPc.val.cells (n * 5)) 79) := ⟨_, rfl⟩
  have hmk : (Instr.makeSlice 83 (.int .i64 0) (.int .i64 (n : Int))).run Try.prog w = .ok (.slice (some ⟨w.heap.size, 0, none⟩) 0 n) W0 := by rw [hW0]; exact mkp n (by omega) w
  have hown0 : OwnP W0 w.heap.size (some ⟨w.heap.size, 0, none⟩) 0 n [] ∧ Below w.heap.size w W0 := by rw [hW0]; exact ⟨own_madeP w n (by omega), (Below.refl _ _).alloc (Nat.le_refl _) _⟩
  rw [← hn] at hL hpos hcap ⊢
  have HN := (show Hid _ from hn)
  have HO := (show Hid _ from hown0)
  clear hcell h hnd hin hlt32 hrow hn hown0 hW0
  go_enter Try.func28, Try.ntmps28
  go_wp2
  clear hmk
  go_loopw [5, 13] (fun u5 u13 wr => ∃ (i : Nat) (a1 : Option Addr) (c1 : Nat), i ≤ n ∧ u13 = .int .i64 (i : Nat) ∧ u5 = .slice a1 i c1 ∧ OwnP wr w.heap.size a1 i c1 ((L.take i).map (pcAt s.D)) ∧ SmW wr p nb mb wb wr0 Y ⟨s.nx, liftD s.D (L.take i), s.W⟩ ∧ Fr (fun k => k = mb) w wr) (fun _ u13 _ => n - (intOf u13).toNat)
  case atStart => exact ⟨0, _, n, by omega, rfl, rfl, HO.out.1, HH.out.1.below HO.out.2, Fr.of_below HO.out.2⟩
  case round =>
    obtain ⟨i, a1, c1, hi, rfl, rfl, hown, hsm, hfr⟩ := hrel
    by_cases hlt : i < n
    · have hlt1 : (i : Int) < (n : Int) := by omega
      obtain ⟨h, hnd, hin, hlt32⟩ := HH.out
      obtain ⟨q, hq⟩ : ∃ q, L[i]? = some q := ⟨_, List.getElem?_eq_getElem (by have := HN.out; omega)⟩
      have hqm := List.mem_of_getElem? hq
      have hq32 := hlt32 q hqm
      have ck := (hfr.cell ⟨gr, i, none⟩ hgr2 hgm).trans (show w.cell? ⟨gr, i, none⟩ = some (.int .u32 (q : Nat)) from by have := HC.out i q hq 0 _ rfl; simpa using this)
      have hqn : q ∉ L.take i := fun hm => by
        obtain ⟨j, hj⟩ := List.getElem?_of_mem hm
        have hjl := (List.getElem?_eq_some_iff.1 hj).1
        rw [List.length_take] at hjl
        rw [List.getElem?_take_of_lt (by omega)] at hj
        have := (List.getElem?_inj (by omega) hnd).1 (hj.trans hq.symm)
        omega
      have hpc : pcAt (liftD s.D (L.take i)) q = pcAt s.D q := by unfold pcAt; rw [look_liftn _ _ _ h.sd hqn]
      have hrun := hsm.look (Below.refl _ _) q hq32 false
      simp only [Bool.false_eq_true, if_false] at hrun
      rw [hpc] at hrun
      have HTK : Hid ((L.take (i + 1)).map (pcAt s.D) = (L.take i).map (pcAt s.D) ++ [pcAt s.D q] ∧ liftD s.D (L.take (i + 1)) = delD (liftD s.D (L.take i)) q) := by
        rw [List.take_add_one, hq]
        exact ⟨by simp, by unfold liftD; rw [List.foldl_append]; rfl⟩
      have c1p := hsm.st.cell 1 _ rfl
      obtain ⟨x, hx⟩ : ∃ x, x = pcAt s.D q := ⟨_, rfl⟩
      rw [← hx] at hrun HTK
      have hmbl := hsm.mp.lt
      obtain ⟨W, hW⟩ : ∃ W, W = wr.alloc (.cells #[.int .u8 (x.fl : Nat), .int .u16 (x.st : Nat), .int .u16 (x.ss : Nat), .int .u32 (x.pp : Nat), .slice x.a x.n x.c] 79) := ⟨_, rfl⟩
      have b0 : Below wr.heap.size wr W := by rw [hW]; exact (Below.refl _ _).alloc (Nat.le_refl _) _
      have st2 := Stc.new wr x.v 79 W hW
      obtain ⟨g7, c7, w7, hr7, ho7, hgr7, hg7, hg7l⟩ := OwnG.app layP (OwnG.below hown b0) 83 x ⟨wr.heap.size, 0, none⟩ (fun j u hj => by
        have := st2.cell j u hj
        unfold Addr.add
        split
        · rename_i e; subst e; exact this
        · simpa using this) (by unfold maxLen; omega) (by omega) (Nat.le_trans hfr.size b0.size)
      have hob : ∀ k, (Value.slice a1 i c1).ownBlock = some k → w.heap.size ≤ k := fun k hk => (hown.own.lt k hk).1
      have hmw := h.mp.lt
      have hpw := h.st.lt
      have hb7 : Below w.heap.size wr w7 := (b0.mono hfr.size).trans ((OwnG.below hown b0).up hgr7 (Nat.le_trans hfr.size b0.size))
      have hsm7 : SmW w7 p nb mb wb wr0 Y ⟨s.nx, liftD s.D (L.take i), s.W⟩ := by
        have hf7 : Fr (fun k => w.heap.size ≤ k) wr w7 := (Fr.of_below b0).trans (Fr.grown hgr7 hob)
        exact hsm.fr hf7 (fun g _ hg => ⟨fun hy => by have := h.yl g hy; omega, by omega, by have := h.nl; omega, by omega, by have := h.wm.lt; omega⟩)
      have hfr7 : Fr (fun k => k = mb) w w7 := ⟨hb7.os.trans hfr.os, hb7.tape.trans hfr.tape, hb7.output.trans hfr.output, Nat.le_trans hfr.size hb7.size, fun k hk hn => (hb7.block k hk).trans (hfr.block k hk hn)⟩
      obtain ⟨w8, hr8, hsm8, hf8⟩ := hsm7.delD q hq32
      have c1q := hsm7.st.cell 1 _ rfl
      have HZ : Hid (OwnP w8 w.heap.size (some ⟨g7, 0, none⟩) (i + 1) c7 ((L.take (i + 1)).map (pcAt s.D)) ∧ SmW w8 p nb mb wb wr0 Y ⟨s.nx, liftD s.D (L.take (i + 1)), s.W⟩ ∧ Fr (fun k => k = mb) w w8) := by
        rw [HTK.out.1, HTK.out.2]
        refine ⟨OwnG.fr ho7 hf8 (fun k hk e => ?_), hsm8, hfr7.trans hf8⟩
        have := (ho7.own.lt k hk).1
        omega
      rw [hW] at hr7
      clear hsm8 hf8 hfr7 hsm7 hb7 ho7 hgr7 hg7 hg7l hob st2 b0 hW hown hsm hfr hpc hqn hqm hq h hnd hin hlt32 hmbl hx HTK
      obtain ⟨fl, st, ss, pp, xa, xn, xc, zs⟩ := x
      unfold Pc.val at hrun
      dsimp only at hrun hr7
      go_wp2_with (at_builtin; refine app_eq_list rfl _ _ rfl rfl rfl rfl hr7 ?_)
      go_roundw
      case rel => exact ⟨i + 1, _, c7, by omega, by go_num, rfl, HZ.out.1, HZ.out.2.1, HZ.out.2.2⟩
      case measure => simp [intOf]; omega
    · obtain rfl : i = n := by omega
      have HZ := (show Hid _ from And.intro hown (And.intro hsm hfr))
      clear hown hsm hfr
      go_wp2
      go_ret
      obtain ⟨hown, hsm, hfr⟩ := HZ.out
      obtain ⟨h, hnd, hin, hlt32⟩ := HH.out
      have et : L.take i = L := List.take_of_length_le (by have := HN.out; omega)
      rw [et] at hown hsm
      obtain ⟨g, rfl, hg1, hg2, hc1, hc2, hcl, _⟩ := OwnG.at_ hown (fun _ => rfl) (by omega)
      have hyq : ∀ g, g < w.heap.size → g = mb → ¬ Y g := fun g _ e hy => (h.yx g hy).2.2.1 e
      refine ⟨⟨g, c1, by rw [← HN.out]; rfl, hg1, hg2, ⟨g, rfl, hg2, .inr rfl, hcl⟩, by rw [List.length_map, ← HN.out]; omega, by rw [List.length_map, ← HN.out]; omega, by rw [List.length_map, ← HN.out]; exact ⟨hc1, hc2⟩, fun x hx => ?_⟩, hsm, hfr⟩
      obtain ⟨q, hq, rfl⟩ := List.mem_map.1 hx
      have h1 := hin q hq
      cases e : lookD s.D q with
      | none => rw [e] at h1; cases h1
      | some y =>
        have : pcAt s.D q = y := by unfold pcAt; rw [e]; rfl
        rw [this]
        exact ((h.ds _ (lookD_mem e)).2.fr hfr hyq).mono (fun g hg => .inl hg)
end Go.Proofs.Ytjaheelgcjafcaa
namespace Go.Proofs.Ytjaheelgcjafcaa
open Go.RowKit Go.MapKept Go.Maps
/-- A message, and where its bytes lie. -/
abbrev Mq := Mg × Option Addr × Nat
def Mq.v (x : Mq) : List Value := x.1.v x.2.1 x.2.2
abbrev OwnM := OwnG 51 5 Mq.v
theorem layM : Lays Try.prog 32 51 5 40 Mq.v :=
  ⟨Try.underlying32, ⟨.agg #[.int .u16 0, .int .u16 0, .int .u32 0, .bool false, .slice none 0 0], by kernel_rfl, rfl⟩, by decide, fun _ => rfl, fun x u hu => by
    simp [Mq.v, Mg.v] at hu
    rcases hu with rfl | rfl | rfl | rfl | rfl <;> rfl⟩
/-- Messages told, in a row of new memory (from B on). -/
structure MsgsW (w : World) (B : Nat) (a : Option Addr) (n c : Nat) (T : List Mg) : Prop where
  ex : ∃ xs : List Mq, xs.map (·.1) = T ∧ OwnM w B a n c xs ∧ ∀ x ∈ xs, OwnB w B x.2.1 x.1.zs.length x.2.2 x.1.zs
theorem MsgsW.nil (w : World) (B : Nat) : MsgsW w B none 0 0 [] := ⟨[], rfl, OwnG.nil _ _, fun x hx => (by cases hx)⟩
theorem MsgsW.len {w : World} {B : Nat} {a : Option Addr} {n c : Nat} {T : List Mg} (h : MsgsW w B a n c T) : n = T.length := by
  obtain ⟨xs, h1, h2, _⟩ := h.ex
  rw [← h1, List.length_map, h2.len]
theorem MsgsW.fr {w w' : World} {B : Nat} {a : Option Addr} {n c : Nat} {T : List Mg} {Q : Nat → Prop} (h : MsgsW w B a n c T) (hf : Fr Q w w') (hq : ∀ g, B ≤ g → g < w.heap.size → ¬ Q g) : MsgsW w' B a n c T := by
  obtain ⟨xs, h1, h2, h3⟩ := h.ex
  exact ⟨xs, h1, OwnG.fr h2 hf (fun g hg => hq g (h2.own.lt g hg).1 (h2.own.lt g hg).2), fun x hx => (h3 x hx).fr hf hq⟩
theorem MsgsW.below {w w' : World} {B : Nat} {a : Option Addr} {n c : Nat} {T : List Mg} (h : MsgsW w B a n c T) (hb : Below w.heap.size w w') : MsgsW w' B a n c T := h.fr (Q := fun _ => False) (Fr.of_below hb) (fun _ _ _ e => e)
theorem MsgsW.base {w : World} {B B' : Nat} {a : Option Addr} {n c : Nat} {T : List Mg} (h : MsgsW w B a n c T) (hB : B' ≤ B) : MsgsW w B' a n c T := by
  obtain ⟨xs, h1, h2, h3⟩ := h.ex
  exact ⟨xs, h1, OwnG.base h2 hB, fun x hx => (h3 x hx).base hB⟩
theorem ty_msg : (5 : Nat) ≠ 51 := by decide
/-- Bytes do not lie in a row of messages. -/
theorem ownB_apart {w : World} {B B' : Nat} {a a' : Option Addr} {n c n' c' : Nat} {zs : List Nat} {xs : List Mq} (h : OwnB w B a n c zs) (k : OwnM w B' a' n' c' xs) (g : Nat) (hg : (Value.slice a n c).ownBlock = some g) : (Value.slice a' n' c').ownBlock ≠ some g := by
  intro hg'
  rcases h.own.2 with ⟨hv, _⟩ | ⟨g1, cap, cur, hv, _, hh, _⟩
  · injection hv with e1; subst e1; cases hg
  · injection hv with e1
    subst e1
    obtain rfl : g1 = g := Option.some.inj hg
    rcases k.own.2 with ⟨hv', _⟩ | ⟨g2, cap2, cur2, hv', _, hh', _⟩
    · injection hv' with e1; subst e1; cases hg'
    · injection hv' with e1
      subst e1
      obtain rfl : g2 = g1 := Option.some.inj hg'
      rw [hh] at hh'
      injection hh' with hh'
      injection hh' with _ e2
      exact ty_msg e2
/-- One more message told. -/
theorem MsgsW.app {w : World} {B : Nat} {a : Option Addr} {n c : Nat} {T : List Mg} (h : MsgsW w B a n c T) {m : Mg} {ma : Option Addr} {mc : Nat} (hm : OwnB w B ma m.zs.length mc m.zs) (hB : B ≤ w.heap.size) (hn : n ≤ 1000) :
    ∃ g c' w', (Builtin.append_ #[32, 32] 32 #[.slice a n c, .slice (some ⟨w.heap.size, 0, none⟩) 1 1]).run Try.prog (w.alloc (.cells (m.v ma mc).toArray 51)) = .ok (.slice (some ⟨g, 0, none⟩) (n + 1) c') w' ∧ MsgsW w' B (some ⟨g, 0, none⟩) (n + 1) c' (T ++ [m]) ∧ Fr (fun k => B ≤ k) w w' := by
  obtain ⟨xs, h1, h2, h3⟩ := h.ex
  have b0 : Below w.heap.size w (w.alloc (.cells (m.v ma mc).toArray 51)) := (Below.refl _ _).alloc (Nat.le_refl _) _
  have st2 := Stc.new w (m.v ma mc) 51 _ rfl
  have h2a := OwnG.below h2 b0
  obtain ⟨g7, c7, w7, hr7, ho7, hgr7, hg7, hg7l⟩ := OwnG.app layM h2a 32 (m, ma, mc) ⟨w.heap.size, 0, none⟩ (fun j u hj => by
    have := st2.cell j u hj
    unfold Addr.add
    split
    · rename_i e; subst e; exact this
    · simpa using this) (by unfold maxLen; omega) (by omega) (Nat.le_trans hB b0.size)
  have keep : ∀ (x : Mq), OwnB w B x.2.1 x.1.zs.length x.2.2 x.1.zs → OwnB w7 B x.2.1 x.1.zs.length x.2.2 x.1.zs := fun x hx => by
    have hx2 := hx.below b0
    refine hx2.kept hgr7 ?_
    cases e : (Value.slice x.2.1 x.1.zs.length x.2.2).ownBlock with
    | none => exact .inl rfl
    | some g => exact .inr (fun e2 => ownB_apart hx2 h2a g e (e2 ▸ rfl))
  refine ⟨g7, c7, w7, hr7, ⟨xs ++ [(m, ma, mc)], by rw [List.map_append, h1]; rfl, ho7, fun x hx => ?_⟩, (Fr.of_below b0).trans (Fr.grown hgr7 (fun k hk => (h2.own.lt k hk).1))⟩
  rcases List.mem_append.1 hx with hx | hx
  · exact keep x (h3 x hx)
  · simp at hx
    subst hx
    exact keep (m, ma, mc) hm
/-- A row of one message, as it is written out. -/
theorem MsgsW.one {w : World} {B : Nat} {m : Mg} {ma : Option Addr} {mc : Nat} (hm : OwnB w B ma m.zs.length mc m.zs) (hB : B ≤ w.heap.size) : MsgsW (w.alloc (.cells (m.v ma mc).toArray 51)) B (some ⟨w.heap.size, 0, none⟩) 1 1 [m] := by
  have b0 : Below w.heap.size w (w.alloc (.cells (m.v ma mc).toArray 51)) := (Below.refl _ _).alloc (Nat.le_refl _) _
  refine ⟨[(m, ma, mc)], rfl, OwnG.base (OwnG.one (T := 51) (cf := Mq.v) (fun _ => rfl) w (m, ma, mc) _ rfl) hB, fun x hx => ?_⟩
  simp at hx
  subst hx
  exact hm.below b0
section
variable {w w' : World} {p nb mb wb : Nat} {wr : Nat → Option Addr × Nat} {Y : Nat → Prop} {s : SmS}
/-- Other messages wait. -/
theorem SmW.setW (h : SmW w p nb mb wb wr Y s) (hf : Fr (fun k => k = wb) w w') {wr' : Nat → Option Addr × Nat} {W' : List (Nat × List Pc)} (hm : Mp tuV IpK w' wb W'.length (fun q => (lookD W' q).map (wval wr' q))) (hws : ∀ y ∈ W', IpK y.1 ∧ RowW Y w' (wr' y.1).1 (wr' y.1).2 y.2) (hs : Srt W') (hl : s.D.length + sumD List.length W' ≤ 128) : SmW w' p nb mb wb wr' Y ⟨s.nx, s.D, W'⟩ := by
  obtain ⟨n1, n2, n3, n4, n5, n6⟩ := h.ne
  have hyq : ∀ g, g < w.heap.size → g = wb → ¬ Y g := fun g _ e hy => (h.yx g hy).2.2.2 e
  obtain ⟨cN, hcN, hsN⟩ := h.sx
  exact ⟨⟨cN, hcN, hsN.fr hf n3⟩, fun i hi => (hf.cell ⟨nb, i, none⟩ h.nl n5).trans (h.nx i hi), fun i => (hf.frozen ⟨nb, i, none⟩ h.nl n5).trans (h.nf i), Nat.lt_of_lt_of_le h.nl hf.size, h.n1, h.n8, h.nv, h.mp.fr hf n6, hm, fun y hy => ⟨(h.ds y hy).1, (h.ds y hy).2.fr hf hyq⟩, hws, h.sd, hs, h.ne, h.yx, fun g hg => Nat.lt_of_lt_of_le (h.yl g hg) hf.size, hl, h.dn⟩
/-- 'pieces, waits := s.waiting[turn{st, ss}]'. -/
theorem SmW.lookW (h : SmW w p nb mb wb wr Y s) (hb : Below w.heap.size w w') (st ss : Nat) (hs : ss < 65536) (ht : st < 65536) :
    (Instr.lookup 74 (.map (some wb)) (.agg #[.int .u16 (st : Nat), .int .u16 (ss : Nat)]) true).run Try.prog w' = .ok (.tuple #[((lookD s.W (tkey st ss)).map (wval wr (tkey st ss))).getD (.slice none 0 0), .bool (lookD s.W (tkey st ss)).isSome]) w' := by
  have := (h.wm.below hb).look tuKE true Try.underlying74 (zero_pcs w') (q := tkey st ss) (tkey_lt ht hs)
  rw [tu_key st ss hs] at this
  rw [this]
  cases lookD s.W (tkey st ss) <;> rfl
/-- A message waits no more. -/
theorem SmW.delW (h : SmW w p nb mb wb wr Y s) (st ss : Nat) (hs : ss < 65536) (ht : st < 65536) (ty : TypeId) : ∃ w', (Builtin.delete_ #[74, 86] ty #[.map (some wb), .agg #[.int .u16 (st : Nat), .int .u16 (ss : Nat)]]).run Try.prog w = .ok (.tuple #[]) w' ∧ SmW w' p nb mb wb wr Y ⟨s.nx, s.D, Go.Proofs.Ytjaheelgcjafcaa.delD s.W (tkey st ss)⟩ ∧ Fr (fun k => k = wb) w w' := by
  obtain ⟨w6, hr6, hm6, hf6, _⟩ := h.wm.del (P := Try.prog) tuKE Try.underlying74 (q := tkey st ss) (tkey_lt ht hs) ty
  rw [tu_key st ss hs] at hr6
  have hyq : ∀ g, g < w.heap.size → g = wb → ¬ Y g := fun g _ e hy => (h.yx g hy).2.2.2 e
  refine ⟨w6, hr6, h.setW hf6 (Mp.cut (f := fun q => wval wr q) hm6 tuKE.inj h.sw (fun y hy => (h.ws y hy).1)) (fun y hy => ⟨(h.ws y (delD_mem hy)).1, (h.ws y (delD_mem hy)).2.fr hf6 hyq⟩) (h.sw.del _) ?_, hf6⟩
  have h1 := sum_del List.length s.W (tkey st ss)
  have h2 := h.held
  unfold SmS.heldN at h2
  omega
/-- A message waits: its row lies at ra. -/
theorem SmW.putW (h : SmW w p nb mb wb wr Y s) (st ss : Nat) (hs : ss < 65536) (ht : st < 65536) {ra : Option Addr} {rc : Nat} {ps : List Pc} (hrow : RowW Y w ra rc ps) (hl : s.D.length + (sumD List.length s.W + ps.length) ≤ 128) :
    ∃ w' wr', (Instr.mapUpdate 74 (.map (some wb)) (.agg #[.int .u16 (st : Nat), .int .u16 (ss : Nat)]) (.slice ra ps.length rc)).run Try.prog w = .ok () w' ∧ SmW w' p nb mb wb wr' Y ⟨s.nx, s.D, putD s.W (tkey st ss) ps⟩ ∧ Fr (fun k => k = wb) w w' := by
  obtain ⟨w6, hr6, hm6, hf6, _⟩ := h.wm.upd (P := Try.prog) tuKE Try.underlying74 (q := tkey st ss) (tkey_lt ht hs) (.slice ra ps.length rc)
  rw [tu_key st ss hs] at hr6
  have hyq : ∀ g, g < w.heap.size → g = wb → ¬ Y g := fun g _ e hy => (h.yx g hy).2.2.2 e
  refine ⟨w6, fun q => if q = tkey st ss then (ra, rc) else wr q, hr6, h.setW hf6 (Mp.put (f := fun q => wval wr q) (f' := fun q => wval (fun q => if q = tkey st ss then (ra, rc) else wr q) q) hm6 tuKE.inj h.sw (fun y hy => (h.ws y hy).1) (tkey_lt ht hs) (by unfold wval; simp) (fun q' y hne => by unfold wval; simp [hne])) (fun y hy => ?_) (h.sw.put _ _) ?_, hf6⟩
  · by_cases e : y.1 = tkey st ss
    · have e2 : y.2 = ps := by
        have h1 := (h.sw.put (tkey st ss) ps).look (q := y.1) (x := y.2) hy
        rw [look_put _ _ _ _ h.sw, if_pos e] at h1
        exact (Option.some.inj h1).symm
      rw [if_pos e, e2, e]
      exact ⟨tkey_lt ht hs, hrow.fr hf6 hyq⟩
    · rcases putD_mem hy with e3 | e3
      · rw [e3] at e; exact absurd rfl e
      · rw [if_neg e]
        exact ⟨(h.ws y e3).1, (h.ws y e3).2.fr hf6 hyq⟩
  · have h1 := sum_put List.length s.W (tkey st ss) ps h.sw
    omega
/-- What a stream awaits goes on. -/
theorem SmW.setN (h : SmW w p nb mb wb wr Y s) (st v : Nat) (hst : st < s.nx.length) (hv : v < 65536) : SmW (w.setCell ⟨nb, st, none⟩ (.int .u16 (v : Nat))) p nb mb wb wr Y ⟨s.nx.set st v, s.D, s.W⟩ := by
  obtain ⟨n1, n2, n3, n4, n5, n6⟩ := h.ne
  have hf := Fr.setCell (fun k => k = nb) w ⟨nb, st, none⟩ (.int .u16 (v : Nat)) rfl
  have hyq : ∀ g, g < w.heap.size → g = nb → ¬ Y g := fun g _ e hy => (h.yx g hy).2.1 e
  obtain ⟨cN, hcN, hsN⟩ := h.sx
  refine ⟨⟨cN, by simpa using hcN, by simpa using hsN.fr hf n1⟩, fun i hi => ?_, fun i => by rw [World.frozen?_setCell]; exact h.nf i, Nat.lt_of_lt_of_le h.nl hf.size, by simpa using h.n1, by simpa using h.n8, fun i => ?_, h.mp.fr hf (fun e => n4 e.symm), h.wm.fr hf (fun e => n5 e.symm), fun y hy => ⟨(h.ds y hy).1, (h.ds y hy).2.fr hf hyq⟩, fun y hy => ⟨(h.ws y hy).1, (h.ws y hy).2.fr hf hyq⟩, h.sd, h.sw, h.ne, h.yx, fun g hg => Nat.lt_of_lt_of_le (h.yl g hg) hf.size, h.held, fun y hy => by simpa using h.dn y hy⟩
  · dsimp only at hi ⊢
    rw [List.length_set] at hi
    by_cases e : i = st
    · subst e
      rw [World.cell?_setCell_same' _ _ _ (by rw [h.nx i hi]; rfl)]
      simp [List.getD_eq_getElem?_getD, hst]
    · rw [World.cell?_setCell_other _ _ _ _ (by intro e2; injection e2 with _ e3; exact e e3.symm), h.nx i hi]
      simp [List.getD_eq_getElem?_getD, Ne.symm e]
  · dsimp only
    rw [List.getD_eq_getElem?_getD, List.getElem?_set]
    split
    · exact hv
    · have := h.nv i
      rw [List.getD_eq_getElem?_getD] at this
      exact this
end
end Go.Proofs.Ytjaheelgcjafcaa
