/- Whatever two rows of bytes and place: the walk of law05.HashSame ends with true. -/
import Derived.Test.YtdglclokjfinfaaDoorHLive
namespace Go.Proofs.YtdglclokjfinfaaDoor
open Go.RowKit
/-- append in a region that draws its order, whose guard says yes. -/
theorem app_stepG {ops : Array Oper} {o : Oper} {a : Act} {w : World} {K : Act → World → Prop} {Q : Exit → Act → World → Prop} {E : Prop} (hgd : Region.wanted o (yielded ops a.tmps) = true) (s x : Operand)
    (ho : o.op = .call { callee := .builtin .append, args := #[s, x], argTypes := #[22, 22] })
    (B : Nat) (ad : Option Addr) (n c : Nat) (zs : List Nat) (hs : a.eval s = .slice ad n c) (hown : OwnB w B ad n c zs)
    (sa : Option Addr) (m sc : Nat) (ys : List Nat) (hx : a.eval x = .slice sa m sc) (hsrc : Sl w sa m sc ys) (hb : n + m ≤ 140737488355328) (hB : B ≤ w.heap.size)
    (h : ∀ a' c' w', OwnB w' B a' (n + m) c' (zs ++ ys) → w.grownBy w' (Value.slice ad n c).ownBlock → K (a.put o.dst (.slice a' (n + m) c')) w') :
    if Region.wanted o (yielded ops a.tmps) = true then Oper.wp Tryd.prog o a w K Q else E := by
  rw [if_pos hgd]
  exact app_wp s x ho B ad n c zs hs hown sa m sc ys hx hsrc hb hB fun a' c' w' h1 h2 _ => h a' c' w' h1 h2
/-- What stands while rows of bytes are held against one another. -/
structure SmC (w0 : World) (a : Option Addr) (n c : Nat) (zs : List Nat) (a2 : Option Addr) (n2 c2 : Nat) (ys : List Nat) (W : World) : Prop where
  sZ : Sl W a n c zs
  sY : Sl W a2 n2 c2 ys
  kw : KW W
  bel : Below w0.heap.size w0 W
theorem SmC.next {w0 : World} {a : Option Addr} {n c : Nat} {zs : List Nat} {a2 : Option Addr} {n2 c2 : Nat} {ys : List Nat} {W W' : World} (h : SmC w0 a n c zs a2 n2 c2 ys W) (hb : Below W.heap.size W W') : SmC w0 a n c zs a2 n2 c2 ys W' :=
  ⟨h.sZ.below hb, h.sY.below hb, h.kw.below (Nat.le_refl _) hb, h.bel.trans (hb.mono h.bel.size)⟩
theorem SmC.all {w0 : World} {a : Option Addr} {n c : Nat} {zs : List Nat} {a2 : Option Addr} {n2 c2 : Nat} {ys : List Nat} {W : World} (h : SmC w0 a n c zs a2 n2 c2 ys W) (s1 s2 : ByteArray) (h1 : s1 = strOf zs) (h2 : s2 = strOf ys) :
    (convert 22 9 (.slice a n c)).run Tryd.prog W = .ok (.string s1) W ∧ (convert 22 9 (.slice a2 n2 c2)).run Tryd.prog W = .ok (.string s2) W ∧ SmC w0 a n c zs a2 n2 c2 ys W := by
  subst h1 h2
  exact ⟨conv_str h.sZ, conv_str h.sY, h⟩
theorem same_at (a : Option Addr) (n c : Nat) (zs : List Nat) (a2 : Option Addr) (n2 c2 : Nat) (ys : List Nat) (w : World) (hs : Sl w a n c zs) (hs2 : Sl w a2 n2 c2 ys) (b : Bool) (hb : decide (zs = ys) = b) (v1 v2 : Value) (e1 : v1 = .slice a n c) (e2 : v2 = .slice a2 n2 c2) :
    Calls Tryd.prog 14 #[v1, v2] w fun e w' => e = .returned (.bool b) ∧ Below w.heap.size w w' := by
  subst e1 e2 hb
  exact (hsame_any a n c zs a2 n2 c2 ys w hs hs2).mono fun e w' ⟨h1, q, h2⟩ => ⟨h1, by rw [h2]; exact below_drewN (Below.refl _ _) q⟩
set_option maxRecDepth 100000 in
set_option maxHeartbeats 4000000 in
theorem walk_HashSame (a : Option Addr) (n c : Nat) (zs : List Nat) (a2 : Option Addr) (n2 c2 : Nat) (ys : List Nat) (x : Int) (w : World) (h0 : Sl w a n c zs ∧ c * 1 ≤ 140737488351232) (h1 : Sl w a2 n2 c2 ys ∧ c2 * 1 ≤ 140737488351232) (_hx : (Lit.int .i64 x).wf = true) (hk : KW w) :
    Calls Tryd.prog 5 #[.slice a n c, .slice a2 n2 c2, .int .i64 x] w fun e w' => e = .returned (.bool true) ∧ Below w.heap.size w w' := by
  have hZ := h0.1
  have hY := h1.1
  have hn : n ≤ 140737488351232 := by have := h0.1.cap; omega
  have hn2 : n2 ≤ 140737488351232 := by have := h1.1.cap; omega
  have hC0 : SmC w a n c zs a2 n2 c2 ys w.drew := SmC.next ⟨hZ, hY, hk, Below.refl _ _⟩ (Below.refl _ _).drew
  obtain ⟨s1, hs1⟩ : ∃ s1, s1 = strOf zs := ⟨_, rfl⟩
  obtain ⟨s2, hs2⟩ : ∃ s2, s2 = strOf ys := ⟨_, rfl⟩
  obtain ⟨b, hb⟩ : ∃ b, b = decide (zs = ys) := ⟨_, rfl⟩
  have hsq : (s1.toList == s2.toList) = b := by
    rw [hb]
    by_cases e : zs = ys
    · have e2 : s1 = s2 := by rw [hs1, hs2, e]
      rw [e2, decide_eq_true e]
      exact beq_self_eq_true _
    · rw [decide_eq_false e]
      refine beq_eq_false_iff_ne.2 (fun e2 => e ?_)
      refine strOf_inj hZ.bnd hY.bnd ?_
      rw [← hs1, ← hs2]
      exact ByteArray.ext (Array.ext' (by rw [← ByteArray.toList_eq s1, ← ByteArray.toList_eq s2]; exact e2))
  have HALL : Hid (∀ w', SmC w a n c zs a2 n2 c2 ys w' → _) := fun w' h => SmC.all h s1 s2 hs1 hs2
  have HBE : Hid (decide (zs = ys) = b) := hb.symm
  obtain ⟨cv1, cv2, hC⟩ := HALL.out _ hC0
  clear h0 h1 hC0 hs1 hs2 hb hZ hY hk
  go_enter Tryd.func5, Tryd.ntmps5
  go_wp2_with fail
  go_region_held3 (fun w' => (convert 22 9 (.slice a n c)).run Tryd.prog w' = .ok (.string s1) w' ∧ (convert 22 9 (.slice a2 n2 c2)).run Tryd.prog w' = .ok (.string s2) w' ∧ SmC w a n c zs a2 n2 c2 ys w') (first | assumption | exact HALL.out _ (by assumption) | exact HALL.out _ (SmC.next (by assumption) (by assumption)) | exact HALL.out _ (SmC.next (by assumption) ((Below.refl _ _).alloc (Nat.le_refl _) _))) (first
    | (go_at_call 14; first
        | (refine (same_at a n c zs a2 n2 c2 ys _ (SmC.sZ (by assumption)) (SmC.sY (by assumption)) b HBE.out _ _ (by rfl) (by rfl)).mono ?_; rintro e w3 ⟨rfl, hb3⟩; have hC := SmC.next (by assumption) hb3)
        | (refine (same_at a n c zs a5 n c5 zs _ (SmC.sZ (by assumption)) hr5 true (by simp) _ _ (by rfl) (by rfl)).mono ?_; rintro e w6 ⟨rfl, hb6⟩; have hC := SmC.next (by assumption) hb6)
        | fail)
    | (refine app_stepG (by rfl) _ _ (by rfl) w3.heap.size _ 0 0 [] (by rfl) (own_empty w3) _ n c zs (by rfl) ((SmC.sZ (by assumption)).alloc _) (by omega) (by simp) ?_; intro a5 c5 w5 ho5 hg5; have hb5 : Below w3.heap.size w3 w5 := ((Below.refl _ _).alloc (Nat.le_refl _) _).trans ((own_empty w3).up hg5 (by simp)); have hC := SmC.next hC hb5; have hr5 : Sl w5 a5 n c5 zs := (by have := ho5.sl (by omega); simpa using this))
    | fail)
  all_goals
    clear cv1 cv2 HALL hsq
    have hCx : SmC w a n c zs a2 n2 c2 ys w6 := by assumption
    by_cases h0 : n = 0
    · have hz1 : ¬ (0 : Int) < n := by omega
      go_wp2_with fail
      refine (live5_any _ hCx.kw).mono ?_
      rintro e w7 ⟨rfl, hk7, hb7⟩
      go_wp2
      go_ret
      exact ⟨rfl, (hCx.next hb7).bel⟩
    · have hz1 : (0 : Int) < n := by omega
      have ho := own_empty w6
      go_wp2_with (at_builtin; go_must (refine app_list rfl _ _ rfl w6.heap.size _ 0 0 [] rfl ho _ n c zs rfl (hCx.sZ.below ((Below.refl _ _).alloc (Nat.le_refl _) _)) (by omega) (by simp) ?_))
      intro a8 c8 w8 ho8 hg8
      have hb8 : Below w6.heap.size w6 w8 := ((Below.refl _ _).alloc (Nat.le_refl _) _).trans (ho.up hg8 (by simp))
      have hC8 := hCx.next hb8
      have ho8' : OwnB w8 w6.heap.size a8 n c8 zs := by simpa using ho8
      have hform : ∃ g, a8 = some ⟨g, 0, none⟩ := by
        rcases ho8'.own.2 with ⟨_, h00⟩ | ⟨g, cap, cur, hv, _⟩
        · omega
        · injection hv with e1
          exact ⟨g, e1⟩
      obtain ⟨g, rfl⟩ := hform
      obtain ⟨X, hX⟩ : ∃ X : Nat, IntKind.u64.wrap x = (X : Int) := ⟨(IntKind.u64.wrap x).toNat, by rw [IntKind.wrap_u64]; omega⟩
      have hX2 : x % 18446744073709551616 = (X : Int) := by rw [IntKind.wrap_u64] at hX; exact hX
      obtain ⟨i, hi⟩ : ∃ i, i = X % n := ⟨_, rfl⟩
      have hin : i < n := by rw [hi]; exact Nat.mod_lt _ (by omega)
      have hxi : (X : Int) % (n : Int) = (i : Int) := by rw [hi]; exact (Int.natCast_emod _ _).symm
      have hgb : w6.heap.size ≤ g := (ho8'.own.lt g rfl).1
      have hc := ho8'.cell i hin
      have hf := ho8'.free i
      have hzb := hCx.sZ.bnd i
      have hzl := hCx.sZ.len
      have HNE : Hid (∀ z, z ≠ zs.getD i 0 → zs.set i z ≠ zs) := fun z hz e => hz (by
        have := congrArg (fun l => l.getD i 0) e
        simpa [List.getD_eq_getElem?_getD, List.getElem?_set, hzl, hin] using this)
      have HST : Hid (∀ z, z < 256 → OwnB (w8.setCell ⟨g, i, none⟩ (.int .u8 (z : Nat))) w6.heap.size (some ⟨g, 0, none⟩) n c8 (zs.set i z)) := fun z hz => ho8'.store i z hz
      have HBL : Hid (∀ v, Below w6.heap.size w6 (w8.setCell ⟨g, i, none⟩ v)) := fun v => hb8.setCell (p := ⟨g, i, none⟩) hgb v
      generalize zs.getD i 0 = z at *
      have hxr := u8_xor_nat z 16 hzb (by omega)
      rw [show ((16 : Nat) : Int) = 16 from rfl] at hxr
      have hxl := xor_lt8 z 16 hzb (by omega)
      have hxn : z ^^^ 16 ≠ z := by
        intro e
        have : (z ^^^ 16) ^^^ z = 0 := by rw [e, Nat.xor_self]
        rw [Nat.xor_comm z 16, Nat.xor_assoc, Nat.xor_self, Nat.xor_zero] at this
        omega
      generalize z ^^^ 16 = z2 at *
      have hn1 := HNE.out z2 hxn
      have ho9 := HST.out z2 hxl
      have hb9 := HBL.out (.int .u8 (z2 : Nat))
      have hC9 := hCx.next hb9
      obtain ⟨w9, hw9⟩ : ∃ w9, w9 = w8.setCell ⟨g, i, none⟩ (.int .u8 (z2 : Nat)) := ⟨_, rfl⟩
      rw [← hw9] at ho9 hb9 hC9
      have hs9 := ho9.sl (by omega)
      have HN1 : Hid (decide (zs = zs.set i z2) = false) := by show _ = _; rw [decide_eq_false_iff_not]; exact fun e => hn1 e.symm
      have HN2 : Hid (decide (zs.set i z2 = zs) = false) := by show _ = _; rw [decide_eq_false_iff_not]; exact hn1
      have hii : (i : Int) < (n : Int) := by omega
      have hwi : IntKind.i64.wrap (i : Int) = (i : Int) := by rw [IntKind.wrap_i64]; omega
      have hn0 : ¬ (n : Int) = 0 := by omega
      have hnw : IntKind.u64.wrap (n : Int) = (n : Int) := by rw [IntKind.wrap_u64]; omega
      clear ho8 hg8 ho hb8 hi ho8' HNE HST HBL ho9 hb9 hxn hn1 hC8
      go_wp2_with fail
      rw [← hw9]
      refine (live5_any _ hC9.kw).mono ?_
      rintro e wa ⟨rfl, hka, hba⟩
      have hCa := hC9.next hba
      have hsa := hs9.below hba
      clear hw9 hC9 hs9 hba hka hc hf
      go_wp2_with fail
      refine (same_at a n c zs _ n c8 _ wa hCa.sZ hsa false HN1.out _ _ (by rfl) (by rfl)).mono ?_
      rintro e wb ⟨rfl, hbb⟩
      have hCb := hCa.next hbb
      have hsb := hsa.below hbb
      go_wp2_with fail
      refine (same_at _ n c8 _ a n c zs wb hsb hCb.sZ false HN2.out _ _ (by rfl) (by rfl)).mono ?_
      rintro e wc ⟨rfl, hbc⟩
      go_wp2
      go_ret
      exact ⟨rfl, (hCb.next hbc).bel⟩
end Go.Proofs.YtdglclokjfinfaaDoor
