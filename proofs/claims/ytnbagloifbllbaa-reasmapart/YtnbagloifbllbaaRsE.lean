/- Packets in pieces as data: what is there, put and taken out; the tests of take over a row of pieces. -/
import Derived.Test.YtnbagloifbllbaaRsD
namespace Go.Proofs.Ytnbagloifbllbaa
open Go.RowKit
def lookD (A : List (Nm × List Pc)) (nm : Nm) : List Pc := ((A.find? (fun e => decide (e.1 = nm))).map (·.2)).getD []
def putD (A : List (Nm × List Pc)) (nm : Nm) (L : List Pc) : List (Nm × List Pc) := if A.any (fun e => decide (e.1 = nm)) = true then A.map (fun e => if e.1 = nm then (nm, L) else e) else A ++ [(nm, L)]
def delD (A : List (Nm × List Pc)) (nm : Nm) : List (Nm × List Pc) := A.filter (fun e => !decide (e.1 = nm))
def sameD (a q : Pc) : Bool := decide (a.of = q.of) && (a.mo == q.mo && decide (a.bs = q.bs))
def clashD (a q : Pc) : Bool := clashB a.of.toNat a.bs.length a.mo q.of.toNat q.bs.length q.mo
def boundD (q : Pc) : Prop := ∃ o : Nat, q.of = (o : Int) ∧ o ≤ 100000 ∧ 0 < q.bs.length ∧ q.bs.length ≤ 100000
def WholeD (L : List Pc) : Prop := ∃ q ∈ L, q.mo = false ∧ (sumD L : Int) = q.of + q.bs.length
def NotD (L : List Pc) : Prop := (∀ q ∈ L, q.mo = true) ∨ ∃ q ∈ L, q.mo = false ∧ (sumD L : Int) ≠ q.of + q.bs.length
theorem find_at {α : Type} (f : α → Bool) : ∀ (l : List α) (i : Nat) (x : α), l[i]? = some x → f x = true → (∀ j y, j < i → l[j]? = some y → f y = false) → l.find? f = some x := by
  intro l
  induction l with
  | nil => intro i x h; simp at h
  | cons y l ih =>
    intro i x h hx hno
    cases i with
    | zero => simp at h; subst h; exact List.find?_cons_of_pos hx
    | succ i =>
      rw [List.find?_cons_of_neg (by rw [hno 0 y (by omega) rfl]; decide)]
      exact ih i x (by simpa using h) hx (fun j z hj hz => hno (j + 1) z (by omega) (by simpa using hz))
theorem look_at {hs : List Pa} (hn : (hs.map (·.t.nm)).Nodup) {i : Nat} {x : Pa} (hi : hs[i]? = some x) : lookD (absL hs) x.t.nm = x.ps.map dat := by
  unfold lookD
  have hil := (List.getElem?_eq_some_iff.1 hi).1
  rw [find_at _ (absL hs) i (x.t.nm, x.ps.map dat) (by unfold absL; rw [List.getElem?_map, hi]; rfl) (by simp) (fun j y hj hy => by
    unfold absL at hy
    rw [List.getElem?_map] at hy
    obtain ⟨z, hz, rfl⟩ := Option.map_eq_some_iff.1 hy
    have := nm_ne hn hi hz (by omega)
    simp [this])]
  rfl
theorem look_no {hs : List Pa} {nm : Nm} (h : ∀ z ∈ hs, z.t.nm ≠ nm) : lookD (absL hs) nm = [] := by
  unfold lookD
  rw [List.find?_eq_none.2 (fun e he => by
    obtain ⟨z, hz, rfl⟩ := List.mem_map.1 he
    simp [h z hz])]
  rfl
theorem put_at {hs : List Pa} (hn : (hs.map (·.t.nm)).Nodup) {i : Nat} {x y : Pa} (hi : hs[i]? = some x) (hy : y.t.nm = x.t.nm) : absL (hs.set i y) = putD (absL hs) x.t.nm (y.ps.map dat) := by
  have hil := (List.getElem?_eq_some_iff.1 hi).1
  unfold putD
  rw [if_pos (by
    rw [List.any_eq_true]
    exact ⟨(x.t.nm, x.ps.map dat), List.mem_map.2 ⟨x, List.mem_of_getElem? hi, rfl⟩, by simp⟩)]
  unfold absL
  rw [List.map_map]
  apply List.ext_getElem?
  intro k
  rw [List.getElem?_map, List.getElem?_map, List.getElem?_set]
  by_cases hk : i = k
  · subst hk
    rw [if_pos rfl, if_pos hil, hi]
    simp [hy]
  · rw [if_neg hk]
    cases hz : hs[k]? with
    | none => rfl
    | some z =>
      have := nm_ne hn hi hz (Ne.symm hk)
      simp [this]
theorem put_no {hs : List Pa} {y : Pa} {nm : Nm} (h : ∀ z ∈ hs, z.t.nm ≠ nm) (hy : y.t.nm = nm) : absL (hs ++ [y]) = putD (absL hs) nm (y.ps.map dat) := by
  unfold putD
  rw [if_neg (by
    rw [Bool.not_eq_true, List.any_eq_false]
    intro e he
    obtain ⟨z, hz, rfl⟩ := List.mem_map.1 he
    simp [h z hz])]
  unfold absL
  rw [List.map_append]
  simp [hy]
theorem del_at {hs : List Pa} (hn : (hs.map (·.t.nm)).Nodup) {i : Nat} {x : Pa} (hi : hs[i]? = some x) : absL (hs.eraseIdx i) = delD (absL hs) x.t.nm := by
  have hil := (List.getElem?_eq_some_iff.1 hi).1
  have hxi : hs[i] = x := (List.getElem?_eq_some_iff.1 hi).2
  have e1 : hs = hs.take i ++ (x :: hs.drop (i + 1)) := by rw [← hxi, ← List.drop_eq_getElem_cons hil, List.take_append_drop]
  have e2 : hs.eraseIdx i = hs.take i ++ hs.drop (i + 1) := List.eraseIdx_eq_take_drop_succ hs i
  have ha : ∀ e ∈ absL (hs.take i), (!decide (e.1 = x.t.nm)) = true := by
    intro e he
    obtain ⟨z, hz, rfl⟩ := List.mem_map.1 he
    obtain ⟨j, hj⟩ := List.getElem?_of_mem hz
    have hjl := (List.getElem?_eq_some_iff.1 hj).1
    rw [List.length_take] at hjl
    rw [List.getElem?_take_of_lt (by omega)] at hj
    have := nm_ne hn hi hj (by omega)
    simp [this]
  have hb : ∀ e ∈ absL (hs.drop (i + 1)), (!decide (e.1 = x.t.nm)) = true := by
    intro e he
    obtain ⟨z, hz, rfl⟩ := List.mem_map.1 he
    obtain ⟨j, hj⟩ := List.getElem?_of_mem hz
    rw [List.getElem?_drop] at hj
    have := nm_ne hn hi hj (by omega)
    simp [this]
  have e3 : absL hs = absL (hs.take i) ++ ((x.t.nm, x.ps.map dat) :: absL (hs.drop (i + 1))) := by
    conv => lhs; rw [e1]
    unfold absL
    rw [List.map_append]
    rfl
  rw [e2]
  unfold delD
  rw [e3, List.filter_append, List.filter_cons_of_neg (by simp), List.filter_eq_self.2 ha, List.filter_eq_self.2 hb]
  unfold absL
  rw [List.map_append]
theorem del_no {A : List (Nm × List Pc)} {nm : Nm} (h : ∀ e ∈ A, e.1 ≠ nm) : delD A nm = A := by
  unfold delD
  rw [List.filter_eq_self.2 (fun e he => by simp [h e he])]
set_option maxRecDepth 100000 in
set_option maxHeartbeats 1000000 in
theorem idxL_any (TH : List (Pk × List Nat)) (p : Pk × List Nat → Bool) (F : Nat) (caps : Array Value) (B : Nat) (a : Option Addr) (n c : Nat) (w : World) (ho : OwnK w B a n c (TH.map (·.1))) (hcf : ∀ args W, (callFunc F args).run Try.prog W = .ok (.enter F args) W)
    (hf : ∀ W, Below w.heap.size w W → ∀ q ∈ TH, Calls Try.prog F (#[.agg #[.int .u32 (q.1.sr : Nat), .int .u32 (q.1.ds : Nat), .int .u8 (q.1.pr : Nat), .int .u8 (q.1.tt : Nat), .int .u16 (q.1.id : Nat), .bool q.1.dn, .bool q.1.mo, .int .i64 q.1.of, .slice q.1.a q.1.n q.1.c]] ++ caps) W fun e w' => e = .returned (.bool (p q)) ∧ Below W.heap.size W w') :
    Calls Try.prog 47 #[.slice a n c, .func (.func F) #[] caps] w fun e w' => ∃ v, e = .returned (.int .i64 v) ∧ IdxP p TH v ∧ Below w.heap.size w w' := by
  have hnb : n ≤ 9223372036854775807 := by
    by_cases h : 0 < n
    · obtain ⟨_, _, _, _, h1, h2, _⟩ := ho.at_ h
      unfold maxLen at h2
      omega
    · omega
  have hlen := ho.len
  rw [List.length_map] at hlen
  have HLEN := (show Hid _ from hlen)
  clear hlen
  go_enter Try.func47, Try.ntmps47
  go_wp2_with fail
  go_loopw [5, 8] (fun _ iv wr => ∃ j : Nat, j ≤ n ∧ iv = .int .i64 (j : Nat) ∧ (∀ k y, k < j → TH[k]? = some y → p y = false) ∧ Below w.heap.size w wr) (fun _ iv _ => n - (intOf iv).toNat)
  case atStart => exact ⟨0, by omega, rfl, fun k y h => absurd h (Nat.not_lt_zero k), Below.refl _ _⟩
  case round =>
    obtain ⟨j, hj, rfl, hno, hbel⟩ := hrel
    by_cases hjn : j < n
    · have hji : (j : Int) < (n : Int) := by omega
      obtain ⟨x, hx⟩ : ∃ x, TH[j]? = some x := ⟨_, List.getElem?_eq_getElem (by rw [HLEN.out]; exact hjn)⟩
      have hor := ho.below hbel
      have hx1 : (TH.map (·.1))[j]? = some x.1 := by rw [List.getElem?_map, hx]; rfl
      obtain ⟨g, rfl, _, hgl, hcap, _, hcell⟩ := hor.at_ (by omega)
      have l0 := hcell j x.1 hx1 0 _ rfl
      have l1 := hcell j x.1 hx1 1 _ rfl
      have l2 := hcell j x.1 hx1 2 _ rfl
      have l3 := hcell j x.1 hx1 3 _ rfl
      have l4 := hcell j x.1 hx1 4 _ rfl
      have l5 := hcell j x.1 hx1 5 _ rfl
      have l6 := hcell j x.1 hx1 6 _ rfl
      have l7 := hcell j x.1 hx1 7 _ rfl
      have l8 := hcell j x.1 hx1 8 _ rfl
      simp only [Nat.add_zero] at l0
      have hc := hf wr hbel x (List.mem_of_getElem? hx)
      clear hcell hor
      go_wp2_with fail
      refine hc.mono ?_
      rintro e w1 ⟨rfl, b1⟩
      have bb1 : Below w.heap.size w w1 := hbel.trans (b1.mono hbel.size)
      clear l0 l1 l2 l3 l4 l5 l6 l7 l8 hc b1
      obtain ⟨px, hpx⟩ : ∃ px, p x = px := ⟨_, rfl⟩
      have HP := (show Hid _ from hpx)
      simp only [hpx]
      clear hpx
      cases px with
      | true =>
        go_wp2
        go_ret
        exact ⟨_, rfl, .inr ⟨j, x, rfl, hx, HP.out, hno⟩, bb1⟩
      | false =>
        go_wp2
        go_roundw
        case rel =>
          refine ⟨j + 1, by omega, by go_num, fun k y hk hy => ?_, bb1⟩
          by_cases hkj : k = j
          · subst hkj
            rw [hx] at hy
            injection hy with hy
            rw [← hy]
            exact HP.out
          · exact hno k y (by omega) hy
        case measure => simp [intOf]; omega
    · have hji : ¬ (j : Int) < (n : Int) := by omega
      go_wp2
      go_ret
      refine ⟨_, rfl, .inl ⟨rfl, fun x hx => ?_⟩, hbel⟩
      obtain ⟨k, hk⟩ := List.getElem?_of_mem hx
      exact hno k x (by have := (List.getElem?_eq_some_iff.1 hk).1; rw [HLEN.out] at this; omega) hk
set_option maxRecDepth 100000 in
set_option maxHeartbeats 1000000 in
/-- ContainsFunc over pieces with their bytes. -/
theorem idxK2_any (TH : List (Pk × List Nat)) (f : Pk × List Nat → Bool) (F : Nat) (caps : Array Value) (B : Nat) (a : Option Addr) (n c : Nat) (w : World) (ho : OwnK w B a n c (TH.map (·.1))) (hcf : ∀ args W, (callFunc F args).run Try.prog W = .ok (.enter F args) W)
    (hf : ∀ W, Below w.heap.size w W → ∀ q ∈ TH, Calls Try.prog F (#[.agg #[.int .u32 (q.1.sr : Nat), .int .u32 (q.1.ds : Nat), .int .u8 (q.1.pr : Nat), .int .u8 (q.1.tt : Nat), .int .u16 (q.1.id : Nat), .bool q.1.dn, .bool q.1.mo, .int .i64 q.1.of, .slice q.1.a q.1.n q.1.c]] ++ caps) W fun e w' => e = .returned (.bool (f q)) ∧ Below W.heap.size W w') :
    Calls Try.prog 31 #[.slice a n c, .func (.func F) #[] caps] w fun e w' => e = .returned (.bool (TH.any f)) ∧ Below w.heap.size w w' := by
  have hi := idxL_any TH f F caps B a n c w ho hcf hf
  go_enter Try.func31, Try.ntmps31
  go_wp2_with fail
  refine hi.mono ?_
  rintro e w1 ⟨v, rfl, hv, b1⟩
  have HV := (show Hid _ from hv.any)
  clear hi hv
  go_wp2
  go_ret
  exact ⟨by rw [← HV.out]; rfl, b1⟩
theorem samec2 (sr ds pr tt id : Nat) (dn mo : Bool) (of : Nat) (xa : Option Addr) (xn xc : Nat) (zs : List Nat) (ys : List Nat) (pb : Nat) (x : Pk) (w : World) (hof : ∃ o2 : Nat, x.of = (o2 : Int)) (h1 : Sl w xa xn xc zs) (h2 : Sl w x.a x.n x.c ys) (hp : Stc w pb [.int .u32 (sr : Nat), .int .u32 (ds : Nat), .int .u8 (pr : Nat), .int .u8 (tt : Nat), .int .u16 (id : Nat), .bool dn, .bool mo, .int .i64 (of : Nat), .slice xa xn xc]) :
    Calls Try.prog 32 (#[.agg #[.int .u32 (x.sr : Nat), .int .u32 (x.ds : Nat), .int .u8 (x.pr : Nat), .int .u8 (x.tt : Nat), .int .u16 (x.id : Nat), .bool x.dn, .bool x.mo, .int .i64 x.of, .slice x.a x.n x.c]] ++ #[.pointer (some ⟨pb, 0, none⟩)]) w fun e w' => e = .returned (.bool (sameD ⟨sr, ds, pr, tt, id, dn, mo, (of : Int), zs⟩ (dat (x, ys)))) ∧ Below w.heap.size w w' := by
  obtain ⟨o2, ho⟩ := hof
  have h := samec_any sr ds pr tt id dn mo of xa xn xc zs ys pb x o2 w ho h1 h2 hp
  have e1 : sameD ⟨sr, ds, pr, tt, id, dn, mo, (of : Int), zs⟩ (dat (x, ys)) = (decide (of = o2) && (mo == x.mo && decide (zs = ys))) := by
    unfold sameD dat
    dsimp only
    rw [ho]
    congr 1
    rw [decide_eq_decide]
    omega
  rw [e1, show (#[Value.agg #[.int .u32 (x.sr : Nat), .int .u32 (x.ds : Nat), .int .u8 (x.pr : Nat), .int .u8 (x.tt : Nat), .int .u16 (x.id : Nat), .bool x.dn, .bool x.mo, .int .i64 x.of, .slice x.a x.n x.c]] ++ #[Value.pointer (some ⟨pb, 0, none⟩)]) = #[Value.agg #[.int .u32 (x.sr : Nat), .int .u32 (x.ds : Nat), .int .u8 (x.pr : Nat), .int .u8 (x.tt : Nat), .int .u16 (x.id : Nat), .bool x.dn, .bool x.mo, .int .i64 x.of, .slice x.a x.n x.c], Value.pointer (some ⟨pb, 0, none⟩)] by simp]
  exact h
theorem clashc2 (sr ds pr tt id : Nat) (dn mo : Bool) (of : Nat) (xa : Option Addr) (xn xc : Nat) (zs : List Nat) (ys : List Nat) (pb : Nat) (x : Pk) (w : World) (hb : boundD (dat (x, ys))) (hl : ys.length = x.n) (hzl : zs.length = xn) (ho1 : of ≤ 100000) (hn1 : xn ≤ 100000) (hcl : clashD ⟨sr, ds, pr, tt, id, dn, mo, (of : Int), zs⟩ (dat (x, ys)) = false) (hp : Stc w pb [.int .u32 (sr : Nat), .int .u32 (ds : Nat), .int .u8 (pr : Nat), .int .u8 (tt : Nat), .int .u16 (id : Nat), .bool dn, .bool mo, .int .i64 (of : Nat), .slice xa xn xc]) :
    Calls Try.prog 34 (#[.agg #[.int .u32 (x.sr : Nat), .int .u32 (x.ds : Nat), .int .u8 (x.pr : Nat), .int .u8 (x.tt : Nat), .int .u16 (x.id : Nat), .bool x.dn, .bool x.mo, .int .i64 x.of, .slice x.a x.n x.c]] ++ #[.pointer (some ⟨pb, 0, none⟩)]) w fun e w' => e = .returned (.bool false) ∧ Below w.heap.size w w' := by
  obtain ⟨o2, ho, h2, h3, h4⟩ := hb
  have hof : x.of = (o2 : Int) := ho
  have hc : clashB of xn mo o2 x.n x.mo = false := by
    unfold clashD dat at hcl
    dsimp only at hcl
    rw [hof, hl, hzl] at hcl
    exact hcl
  have h := clashc_no sr ds pr tt id dn mo of xa xn xc pb x o2 w hof ho1 hn1 h2 (by rw [← hl]; exact h4) hc hp
  rw [show (#[Value.agg #[.int .u32 (x.sr : Nat), .int .u32 (x.ds : Nat), .int .u8 (x.pr : Nat), .int .u8 (x.tt : Nat), .int .u16 (x.id : Nat), .bool x.dn, .bool x.mo, .int .i64 x.of, .slice x.a x.n x.c]] ++ #[Value.pointer (some ⟨pb, 0, none⟩)]) = #[Value.agg #[.int .u32 (x.sr : Nat), .int .u32 (x.ds : Nat), .int .u8 (x.pr : Nat), .int .u8 (x.tt : Nat), .int .u16 (x.id : Nat), .bool x.dn, .bool x.mo, .int .i64 x.of, .slice x.a x.n x.c], Value.pointer (some ⟨pb, 0, none⟩)] by simp]
  exact h
theorem sameF (args : Array Value) (W : World) : (callFunc 32 args).run Try.prog W = .ok (.enter 32 args) W := by kernel_rfl
theorem clashF (args : Array Value) (W : World) : (callFunc 34 args).run Try.prog W = .ok (.enter 34 args) W := by kernel_rfl
/-- Pieces that are there: where they lie. -/
structure ThW (w : World) (TH : List (Pk × List Nat)) (a : Option Addr) (n c : Nat) : Prop where
  row : OwnK w 0 a n c (TH.map (·.1))
  bs : ∀ q ∈ TH, Sl w q.1.a q.1.n q.1.c q.2
theorem ThW.below {w w' : World} {TH : List (Pk × List Nat)} {a : Option Addr} {n c : Nat} (h : ThW w TH a n c) (hb : Below w.heap.size w w') : ThW w' TH a n c := ⟨h.row.below hb, fun q hq => (h.bs q hq).below hb⟩
theorem there_of {w w' : World} {kd : Nat → Role} {p : Nat} {now dr : Int} {hs : List Pa} {nm : Nm} {e : Ending} (h : PoolW w kd p now dr hs) (hp : PiP hs nm w e w') : ∃ TH a n c, e = .returned (.slice a n c) ∧ ThW w' TH a n c ∧ TH.map dat = lookD (absL hs) nm := by
  rcases hp.ans with ⟨z, hz, hnm, rfl⟩ | ⟨hno, rfl⟩
  · obtain ⟨i, hi⟩ := List.getElem?_of_mem hz
    have hw := (h.each z hz).below hp.bel
    exact ⟨z.ps, _, _, _, rfl, ⟨hw.row, fun q hq => (hw.bs q hq).1⟩, by rw [← hnm, look_at h.nodup hi]⟩
  · exact ⟨[], none, 0, 0, rfl, ⟨OwnK.nil _ _, fun q hq => (by cases hq)⟩, by rw [look_no hno]; rfl⟩
theorem any_same (sr ds pr tt id : Nat) (dn mo : Bool) (of : Nat) (xa : Option Addr) (xn xc : Nat) (zs : List Nat) (TH : List (Pk × List Nat)) (a : Option Addr) (n c : Nat) (pb : Nat) (w : World) (ht : ThW w TH a n c) (hbd : ∀ q ∈ TH.map dat, boundD q) (h1 : Sl w xa xn xc zs) (hp : Stc w pb [.int .u32 (sr : Nat), .int .u32 (ds : Nat), .int .u8 (pr : Nat), .int .u8 (tt : Nat), .int .u16 (id : Nat), .bool dn, .bool mo, .int .i64 (of : Nat), .slice xa xn xc]) (v1 v2 : Value) (e1 : v1 = .slice a n c) (e2 : v2 = .func (.func 32) #[] #[.pointer (some ⟨pb, 0, none⟩)]) :
    Calls Try.prog 31 #[v1, v2] w fun e w' => e = .returned (.bool ((TH.map dat).any (sameD ⟨sr, ds, pr, tt, id, dn, mo, (of : Int), zs⟩))) ∧ Below w.heap.size w w' := by
  subst e1 e2
  -- a piece is told by its place in the row: its bytes by the list
  have hlen := ht.row.len
  have hi := idxK2_any TH (fun q => sameD ⟨sr, ds, pr, tt, id, dn, mo, (of : Int), zs⟩ (dat q)) 32 #[.pointer (some ⟨pb, 0, none⟩)] 0 a n c w ht.row sameF (fun W hW q hq => samec2 sr ds pr tt id dn mo of xa xn xc zs q.2 pb q.1 W (by obtain ⟨o, h, _⟩ := hbd (dat q) (List.mem_map.2 ⟨q, hq, rfl⟩); exact ⟨o, h⟩) (h1.below hW) ((ht.bs q hq).below hW) (hp.below hW))
  rw [show (TH.map dat).any (sameD ⟨sr, ds, pr, tt, id, dn, mo, (of : Int), zs⟩) = TH.any (fun q => sameD ⟨sr, ds, pr, tt, id, dn, mo, (of : Int), zs⟩ (dat q)) by rw [List.any_map]; rfl]
  exact hi
theorem any_clash (sr ds pr tt id : Nat) (dn mo : Bool) (of : Nat) (xa : Option Addr) (xn xc : Nat) (zs : List Nat) (TH : List (Pk × List Nat)) (a : Option Addr) (n c : Nat) (pb : Nat) (w : World) (ht : ThW w TH a n c) (hbd : ∀ q ∈ TH.map dat, boundD q) (h1 : Sl w xa xn xc zs) (ho1 : of ≤ 100000) (hn1 : xn ≤ 100000) (hcl : ∀ q ∈ TH.map dat, clashD ⟨sr, ds, pr, tt, id, dn, mo, (of : Int), zs⟩ q = false) (hp : Stc w pb [.int .u32 (sr : Nat), .int .u32 (ds : Nat), .int .u8 (pr : Nat), .int .u8 (tt : Nat), .int .u16 (id : Nat), .bool dn, .bool mo, .int .i64 (of : Nat), .slice xa xn xc]) (v1 v2 : Value) (e1 : v1 = .slice a n c) (e2 : v2 = .func (.func 34) #[] #[.pointer (some ⟨pb, 0, none⟩)]) :
    Calls Try.prog 31 #[v1, v2] w fun e w' => e = .returned (.bool false) ∧ Below w.heap.size w w' := by
  subst e1 e2
  have hi := idxK2_any TH (fun _ => false) 34 #[.pointer (some ⟨pb, 0, none⟩)] 0 a n c w ht.row clashF (fun W hW q hq => clashc2 sr ds pr tt id dn mo of xa xn xc zs q.2 pb q.1 W (hbd (dat q) (List.mem_map.2 ⟨q, hq, rfl⟩)) (ht.bs q hq).len h1.len ho1 hn1 (hcl (dat q) (List.mem_map.2 ⟨q, hq, rfl⟩)) (hp.below hW))
  rw [show TH.any (fun _ => false) = false by rw [List.any_eq_false]; simp] at hi
  exact hi
end Go.Proofs.Ytnbagloifbllbaa
