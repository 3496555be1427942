/- outq: take. -/
import Derived.Test.YtconfmjgoipejaaOqQ
namespace Go.Proofs.Ytconfmjgoipejaa
open Go.RowKit Go.Shelf
attribute [local go_sem] Oper.semAt_some
/-- A piece of which a Sack tells. -/
def tkP (bs : List (Nat × Nat)) (k : Nat) (x : PcA) : PcA :=
  if inB bs ((k : Int) + 1) = true then (if x.1.is = 3 then x else ({ x.1 with is := 3 }, x.2)) else (if x.1.is = 3 then ({ x.1 with is := 2 }, x.2) else x)
def tkN (wy : Nat) (bs : List (Nat × Nat)) (k : Nat) (x : PcA) : Nat := if inB bs ((k : Int) + 1) = true then cntP wy x else 0
def farI (bs : List (Nat × Nat)) (L : List PcA) : Nat → Nat
  | 0 => 0
  | k + 1 => match L[k]? with
    | some x => if inB bs ((k : Int) + 1) = true ∧ ¬ x.1.is = 3 then k + 1 else farI bs L k
    | none => farI bs L k
theorem farI_le (bs : List (Nat × Nat)) (L : List PcA) : ∀ k, farI bs L k ≤ k
  | 0 => Nat.le_refl _
  | k + 1 => by
    have := farI_le bs L k
    unfold farI
    split
    · split <;> omega
    · omega
/-- A sum over the first k, by places. -/
def sumI (f : Nat → PcA → Nat) (L : List PcA) : Nat → Nat
  | 0 => 0
  | k + 1 => sumI f L k + match L[k]? with | some x => f k x | none => 0
theorem sumI_succ {f : Nat → PcA → Nat} {L : List PcA} {k : Nat} {x : PcA} (h : L[k]? = some x) : sumI f L (k + 1) = sumI f L k + f k x := by
  show sumI f L k + (match L[k]? with | some x => f k x | none => 0) = _
  rw [h]
theorem sumI_le {f : Nat → PcA → Nat} {g : PcA → Nat} (h : ∀ k x, f k x ≤ g x) (L : List PcA) : ∀ k, sumI f L k ≤ sumG g L k
  | 0 => by simp [sumI, sumG]
  | k + 1 => by
    have h1 := sumI_le h L k
    cases hx : L[k]? with
    | none =>
      have e : sumI f L (k + 1) = sumI f L k := by
        show sumI f L k + (match L[k]? with | some x => f k x | none => 0) = _
        rw [hx]; rfl
      have e2 : sumG g L (k + 1) = sumG g L k := by
        unfold sumG
        rw [List.take_add_one, hx]
        simp
      rw [e, e2]; exact h1
    | some x =>
      rw [sumI_succ hx, sumG_succ hx]
      have := h k x
      omega
theorem tkN_le (wy : Nat) (bs : List (Nat × Nat)) (k : Nat) (x : PcA) : tkN wy bs k x ≤ cntP wy x := by
  unfold tkN
  split
  · exact Nat.le_refl _
  · exact Nat.zero_le _
structure TakR (w : World) (q nb : Nat) (pa : Option Addr) (cap : Nat) (L : List PcA) (cum size : Nat) (nx : List Nat) (ab b0 b1 : Nat) (mv fs : Bool) (bs : List (Nat × Nat)) (e : Ending) (w' : World) : Prop where
  ex : e = .returned (.int .i64 (farI bs L L.length : Nat))
  qu : QuW w' q nb pa cap (mapI (tkP bs) L L.length) cum size nx
  ac : AcW ab (b0 + sumI (tkN 0 bs) L L.length) (b1 + sumI (tkN 1 bs) L L.length) mv fs w'
  fr : Fr (qA q nb pa ab) w w'
structure TkI (w : World) (q nb : Nat) (pa : Option Addr) (cap : Nat) (L : List PcA) (cum size : Nat) (nx : List Nat) (ab b0 b1 : Nat) (mv fs : Bool) (ba : Option Addr) (bn bc : Nat) (bs : List (Nat × Nat)) (S : Nat) (k : Nat) (W : World) : Prop where
  qu : QuW W q nb pa cap (mapI (tkP bs) L k) cum size nx
  ac : AcW ab (b0 + sumI (tkN 0 bs) L k) (b1 + sumI (tkN 1 bs) L k) mv fs W
  fr : Fr (qA q nb pa ab) w W
  kx : Cx 43 S (.slice ba bn bc) W
  bx : Cx 97 (S + 1) (.pointer (some ⟨ab, 0, none⟩)) W
  gx : Cx 3 (S + 2) (.int .i64 (farI bs L k : Nat)) W
section
variable {w W W' : World} {q nb : Nat} {pa : Option Addr} {cap : Nat} {L : List PcA} {cum size : Nat} {nx : List Nat} {ab b0 b1 : Nat} {mv fs : Bool} {ba : Option Addr} {bn bc : Nat} {bs : List (Nat × Nat)} {S k : Nat}
theorem TkI.grown {row : Option Nat} {B : Nat} (hs : TkI w q nb pa cap L cum size nx ab b0 b1 mv fs ba bn bc bs S k W) (hB : w.heap.size ≤ B) (hg : W.grownBy W' row) (hr : ∀ r, row = some r → B ≤ r ∧ ∃ o : Obj, W.heap[r]? = some o ∧ o.isCells = false) : TkI w q nb pa cap L cum size nx ab b0 b1 mv fs ba bn bc bs S k W' :=
  ⟨hs.qu.grown hg (fun r e => (hr r e).2), hs.ac.grown hg (fun r e => (hr r e).2), hs.fr.new hg (fun r e => by have := (hr r e).1; omega), hs.kx.grown hg (fun r e => (hr r e).2), hs.bx.grown hg (fun r e => (hr r e).2), hs.gx.grown hg (fun r e => (hr r e).2)⟩
theorem TkI.below (hs : TkI w q nb pa cap L cum size nx ab b0 b1 mv fs ba bn bc bs S k W) (hb : Below W.heap.size W W') : TkI w q nb pa cap L cum size nx ab b0 b1 mv fs ba bn bc bs S k W' :=
  ⟨hs.qu.below hb, hs.ac.below hb, hs.fr.trans (Fr.of_below hb), hs.kx.below hb, hs.bx.below hb, hs.gx.below hb⟩
theorem farI_no {x : PcA} (hx : L[k]? = some x) (h : ¬ (inB bs ((k : Int) + 1) = true ∧ ¬ x.1.is = 3)) : farI bs L (k + 1) = farI bs L k := by
  show (match L[k]? with | some x => if inB bs ((k : Int) + 1) = true ∧ ¬ x.1.is = 3 then k + 1 else farI bs L k | none => farI bs L k) = _
  rw [hx]
  exact if_neg h
theorem farI_yes {x : PcA} (hx : L[k]? = some x) (h : inB bs ((k : Int) + 1) = true ∧ ¬ x.1.is = 3) : farI bs L (k + 1) = k + 1 := by
  show (match L[k]? with | some x => if inB bs ((k : Int) + 1) = true ∧ ¬ x.1.is = 3 then k + 1 else farI bs L k | none => farI bs L k) = _
  rw [hx]
  exact if_pos h
/-- Nothing to do. -/
theorem TkI.skip (hs : TkI w q nb pa cap L cum size nx ab b0 b1 mv fs ba bn bc bs S k W) {x : PcA} (hx : L[k]? = some x) (h1 : inB bs ((k : Int) + 1) = decide (x.1.is = 3)) : TkI w q nb pa cap L cum size nx ab b0 b1 mv fs ba bn bc bs S (k + 1) W := by
  have he : tkP bs k x = x := by
    unfold tkP
    by_cases h3 : x.1.is = 3
    · rw [h1, if_pos (by simp [h3]), if_pos h3]
    · rw [h1, if_neg (by simp [h3]), if_neg h3]
  have hn : ∀ wy, tkN wy bs k x = 0 := fun wy => by
    unfold tkN cntP
    by_cases h3 : x.1.is = 3
    · rw [if_neg (c := x.1.is = 1 ∧ x.1.wy = wy) (by omega)]
      split <;> rfl
    · rw [h1, if_neg (by simp [h3])]
  have hf : farI bs L (k + 1) = farI bs L k := farI_no hx (fun e => by rw [h1] at e; simp at e)
  refine ⟨by rw [← mapI_id (tkP bs) L hx he]; exact hs.qu, ?_, hs.fr, hs.kx, hs.bx, by rw [hf]; exact hs.gx⟩
  rw [sumI_succ hx, sumI_succ hx, hn, hn]
  exact hs.ac
/-- It is told no more. -/
theorem TkI.back (hs : TkI w q nb pa cap L cum size nx ab b0 b1 mv fs ba bn bc bs S k W) {x : PcA} {pb : Nat} (hpa : pa = some ⟨pb, 0, none⟩) (hx : L[k]? = some x) (h1 : inB bs ((k : Int) + 1) = false) (h3 : x.1.is = 3) :
    TkI w q nb pa cap L cum size nx ab b0 b1 mv fs ba bn bc bs S (k + 1) (W.setCell ⟨pb, k * 17 + 14, none⟩ (.int .i64 2)) := by
  subst hpa
  have hmk : (mapI (tkP bs) L k)[k]? = some x := by rw [mapI_get _ _ (Nat.le_refl _)]; exact hx
  have hbt : BT W pb 82 := hs.qu.row.bt pb rfl
  have ex : tkP bs k x = ({ x.1 with is := 2 }, x.2) := by unfold tkP; rw [h1, if_neg (by decide), if_pos h3]
  have h := hs.qu.put (j := 14) (v := .int .i64 2) (y := tkP bs k x) rfl hmk (by omega) (by rw [ex]; rfl) (by rw [ex]; exact ⟨rfl, rfl⟩)
  rw [mapI_set (tkP bs) L hx] at h
  have hf : farI bs L (k + 1) = farI bs L k := farI_no hx (fun e => by rw [h1] at e; cases e.1)
  have hn : ∀ wy, tkN wy bs k x = 0 := fun wy => by unfold tkN; rw [h1, if_neg (by decide)]
  refine ⟨h, ?_, hs.fr.put _ _ (.inl (.inl (.inr (.inr ⟨0, none, rfl⟩)))), hs.kx.other _ _ (hbt.ne hs.kx.bt (by decide)), hs.bx.other _ _ (hbt.ne hs.bx.bt (by decide)), by rw [hf]; exact hs.gx.other _ _ (hbt.ne hs.gx.bt (by decide))⟩
  rw [sumI_succ hx, sumI_succ hx, hn, hn]
  exact hs.ac.other _ _ (hbt.ne hs.ac.bt (by decide))
/-- It is told now. -/
theorem TkI.now (hS : w.heap.size ≤ S) (hs : TkI w q nb pa cap L cum size nx ab b0 b1 mv fs ba bn bc bs S k W) {x : PcA} {pb : Nat} (hpa : pa = some ⟨pb, 0, none⟩) (hx : L[k]? = some x) (h1 : inB bs ((k : Int) + 1) = true) (h3 : ¬ x.1.is = 3) {e : Ending} {W4 : World}
    (hc : CntR W ab (b0 + sumI (tkN 0 bs) L k) (b1 + sumI (tkN 1 bs) L k) mv fs x e W4) :
    W4.cell? ⟨pb, k * 17 + 14, none⟩ = some (.int .i64 (x.1.is : Nat)) ∧ W4.frozen? ⟨pb, k * 17 + 14, none⟩ = false ∧ Cx 3 (S + 2) (.int .i64 (farI bs L k : Nat)) W4 ∧
    TkI w q nb pa cap L cum size nx ab b0 b1 mv fs ba bn bc bs S (k + 1) ((W4.setCell ⟨pb, k * 17 + 14, none⟩ (.int .i64 3)).setCell ⟨S + 2, 0, none⟩ (.int .i64 ((k : Int) + 1))) := by
  subst hpa
  have hne := qu_ab hs.qu hs.ac
  have q4 := hs.qu.fr hc.fr (fun e => hne.1 e.symm) (fun e => hne.2.1 e.symm) (fun g hg e => hne.2.2.1 g (hs.qu.row.bt g hg) e.symm) (fun g hg e => hne.2.2.2 g hg e.symm)
  have hmk : (mapI (tkP bs) L k)[k]? = some x := by rw [mapI_get _ _ (Nat.le_refl _)]; exact hx
  have hbt : BT W4 pb 82 := q4.row.bt pb rfl
  have kx4 := hs.kx.fr hc.fr (fun e => hs.ac.bt.ne (e ▸ hs.kx.bt) (by decide) rfl)
  have bx4 := hs.bx.fr hc.fr (fun e => hs.ac.bt.ne (e ▸ hs.bx.bt) (by decide) rfl)
  have gx4 := hs.gx.fr hc.fr (fun e => hs.ac.bt.ne (e ▸ hs.gx.bt) (by decide) rfl)
  obtain ⟨pb2, hp2, hc2⟩ := q4.at_
  have hkl := (List.getElem?_eq_some_iff.1 hmk).1
  have hpe : pb2 = pb := by
    have h1 := hp2.resolve_left (by omega)
    injection h1 with h1
    injection h1 with h1
    exact h1.symm
  subst hpe
  have ex : tkP bs k x = ({ x.1 with is := 3 }, x.2) := by unfold tkP; rw [if_pos h1, if_neg h3]
  have h := q4.put (j := 14) (v := .int .i64 3) (y := tkP bs k x) rfl hmk (by omega) (by rw [ex]; rfl) (by rw [ex]; exact ⟨rfl, rfl⟩)
  rw [mapI_set (tkP bs) L hx] at h
  have h' := h.var ⟨S + 2, 0, none⟩ (.int .i64 ((k : Int) + 1)) (T := 3) (gx4.bt.setCell _ _) (by decide) (by decide) (by decide) (by decide)
  have hf : farI bs L (k + 1) = k + 1 := farI_yes hx ⟨h1, h3⟩
  have hn : ∀ wy, tkN wy bs k x = cntP wy x := fun wy => by unfold tkN; rw [if_pos h1]
  refine ⟨(hc2 k x hmk).2.1 14 _ rfl, (hc2 k x hmk).2.2 _, gx4, h', ?_, ((hs.fr.trans (hc.fr.mono (fun b _ e => .inr e))).put _ _ (.inl (.inl (.inr (.inr ⟨0, none, rfl⟩))))).put _ _ ?_, (kx4.other _ _ (hbt.ne kx4.bt (by decide))).other _ _ (gx4.bt.ne kx4.bt (by decide)), (bx4.other _ _ (hbt.ne bx4.bt (by decide))).other _ _ (gx4.bt.ne bx4.bt (by decide)), ?_⟩
  · rw [sumI_succ hx, sumI_succ hx, hn, hn, ← Nat.add_assoc, ← Nat.add_assoc]
    exact (hc.ac.other _ _ (hbt.ne hc.ac.bt (by decide))).other _ _ (gx4.bt.ne hc.ac.bt (by decide))
  · exact .inr (by show w.heap.size ≤ S + 2; omega)
  · rw [hf]
    exact (gx4.other _ _ (hbt.ne gx4.bt (by decide))).set _
end
set_option maxRecDepth 100000 in
set_option maxHeartbeats 4000000 in
theorem take_any {w : World} {q nb : Nat} {pa : Option Addr} {cap : Nat} {L : List PcA} {cum size : Nat} {nx : List Nat} (h : QuW w q nb pa cap L cum size nx) (hL : L.length ≤ 100000) (hS : sumL L L.length ≤ 100000) (hw : ∀ x ∈ L, x.1.is = 1 → x.1.wy < 2)
    {ab b0 b1 : Nat} {mv fs : Bool} (ha : AcW ab b0 b1 mv fs w) (hb0 : b0 ≤ 500000) (hb1 : b1 ≤ 500000) {ba : Option Addr} {bn bc : Nat} {bs : List (Nat × Nat)} (hB : BlR w ba bn bc bs) (hbk : ∀ b o s, ba = some ⟨b, o, s⟩ → ¬ qA q nb pa ab b) :
    Calls Try.prog 35 #[.pointer (some ⟨q, 0, none⟩), .slice ba bn bc, .pointer (some ⟨ab, 0, none⟩)] w (TakR w q nb pa cap L cum size nx ab b0 b1 mv fs bs) := by
  refine (callsIn_wide (n := 3)).1 ?_
  refine callsIn_of_wp_marks Try.func35 rfl trivial ?_ rfl
  simp only [Try.ntmps35, List.size_toArray, List.length_cons, List.length_nil, Nat.reduceAdd, Nat.reduceSub, Array.replicate_succ, Array.replicate_zero, List.push_toArray, List.append_toArray, List.nil_append, List.cons_append]
  gi_wp2
  refine ⟨trivial, (callsIn_wide.2 (steps_call _ _)).mono ?_⟩
  rintro e w' ⟨rfl, rfl⟩
  gi_wp2
  obtain ⟨V0, hV0⟩ : ∃ V0, V0 = w.alloc (.cells #[.slice ba bn bc] 43) := ⟨_, rfl⟩
  obtain ⟨V1, hV1⟩ : ∃ V1, V1 = V0.alloc (.cells #[.pointer (some ⟨ab, 0, none⟩)] 97) := ⟨_, rfl⟩
  obtain ⟨V, hV⟩ : ∃ V, V = V1.alloc (.cells #[.int .i64 0] 3) := ⟨_, rfl⟩
  obtain ⟨U, hU⟩ : ∃ U, U = V.alloc (.cells #[.pointer (some ⟨q, 0, none⟩)] 23) := ⟨_, rfl⟩
  have zV0 : V0.heap.size = w.heap.size + 1 := by rw [hV0]; simp
  have zV1 : V1.heap.size = w.heap.size + 2 := by rw [hV1]; simp; omega
  have zV : V.heap.size = w.heap.size + 3 := by rw [hV]; simp; omega
  have zU : U.heap.size = w.heap.size + 4 := by rw [hU]; simp; omega
  have x0 := Cx.new w (.slice ba bn bc) 43 V0 hV0
  have x1 := Cx.new V0 (.pointer (some ⟨ab, 0, none⟩)) 97 V1 hV1
  have x2 := Cx.new V1 (.int .i64 0) 3 V hV
  have c0 : Below w.heap.size w V0 := by rw [hV0]; exact (Below.refl _ _).alloc (Nat.le_refl _) _
  have c1 : Below V0.heap.size V0 V1 := by rw [hV1]; exact (Below.refl _ _).alloc (Nat.le_refl _) _
  have c2 : Below V1.heap.size V1 V := by rw [hV]; exact (Below.refl _ _).alloc (Nat.le_refl _) _
  have c3 : Below V.heap.size V U := by rw [hU]; exact (Below.refl _ _).alloc (Nat.le_refl _) _
  have bwU : Below w.heap.size w U := ((c0.trans (c1.mono (by omega))).trans (c2.mono (by omega))).trans (c3.mono (by omega))
  rw [zV0] at x1
  rw [zV1] at x2
  have cU : U.cell? ⟨w.heap.size + 3, 0, none⟩ = some (.pointer (some ⟨q, 0, none⟩)) := by rw [hU, ← zV]; exact box_new V _ _
  have hqU := h.below bwU
  have hIU : TkI w q nb pa cap L cum size nx ab b0 b1 mv fs ba bn bc bs w.heap.size 0 U :=
    ⟨by rw [mapI_zero]; exact hqU, ha.below bwU, Fr.of_below bwU, ((x0.below c1).below c2).below c3, (x1.below c2).below c3, x2.below c3⟩
  have cUq : U.cell? ⟨q, 3, none⟩ = some (.slice pa L.length cap) := hqU.c3
  have hq : q < w.heap.size := h.tq.lt
  have hab : ab < w.heap.size := ha.lt
  obtain ⟨pb, hpa, hpc⟩ := h.at_
  have hpl : ∀ k, k < L.length → pa = some ⟨pb, 0, none⟩ ∧ pb ≠ q ∧ pb < w.heap.size := fun k hk => by
    obtain ⟨x, hx⟩ : ∃ x, L[k]? = some x := ⟨_, List.getElem?_eq_getElem hk⟩
    have hbt := (hpc k x hx).1
    exact ⟨hpa.resolve_left (by omega), (h.neq pb hbt).1, hbt.lt⟩
  have hneq := (qu_ab h ha).1
  have hs0 : ∀ k, sumI (tkN 0 bs) L k ≤ 100000 := fun k => Nat.le_trans (sumI_le (tkN_le 0 bs) L k) (Nat.le_trans (sumG_up _ _ _) (Nat.le_trans (sumG_le (cntP_le 0) L L.length) (by rw [← sumL_G]; exact hS)))
  have hs1 : ∀ k, sumI (tkN 1 bs) L k ≤ 100000 := fun k => Nat.le_trans (sumI_le (tkN_le 1 bs) L k) (Nat.le_trans (sumG_up _ _ _) (Nat.le_trans (sumG_le (cntP_le 1) L L.length) (by rw [← sumL_G]; exact hS)))
  have HBL := (show Hid _ from fun (W : World) (hf : Fr (qA q nb pa ab) w W) => hB.fr hf hbk)
  rw [← hV0, ← hV1, ← hV, ← hU]
  try rw [zV]
  try rw [zV1]
  try rw [zV0]
  clear hV0 hV1 hV hU x0 x1 x2 c0 c1 c2 c3 hqU hB hbk
  refine range_sel (gf := 44) (lb := #[.pointer (some ⟨w.heap.size + 3, 0, none⟩)]) rfl (enters_of Try.func44 (by kernel_rfl) rfl)
    (steps_itr (w.heap.size + 3) q pb L.length cap pa hpa (by omega)) (fun _ => rfl)
    (fun W2 h2 => ⟨(h2.cell (p := ⟨w.heap.size + 3, 0, none⟩) (by show w.heap.size + 3 < _; omega)).trans cU, (h2.cell (p := ⟨q, 3, none⟩) (by show q < _; omega)).trans cUq⟩)
    (fun b hb => by rcases hb with rfl | rfl <;> omega)
    (TkI w q nb pa cap L cum size nx ab b0 b1 mv fs ba bn bc bs w.heap.size)
    (TkI w q nb pa cap L cum size nx ab b0 b1 mv fs ba bn bc bs w.heap.size)
    (fun _ _ => False)
    (fun s A B row hs hg hr => hs.grown (by omega) hg hr)
    (fun s A B row hs hg hr => hs.grown (by omega) hg hr)
    (fun c s A B row hs hg hr => hs)
    hIU
    (fun k W2 _ h => .inl ⟨rfl, h⟩)
    (fun k => { tmps := #[.pointer (some ⟨q, 0, none⟩), .slice ba bn bc, .pointer (some ⟨ab, 0, none⟩), undef, .pointer (some ⟨w.heap.size, 0, none⟩), .pointer (some ⟨w.heap.size + 1, 0, none⟩), .int .i64 0, .pointer (some ⟨w.heap.size + 2, 0, none⟩), .int .i64 ((k : Int) + 1), .pointer (some ⟨pb, k * 17, none⟩), undef, .pointer (some ⟨q, 0, none⟩), .func (.func 44) #[] #[.pointer (some ⟨w.heap.size + 3, 0, none⟩)], .int .i64 ((k : Int) + 1), .pointer (some ⟨pb, k * 17, none⟩), undef, undef, undef, undef, undef, undef, undef, undef, undef, undef, undef, undef, undef, undef, undef, undef, undef, undef, undef, undef, undef, undef, undef, undef, undef, undef, undef, undef, undef, undef, undef, undef, undef], defers := [] }) ?assign ?body ?done ?stop
  case assign =>
    intro n' l' k W2 K hK
    gi_wp2
    exact hK
  case body =>
    rintro n' l' k W2 hk hI hz2
    have hck := hI.kx.cell
    have HIN := (show Hid _ from fun (_ : Unit) => isIn_any (HBL.out W2 hI.fr) ((k : Int) + 1))
    have HI := (show Hid _ from hI)
    clear hI
    gi_wp2
    refine ⟨trivial, fun h => (by cases h), CallsIn.inRound l' ((callsIn_wide.2 (HIN.out ())).mono ?_)⟩
    rintro e W3 ⟨rfl, b3⟩
    have hI := HI.out.below b3
    have b3s := b3.size
    have HK3 : Hid (∀ {P : Nat → Prop} {W4 : World}, Fr P W3 W4 → (∀ b, P b → b = pb ∨ b = ab ∨ b = w.heap.size + 2) → pb ≠ q → pb < w.heap.size → Kq U.heap.size (2 + 0) (qQ (w.heap.size + 3) q) W2 W4) := fun {P W4} hf hP hpq hpw =>
      kq_new ((Fr.of_below (P := P) b3).trans hf) (by omega) (fun b hb => by rcases hb with rfl | rfl <;> omega) (fun b hb => by rcases hP b hb with rfl | rfl | rfl <;> omega) (fun b hb => by
        rcases hP b hb with rfl | rfl | rfl
        · show ¬ (b = _ ∨ b = q)
          omega
        · show ¬ (b = _ ∨ b = q)
          omega
        · show ¬ (w.heap.size + 2 = _ ∨ w.heap.size + 2 = q)
          omega)
    clear HI HIN hck b3
    obtain ⟨hpa1, hpq, hpw⟩ := hpl k hk
    obtain ⟨x, hxk⟩ : ∃ x, L[k]? = some x := ⟨_, List.getElem?_eq_getElem hk⟩
    have hmk : (mapI (tkP bs) L k)[k]? = some x := by rw [mapI_get _ _ (Nat.le_refl _)]; exact hxk
    obtain ⟨pb2, hp2, hc2⟩ := hI.qu.at_
    have hpe : pb2 = pb := by
      have h1 := hp2.resolve_left (by rw [mapI_len]; omega)
      rw [hpa1] at h1
      injection h1 with h1
      injection h1 with h1
      exact h1.symm
    subst hpe
    have hcc := (hc2 k x hmk).2.1
    have k14 := hcc 14 _ rfl
    have f14 := (hc2 k x hmk).2.2 (k * 17 + 14)
    have hxl : x.1.zs.length ≤ 1000000 := by
      have h1 := sumL_le (L := L) (k + 1)
      rw [sumL_succ hxk] at h1
      omega
    have HCN := (show Hid _ from fun (_ : Unit) => count_any hI.ac (pb := pb2) (k := k) (x := x) (by have := hs0 k; omega) (by have := hs1 k; omega) hxl (hw x (List.mem_of_getElem? hxk)) (hcc 14 _ rfl) (hcc 15 _ rfl) (hcc 13 _ rfl))
    have HNOW := (show Hid _ from fun (h1 : inB bs ((k : Int) + 1) = true) (h3 : ¬ x.1.is = 3) (e : Ending) (W4 : World) hc => hI.now (Nat.le_refl _) hpa1 hxk h1 h3 (e := e) (W4 := W4) hc)
    have HBACK := (show Hid _ from fun h1 h3 => hI.back hpa1 hxk h1 h3)
    have HSKIP := (show Hid _ from fun h1 => hI.skip hxk h1)
    have ka := hI.bx.cell
    obtain ⟨is, his⟩ : ∃ is, is = x.1.is := ⟨_, rfl⟩
    rw [← his] at k14 HNOW HBACK HSKIP
    clear hI hcc hc2 hp2 hpa hmk his hpa1
    cases hin : inB bs ((k : Int) + 1) with
    | true =>
      by_cases h3 : is = 3
      · have hz3 : ((is : Int) != 3) = false := by simp [h3]
        have hz4 : ((is : Int) == 3) = true := by simp [h3]
        have H := (show Hid _ from HSKIP.out (by rw [hin]; simp [h3]))
        have HK := (show Hid _ from HK3.out (Fr.refl (fun _ => False) W3) (fun b hb => hb.elim) hpq hpw)
        clear HNOW HBACK HSKIP HCN HK3
        subst h3
        gi_wp2
        exact ⟨HK.out, H.out⟩
      · have hz3 : ((is : Int) != 3) = true := by simp; omega
        have HN := (show Hid _ from HNOW.out hin h3)
        clear HNOW HBACK HSKIP
        gi_wp2
        refine ⟨trivial, fun h => (by cases h), CallsIn.inRound l' ((callsIn_wide.2 (HCN.out ())).mono ?_)⟩
        rintro e W4 hc4
        obtain ⟨j14, g14, jg, hI5⟩ := HN.out e W4 hc4
        obtain ⟨rfl, _, hfr4⟩ := hc4
        have HI5 := (show Hid _ from hI5)
        have jgc := jg.cell
        have jgf := jg.free
        have HK := (show Hid _ from HK3.out (P := fun b => b = pb2 ∨ b = ab ∨ b = w.heap.size + 2) (((hfr4.mono (fun b _ e => .inr (.inl e))).put ⟨pb2, k * 17 + 14, none⟩ (.int .i64 3) (.inl (.inl rfl))).put ⟨w.heap.size + 2, 0, none⟩ (.int .i64 ((k : Int) + 1)) (.inl (.inr (.inr rfl)))) (fun b hb => hb) hpq hpw)
        have hne9 : ¬ pb2 = w.heap.size + 2 := by omega
        clear HN HCN hI5 jg hfr4 HK3 k14 f14 ka
        gi_wp2
        exact ⟨HK.out, HI5.out⟩
    | false =>
      by_cases h3 : is = 3
      · have hz4 : ((is : Int) == 3) = true := by simp [h3]
        have H := (show Hid _ from HBACK.out hin h3)
        have HK := (show Hid _ from HK3.out (P := fun b => b = pb2 ∨ b = ab ∨ b = w.heap.size + 2) ((Fr.refl _ W3).put ⟨pb2, k * 17 + 14, none⟩ (.int .i64 2) (.inl (.inl rfl))) (fun b hb => hb) hpq hpw)
        clear HNOW HBACK HSKIP HCN HK3
        subst h3
        gi_wp2
        exact ⟨HK.out, H.out⟩
      · have hz4 : ((is : Int) == 3) = false := by simp; omega
        have H := (show Hid _ from HSKIP.out (by rw [hin]; simp [h3]))
        have HK := (show Hid _ from HK3.out (Fr.refl (fun _ => False) W3) (fun b hb => hb.elim) hpq hpw)
        clear HNOW HBACK HSKIP HCN HK3
        gi_wp2
        exact ⟨HK.out, H.out⟩
  case done =>
    rintro W2 hI hD
    have hg2 := hI.gx.cell
    have HI := (show Hid _ from hI)
    clear hI
    gi_wp2
    refine ⟨by simp, .inl ⟨_, _, rfl, run_takeDeferred hD, ?_⟩⟩
    have hg := grownBy_putObj' W2 U.heap.size (.deferred none)
    have hI2 := HI.out.grown (B := w.heap.size) (Nat.le_refl _) hg (fun r e => by cases e; exact ⟨by omega, _, hD, rfl⟩)
    exact ⟨_, results_tmp rfl _ _ _, rfl, hI2.qu, hI2.ac, hI2.fr⟩
  case stop =>
    rintro c W2 hF hD
    exact hF.elim
end Go.Proofs.Ytconfmjgoipejaa
