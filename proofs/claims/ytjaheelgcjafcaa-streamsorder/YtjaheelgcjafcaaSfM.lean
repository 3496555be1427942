/- streams: a row of messages that are told, as it lies; what release takes out of the maps. -/
import Derived.Test.YtjaheelgcjafcaaSfC
import Derived.Test.YtjaheelgcjafcaaSfL
namespace Go.Proofs.Ytjaheelgcjafcaa
open Go.RowKit Go.MapKept Go.Maps
/-- A message, and where its bytes lie. -/
abbrev Mq := Mg × Option Addr × Nat
def Mq.v (x : Mq) : List Value := x.1.v x.2.1 x.2.2
abbrev OwnM := OwnG 51 5 Mq.v
theorem layM : Lays Try.prog 32 51 5 40 Mq.v :=
  ⟨Try.underlying32, ⟨.agg #[.int .u16 0, .int .u16 0, .int .u32 0, .bool false, .slice none 0 0], by kernel_rfl, rfl⟩, by decide, fun _ => rfl, fun x u hu => by
    simp [Mq.v, Mg.v] at hu
    rcases hu with rfl | rfl | rfl | rfl | rfl <;> rfl⟩
/-- Messages told, in a row of new memory (from B on). -/
structure MsgsW (w : World) (B : Nat) (a : Option Addr) (n c : Nat) (T : List Mg) : Prop where
  ex : ∃ xs : List Mq, xs.map (·.1) = T ∧ OwnM w B a n c xs ∧ ∀ x ∈ xs, OwnB w B x.2.1 x.1.zs.length x.2.2 x.1.zs
theorem MsgsW.nil (w : World) (B : Nat) : MsgsW w B none 0 0 [] := ⟨[], rfl, OwnG.nil _ _, fun x hx => (by cases hx)⟩
theorem MsgsW.len {w : World} {B : Nat} {a : Option Addr} {n c : Nat} {T : List Mg} (h : MsgsW w B a n c T) : n = T.length := by
  obtain ⟨xs, h1, h2, _⟩ := h.ex
  rw [← h1, List.length_map, h2.len]
theorem MsgsW.fr {w w' : World} {B : Nat} {a : Option Addr} {n c : Nat} {T : List Mg} {Q : Nat → Prop} (h : MsgsW w B a n c T) (hf : Fr Q w w') (hq : ∀ g, B ≤ g → g < w.heap.size → ¬ Q g) : MsgsW w' B a n c T := by
  obtain ⟨xs, h1, h2, h3⟩ := h.ex
  exact ⟨xs, h1, OwnG.fr h2 hf (fun g hg => hq g (h2.own.lt g hg).1 (h2.own.lt g hg).2), fun x hx => (h3 x hx).fr hf hq⟩
theorem MsgsW.below {w w' : World} {B : Nat} {a : Option Addr} {n c : Nat} {T : List Mg} (h : MsgsW w B a n c T) (hb : Below w.heap.size w w') : MsgsW w' B a n c T := h.fr (Q := fun _ => False) (Fr.of_below hb) (fun _ _ _ e => e)
theorem MsgsW.base {w : World} {B B' : Nat} {a : Option Addr} {n c : Nat} {T : List Mg} (h : MsgsW w B a n c T) (hB : B' ≤ B) : MsgsW w B' a n c T := by
  obtain ⟨xs, h1, h2, h3⟩ := h.ex
  exact ⟨xs, h1, OwnG.base h2 hB, fun x hx => (h3 x hx).base hB⟩
theorem ty_msg : (5 : Nat) ≠ 51 := by decide
/-- Bytes do not lie in a row of messages. -/
theorem ownB_apart {w : World} {B B' : Nat} {a a' : Option Addr} {n c n' c' : Nat} {zs : List Nat} {xs : List Mq} (h : OwnB w B a n c zs) (k : OwnM w B' a' n' c' xs) (g : Nat) (hg : (Value.slice a n c).ownBlock = some g) : (Value.slice a' n' c').ownBlock ≠ some g := by
  intro hg'
  rcases h.own.2 with ⟨hv, _⟩ | ⟨g1, cap, cur, hv, _, hh, _⟩
  · injection hv with e1; subst e1; cases hg
  · injection hv with e1
    subst e1
    obtain rfl : g1 = g := Option.some.inj hg
    rcases k.own.2 with ⟨hv', _⟩ | ⟨g2, cap2, cur2, hv', _, hh', _⟩
    · injection hv' with e1; subst e1; cases hg'
    · injection hv' with e1
      subst e1
      obtain rfl : g2 = g1 := Option.some.inj hg'
      rw [hh] at hh'
      injection hh' with hh'
      injection hh' with _ e2
      exact ty_msg e2
/-- One more message told. -/
theorem MsgsW.app {w : World} {B : Nat} {a : Option Addr} {n c : Nat} {T : List Mg} (h : MsgsW w B a n c T) {m : Mg} {ma : Option Addr} {mc : Nat} (hm : OwnB w B ma m.zs.length mc m.zs) (hB : B ≤ w.heap.size) (hn : n ≤ 1000) :
    ∃ g c' w', (Builtin.append_ #[32, 32] 32 #[.slice a n c, .slice (some ⟨w.heap.size, 0, none⟩) 1 1]).run Try.prog (w.alloc (.cells (m.v ma mc).toArray 51)) = .ok (.slice (some ⟨g, 0, none⟩) (n + 1) c') w' ∧ MsgsW w' B (some ⟨g, 0, none⟩) (n + 1) c' (T ++ [m]) ∧ Fr (fun k => B ≤ k) w w' := by
  obtain ⟨xs, h1, h2, h3⟩ := h.ex
  have b0 : Below w.heap.size w (w.alloc (.cells (m.v ma mc).toArray 51)) := (Below.refl _ _).alloc (Nat.le_refl _) _
  have st2 := Stc.new w (m.v ma mc) 51 _ rfl
  have h2a := OwnG.below h2 b0
  obtain ⟨g7, c7, w7, hr7, ho7, hgr7, hg7, hg7l⟩ := OwnG.app layM h2a 32 (m, ma, mc) ⟨w.heap.size, 0, none⟩ (fun j u hj => by
    have := st2.cell j u hj
    unfold Addr.add
    split
    · rename_i e; subst e; exact this
    · simpa using this) (by unfold maxLen; omega) (by omega) (Nat.le_trans hB b0.size)
  have keep : ∀ (x : Mq), OwnB w B x.2.1 x.1.zs.length x.2.2 x.1.zs → OwnB w7 B x.2.1 x.1.zs.length x.2.2 x.1.zs := fun x hx => by
    have hx2 := hx.below b0
    refine hx2.kept hgr7 ?_
    cases e : (Value.slice x.2.1 x.1.zs.length x.2.2).ownBlock with
    | none => exact .inl rfl
    | some g => exact .inr (fun e2 => ownB_apart hx2 h2a g e (e2 ▸ rfl))
  refine ⟨g7, c7, w7, hr7, ⟨xs ++ [(m, ma, mc)], by rw [List.map_append, h1]; rfl, ho7, fun x hx => ?_⟩, (Fr.of_below b0).trans (Fr.grown hgr7 (fun k hk => (h2.own.lt k hk).1))⟩
  rcases List.mem_append.1 hx with hx | hx
  · exact keep x (h3 x hx)
  · simp at hx
    subst hx
    exact keep (m, ma, mc) hm
/-- A row of one message, as it is written out. -/
theorem MsgsW.one {w : World} {B : Nat} {m : Mg} {ma : Option Addr} {mc : Nat} (hm : OwnB w B ma m.zs.length mc m.zs) (hB : B ≤ w.heap.size) : MsgsW (w.alloc (.cells (m.v ma mc).toArray 51)) B (some ⟨w.heap.size, 0, none⟩) 1 1 [m] := by
  have b0 : Below w.heap.size w (w.alloc (.cells (m.v ma mc).toArray 51)) := (Below.refl _ _).alloc (Nat.le_refl _) _
  refine ⟨[(m, ma, mc)], rfl, OwnG.base (OwnG.one (T := 51) (cf := Mq.v) (fun _ => rfl) w (m, ma, mc) _ rfl) hB, fun x hx => ?_⟩
  simp at hx
  subst hx
  exact hm.below b0
section
variable {w w' : World} {p nb mb wb : Nat} {wr : Nat → Option Addr × Nat} {Y : Nat → Prop} {s : SmS}
/-- Other messages wait. -/
theorem SmW.setW (h : SmW w p nb mb wb wr Y s) (hf : Fr (fun k => k = wb) w w') {wr' : Nat → Option Addr × Nat} {W' : List (Nat × List Pc)} (hm : Mp tuV IpK w' wb W'.length (fun q => (lookD W' q).map (wval wr' q))) (hws : ∀ y ∈ W', IpK y.1 ∧ RowW Y w' (wr' y.1).1 (wr' y.1).2 y.2) (hs : Srt W') (hl : s.D.length + sumD List.length W' ≤ 128) : SmW w' p nb mb wb wr' Y ⟨s.nx, s.D, W'⟩ := by
  obtain ⟨n1, n2, n3, n4, n5, n6⟩ := h.ne
  have hyq : ∀ g, g < w.heap.size → g = wb → ¬ Y g := fun g _ e hy => (h.yx g hy).2.2.2 e
  exact ⟨h.st.fr hf n3, fun i hi => (hf.cell ⟨nb, i, none⟩ h.nl n5).trans (h.nx i hi), fun i => (hf.frozen ⟨nb, i, none⟩ h.nl n5).trans (h.nf i), Nat.lt_of_lt_of_le h.nl hf.size, h.n1, h.n8, h.nv, h.mp.fr hf n6, hm, fun y hy => ⟨(h.ds y hy).1, (h.ds y hy).2.fr hf hyq⟩, hws, h.sd, hs, h.ne, h.yx, fun g hg => Nat.lt_of_lt_of_le (h.yl g hg) hf.size, hl, h.dn⟩
/-- 'pieces, waits := s.waiting[turn{st, ss}]'. -/
theorem SmW.lookW (h : SmW w p nb mb wb wr Y s) (hb : Below w.heap.size w w') (st ss : Nat) (hs : ss < 65536) (ht : st < 65536) :
    (Instr.lookup 74 (.map (some wb)) (.agg #[.int .u16 (st : Nat), .int .u16 (ss : Nat)]) true).run Try.prog w' = .ok (.tuple #[((lookD s.W (tkey st ss)).map (wval wr (tkey st ss))).getD (.slice none 0 0), .bool (lookD s.W (tkey st ss)).isSome]) w' := by
  have := (h.wm.below hb).look tuKE true Try.underlying74 (zero_pcs w') (q := tkey st ss) (tkey_lt ht hs)
  rw [tu_key st ss hs] at this
  rw [this]
  cases lookD s.W (tkey st ss) <;> rfl
/-- A message waits no more. -/
theorem SmW.delW (h : SmW w p nb mb wb wr Y s) (st ss : Nat) (hs : ss < 65536) (ht : st < 65536) (ty : TypeId) : ∃ w', (Builtin.delete_ #[74, 86] ty #[.map (some wb), .agg #[.int .u16 (st : Nat), .int .u16 (ss : Nat)]]).run Try.prog w = .ok (.tuple #[]) w' ∧ SmW w' p nb mb wb wr Y ⟨s.nx, s.D, Go.Proofs.Ytjaheelgcjafcaa.delD s.W (tkey st ss)⟩ ∧ Fr (fun k => k = wb) w w' := by
  obtain ⟨w6, hr6, hm6, hf6, _⟩ := h.wm.del (P := Try.prog) tuKE Try.underlying74 (q := tkey st ss) (tkey_lt ht hs) ty
  rw [tu_key st ss hs] at hr6
  have hyq : ∀ g, g < w.heap.size → g = wb → ¬ Y g := fun g _ e hy => (h.yx g hy).2.2.2 e
  refine ⟨w6, hr6, h.setW hf6 (Mp.cut (f := fun q => wval wr q) hm6 tuKE.inj h.sw (fun y hy => (h.ws y hy).1)) (fun y hy => ⟨(h.ws y (delD_mem hy)).1, (h.ws y (delD_mem hy)).2.fr hf6 hyq⟩) (h.sw.del _) ?_, hf6⟩
  have h1 := sum_del List.length s.W (tkey st ss)
  have h2 := h.held
  unfold SmS.heldN at h2
  omega
/-- A message waits: its row lies at ra. -/
theorem SmW.putW (h : SmW w p nb mb wb wr Y s) (st ss : Nat) (hs : ss < 65536) (ht : st < 65536) {ra : Option Addr} {rc : Nat} {ps : List Pc} (hrow : RowW Y w ra rc ps) (hl : s.D.length + (sumD List.length s.W + ps.length) ≤ 128) :
    ∃ w' wr', (Instr.mapUpdate 74 (.map (some wb)) (.agg #[.int .u16 (st : Nat), .int .u16 (ss : Nat)]) (.slice ra ps.length rc)).run Try.prog w = .ok () w' ∧ SmW w' p nb mb wb wr' Y ⟨s.nx, s.D, putD s.W (tkey st ss) ps⟩ ∧ Fr (fun k => k = wb) w w' := by
  obtain ⟨w6, hr6, hm6, hf6, _⟩ := h.wm.upd (P := Try.prog) tuKE Try.underlying74 (q := tkey st ss) (tkey_lt ht hs) (.slice ra ps.length rc)
  rw [tu_key st ss hs] at hr6
  have hyq : ∀ g, g < w.heap.size → g = wb → ¬ Y g := fun g _ e hy => (h.yx g hy).2.2.2 e
  refine ⟨w6, fun q => if q = tkey st ss then (ra, rc) else wr q, hr6, h.setW hf6 (Mp.put (f := fun q => wval wr q) (f' := fun q => wval (fun q => if q = tkey st ss then (ra, rc) else wr q) q) hm6 tuKE.inj h.sw (fun y hy => (h.ws y hy).1) (tkey_lt ht hs) (by unfold wval; simp) (fun q' y hne => by unfold wval; simp [hne])) (fun y hy => ?_) (h.sw.put _ _) ?_, hf6⟩
  · by_cases e : y.1 = tkey st ss
    · have e2 : y.2 = ps := by
        have h1 := (h.sw.put (tkey st ss) ps).look (q := y.1) (x := y.2) hy
        rw [look_put _ _ _ _ h.sw, if_pos e] at h1
        exact (Option.some.inj h1).symm
      rw [if_pos e, e2, e]
      exact ⟨tkey_lt ht hs, hrow.fr hf6 hyq⟩
    · rcases putD_mem hy with e3 | e3
      · rw [e3] at e; exact absurd rfl e
      · rw [if_neg e]
        exact ⟨(h.ws y e3).1, (h.ws y e3).2.fr hf6 hyq⟩
  · have h1 := sum_put List.length s.W (tkey st ss) ps h.sw
    omega
/-- What a stream awaits goes on. -/
theorem SmW.setN (h : SmW w p nb mb wb wr Y s) (st v : Nat) (hst : st < s.nx.length) (hv : v < 65536) : SmW (w.setCell ⟨nb, st, none⟩ (.int .u16 (v : Nat))) p nb mb wb wr Y ⟨s.nx.set st v, s.D, s.W⟩ := by
  obtain ⟨n1, n2, n3, n4, n5, n6⟩ := h.ne
  have hf := Fr.setCell (fun k => k = nb) w ⟨nb, st, none⟩ (.int .u16 (v : Nat)) rfl
  have hyq : ∀ g, g < w.heap.size → g = nb → ¬ Y g := fun g _ e hy => (h.yx g hy).2.1 e
  refine ⟨by simpa using h.st.fr hf n1, fun i hi => ?_, fun i => by rw [World.frozen?_setCell]; exact h.nf i, Nat.lt_of_lt_of_le h.nl hf.size, by simpa using h.n1, by simpa using h.n8, fun i => ?_, h.mp.fr hf (fun e => n4 e.symm), h.wm.fr hf (fun e => n5 e.symm), fun y hy => ⟨(h.ds y hy).1, (h.ds y hy).2.fr hf hyq⟩, fun y hy => ⟨(h.ws y hy).1, (h.ws y hy).2.fr hf hyq⟩, h.sd, h.sw, h.ne, h.yx, fun g hg => Nat.lt_of_lt_of_le (h.yl g hg) hf.size, h.held, fun y hy => by simpa using h.dn y hy⟩
  · dsimp only at hi ⊢
    rw [List.length_set] at hi
    by_cases e : i = st
    · subst e
      rw [World.cell?_setCell_same' _ _ _ (by rw [h.nx i hi]; rfl)]
      simp [List.getD_eq_getElem?_getD, hst]
    · rw [World.cell?_setCell_other _ _ _ _ (by intro e2; injection e2 with _ e3; exact e e3.symm), h.nx i hi]
      simp [List.getD_eq_getElem?_getD, Ne.symm e]
  · dsimp only
    rw [List.getD_eq_getElem?_getD, List.getElem?_set]
    split
    · exact hv
    · have := h.nv i
      rw [List.getD_eq_getElem?_getD] at this
      exact this
end
end Go.Proofs.Ytjaheelgcjafcaa
