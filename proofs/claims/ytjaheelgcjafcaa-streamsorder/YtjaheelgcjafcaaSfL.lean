/- streams: pieces are taken out. -/
import Derived.Test.YtjaheelgcjafcaaSfR
namespace Go.Proofs.Ytjaheelgcjafcaa
open Go.RowKit Go.MapKept Go.Maps
abbrev OwnP := OwnG 79 5 Pc.v
theorem layP : Lays Try.prog 83 79 5 40 Pc.v :=
  ⟨Try.underlying83, ⟨zeroPc.val, by kernel_rfl, rfl⟩, by decide, fun _ => rfl, fun x u hu => by
    simp [Pc.v] at hu
    rcases hu with rfl | rfl | rfl | rfl | rfl <;> rfl⟩
theorem mkp (c : Nat) (hc : c ≤ 1000) (w : World) : (Instr.makeSlice 83 (.int .i64 0) (.int .i64 (c : Int))).run Try.prog w = .ok (.slice (some ⟨w.heap.size, 0, none⟩) 0 c) (w.alloc (.cells (madeCells zeroPc.val.cells (c * 5)) 79)) := by
  have hinfo : (Try.prog.info? 79).map (fun i => (i.zero, i.size, i.bytes)) = some (some zeroPc.val, 5, 40) := by kernel_rfl
  obtain ⟨i, hi, hz0, hz1, hz2⟩ := info_parts hinfo
  have := run_make (P := Try.prog) w 83 79 i zeroPc.val Try.underlying83 hi hz0 .i64 .i64 0 (c : Int) (by omega) (by omega) (by rw [hz2]; omega) (by omega)
  rw [hz1] at this
  simpa using this
theorem own_madeP (w : World) (c : Nat) (hc : c ≤ 1000) : OwnP (w.alloc (.cells (madeCells zeroPc.val.cells (c * 5)) 79)) w.heap.size (some ⟨w.heap.size, 0, none⟩) 0 c [] :=
  ⟨rfl, World.ownsRow_made w _ c (Nat.le_refl _) (by unfold maxLen; omega) (by rw [size_madeCells])⟩
section
variable {w w' : World} {p nb mb wb : Nat} {wr : Nat → Option Addr × Nat} {Y : Nat → Prop} {s : SmS}
/-- Other pieces in the map. -/
theorem SmW.setD (h : SmW w p nb mb wb wr Y s) (hf : Fr (fun k => k = mb) w w') {D' : List (Nat × Pc)} (hm : Mp ipV IpK w' mb D'.length (fun q => (lookD D' q).map Pc.val)) (hds : ∀ y ∈ D', IpK y.1 ∧ PcW Y w' y.2) (hs : Srt D') (hl : D'.length + sumD List.length s.W ≤ 128) (hdn : ∀ y ∈ D', y.2.st < s.nx.length) : SmW w' p nb mb wb wr Y ⟨s.nx, D', s.W⟩ := by
  obtain ⟨n1, n2, n3, n4, n5, n6⟩ := h.ne
  have hyq : ∀ g, g < w.heap.size → g = mb → ¬ Y g := fun g _ e hy => (h.yx g hy).2.2.1 e
  exact ⟨h.st.fr hf n2, fun i hi => (hf.cell ⟨nb, i, none⟩ h.nl n4).trans (h.nx i hi), fun i => (hf.frozen ⟨nb, i, none⟩ h.nl n4).trans (h.nf i), Nat.lt_of_lt_of_le h.nl hf.size, h.n1, h.n8, h.nv, hm, h.wm.fr hf (fun e => n6 e.symm), hds, fun y hy => ⟨(h.ws y hy).1, (h.ws y hy).2.fr hf hyq⟩, hs, h.sw, h.ne, h.yx, fun g hg => Nat.lt_of_lt_of_le (h.yl g hg) hf.size, hl, hdn⟩
/-- A piece is deleted. -/
theorem SmW.delD (h : SmW w p nb mb wb wr Y s) (q : Nat) (hq : IpK q) : ∃ w', (Builtin.delete_ #[73, 30] 0 #[.map (some mb), .int .u32 (q : Nat)]).run Try.prog w = .ok (.tuple #[]) w' ∧ SmW w' p nb mb wb wr Y ⟨s.nx, delD s.D q, s.W⟩ ∧ Fr (fun k => k = mb) w w' := by
  obtain ⟨w6, hr6, hm6, hf6, _⟩ := h.mp.del (P := Try.prog) ipKE Try.underlying73 (q := q) hq 0
  unfold ipV at hr6
  have hyq : ∀ g, g < w.heap.size → g = mb → ¬ Y g := fun g _ e hy => (h.yx g hy).2.2.1 e
  refine ⟨w6, hr6, h.setD hf6 (Mp.cut (f := fun _ => Pc.val) hm6 ipKE.inj h.sd (fun y hy => (h.ds y hy).1)) (fun y hy => ⟨(h.ds y (delD_mem hy)).1, (h.ds y (delD_mem hy)).2.fr hf6 hyq⟩) (h.sd.del q) ?_ (fun y hy => h.dn y (delD_mem hy)), hf6⟩
  have h1 := len_del s.D q
  have h2 := h.held
  unfold SmS.heldN at h2
  split at h1 <;> omega
end
theorem look_liftn : ∀ (L : List Nat) (D : List (Nat × Pc)) (q : Nat), Srt D → q ∉ L → lookD (liftD D L) q = lookD D q
  | [], _, _, _, _ => rfl
  | r :: L, D, q, hs, hq => by
    show lookD (liftD (delD D r) L) q = _
    rw [look_liftn L (delD D r) q (hs.del r) (fun h => hq (List.mem_cons_of_mem _ h)), look_del _ _ _ hs, if_neg (fun e => hq (by rw [e]; exact List.mem_cons_self))]
structure LiftP (w : World) (p nb mb wb : Nat) (wr : Nat → Option Addr × Nat) (Y : Nat → Prop) (s : SmS) (L : List Nat) (e : Ending) (w' : World) : Prop where
  ex : ∃ g c, e = .returned (.slice (some ⟨g, 0, none⟩) L.length c) ∧ w.heap.size ≤ g ∧ g < w'.heap.size ∧ RowW (fun k => Y k ∨ k = g) w' (some ⟨g, 0, none⟩) c (L.map (pcAt s.D))
  sm : SmW w' p nb mb wb wr Y ⟨s.nx, liftD s.D L, s.W⟩
  fr : Fr (fun k => k = mb) w w'
set_option linter.unusedVariables false in
set_option maxRecDepth 100000 in
set_option maxHeartbeats 4000000 in
theorem lift_any {w : World} {p nb mb wb : Nat} {wr0 : Nat → Option Addr × Nat} {Y : Nat → Prop} {s : SmS} (h : SmW w p nb mb wb wr0 Y s) {B : Nat} {a : Option Addr} {c : Nat} {L : List Nat} (hrow : OwnT w B a L.length c L) (hB : mb < B) (hpos : 0 < L.length) (hnd : L.Nodup) (hin : ∀ q ∈ L, (lookD s.D q).isSome = true) (hlt32 : ∀ q ∈ L, q < 4294967296) (hL : L.length ≤ 128) :
    Calls Try.prog 28 #[.pointer (some ⟨p, 0, none⟩), .slice a L.length c] w (LiftP w p nb mb wb wr0 Y s L) := by
  obtain ⟨gr, rfl, hgr1, hgr2, hcap, hcapm, hcell, _⟩ := OwnG.at_ hrow (fun _ => rfl) hpos
  have HC := (show Hid _ from hcell)
  have HH := (show Hid _ from And.intro h (And.intro hnd (And.intro hin hlt32)))
  have hpl := h.st.lt
  have hgm : ¬ gr = mb := by omega
  obtain ⟨n, hn⟩ : ∃ n, n = L.length := ⟨_, rfl⟩
  obtain ⟨W0, hW0⟩ : ∃ W0, W0 = w.alloc (.cells (madeCells zeroPc.val.cells (n * 5)) 79) := ⟨_, rfl⟩
  have hmk : (Instr.makeSlice 83 (.int .i64 0) (.int .i64 (n : Int))).run Try.prog w = .ok (.slice (some ⟨w.heap.size, 0, none⟩) 0 n) W0 := by rw [hW0]; exact mkp n (by omega) w
  have hown0 : OwnP W0 w.heap.size (some ⟨w.heap.size, 0, none⟩) 0 n [] ∧ Below w.heap.size w W0 := by rw [hW0]; exact ⟨own_madeP w n (by omega), (Below.refl _ _).alloc (Nat.le_refl _) _⟩
  rw [← hn] at hL hpos hcap ⊢
  have HN := (show Hid _ from hn)
  have HO := (show Hid _ from hown0)
  clear hcell h hnd hin hlt32 hrow hn hown0 hW0
  go_enter Try.func28, Try.ntmps28
  go_wp2
  clear hmk
  go_loopw [5, 13] (fun u5 u13 wr => ∃ (i : Nat) (a1 : Option Addr) (c1 : Nat), i ≤ n ∧ u13 = .int .i64 (i : Nat) ∧ u5 = .slice a1 i c1 ∧ OwnP wr w.heap.size a1 i c1 ((L.take i).map (pcAt s.D)) ∧ SmW wr p nb mb wb wr0 Y ⟨s.nx, liftD s.D (L.take i), s.W⟩ ∧ Fr (fun k => k = mb) w wr) (fun _ u13 _ => n - (intOf u13).toNat)
  case atStart => exact ⟨0, _, n, by omega, rfl, rfl, HO.out.1, HH.out.1.below HO.out.2, Fr.of_below HO.out.2⟩
  case round =>
    obtain ⟨i, a1, c1, hi, rfl, rfl, hown, hsm, hfr⟩ := hrel
    by_cases hlt : i < n
    · have hlt1 : (i : Int) < (n : Int) := by omega
      obtain ⟨h, hnd, hin, hlt32⟩ := HH.out
      obtain ⟨q, hq⟩ : ∃ q, L[i]? = some q := ⟨_, List.getElem?_eq_getElem (by have := HN.out; omega)⟩
      have hqm := List.mem_of_getElem? hq
      have hq32 := hlt32 q hqm
      have ck := (hfr.cell ⟨gr, i, none⟩ hgr2 hgm).trans (show w.cell? ⟨gr, i, none⟩ = some (.int .u32 (q : Nat)) from by have := HC.out i q hq 0 _ rfl; simpa using this)
      have hqn : q ∉ L.take i := fun hm => by
        obtain ⟨j, hj⟩ := List.getElem?_of_mem hm
        have hjl := (List.getElem?_eq_some_iff.1 hj).1
        rw [List.length_take] at hjl
        rw [List.getElem?_take_of_lt (by omega)] at hj
        have := (List.getElem?_inj (by omega) hnd).1 (hj.trans hq.symm)
        omega
      have hpc : pcAt (liftD s.D (L.take i)) q = pcAt s.D q := by unfold pcAt; rw [look_liftn _ _ _ h.sd hqn]
      have hrun := hsm.look (Below.refl _ _) q hq32 false
      simp only [Bool.false_eq_true, if_false] at hrun
      rw [hpc] at hrun
      have HTK : Hid ((L.take (i + 1)).map (pcAt s.D) = (L.take i).map (pcAt s.D) ++ [pcAt s.D q] ∧ liftD s.D (L.take (i + 1)) = delD (liftD s.D (L.take i)) q) := by
        rw [List.take_add_one, hq]
        exact ⟨by simp, by unfold liftD; rw [List.foldl_append]; rfl⟩
      have c1p := hsm.st.cell 1 _ rfl
      obtain ⟨x, hx⟩ : ∃ x, x = pcAt s.D q := ⟨_, rfl⟩
      rw [← hx] at hrun HTK
      have hmbl := hsm.mp.lt
      obtain ⟨W, hW⟩ : ∃ W, W = wr.alloc (.cells #[.int .u8 (x.fl : Nat), .int .u16 (x.st : Nat), .int .u16 (x.ss : Nat), .int .u32 (x.pp : Nat), .slice x.a x.n x.c] 79) := ⟨_, rfl⟩
      have b0 : Below wr.heap.size wr W := by rw [hW]; exact (Below.refl _ _).alloc (Nat.le_refl _) _
      have st2 := Stc.new wr x.v 79 W hW
      obtain ⟨g7, c7, w7, hr7, ho7, hgr7, hg7, hg7l⟩ := OwnG.app layP (OwnG.below hown b0) 83 x ⟨wr.heap.size, 0, none⟩ (fun j u hj => by
        have := st2.cell j u hj
        unfold Addr.add
        split
        · rename_i e; subst e; exact this
        · simpa using this) (by unfold maxLen; omega) (by omega) (Nat.le_trans hfr.size b0.size)
      have hob : ∀ k, (Value.slice a1 i c1).ownBlock = some k → w.heap.size ≤ k := fun k hk => (hown.own.lt k hk).1
      have hmw := h.mp.lt
      have hpw := h.st.lt
      have hb7 : Below w.heap.size wr w7 := (b0.mono hfr.size).trans ((OwnG.below hown b0).up hgr7 (Nat.le_trans hfr.size b0.size))
      have hsm7 : SmW w7 p nb mb wb wr0 Y ⟨s.nx, liftD s.D (L.take i), s.W⟩ := by
        have hf7 : Fr (fun k => w.heap.size ≤ k) wr w7 := (Fr.of_below b0).trans (Fr.grown hgr7 hob)
        exact hsm.fr hf7 (fun g _ hg => ⟨fun hy => by have := h.yl g hy; omega, by omega, by have := h.nl; omega, by omega, by have := h.wm.lt; omega⟩)
      have hfr7 : Fr (fun k => k = mb) w w7 := ⟨hb7.os.trans hfr.os, hb7.tape.trans hfr.tape, hb7.output.trans hfr.output, Nat.le_trans hfr.size hb7.size, fun k hk hn => (hb7.block k hk).trans (hfr.block k hk hn)⟩
      obtain ⟨w8, hr8, hsm8, hf8⟩ := hsm7.delD q hq32
      have c1q := hsm7.st.cell 1 _ rfl
      have HZ : Hid (OwnP w8 w.heap.size (some ⟨g7, 0, none⟩) (i + 1) c7 ((L.take (i + 1)).map (pcAt s.D)) ∧ SmW w8 p nb mb wb wr0 Y ⟨s.nx, liftD s.D (L.take (i + 1)), s.W⟩ ∧ Fr (fun k => k = mb) w w8) := by
        rw [HTK.out.1, HTK.out.2]
        refine ⟨OwnG.fr ho7 hf8 (fun k hk e => ?_), hsm8, hfr7.trans hf8⟩
        have := (ho7.own.lt k hk).1
        omega
      rw [hW] at hr7
      clear hsm8 hf8 hfr7 hsm7 hb7 ho7 hgr7 hg7 hg7l hob st2 b0 hW hown hsm hfr hpc hqn hqm hq h hnd hin hlt32 hmbl hx HTK
      obtain ⟨fl, st, ss, pp, xa, xn, xc, zs⟩ := x
      unfold Pc.val at hrun
      dsimp only at hrun hr7
      go_wp2_with (at_builtin; refine app_eq_list rfl _ _ rfl rfl rfl rfl hr7 ?_)
      go_roundw
      case rel => exact ⟨i + 1, _, c7, by omega, by go_num, rfl, HZ.out.1, HZ.out.2.1, HZ.out.2.2⟩
      case measure => simp [intOf]; omega
    · obtain rfl : i = n := by omega
      have HZ := (show Hid _ from And.intro hown (And.intro hsm hfr))
      clear hown hsm hfr
      go_wp2
      go_ret
      obtain ⟨hown, hsm, hfr⟩ := HZ.out
      obtain ⟨h, hnd, hin, hlt32⟩ := HH.out
      have et : L.take i = L := List.take_of_length_le (by have := HN.out; omega)
      rw [et] at hown hsm
      obtain ⟨g, rfl, hg1, hg2, hc1, hc2, hcl, _⟩ := OwnG.at_ hown (fun _ => rfl) (by omega)
      have hyq : ∀ g, g < w.heap.size → g = mb → ¬ Y g := fun g _ e hy => (h.yx g hy).2.2.1 e
      refine ⟨⟨g, c1, by rw [← HN.out]; rfl, hg1, hg2, ⟨g, rfl, hg2, .inr rfl, hcl⟩, by rw [List.length_map, ← HN.out]; omega, by rw [List.length_map, ← HN.out]; omega, by rw [List.length_map, ← HN.out]; exact ⟨hc1, hc2⟩, fun x hx => ?_⟩, hsm, hfr⟩
      obtain ⟨q, hq, rfl⟩ := List.mem_map.1 hx
      have h1 := hin q hq
      cases e : lookD s.D q with
      | none => rw [e] at h1; cases h1
      | some y =>
        have : pcAt s.D q = y := by unfold pcAt; rw [e]; rfl
        rw [this]
        exact ((h.ds _ (lookD_mem e)).2.fr hfr hyq).mono (fun g hg => .inl hg)
end Go.Proofs.Ytjaheelgcjafcaa
