/- arp: what Tick answers, and what becomes of the cache. -/
import Derived.Test.YtpmnjfkcffddgaaArU
namespace Go.Proofs.Ytpmnjfkcffddgaa
open Go.RowKit Go.MapKept Go.Maps
theorem FrsW.base {w : World} {kd : Nat → RoleA} {B B' : Nat} {a : Option Addr} {n c : Nat} {fs : List (List Nat)} (h : FrsW w kd B a n c fs) (hB : B' ≤ B) : FrsW w kd B' a n c fs := by
  obtain ⟨bs, h1, h2, h3, h4⟩ := h.ex
  exact ⟨bs, h1, OwnG.base h2 hB, h3, fun b hb => ⟨(h4 b hb).1, fun g off e => ⟨((h4 b hb).2 g off e).1, Nat.le_trans hB ((h4 b hb).2 g off e).2.1, ((h4 b hb).2 g off e).2.2⟩⟩⟩
structure TkA where
  D : List (Nat × Nbr)
  lost : Int
  fs : List (List Nat)
def tickS (mac ip : Nat) (t : Int) (s : TkA) (y : Nat × Nbr) : TkA :=
  if overB t y.2 then ⟨delD s.D y.1, s.lost + y.2.ws.length, s.fs⟩
  else if dueB t y.2.kn y.2.at_ then ⟨putD s.D y.1 (askX y.2 t), s.lost, s.fs ++ [epV 281474976710655 mac 2054 (arpB 1 mac ip 0 y.1)]⟩
  else s
def tickA (mac ip : Nat) (t lost : Int) (D : List (Nat × Nbr)) (k : Nat) : TkA := (D.take k).foldl (tickS mac ip t) ⟨D, lost, []⟩
theorem tickA_step {mac ip : Nat} {t lost : Int} {D : List (Nat × Nbr)} {i : Nat} {y : Nat × Nbr} (h : D[i]? = some y) : tickA mac ip t lost D (i + 1) = tickS mac ip t (tickA mac ip t lost D i) y := by
  unfold tickA
  rw [List.take_add_one, h, List.foldl_append]
  rfl
structure TickP (w : World) (kd : Nat → RoleA) (p mac ip : Nat) (now lost : Int) (D : List (Nat × Nbr)) (t : Int) (e : Ending) (w' : World) : Prop where
  ex : ∃ kd' now' lost' D' er fs a n c, ((atkE now t ≠ 0 ∧ now' = now ∧ lost' = lost ∧ D' = D ∧ er = atkE now t ∧ fs = []) ∨ (atkE now t = 0 ∧ now' = t ∧ lost' = (tickA mac ip t lost D D.length).lost ∧ D' = (tickA mac ip t lost D D.length).D ∧ er = 0 ∧ fs = (tickA mac ip t lost D D.length).fs)) ∧ CaW w' kd' p mac ip now' lost' D' ∧ GrowA kd kd' w w' ∧ e = .returned (.tuple #[.slice a n c, .int .i64 (er : Nat)]) ∧ FrsW w' kd' w.heap.size a n c fs
/-- What a round keeps: those that are still to come are as they were. -/
theorem tick_keep {mac ip : Nat} {t lost : Int} {D : List (Nat × Nbr)} (hs : Srt D) : ∀ i, i ≤ D.length → Srt (tickA mac ip t lost D i).D ∧ (∀ j y, i ≤ j → D[j]? = some y → lookD (tickA mac ip t lost D i).D y.1 = some y.2) ∧ (tickA mac ip t lost D i).fs.length ≤ i ∧ lost ≤ (tickA mac ip t lost D i).lost ∧ ((∀ y ∈ D, y.2.ws.length ≤ 4) → (tickA mac ip t lost D i).lost ≤ lost + 4 * i) := by
  intro i
  induction i with
  | zero =>
    intro _
    refine ⟨hs, fun j y _ hy => hs.look (List.mem_of_getElem? hy), Nat.le_refl _, Int.le_refl _, fun _ => by show lost ≤ _; omega⟩
  | succ i ih =>
    intro hi
    obtain ⟨h1, h2, h3, h4, h5⟩ := ih (by omega)
    obtain ⟨y, hy⟩ : ∃ y, D[i]? = some y := ⟨_, List.getElem?_eq_getElem (by omega)⟩
    have hne : ∀ j z, i + 1 ≤ j → D[j]? = some z → z.1 ≠ y.1 := fun j z hj hz e => by
      have := List.pairwise_iff_getElem.1 hs i j (by omega) (List.getElem?_eq_some_iff.1 hz).1 (by omega)
      rw [(List.getElem?_eq_some_iff.1 hz).2, (List.getElem?_eq_some_iff.1 hy).2] at this
      omega
    rw [tickA_step hy]
    unfold tickS
    split
    · refine ⟨h1.del _, fun j z hj hz => ?_, by dsimp only; omega, by dsimp only; omega, fun hw => ?_⟩
      · dsimp only
        rw [look_del _ _ _ h1, if_neg (hne j z hj hz)]
        exact h2 j z (by omega) hz
      · have := h5 hw
        have := hw y (List.mem_of_getElem? hy)
        dsimp only
        omega
    · split
      · refine ⟨h1.put _ _, fun j z hj hz => ?_, by dsimp only; rw [List.length_append]; simp; omega, h4, fun hw => ?_⟩
        · dsimp only
          rw [look_put _ _ _ _ h1, if_neg (hne j z hj hz)]
          exact h2 j z (by omega) hz
        · have := h5 hw
          dsimp only
          omega
      · exact ⟨h1, fun j z hj hz => h2 j z (by omega) hz, by omega, h4, fun hw => by have := h5 hw; omega⟩
set_option maxRecDepth 100000 in
set_option maxHeartbeats 8000000 in
theorem tick_any {w : World} {kd : Nat → RoleA} {p mac ip : Nat} {now lost : Int} {D : List (Nat × Nbr)} (h : CaW w kd p mac ip now lost D) (hl0 : 0 ≤ lost) (hl1 : lost ≤ 1099511627776) (t : Int) :
    Calls Try.prog 11 #[.pointer (some ⟨p, 0, none⟩), .int .i64 t] w (TickP w kd p mac ip now lost D t) := by
  obtain ⟨nv, hst, _⟩ := h.looks
  have HMB := (show Hid _ from amayBe_any hst t)
  have HH := (show Hid _ from h)
  have hpl := h.lt
  have hl8 := h.len
  clear hst h
  go_enter Try.func11, Try.ntmps11
  go_wp2_with fail
  refine Calls.mono HMB.out ?_
  clear HMB
  rintro e w1 ⟨rfl, hb1⟩
  by_cases hk : atkE now t ≠ 0
  · have hk1 : ((atkE now t : Nat) : Int) ≠ 0 := by omega
    have HE : Hid (atkE now t = atkE now t ∧ atkE now t ≠ 0) := ⟨rfl, hk⟩
    obtain ⟨E, hE⟩ : ∃ E, E = atkE now t := ⟨_, rfl⟩
    have HEE := (show Hid _ from hE)
    rw [← hE] at hk hk1 ⊢
    clear hE HE
    have HB := (show Hid _ from hb1)
    clear hb1
    go_wp2
    go_ret2
    exact ⟨kd, now, lost, D, E, [], none, 0, 0, .inl ⟨by rw [← HEE.out]; exact hk, rfl, rfl, rfl, HEE.out, rfl⟩, HH.out.below HB.out, GrowA.of_below HB.out, rfl, FrsW.nil _ _ _⟩
  have hk : atkE now t = 0 := by omega
  rw [hk]
  have HTK := (show Hid _ from hk)
  obtain ⟨ht0, ht1, htn⟩ := atkE_ok hk
  clear hk
  have hc1 := HH.out.below hb1
  obtain ⟨nv, hst, _⟩ := hc1.looks
  have e2 := hst.cell 2 _ rfl
  have f2 := hst.free 2
  obtain ⟨V, hV⟩ : ∃ V, V = w1.setCell ⟨p, 2, none⟩ (.int .i64 t) := ⟨_, rfl⟩
  have hcV : CaW V kd p mac ip t lost D := by rw [hV]; exact hc1.tick t htn ht1
  have hkp := hc1.kp
  have hgV : GrowA kd kd w V := (GrowA.of_below hb1).trans (GrowA.of_fr (by rw [hV]; exact Fr.setCell (fun k => k = p) _ _ _ rfl) (fun g _ e => by rw [e, hkp]; exact fun e => (by cases e)))
  have HAD := (show Hid _ from addr_D hcV)
  have HCV := (show Hid _ from And.intro hcV hgV)
  have HTP := (show Hid _ from tick_keep (mac := mac) (ip := ip) (t := t) (lost := lost) hcV.srt)
  have HWS : Hid (∀ y ∈ D, y.2.ws.length ≤ 4) := fun y hy => (hcV.each y hy).2.1.len
  clear hc1 hst hb1 hcV hgV
  go_wp2_with fail
  rw [← hV]
  clear hV e2 f2
  refine Calls.mono HAD.out ?_
  rintro e w2 ⟨⟨a, c, rfl, ho⟩, hb2⟩
  clear HAD
  rw [List.length_map] at ho ⊢
  obtain ⟨n, hn⟩ : ∃ n, n = D.length := ⟨_, rfl⟩
  rw [← hn] at ho hl8 ⊢
  have HN := (show Hid _ from hn)
  have HO := (show Hid _ from And.intro ho hb2)
  have hcap := ho.cap
  clear hn ho hb2
  go_wp2
  go_loopw [7, 24] (fun u7 u24 wr => ∃ (i : Nat) (kd1 : Nat → RoleA) (a1 : Option Addr) (n1 c1 : Nat), i ≤ n ∧ u24 = .int .i64 (i : Nat) ∧ u7 = .slice a1 n1 c1 ∧ CaW wr kd1 p mac ip t (tickA mac ip t lost D i).lost (tickA mac ip t lost D i).D ∧ GrowA kd kd1 w2 wr ∧ FrsW wr kd1 w2.heap.size a1 n1 c1 (tickA mac ip t lost D i).fs) (fun _ u24 _ => n - (intOf u24).toNat)
  case atStart => exact ⟨0, kd, none, 0, 0, by omega, rfl, rfl, HCV.out.1.below HO.out.2, GrowA.refl _ _, FrsW.nil _ _ _⟩
  case round =>
    obtain ⟨i, kd1, a1, n1, c1, hi, rfl, rfl, hcw, hgw, hfs⟩ := hrel
    by_cases hlt : i < n
    · have hlt1 : (i : Int) < (n : Int) := by omega
      obtain ⟨ho, hb2⟩ := HO.out
      obtain ⟨g, rfl, hg1, hg2, hnc, _⟩ := OwnG.at_ ho (fun _ => rfl) (by omega)
      obtain ⟨y, hy⟩ : ∃ y, D[i]? = some y := ⟨_, List.getElem?_eq_getElem (by have := HN.out; omega)⟩
      have hkg : kd g = .no := HCV.out.1.fresh g hg1
      have ck := (hgw.fr.cell ⟨g, i, none⟩ hg2 (fun e => e hkg)).trans (OwnA.cell ho i (by omega))
      have hyk : (D.map (·.1)).getD i 0 = y.1 := by rw [List.getD_eq_getElem?_getD, List.getElem?_map, hy]; rfl
      rw [hyk] at ck
      have HST := (show Hid _ from tickA_step (mac := mac) (ip := ip) (t := t) (lost := lost) hy)
      obtain ⟨hs1, hlk1, hfl, hll0, hll1⟩ := HTP.out i (by have := HN.out; omega)
      have hlk := hlk1 i y (Nat.le_refl _) hy
      have hll1 := hll1 HWS.out
      obtain ⟨Si, hSi⟩ : ∃ Si, Si = tickA mac ip t lost D i := ⟨_, rfl⟩
      rw [← hSi] at hcw hfs HST hlk hfl hll0 hll1
      clear hSi hs1 hlk1
      obtain ⟨D1, l1, fs1⟩ := Si
      dsimp only at hcw hfs hlk hfl hll0 hll1
      obtain ⟨nv1, hst1, hlook⟩ := hcw.looks
      have hym : (y.1, y.2) ∈ D1 := lookD_mem hlk
      have hq := hcw.keys _ hym
      have hrun := hlook wr (Below.refl _ _) y.1 hq false
      simp only [Bool.false_eq_true, if_false] at hrun
      have hnb : nbAt D1 y.1 = y.2 := by unfold nbAt; rw [hlk]; rfl
      rw [hnb] at hrun
      have c3 := hst1.cell 3 _ rfl
      have hnw := (hcw.each _ hym).1 trivial
      have hno := (hcw.each _ hym).2.1
      obtain ⟨q, ⟨kn, nm, at_, ak, wa, wn, wc, ws⟩⟩ := y
      unfold Nbr.v at hrun
      dsimp only at *
      have hwl := hnw.row.len
      dsimp only at hwl
      obtain ⟨W, hW⟩ : ∃ W, W = wr.alloc (.cells #[.bool kn, .int .u64 (nm : Nat), .int .i64 at_, .int .i64 ak, .slice wa wn wc] 65) := ⟨_, rfl⟩
      have b0 : Below wr.heap.size wr W := by rw [hW]; exact (Below.refl _ _).alloc (Nat.le_refl _) _
      have stN := Stc.new wr [.bool kn, .int .u64 (nm : Nat), .int .i64 at_, .int .i64 ak, .slice wa wn wc] 65 W hW
      have HOV := (show Hid _ from over_any (hst1.below b0) ⟨kn, nm, at_, ak, wa, wn, wc, ws⟩ ht0 ht1 hno)
      unfold Nbr.v at HOV
      dsimp only at HOV
      have HX := (show Hid _ from And.intro hcw (And.intro hgw (And.intro hfs (And.intro hnw (And.intro hno (And.intro b0 (And.intro stN (And.intro hlk (And.intro hfl (And.intro hll0 (And.intro hll1 hwl)))))))))))
      clear hyk hnb hnw hno stN b0 hst1 hlook hcw hgw hfs hy hym hlk ho hb2 hkg hfl hll0 hll1 hwl
      go_wp2_with fail
      rw [← hW]
      clear hW hrun ck c3
      refine Calls.mono HOV.out ?_
      rintro e w4 ⟨rfl, hb4⟩
      obtain ⟨hcw, hgw, hfs, hnw, hno, b0, stN, hlk, hfl, hll0, hll1, hwl⟩ := HX.out
      have bw4 : Below wr.heap.size wr w4 := b0.trans (hb4.mono b0.size)
      have st4 := stN.below hb4
      have hc4 := hcw.below bw4
      cases hov : overB t ⟨kn, nm, at_, ak, wa, wn, wc, ws⟩ with
      | true =>
        have HSE : Hid (tickA mac ip t lost D (i + 1) = ⟨delD D1 q, l1 + wn, fs1⟩) := by
          show _ = _
          rw [HST.out]
          unfold tickS
          dsimp only
          rw [if_pos hov, hwl]
        rcases hc4.near with ⟨hs4, hD⟩ | ⟨mb, hs4, hm4, hk4⟩
        · rw [hD] at hlk; cases hlk
        have hpl4 := hs4.lt
        have e4 := hs4.cell 4 _ rfl
        have f4 := hs4.free 4
        have g4 := st4.cell 4 _ rfl
        have e3 := hs4.cell 3 _ rfl
        have hwn4 : wn ≤ 4 := by have := hno.len; dsimp only at this; omega
        have hi8 : i ≤ 8 := by omega
        have hlw : IntKind.i64.wrap (l1 + (wn : Int)) = l1 + (wn : Int) := by rw [IntKind.wrap_i64]; omega
        obtain ⟨w5, hw5⟩ : ∃ w5, w5 = (w4.drew).setCell ⟨p, 4, none⟩ (.int .i64 (l1 + (wn : Int))) := ⟨_, rfl⟩
        have hc5 : CaW w5 kd1 p mac ip t (l1 + wn) D1 := by rw [hw5]; exact (hc4.below (Below.refl _ _).drew).lose _
        have hf5 : Fr (fun k => k = p) w4 w5 := by rw [hw5]; exact (Fr.of_below (Below.refl _ _).drew).trans (Fr.setCell (fun k => k = p) _ _ _ rfl)
        have hne : mb ≠ p := fun e => by rw [e, hc4.kp] at hk4; cases hk4
        have hs5 : Stc w5 p (CaC mac ip t (.map (some mb)) (l1 + wn)) := by rw [hw5]; exact (hs4.below (Below.refl _ _).drew).set 4 _
        have e35 := hs5.cell 3 _ rfl
        have hm5 := hm4.fr hf5 hne
        obtain ⟨w6, hr6, hm6, hf6, hz6⟩ := hm5.del (P := Try.prog) ipKE Try.underlying60 (q := q) hq 0
        unfold ipV at hr6
        have hd6 := hc5.del q hs5 hk4 hm6 hf6
        have hkp1 := hc4.kp
        have hg6 : GrowA kd1 kd1 wr w6 := (GrowA.of_below bw4).trans ((GrowA.of_fr hf5 (fun k _ e => by rw [e, hkp1]; exact fun e => (by cases e))).trans (GrowA.of_fr hf6 (fun k _ e => by rw [e, hk4]; exact fun e => (by cases e))))
        have HZ := (show Hid _ from And.intro hd6 (And.intro (hgw.trans hg6) (hfs.grow hg6)))
        clear hcw hgw hfs hnw hno b0 stN hlk hb4 bw4 st4 hc4 hs4 hm4 hk4 hc5 hf5 hne hs5 hm5 hm6 hf6 hz6 hd6 hg6 hov hwl
        have HKC : Hid (w4.drew.cell? ⟨p, 4, none⟩ = some (.int .i64 l1) ∧ w4.drew.cell? ⟨wr.heap.size, 4, none⟩ = some (.slice wa wn wc) ∧ w4.drew.frozen? ⟨p, 4, none⟩ = false) := ⟨e4, g4, f4⟩
        clear e4 f4 g4 e3
        go_wp2
        refine wp_region_stage mixedX [10] (fun stgN W => match stgN with | 0 => W = w4.drew | _ => W = w5) (fun W => W = w4.drew) [(38, .pointer (some ⟨p, 0, none⟩)), (39, .pointer (some ⟨p, 0, none⟩)), (40, .pointer (some ⟨p, 4, none⟩)), (41, .int .i64 l1), (42, .pointer (some ⟨wr.heap.size, 4, none⟩)), (43, .slice wa wn wc), (44, .int .i64 (wn : Nat)), (45, .int .i64 (l1 + (wn : Int))), (46, .pointer (some ⟨p, 0, none⟩)), (47, .pointer (some ⟨p, 4, none⟩))] ?Z1 ?hZ1 (by kernel_rfl) (by kernel_rfl) (by kernel_rfl) (by kernel_rfl) (by kernel_rfl) ?h01 ?hS1 (.inl (by kernel_rfl)) ?hops1 ?he1 (by kernel_rfl) (by decide)
        case hZ1 => simp only [List.foldl_cons, List.foldl_nil, List.setIfInBounds_toArray, List.set_cons_zero, List.set_cons_succ]; rfl
        case h01 => rfl
        case hS1 =>
          intro k W hk hW
          have hk : k < 1 := hk
          obtain rfl : k = 0 := by omega
          · exact hW
        case hops1 =>
          refine ⟨?_, ?_, ?_, ?_, ?_, ?_, ?_, ?_, ?_, ?_, ?_, trivial⟩
          · exact stg_val (by rfl) (by rfl) (fun W hW => by have hW : W = w4.drew := hW; subst hW; obtain ⟨d0, d1, d2⟩ := HKC.out; go_simp; (try with_reducible rfl); (try omega))
          · exact stg_val (by rfl) (by rfl) (fun W hW => by have hW : W = w4.drew := hW; subst hW; obtain ⟨d0, d1, d2⟩ := HKC.out; go_simp; (try with_reducible rfl); (try omega))
          · exact stg_val (by rfl) (by rfl) (fun W hW => by have hW : W = w4.drew := hW; subst hW; obtain ⟨d0, d1, d2⟩ := HKC.out; go_simp; (try with_reducible rfl); (try omega))
          · exact stg_val (by rfl) (by rfl) (fun W hW => by have hW : W = w4.drew := hW; subst hW; obtain ⟨d0, d1, d2⟩ := HKC.out; go_simp; (try with_reducible rfl); (try omega))
          · exact stg_val (by rfl) (by rfl) (fun W hW => by have hW : W = w4.drew := hW; subst hW; obtain ⟨d0, d1, d2⟩ := HKC.out; go_simp; (try with_reducible rfl); (try omega))
          · exact stg_val (by rfl) (by rfl) (fun W hW => by have hW : W = w4.drew := hW; subst hW; obtain ⟨d0, d1, d2⟩ := HKC.out; go_simp; (try with_reducible rfl); (try omega))
          · exact stg_val (by rfl) (by rfl) (fun W hW => by have hW : W = w4.drew := hW; subst hW; obtain ⟨d0, d1, d2⟩ := HKC.out; go_simp; (try with_reducible rfl); (try omega))
          · exact stg_val (by rfl) (by rfl) (fun W hW => by have hW : W = w4.drew := hW; subst hW; obtain ⟨d0, d1, d2⟩ := HKC.out; go_simp; (try with_reducible rfl); (try omega))
          · exact stg_val (by rfl) (by rfl) (fun W hW => by have hW : W = w4.drew := hW; subst hW; obtain ⟨d0, d1, d2⟩ := HKC.out; go_simp; (try with_reducible rfl); (try omega))
          · exact stg_val (by rfl) (by rfl) (fun W hW => by have hW : W = w4.drew := hW; subst hW; obtain ⟨d0, d1, d2⟩ := HKC.out; go_simp; (try with_reducible rfl); (try omega))
          · exact stg_skip (by rfl) (by rfl) rfl (fun W hW => by have hW : W = w4.drew := hW; subst hW; obtain ⟨d0, d1, d2⟩ := HKC.out; refine ⟨w5, ?_, rfl⟩; rw [hw5]; go_simp)
        case he1 =>
        intro V3 hV3
        obtain rfl : V3 = w5 := hV3
        clear hw5 HKC
        go_wp2
        go_roundw
        case rel => exact ⟨i + 1, kd1, a1, n1, c1, by omega, by go_num, rfl, by rw [HSE.out]; exact HZ.out.1, HZ.out.2.1, by rw [HSE.out]; exact HZ.out.2.2⟩
        case measure => simp [intOf]; omega
      | false =>
        have HDU := (show Hid _ from due_any (hc4.looks.choose_spec.1) kn nm at_ ak wa wn wc ht0 ht1 hno.at0 (by have := hno.at1; dsimp only at this; omega))
        have s0 := st4.cell 0 _ rfl
        have s1 := st4.cell 1 _ rfl
        have s2 := st4.cell 2 _ rfl
        have s3 := st4.cell 3 _ rfl
        have s4 := st4.cell 4 _ rfl
        have HX4 := (show Hid _ from And.intro hc4 (And.intro st4 (And.intro bw4 hov)))
        clear hcw hgw hfs hnw hno b0 stN hlk hb4 bw4 st4 hc4 hov hwl hfl hll0 hll1
        go_wp2_with fail
        refine Calls.mono HDU.out ?_
        rintro e w5 ⟨rfl, hb5⟩
        obtain ⟨hc4, st4, bw4, hov⟩ := HX4.out
        obtain ⟨hcw, hgw, hfs, hnw, hno, b0, stN, hlk, hfl, hll0, hll1, hwl⟩ := HX.out
        have bw5 : Below wr.heap.size wr w5 := bw4.trans (hb5.mono bw4.size)
        have st5 := st4.below hb5
        have hc5 := hcw.below bw5
        clear s0 s1 s2 s3 s4
        cases hdu : dueB t kn at_ with
        | false =>
          have HSE : Hid (tickA mac ip t lost D (i + 1) = ⟨D1, l1, fs1⟩) := by
            show _ = _
            rw [HST.out]
            unfold tickS
            dsimp only
            rw [if_neg (by rw [hov]; decide), if_neg (by rw [hdu]; decide)]
          have HZ := (show Hid _ from And.intro hc5 (And.intro (hgw.trans (GrowA.of_below bw5)) (hfs.below bw5)))
          clear hcw hgw hfs hnw hno b0 stN hlk hb5 bw4 bw5 st4 st5 hc4 hc5 hov hdu hwl hfl hll0 hll1
          go_wp2
          go_roundw
          case rel => exact ⟨i + 1, kd1, a1, n1, c1, by omega, by go_num, rfl, by rw [HSE.out]; exact HZ.out.1, HZ.out.2.1, by rw [HSE.out]; exact HZ.out.2.2⟩
          case measure => simp [intOf]; omega
        | true =>
          obtain ⟨L, hL⟩ : ∃ L, L = epV 281474976710655 mac 2054 (arpB 1 mac ip 0 q) := ⟨_, rfl⟩
          have hLl : L.length ≤ 1600 := by rw [hL]; exact epV_le _ _ _ _ (by rw [arpB_len]; omega)
          have HSE : Hid (tickA mac ip t lost D (i + 1) = ⟨putD D1 q (askX ⟨kn, nm, at_, ak, wa, wn, wc, ws⟩ t), l1, fs1 ++ [L]⟩) := by
            show _ = _
            rw [HST.out]
            unfold tickS
            dsimp only
            rw [if_neg (by rw [hov]; decide), if_pos hdu, hL]
          have hak : ak ≤ 2 := by
            unfold overB at hov
            dsimp only at hov
            have hkn : kn = false := by unfold dueB at hdu; cases kn with | true => simp at hdu | false => rfl
            rw [hkn] at hov hdu
            simp only [Bool.false_eq_true, if_false] at hov
            rw [hdu] at hov
            simp at hov
            omega
          have hnw5 : NbW w5 kd1 q ⟨kn, nm, at_, ak, wa, wn, wc, ws⟩ := hnw.fr (Q := fun _ => False) (Fr.of_below bw5) (fun _ _ h => h.elim) (fun _ _ _ => rfl)
          have HAS := (show Hid _ from ask_any (hc5.weak (fun _ _ => trivial)) _ hnw5 hno hak hq (.inl (by rw [hlk]; rfl)))
          rw [← hL] at HAS
          unfold Nbr.v at HAS
          dsimp only at HAS
          have s0 := st5.cell 0 _ rfl
          have s1 := st5.cell 1 _ rfl
          have s2 := st5.cell 2 _ rfl
          have s3 := st5.cell 3 _ rfl
          have s4 := st5.cell 4 _ rfl
          have HX5 := (show Hid _ from And.intro (hgw.trans (GrowA.of_below bw5)) (And.intro (hfs.below bw5) hfl))
          clear hcw hgw hfs hnw hno b0 stN hlk hb5 bw4 bw5 st4 st5 hc4 hc5 hov hdu hwl hfl hll0 hll1 hL hnw5 HX HX4 HOV HDU
          go_wp2_with fail
          refine Calls.mono HAS.out ?_
          rintro e w6 ⟨kd6, hc6, hg6, a6, c6, rfl, hr6, hk6⟩
          obtain ⟨hg5, hfs5, hfl⟩ := HX5.out
          have hsz := hg5.fr.size
          obtain ⟨g7, c7, w7, hr7, hfs7, hf7⟩ := FrsW.app (hfs5.grow hg6) (hr6.base hsz) (by omega) hk6 hc6.fresh (Nat.le_trans hsz hg6.fr.size) (by rw [hfs5.len]; omega) 34
          have hg7 : GrowA kd kd6 w2 w7 := by
            have h1 := hg5.trans hg6
            refine ⟨⟨hf7.os.trans h1.fr.os, hf7.tape.trans h1.fr.tape, hf7.output.trans h1.fr.output, Nat.le_trans h1.fr.size hf7.size, fun k hk hn => ?_⟩, h1.no⟩
            exact (hf7.block k (Nat.lt_of_lt_of_le hk h1.fr.size) (fun e => by omega)).trans (h1.fr.block k hk hn)
          have HZ := (show Hid _ from And.intro (hc6.fr hf7 (fun g _ e => .inl e.1)) (And.intro hg7 hfs7))
          clear hc6 hg6 hr6 hk6 hg5 hfs5 hfl hsz hfs7 hf7 hg7 s0 s1 s2 s3 s4
          go_wp2_with (at_builtin; refine app_eq_list rfl _ _ rfl rfl rfl rfl hr7 ?_)
          go_roundw
          case rel => exact ⟨i + 1, kd6, _, _, c7, by omega, by go_num, rfl, by rw [HSE.out]; exact HZ.out.1, HZ.out.2.1, by rw [HSE.out]; exact HZ.out.2.2⟩
          case measure => simp [intOf]; omega
    · obtain rfl : i = n := by omega
      have HZ := (show Hid _ from And.intro hcw (And.intro hgw hfs))
      clear hcw hgw hfs
      go_wp2
      go_ret2
      obtain ⟨hcw, hgw, hfs⟩ := HZ.out
      rw [HN.out] at hcw hfs
      refine ⟨kd1, t, _, _, 0, _, a1, n1, c1, .inr ⟨HTK.out, rfl, rfl, rfl, rfl, rfl⟩, hcw, HCV.out.2.trans ((GrowA.of_below HO.out.2).trans hgw), rfl, hfs.base (Nat.le_trans HCV.out.2.fr.size HO.out.2.size)⟩
end Go.Proofs.Ytpmnjfkcffddgaa
