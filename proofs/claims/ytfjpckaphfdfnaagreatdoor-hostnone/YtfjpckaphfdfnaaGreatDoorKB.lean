/- host: Step where an ARP question came to each card. -/
import Derived.Test.YtfjpckaphfdfnaaGreatDoorKA
import Derived.Test.YtfjpckaphfdfnaaGreatDoorBytes
namespace Go.Proofs.YtfjpckaphfdfnaaGreatDoor
open Go.RowKit Go.MapKept Go.Maps
theorem FrsW.base {w : World} {kd : Nat → RoleA} {B B' : Nat} {a : Option Addr} {n c : Nat} {fs : List (List Nat)} (h : FrsW w kd B a n c fs) (hB : B' ≤ B) : FrsW w kd B' a n c fs := by
  obtain ⟨bs, h1, h2, h3, h4⟩ := h.ex
  exact ⟨bs, h1, OwnG.base h2 hB, h3, fun b hb => ⟨(h4 b hb).1, fun g off e => ⟨((h4 b hb).2 g off e).1, Nat.le_trans hB ((h4 b hb).2 g off e).2.1, ((h4 b hb).2 g off e).2.2⟩⟩⟩
structure TkA where
  D : List (Nat × Nbr)
  lost : Int
  fs : List (List Nat)
def tickS (mac ip : Nat) (t : Int) (s : TkA) (y : Nat × Nbr) : TkA :=
  if overB t y.2 then ⟨delD s.D y.1, s.lost + y.2.ws.length, s.fs⟩
  else if dueB t y.2.kn y.2.at_ then ⟨putD s.D y.1 (askX y.2 t), s.lost, s.fs ++ [epV 281474976710655 mac 2054 (arpB 1 mac ip 0 y.1)]⟩
  else s
def tickA (mac ip : Nat) (t lost : Int) (D : List (Nat × Nbr)) (k : Nat) : TkA := (D.take k).foldl (tickS mac ip t) ⟨D, lost, []⟩
theorem tickA_step {mac ip : Nat} {t lost : Int} {D : List (Nat × Nbr)} {i : Nat} {y : Nat × Nbr} (h : D[i]? = some y) : tickA mac ip t lost D (i + 1) = tickS mac ip t (tickA mac ip t lost D i) y := by
  unfold tickA
  rw [List.take_add_one, h, List.foldl_append]
  rfl
structure TickP (w : World) (kd : Nat → RoleA) (p mac ip : Nat) (now lost : Int) (D : List (Nat × Nbr)) (t : Int) (e : Ending) (w' : World) : Prop where
  ex : ∃ kd' now' lost' D' er fs a n c, ((atkE now t ≠ 0 ∧ now' = now ∧ lost' = lost ∧ D' = D ∧ er = atkE now t ∧ fs = []) ∨ (atkE now t = 0 ∧ now' = t ∧ lost' = (tickA mac ip t lost D D.length).lost ∧ D' = (tickA mac ip t lost D D.length).D ∧ er = 0 ∧ fs = (tickA mac ip t lost D D.length).fs)) ∧ CaW w' kd' p mac ip now' lost' D' ∧ GrowA kd kd' w w' ∧ e = .returned (.tuple #[.slice a n c, .int .i64 (er : Nat)]) ∧ FrsW w' kd' w.heap.size a n c fs
/-- What a round keeps: those that are still to come are as they were. -/
theorem tick_keep {mac ip : Nat} {t lost : Int} {D : List (Nat × Nbr)} (hs : Srt D) : ∀ i, i ≤ D.length → Srt (tickA mac ip t lost D i).D ∧ (∀ j y, i ≤ j → D[j]? = some y → lookD (tickA mac ip t lost D i).D y.1 = some y.2) ∧ (tickA mac ip t lost D i).fs.length ≤ i ∧ lost ≤ (tickA mac ip t lost D i).lost ∧ ((∀ y ∈ D, y.2.ws.length ≤ 4) → (tickA mac ip t lost D i).lost ≤ lost + 4 * i) := by
  intro i
  induction i with
  | zero =>
    intro _
    refine ⟨hs, fun j y _ hy => hs.look (List.mem_of_getElem? hy), Nat.le_refl _, Int.le_refl _, fun _ => by show lost ≤ _; omega⟩
  | succ i ih =>
    intro hi
    obtain ⟨h1, h2, h3, h4, h5⟩ := ih (by omega)
    obtain ⟨y, hy⟩ : ∃ y, D[i]? = some y := ⟨_, List.getElem?_eq_getElem (by omega)⟩
    have hne : ∀ j z, i + 1 ≤ j → D[j]? = some z → z.1 ≠ y.1 := fun j z hj hz e => by
      have := List.pairwise_iff_getElem.1 hs i j (by omega) (List.getElem?_eq_some_iff.1 hz).1 (by omega)
      rw [(List.getElem?_eq_some_iff.1 hz).2, (List.getElem?_eq_some_iff.1 hy).2] at this
      omega
    rw [tickA_step hy]
    unfold tickS
    split
    · refine ⟨h1.del _, fun j z hj hz => ?_, by dsimp only; omega, by dsimp only; omega, fun hw => ?_⟩
      · dsimp only
        rw [look_del _ _ _ h1, if_neg (hne j z hj hz)]
        exact h2 j z (by omega) hz
      · have := h5 hw
        have := hw y (List.mem_of_getElem? hy)
        dsimp only
        omega
    · split
      · refine ⟨h1.put _ _, fun j z hj hz => ?_, by dsimp only; rw [List.length_append]; simp; omega, h4, fun hw => ?_⟩
        · dsimp only
          rw [look_put _ _ _ _ h1, if_neg (hne j z hj hz)]
          exact h2 j z (by omega) hz
        · have := h5 hw
          dsimp only
          omega
      · exact ⟨h1, fun j z hj hz => h2 j z (by omega) hz, by omega, h4, fun hw => by have := h5 hw; omega⟩
set_option maxRecDepth 100000 in
set_option maxHeartbeats 8000000 in
theorem tick_any {w : World} {kd : Nat → RoleA} {p mac ip : Nat} {now lost : Int} {D : List (Nat × Nbr)} (h : CaW w kd p mac ip now lost D) (hl0 : 0 ≤ lost) (hl1 : lost ≤ 1099511627776) (t : Int) :
    Calls Tryz.prog 52 #[.pointer (some ⟨p, 0, none⟩), .int .i64 t] w (TickP w kd p mac ip now lost D t) := by
  obtain ⟨nv, hst, _⟩ := h.looks
  have HMB := (show Hid _ from amayBe_any hst t)
  have HH := (show Hid _ from h)
  have hpl := h.lt
  have hl8 := h.len
  clear hst h
  go_enter Tryz.func52, Tryz.ntmps52
  go_wp2_with fail
  refine Calls.mono HMB.out ?_
  clear HMB
  rintro e w1 ⟨rfl, hb1⟩
  by_cases hk : atkE now t ≠ 0
  · have hk1 : ((atkE now t : Nat) : Int) ≠ 0 := by omega
    have HE : Hid (atkE now t = atkE now t ∧ atkE now t ≠ 0) := ⟨rfl, hk⟩
    obtain ⟨E, hE⟩ : ∃ E, E = atkE now t := ⟨_, rfl⟩
    have HEE := (show Hid _ from hE)
    rw [← hE] at hk hk1 ⊢
    clear hE HE
    have HB := (show Hid _ from hb1)
    clear hb1
    go_wp2
    go_ret2
    exact ⟨kd, now, lost, D, E, [], none, 0, 0, .inl ⟨by rw [← HEE.out]; exact hk, rfl, rfl, rfl, HEE.out, rfl⟩, HH.out.below HB.out, GrowA.of_below HB.out, rfl, FrsW.nil _ _ _⟩
  have hk : atkE now t = 0 := by omega
  rw [hk]
  have HTK := (show Hid _ from hk)
  obtain ⟨ht0, ht1, htn⟩ := atkE_ok hk
  clear hk
  have hc1 := HH.out.below hb1
  obtain ⟨nv, hst, _⟩ := hc1.looks
  have e2 := hst.cell 2 _ rfl
  have f2 := hst.free 2
  obtain ⟨V, hV⟩ : ∃ V, V = w1.setCell ⟨p, 2, none⟩ (.int .i64 t) := ⟨_, rfl⟩
  have hcV : CaW V kd p mac ip t lost D := by rw [hV]; exact hc1.tick t htn ht1
  have hkp := hc1.kp
  have hgV : GrowA kd kd w V := (GrowA.of_below hb1).trans (GrowA.of_fr (by rw [hV]; exact Fr.setCell (fun k => k = p) _ _ _ rfl) (fun g _ e => by rw [e, hkp]; exact fun e => (by cases e)))
  have HAD := (show Hid _ from addr_D hcV)
  have HCV := (show Hid _ from And.intro hcV hgV)
  have HTP := (show Hid _ from tick_keep (mac := mac) (ip := ip) (t := t) (lost := lost) hcV.srt)
  have HWS : Hid (∀ y ∈ D, y.2.ws.length ≤ 4) := fun y hy => (hcV.each y hy).2.1.len
  clear hc1 hst hb1 hcV hgV
  go_wp2_with fail
  rw [← hV]
  clear hV e2 f2
  refine Calls.mono HAD.out ?_
  rintro e w2 ⟨⟨a, c, rfl, ho⟩, hb2⟩
  clear HAD
  rw [List.length_map] at ho ⊢
  obtain ⟨n, hn⟩ : ∃ n, n = D.length := ⟨_, rfl⟩
  rw [← hn] at ho hl8 ⊢
  have HN := (show Hid _ from hn)
  have HO := (show Hid _ from And.intro ho hb2)
  have hcap := ho.cap
  clear hn ho hb2
  go_wp2
  go_loopw [7, 24] (fun u7 u24 wr => ∃ (i : Nat) (kd1 : Nat → RoleA) (a1 : Option Addr) (n1 c1 : Nat), i ≤ n ∧ u24 = .int .i64 (i : Nat) ∧ u7 = .slice a1 n1 c1 ∧ CaW wr kd1 p mac ip t (tickA mac ip t lost D i).lost (tickA mac ip t lost D i).D ∧ GrowA kd kd1 w2 wr ∧ FrsW wr kd1 w2.heap.size a1 n1 c1 (tickA mac ip t lost D i).fs) (fun _ u24 _ => n - (intOf u24).toNat)
  case atStart => exact ⟨0, kd, none, 0, 0, by omega, rfl, rfl, HCV.out.1.below HO.out.2, GrowA.refl _ _, FrsW.nil _ _ _⟩
  case round =>
    obtain ⟨i, kd1, a1, n1, c1, hi, rfl, rfl, hcw, hgw, hfs⟩ := hrel
    by_cases hlt : i < n
    · have hlt1 : (i : Int) < (n : Int) := by omega
      obtain ⟨ho, hb2⟩ := HO.out
      obtain ⟨g, rfl, hg1, hg2, hnc, _⟩ := OwnG.at_ ho (fun _ => rfl) (by omega)
      obtain ⟨y, hy⟩ : ∃ y, D[i]? = some y := ⟨_, List.getElem?_eq_getElem (by have := HN.out; omega)⟩
      have hkg : kd g = .no := HCV.out.1.fresh g hg1
      have ck := (hgw.fr.cell ⟨g, i, none⟩ hg2 (fun e => e hkg)).trans (OwnA.cell ho i (by omega))
      have hyk : (D.map (·.1)).getD i 0 = y.1 := by rw [List.getD_eq_getElem?_getD, List.getElem?_map, hy]; rfl
      rw [hyk] at ck
      have HST := (show Hid _ from tickA_step (mac := mac) (ip := ip) (t := t) (lost := lost) hy)
      obtain ⟨hs1, hlk1, hfl, hll0, hll1⟩ := HTP.out i (by have := HN.out; omega)
      have hlk := hlk1 i y (Nat.le_refl _) hy
      have hll1 := hll1 HWS.out
      obtain ⟨Si, hSi⟩ : ∃ Si, Si = tickA mac ip t lost D i := ⟨_, rfl⟩
      rw [← hSi] at hcw hfs HST hlk hfl hll0 hll1
      clear hSi hs1 hlk1
      obtain ⟨D1, l1, fs1⟩ := Si
      dsimp only at hcw hfs hlk hfl hll0 hll1
      obtain ⟨nv1, hst1, hlook⟩ := hcw.looks
      have hym : (y.1, y.2) ∈ D1 := lookD_mem hlk
      have hq := hcw.keys _ hym
      have hrun := hlook wr (Below.refl _ _) y.1 hq false
      simp only [Bool.false_eq_true, if_false] at hrun
      have hnb : nbAt D1 y.1 = y.2 := by unfold nbAt; rw [hlk]; rfl
      rw [hnb] at hrun
      have c3 := hst1.cell 3 _ rfl
      have hnw := (hcw.each _ hym).1 trivial
      have hno := (hcw.each _ hym).2.1
      obtain ⟨q, ⟨kn, nm, at_, ak, wa, wn, wc, ws⟩⟩ := y
      unfold Nbr.v at hrun
      dsimp only at *
      have hwl := hnw.row.len
      dsimp only at hwl
      obtain ⟨W, hW⟩ : ∃ W, W = wr.alloc (.cells #[.bool kn, .int .u64 (nm : Nat), .int .i64 at_, .int .i64 ak, .slice wa wn wc] 166) := ⟨_, rfl⟩
      have b0 : Below wr.heap.size wr W := by rw [hW]; exact (Below.refl _ _).alloc (Nat.le_refl _) _
      have stN := Stc.new wr [.bool kn, .int .u64 (nm : Nat), .int .i64 at_, .int .i64 ak, .slice wa wn wc] 166 W hW
      have HOV := (show Hid _ from over_any (hst1.below b0) ⟨kn, nm, at_, ak, wa, wn, wc, ws⟩ ht0 ht1 hno)
      unfold Nbr.v at HOV
      dsimp only at HOV
      have HX := (show Hid _ from And.intro hcw (And.intro hgw (And.intro hfs (And.intro hnw (And.intro hno (And.intro b0 (And.intro stN (And.intro hlk (And.intro hfl (And.intro hll0 (And.intro hll1 hwl)))))))))))
      clear hyk hnb hnw hno stN b0 hst1 hlook hcw hgw hfs hy hym hlk ho hb2 hkg hfl hll0 hll1 hwl
      go_wp2_with fail
      rw [← hW]
      clear hW hrun ck c3
      refine Calls.mono HOV.out ?_
      rintro e w4 ⟨rfl, hb4⟩
      obtain ⟨hcw, hgw, hfs, hnw, hno, b0, stN, hlk, hfl, hll0, hll1, hwl⟩ := HX.out
      have bw4 : Below wr.heap.size wr w4 := b0.trans (hb4.mono b0.size)
      have st4 := stN.below hb4
      have hc4 := hcw.below bw4
      cases hov : overB t ⟨kn, nm, at_, ak, wa, wn, wc, ws⟩ with
      | true =>
        have HSE : Hid (tickA mac ip t lost D (i + 1) = ⟨delD D1 q, l1 + wn, fs1⟩) := by
          show _ = _
          rw [HST.out]
          unfold tickS
          dsimp only
          rw [if_pos hov, hwl]
        rcases hc4.near with ⟨hs4, hD⟩ | ⟨mb, hs4, hm4, hk4⟩
        · rw [hD] at hlk; cases hlk
        have hpl4 := hs4.lt
        have e4 := hs4.cell 4 _ rfl
        have f4 := hs4.free 4
        have g4 := st4.cell 4 _ rfl
        have e3 := hs4.cell 3 _ rfl
        have hwn4 : wn ≤ 4 := by have := hno.len; dsimp only at this; omega
        have hi8 : i ≤ 8 := by omega
        have hlw : IntKind.i64.wrap (l1 + (wn : Int)) = l1 + (wn : Int) := by rw [IntKind.wrap_i64]; omega
        obtain ⟨w5, hw5⟩ : ∃ w5, w5 = (w4.drew).setCell ⟨p, 4, none⟩ (.int .i64 (l1 + (wn : Int))) := ⟨_, rfl⟩
        have hc5 : CaW w5 kd1 p mac ip t (l1 + wn) D1 := by rw [hw5]; exact (hc4.below (Below.refl _ _).drew).lose _
        have hf5 : Fr (fun k => k = p) w4 w5 := by rw [hw5]; exact (Fr.of_below (Below.refl _ _).drew).trans (Fr.setCell (fun k => k = p) _ _ _ rfl)
        have hne : mb ≠ p := fun e => by rw [e, hc4.kp] at hk4; cases hk4
        have hs5 : Stc w5 p (CaC mac ip t (.map (some mb)) (l1 + wn)) := by rw [hw5]; exact (hs4.below (Below.refl _ _).drew).set 4 _
        have e35 := hs5.cell 3 _ rfl
        have hm5 := hm4.fr hf5 hne
        obtain ⟨w6, hr6, hm6, hf6, hz6⟩ := hm5.del (P := Tryz.prog) ipKE Tryz.underlying167 (q := q) hq 0
        unfold ipV at hr6
        have hd6 := hc5.del q hs5 hk4 hm6 hf6
        have hkp1 := hc4.kp
        have hg6 : GrowA kd1 kd1 wr w6 := (GrowA.of_below bw4).trans ((GrowA.of_fr hf5 (fun k _ e => by rw [e, hkp1]; exact fun e => (by cases e))).trans (GrowA.of_fr hf6 (fun k _ e => by rw [e, hk4]; exact fun e => (by cases e))))
        have HZ := (show Hid _ from And.intro hd6 (And.intro (hgw.trans hg6) (hfs.grow hg6)))
        clear hcw hgw hfs hnw hno b0 stN hlk hb4 bw4 st4 hc4 hs4 hm4 hk4 hc5 hf5 hne hs5 hm5 hm6 hf6 hz6 hd6 hg6 hov hwl
        have HKC : Hid (w4.drew.cell? ⟨p, 4, none⟩ = some (.int .i64 l1) ∧ w4.drew.cell? ⟨wr.heap.size, 4, none⟩ = some (.slice wa wn wc) ∧ w4.drew.frozen? ⟨p, 4, none⟩ = false) := ⟨e4, g4, f4⟩
        clear e4 f4 g4 e3
        go_wp2
        refine wp_region_stage mixedX [10] (fun stgN W => match stgN with | 0 => W = w4.drew | _ => W = w5) (fun W => W = w4.drew) [(38, .pointer (some ⟨p, 0, none⟩)), (39, .pointer (some ⟨p, 0, none⟩)), (40, .pointer (some ⟨p, 4, none⟩)), (41, .int .i64 l1), (42, .pointer (some ⟨wr.heap.size, 4, none⟩)), (43, .slice wa wn wc), (44, .int .i64 (wn : Nat)), (45, .int .i64 (l1 + (wn : Int))), (46, .pointer (some ⟨p, 0, none⟩)), (47, .pointer (some ⟨p, 4, none⟩))] ?Z1 ?hZ1 (by kernel_rfl) (by kernel_rfl) (by kernel_rfl) (by kernel_rfl) (by kernel_rfl) ?h01 ?hS1 (.inl (by kernel_rfl)) ?hops1 ?he1 (by kernel_rfl) (by decide)
        case hZ1 => simp only [List.foldl_cons, List.foldl_nil, List.setIfInBounds_toArray, List.set_cons_zero, List.set_cons_succ]; rfl
        case h01 => rfl
        case hS1 =>
          intro k W hk hW
          have hk : k < 1 := hk
          obtain rfl : k = 0 := by omega
          · exact hW
        case hops1 =>
          refine ⟨?_, ?_, ?_, ?_, ?_, ?_, ?_, ?_, ?_, ?_, ?_, trivial⟩
          · exact stg_val (by rfl) (by rfl) (fun W hW => by have hW : W = w4.drew := hW; subst hW; obtain ⟨d0, d1, d2⟩ := HKC.out; go_simp; (try with_reducible rfl); (try omega))
          · exact stg_val (by rfl) (by rfl) (fun W hW => by have hW : W = w4.drew := hW; subst hW; obtain ⟨d0, d1, d2⟩ := HKC.out; go_simp; (try with_reducible rfl); (try omega))
          · exact stg_val (by rfl) (by rfl) (fun W hW => by have hW : W = w4.drew := hW; subst hW; obtain ⟨d0, d1, d2⟩ := HKC.out; go_simp; (try with_reducible rfl); (try omega))
          · exact stg_val (by rfl) (by rfl) (fun W hW => by have hW : W = w4.drew := hW; subst hW; obtain ⟨d0, d1, d2⟩ := HKC.out; go_simp; (try with_reducible rfl); (try omega))
          · exact stg_val (by rfl) (by rfl) (fun W hW => by have hW : W = w4.drew := hW; subst hW; obtain ⟨d0, d1, d2⟩ := HKC.out; go_simp; (try with_reducible rfl); (try omega))
          · exact stg_val (by rfl) (by rfl) (fun W hW => by have hW : W = w4.drew := hW; subst hW; obtain ⟨d0, d1, d2⟩ := HKC.out; go_simp; (try with_reducible rfl); (try omega))
          · exact stg_val (by rfl) (by rfl) (fun W hW => by have hW : W = w4.drew := hW; subst hW; obtain ⟨d0, d1, d2⟩ := HKC.out; go_simp; (try with_reducible rfl); (try omega))
          · exact stg_val (by rfl) (by rfl) (fun W hW => by have hW : W = w4.drew := hW; subst hW; obtain ⟨d0, d1, d2⟩ := HKC.out; go_simp; (try with_reducible rfl); (try omega))
          · exact stg_val (by rfl) (by rfl) (fun W hW => by have hW : W = w4.drew := hW; subst hW; obtain ⟨d0, d1, d2⟩ := HKC.out; go_simp; (try with_reducible rfl); (try omega))
          · exact stg_val (by rfl) (by rfl) (fun W hW => by have hW : W = w4.drew := hW; subst hW; obtain ⟨d0, d1, d2⟩ := HKC.out; go_simp; (try with_reducible rfl); (try omega))
          · exact stg_skip (by rfl) (by rfl) rfl (fun W hW => by have hW : W = w4.drew := hW; subst hW; obtain ⟨d0, d1, d2⟩ := HKC.out; refine ⟨w5, ?_, rfl⟩; rw [hw5]; go_simp)
        case he1 =>
        intro V3 hV3
        obtain rfl : V3 = w5 := hV3
        clear hw5 HKC
        go_wp2
        go_roundw
        case rel => exact ⟨i + 1, kd1, a1, n1, c1, by omega, by go_num, rfl, by rw [HSE.out]; exact HZ.out.1, HZ.out.2.1, by rw [HSE.out]; exact HZ.out.2.2⟩
        case measure => simp [intOf]; omega
      | false =>
        have HDU := (show Hid _ from due_any (hc4.looks.choose_spec.1) kn nm at_ ak wa wn wc ht0 ht1 hno.at0 (by have := hno.at1; dsimp only at this; omega))
        have s0 := st4.cell 0 _ rfl
        have s1 := st4.cell 1 _ rfl
        have s2 := st4.cell 2 _ rfl
        have s3 := st4.cell 3 _ rfl
        have s4 := st4.cell 4 _ rfl
        have HX4 := (show Hid _ from And.intro hc4 (And.intro st4 (And.intro bw4 hov)))
        clear hcw hgw hfs hnw hno b0 stN hlk hb4 bw4 st4 hc4 hov hwl hfl hll0 hll1
        go_wp2_with fail
        refine Calls.mono HDU.out ?_
        rintro e w5 ⟨rfl, hb5⟩
        obtain ⟨hc4, st4, bw4, hov⟩ := HX4.out
        obtain ⟨hcw, hgw, hfs, hnw, hno, b0, stN, hlk, hfl, hll0, hll1, hwl⟩ := HX.out
        have bw5 : Below wr.heap.size wr w5 := bw4.trans (hb5.mono bw4.size)
        have st5 := st4.below hb5
        have hc5 := hcw.below bw5
        clear s0 s1 s2 s3 s4
        cases hdu : dueB t kn at_ with
        | false =>
          have HSE : Hid (tickA mac ip t lost D (i + 1) = ⟨D1, l1, fs1⟩) := by
            show _ = _
            rw [HST.out]
            unfold tickS
            dsimp only
            rw [if_neg (by rw [hov]; decide), if_neg (by rw [hdu]; decide)]
          have HZ := (show Hid _ from And.intro hc5 (And.intro (hgw.trans (GrowA.of_below bw5)) (hfs.below bw5)))
          clear hcw hgw hfs hnw hno b0 stN hlk hb5 bw4 bw5 st4 st5 hc4 hc5 hov hdu hwl hfl hll0 hll1
          go_wp2
          go_roundw
          case rel => exact ⟨i + 1, kd1, a1, n1, c1, by omega, by go_num, rfl, by rw [HSE.out]; exact HZ.out.1, HZ.out.2.1, by rw [HSE.out]; exact HZ.out.2.2⟩
          case measure => simp [intOf]; omega
        | true =>
          obtain ⟨L, hL⟩ : ∃ L, L = epV 281474976710655 mac 2054 (arpB 1 mac ip 0 q) := ⟨_, rfl⟩
          have hLl : L.length ≤ 1600 := by rw [hL]; exact epV_le _ _ _ _ (by rw [arpB_len]; omega)
          have HSE : Hid (tickA mac ip t lost D (i + 1) = ⟨putD D1 q (askX ⟨kn, nm, at_, ak, wa, wn, wc, ws⟩ t), l1, fs1 ++ [L]⟩) := by
            show _ = _
            rw [HST.out]
            unfold tickS
            dsimp only
            rw [if_neg (by rw [hov]; decide), if_pos hdu, hL]
          have hak : ak ≤ 2 := by
            unfold overB at hov
            dsimp only at hov
            have hkn : kn = false := by unfold dueB at hdu; cases kn with | true => simp at hdu | false => rfl
            rw [hkn] at hov hdu
            simp only [Bool.false_eq_true, if_false] at hov
            rw [hdu] at hov
            simp at hov
            omega
          have hnw5 : NbW w5 kd1 q ⟨kn, nm, at_, ak, wa, wn, wc, ws⟩ := hnw.fr (Q := fun _ => False) (Fr.of_below bw5) (fun _ _ h => h.elim) (fun _ _ _ => rfl)
          have HAS := (show Hid _ from ask_any (hc5.weak (fun _ _ => trivial)) _ hnw5 hno hak hq (.inl (by rw [hlk]; rfl)))
          rw [← hL] at HAS
          unfold Nbr.v at HAS
          dsimp only at HAS
          have s0 := st5.cell 0 _ rfl
          have s1 := st5.cell 1 _ rfl
          have s2 := st5.cell 2 _ rfl
          have s3 := st5.cell 3 _ rfl
          have s4 := st5.cell 4 _ rfl
          have HX5 := (show Hid _ from And.intro (hgw.trans (GrowA.of_below bw5)) (And.intro (hfs.below bw5) hfl))
          clear hcw hgw hfs hnw hno b0 stN hlk hb5 bw4 bw5 st4 st5 hc4 hc5 hov hdu hwl hfl hll0 hll1 hL hnw5 HX HX4 HOV HDU
          go_wp2_with fail
          refine Calls.mono HAS.out ?_
          rintro e w6 ⟨kd6, hc6, hg6, a6, c6, rfl, hr6, hk6⟩
          obtain ⟨hg5, hfs5, hfl⟩ := HX5.out
          have hsz := hg5.fr.size
          obtain ⟨g7, c7, w7, hr7, hfs7, hf7⟩ := FrsW.app (hfs5.grow hg6) (hr6.base hsz) (by omega) hk6 hc6.fresh (Nat.le_trans hsz hg6.fr.size) (by rw [hfs5.len]; omega) 115
          have hg7 : GrowA kd kd6 w2 w7 := by
            have h1 := hg5.trans hg6
            refine ⟨⟨hf7.os.trans h1.fr.os, hf7.tape.trans h1.fr.tape, hf7.output.trans h1.fr.output, Nat.le_trans h1.fr.size hf7.size, fun k hk hn => ?_⟩, h1.no⟩
            exact (hf7.block k (Nat.lt_of_lt_of_le hk h1.fr.size) (fun e => by omega)).trans (h1.fr.block k hk hn)
          have HZ := (show Hid _ from And.intro (hc6.fr hf7 (fun g _ e => .inl e.1)) (And.intro hg7 hfs7))
          clear hc6 hg6 hr6 hk6 hg5 hfs5 hfl hsz hfs7 hf7 hg7 s0 s1 s2 s3 s4
          go_wp2_with (at_builtin; refine app_eq_list rfl _ _ rfl rfl rfl rfl hr7 ?_)
          go_roundw
          case rel => exact ⟨i + 1, kd6, _, _, c7, by omega, by go_num, rfl, by rw [HSE.out]; exact HZ.out.1, HZ.out.2.1, by rw [HSE.out]; exact HZ.out.2.2⟩
          case measure => simp [intOf]; omega
    · obtain rfl : i = n := by omega
      have HZ := (show Hid _ from And.intro hcw (And.intro hgw hfs))
      clear hcw hgw hfs
      go_wp2
      go_ret2
      obtain ⟨hcw, hgw, hfs⟩ := HZ.out
      rw [HN.out] at hcw hfs
      refine ⟨kd1, t, _, _, 0, _, a1, n1, c1, .inr ⟨HTK.out, rfl, rfl, rfl, rfl, rfl⟩, hcw, HCV.out.2.trans ((GrowA.of_below HO.out.2).trans hgw), rfl, hfs.base (Nat.le_trans HCV.out.2.fr.size HO.out.2.size)⟩
end Go.Proofs.YtfjpckaphfdfnaaGreatDoor
namespace Go.Proofs.YtfjpckaphfdfnaaGreatDoor
open Go.RowKit Go.MapKept Go.Maps
set_option maxRecDepth 100000 in
theorem draws_any (sd : Int) (k : Int) (w : World) : Calls Tryz.prog 86 #[.int .u64 sd, .int .i64 k] w fun e w' => (∃ v : Int, e = .returned (.int .u64 v)) ∧ Below w.heap.size w w' := by
  go_enter Tryz.func86, Tryz.ntmps86
  go_wp2
  go_ret
  exact ⟨⟨_, rfl⟩, Below.refl _ _⟩
set_option maxRecDepth 100000 in
theorem hidx_nil (f : Value) (w : World) : Calls Tryz.prog 117 #[.slice none 0 0, f] w fun e w' => e = .returned (.int .i64 (-1)) ∧ Below w.heap.size w w' := by
  go_enter Tryz.func117, Tryz.ntmps117
  go_wp2_with fail
  go_loopw [8] (fun iv wr => iv = .int .i64 0 ∧ Below w.heap.size w wr) (fun _ _ => 0)
  case atStart => exact ⟨rfl, Below.refl _ _⟩
  case round =>
    obtain ⟨rfl, hb⟩ := hrel
    go_wp2
    go_ret
    exact ⟨rfl, hb⟩
set_option maxRecDepth 100000 in
theorem hdel_nil (f : Value) (w : World) : Calls Tryz.prog 84 #[.slice none 0 0, f] w fun e w' => e = .returned (.slice none 0 0) ∧ Below w.heap.size w w' := by
  have hx := hidx_nil f w
  go_enter Tryz.func84, Tryz.ntmps84
  go_wp2_with fail
  refine hx.mono ?_
  rintro e w1 ⟨rfl, hb⟩
  clear hx
  go_wp2
  go_ret
  exact ⟨rfl, hb⟩
set_option maxRecDepth 100000 in
theorem ridx_nil (f : Value) (w : World) : Calls Tryz.prog 215 #[.slice none 0 0, f] w fun e w' => e = .returned (.int .i64 (-1)) ∧ Below w.heap.size w w' := by
  go_enter Tryz.func215, Tryz.ntmps215
  go_wp2_with fail
  go_loopw [8] (fun iv wr => iv = .int .i64 0 ∧ Below w.heap.size w wr) (fun _ _ => 0)
  case atStart => exact ⟨rfl, Below.refl _ _⟩
  case round =>
    obtain ⟨rfl, hb⟩ := hrel
    go_wp2
    go_ret
    exact ⟨rfl, hb⟩
set_option maxRecDepth 100000 in
theorem rdel_nil (f : Value) (w : World) : Calls Tryz.prog 159 #[.slice none 0 0, f] w fun e w' => e = .returned (.slice none 0 0) ∧ Below w.heap.size w w' := by
  have hx := ridx_nil f w
  go_enter Tryz.func159, Tryz.ntmps159
  go_wp2_with fail
  refine hx.mono ?_
  rintro e w1 ⟨rfl, hb⟩
  clear hx
  go_wp2
  go_ret
  exact ⟨rfl, hb⟩
/-- The pool where it holds nothing. -/
abbrev poC (t : Int) : List Value := [.int .i64 t, .slice none 0 0, .int .i64 0]
set_option maxRecDepth 100000 in
theorem rmayBe_any {w : World} {q : Nat} {was : Int} (h : Stc w q (poC was)) (t : Int) (h0 : 0 ≤ t) (h1 : t ≤ 1099511627776) (h2 : was ≤ t) :
    Calls Tryz.prog 93 #[.pointer (some ⟨q, 0, none⟩), .int .i64 t] w fun e w' => e = .returned (.int .i64 0) ∧ Below w.heap.size w w' := by
  have c0 := h.cell 0 _ rfl
  have g0 : ¬ t < 0 := by omega
  have g1 : ¬ 1099511627776 < t := by omega
  have g2 : ¬ t < was := by omega
  clear h h0 h1 h2
  go_enter Tryz.func93, Tryz.ntmps93
  go_wp2
  go_ret
  exact ⟨rfl, Below.refl _ _⟩
set_option maxRecDepth 100000 in
set_option maxHeartbeats 2000000 in
theorem rforget_nil {w : World} {q : Nat} {t : Int} (h : Stc w q (poC t)) (f : Value) :
    Calls Tryz.prog 124 #[.pointer (some ⟨q, 0, none⟩), f] w fun e w' => e = .returned (.int .i64 0) ∧ Fr (fun g => g = q) w w' ∧ Stc w' q (poC t) := by
  have HH := (show Hid _ from h)
  have c1 := h.cell 1 _ rfl
  clear h
  go_enter Tryz.func124, Tryz.ntmps124
  go_wp2_with fail
  refine (rdel_nil f w).mono ?_
  rintro e w1 ⟨rfl, hb⟩
  have h1 := HH.out.below hb
  have d1 := h1.cell 1 _ rfl
  have f1 := h1.free 1
  have H1 := (show Hid _ from And.intro h1 hb)
  clear c1 h1 hb
  go_wp2
  go_ret
  exact ⟨rfl, (Fr.of_below H1.out.2).trans (Fr.setCell _ _ _ _ rfl), H1.out.1.set 1 (.slice none 0 0)⟩
set_option maxRecDepth 100000 in
set_option maxHeartbeats 2000000 in
theorem rdrop_nil {w : World} {q : Nat} {t : Int} (h : Stc w q (poC t)) (f : Value) :
    Calls Tryz.prog 94 #[.pointer (some ⟨q, 0, none⟩), f] w fun e w' => e = .returned (.int .i64 0) ∧ Fr (fun g => g = q) w w' ∧ Stc w' q (poC t) := by
  have hx := rforget_nil h f
  clear h
  go_enter Tryz.func94, Tryz.ntmps94
  go_wp2_with fail
  refine hx.mono ?_
  rintro e w1 ⟨rfl, hf, h1⟩
  clear hx
  have d2 := h1.cell 2 _ rfl
  have f2 := h1.free 2
  have H1 := (show Hid _ from And.intro h1 hf)
  clear h1 hf
  go_wp2
  go_ret
  exact ⟨rfl, H1.out.2.trans (Fr.setCell _ _ _ _ rfl), H1.out.1.set 2 (.int .i64 0)⟩
set_option maxRecDepth 100000 in
set_option maxHeartbeats 2000000 in
theorem rtick_nil0 {w : World} {q : Nat} {was : Int} (h : Stc w q (poC was)) (t : Int) (h0 : 0 ≤ t) (h1 : t ≤ 1099511627776) (h2 : was ≤ t) :
    Calls Tryz.prog 54 #[.pointer (some ⟨q, 0, none⟩), .int .i64 t] w fun e w' => (∃ v, e = .returned v) ∧ Fr (fun g => g = q) w w' ∧ Stc w' q (poC t) := by
  obtain ⟨W1, hW1⟩ : ∃ W1, W1 = w.alloc (.cells #[.int .i64 t] 3) := ⟨_, rfl⟩
  have hb1 : Below w.heap.size w W1 := by rw [hW1]; exact (Below.refl _ _).alloc (Nat.le_refl _) _
  have sB := Stc.new w [.int .i64 t] 3 W1 hW1
  have HM := (show Hid _ from rmayBe_any (h.below hb1) t h0 h1 h2)
  have HH := (show Hid _ from And.intro (h.below hb1) (And.intro hb1 (And.intro sB (show w.heap.size ≠ q by have := h.lt; omega))))
  have hm := hmf
  clear h h0 h1 h2 hb1 sB
  go_enter Tryz.func54, Tryz.ntmps54
  go_wp2_with fail
  rw [← hW1]
  clear hW1
  refine Calls.mono HM.out ?_
  rintro e w2 ⟨rfl, hb2⟩
  obtain ⟨h1, hb1, sB, hne⟩ := HH.out
  have h2 := h1.below hb2
  have s2 := sB.below hb2
  have c0 := h2.cell 0 _ rfl
  have f0 := h2.free 0
  have t0 := s2.cell 0 _ rfl
  have h3 : Stc (w2.setCell ⟨q, 0, none⟩ (.int .i64 t)) q (poC t) := h2.set 0 (.int .i64 t)
  have hf3 : Fr (fun g => g = q) w (w2.setCell ⟨q, 0, none⟩ (.int .i64 t)) := (Fr.of_below (hb1.trans (hb2.mono hb1.size))).trans (Fr.setCell _ _ _ _ rfl)
  have HD := (show Hid _ from fun f => rdrop_nil h3 f)
  have HF := (show Hid _ from hf3)
  clear h1 hb1 sB hne h2 s2 h3 hf3 hb2 HM HH
  go_wp2_with fail
  refine Calls.mono (HD.out _) ?_
  rintro e w4 ⟨rfl, hf4, h4⟩
  have H4 := (show Hid _ from And.intro hf4 h4)
  clear hf4 h4 c0 f0 t0 HD
  go_wp2
  go_ret2
  exact ⟨⟨_, rfl⟩, HF.out.trans H4.out.1, H4.out.2⟩
section
variable {w0 w : World} {p : Nat} {s : HSt} {R : Nat → RSt} {C : Nat → CSt}
set_option maxRecDepth 100000 in
set_option maxHeartbeats 2000000 in
theorem hforget (h : HoW w0 w p s R C) (hp : s.past = .slice none 0 0) :
    Calls Tryz.prog 49 #[.pointer (some ⟨p, 0, none⟩)] w fun e w' => e = .returned (.tuple #[]) ∧ HoW w0 w' p s R C := by
  have HH := (show Hid _ from And.intro h hp)
  have hm := hmf
  clear h hp
  go_enter Tryz.func49, Tryz.ntmps49
  go_wp2_with fail
  obtain ⟨W1, hW1⟩ : ∃ W1, W1 = w.alloc (.cells #[.pointer (some ⟨p, 0, none⟩)] 27) := ⟨_, rfl⟩
  have sB := Stc.new w [.pointer (some ⟨p, 0, none⟩)] 27 W1 hW1
  have hb1 : Below w.heap.size w W1 := by rw [hW1]; exact (Below.refl _ _).alloc (Nat.le_refl _) _
  rw [← hW1]
  clear hW1
  have hd1 : Below W1.heap.size W1 W1.drew := (Below.refl _ _).drew
  have HALL : Hid (∀ V, Below W1.heap.size W1 V → V.cell? ⟨w.heap.size, 0, none⟩ = some (.pointer (some ⟨p, 0, none⟩)) ∧ V.cell? ⟨p, 66, none⟩ = some (.slice none 0 0) ∧ V.frozen? ⟨p, 66, none⟩ = false) := fun V hV => by
    obtain ⟨ro, hx⟩ := HH.out.1
    have sx := (hx.below hb1).below hV
    refine ⟨(sB.below hV).cell 0 _ rfl, ?_, sx.st.free 66⟩
    have := sx.st.cell 66 _ rfl
    rw [HH.out.2] at this
    exact this
  have HST : Hid (∀ V, Below W1.heap.size W1 V → (V.setCell ⟨p, 66, none⟩ (.slice none 0 0)).cell? ⟨w.heap.size, 0, none⟩ = some (.pointer (some ⟨p, 0, none⟩)) ∧ (V.setCell ⟨p, 66, none⟩ (.slice none 0 0)).cell? ⟨p, 66, none⟩ = some (.slice none 0 0) ∧ (V.setCell ⟨p, 66, none⟩ (.slice none 0 0)).frozen? ⟨p, 66, none⟩ = false) := fun V hV => by
    obtain ⟨ro, hx⟩ := HH.out.1
    have sx := ((hx.below hb1).below hV).st.set 66 (.slice none 0 0)
    have sy := (sB.below hV).other p 66 (.slice none 0 0) (by have := hx.st.lt; omega)
    exact ⟨sy.cell 0 _ rfl, sx.cell 66 _ rfl, sx.free 66⟩
  have HB1 := (show Hid _ from hb1)
  have hc0 := HALL.out _ hd1
  clear sB hb1
  go_region_held3 (fun w' => w'.cell? ⟨w.heap.size, 0, none⟩ = some (.pointer (some ⟨p, 0, none⟩)) ∧ w'.cell? ⟨p, 66, none⟩ = some (.slice none 0 0) ∧ w'.frozen? ⟨p, 66, none⟩ = false) (first | exact hc0 | exact hc1 | exact HST.out _ hd3 | go_keep | fail) (first
    | (go_at_call 84; refine (hdel_nil _ _).mono ?_; rintro e w3 ⟨rfl, hb3⟩; have hd3 := hd1.trans (hb3.mono hd1.size); have hc1 := HALL.out _ hd3)
    | fail)
  all_goals
    have HD := (show Hid _ from HB1.out.trans (hd3.mono HB1.out.size))
    clear hc0 hc1 hd3 hd1
    go_wp2
    go_end0
    refine ⟨rfl, ?_⟩
    obtain ⟨ro, hx⟩ := HH.out.1
    have h3 := hx.below HD.out
    refine h3.own s rfl rfl rfl (Fr.setCell _ _ _ _ rfl) ?_
    have := h3.st.set 66 (.slice none 0 0)
    have e : (hoCs s R C).set 66 (.slice none 0 0) = hoCs s R C := by
      rw [← HH.out.2]
      rfl
    rw [e] at this
    exact this
end
end Go.Proofs.YtfjpckaphfdfnaaGreatDoor
namespace Go.Proofs.YtfjpckaphfdfnaaGreatDoor
open Go.RowKit Go.MapKept Go.Maps
set_option maxRecDepth 100000 in
set_option maxHeartbeats 2000000 in
theorem drawing_any (sd t : Int) (w : World) : Calls Tryz.prog 50 #[.int .u64 sd, .int .i64 t] w fun e w' => ∃ (a b : Nat) (v : Int), e = .returned (.func (.func 87) #[] #[.pointer (some ⟨a, 0, none⟩), .pointer (some ⟨b, 0, none⟩)]) ∧ w.heap.size ≤ a ∧ w.heap.size ≤ b ∧ a ≠ b ∧ Stc w' a [.int .i64 0] ∧ Stc w' b [.int .u64 v] ∧ Below w.heap.size w w' := by
  have hd := draws_any sd t w
  have hm := hmf
  go_enter Tryz.func50, Tryz.ntmps50
  go_wp2_with fail
  refine hd.mono ?_
  rintro e w1 ⟨⟨v, rfl⟩, hb⟩
  have HB := (show Hid _ from hb)
  clear hd hb
  go_wp2
  go_ret
  have z := HB.out.size
  have s1 := Stc.new w1 [.int .u64 v] 53 _ rfl
  have b1 : Below w1.heap.size w1 (w1.alloc (.cells #[.int .u64 v] 53)) := (Below.refl _ _).alloc (Nat.le_refl _) _
  have s2 := Stc.new (w1.alloc (.cells #[.int .u64 v] 53)) [.int .i64 0] 3 _ rfl
  have b2 : Below (w1.alloc (.cells #[.int .u64 v] 53)).heap.size (w1.alloc (.cells #[.int .u64 v] 53)) ((w1.alloc (.cells #[.int .u64 v] 53)).alloc (.cells #[.int .i64 0] 3)) := (Below.refl _ _).alloc (Nat.le_refl _) _
  have ez : (w1.alloc (.cells #[.int .u64 v] 53)).heap.size = w1.heap.size + 1 := by simp
  rw [ez] at s2
  exact ⟨w1.heap.size + 1, w1.heap.size, v, rfl, by omega, z, by omega, s2, s1.below b2, HB.out.trans ((b1.trans (b2.mono b1.size)).mono z)⟩
section
variable {w0 w : World} {p : Nat} {s : HSt} {R : Nat → RSt} {C : Nat → CSt}
set_option maxRecDepth 100000 in
set_option maxHeartbeats 2000000 in
theorem next_any (h : HoW w0 w p s R C) {a b : Nat} {k v : Int} (hE : s.E = [(a, [.int .i64 k]), (b, [.int .u64 v])]) (hn : b ≠ a) (k0 : 0 ≤ k) (k1 : k ≤ 1000000) :
    Calls Tryz.prog 87 #[.pointer (some ⟨a, 0, none⟩), .pointer (some ⟨b, 0, none⟩)] w fun e w' => (∃ x : Int, e = .returned (.int .u64 x)) ∧ Fr (fun g => g = a) w w' ∧ HoW w0 w' p { s with E := [(a, [.int .i64 (k + 1)]), (b, [.int .u64 v])] } R C := by
  have sa : Stc w a [.int .i64 k] := h.ext (x := (a, [.int .i64 k])) (by rw [hE]; simp)
  have sb : Stc w b [.int .u64 v] := h.ext (x := (b, [.int .u64 v])) (by rw [hE]; simp)
  have ca := sa.cell 0 _ rfl
  have cb := sb.cell 0 _ rfl
  have fa := sa.free 0
  have hf : Fr (fun g => g = a) w (w.setCell ⟨a, 0, none⟩ (.int .i64 (k + 1))) := Fr.setCell _ _ _ _ rfl
  have ht := h.turn hE (fun x hx => by simp at hx; rw [hx]; exact hn) hf (sa.set 0 (.int .i64 (k + 1)))
  have HT := (show Hid _ from ht)
  have HFR := (show Hid _ from hf)
  have HDR := (show Hid _ from draws_any v (k + 1))
  have hna : ¬ (b = a) := hn
  clear sa sb h hf ht hE
  go_enter Tryz.func87, Tryz.ntmps87
  go_wp2_with fail
  refine Calls.mono (HDR.out _) ?_
  rintro e w2 ⟨⟨x, rfl⟩, hb⟩
  have HB := (show Hid _ from hb)
  clear hb ca cb fa
  go_wp2
  go_ret
  exact ⟨⟨x, rfl⟩, HFR.out.trans (Fr.of_below HB.out), HoW.below HT.out HB.out⟩
set_option maxRecDepth 100000 in
theorem htakeFrames0_none (h : HoW w0 w p s R C) (he : (R 0).rs = []) (f : Value) :
    Calls Tryz.prog 51 #[.pointer (some ⟨p, 0, none⟩), .int .i64 0, f] w fun e w' => e = .returned (.tuple #[]) ∧ w' = w := by
  have HF := (show Hid _ from hlift_none h (k := 0) (by omega) he)
  have hc : w.cell? ⟨p, 11, none⟩ = some (.pointer (some ⟨(R 0).p, 0, none⟩)) := by obtain ⟨ro, h1⟩ := h; exact h1.st.cell 11 _ rfl
  clear h he
  go_enter Tryz.func51, Tryz.ntmps51
  go_wp2_with fail
  go_loopw [6] (fun iv wr => wr = w) (fun _ _ => 0)
  case atStart => exact rfl
  case round =>
    subst hrel
    go_wp2_with fail
    refine Calls.mono HF.out ?_
    rintro e w2 ⟨rfl, rfl⟩
    go_wp2
    refine bodyPost_ret (results_none rfl _ _ _) rfl ?_
    exact ⟨rfl, rfl⟩
set_option maxRecDepth 100000 in
theorem htakeFrames1_none (h : HoW w0 w p s R C) (he : (R 2).rs = []) (f : Value) :
    Calls Tryz.prog 51 #[.pointer (some ⟨p, 0, none⟩), .int .i64 1, f] w fun e w' => e = .returned (.tuple #[]) ∧ w' = w := by
  have HF := (show Hid _ from hlift_none h (k := 2) (by omega) he)
  have hc : w.cell? ⟨p, 14, none⟩ = some (.pointer (some ⟨(R 2).p, 0, none⟩)) := by obtain ⟨ro, h1⟩ := h; exact h1.st.cell 14 _ rfl
  clear h he
  go_enter Tryz.func51, Tryz.ntmps51
  go_wp2_with fail
  go_loopw [6] (fun iv wr => wr = w) (fun _ _ => 0)
  case atStart => exact rfl
  case round =>
    subst hrel
    go_wp2_with fail
    refine Calls.mono HF.out ?_
    rintro e w2 ⟨rfl, rfl⟩
    go_wp2
    refine bodyPost_ret (results_none rfl _ _ _) rfl ?_
    exact ⟨rfl, rfl⟩
def cntAt (w : World) (p : Nat) : Nat := match w.cell? ⟨p, 3, none⟩ with | some v => (intOf v).toNat | none => 0
theorem HoW.cnt (h : HoW w0 w p s R C) {k : Nat} (hk : k < 4) : cntAt w (R k).p = (R k).rs.length := by
  obtain ⟨ro, h⟩ := h
  have := (h.ring k hk).1.c3
  unfold cntAt
  rw [this]
  simp [intOf]
set_option maxRecDepth 100000 in
set_option maxHeartbeats 4000000 in
theorem htakeFrames0_one (h : HoW w0 w p s R C) {a b b0 : Nat} {k v : Int} (hE0 : s.E = [(a, [.int .i64 k]), (b, [.int .u64 v])]) (hn : b ≠ a) (k0 : 0 ≤ k) (k1 : k ≤ 1000000) {zs : List Nat} (he : (R 0).rs = [(b0, zs)]) (hzl : zs.length ≤ 1514)
    (f : Nat) (bs : List Nat) (z1 : tkE zs = 0) (z2 : tkN zs 0 6 = 281474976710655) (z3 : tkN zs 6 6 = f) (z4 : tkN zs 12 2 = 2054) (z5 : tkB zs = bs)
    (fm fi tm ti : Nat) (hE : taE bs = 0) (e1 : taN bs 6 2 = 1) (e2 : taN bs 8 6 = fm) (e3 : taN bs 14 4 = fi) (e4 : taN bs 18 6 = tm) (e5 : taN bs 24 4 = ti) (hti : ti = (C 0).ip) (hD : (C 0).D = [])
    (ht : takeE (C 0).now s.now (C 0).ip fi fm = 0) (hfi : fi < 4294967296) (hd : (R 1).d ≤ 1000000) (hok : fillE (R 1).N (R 1).tk (R 1).rs (ansF (C 0).mac (C 0).ip fm fi) = 0) :
    Calls Tryz.prog 51 #[.pointer (some ⟨p, 0, none⟩), .int .i64 0, .func (.func 87) #[] #[.pointer (some ⟨a, 0, none⟩), .pointer (some ⟨b, 0, none⟩)]] w fun e w' => e = .returned (.tuple #[]) ∧ ∃ b1, HoW w0 w' p { s with E := [(a, [.int .i64 (k + 1)]), (b, [.int .u64 v])] } (upd (upd R 0 (giveR (R 0))) 1 (fillR (R 1) b1 (ansF (C 0).mac (C 0).ip fm fi))) (upd C 0 (takC0 C fi fm s.now)) := by
  have HF := (show Hid _ from fun (W : World) (hW : HoW w0 W p s R C) => hlift_some hW (k := 0) (by omega) he)
  have HNX := (show Hid _ from fun (W : World) (hW : HoW w0 W p s (upd R 0 (giveR (R 0))) C) => next_any hW hE0 hn k0 k1)
  have HTF := (show Hid _ from fun (W : World) (hW : HoW w0 W p { s with E := [(a, [.int .i64 (k + 1)]), (b, [.int .u64 v])] } (upd R 0 (giveR (R 0))) C) (xa : Option Addr) (xn xc : Nat) (hx : Sl W xa xn xc zs) (dr : Value) => htakeFrame0 hW hx dr f bs z1 z2 z3 z4 z5 fm fi tm ti hE e1 e2 e3 e4 e5 hti hD ht hfi hd hok)
  have HLN := (show Hid _ from fun (W : World) (b1 : Nat) (hW : HoW w0 W p { s with E := [(a, [.int .i64 (k + 1)]), (b, [.int .u64 v])] } (upd (upd R 0 (giveR (R 0))) 1 (fillR (R 1) b1 (ansF (C 0).mac (C 0).ip fm fi))) (upd C 0 (takC0 C fi fm s.now))) => hlift_none hW (k := 0) (by omega) (by show (giveR (R 0)).rs = []; unfold giveR; dsimp only; rw [he]; rfl))
  have HE0 := (show Hid _ from hE0)
  have HH := (show Hid _ from h)
  have hl1 : (R 0).rs.length = 1 := by rw [he]; rfl
  have HL1 := (show Hid _ from hl1)
  have hl0 : (giveR (R 0)).rs.length = 0 := by unfold giveR; dsimp only; rw [he]; rfl
  have HL0 := (show Hid _ from hl0)
  clear h hE0 hn k0 k1 he z1 z2 z3 z4 z5 hE e1 e2 e3 e4 e5 hti hD ht hfi hd hok hl1 hl0
  go_enter Tryz.func51, Tryz.ntmps51
  go_wp2_with fail
  go_loopw [6] (fun iv wr => HoW w0 wr p s R C ∨ ∃ b1, HoW w0 wr p { s with E := [(a, [.int .i64 (k + 1)]), (b, [.int .u64 v])] } (upd (upd R 0 (giveR (R 0))) 1 (fillR (R 1) b1 (ansF (C 0).mac (C 0).ip fm fi))) (upd C 0 (takC0 C fi fm s.now))) (fun _ wr => cntAt wr (R 0).p)
  case atStart => exact .inl HH.out
  case round =>
    clear HH
    rcases hrel with h | ⟨b1, h⟩
    · have hc : wr.cell? ⟨p, 11, none⟩ = some (.pointer (some ⟨(R 0).p, 0, none⟩)) := by obtain ⟨ro, h1⟩ := h; exact h1.st.cell 11 _ rfl
      have hcn := h.cnt (k := 0) (by omega)
      have HCN := (show Hid _ from hcn.trans HL1.out)
      have HF1 := (show Hid _ from HF.out wr h)
      clear h hcn
      go_wp2_with fail
      refine Calls.mono HF1.out ?_
      rintro e w2 ⟨⟨b2, c2, rfl, hO, hO2⟩, h2⟩
      have hba : ¬ b2 = a := fun e => hO2 (a, [.int .i64 k]) (by rw [HE0.out]; simp) e.symm
      have HO := (show Hid _ from And.intro hO hba)
      have HN2 := (show Hid _ from HNX.out w2 h2)
      have h2s := h2.bel.size
      clear hO hO2 hba h2 hc HF1
      go_wp2_with fail
      refine Calls.mono HN2.out ?_
      rintro e w3 ⟨⟨x, rfl⟩, hf3, h3⟩
      have hs3 : Sl w3 (some ⟨b2, 0, none⟩) zs.length c2 zs := (HO.out.1.fr hf3 HO.out.2).sl (by omega)
      have HT3 := (show Hid _ from HTF.out w3 h3 (some ⟨b2, 0, none⟩) zs.length c2 hs3 (.int .u64 x))
      clear hs3 h3 hf3 HN2
      go_wp2_with fail
      refine Calls.mono HT3.out ?_
      rintro e w4 ⟨rfl, b1, h4⟩
      have hc4 := h4.cnt (k := 0) (by omega)
      have HC4 : Hid (cntAt w4 (R 0).p = 0) := hc4.trans HL0.out
      have H4 := (show Hid _ from h4)
      clear h4 hc4 HT3
      go_wp2
      go_roundw
      case rel => exact .inr ⟨b1, H4.out⟩
      case measure => rw [HC4.out, HCN.out]; omega
    · have HLX := (show Hid _ from HLN.out wr b1 h)
      have hc : wr.cell? ⟨p, 11, none⟩ = some (.pointer (some ⟨(R 0).p, 0, none⟩)) := by obtain ⟨ro, h1⟩ := h; exact h1.st.cell 11 _ rfl
      have H4 := (show Hid _ from h)
      clear h
      go_wp2_with fail
      refine Calls.mono HLX.out ?_
      rintro e w5 ⟨rfl, rfl⟩
      clear HLX hc
      go_wp2
      refine bodyPost_ret (results_none rfl _ _ _) rfl ?_
      exact ⟨rfl, b1, H4.out⟩
set_option maxRecDepth 100000 in
set_option maxHeartbeats 4000000 in
theorem htakeFrames1_one (h : HoW w0 w p s R C) {a b b0 : Nat} {k v : Int} (hE0 : s.E = [(a, [.int .i64 k]), (b, [.int .u64 v])]) (hn : b ≠ a) (k0 : 0 ≤ k) (k1 : k ≤ 1000000) {zs : List Nat} (he : (R 2).rs = [(b0, zs)]) (hzl : zs.length ≤ 1514)
    (f : Nat) (bs : List Nat) (z1 : tkE zs = 0) (z2 : tkN zs 0 6 = 281474976710655) (z3 : tkN zs 6 6 = f) (z4 : tkN zs 12 2 = 2054) (z5 : tkB zs = bs)
    (fm fi tm ti : Nat) (hE : taE bs = 0) (e1 : taN bs 6 2 = 1) (e2 : taN bs 8 6 = fm) (e3 : taN bs 14 4 = fi) (e4 : taN bs 18 6 = tm) (e5 : taN bs 24 4 = ti) (hti : ti = (C 1).ip) (hD : (C 1).D = [])
    (ht : takeE (C 1).now s.now (C 1).ip fi fm = 0) (hfi : fi < 4294967296) (hd : (R 3).d ≤ 1000000) (hok : fillE (R 3).N (R 3).tk (R 3).rs (ansF (C 1).mac (C 1).ip fm fi) = 0) :
    Calls Tryz.prog 51 #[.pointer (some ⟨p, 0, none⟩), .int .i64 1, .func (.func 87) #[] #[.pointer (some ⟨a, 0, none⟩), .pointer (some ⟨b, 0, none⟩)]] w fun e w' => e = .returned (.tuple #[]) ∧ ∃ b1, HoW w0 w' p { s with E := [(a, [.int .i64 (k + 1)]), (b, [.int .u64 v])] } (upd (upd R 2 (giveR (R 2))) 3 (fillR (R 3) b1 (ansF (C 1).mac (C 1).ip fm fi))) (upd C 1 (takC1 C fi fm s.now)) := by
  have HF := (show Hid _ from fun (W : World) (hW : HoW w0 W p s R C) => hlift_some hW (k := 2) (by omega) he)
  have HNX := (show Hid _ from fun (W : World) (hW : HoW w0 W p s (upd R 2 (giveR (R 2))) C) => next_any hW hE0 hn k0 k1)
  have HTF := (show Hid _ from fun (W : World) (hW : HoW w0 W p { s with E := [(a, [.int .i64 (k + 1)]), (b, [.int .u64 v])] } (upd R 2 (giveR (R 2))) C) (xa : Option Addr) (xn xc : Nat) (hx : Sl W xa xn xc zs) (dr : Value) => htakeFrame1 hW hx dr f bs z1 z2 z3 z4 z5 fm fi tm ti hE e1 e2 e3 e4 e5 hti hD ht hfi hd hok)
  have HLN := (show Hid _ from fun (W : World) (b1 : Nat) (hW : HoW w0 W p { s with E := [(a, [.int .i64 (k + 1)]), (b, [.int .u64 v])] } (upd (upd R 2 (giveR (R 2))) 3 (fillR (R 3) b1 (ansF (C 1).mac (C 1).ip fm fi))) (upd C 1 (takC1 C fi fm s.now))) => hlift_none hW (k := 2) (by omega) (by show (giveR (R 2)).rs = []; unfold giveR; dsimp only; rw [he]; rfl))
  have HE0 := (show Hid _ from hE0)
  have HH := (show Hid _ from h)
  have hl1 : (R 2).rs.length = 1 := by rw [he]; rfl
  have HL1 := (show Hid _ from hl1)
  have hl0 : (giveR (R 2)).rs.length = 0 := by unfold giveR; dsimp only; rw [he]; rfl
  have HL0 := (show Hid _ from hl0)
  clear h hE0 hn k0 k1 he z1 z2 z3 z4 z5 hE e1 e2 e3 e4 e5 hti hD ht hfi hd hok hl1 hl0
  go_enter Tryz.func51, Tryz.ntmps51
  go_wp2_with fail
  go_loopw [6] (fun iv wr => HoW w0 wr p s R C ∨ ∃ b1, HoW w0 wr p { s with E := [(a, [.int .i64 (k + 1)]), (b, [.int .u64 v])] } (upd (upd R 2 (giveR (R 2))) 3 (fillR (R 3) b1 (ansF (C 1).mac (C 1).ip fm fi))) (upd C 1 (takC1 C fi fm s.now))) (fun _ wr => cntAt wr (R 2).p)
  case atStart => exact .inl HH.out
  case round =>
    clear HH
    rcases hrel with h | ⟨b1, h⟩
    · have hc : wr.cell? ⟨p, 14, none⟩ = some (.pointer (some ⟨(R 2).p, 0, none⟩)) := by obtain ⟨ro, h1⟩ := h; exact h1.st.cell 14 _ rfl
      have hcn := h.cnt (k := 2) (by omega)
      have HCN := (show Hid _ from hcn.trans HL1.out)
      have HF1 := (show Hid _ from HF.out wr h)
      clear h hcn
      go_wp2_with fail
      refine Calls.mono HF1.out ?_
      rintro e w2 ⟨⟨b2, c2, rfl, hO, hO2⟩, h2⟩
      have hba : ¬ b2 = a := fun e => hO2 (a, [.int .i64 k]) (by rw [HE0.out]; simp) e.symm
      have HO := (show Hid _ from And.intro hO hba)
      have HN2 := (show Hid _ from HNX.out w2 h2)
      have h2s := h2.bel.size
      clear hO hO2 hba h2 hc HF1
      go_wp2_with fail
      refine Calls.mono HN2.out ?_
      rintro e w3 ⟨⟨x, rfl⟩, hf3, h3⟩
      have hs3 : Sl w3 (some ⟨b2, 0, none⟩) zs.length c2 zs := (HO.out.1.fr hf3 HO.out.2).sl (by omega)
      have HT3 := (show Hid _ from HTF.out w3 h3 (some ⟨b2, 0, none⟩) zs.length c2 hs3 (.int .u64 x))
      clear hs3 h3 hf3 HN2
      go_wp2_with fail
      refine Calls.mono HT3.out ?_
      rintro e w4 ⟨rfl, b1, h4⟩
      have hc4 := h4.cnt (k := 2) (by omega)
      have HC4 : Hid (cntAt w4 (R 2).p = 0) := hc4.trans HL0.out
      have H4 := (show Hid _ from h4)
      clear h4 hc4 HT3
      go_wp2
      go_roundw
      case rel => exact .inr ⟨b1, H4.out⟩
      case measure => rw [HC4.out, HCN.out]; omega
    · have HLX := (show Hid _ from HLN.out wr b1 h)
      have hc : wr.cell? ⟨p, 14, none⟩ = some (.pointer (some ⟨(R 2).p, 0, none⟩)) := by obtain ⟨ro, h1⟩ := h; exact h1.st.cell 14 _ rfl
      have H4 := (show Hid _ from h)
      clear h
      go_wp2_with fail
      refine Calls.mono HLX.out ?_
      rintro e w5 ⟨rfl, rfl⟩
      clear HLX hc
      go_wp2
      refine bodyPost_ret (results_none rfl _ _ _) rfl ?_
      exact ⟨rfl, b1, H4.out⟩
end
end Go.Proofs.YtfjpckaphfdfnaaGreatDoor
namespace Go.Proofs.YtfjpckaphfdfnaaGreatDoor
open Go.RowKit Go.MapKept Go.Maps
def so0 : List Value := [.int .i64 0, .int .u16 0, .pointer none, .slice none 0 0, .pointer none, .bool false]
def soC (st : Int) (pt : Nat) : List Value := [.int .i64 st, .int .u16 (pt : Nat), .pointer none, .slice none 0 0, .pointer none, .bool false] ++ (so0 ++ (so0 ++ (so0 ++ (so0 ++ (so0 ++ (so0 ++ so0))))))
theorem soC_len (st : Int) (pt : Nat) : (soC st pt).length = 48 := rfl
def hoA (s : HSt) (v0 v1 v2 v3 v4 v5 : Value) : List Value := [.int .u64 (s.m0 : Nat), .int .u64 (s.m1 : Nat), .int .u32 (s.a0 : Nat), .int .u32 (s.a1 : Nat), .int .u32 (s.p0 : Nat), .int .u32 (s.p1 : Nat), .int .i64 s.mtu, .int .i64 s.rg, .int .i64 s.sm, s.sec, .int .i64 s.now, v0, v1, v2, v3, v4, v5, .pointer (some ⟨s.q, 0, none⟩)]
def hoB (s : HSt) : List Value := [s.past, .int .u16 (s.id : Nat), .int .i64 (s.c0 : Nat), .int .i64 (s.c1 : Nat), .int .i64 (s.c2 : Nat), .int .i64 (s.c3 : Nat)]
theorem hoCv_parts (s : HSt) (v0 v1 v2 v3 v4 v5 : Value) : hoCv s v0 v1 v2 v3 v4 v5 = hoA s v0 v1 v2 v3 v4 v5 ++ (soC s.st s.pt ++ hoB s) := rfl
theorem sock_at (s : HSt) (w : World) : (Instr.index 80 (.agg (soC s.st s.pt).toArray) (.int .i64 0)).run Tryz.prog w = .ok (.agg #[.int .i64 s.st, .int .u16 (s.pt : Nat), .pointer none, .slice none 0 0, .pointer none, .bool false]) w := by kernel_rfl
theorem sock_at1 (s : HSt) (w : World) : (Instr.index 80 (.agg (soC s.st s.pt).toArray) (.int .i64 1)).run Tryz.prog w = .ok (.agg #[.int .i64 0, .int .u16 0, .pointer none, .slice none 0 0, .pointer none, .bool false]) w := by kernel_rfl
theorem sock_at2 (s : HSt) (w : World) : (Instr.index 80 (.agg (soC s.st s.pt).toArray) (.int .i64 2)).run Tryz.prog w = .ok (.agg #[.int .i64 0, .int .u16 0, .pointer none, .slice none 0 0, .pointer none, .bool false]) w := by kernel_rfl
theorem sock_at3 (s : HSt) (w : World) : (Instr.index 80 (.agg (soC s.st s.pt).toArray) (.int .i64 3)).run Tryz.prog w = .ok (.agg #[.int .i64 0, .int .u16 0, .pointer none, .slice none 0 0, .pointer none, .bool false]) w := by kernel_rfl
theorem sock_at4 (s : HSt) (w : World) : (Instr.index 80 (.agg (soC s.st s.pt).toArray) (.int .i64 4)).run Tryz.prog w = .ok (.agg #[.int .i64 0, .int .u16 0, .pointer none, .slice none 0 0, .pointer none, .bool false]) w := by kernel_rfl
theorem sock_at5 (s : HSt) (w : World) : (Instr.index 80 (.agg (soC s.st s.pt).toArray) (.int .i64 5)).run Tryz.prog w = .ok (.agg #[.int .i64 0, .int .u16 0, .pointer none, .slice none 0 0, .pointer none, .bool false]) w := by kernel_rfl
theorem sock_at6 (s : HSt) (w : World) : (Instr.index 80 (.agg (soC s.st s.pt).toArray) (.int .i64 6)).run Tryz.prog w = .ok (.agg #[.int .i64 0, .int .u16 0, .pointer none, .slice none 0 0, .pointer none, .bool false]) w := by kernel_rfl
theorem sock_at7 (s : HSt) (w : World) : (Instr.index 80 (.agg (soC s.st s.pt).toArray) (.int .i64 7)).run Tryz.prog w = .ok (.agg #[.int .i64 0, .int .u16 0, .pointer none, .slice none 0 0, .pointer none, .bool false]) w := by kernel_rfl
section
variable {w0 w : World} {p : Nat} {s : HSt} {R : Nat → RSt} {C : Nat → CSt}
theorem HoW.socks (h : HoW w0 w p s R C) : w.rangeAt p 18 (soC s.st s.pt) := by
  obtain ⟨ro, h⟩ := h
  intro j v hv
  have hj : j < 48 := by rw [← soC_len s.st s.pt]; exact (List.getElem?_eq_some_iff.1 hv).1
  refine h.st.cell (18 + j) v ?_
  unfold hoCs hoC
  rw [hoCv_parts, List.getElem?_append_right (by show 18 ≤ 18 + j; omega)]
  show (soC s.st s.pt ++ hoB s)[18 + j - 18]? = some v
  rw [Nat.add_sub_cancel_left, List.getElem?_append_left (by rw [soC_len]; exact hj)]
  exact hv
set_option maxRecDepth 100000 in
theorem hsendAll_nil (p : Nat) (w : World) : Calls Tryz.prog 83 #[.pointer (some ⟨p, 0, none⟩), .pointer none] w fun e w' => e = .returned (.tuple #[]) ∧ Below w.heap.size w w' := by
  have hp : Calls Tryz.prog 115 #[.pointer none] w fun e w' => e = .returned (.slice none 0 0) ∧ Below w.heap.size w w' := by
    go_enter Tryz.func115, Tryz.ntmps115
    go_wp2
    go_ret
    exact ⟨rfl, Below.refl _ _⟩
  go_enter Tryz.func83, Tryz.ntmps83
  go_wp2_with fail
  refine hp.mono ?_
  rintro e w1 ⟨rfl, hb⟩
  have HB := (show Hid _ from hb)
  clear hp hb
  go_wp2_with fail
  go_loopw [9] (fun iv wr => iv = .int .i64 0 ∧ Below w.heap.size w wr) (fun _ _ => 0)
  case atStart => exact ⟨rfl, HB.out⟩
  case round =>
    obtain ⟨rfl, hb⟩ := hrel
    go_wp2
    go_end0
    exact ⟨rfl, hb⟩
set_option maxRecDepth 100000 in
set_option maxHeartbeats 8000000 in
theorem hticks (h : HoW w0 w p s R C) (f : Value) :
    Calls Tryz.prog 55 #[.pointer (some ⟨p, 0, none⟩), f] w fun e w' => e = .returned (.tuple #[]) ∧ Below w.heap.size w w' := by
  have hr := h.socks
  have hi48 : (Tryz.prog.info? 80).map (·.size) = some (soC s.st s.pt).length := by kernel_rfl
  have HR := (show Hid _ from fun V (hV : Below w.heap.size w V) => (HoW.below h hV).socks)
  clear h
  go_enter Tryz.func55, Tryz.ntmps55
  go_wp2_with (first | refine wpList_load_mid rfl 80 _ rfl p 18 rfl (soC s.st s.pt) _ hr Tryz.underlying80 rfl hi48 ?_)
  go_loopw [12] (fun iv wr => ∃ i : Nat, i ≤ 8 ∧ iv = .int .i64 (i : Nat) ∧ Below w.heap.size w wr) (fun iv _ => 8 - (intOf iv).toNat)
  case atStart => exact ⟨0, by omega, rfl, Below.refl _ _⟩
  case round =>
    obtain ⟨i, hi, rfl, hb⟩ := hrel
    have hi8 : i = 0 ∨ i = 1 ∨ i = 2 ∨ i = 3 ∨ i = 4 ∨ i = 5 ∨ i = 6 ∨ i = 7 ∨ i = 8 := by omega
    clear hr
    have HB := (show Hid _ from hb)
    clear hb hi
    rcases hi8 with rfl | rfl | rfl | rfl | rfl | rfl | rfl | rfl | rfl
    · have hI := sock_at s
      go_wp2
      exact ⟨⟨1, by omega, rfl, HB.out.alloc HB.out.size _⟩, by simp [intOf]⟩
    · have hI := sock_at1 s
      go_wp2
      exact ⟨⟨2, by omega, rfl, HB.out.alloc HB.out.size _⟩, by simp [intOf]⟩
    · have hI := sock_at2 s
      go_wp2
      exact ⟨⟨3, by omega, rfl, HB.out.alloc HB.out.size _⟩, by simp [intOf]⟩
    · have hI := sock_at3 s
      go_wp2
      exact ⟨⟨4, by omega, rfl, HB.out.alloc HB.out.size _⟩, by simp [intOf]⟩
    · have hI := sock_at4 s
      go_wp2
      exact ⟨⟨5, by omega, rfl, HB.out.alloc HB.out.size _⟩, by simp [intOf]⟩
    · have hI := sock_at5 s
      go_wp2
      exact ⟨⟨6, by omega, rfl, HB.out.alloc HB.out.size _⟩, by simp [intOf]⟩
    · have hI := sock_at6 s
      go_wp2
      exact ⟨⟨7, by omega, rfl, HB.out.alloc HB.out.size _⟩, by simp [intOf]⟩
    · have hI := sock_at7 s
      go_wp2
      exact ⟨⟨8, by omega, rfl, HB.out.alloc HB.out.size _⟩, by simp [intOf]⟩
    · have hr := HR.out wr HB.out
      go_wp2_with (first | refine wpList_load_mid rfl 80 _ rfl p 18 rfl (soC s.st s.pt) _ hr Tryz.underlying80 rfl hi48 ?_)
      go_loopw [32] (fun iv wr => ∃ i : Nat, i ≤ 8 ∧ iv = .int .i64 (i : Nat) ∧ Below w.heap.size w wr) (fun iv _ => 8 - (intOf iv).toNat)
      case atStart => exact ⟨0, by omega, rfl, HB.out⟩
      case round =>
        obtain ⟨i, hi, rfl, hb⟩ := hrel
        have hi8 : i = 0 ∨ i = 1 ∨ i = 2 ∨ i = 3 ∨ i = 4 ∨ i = 5 ∨ i = 6 ∨ i = 7 ∨ i = 8 := by omega
        clear hr
        have HB2 := (show Hid _ from hb)
        clear hb hi HB
        rcases hi8 with rfl | rfl | rfl | rfl | rfl | rfl | rfl | rfl | rfl
        · have hI := sock_at s
          go_wp2_with fail
          refine Calls.mono (hsendAll_nil p _) ?_
          rintro e w3 ⟨rfl, hb3⟩
          have HB3 := (show Hid _ from (HB2.out.alloc HB2.out.size _).trans (hb3.mono (HB2.out.alloc HB2.out.size _).size))
          clear hb3
          go_wp2
          exact ⟨⟨1, by omega, rfl, HB3.out⟩, by simp [intOf]⟩
        · have hI := sock_at1 s
          go_wp2_with fail
          refine Calls.mono (hsendAll_nil p _) ?_
          rintro e w3 ⟨rfl, hb3⟩
          have HB3 := (show Hid _ from (HB2.out.alloc HB2.out.size _).trans (hb3.mono (HB2.out.alloc HB2.out.size _).size))
          clear hb3
          go_wp2
          exact ⟨⟨2, by omega, rfl, HB3.out⟩, by simp [intOf]⟩
        · have hI := sock_at2 s
          go_wp2_with fail
          refine Calls.mono (hsendAll_nil p _) ?_
          rintro e w3 ⟨rfl, hb3⟩
          have HB3 := (show Hid _ from (HB2.out.alloc HB2.out.size _).trans (hb3.mono (HB2.out.alloc HB2.out.size _).size))
          clear hb3
          go_wp2
          exact ⟨⟨3, by omega, rfl, HB3.out⟩, by simp [intOf]⟩
        · have hI := sock_at3 s
          go_wp2_with fail
          refine Calls.mono (hsendAll_nil p _) ?_
          rintro e w3 ⟨rfl, hb3⟩
          have HB3 := (show Hid _ from (HB2.out.alloc HB2.out.size _).trans (hb3.mono (HB2.out.alloc HB2.out.size _).size))
          clear hb3
          go_wp2
          exact ⟨⟨4, by omega, rfl, HB3.out⟩, by simp [intOf]⟩
        · have hI := sock_at4 s
          go_wp2_with fail
          refine Calls.mono (hsendAll_nil p _) ?_
          rintro e w3 ⟨rfl, hb3⟩
          have HB3 := (show Hid _ from (HB2.out.alloc HB2.out.size _).trans (hb3.mono (HB2.out.alloc HB2.out.size _).size))
          clear hb3
          go_wp2
          exact ⟨⟨5, by omega, rfl, HB3.out⟩, by simp [intOf]⟩
        · have hI := sock_at5 s
          go_wp2_with fail
          refine Calls.mono (hsendAll_nil p _) ?_
          rintro e w3 ⟨rfl, hb3⟩
          have HB3 := (show Hid _ from (HB2.out.alloc HB2.out.size _).trans (hb3.mono (HB2.out.alloc HB2.out.size _).size))
          clear hb3
          go_wp2
          exact ⟨⟨6, by omega, rfl, HB3.out⟩, by simp [intOf]⟩
        · have hI := sock_at6 s
          go_wp2_with fail
          refine Calls.mono (hsendAll_nil p _) ?_
          rintro e w3 ⟨rfl, hb3⟩
          have HB3 := (show Hid _ from (HB2.out.alloc HB2.out.size _).trans (hb3.mono (HB2.out.alloc HB2.out.size _).size))
          clear hb3
          go_wp2
          exact ⟨⟨7, by omega, rfl, HB3.out⟩, by simp [intOf]⟩
        · have hI := sock_at7 s
          go_wp2_with fail
          refine Calls.mono (hsendAll_nil p _) ?_
          rintro e w3 ⟨rfl, hb3⟩
          have HB3 := (show Hid _ from (HB2.out.alloc HB2.out.size _).trans (hb3.mono (HB2.out.alloc HB2.out.size _).size))
          clear hb3
          go_wp2
          exact ⟨⟨8, by omega, rfl, HB3.out⟩, by simp [intOf]⟩
        · go_wp2
          go_end0
          exact ⟨rfl, HB2.out⟩
end
end Go.Proofs.YtfjpckaphfdfnaaGreatDoor
namespace Go.Proofs.YtfjpckaphfdfnaaGreatDoor
open Go.RowKit Go.MapKept Go.Maps
section
variable {w0 w : World} {p : Nat} {s : HSt} {R : Nat → RSt} {C : Nat → CSt}
set_option maxRecDepth 100000 in
theorem mayStep_any (h : HoW w0 w p s R C) (t : Int) :
    Calls Tryz.prog 48 #[.pointer (some ⟨p, 0, none⟩), .int .i64 t] w fun e w' => e = .returned (.int .i64 (if t < 0 ∨ 1099511627176 < t then 2 else if t < s.now then 18 else 0)) ∧ Below w.heap.size w w' := by
  have c10 : w.cell? ⟨p, 10, none⟩ = some (.int .i64 s.now) := by obtain ⟨ro, h⟩ := h; exact h.st.cell 10 _ rfl
  clear h
  by_cases h0 : t < 0
  · rw [if_pos (.inl h0)]
    go_enter Tryz.func48, Tryz.ntmps48
    go_wp2
    go_ret
    exact ⟨rfl, Below.refl _ _⟩
  · by_cases h1 : 1099511627176 < t
    · rw [if_pos (.inr h1)]
      go_enter Tryz.func48, Tryz.ntmps48
      go_wp2
      go_ret
      exact ⟨rfl, Below.refl _ _⟩
    · rw [if_neg (by omega)]
      by_cases h2 : t < s.now
      · rw [if_pos h2]
        go_enter Tryz.func48, Tryz.ntmps48
        go_wp2
        go_ret
        exact ⟨rfl, Below.refl _ _⟩
      · rw [if_neg h2]
        go_enter Tryz.func48, Tryz.ntmps48
        go_wp2
        go_ret
        exact ⟨rfl, Below.refl _ _⟩
set_option maxRecDepth 100000 in
theorem hstep_bad (h : HoW w0 w p s R C) (t : Int) (dr : Value) (hb : (t < 0 ∨ 1099511627176 < t) ∨ t < s.now) :
    Calls Tryz.prog 20 #[.pointer (some ⟨p, 0, none⟩), .int .i64 t, dr] w fun e w' => e = .returned (.int .i64 (if t < 0 ∨ 1099511627176 < t then 2 else 18)) ∧ HoW w0 w' p s R C := by
  have hm := mayStep_any h t
  have HH := (show Hid _ from h)
  clear h
  by_cases h1 : t < 0 ∨ 1099511627176 < t
  · rw [if_pos h1] at hm ⊢
    clear hb h1
    go_enter Tryz.func20, Tryz.ntmps20
    go_wp2_with fail
    refine hm.mono ?_
    rintro e w1 ⟨rfl, hb⟩
    have HB := (show Hid _ from hb)
    clear hm hb
    go_wp2
    go_ret
    exact ⟨rfl, HoW.below HH.out HB.out⟩
  · have h2 : t < s.now := hb.resolve_left h1
    rw [if_neg h1] at hm ⊢
    rw [if_pos h2] at hm
    clear hb h1 h2
    go_enter Tryz.func20, Tryz.ntmps20
    go_wp2_with fail
    refine hm.mono ?_
    rintro e w1 ⟨rfl, hb⟩
    have HB := (show Hid _ from hb)
    clear hm hb
    go_wp2
    go_ret
    exact ⟨rfl, HoW.below HH.out HB.out⟩
abbrev clos (a b : Nat) : Value := .func (.func 87) #[] #[.pointer (some ⟨a, 0, none⟩), .pointer (some ⟨b, 0, none⟩)]
set_option maxRecDepth 100000 in
set_option maxHeartbeats 8000000 in
theorem hstep_gen (h : HoW w0 w p s R C) (hE : s.E = []) (hpast : s.past = .slice none 0 0) (t dr : Int) (t0 : 0 ≤ t) (t1 : t ≤ 1099511627176) (t2 : s.now ≤ t) (n0 n1 q : Nat) (P0 P1 P2 P3 P4 P5 P6 : Nat → Nat → Int → World → Prop)
    (H0 : ∀ a b v W, b ≠ a → HoW w0 W p { s with now := t, E := [(a, [.int .i64 0]), (b, [.int .u64 v])] } R C → P0 a b v W)
    (T0 : ∀ a b v W, P0 a b v W → Calls Tryz.prog 51 #[.pointer (some ⟨p, 0, none⟩), .int .i64 0, clos a b] W fun e w' => e = .returned (.tuple #[]) ∧ P1 a b v w')
    (N0 : ∀ a b v W, P1 a b v W → W.cell? ⟨p, 13, none⟩ = some (.pointer (some ⟨n0, 0, none⟩)) ∧ Calls Tryz.prog 52 #[.pointer (some ⟨n0, 0, none⟩), .int .i64 t] W fun e w' => (∃ xa xc er, e = .returned (.tuple #[.slice xa 0 xc, .int .i64 er])) ∧ P2 a b v w')
    (B2 : ∀ a b v W W', P2 a b v W → Below W.heap.size W W' → P2 a b v W')
    (T1 : ∀ a b v W, P2 a b v W → Calls Tryz.prog 51 #[.pointer (some ⟨p, 0, none⟩), .int .i64 1, clos a b] W fun e w' => e = .returned (.tuple #[]) ∧ P3 a b v w')
    (N1 : ∀ a b v W, P3 a b v W → W.cell? ⟨p, 16, none⟩ = some (.pointer (some ⟨n1, 0, none⟩)) ∧ Calls Tryz.prog 52 #[.pointer (some ⟨n1, 0, none⟩), .int .i64 t] W fun e w' => (∃ xa xc er, e = .returned (.tuple #[.slice xa 0 xc, .int .i64 er])) ∧ P4 a b v w')
    (B4 : ∀ a b v W W', P4 a b v W → Below W.heap.size W W' → P4 a b v W')
    (Q4 : ∀ a b v W, P4 a b v W → W.cell? ⟨p, 17, none⟩ = some (.pointer (some ⟨q, 0, none⟩)) ∧ Calls Tryz.prog 54 #[.pointer (some ⟨q, 0, none⟩), .int .i64 t] W fun e w' => (∃ x, e = .returned x) ∧ P5 a b v w')
    (S5 : ∀ a b v W, P5 a b v W → Calls Tryz.prog 55 #[.pointer (some ⟨p, 0, none⟩), clos a b] W fun e w' => e = .returned (.tuple #[]) ∧ P6 a b v w') :
    Calls Tryz.prog 20 #[.pointer (some ⟨p, 0, none⟩), .int .i64 t, .int .u64 dr] w fun e w' => e = .returned (.int .i64 0) ∧ ∃ a b v, P6 a b v w' := by
  have hm := mayStep_any h t
  rw [if_neg (by omega), if_neg (by omega)] at hm
  have HT := (show Hid _ from And.intro H0 (And.intro T0 (And.intro N0 (And.intro B2 (And.intro T1 (And.intro N1 (And.intro B4 (And.intro Q4 S5))))))))
  have HH := (show Hid _ from And.intro h (And.intro hE hpast))
  clear h hE hpast t0 t1 t2 H0 T0 N0 B2 T1 N1 B4 Q4 S5
  go_enter Tryz.func20, Tryz.ntmps20
  go_wp2_with fail
  refine hm.mono ?_
  rintro e w1 ⟨rfl, hb1⟩
  clear hm
  obtain ⟨h, hE, hpast⟩ := HH.out
  have h1 := HoW.below h hb1
  have hst : Stc w1 p (hoCs s R C) := by obtain ⟨ro, h1⟩ := h1; exact h1.st
  have c10 := hst.cell 10 _ rfl
  have f10 := hst.free 10
  have h2 : HoW w0 (w1.setCell ⟨p, 10, none⟩ (.int .i64 t)) p { s with now := t } R C := by
    obtain ⟨ro, h1⟩ := h1
    exact h1.own { s with now := t } rfl rfl rfl (Fr.setCell _ _ _ _ rfl) (h1.st.set 10 (.int .i64 t))
  have HF := (show Hid _ from hforget h2 hpast)
  clear h h1 h2 hst hb1 hE hpast
  go_wp2_with fail
  refine Calls.mono HF.out ?_
  rintro e w2 ⟨rfl, h2⟩
  have H2 := (show Hid _ from h2)
  have HD := (show Hid _ from drawing_any dr t w2)
  clear h2 HF c10 f10
  go_wp2_with fail
  refine Calls.mono HD.out ?_
  rintro e w3 ⟨a, b, v, rfl, ha, hb, hab, sa, sb, hbw⟩
  have h3 : HoW w0 w3 p { s with now := t, E := [(a, [.int .i64 0]), (b, [.int .u64 v])] } R C := by
    have x1 := HoW.note2 H2.out hbw ha hb sa sb
    have e0 : ({ s with now := t } : HSt).E = [] := HH.out.2.1
    rw [e0] at x1
    exact x1
  have HP0 := (show Hid _ from HT.out.1 a b v w3 (fun e => hab e.symm) h3)
  clear h3 ha hb hab sa sb hbw H2 HD HH
  go_wp2_with fail
  go_loopw [27] (fun iv wr => (iv = .int .i64 0 ∧ P0 a b v wr) ∨ (iv = .int .i64 1 ∧ P2 a b v wr) ∨ (iv = .int .i64 2 ∧ P4 a b v wr)) (fun iv _ => 2 - (intOf iv).toNat)
  case atStart => exact .inl ⟨rfl, HP0.out⟩
  case round =>
    clear HP0
    rcases hrel with ⟨rfl, hP⟩ | ⟨rfl, hP⟩ | ⟨rfl, hP⟩
    · have HC := (show Hid _ from HT.out.2.1 a b v wr hP)
      clear hP
      go_wp2_with fail
      refine Calls.mono HC.out ?_
      rintro e w4 ⟨rfl, hP1⟩
      obtain ⟨hc, hN⟩ := HT.out.2.2.1 a b v w4 hP1
      have HN := (show Hid _ from hN)
      clear hP1 hN HC
      go_wp2_with fail
      refine Calls.mono HN.out ?_
      rintro e w5 ⟨⟨xa, xc, er, rfl⟩, hP2⟩
      have HP2 := (show Hid _ from hP2)
      clear hP2 HN hc
      go_wp2_with fail
      refine Calls.mono (hlay0_none (p := p) xa xc w5) ?_
      rintro e w6 ⟨rfl, hb6⟩
      have HP3 := (show Hid _ from HT.out.2.2.2.1 a b v w5 w6 HP2.out hb6)
      clear hb6 HP2
      go_wp2
      exact ⟨.inr (.inl ⟨rfl, HP3.out⟩), by simp [intOf]⟩
    · have HC := (show Hid _ from HT.out.2.2.2.2.1 a b v wr hP)
      clear hP
      go_wp2_with fail
      refine Calls.mono HC.out ?_
      rintro e w4 ⟨rfl, hP1⟩
      obtain ⟨hc, hN⟩ := HT.out.2.2.2.2.2.1 a b v w4 hP1
      have HN := (show Hid _ from hN)
      clear hP1 hN HC
      go_wp2_with fail
      refine Calls.mono HN.out ?_
      rintro e w5 ⟨⟨xa, xc, er, rfl⟩, hP2⟩
      have HP2 := (show Hid _ from hP2)
      clear hP2 HN hc
      go_wp2_with fail
      refine Calls.mono (hlay1_none (p := p) xa xc w5) ?_
      rintro e w6 ⟨rfl, hb6⟩
      have HP3 := (show Hid _ from HT.out.2.2.2.2.2.2.1 a b v w5 w6 HP2.out hb6)
      clear hb6 HP2
      go_wp2
      exact ⟨.inr (.inr ⟨rfl, HP3.out⟩), by simp [intOf]⟩
    · obtain ⟨hc, hQ⟩ := HT.out.2.2.2.2.2.2.2.1 a b v wr hP
      have HQ := (show Hid _ from hQ)
      clear hP hQ
      go_wp2_with fail
      refine Calls.mono HQ.out ?_
      rintro e w4 ⟨⟨x, rfl⟩, hP5⟩
      have HS := (show Hid _ from HT.out.2.2.2.2.2.2.2.2 a b v w4 hP5)
      clear hP5 HQ hc
      go_wp2_with fail
      refine Calls.mono HS.out ?_
      rintro e w5 ⟨rfl, hP6⟩
      have HP6 := (show Hid _ from hP6)
      clear hP6 HS
      go_wp2
      go_ret
      exact ⟨rfl, a, b, v, HP6.out⟩
end
end Go.Proofs.YtfjpckaphfdfnaaGreatDoor
namespace Go.Proofs.YtfjpckaphfdfnaaGreatDoor
open Go.RowKit Go.MapKept Go.Maps
section
variable {w0 w : World} {p : Nat} {s : HSt} {R : Nat → RSt} {C : Nat → CSt}
/-- A cache's tick that tells nothing. -/
theorem hntick (h : HoW w0 w p s R C) {k : Nat} (hk : k < 2) (t : Int) (ht : atkE (C k).now t = 0) (hl : (C k).lost = 0) (hD : tickA (C k).mac (C k).ip t (C k).lost (C k).D (C k).D.length = ⟨(C k).D, (C k).lost, []⟩) :
    Calls Tryz.prog 52 #[.pointer (some ⟨(C k).p, 0, none⟩), .int .i64 t] w fun e w' => (∃ xa xc er, e = .returned (.tuple #[.slice xa 0 xc, .int .i64 er])) ∧ HoW w0 w' p s R (upd C k { C k with now := t }) := by
  obtain ⟨ro, h⟩ := h
  obtain ⟨kd, hc, hkd⟩ := h.cache k hk
  refine (tick_any hc (by omega) (by omega) t).mono ?_
  rintro e w' ⟨kd', now', lost', D', er, fs, a, n, c, hR, hc', hg, rfl, hfs⟩
  rcases hR with ⟨hx, _⟩ | ⟨_, hnow, hlo, hDD, -, hff⟩
  · exact absurd ht hx
  rw [hD] at hlo hDD hff
  dsimp only at hlo hDD hff
  rw [hnow, hlo, hDD] at hc'
  rw [hff] at hfs
  have hn := hfs.len
  simp at hn
  subst hn
  exact ⟨⟨a, c, _, rfl⟩, h.caches hk { C k with now := t } rfl hkd hg hc'⟩
theorem tickA_none (mac ip : Nat) (t lost : Int) : tickA mac ip t lost [] 0 = ⟨[], lost, []⟩ := rfl
theorem tickA_new (mac ip fi fm : Nat) (t lost : Int) : tickA mac ip t lost [(fi, knX fm t)] 1 = ⟨[(fi, knX fm t)], lost, []⟩ := by
  unfold tickA
  simp [tickS, overB, dueB, knX]
/-- Step where no frame came. -/
theorem hstep_none (h : HoW w0 w p s R C) (hE : s.E = []) (hpast : s.past = .slice none 0 0) (t dr : Int) (t0 : 0 ≤ t) (t1 : t ≤ 1099511627176) (t2 : s.now ≤ t) (hpn : s.pn ≤ t) (h0 : (R 0).rs = []) (h2 : (R 2).rs = [])
    (a0 : atkE (C 0).now t = 0) (a1 : atkE (C 1).now t = 0) (l0 : (C 0).lost = 0) (l1 : (C 1).lost = 0) (d0 : (C 0).D = []) (d1 : (C 1).D = []) :
    Calls Tryz.prog 20 #[.pointer (some ⟨p, 0, none⟩), .int .i64 t, .int .u64 dr] w fun e w' => e = .returned (.int .i64 0) ∧ ∃ s' C', HoW w0 w' p s' R C' ∧ s'.now = t := by
  refine (hstep_gen h hE hpast t dr t0 t1 t2 (C 0).p (C 1).p s.q
    (fun a b v W => HoW w0 W p { s with now := t, E := [(a, [.int .i64 0]), (b, [.int .u64 v])] } R C)
    (fun a b v W => HoW w0 W p { s with now := t, E := [(a, [.int .i64 0]), (b, [.int .u64 v])] } R C)
    (fun a b v W => HoW w0 W p { s with now := t, E := [(a, [.int .i64 0]), (b, [.int .u64 v])] } R (upd C 0 { C 0 with now := t }))
    (fun a b v W => HoW w0 W p { s with now := t, E := [(a, [.int .i64 0]), (b, [.int .u64 v])] } R (upd C 0 { C 0 with now := t }))
    (fun a b v W => HoW w0 W p { s with now := t, E := [(a, [.int .i64 0]), (b, [.int .u64 v])] } R (upd (upd C 0 { C 0 with now := t }) 1 { C 1 with now := t }))
    (fun a b v W => HoW w0 W p { s with now := t, pn := t, E := [(a, [.int .i64 0]), (b, [.int .u64 v])] } R (upd (upd C 0 { C 0 with now := t }) 1 { C 1 with now := t }))
    (fun a b v W => HoW w0 W p { s with now := t, pn := t, E := [(a, [.int .i64 0]), (b, [.int .u64 v])] } R (upd (upd C 0 { C 0 with now := t }) 1 { C 1 with now := t }))
    (fun a b v W _ hW => hW)
    (fun a b v W hW => (htakeFrames0_none hW h0 _).mono (fun e w' ⟨e1, e2⟩ => ⟨e1, by rw [e2]; exact hW⟩))
    (fun a b v W hW => ⟨by obtain ⟨ro, hW⟩ := hW; exact hW.st.cell 13 _ rfl, hntick hW (k := 0) (by omega) t a0 l0 (by rw [d0]; rfl)⟩)
    (fun a b v W W' hW hb => HoW.below hW hb)
    (fun a b v W hW => (htakeFrames1_none hW h2 _).mono (fun e w' ⟨e1, e2⟩ => ⟨e1, by rw [e2]; exact hW⟩))
    (fun a b v W hW => ⟨by obtain ⟨ro, hW⟩ := hW; exact hW.st.cell 16 _ rfl, hntick hW (k := 1) (by omega) t a1 l1 (by show tickA (C 1).mac (C 1).ip t (C 1).lost (C 1).D (C 1).D.length = ⟨(C 1).D, (C 1).lost, []⟩; rw [d1]; rfl)⟩)
    (fun a b v W W' hW hb => HoW.below hW hb)
    (fun a b v W hW => ⟨by obtain ⟨ro, hW⟩ := hW; exact hW.st.cell 17 _ rfl, by
      obtain ⟨ro, hW⟩ := hW
      exact (rtick_nil0 hW.pq t t0 (by omega) hpn).mono (fun e w' ⟨e1, e2, e3⟩ => ⟨e1, hW.pool t e2 e3⟩)⟩)
    (fun a b v W hW => (hticks hW _).mono (fun e w' ⟨e1, e2⟩ => ⟨e1, HoW.below hW e2⟩))).mono ?_
  rintro e w' ⟨rfl, a, b, v, hW⟩
  exact ⟨rfl, _, _, hW, rfl⟩
end
end Go.Proofs.YtfjpckaphfdfnaaGreatDoor
namespace Go.Proofs.YtfjpckaphfdfnaaGreatDoor
open Go.RowKit
theorem bytesB_mod (n : Nat) : ∀ a r : Nat, bytesB (a * 256 ^ n + r) n = bytesB r n := by
  induction n with
  | zero => intro a r; rfl
  | succ n ih =>
    intro a r
    have hP : 0 < 256 ^ n := Nat.pow_pos (by omega)
    have e1 : a * 256 ^ (n + 1) + r = (a * 256) * 256 ^ n + r := by rw [Nat.pow_succ, Nat.mul_assoc, Nat.mul_comm 256]
    show ((a * 256 ^ (n + 1) + r) / 256 ^ n % 256) :: bytesB (a * 256 ^ (n + 1) + r) n = (r / 256 ^ n % 256) :: bytesB r n
    rw [e1, ih, Nat.add_comm, Nat.add_mul_div_right _ _ hP]
    congr 1
    omega
theorem numB_acc (l : List Nat) : ∀ acc, l.foldl (fun v d => v * 256 + d) acc = acc * 256 ^ l.length + numB l := by
  induction l with
  | nil => intro acc; simp [numB]
  | cons x l ih =>
    intro acc
    show l.foldl _ (acc * 256 + x) = acc * 256 ^ (l.length + 1) + l.foldl _ (0 * 256 + x)
    rw [ih, ih (0 * 256 + x), Nat.pow_succ]
    generalize 256 ^ l.length = P
    rw [Nat.add_mul, Nat.zero_mul, Nat.zero_add, Nat.mul_assoc, Nat.mul_comm 256 P]
    omega
theorem numB_cons (x : Nat) (l : List Nat) : numB (x :: l) = x * 256 ^ l.length + numB l := by
  show l.foldl _ (0 * 256 + x) = _
  rw [numB_acc]
  simp
theorem numB_ltM (l : List Nat) (hb : ∀ x ∈ l, x < 256) : numB l < 256 ^ l.length := by
  refine numB_lt l fun i => ?_
  rw [List.getD_eq_getElem?_getD]
  cases h : l[i]? with
  | none => simp
  | some x => exact hb x (List.mem_of_getElem? h)
theorem bytesB_numB (l : List Nat) (hb : ∀ x ∈ l, x < 256) : bytesB (numB l) l.length = l := by
  induction l with
  | nil => rfl
  | cons x l ih =>
    have hl : ∀ y ∈ l, y < 256 := fun y hy => hb y (List.mem_cons_of_mem _ hy)
    have hx := hb x List.mem_cons_self
    have hlt := numB_ltM l hl
    have hP : 0 < 256 ^ l.length := Nat.pow_pos (by omega)
    rw [numB_cons]
    show ((x * 256 ^ l.length + numB l) / 256 ^ l.length % 256) :: bytesB (x * 256 ^ l.length + numB l) l.length = x :: l
    rw [bytesB_mod, ih hl, Nat.add_comm, Nat.add_mul_div_right _ _ hP, Nat.div_eq_of_lt hlt]
    congr 1
    omega
/-- A number that stands in bytes is read there. -/
theorem numV_at (A : List Nat) (v k : Nat) (R : List Nat) (h1 : 1 ≤ k) (h8 : k ≤ 8) (hv : v < 256 ^ k) (p : Nat) (hp : p = A.length) : numV (A ++ (bytesB v k ++ R)) (p : Int) (k : Int) = v := by
  subst hp
  unfold numV
  have e : nspanE (A ++ (bytesB v k ++ R)).length (A.length : Int) (k : Int) = 0 := by
    unfold nspanE spanE
    rw [if_neg (by omega)]
    simp only [List.length_append, bytesB_len]
    rw [if_neg (by omega), if_neg (by omega)]
  rw [if_pos e, Int.toNat_natCast, Int.toNat_natCast, List.drop_left, List.take_append_of_le_length (by rw [bytesB_len]; exact Nat.le_refl _), List.take_of_length_le (by rw [bytesB_len]; exact Nat.le_refl _)]
  show (bytesB v k).foldl _ 0 = v
  rw [numB_bytes, Nat.mod_eq_of_lt hv]
  omega
theorem mem_bnd {zs : List Nat} (hb : ∀ i, zs.getD i 0 < 256) : ∀ x ∈ zs, x < 256 := by
  intro x hx
  obtain ⟨i, hi⟩ := List.getElem?_of_mem hx
  have := hb i
  rw [List.getD_eq_getElem?_getD, hi] at this
  exact this
/-- The bytes of a number that is read are the bytes that stand there. -/
theorem bytesB_at (zs : List Nat) (p k : Nat) (hb : ∀ i, zs.getD i 0 < 256) (h1 : 1 ≤ k) (h8 : k ≤ 8) (hl : p + k ≤ zs.length) : bytesB (numV zs (p : Int) (k : Int)) k = (zs.drop p).take k := by
  unfold numV
  have e : nspanE zs.length (p : Int) (k : Int) = 0 := by
    unfold nspanE spanE
    rw [if_neg (by omega), if_neg (by omega), if_neg (by omega)]
  rw [if_pos e, Int.toNat_natCast, Int.toNat_natCast]
  have hll : ((zs.drop p).take k).length = k := by rw [List.length_take, List.length_drop]; omega
  have hm : ∀ x ∈ (zs.drop p).take k, x < 256 := fun x hx => mem_bnd hb x (List.mem_of_mem_drop (List.mem_of_mem_take hx))
  have := bytesB_numB _ hm
  rwa [hll] at this
end Go.Proofs.YtfjpckaphfdfnaaGreatDoor
namespace Go.Proofs.YtfjpckaphfdfnaaGreatDoor
open Go.RowKit
theorem ep_take (t f k : Nat) (zs : List Nat) (h : epE t f k zs.length = 0) (hk : k < 65536) : tkE (epV t f k zs) = 0 ∧ tkN (epV t f k zs) 0 6 = t ∧ tkN (epV t f k zs) 6 6 = f ∧ tkN (epV t f k zs) 12 2 = k ∧ tkB (epV t f k zs) = zs := by
  have hV : epV t f k zs = bytesB t 6 ++ (bytesB f 6 ++ (bytesB k 2 ++ zs)) := by unfold epV; rw [if_pos h]
  have h' := h
  unfold epE at h'
  split at h'
  · cases h'
  · rename_i h1
    split at h'
    · cases h'
    · rename_i h2
      have e0 : numV (epV t f k zs) ((0 : Nat) : Int) ((6 : Nat) : Int) = t := by rw [hV]; exact numV_at [] t 6 _ (by omega) (by omega) (by show t < 281474976710656; omega) 0 rfl
      have e6 : numV (epV t f k zs) ((6 : Nat) : Int) ((6 : Nat) : Int) = f := by rw [hV]; exact numV_at (bytesB t 6) f 6 _ (by omega) (by omega) (by show f < 281474976710656; omega) 6 (by rw [bytesB_len])
      have e12 : numV (epV t f k zs) ((12 : Nat) : Int) ((2 : Nat) : Int) = k := by
        rw [hV, ← List.append_assoc]
        exact numV_at (bytesB t 6 ++ bytesB f 6) k 2 _ (by omega) (by omega) (by show k < 65536; omega) 12 (by rw [List.length_append, bytesB_len, bytesB_len])
      have hE : tkE (epV t f k zs) = 0 := by
        have hl : (epV t f k zs).length = 14 + zs.length := by rw [hV]; simp [bytesB_len]; omega
        unfold tkE
        rw [if_neg (by omega), if_neg (by omega), show numV (epV t f k zs) 12 2 = k from e12, if_neg (by omega)]
      refine ⟨hE, ?_, ?_, ?_, ?_⟩
      · unfold tkN; rw [if_pos hE]; exact e0
      · unfold tkN; rw [if_pos hE]; exact e6
      · unfold tkN; rw [if_pos hE]; exact e12
      · unfold tkB
        rw [if_pos hE, hV, ← List.append_assoc, ← List.append_assoc]
        exact List.drop_left' (by simp [bytesB_len])
theorem tk_put (zs : List Nat) (hb : ∀ i, zs.getD i 0 < 256) (h : tkE zs = 0) : epE (tkN zs 0 6) (tkN zs 6 6) (tkN zs 12 2) (tkB zs).length = 0 ∧ epV (tkN zs 0 6) (tkN zs 6 6) (tkN zs 12 2) (tkB zs) = zs := by
  have h' := h
  unfold tkE at h'
  split at h'
  · cases h'
  · rename_i h1
    split at h'
    · cases h'
    · rename_i h2
      split at h'
      · cases h'
      · rename_i h3
        have n0 : tkN zs 0 6 = numV zs ((0 : Nat) : Int) ((6 : Nat) : Int) := by unfold tkN; rw [if_pos h]
        have n6 : tkN zs 6 6 = numV zs ((6 : Nat) : Int) ((6 : Nat) : Int) := by unfold tkN; rw [if_pos h]
        have n12 : tkN zs 12 2 = numV zs ((12 : Nat) : Int) ((2 : Nat) : Int) := by unfold tkN; rw [if_pos h]
        have hB : tkB zs = zs.drop 14 := by unfold tkB; rw [if_pos h]
        have l0 := numV_lt zs 0 6 hb
        have l6 := numV_lt zs 6 6 hb
        rw [n0, n6, n12, hB]
        have hE : epE (numV zs ((0 : Nat) : Int) ((6 : Nat) : Int)) (numV zs ((6 : Nat) : Int) ((6 : Nat) : Int)) (numV zs ((12 : Nat) : Int) ((2 : Nat) : Int)) (zs.drop 14).length = 0 := by
          unfold epE
          have h3' : ¬ numV zs ((12 : Nat) : Int) ((2 : Nat) : Int) < 1536 := h3
          rw [if_neg (by omega), if_neg (by rw [List.length_drop]; omega)]
        refine ⟨hE, ?_⟩
        unfold epV
        rw [if_pos hE, bytesB_at zs 0 6 hb (by omega) (by omega) (by omega), bytesB_at zs 6 6 hb (by omega) (by omega) (by omega), bytesB_at zs 12 2 hb (by omega) (by omega) (by omega)]
        have a1 : (zs.drop 12).take 2 ++ zs.drop 14 = zs.drop 12 := by
          have := List.take_append_drop 2 (zs.drop 12)
          rwa [List.drop_drop] at this
        have a2 : (zs.drop 6).take 6 ++ zs.drop 12 = zs.drop 6 := by
          have := List.take_append_drop 6 (zs.drop 6)
          rwa [List.drop_drop] at this
        rw [a1, a2]
        exact List.take_append_drop 6 zs
theorem tk_bad (zs : List Nat) (h : ¬ tkE zs = 0) : tkB zs = [] ∧ (∀ p k, tkN zs p k = 0) := ⟨by unfold tkB; rw [if_neg h], fun p k => by unfold tkN; rw [if_neg h]⟩
end Go.Proofs.YtfjpckaphfdfnaaGreatDoor
namespace Go.Proofs.YtfjpckaphfdfnaaGreatDoor
open Go.RowKit Go.MapKept Go.Maps
theorem qe0 : epE 281474976710655 48 2054 (arpB 1 48 3 0 1).length = 0 := by decide +kernel
theorem qa0 : taE (arpB 1 48 3 0 1) = 0 ∧ taN (arpB 1 48 3 0 1) 6 2 = 1 ∧ taN (arpB 1 48 3 0 1) 8 6 = 48 ∧ taN (arpB 1 48 3 0 1) 14 4 = 3 ∧ taN (arpB 1 48 3 0 1) 18 6 = 0 ∧ taN (arpB 1 48 3 0 1) 24 4 = 1 := by decide +kernel
theorem ql0 : (epV 281474976710655 48 2054 (arpB 1 48 3 0 1)).length = 42 := by decide +kernel
theorem al0 : (ansF 10 1 48 3).length = 42 := by decide +kernel
theorem qe1 : epE 281474976710655 49 2054 (arpB 1 49 4 0 2).length = 0 := by decide +kernel
theorem qa1 : taE (arpB 1 49 4 0 2) = 0 ∧ taN (arpB 1 49 4 0 2) 6 2 = 1 ∧ taN (arpB 1 49 4 0 2) 8 6 = 49 ∧ taN (arpB 1 49 4 0 2) 14 4 = 4 ∧ taN (arpB 1 49 4 0 2) 18 6 = 0 ∧ taN (arpB 1 49 4 0 2) 24 4 = 2 := by decide +kernel
theorem ql1 : (epV 281474976710655 49 2054 (arpB 1 49 4 0 2)).length = 42 := by decide +kernel
theorem al1 : (ansF 11 2 49 4).length = 42 := by decide +kernel
theorem atkE_same {t : Int} (t0 : 0 ≤ t) (t1 : t ≤ 1099511627176) : atkE t t = 0 := by
  unfold atkE
  rw [if_neg (by omega), if_neg (by omega)]
section
variable {w0 w : World} {p : Nat} {s : HSt} {R : Nat → RSt} {C : Nat → CSt}
set_option maxHeartbeats 2000000 in
theorem hstep_two (h : HoW w0 w p s R C) (hE : s.E = []) (hpast : s.past = .slice none 0 0) (t dr : Int) (t0 : 0 ≤ t) (t1 : t ≤ 1099511627176) (t2 : s.now ≤ t) (hpn : s.pn ≤ t) {b0 b2 : Nat} (h0 : (R 0).rs = [(b0, (epV 281474976710655 48 2054 (arpB 1 48 3 0 1)))]) (h2 : (R 2).rs = [(b2, (epV 281474976710655 49 2054 (arpB 1 49 4 0 2)))])
    (d1 : (R 1).d ≤ 1000000) (d3 : (R 3).d ≤ 1000000) (f1 : fillE (R 1).N (R 1).tk (R 1).rs (ansF 10 1 48 3) = 0) (f3 : fillE (R 3).N (R 3).tk (R 3).rs (ansF 11 2 49 4) = 0)
    (m0 : (C 0).mac = 10) (m1 : (C 1).mac = 11) (i0 : (C 0).ip = 1) (i1 : (C 1).ip = 2) (n0 : (C 0).now ≤ t) (n1 : (C 1).now ≤ t) (l0 : (C 0).lost = 0) (l1 : (C 1).lost = 0) (e0 : (C 0).D = []) (e1 : (C 1).D = []) (r1 : (R 1).rs = []) (r3 : (R 3).rs = []) :
    Calls Tryz.prog 20 #[.pointer (some ⟨p, 0, none⟩), .int .i64 t, .int .u64 dr] w fun e w' => e = .returned (.int .i64 0) ∧ ∃ s' R' C', HoW w0 w' p s' R' C' ∧ s'.st = s.st ∧ s'.pt = s.pt ∧ (∃ b1, (R' 1).rs = [(b1, (ansF 10 1 48 3))]) ∧ (∃ b3, (R' 3).rs = [(b3, (ansF 11 2 49 4))]) ∧ (C' 0).D = [(3, knX 48 t)] := by
  have k0 : takeE (C 0).now t (C 0).ip 3 48 = 0 := by
    unfold takeE atkE
    rw [i0, if_neg (by rw [if_neg (by omega), if_neg (by omega)]; decide), if_neg (by decide)]
  have k1 : takeE (C 1).now t (C 1).ip 4 49 = 0 := by
    unfold takeE atkE
    rw [i1, if_neg (by rw [if_neg (by omega), if_neg (by omega)]; decide), if_neg (by decide)]
  obtain ⟨x1, x2, x3, x4, x5⟩ := ep_take 281474976710655 48 2054 (arpB 1 48 3 0 1) qe0 (by decide)
  obtain ⟨y1, y2, y3, y4, y5⟩ := ep_take 281474976710655 49 2054 (arpB 1 49 4 0 2) qe1 (by decide)
  obtain ⟨u1, u2, u3, u4, u5, u6⟩ := qa0
  obtain ⟨v1, v2, v3, v4, v5, v6⟩ := qa1
  refine (hstep_gen h hE hpast t dr t0 t1 t2 (C 0).p (C 1).p s.q
    (fun a b v W => b ≠ a ∧ HoW w0 W p { s with now := t, E := [(a, [.int .i64 0]), (b, [.int .u64 v])] } R C)
    (fun a b v W => b ≠ a ∧ ∃ b1, HoW w0 W p { s with now := t, E := [(a, [.int .i64 1]), (b, [.int .u64 v])] } (upd (upd R 0 (giveR (R 0))) 1 (fillR (R 1) b1 (ansF 10 1 48 3))) (upd C 0 (takC0 C 3 48 t)))
    (fun a b v W => b ≠ a ∧ ∃ b1, HoW w0 W p { s with now := t, E := [(a, [.int .i64 1]), (b, [.int .u64 v])] } (upd (upd R 0 (giveR (R 0))) 1 (fillR (R 1) b1 (ansF 10 1 48 3))) (upd (upd C 0 (takC0 C 3 48 t)) 0 { (upd C 0 (takC0 C 3 48 t)) 0 with now := t }))
    (fun a b v W => ∃ b1 b3, HoW w0 W p { s with now := t, E := [(a, [.int .i64 2]), (b, [.int .u64 v])] } (upd (upd (upd (upd R 0 (giveR (R 0))) 1 (fillR (R 1) b1 (ansF 10 1 48 3))) 2 (giveR ((upd (upd R 0 (giveR (R 0))) 1 (fillR (R 1) b1 (ansF 10 1 48 3))) 2))) 3 (fillR ((upd (upd R 0 (giveR (R 0))) 1 (fillR (R 1) b1 (ansF 10 1 48 3))) 3) b3 (ansF 11 2 49 4))) (upd (upd (upd C 0 (takC0 C 3 48 t)) 0 { (upd C 0 (takC0 C 3 48 t)) 0 with now := t }) 1 (takC1 (upd (upd C 0 (takC0 C 3 48 t)) 0 { (upd C 0 (takC0 C 3 48 t)) 0 with now := t }) 4 49 t)))
    (fun a b v W => ∃ b1 b3, HoW w0 W p { s with now := t, E := [(a, [.int .i64 2]), (b, [.int .u64 v])] } (upd (upd (upd (upd R 0 (giveR (R 0))) 1 (fillR (R 1) b1 (ansF 10 1 48 3))) 2 (giveR ((upd (upd R 0 (giveR (R 0))) 1 (fillR (R 1) b1 (ansF 10 1 48 3))) 2))) 3 (fillR ((upd (upd R 0 (giveR (R 0))) 1 (fillR (R 1) b1 (ansF 10 1 48 3))) 3) b3 (ansF 11 2 49 4))) (upd (upd (upd (upd C 0 (takC0 C 3 48 t)) 0 { (upd C 0 (takC0 C 3 48 t)) 0 with now := t }) 1 (takC1 (upd (upd C 0 (takC0 C 3 48 t)) 0 { (upd C 0 (takC0 C 3 48 t)) 0 with now := t }) 4 49 t)) 1 { (upd (upd (upd C 0 (takC0 C 3 48 t)) 0 { (upd C 0 (takC0 C 3 48 t)) 0 with now := t }) 1 (takC1 (upd (upd C 0 (takC0 C 3 48 t)) 0 { (upd C 0 (takC0 C 3 48 t)) 0 with now := t }) 4 49 t)) 1 with now := t }))
    (fun a b v W => ∃ b1 b3, HoW w0 W p { s with now := t, pn := t, E := [(a, [.int .i64 2]), (b, [.int .u64 v])] } (upd (upd (upd (upd R 0 (giveR (R 0))) 1 (fillR (R 1) b1 (ansF 10 1 48 3))) 2 (giveR ((upd (upd R 0 (giveR (R 0))) 1 (fillR (R 1) b1 (ansF 10 1 48 3))) 2))) 3 (fillR ((upd (upd R 0 (giveR (R 0))) 1 (fillR (R 1) b1 (ansF 10 1 48 3))) 3) b3 (ansF 11 2 49 4))) (upd (upd (upd (upd C 0 (takC0 C 3 48 t)) 0 { (upd C 0 (takC0 C 3 48 t)) 0 with now := t }) 1 (takC1 (upd (upd C 0 (takC0 C 3 48 t)) 0 { (upd C 0 (takC0 C 3 48 t)) 0 with now := t }) 4 49 t)) 1 { (upd (upd (upd C 0 (takC0 C 3 48 t)) 0 { (upd C 0 (takC0 C 3 48 t)) 0 with now := t }) 1 (takC1 (upd (upd C 0 (takC0 C 3 48 t)) 0 { (upd C 0 (takC0 C 3 48 t)) 0 with now := t }) 4 49 t)) 1 with now := t }))
    (fun a b v W => ∃ b1 b3, HoW w0 W p { s with now := t, pn := t, E := [(a, [.int .i64 2]), (b, [.int .u64 v])] } (upd (upd (upd (upd R 0 (giveR (R 0))) 1 (fillR (R 1) b1 (ansF 10 1 48 3))) 2 (giveR ((upd (upd R 0 (giveR (R 0))) 1 (fillR (R 1) b1 (ansF 10 1 48 3))) 2))) 3 (fillR ((upd (upd R 0 (giveR (R 0))) 1 (fillR (R 1) b1 (ansF 10 1 48 3))) 3) b3 (ansF 11 2 49 4))) (upd (upd (upd (upd C 0 (takC0 C 3 48 t)) 0 { (upd C 0 (takC0 C 3 48 t)) 0 with now := t }) 1 (takC1 (upd (upd C 0 (takC0 C 3 48 t)) 0 { (upd C 0 (takC0 C 3 48 t)) 0 with now := t }) 4 49 t)) 1 { (upd (upd (upd C 0 (takC0 C 3 48 t)) 0 { (upd C 0 (takC0 C 3 48 t)) 0 with now := t }) 1 (takC1 (upd (upd C 0 (takC0 C 3 48 t)) 0 { (upd C 0 (takC0 C 3 48 t)) 0 with now := t }) 4 49 t)) 1 with now := t }))
    (fun a b v W hn hW => ⟨hn, hW⟩)
    (fun a b v W ⟨hn, hW⟩ => (htakeFrames0_one hW rfl hn (by omega) (by omega) h0 (by rw [ql0]; decide) 48 (arpB 1 48 3 0 1) x1 x2 x3 x4 x5 48 3 0 1 u1 u2 u3 u4 u5 u6 i0.symm e0 k0 (by decide) d1 (by rw [m0, i0]; exact f1)).mono (fun e w' ⟨g1, b1, g2⟩ => ⟨g1, hn, b1, by rw [m0, i0] at g2; exact g2⟩))
    (fun a b v W ⟨hn, b1, hW⟩ => ⟨by obtain ⟨ro, hW⟩ := hW; exact hW.st.cell 13 _ rfl, (hntick hW (k := 0) (by omega) t (atkE_same t0 t1) l0 (tickA_new _ _ 3 48 t _)).mono (fun e w' ⟨g1, g2⟩ => ⟨g1, hn, b1, g2⟩)⟩)
    (fun a b v W W' ⟨hn, b1, hW⟩ hb => ⟨hn, b1, HoW.below hW hb⟩)
    (fun a b v W ⟨hn, b1, hW⟩ => (htakeFrames1_one hW rfl hn (by omega) (by omega) h2 (by rw [ql1]; decide) 49 (arpB 1 49 4 0 2) y1 y2 y3 y4 y5 49 4 0 2 v1 v2 v3 v4 v5 v6 i1.symm e1 k1 (by decide) d3 (by show fillE (R 3).N (R 3).tk (R 3).rs (ansF (C 1).mac (C 1).ip 49 4) = 0; rw [m1, i1]; exact f3)).mono (fun e w' ⟨g1, b3, g2⟩ => ⟨g1, b1, b3, by
      rw [show ((upd (upd C 0 (takC0 C 3 48 t)) 0 { (upd C 0 (takC0 C 3 48 t)) 0 with now := t }) 1).mac = 11 from m1, show ((upd (upd C 0 (takC0 C 3 48 t)) 0 { (upd C 0 (takC0 C 3 48 t)) 0 with now := t }) 1).ip = 2 from i1] at g2
      exact g2⟩))
    (fun a b v W ⟨b1, b3, hW⟩ => ⟨by obtain ⟨ro, hW⟩ := hW; exact hW.st.cell 16 _ rfl, (hntick hW (k := 1) (by omega) t (atkE_same t0 t1) l1 (tickA_new _ _ 4 49 t _)).mono (fun e w' ⟨g1, g2⟩ => ⟨g1, b1, b3, g2⟩)⟩)
    (fun a b v W W' ⟨b1, b3, hW⟩ hb => ⟨b1, b3, HoW.below hW hb⟩)
    (fun a b v W ⟨b1, b3, hW⟩ => ⟨by obtain ⟨ro, hW⟩ := hW; exact hW.st.cell 17 _ rfl, by
      obtain ⟨ro, hW⟩ := hW
      exact (rtick_nil0 hW.pq t t0 (by omega) hpn).mono (fun e w' ⟨g1, g2, g3⟩ => ⟨g1, b1, b3, hW.pool t g2 g3⟩)⟩)
    (fun a b v W ⟨b1, b3, hW⟩ => (hticks hW _).mono (fun e w' ⟨g1, g2⟩ => ⟨g1, b1, b3, HoW.below hW g2⟩))).mono ?_
  rintro e w' ⟨rfl, a, b, v, b1, b3, hW⟩
  refine ⟨rfl, _, _, _, hW, rfl, rfl, ⟨b1, ?_⟩, ⟨b3, ?_⟩, rfl⟩
  · show (fillR (R 1) b1 (ansF 10 1 48 3)).rs = _
    unfold fillR
    dsimp only
    rw [if_pos f1, r1]
    rfl
  · show (fillR (R 3) b3 (ansF 11 2 49 4)).rs = _
    unfold fillR
    dsimp only
    rw [if_pos f3, r3]
    rfl
end
end Go.Proofs.YtfjpckaphfdfnaaGreatDoor
