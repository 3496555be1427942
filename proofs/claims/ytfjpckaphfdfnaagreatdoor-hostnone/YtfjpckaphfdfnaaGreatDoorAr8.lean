/- arp: room for one more neighbour, if need be by forgetting the one that is known for longest. -/
import Derived.Test.YtfjpckaphfdfnaaGreatDoorAr7
namespace Go.Proofs.YtfjpckaphfdfnaaGreatDoor
open Go.RowKit Go.MapKept Go.Maps
/-- Of two known ones the elder. -/
def oldS (o : Option (Nat × Nbr)) (y : Nat × Nbr) : Option (Nat × Nbr) := if y.2.kn then (match o with | none => some y | some z => if y.2.at_ < z.2.at_ then some y else some z) else o
def oldD (D : List (Nat × Nbr)) : Option (Nat × Nbr) := D.foldl oldS none
theorem oldD_snoc (D : List (Nat × Nbr)) (y : Nat × Nbr) : oldD (D ++ [y]) = oldS (oldD D) y := by unfold oldD; rw [List.foldl_append]; rfl
theorem oldS_mem {o : Option (Nat × Nbr)} {y z : Nat × Nbr} (h : oldS o y = some z) : z = y ∧ y.2.kn = true ∨ o = some z := by
  unfold oldS at h
  split at h
  · rename_i hk
    split at h
    · injection h with h; exact .inl ⟨h.symm, hk⟩
    · split at h
      · injection h with h; exact .inl ⟨h.symm, hk⟩
      · exact .inr h
  · exact .inr h
theorem oldD_mem {D : List (Nat × Nbr)} {z : Nat × Nbr} (h : oldD D = some z) : z ∈ D ∧ z.2.kn = true := by
  revert h
  rw [← List.reverse_reverse D]
  generalize D.reverse = t
  intro h
  induction t with
  | nil => cases h
  | cons y t ih =>
    rw [List.reverse_cons] at h ⊢
    rw [oldD_snoc] at h
    rcases oldS_mem h with ⟨rfl, hk⟩ | h
    · exact ⟨by simp, hk⟩
    · exact ⟨List.mem_append_left _ (ih h).1, (ih h).2⟩
def oldK (o : Option (Nat × Nbr)) : Nat := match o with | none => 0 | some y => y.1
/-- What is left behind making room; false: there is none. -/
def roomB (D : List (Nat × Nbr)) : Bool := decide (D.length < 8) || (oldD D).isSome
def roomD (D : List (Nat × Nbr)) : List (Nat × Nbr) := if D.length < 8 then D else match oldD D with | none => D | some y => delD D y.1
structure RoomP (w : World) (kd : Nat → RoleA) (p mac ip : Nat) (now lost : Int) (D : List (Nat × Nbr)) (e : Ending) (w' : World) : Prop where
  out : e = .returned (.bool (roomB D))
  st : CaW w' kd p mac ip now lost (roomD D)
  gr : GrowA kd kd w w'
theorem nbf2 (a0 a1 a2 a3 a4 : Value) (w : World) : (Instr.field 166 (.agg #[a0, a1, a2, a3, a4]) 2).run Tryz.prog w = .ok a2 w := by
  simp only [Instr.field, asAgg, Sem.run_bind, Result.andThen_ok, run_underlying Tryz.underlying166]
  simp only [List.getElem?_toArray, List.getElem?_cons_zero, List.getElem?_cons_succ, Sem.run_bind, Sem.run_pure, Result.andThen_ok, part, isAgg, run_underlying Tryz.underlying3]
  rfl
theorem zeroN (w : World) : (zeroValue 166).run Tryz.prog w = .ok (.agg #[.bool false, .int .u64 0, .int .i64 0, .int .i64 0, .slice none 0 0]) w := by kernel_rfl
theorem lookN {w : World} {mb n : Nat} {D : List (Nat × Nbr)} (h : Mp ipV IpK w mb n (fun q => (lookD D q).map Nbr.v)) {q : Nat} (hq : q < 4294967296) {x : Nbr} (hx : lookD D q = some x) : (Instr.lookup 167 (.map (some mb)) (.int .u32 (q : Nat)) false).run Tryz.prog w = .ok x.v w := by
  have := h.look (P := Tryz.prog) ipKE false Tryz.underlying167 (zeroN w) (q := q) hq
  rw [hx] at this
  exact this
theorem CaV.del {w w' : World} {kd : Nat → RoleA} {p mac ip : Nat} {now lost : Int} {D : List (Nat × Nbr)} {mb n : Nat} (h : CaW w kd p mac ip now lost D) (q : Nat) (hs : Stc w p (CaC mac ip now (.map (some mb)) lost)) (hk : kd mb = .map) (hm : Mp ipV IpK w' mb n (mdel (fun q' => (lookD D q').map Nbr.v) q)) (hf : Fr (· = mb) w w') : CaW w' kd p mac ip now lost (delD D q) := by
  have hkb : ∀ y ∈ delD D q, y.1 < 4294967296 := fun y hy => h.keys y (delD_mem hy)
  refine ⟨h.kp, .inr ⟨mb, hs.fr hf (fun e => by rw [← e, h.kp] at hk; cases hk), ?_, hk⟩, fun y hy => ?_, h.srt.del q, ?_, fun g hg => h.fresh g (Nat.le_trans hf.size hg), h.mac1, h.ip1, h.now0, h.now1⟩
  · rw [mdel_del h.srt] at hm
    exact hm.tightD (h.srt.del q) hkb
  · have := h.each y (delD_mem hy)
    refine ⟨fun _ => (this.1 trivial).fr hf (fun g hg hQ => ?_) (fun _ _ _ => rfl), this.2⟩
    rw [hQ, hk]
    exact ⟨fun e => (by cases e), fun e => (by cases e)⟩
  · have := len_del D q
    have := h.len
    omega
set_option maxRecDepth 100000 in
set_option maxHeartbeats 4000000 in
theorem room_any {w : World} {kd : Nat → RoleA} {p mac ip : Nat} {now lost : Int} {D : List (Nat × Nbr)} (h : CaW w kd p mac ip now lost D) :
    Calls Tryz.prog 200 #[.pointer (some ⟨p, 0, none⟩)] w (RoomP w kd p mac ip now lost D) := by
  by_cases hl : D.length < 8
  · have hB : roomB D = true := by unfold roomB; rw [decide_eq_true hl]; rfl
    have hD : roomD D = D := by unfold roomD; rw [if_pos hl]
    have hpost : ∀ e w', (e = .returned (.bool true) ∧ w' = w) → RoomP w kd p mac ip now lost D e w' := by
      rintro e w' ⟨rfl, rfl⟩
      exact ⟨by rw [hB], by rw [hD]; exact h, GrowA.refl _ _⟩
    rcases h.near with ⟨h1, h2⟩ | ⟨mb, h1, h2, h3⟩
    · exact (room_none h1).mono hpost
    · exact (room_few h1 h2 hl).mono hpost
  have hl8 : D.length = 8 := by have := h.len; omega
  rcases h.near with ⟨h1, h2⟩ | ⟨mb, h1, h2, h3⟩
  · rw [h2] at hl8; cases hl8
  have HAD := (show Hid _ from addr_D h)
  have c3 := h1.cell 3 _ rfl
  have hlen := h2.lenD h.srt h.keys 3
  rw [hl8] at hlen
  have HH := (show Hid _ from And.intro h (And.intro h1 (And.intro h2 h3)))
  have hpl := h.lt
  clear h h1 h2 h3
  go_enter Tryz.func200, Tryz.ntmps200
  go_wp2_with fail
  refine Calls.mono HAD.out ?_
  rintro e w1 ⟨⟨a, c, rfl, ho⟩, hb⟩
  clear HAD
  rw [List.length_map, hl8] at ho ⊢
  obtain ⟨g, rfl, hg1, hg2, hnc, _⟩ := OwnG.at_ ho (fun _ => rfl) (by omega)
  have HO := (show Hid _ from And.intro ho hb)
  clear ho hb hlen
  go_wp2
  go_loopw [3, 4, 17] (fun u3 u4 u17 wr => ∃ i : Nat, i ≤ 8 ∧ u17 = .int .i64 (i : Nat) ∧ u3 = .int .u32 (oldK (oldD (D.take i)) : Nat) ∧ u4 = .bool (oldD (D.take i)).isSome ∧ Below w.heap.size w wr ∧ OwnA wr w.heap.size (some ⟨g, 0, none⟩) 8 c (D.map (·.1))) (fun _ _ u17 _ => 8 - (intOf u17).toNat)
  case atStart => exact ⟨0, by omega, rfl, rfl, rfl, HO.out.2, HO.out.1⟩
  case round =>
    obtain ⟨i, hi, rfl, rfl, rfl, hbw, how⟩ := hrel
    clear HO
    by_cases hlt : i < 8
    · have hlt1 : (i : Int) < 8 := by omega
      obtain ⟨y, hy⟩ : ∃ y, D[i]? = some y := ⟨_, List.getElem?_eq_getElem (by omega)⟩
      have hym : y ∈ D := List.mem_of_getElem? hy
      obtain ⟨h, h1, h2, h3⟩ := HH.out
      have ck := how.cell i (by omega)
      have hyk : (D.map (·.1)).getD i 0 = y.1 := by rw [List.getD_eq_getElem?_getD, List.getElem?_map, hy]; rfl
      rw [hyk] at ck
      have HSN : Hid (oldD (D.take (i + 1)) = oldS (oldD (D.take i)) y) := by
        show _ = _
        rw [← oldD_snoc]
        congr 1
        rw [List.take_add_one, hy]
        rfl
      have hlk : lookD D y.1 = some y.2 := h.srt.look hym
      have hq := h.keys y hym
      obtain ⟨o, hoo⟩ : ∃ o, o = oldD (D.take i) := ⟨_, rfl⟩
      have HOM : Hid (∀ z, o = some z → z ∈ D) := fun z hz => by rw [hoo] at hz; exact List.mem_of_mem_take (oldD_mem hz).1
      rw [← hoo] at HSN
      rw [← hoo]
      have HW := (show Hid _ from And.intro hbw how)
      have hcp := (h1.below hbw).cell 3 _ rfl
      have hmw := h2.below hbw
      have hrun := lookN hmw hq hlk
      obtain ⟨q, ⟨kn, nm, at_, ak, wa, wn, wc, ws⟩⟩ := y
      unfold Nbr.v at hrun
      dsimp only at *
      obtain ⟨W, hW⟩ : ∃ W, W = wr.alloc (.cells #[.bool kn, .int .u64 (nm : Nat), .int .i64 at_, .int .i64 ak, .slice wa wn wc] 166) := ⟨_, rfl⟩
      have b0 : Below wr.heap.size wr W := by rw [hW]; exact (Below.refl _ _).alloc (Nat.le_refl _) _
      have stN := Stc.new wr [.bool kn, .int .u64 (nm : Nat), .int .i64 at_, .int .i64 ak, .slice wa wn wc] 166 W hW
      have HKC : Hid (W.drew.cell? ⟨p, 3, none⟩ = some (.map (some mb)) ∧ W.drew.cell? ⟨wr.heap.size, 0, none⟩ = some (.bool kn) ∧ W.drew.cell? ⟨wr.heap.size, 2, none⟩ = some (.int .i64 at_)) := ⟨((h1.below hbw).below b0).cell 3 _ rfl, stN.cell 0 _ rfl, stN.cell 2 _ rfl⟩
      have HLK : Hid (∀ z x, lookD D z = some x → z < 4294967296 → (Instr.lookup 167 (.map (some mb)) (.int .u32 (z : Nat)) false).run Tryz.prog W.drew = .ok x.v W.drew) := fun z x hz hzq => lookN ((hmw.below b0).below (Below.refl _ _).drew) hzq hz
      have HB0 : Hid (Below w.heap.size w W.drew) := hbw.trans ((b0.trans ((Below.refl _ _).drew.mono b0.size)).mono hbw.size)
      have HOW : Hid (OwnA W.drew w.heap.size (some ⟨g, 0, none⟩) 8 c (D.map (·.1))) := OwnG.below (OwnG.below how b0) (Below.refl _ _).drew
      clear hyk hoo b0 stN hmw hbw how h1 h2 h3 hym hlk hy
      go_wp2
      rw [← hW]
      clear hW hrun ck hcp
      cases kn with
      | false =>
        obtain ⟨ob, hob⟩ : ∃ ob, ob = o.isSome := ⟨_, rfl⟩
        have HOB := (show Hid _ from hob)
        rw [← hob]
        clear hob
        obtain ⟨ok, hok⟩ : ∃ ok, ok = oldK o := ⟨_, rfl⟩
        have HOK := (show Hid _ from hok)
        rw [← hok]
        clear hok
        refine wp_region_fixW mixedX (fun V => V = W.drew) [(27, .pointer (some ⟨wr.heap.size, 0, none⟩)), (28, .bool false), (29, .bool false), (30, undef), (31, undef), (32, undef), (33, undef), (34, undef), (35, undef), (36, undef), (37, undef), (38, undef), (39, undef), (40, undef), (41, undef), (42, undef), (43, undef), (44, .bool false)] ?Z1 ?hZ1 (by kernel_rfl) (by kernel_rfl) (by kernel_rfl) (by kernel_rfl) ?h01 ?hops1 ?he1
        case hZ1 => simp only [List.foldl_cons, List.foldl_nil, List.setIfInBounds_toArray, List.set_cons_zero, List.set_cons_succ]; rfl
        case h01 => rfl
        case hops1 =>
          refine ⟨?_, ?_, ?_, ?_, ?_, ?_, ?_, ?_, ?_, ?_, ?_, ?_, ?_, ?_, ?_, ?_, ?_, ?_, trivial⟩
          · exact fix_val (by rfl) (fun W hW => by subst hW; obtain ⟨d0, d1, d2⟩ := HKC.out; go_simp; (try with_reducible rfl); (try omega))
          · exact fix_val (by rfl) (fun W hW => by subst hW; obtain ⟨d0, d1, d2⟩ := HKC.out; go_simp; (try with_reducible rfl); (try omega))
          · exact fix_val (by rfl) (fun W hW => by subst hW; obtain ⟨d0, d1, d2⟩ := HKC.out; go_simp; (try with_reducible rfl); (try omega))
          · exact fix_off (by rfl) (fun d hd => by cases hd; rfl)
          · exact fix_off (by rfl) (fun d hd => by cases hd; rfl)
          · exact fix_off (by rfl) (fun d hd => by cases hd; rfl)
          · exact fix_off (by rfl) (fun d hd => by cases hd; rfl)
          · exact fix_off (by rfl) (fun d hd => by cases hd; rfl)
          · exact fix_off (by rfl) (fun d hd => by cases hd; rfl)
          · exact fix_off (by rfl) (fun d hd => by cases hd; rfl)
          · exact fix_off (by rfl) (fun d hd => by cases hd; rfl)
          · exact fix_off (by rfl) (fun d hd => by cases hd; rfl)
          · exact fix_off (by rfl) (fun d hd => by cases hd; rfl)
          · exact fix_off (by rfl) (fun d hd => by cases hd; rfl)
          · exact fix_off (by rfl) (fun d hd => by cases hd; rfl)
          · exact fix_off (by rfl) (fun d hd => by cases hd; rfl)
          · exact fix_off (by rfl) (fun d hd => by cases hd; rfl)
          · exact fix_val (by rfl) (fun W hW => by subst hW; obtain ⟨d0, d1, d2⟩ := HKC.out; go_simp; (try with_reducible rfl); (try omega))
        case he1 =>
        rintro V rfl
        go_wp2
        go_roundw
        case rel =>
          refine ⟨i + 1, by omega, by go_num, by rw [HSN.out, HOK.out]; rfl, by rw [HSN.out, HOB.out]; rfl, HB0.out, HOW.out⟩
        case measure => simp [intOf]; omega
      | true =>
        cases o with
        | none =>
          unfold oldK
          simp only [Option.isSome_none]
          refine wp_region_fixW mixedX (fun V => V = W.drew) [(27, .pointer (some ⟨wr.heap.size, 0, none⟩)), (28, .bool true), (29, .bool true), (30, .bool false), (31, .bool true), (32, .bool true), (33, undef), (34, undef), (35, undef), (36, undef), (37, undef), (38, undef), (39, undef), (40, undef), (41, undef), (42, undef), (43, .bool true), (44, .bool true)] ?Z2 ?hZ2 (by kernel_rfl) (by kernel_rfl) (by kernel_rfl) (by kernel_rfl) ?h02 ?hops2 ?he2
          case hZ2 => simp only [List.foldl_cons, List.foldl_nil, List.setIfInBounds_toArray, List.set_cons_zero, List.set_cons_succ]; rfl
          case h02 => rfl
          case hops2 =>
            refine ⟨?_, ?_, ?_, ?_, ?_, ?_, ?_, ?_, ?_, ?_, ?_, ?_, ?_, ?_, ?_, ?_, ?_, ?_, trivial⟩
            · exact fix_val (by rfl) (fun W hW => by subst hW; obtain ⟨d0, d1, d2⟩ := HKC.out; go_simp; (try with_reducible rfl); (try omega))
            · exact fix_val (by rfl) (fun W hW => by subst hW; obtain ⟨d0, d1, d2⟩ := HKC.out; go_simp; (try with_reducible rfl); (try omega))
            · exact fix_val (by rfl) (fun W hW => by subst hW; obtain ⟨d0, d1, d2⟩ := HKC.out; go_simp; (try with_reducible rfl); (try omega))
            · exact fix_val (by rfl) (fun W hW => by subst hW; obtain ⟨d0, d1, d2⟩ := HKC.out; go_simp; (try with_reducible rfl); (try omega))
            · exact fix_val (by rfl) (fun W hW => by subst hW; obtain ⟨d0, d1, d2⟩ := HKC.out; go_simp; (try with_reducible rfl); (try omega))
            · exact fix_val (by rfl) (fun W hW => by subst hW; obtain ⟨d0, d1, d2⟩ := HKC.out; go_simp; (try with_reducible rfl); (try omega))
            · exact fix_off (by rfl) (fun d hd => by cases hd; rfl)
            · exact fix_off (by rfl) (fun d hd => by cases hd; rfl)
            · exact fix_off (by rfl) (fun d hd => by cases hd; rfl)
            · exact fix_off (by rfl) (fun d hd => by cases hd; rfl)
            · exact fix_off (by rfl) (fun d hd => by cases hd; rfl)
            · exact fix_off (by rfl) (fun d hd => by cases hd; rfl)
            · exact fix_off (by rfl) (fun d hd => by cases hd; rfl)
            · exact fix_off (by rfl) (fun d hd => by cases hd; rfl)
            · exact fix_off (by rfl) (fun d hd => by cases hd; rfl)
            · exact fix_off (by rfl) (fun d hd => by cases hd; rfl)
            · exact fix_val (by rfl) (fun W hW => by subst hW; obtain ⟨d0, d1, d2⟩ := HKC.out; go_simp; (try with_reducible rfl); (try omega))
            · exact fix_val (by rfl) (fun W hW => by subst hW; obtain ⟨d0, d1, d2⟩ := HKC.out; go_simp; (try with_reducible rfl); (try omega))
          case he2 =>
          rintro V rfl
          go_wp2
          go_roundw
          case rel =>
            refine ⟨i + 1, by omega, by go_num, ?_, ?_, HB0.out, HOW.out⟩
            · rw [HSN.out]; first | rfl | (simp [oldS, oldK, hz]; done)
            · rw [HSN.out]; first | rfl | (simp [oldS, hz]; done)
          case measure => simp [intOf]; omega
        | some z =>
          obtain ⟨zq, ⟨zkn, znm, zat, zak, zwa, zwn, zwc, zws⟩⟩ := z
          have hzm := HOM.out _ rfl
          have HLZ := (show Hid _ from HLK.out zq _ (h.srt.look hzm) (h.keys _ hzm))
          unfold Nbr.v at HLZ
          dsimp only at HLZ
          unfold oldK
          simp only [Option.isSome_some]
          clear h
          by_cases hz : at_ < zat
          · refine wp_region_fixW mixedX (fun V => V = W.drew) [(27, .pointer (some ⟨wr.heap.size, 0, none⟩)), (28, .bool true), (29, .bool true), (30, .bool true), (31, .bool false), (32, .bool false), (33, .pointer (some ⟨wr.heap.size, 2, none⟩)), (34, .int .i64 at_), (35, .pointer (some ⟨p, 0, none⟩)), (36, .pointer (some ⟨p, 0, none⟩)), (37, .pointer (some ⟨p, 3, none⟩)), (38, .map (some mb)), (39, .int .u32 (zq : Nat)), (40, .agg #[.bool zkn, .int .u64 (znm : Nat), .int .i64 zat, .int .i64 zak, .slice zwa zwn zwc]), (41, .int .i64 zat), (42, .bool true), (43, .bool true), (44, .bool true)] ?Z3 ?hZ3 (by kernel_rfl) (by kernel_rfl) (by kernel_rfl) (by kernel_rfl) ?h03 ?hops3 ?he3
            case hZ3 => simp only [List.foldl_cons, List.foldl_nil, List.setIfInBounds_toArray, List.set_cons_zero, List.set_cons_succ]; rfl
            case h03 => rfl
            case hops3 =>
              refine ⟨?_, ?_, ?_, ?_, ?_, ?_, ?_, ?_, ?_, ?_, ?_, ?_, ?_, ?_, ?_, ?_, ?_, ?_, trivial⟩
              · exact fix_val (by rfl) (fun W hW => by subst hW; obtain ⟨d0, d1, d2⟩ := HKC.out; have hz := HLZ.out; have hf2 := nbf2; go_simp; (try with_reducible rfl); (try omega))
              · exact fix_val (by rfl) (fun W hW => by subst hW; obtain ⟨d0, d1, d2⟩ := HKC.out; have hz := HLZ.out; have hf2 := nbf2; go_simp; (try with_reducible rfl); (try omega))
              · exact fix_val (by rfl) (fun W hW => by subst hW; obtain ⟨d0, d1, d2⟩ := HKC.out; have hz := HLZ.out; have hf2 := nbf2; go_simp; (try with_reducible rfl); (try omega))
              · exact fix_val (by rfl) (fun W hW => by subst hW; obtain ⟨d0, d1, d2⟩ := HKC.out; have hz := HLZ.out; have hf2 := nbf2; go_simp; (try with_reducible rfl); (try omega))
              · exact fix_val (by rfl) (fun W hW => by subst hW; obtain ⟨d0, d1, d2⟩ := HKC.out; have hz := HLZ.out; have hf2 := nbf2; go_simp; (try with_reducible rfl); (try omega))
              · exact fix_val (by rfl) (fun W hW => by subst hW; obtain ⟨d0, d1, d2⟩ := HKC.out; have hz := HLZ.out; have hf2 := nbf2; go_simp; (try with_reducible rfl); (try omega))
              · exact fix_val (by rfl) (fun W hW => by subst hW; obtain ⟨d0, d1, d2⟩ := HKC.out; have hz := HLZ.out; have hf2 := nbf2; go_simp; (try with_reducible rfl); (try omega))
              · exact fix_val (by rfl) (fun W hW => by subst hW; obtain ⟨d0, d1, d2⟩ := HKC.out; have hz := HLZ.out; have hf2 := nbf2; go_simp; (try with_reducible rfl); (try omega))
              · exact fix_val (by rfl) (fun W hW => by subst hW; obtain ⟨d0, d1, d2⟩ := HKC.out; have hz := HLZ.out; have hf2 := nbf2; go_simp; (try with_reducible rfl); (try omega))
              · exact fix_val (by rfl) (fun W hW => by subst hW; obtain ⟨d0, d1, d2⟩ := HKC.out; have hz := HLZ.out; have hf2 := nbf2; go_simp; (try with_reducible rfl); (try omega))
              · exact fix_val (by rfl) (fun W hW => by subst hW; obtain ⟨d0, d1, d2⟩ := HKC.out; have hz := HLZ.out; have hf2 := nbf2; go_simp; (try with_reducible rfl); (try omega))
              · exact fix_val (by rfl) (fun W hW => by subst hW; obtain ⟨d0, d1, d2⟩ := HKC.out; have hz := HLZ.out; have hf2 := nbf2; go_simp; (try with_reducible rfl); (try omega))
              · exact fix_val (by rfl) (fun W hW => by subst hW; obtain ⟨d0, d1, d2⟩ := HKC.out; have hz := HLZ.out; have hf2 := nbf2; go_simp; (try with_reducible rfl); (try omega))
              · exact fix_val (by rfl) (fun W hW => by subst hW; obtain ⟨d0, d1, d2⟩ := HKC.out; have hz := HLZ.out; have hf2 := nbf2; go_simp; (try with_reducible rfl); (try omega))
              · exact fix_val (by rfl) (fun W hW => by subst hW; obtain ⟨d0, d1, d2⟩ := HKC.out; have hz := HLZ.out; have hf2 := nbf2; go_simp; (try with_reducible rfl); (try omega))
              · exact fix_val (by rfl) (fun W hW => by subst hW; obtain ⟨d0, d1, d2⟩ := HKC.out; have hz := HLZ.out; have hf2 := nbf2; go_simp; (try with_reducible rfl); (try omega))
              · exact fix_val (by rfl) (fun W hW => by subst hW; obtain ⟨d0, d1, d2⟩ := HKC.out; have hz := HLZ.out; have hf2 := nbf2; go_simp; (try with_reducible rfl); (try omega))
              · exact fix_val (by rfl) (fun W hW => by subst hW; obtain ⟨d0, d1, d2⟩ := HKC.out; have hz := HLZ.out; have hf2 := nbf2; go_simp; (try with_reducible rfl); (try omega))
            case he3 =>
            rintro V rfl
            go_wp2
            go_roundw
            case rel =>
              refine ⟨i + 1, by omega, by go_num, ?_, ?_, HB0.out, HOW.out⟩
              · rw [HSN.out]; first | rfl | (simp [oldS, oldK, hz]; done)
              · rw [HSN.out]; first | rfl | (simp [oldS, hz]; done)
            case measure => simp [intOf]; omega
          · refine wp_region_fixW mixedX (fun V => V = W.drew) [(27, .pointer (some ⟨wr.heap.size, 0, none⟩)), (28, .bool true), (29, .bool true), (30, .bool true), (31, .bool false), (32, .bool false), (33, .pointer (some ⟨wr.heap.size, 2, none⟩)), (34, .int .i64 at_), (35, .pointer (some ⟨p, 0, none⟩)), (36, .pointer (some ⟨p, 0, none⟩)), (37, .pointer (some ⟨p, 3, none⟩)), (38, .map (some mb)), (39, .int .u32 (zq : Nat)), (40, .agg #[.bool zkn, .int .u64 (znm : Nat), .int .i64 zat, .int .i64 zak, .slice zwa zwn zwc]), (41, .int .i64 zat), (42, .bool false), (43, .bool false), (44, .bool false)] ?Z4 ?hZ4 (by kernel_rfl) (by kernel_rfl) (by kernel_rfl) (by kernel_rfl) ?h04 ?hops4 ?he4
            case hZ4 => simp only [List.foldl_cons, List.foldl_nil, List.setIfInBounds_toArray, List.set_cons_zero, List.set_cons_succ]; rfl
            case h04 => rfl
            case hops4 =>
              refine ⟨?_, ?_, ?_, ?_, ?_, ?_, ?_, ?_, ?_, ?_, ?_, ?_, ?_, ?_, ?_, ?_, ?_, ?_, trivial⟩
              · exact fix_val (by rfl) (fun W hW => by subst hW; obtain ⟨d0, d1, d2⟩ := HKC.out; have hz := HLZ.out; have hf2 := nbf2; go_simp; (try with_reducible rfl); (try omega))
              · exact fix_val (by rfl) (fun W hW => by subst hW; obtain ⟨d0, d1, d2⟩ := HKC.out; have hz := HLZ.out; have hf2 := nbf2; go_simp; (try with_reducible rfl); (try omega))
              · exact fix_val (by rfl) (fun W hW => by subst hW; obtain ⟨d0, d1, d2⟩ := HKC.out; have hz := HLZ.out; have hf2 := nbf2; go_simp; (try with_reducible rfl); (try omega))
              · exact fix_val (by rfl) (fun W hW => by subst hW; obtain ⟨d0, d1, d2⟩ := HKC.out; have hz := HLZ.out; have hf2 := nbf2; go_simp; (try with_reducible rfl); (try omega))
              · exact fix_val (by rfl) (fun W hW => by subst hW; obtain ⟨d0, d1, d2⟩ := HKC.out; have hz := HLZ.out; have hf2 := nbf2; go_simp; (try with_reducible rfl); (try omega))
              · exact fix_val (by rfl) (fun W hW => by subst hW; obtain ⟨d0, d1, d2⟩ := HKC.out; have hz := HLZ.out; have hf2 := nbf2; go_simp; (try with_reducible rfl); (try omega))
              · exact fix_val (by rfl) (fun W hW => by subst hW; obtain ⟨d0, d1, d2⟩ := HKC.out; have hz := HLZ.out; have hf2 := nbf2; go_simp; (try with_reducible rfl); (try omega))
              · exact fix_val (by rfl) (fun W hW => by subst hW; obtain ⟨d0, d1, d2⟩ := HKC.out; have hz := HLZ.out; have hf2 := nbf2; go_simp; (try with_reducible rfl); (try omega))
              · exact fix_val (by rfl) (fun W hW => by subst hW; obtain ⟨d0, d1, d2⟩ := HKC.out; have hz := HLZ.out; have hf2 := nbf2; go_simp; (try with_reducible rfl); (try omega))
              · exact fix_val (by rfl) (fun W hW => by subst hW; obtain ⟨d0, d1, d2⟩ := HKC.out; have hz := HLZ.out; have hf2 := nbf2; go_simp; (try with_reducible rfl); (try omega))
              · exact fix_val (by rfl) (fun W hW => by subst hW; obtain ⟨d0, d1, d2⟩ := HKC.out; have hz := HLZ.out; have hf2 := nbf2; go_simp; (try with_reducible rfl); (try omega))
              · exact fix_val (by rfl) (fun W hW => by subst hW; obtain ⟨d0, d1, d2⟩ := HKC.out; have hz := HLZ.out; have hf2 := nbf2; go_simp; (try with_reducible rfl); (try omega))
              · exact fix_val (by rfl) (fun W hW => by subst hW; obtain ⟨d0, d1, d2⟩ := HKC.out; have hz := HLZ.out; have hf2 := nbf2; go_simp; (try with_reducible rfl); (try omega))
              · exact fix_val (by rfl) (fun W hW => by subst hW; obtain ⟨d0, d1, d2⟩ := HKC.out; have hz := HLZ.out; have hf2 := nbf2; go_simp; (try with_reducible rfl); (try omega))
              · exact fix_val (by rfl) (fun W hW => by subst hW; obtain ⟨d0, d1, d2⟩ := HKC.out; have hz := HLZ.out; have hf2 := nbf2; go_simp; (try with_reducible rfl); (try omega))
              · exact fix_val (by rfl) (fun W hW => by subst hW; obtain ⟨d0, d1, d2⟩ := HKC.out; have hz := HLZ.out; have hf2 := nbf2; go_simp; (try with_reducible rfl); (try omega))
              · exact fix_val (by rfl) (fun W hW => by subst hW; obtain ⟨d0, d1, d2⟩ := HKC.out; have hz := HLZ.out; have hf2 := nbf2; go_simp; (try with_reducible rfl); (try omega))
              · exact fix_val (by rfl) (fun W hW => by subst hW; obtain ⟨d0, d1, d2⟩ := HKC.out; have hz := HLZ.out; have hf2 := nbf2; go_simp; (try with_reducible rfl); (try omega))
            case he4 =>
            rintro V rfl
            go_wp2
            go_roundw
            case rel =>
              refine ⟨i + 1, by omega, by go_num, ?_, ?_, HB0.out, HOW.out⟩
              · rw [HSN.out]; first | rfl | (simp [oldS, oldK, hz]; done)
              · rw [HSN.out]; first | rfl | (simp [oldS, hz]; done)
            case measure => simp [intOf]; omega
    · obtain rfl : i = 8 := by omega
      have hT : D.take 8 = D := List.take_of_length_le (by omega)
      rw [hT]
      have HW := (show Hid _ from And.intro hbw how)
      clear hbw how
      cases ho : oldD D with
      | none =>
        have HOD := (show Hid _ from ho)
        clear ho
        unfold oldK
        simp only [Option.isSome_none]
        go_wp2
        go_ret
        refine ⟨?_, ?_, GrowA.of_below (HW.out.1.mono ?_)⟩
        · unfold roomB; rw [HOD.out, hl8]; rfl
        · unfold roomD; rw [if_neg hl, HOD.out]; exact HH.out.1.below HW.out.1
        · omega
      | some z =>
        obtain ⟨h, h1, h2, h3⟩ := HH.out
        obtain ⟨zq, zx⟩ := z
        have hzm := (oldD_mem ho).1
        have hq := h.keys _ hzm
        have HOD := (show Hid _ from ho)
        have hcp := (h1.below HW.out.1).cell 3 _ rfl
        obtain ⟨w2, hr, hm2, hf2, hz2⟩ := (h2.below HW.out.1).del (P := Tryz.prog) ipKE Tryz.underlying167 (q := zq) hq 0
        unfold ipV at hr
        have HM := (show Hid _ from And.intro hm2 hf2)
        unfold oldK
        simp only [Option.isSome_some]
        clear ho h h1 h2 h3 hm2 hf2 hz2 hzm
        go_wp2
        go_ret
        obtain ⟨h, h1, h2, h3⟩ := HH.out
        have hd := (h.below HW.out.1).del zq (h1.below HW.out.1) h3 HM.out.1 HM.out.2
        refine ⟨?_, ?_, (GrowA.of_below (HW.out.1)).trans (GrowA.of_fr HM.out.2 (fun k _ e => by rw [e, h3]; exact fun e => (by cases e)))⟩
        · unfold roomB; rw [HOD.out, hl8]; rfl
        · unfold roomD; rw [if_neg hl, HOD.out]; exact hd
end Go.Proofs.YtfjpckaphfdfnaaGreatDoor
