/- arp: what Take answers, and what becomes of the cache. -/
import Derived.Test.YtpmnjfkcffddgaaArT
namespace Go.Proofs.Ytpmnjfkcffddgaa
open Go.RowKit Go.MapKept Go.Maps
def takeE (now t : Int) (ip fi fm : Nat) : Nat := if atkE now t ≠ 0 then atkE now t else if fi = ip ∨ 281474976710655 ≤ fm then 12 else 0
theorem takeE_ok {now t : Int} {ip fi fm : Nat} (h : takeE now t ip fi fm = 0) : atkE now t = 0 ∧ fi ≠ ip ∧ fm < 281474976710655 := by
  have h1 : atkE now t = 0 := by
    unfold takeE at h
    split at h
    · rename_i h1; exact absurd h h1
    · rename_i h1; omega
  have h2 : ¬ (fi = ip ∨ 281474976710655 ≤ fm) := by
    intro e
    unfold takeE at h
    rw [if_neg (by rw [h1]; simp), if_pos e] at h
    cases h
  exact ⟨h1, by omega, by omega⟩
theorem atkE_ok {now t : Int} (h : atkE now t = 0) : 0 ≤ t ∧ t ≤ 1099511627776 ∧ now ≤ t := by
  unfold atkE at h
  split at h
  · cases h
  · split at h
    · cases h
    · omega
def takeD (ip : Nat) (D : List (Nat × Nbr)) (fi fm ti : Nat) (t : Int) : List (Nat × Nbr) := if (lookD D fi).isSome then putD D fi (knX fm t) else if ti = ip ∧ roomB D = true then putD (roomD D) fi (knX fm t) else D
def takeF (mac ip : Nat) (D : List (Nat × Nbr)) (op : Int) (fm fi ti : Nat) : List (List Nat) := wsF mac fm (nbAt D fi) ++ (if ti = ip ∧ op = 1 then [epV fm mac 2054 (arpB 2 mac ip fm fi)] else [])
structure TakeP (w : World) (kd : Nat → RoleA) (p mac ip : Nat) (now lost : Int) (D : List (Nat × Nbr)) (op : Int) (fm fi ti : Nat) (t : Int) (e : Ending) (w' : World) : Prop where
  ex : ∃ kd' now' D' er fs a n c, ((takeE now t ip fi fm ≠ 0 ∧ now' = now ∧ D' = D ∧ er = takeE now t ip fi fm ∧ fs = []) ∨ (takeE now t ip fi fm = 0 ∧ now' = t ∧ D' = takeD ip D fi fm ti t ∧ er = 0 ∧ fs = takeF mac ip D op fm fi ti)) ∧ CaW w' kd' p mac ip now' lost D' ∧ GrowA kd kd' w w' ∧ e = .returned (.tuple #[.slice a n c, .int .i64 (er : Nat)]) ∧ FrsW w' kd' w.heap.size a n c fs
theorem wsF_none {mac m : Nat} {D : List (Nat × Nbr)} {q : Nat} (h : lookD D q = none) : wsF mac m (nbAt D q) = [] := by unfold nbAt; rw [h]; rfl
set_option maxRecDepth 100000 in
set_option maxHeartbeats 8000000 in
theorem take_arp {w : World} {kd : Nat → RoleA} {p mac ip : Nat} {now lost : Int} {D : List (Nat × Nbr)} (h : CaW w kd p mac ip now lost D) (op : Int) (fm fi tm ti : Nat) (hfi : fi < 4294967296) (t : Int) :
    Calls Try.prog 10 #[.pointer (some ⟨p, 0, none⟩), .agg #[.int .i64 op, .int .u64 (fm : Nat), .int .u32 (fi : Nat), .int .u64 (tm : Nat), .int .u32 (ti : Nat)], .int .i64 t] w (TakeP w kd p mac ip now lost D op fm fi ti t) := by
  obtain ⟨W, hW⟩ : ∃ W, W = w.alloc (.cells #[.int .i64 op, .int .u64 (fm : Nat), .int .u32 (fi : Nat), .int .u64 (tm : Nat), .int .u32 (ti : Nat)] 31) := ⟨_, rfl⟩
  have b0 : Below w.heap.size w W := by rw [hW]; exact (Below.refl _ _).alloc (Nat.le_refl _) _
  have stB := Stc.new w [.int .i64 op, .int .u64 (fm : Nat), .int .u32 (fi : Nat), .int .u64 (tm : Nat), .int .u32 (ti : Nat)] 31 W hW
  have hcW := h.below b0
  obtain ⟨nv, hst, _⟩ := hcW.looks
  have HMB := (show Hid _ from amayBe_any hst t)
  have hpl := h.lt
  have HH := (show Hid _ from And.intro h (And.intro b0 (And.intro stB hcW)))
  clear hst hcW stB b0 h
  go_enter Try.func10, Try.ntmps10
  go_wp2_with fail
  rw [← hW]
  clear hW
  refine Calls.mono HMB.out ?_
  clear HMB
  rintro e w1 ⟨rfl, hb1⟩
  by_cases hk : atkE now t ≠ 0
  · have hk1 : ((atkE now t : Nat) : Int) ≠ 0 := by omega
    have HE : Hid (takeE now t ip fi fm = atkE now t) := by show _ = _; unfold takeE; rw [if_pos hk]
    obtain ⟨E, hE⟩ : ∃ E, E = atkE now t := ⟨_, rfl⟩
    rw [← hE] at hk hk1 HE ⊢
    clear hE
    have HB := (show Hid _ from hb1)
    clear hb1
    go_wp2
    go_ret2
    obtain ⟨h, b0, stB, hcW⟩ := HH.out
    exact ⟨kd, now, D, E, [], none, 0, 0, .inl ⟨by rw [HE.out]; exact hk, rfl, rfl, HE.out.symm, rfl⟩, hcW.below HB.out, GrowA.of_below (b0.trans (HB.out.mono b0.size)), rfl, FrsW.nil _ _ _⟩
  have hk : atkE now t = 0 := by omega
  rw [hk]
  obtain ⟨ht0, ht1, htn⟩ := atkE_ok hk
  obtain ⟨h, b0, stB, hcW⟩ := HH.out
  have hc1 := hcW.below hb1
  have hbw1 : Below w.heap.size w w1 := b0.trans (hb1.mono b0.size)
  have st1 := stB.below hb1
  obtain ⟨nv, hst, _⟩ := hc1.looks
  have HKC : Hid (w1.drew.cell? ⟨w.heap.size, 1, none⟩ = some (.int .u64 (fm : Nat)) ∧ w1.drew.cell? ⟨w.heap.size, 2, none⟩ = some (.int .u32 (fi : Nat)) ∧ w1.drew.cell? ⟨p, 1, none⟩ = some (.int .u32 (ip : Nat))) := ⟨st1.cell 1 _ rfl, st1.cell 2 _ rfl, hst.cell 1 _ rfl⟩
  have HC1 := (show Hid _ from And.intro hc1 (And.intro hbw1 st1))
  have HOC := (show Hid _ from fun W => oneCard_any fm W)
  have HFR := (show Hid _ from h.fresh)
  have HSL : Hid (Srt D ∧ D.length ≤ 8) := ⟨h.srt, h.len⟩
  clear h b0 stB hcW hb1 hc1 hbw1 st1 hst HH
  have HTK := (show Hid _ from hk)
  clear hk
  by_cases hfe : fi = ip
  · have hfe1 : ((fi : Int) == (ip : Int)) = true := by simp; omega
    have hfe2 : (fi : Int) = (ip : Int) := by omega
    go_wp2_with fail
    refine wp_region_fixW mixedX (fun V => V = w1.drew) [(19, .pointer (some ⟨w.heap.size, 2, none⟩)), (20, .int .u32 (fi : Nat)), (21, .pointer (some ⟨p, 0, none⟩)), (22, .pointer (some ⟨p, 0, none⟩)), (23, .pointer (some ⟨p, 1, none⟩)), (24, .int .u32 (ip : Nat)), (25, .bool true), (26, .bool true), (27, undef), (28, undef), (29, undef), (30, undef), (31, .bool true)] ?Z1 ?hZ1 (by kernel_rfl) (by kernel_rfl) (by kernel_rfl) (by kernel_rfl) ?h01 ?hops1 ?he1
    case hZ1 => simp only [List.foldl_cons, List.foldl_nil, List.setIfInBounds_toArray, List.set_cons_zero, List.set_cons_succ]; rfl
    case h01 => rfl
    case hops1 =>
      refine ⟨?_, ?_, ?_, ?_, ?_, ?_, ?_, ?_, ?_, ?_, ?_, ?_, ?_, trivial⟩
      · exact fix_val (by rfl) (fun W hW => by subst hW; obtain ⟨d0, d1, d2⟩ := HKC.out; go_simp; (try with_reducible rfl); (try omega))
      · exact fix_val (by rfl) (fun W hW => by subst hW; obtain ⟨d0, d1, d2⟩ := HKC.out; go_simp; (try with_reducible rfl); (try omega))
      · exact fix_val (by rfl) (fun W hW => by subst hW; obtain ⟨d0, d1, d2⟩ := HKC.out; go_simp; (try with_reducible rfl); (try omega))
      · exact fix_val (by rfl) (fun W hW => by subst hW; obtain ⟨d0, d1, d2⟩ := HKC.out; go_simp; (try with_reducible rfl); (try omega))
      · exact fix_val (by rfl) (fun W hW => by subst hW; obtain ⟨d0, d1, d2⟩ := HKC.out; go_simp; (try with_reducible rfl); (try omega))
      · exact fix_val (by rfl) (fun W hW => by subst hW; obtain ⟨d0, d1, d2⟩ := HKC.out; go_simp; (try with_reducible rfl); (try omega))
      · exact fix_val (by rfl) (fun W hW => by subst hW; obtain ⟨d0, d1, d2⟩ := HKC.out; go_simp; (try with_reducible rfl); (try omega))
      · exact fix_val (by rfl) (fun W hW => by subst hW; obtain ⟨d0, d1, d2⟩ := HKC.out; go_simp; (try with_reducible rfl); (try omega))
      · exact fix_off (by rfl) (fun d hd => by cases hd; rfl)
      · exact fix_off (by rfl) (fun d hd => by cases hd; rfl)
      · exact fix_off (by rfl) (fun d hd => by cases hd; rfl)
      · exact fix_off (by rfl) (fun d hd => by cases hd; rfl)
      · exact fix_val (by rfl) (fun W hW => by subst hW; obtain ⟨d0, d1, d2⟩ := HKC.out; go_simp; (try with_reducible rfl); (try omega))
    case he1 =>
    intro V hV
    have HV := (show Hid _ from hV)
    clear hV
    go_wp2
    go_ret2
    have HE : takeE now t ip fi fm = 12 := by unfold takeE; rw [if_neg (by rw [HTK.out]; simp), if_pos (.inl hfe)]
    obtain ⟨hc1, hbw1, st1⟩ := HC1.out
    have bd : Below w1.heap.size w1 V := by rw [HV.out]; exact (Below.refl _ _).drew
    exact ⟨kd, now, D, 12, [], none, 0, 0, .inl ⟨by rw [HE]; decide, rfl, rfl, HE.symm, rfl⟩, hc1.below bd, GrowA.of_below (hbw1.trans (bd.mono hbw1.size)), rfl, FrsW.nil _ _ _⟩
  have hfe1 : ((fi : Int) == (ip : Int)) = false := by simp; omega
  have hfe2 : ¬ (fi : Int) = (ip : Int) := by omega
  by_cases hfm : 281474976710655 ≤ fm
  · have HOF : Hid (∀ W, Calls Try.prog 19 #[.int .u64 (fm : Nat)] W fun e w' => e = .returned (.bool false) ∧ w' = W) := fun W => by
      have := HOC.out W
      rw [decide_eq_false (by omega)] at this
      exact this
    go_wp2_with fail
    refine wp_region_fixW mixedX (fun V => V = w1.drew) [(19, .pointer (some ⟨w.heap.size, 2, none⟩)), (20, .int .u32 (fi : Nat)), (21, .pointer (some ⟨p, 0, none⟩)), (22, .pointer (some ⟨p, 0, none⟩)), (23, .pointer (some ⟨p, 1, none⟩)), (24, .int .u32 (ip : Nat)), (25, .bool false), (26, .bool false), (27, .pointer (some ⟨w.heap.size, 1, none⟩)), (28, .int .u64 (fm : Nat)), (29, .bool false), (30, .bool true), (31, .bool true)] ?Z2 ?hZ2 (by kernel_rfl) (by kernel_rfl) (by kernel_rfl) (by kernel_rfl) ?h02 ?hops2 ?he2
    case hZ2 => simp only [List.foldl_cons, List.foldl_nil, List.setIfInBounds_toArray, List.set_cons_zero, List.set_cons_succ]; rfl
    case h02 => rfl
    case hops2 =>
      refine ⟨?_, ?_, ?_, ?_, ?_, ?_, ?_, ?_, ?_, ?_, ?_, ?_, ?_, trivial⟩
      · exact fix_val (by rfl) (fun W hW => by subst hW; obtain ⟨d0, d1, d2⟩ := HKC.out; go_simp; (try with_reducible rfl); (try omega))
      · exact fix_val (by rfl) (fun W hW => by subst hW; obtain ⟨d0, d1, d2⟩ := HKC.out; go_simp; (try with_reducible rfl); (try omega))
      · exact fix_val (by rfl) (fun W hW => by subst hW; obtain ⟨d0, d1, d2⟩ := HKC.out; go_simp; (try with_reducible rfl); (try omega))
      · exact fix_val (by rfl) (fun W hW => by subst hW; obtain ⟨d0, d1, d2⟩ := HKC.out; go_simp; (try with_reducible rfl); (try omega))
      · exact fix_val (by rfl) (fun W hW => by subst hW; obtain ⟨d0, d1, d2⟩ := HKC.out; go_simp; (try with_reducible rfl); (try omega))
      · exact fix_val (by rfl) (fun W hW => by subst hW; obtain ⟨d0, d1, d2⟩ := HKC.out; go_simp; (try with_reducible rfl); (try omega))
      · exact fix_val (by rfl) (fun W hW => by subst hW; obtain ⟨d0, d1, d2⟩ := HKC.out; go_simp; (try with_reducible rfl); (try omega))
      · exact fix_val (by rfl) (fun W hW => by subst hW; obtain ⟨d0, d1, d2⟩ := HKC.out; go_simp; (try with_reducible rfl); (try omega))
      · exact fix_val (by rfl) (fun W hW => by subst hW; obtain ⟨d0, d1, d2⟩ := HKC.out; go_simp; (try with_reducible rfl); (try omega))
      · exact fix_val (by rfl) (fun W hW => by subst hW; obtain ⟨d0, d1, d2⟩ := HKC.out; go_simp; (try with_reducible rfl); (try omega))
      · exact fix_call (vs := [.int .u64 (fm : Nat)]) (by rfl) rfl (by rfl) Try.func19 (by rfl) (by rfl) (fun W hW => by subst hW; exact HOF.out _)
      · exact fix_val (by rfl) (fun W hW => by subst hW; obtain ⟨d0, d1, d2⟩ := HKC.out; go_simp; (try with_reducible rfl); (try omega))
      · exact fix_val (by rfl) (fun W hW => by subst hW; obtain ⟨d0, d1, d2⟩ := HKC.out; go_simp; (try with_reducible rfl); (try omega))
    case he2 =>
    intro V hV
    have HV := (show Hid _ from hV)
    clear hV
    go_wp2
    go_ret2
    have HE : takeE now t ip fi fm = 12 := by unfold takeE; rw [if_neg (by rw [HTK.out]; simp), if_pos (.inr hfm)]
    obtain ⟨hc1, hbw1, st1⟩ := HC1.out
    have bd : Below w1.heap.size w1 V := by rw [HV.out]; exact (Below.refl _ _).drew
    exact ⟨kd, now, D, 12, [], none, 0, 0, .inl ⟨by rw [HE]; decide, rfl, rfl, HE.symm, rfl⟩, hc1.below bd, GrowA.of_below (hbw1.trans (bd.mono hbw1.size)), rfl, FrsW.nil _ _ _⟩
  have hfm2 : fm < 281474976710655 := by omega
  have HEO : Hid (takeE now t ip fi fm = 0) := by show _ = _; unfold takeE; rw [if_neg (by rw [HTK.out]; simp), if_neg (by omega)]
  have HOF : Hid (∀ W, Calls Try.prog 19 #[.int .u64 (fm : Nat)] W fun e w' => e = .returned (.bool true) ∧ w' = W) := fun W => by
    have := HOC.out W
    rw [decide_eq_true hfm2] at this
    exact this
  clear HOC hfm
  go_wp2_with fail
  refine wp_region_fixW mixedX (fun V => V = w1.drew) [(19, .pointer (some ⟨w.heap.size, 2, none⟩)), (20, .int .u32 (fi : Nat)), (21, .pointer (some ⟨p, 0, none⟩)), (22, .pointer (some ⟨p, 0, none⟩)), (23, .pointer (some ⟨p, 1, none⟩)), (24, .int .u32 (ip : Nat)), (25, .bool false), (26, .bool false), (27, .pointer (some ⟨w.heap.size, 1, none⟩)), (28, .int .u64 (fm : Nat)), (29, .bool true), (30, .bool false), (31, .bool false)] ?Z3 ?hZ3 (by kernel_rfl) (by kernel_rfl) (by kernel_rfl) (by kernel_rfl) ?h03 ?hops3 ?he3
  case hZ3 => simp only [List.foldl_cons, List.foldl_nil, List.setIfInBounds_toArray, List.set_cons_zero, List.set_cons_succ]; rfl
  case h03 => rfl
  case hops3 =>
    refine ⟨?_, ?_, ?_, ?_, ?_, ?_, ?_, ?_, ?_, ?_, ?_, ?_, ?_, trivial⟩
    · exact fix_val (by rfl) (fun W hW => by subst hW; obtain ⟨d0, d1, d2⟩ := HKC.out; go_simp; (try with_reducible rfl); (try omega))
    · exact fix_val (by rfl) (fun W hW => by subst hW; obtain ⟨d0, d1, d2⟩ := HKC.out; go_simp; (try with_reducible rfl); (try omega))
    · exact fix_val (by rfl) (fun W hW => by subst hW; obtain ⟨d0, d1, d2⟩ := HKC.out; go_simp; (try with_reducible rfl); (try omega))
    · exact fix_val (by rfl) (fun W hW => by subst hW; obtain ⟨d0, d1, d2⟩ := HKC.out; go_simp; (try with_reducible rfl); (try omega))
    · exact fix_val (by rfl) (fun W hW => by subst hW; obtain ⟨d0, d1, d2⟩ := HKC.out; go_simp; (try with_reducible rfl); (try omega))
    · exact fix_val (by rfl) (fun W hW => by subst hW; obtain ⟨d0, d1, d2⟩ := HKC.out; go_simp; (try with_reducible rfl); (try omega))
    · exact fix_val (by rfl) (fun W hW => by subst hW; obtain ⟨d0, d1, d2⟩ := HKC.out; go_simp; (try with_reducible rfl); (try omega))
    · exact fix_val (by rfl) (fun W hW => by subst hW; obtain ⟨d0, d1, d2⟩ := HKC.out; go_simp; (try with_reducible rfl); (try omega))
    · exact fix_val (by rfl) (fun W hW => by subst hW; obtain ⟨d0, d1, d2⟩ := HKC.out; go_simp; (try with_reducible rfl); (try omega))
    · exact fix_val (by rfl) (fun W hW => by subst hW; obtain ⟨d0, d1, d2⟩ := HKC.out; go_simp; (try with_reducible rfl); (try omega))
    · exact fix_call (vs := [.int .u64 (fm : Nat)]) (by rfl) rfl (by rfl) Try.func19 (by rfl) (by rfl) (fun W hW => by subst hW; exact HOF.out _)
    · exact fix_val (by rfl) (fun W hW => by subst hW; obtain ⟨d0, d1, d2⟩ := HKC.out; go_simp; (try with_reducible rfl); (try omega))
    · exact fix_val (by rfl) (fun W hW => by subst hW; obtain ⟨d0, d1, d2⟩ := HKC.out; go_simp; (try with_reducible rfl); (try omega))
  case he3 =>
  intro V hV
  obtain ⟨hc1, hbw1, st1⟩ := HC1.out
  have bd : Below w1.heap.size w1 V := by rw [hV]; exact (Below.refl _ _).drew
  have hbV : Below w.heap.size w V := hbw1.trans (bd.mono hbw1.size)
  have hcV := hc1.below bd
  have stV := st1.below bd
  clear hV HKC HC1 HOF hc1 hbw1 st1 bd
  obtain ⟨nvV, hstV, _⟩ := hcV.looks
  have e2 := hstV.cell 2 _ rfl
  have f2 := hstV.free 2
  have hpV := hstV.lt
  obtain ⟨V2, hV2⟩ : ∃ V2, V2 = V.setCell ⟨p, 2, none⟩ (.int .i64 t) := ⟨_, rfl⟩
  have hc2 : CaW V2 kd p mac ip t lost D := by rw [hV2]; exact hcV.tick t htn ht1
  have hf2 : Fr (fun k => k = p) V V2 := by rw [hV2]; exact Fr.setCell _ _ _ _ rfl
  have hkp := hcV.kp
  have hg2 : GrowA kd kd w V2 := (GrowA.of_below hbV).trans (GrowA.of_fr hf2 (fun g _ e => by rw [e, hkp]; exact fun e => (by cases e)))
  have hne : ¬ w.heap.size = p := by omega
  have st2 := stV.fr hf2 hne
  obtain ⟨nv2, hst2, hlk2⟩ := hc2.looks
  have HSV : Hid (∀ V3, Below V2.drew.heap.size V2.drew V3 → V3.cell? ⟨p, 3, none⟩ = some nv2 ∧ V3.cell? ⟨w.heap.size, 2, none⟩ = some (.int .u32 (fi : Nat)) ∧ (Instr.lookup 60 nv2 (.int .u32 (fi : Nat)) true).run Try.prog V3 = .ok (.tuple #[(nbAt D fi).v, .bool (lookD D fi).isSome]) V3) := fun V3 hb => ⟨((hst2.below (Below.refl _ _).drew).below hb).cell 3 _ rfl, ((st2.below (Below.refl _ _).drew).below hb).cell 2 _ rfl, by
    have := hlk2 V3 ((Below.refl _ _).drew.trans hb) fi hfi true
    simpa using this⟩
  have HC2 := (show Hid _ from And.intro hc2 (And.intro hg2 st2))
  clear hcV stV hbV hc2 hg2 st2 hf2 hst2 hlk2 hstV
  obtain ⟨x, hx⟩ : ∃ x, x = nbAt D fi := ⟨_, rfl⟩
  obtain ⟨ok, hok⟩ : ∃ ok, ok = (lookD D fi).isSome := ⟨_, rfl⟩
  rw [← hx, ← hok] at HSV
  have HOK := (show Hid _ from hok)
  have HXX := (show Hid _ from hx)
  clear hok hx
  obtain ⟨kn, nm, at_, ak, wa, wn, wc, ws⟩ := x
  unfold Nbr.v at HSV
  dsimp only at HSV
  go_wp2_with fail
  rw [← hV2]
  clear hV2 e2 f2
  refine wp_region_stage mixedX [10, 11] (fun stgN W => match stgN with | 0 => W = V2.drew | 1 => W = V2.drew.alloc (.cells #[.bool false, .int .u64 0, .int .i64 0, .int .i64 0, .slice none 0 0] 65) | _ => W = V2.drew.alloc (.cells #[.bool kn, .int .u64 (nm : Nat), .int .i64 at_, .int .i64 ak, .slice wa wn wc] 65)) (fun W => Below V2.drew.heap.size V2.drew W) [(37, .pointer (some ⟨p, 0, none⟩)), (38, .pointer (some ⟨p, 0, none⟩)), (39, .pointer (some ⟨p, 3, none⟩)), (40, nv2), (41, .pointer (some ⟨w.heap.size, 2, none⟩)), (42, .int .u32 (fi : Nat)), (43, .tuple #[.agg #[.bool kn, .int .u64 (nm : Nat), .int .i64 at_, .int .i64 ak, .slice wa wn wc], .bool ok]), (36, .tuple #[.agg #[.bool kn, .int .u64 (nm : Nat), .int .i64 at_, .int .i64 ak, .slice wa wn wc], .bool ok]), (44, .agg #[.bool kn, .int .u64 (nm : Nat), .int .i64 at_, .int .i64 ak, .slice wa wn wc]), (45, .bool ok), (10, .pointer (some ⟨V2.drew.heap.size, 0, none⟩)), (11, .bool ok)] ?Z101 ?hZ101 (by kernel_rfl) (by kernel_rfl) (by kernel_rfl) (by kernel_rfl) (by kernel_rfl) ?h0101 ?hS101 (.inr ?hl101) ?hops101 ?he101 (by kernel_rfl) (by decide)
  case hZ101 => simp only [List.foldl_cons, List.foldl_nil, List.setIfInBounds_toArray, List.set_cons_zero, List.set_cons_succ]; rfl
  case h0101 => rfl
  case hS101 =>
    intro k W hk hW
    have hk : k < 2 := hk
    obtain rfl | rfl : k = 0 ∨ k = 1 := by omega
    · have hW : W = V2.drew := hW; rw [hW]; exact Below.refl _ _
    · have hW : W = V2.drew.alloc (.cells #[.bool false, .int .u64 0, .int .i64 0, .int .i64 0, .slice none 0 0] 65) := hW; rw [hW]; exact (Below.refl _ _).alloc (Nat.le_refl _) _
  case hl101 =>
    intro W hW
    have hW : W = V2.drew.alloc (.cells #[.bool kn, .int .u64 (nm : Nat), .int .i64 at_, .int .i64 ak, .slice wa wn wc] 65) := hW; rw [hW]; exact (Below.refl _ _).alloc (Nat.le_refl _) _
  case hops101 =>
    refine ⟨?_, ?_, ?_, ?_, ?_, ?_, ?_, ?_, ?_, ?_, ?_, ?_, ?_, trivial⟩
    · exact stg_val (by rfl) (by rfl) (fun W hW => by obtain ⟨d0, d1, d2⟩ := HSV.out W hW; go_simp; (try with_reducible rfl); (try omega))
    · exact stg_val (by rfl) (by rfl) (fun W hW => by obtain ⟨d0, d1, d2⟩ := HSV.out W hW; go_simp; (try with_reducible rfl); (try omega))
    · exact stg_val (by rfl) (by rfl) (fun W hW => by obtain ⟨d0, d1, d2⟩ := HSV.out W hW; go_simp; (try with_reducible rfl); (try omega))
    · exact stg_val (by rfl) (by rfl) (fun W hW => by obtain ⟨d0, d1, d2⟩ := HSV.out W hW; go_simp; (try with_reducible rfl); (try omega))
    · exact stg_val (by rfl) (by rfl) (fun W hW => by obtain ⟨d0, d1, d2⟩ := HSV.out W hW; go_simp; (try with_reducible rfl); (try omega))
    · exact stg_val (by rfl) (by rfl) (fun W hW => by obtain ⟨d0, d1, d2⟩ := HSV.out W hW; go_simp; (try with_reducible rfl); (try omega))
    · exact stg_val (by rfl) (by rfl) (fun W hW => by obtain ⟨d0, d1, d2⟩ := HSV.out W hW; go_simp; (try with_reducible rfl); (try omega))
    · exact stg_val (by rfl) (by rfl) (fun W hW => by obtain ⟨d0, d1, d2⟩ := HSV.out W hW; go_simp; (try with_reducible rfl); (try omega))
    · exact stg_val (by rfl) (by rfl) (fun W hW => by obtain ⟨d0, d1, d2⟩ := HSV.out W hW; go_simp; (try with_reducible rfl); (try omega))
    · exact stg_val (by rfl) (by rfl) (fun W hW => by obtain ⟨d0, d1, d2⟩ := HSV.out W hW; go_simp; (try with_reducible rfl); (try omega))
    · exact stg_run (by rfl) (by rfl) (fun W hW => by have hW : W = V2.drew := hW; subst hW; exact ⟨_, run_allocX rfl zeroN, rfl⟩)
    · exact stg_skip (by rfl) (by rfl) rfl (fun W hW => by have hW : W = V2.drew.alloc (.cells #[.bool false, .int .u64 0, .int .i64 0, .int .i64 0, .slice none 0 0] 65) := hW; subst hW; refine ⟨V2.drew.alloc (.cells #[.bool kn, .int .u64 (nm : Nat), .int .i64 at_, .int .i64 ak, .slice wa wn wc] 65), ?_, rfl⟩; go_simp)
    · exact stg_val (by rfl) (by rfl) (fun W hW => by obtain ⟨d0, d1, d2⟩ := HSV.out W hW; go_simp; (try with_reducible rfl); (try omega))
  case he101 =>
  intro V3 hV3
  have hV3 : V3 = V2.drew.alloc (.cells #[.bool kn, .int .u64 (nm : Nat), .int .i64 at_, .int .i64 ak, .slice wa wn wc] 65) := hV3
  have hb3 : Below V2.heap.size V2 V3 := by rw [hV3]; exact (Below.refl _ _).drew.alloc (Nat.le_refl _) _
  obtain ⟨hc2, hg2, st2⟩ := HC2.out
  have hc3 := hc2.below hb3
  have hg3 : GrowA kd kd w V3 := hg2.trans (GrowA.of_below hb3)
  have st3 := st2.below hb3
  obtain ⟨nv3, hst3, _⟩ := hc3.looks
  have HK9 : Hid (V3.drew.cell? ⟨w.heap.size, 4, none⟩ = some (.int .u32 (ti : Nat)) ∧ V3.drew.cell? ⟨p, 1, none⟩ = some (.int .u32 (ip : Nat))) := ⟨st3.cell 4 _ rfl, hst3.cell 1 _ rfl⟩
  have HC3 := (show Hid _ from And.intro hc3 (And.intro hg3 st3))
  clear hV3 hb3 hc2 hg2 st2 hc3 hg3 st3 hst3 HC2 HSV
  by_cases hti2 : ti = ip
  · have hti1 : ((ti : Int) == (ip : Int)) = true := by simp; omega
    have hti3 : (ti : Int) = (ip : Int) := by omega
    go_wp2_with fail
    refine wp_region_fixW mixedX (fun V => V = V3.drew) [(46, .pointer (some ⟨w.heap.size, 4, none⟩)), (47, .int .u32 (ti : Nat)), (48, .pointer (some ⟨p, 0, none⟩)), (49, .pointer (some ⟨p, 0, none⟩)), (50, .pointer (some ⟨p, 1, none⟩)), (51, .int .u32 (ip : Nat)), (52, .bool true), (12, .bool true)] ?Z4 ?hZ4 (by kernel_rfl) (by kernel_rfl) (by kernel_rfl) (by kernel_rfl) ?h04 ?hops4 ?he4
    case hZ4 => simp only [List.foldl_cons, List.foldl_nil, List.setIfInBounds_toArray, List.set_cons_zero, List.set_cons_succ]; rfl
    case h04 => rfl
    case hops4 =>
      refine ⟨?_, ?_, ?_, ?_, ?_, ?_, ?_, ?_, trivial⟩
      · exact fix_val (by rfl) (fun W hW => by subst hW; obtain ⟨d0, d1⟩ := HK9.out; go_simp; (try with_reducible rfl); (try omega))
      · exact fix_val (by rfl) (fun W hW => by subst hW; obtain ⟨d0, d1⟩ := HK9.out; go_simp; (try with_reducible rfl); (try omega))
      · exact fix_val (by rfl) (fun W hW => by subst hW; obtain ⟨d0, d1⟩ := HK9.out; go_simp; (try with_reducible rfl); (try omega))
      · exact fix_val (by rfl) (fun W hW => by subst hW; obtain ⟨d0, d1⟩ := HK9.out; go_simp; (try with_reducible rfl); (try omega))
      · exact fix_val (by rfl) (fun W hW => by subst hW; obtain ⟨d0, d1⟩ := HK9.out; go_simp; (try with_reducible rfl); (try omega))
      · exact fix_val (by rfl) (fun W hW => by subst hW; obtain ⟨d0, d1⟩ := HK9.out; go_simp; (try with_reducible rfl); (try omega))
      · exact fix_val (by rfl) (fun W hW => by subst hW; obtain ⟨d0, d1⟩ := HK9.out; go_simp; (try with_reducible rfl); (try omega))
      · exact fix_val (by rfl) (fun W hW => by subst hW; obtain ⟨d0, d1⟩ := HK9.out; go_simp; (try with_reducible rfl); (try omega))
    case he4 =>
    intro V hV
    obtain ⟨hc3, hg3, st3⟩ := HC3.out
    have bd : Below V3.heap.size V3 V := by rw [hV]; exact (Below.refl _ _).drew
    have hcV := hc3.below bd
    have hgV : GrowA kd kd w V := hg3.trans (GrowA.of_below bd)
    have stV := st3.below bd
    clear hV HK9 HC3 hc3 hg3 st3 bd
    have HWF : Hid ((wsF mac fm (nbAt D fi)).length ≤ 1000) := by
      show _ ≤ _
      unfold wsF nbAt
      rw [List.length_map]
      cases hl : lookD D fi with
      | none => show 0 ≤ 1000; omega
      | some y => have := (hcV.each _ (lookD_mem hl)).2.1.len; show y.ws.length ≤ 1000; dsimp only at this; omega
    have hkb : kd w.heap.size = .no := by
      cases e : kd w.heap.size with
      | no => rfl
      | _ => exact absurd (HFR.out _ (Nat.le_refl _)) (by rw [e]; exact fun e2 => (by cases e2))
    cases ok with
    | true =>
      have hl1 := HOK.out.symm
      have q1 := stV.cell 1 _ rfl
      have q2 := stV.cell 2 _ rfl
      have HLN := (show Hid _ from learn_any hcV fi fm hfi hfm2 (.inl hl1))
      have HCL := (show Hid _ from And.intro hgV (And.intro hkb stV))
      have HD : Hid (takeD ip D fi fm ti t = putD D fi (knX fm t)) := by show _ = _; unfold takeD; rw [if_pos hl1]
      obtain ⟨F5, hF5⟩ : ∃ F5, F5 = wsF mac fm (nbAt D fi) := ⟨_, rfl⟩
      rw [← hF5] at HLN
      have HF : Hid (wsF mac fm (nbAt D fi) = F5) := hF5.symm
      clear hF5 hcV hgV stV hkb hl1
      go_wp2_with fail
      refine Calls.mono HLN.out ?_
      rintro e w5 ⟨kd5, a5, n5, c5, hc5, hg5, rfl, hfs5⟩
      have st5 := HCL.out.2.2.fr hg5.fr (fun e => e HCL.out.2.1)
      have HC5 : Hid _ := And.intro hc5 (And.intro (HCL.out.1.trans hg5) (And.intro (⟨hfs5.ex.choose, hfs5.ex.choose_spec.1, hfs5.ex.choose_spec.2.1.base HCL.out.1.fr.size, hfs5.ex.choose_spec.2.2.1, fun b hb => ⟨(hfs5.ex.choose_spec.2.2.2 b hb).1, fun g off e => ⟨((hfs5.ex.choose_spec.2.2.2 b hb).2 g off e).1, Nat.le_trans HCL.out.1.fr.size ((hfs5.ex.choose_spec.2.2.2 b hb).2 g off e).2.1, ((hfs5.ex.choose_spec.2.2.2 b hb).2 g off e).2.2⟩⟩⟩ : FrsW w5 kd5 w.heap.size a5 n5 c5 _) st5))
      clear hc5 hg5 hfs5 st5 HLN HCL
      have k0 := HC5.out.2.2.2.cell 0 _ rfl
      have k1 := HC5.out.2.2.2.cell 1 _ rfl
      have k2 := HC5.out.2.2.2.cell 2 _ rfl
      by_cases hop : op = 1
      · have hop1 : (op == 1) = true := by simp [hop]
        obtain ⟨nv5, hst5, _⟩ := HC5.out.1.looks
        have HTL := (show Hid _ from tell_any hst5 (by have := HC5.out.1.mac1; omega) HC5.out.1.ip1 2 fm fm fi (.inr rfl) (by omega) (by omega) hfi)
        clear hst5
        obtain ⟨L, hL⟩ : ∃ L, L = epV fm mac 2054 (arpB 2 mac ip fm fi) := ⟨_, rfl⟩
        have HLL := (show Hid _ from hL)
        have hLl : L.length ≤ 1600 := by rw [hL]; exact epV_le _ _ _ _ (by rw [arpB_len]; omega)
        rw [← hL] at HTL
        have HOP := (show Hid _ from hop)
        clear hL hop
        go_wp2_with fail
        refine Calls.mono HTL.out ?_
        rintro e w6 ⟨⟨a6, c6, rfl, hr6⟩, hb6⟩
        obtain ⟨hc5, hg5, hfs5, st5⟩ := HC5.out
        have hn5 : n5 ≤ 1000 := by rw [hfs5.len, ← HF.out]; exact HWF.out
        obtain ⟨g7, c7, w7, hr7, hfs7, hf7⟩ := FrsW.app (hfs5.below hb6) (hr6.base hg5.fr.size) (by omega) (fun g hg => hc5.fresh g (hr6.own.lt g hg).1) (hc5.below hb6).fresh (Nat.le_trans hg5.fr.size hb6.size) hn5 34
        have HZ := (show Hid _ from And.intro hfs7 (And.intro hf7 hb6))
        clear hc5 hg5 hfs5 st5 hr6 hb6 hfs7 hf7
        go_wp2_with (at_builtin; refine app_eq_list rfl _ _ rfl rfl rfl rfl hr7 ?_)
        go_ret2
        obtain ⟨hc5, hg5, hfs5, st5⟩ := HC5.out
        obtain ⟨hfs7, hf7, hb6⟩ := HZ.out
        refine ⟨kd5, t, _, 0, _, _, _, c7, .inr ⟨HEO.out, rfl, HD.out.symm, rfl, ?_⟩, (hc5.below hb6).fr hf7 (fun g _ e => .inl e.1), ?_, rfl, hfs7⟩
        · unfold takeF
          rw [if_pos ⟨hti2, HOP.out⟩, HF.out, HLL.out]
        · refine ⟨⟨?_, ?_, ?_, ?_, ?_⟩, hg5.no⟩
          · exact (hf7.os.trans hb6.os).trans hg5.fr.os
          · exact (hf7.tape.trans hb6.tape).trans hg5.fr.tape
          · exact (hf7.output.trans hb6.output).trans hg5.fr.output
          · exact Nat.le_trans hg5.fr.size (Nat.le_trans hb6.size hf7.size)
          · intro k hk hn
            have hk5 := Nat.lt_of_lt_of_le hk hg5.fr.size
            exact ((hf7.block k (Nat.lt_of_lt_of_le hk5 hb6.size) (fun e => by omega)).trans (hb6.block k hk5)).trans (hg5.fr.block k hk hn)
      · have hop1 : (op == 1) = false := by simp [hop]
        go_wp2
        go_ret2
        obtain ⟨hc5, hg5, hfs5, st5⟩ := HC5.out
        exact ⟨kd5, t, _, 0, _, a5, n5, c5, .inr ⟨HEO.out, rfl, HD.out.symm, rfl, by unfold takeF; rw [if_neg (fun e => hop e.2), List.append_nil]; exact HF.out.symm⟩, hc5, hg5, rfl, hfs5⟩
    | false =>
      have HLN0 : Hid (lookD D fi = none) := by
        show _ = _
        cases hl : lookD D fi with
        | none => rfl
        | some y => have := HOK.out; rw [hl] at this; cases this
      have HRM := (show Hid _ from room_any hcV)
      have HCV := (show Hid _ from And.intro hgV (And.intro hkb stV))
      clear hcV hgV stV hkb
      go_wp2_with fail
      refine Calls.mono HRM.out ?_
      rintro e w4 ⟨rfl, hc4, hg4⟩
      have hg4w := HCV.out.1.trans hg4
      have st4 := HCV.out.2.2.fr hg4.fr (fun e => e HCV.out.2.1)
      have hkb := HCV.out.2.1
      clear HCV HRM hg4
      cases hrb : roomB D with
      | true =>
        have q1 := st4.cell 1 _ rfl
        have q2 := st4.cell 2 _ rfl
        have HLN := (show Hid _ from learn_any hc4 fi fm hfi hfm2 (.inr (room_len HSL.out.1 HSL.out.2 hrb)))
        rw [wsF_none (room_look HSL.out.1 HLN0.out)] at HLN
        have HCL := (show Hid _ from And.intro hg4w (And.intro hkb st4))
        have HD : Hid (takeD ip D fi fm ti t = putD (roomD D) fi (knX fm t)) := by show _ = _; unfold takeD; rw [HLN0.out, if_neg (by simp), if_pos ⟨hti2, hrb⟩]
        have HF : Hid (wsF mac fm (nbAt D fi) = []) := wsF_none HLN0.out
        clear hc4 hg4w st4 hkb hrb
        go_wp2_with fail
        refine Calls.mono HLN.out ?_
        rintro e w5 ⟨kd5, a5, n5, c5, hc5, hg5, rfl, hfs5⟩
        have st5 := HCL.out.2.2.fr hg5.fr (fun e => e HCL.out.2.1)
        have HC5 : Hid _ := And.intro hc5 (And.intro (HCL.out.1.trans hg5) (And.intro (⟨hfs5.ex.choose, hfs5.ex.choose_spec.1, hfs5.ex.choose_spec.2.1.base HCL.out.1.fr.size, hfs5.ex.choose_spec.2.2.1, fun b hb => ⟨(hfs5.ex.choose_spec.2.2.2 b hb).1, fun g off e => ⟨((hfs5.ex.choose_spec.2.2.2 b hb).2 g off e).1, Nat.le_trans HCL.out.1.fr.size ((hfs5.ex.choose_spec.2.2.2 b hb).2 g off e).2.1, ((hfs5.ex.choose_spec.2.2.2 b hb).2 g off e).2.2⟩⟩⟩ : FrsW w5 kd5 w.heap.size a5 n5 c5 _) st5))
        clear hc5 hg5 hfs5 st5 HLN HCL
        have k0 := HC5.out.2.2.2.cell 0 _ rfl
        have k1 := HC5.out.2.2.2.cell 1 _ rfl
        have k2 := HC5.out.2.2.2.cell 2 _ rfl
        by_cases hop : op = 1
        · have hop1 : (op == 1) = true := by simp [hop]
          obtain ⟨nv5, hst5, _⟩ := HC5.out.1.looks
          have HTL := (show Hid _ from tell_any hst5 (by have := HC5.out.1.mac1; omega) HC5.out.1.ip1 2 fm fm fi (.inr rfl) (by omega) (by omega) hfi)
          clear hst5
          obtain ⟨L, hL⟩ : ∃ L, L = epV fm mac 2054 (arpB 2 mac ip fm fi) := ⟨_, rfl⟩
          have HLL := (show Hid _ from hL)
          have hLl : L.length ≤ 1600 := by rw [hL]; exact epV_le _ _ _ _ (by rw [arpB_len]; omega)
          rw [← hL] at HTL
          have HOP := (show Hid _ from hop)
          clear hL hop
          go_wp2_with fail
          refine Calls.mono HTL.out ?_
          rintro e w6 ⟨⟨a6, c6, rfl, hr6⟩, hb6⟩
          obtain ⟨hc5, hg5, hfs5, st5⟩ := HC5.out
          have hn5 : n5 ≤ 1000 := by rw [hfs5.len, ← HF.out]; exact HWF.out
          obtain ⟨g7, c7, w7, hr7, hfs7, hf7⟩ := FrsW.app (hfs5.below hb6) (hr6.base hg5.fr.size) (by omega) (fun g hg => hc5.fresh g (hr6.own.lt g hg).1) (hc5.below hb6).fresh (Nat.le_trans hg5.fr.size hb6.size) hn5 34
          have HZ := (show Hid _ from And.intro hfs7 (And.intro hf7 hb6))
          clear hc5 hg5 hfs5 st5 hr6 hb6 hfs7 hf7
          go_wp2_with (at_builtin; refine app_eq_list rfl _ _ rfl rfl rfl rfl hr7 ?_)
          go_ret2
          obtain ⟨hc5, hg5, hfs5, st5⟩ := HC5.out
          obtain ⟨hfs7, hf7, hb6⟩ := HZ.out
          refine ⟨kd5, t, _, 0, _, _, _, c7, .inr ⟨HEO.out, rfl, HD.out.symm, rfl, ?_⟩, (hc5.below hb6).fr hf7 (fun g _ e => .inl e.1), ?_, rfl, hfs7⟩
          · unfold takeF
            rw [if_pos ⟨hti2, HOP.out⟩, HF.out, HLL.out]
          · refine ⟨⟨?_, ?_, ?_, ?_, ?_⟩, hg5.no⟩
            · exact (hf7.os.trans hb6.os).trans hg5.fr.os
            · exact (hf7.tape.trans hb6.tape).trans hg5.fr.tape
            · exact (hf7.output.trans hb6.output).trans hg5.fr.output
            · exact Nat.le_trans hg5.fr.size (Nat.le_trans hb6.size hf7.size)
            · intro k hk hn
              have hk5 := Nat.lt_of_lt_of_le hk hg5.fr.size
              exact ((hf7.block k (Nat.lt_of_lt_of_le hk5 hb6.size) (fun e => by omega)).trans (hb6.block k hk5)).trans (hg5.fr.block k hk hn)
        · have hop1 : (op == 1) = false := by simp [hop]
          go_wp2
          go_ret2
          obtain ⟨hc5, hg5, hfs5, st5⟩ := HC5.out
          exact ⟨kd5, t, _, 0, _, a5, n5, c5, .inr ⟨HEO.out, rfl, HD.out.symm, rfl, by unfold takeF; rw [if_neg (fun e => hop e.2), List.append_nil]; exact HF.out.symm⟩, hc5, hg5, rfl, hfs5⟩
      | false =>
        have hrd : roomD D = D := by
          unfold roomB at hrb
          unfold roomD
          split
          · rfl
          · cases ho : oldD D with
            | none => rfl
            | some y => rw [ho] at hrb; simp at hrb
        rw [hrd] at hc4
        have HD : Hid (takeD ip D fi fm ti t = D) := by show _ = _; unfold takeD; rw [HLN0.out, if_neg (by simp), if_neg (by rw [hrb]; simp)]
        have HF : Hid (wsF mac fm (nbAt D fi) = []) := wsF_none HLN0.out
        obtain ⟨kd5, hkd⟩ : ∃ kd5, kd5 = kd := ⟨_, rfl⟩
        have HC5 : Hid (CaW w4 kd5 p mac ip t lost D ∧ GrowA kd kd5 w w4 ∧ FrsW w4 kd5 w.heap.size none 0 0 [] ∧ Stc w4 w.heap.size [.int .i64 op, .int .u64 (fm : Nat), .int .u32 (fi : Nat), .int .u64 (tm : Nat), .int .u32 (ti : Nat)]) := by rw [hkd]; exact ⟨hc4, hg4w, FrsW.nil _ _ _, st4⟩
        clear hc4 hg4w st4 hkb hrd hkd hrb
        have k0 := HC5.out.2.2.2.cell 0 _ rfl
        have k1 := HC5.out.2.2.2.cell 1 _ rfl
        have k2 := HC5.out.2.2.2.cell 2 _ rfl
        by_cases hop : op = 1
        · have hop1 : (op == 1) = true := by simp [hop]
          obtain ⟨nv5, hst5, _⟩ := HC5.out.1.looks
          have HTL := (show Hid _ from tell_any hst5 (by have := HC5.out.1.mac1; omega) HC5.out.1.ip1 2 fm fm fi (.inr rfl) (by omega) (by omega) hfi)
          clear hst5
          obtain ⟨L, hL⟩ : ∃ L, L = epV fm mac 2054 (arpB 2 mac ip fm fi) := ⟨_, rfl⟩
          have HLL := (show Hid _ from hL)
          have hLl : L.length ≤ 1600 := by rw [hL]; exact epV_le _ _ _ _ (by rw [arpB_len]; omega)
          rw [← hL] at HTL
          have HOP := (show Hid _ from hop)
          clear hL hop
          go_wp2_with fail
          refine Calls.mono HTL.out ?_
          rintro e w6 ⟨⟨a6, c6, rfl, hr6⟩, hb6⟩
          obtain ⟨hc5, hg5, hfs5, st5⟩ := HC5.out
          have hn5 : 0 ≤ 1000 := by omega
          obtain ⟨g7, c7, w7, hr7, hfs7, hf7⟩ := FrsW.app (hfs5.below hb6) (hr6.base hg5.fr.size) (by omega) (fun g hg => hc5.fresh g (hr6.own.lt g hg).1) (hc5.below hb6).fresh (Nat.le_trans hg5.fr.size hb6.size) hn5 34
          have HZ := (show Hid _ from And.intro hfs7 (And.intro hf7 hb6))
          clear hc5 hg5 hfs5 st5 hr6 hb6 hfs7 hf7
          go_wp2_with (at_builtin; refine app_eq_list rfl _ _ rfl rfl rfl rfl hr7 ?_)
          go_ret2
          obtain ⟨hc5, hg5, hfs5, st5⟩ := HC5.out
          obtain ⟨hfs7, hf7, hb6⟩ := HZ.out
          refine ⟨kd5, t, _, 0, _, _, _, c7, .inr ⟨HEO.out, rfl, HD.out.symm, rfl, ?_⟩, (hc5.below hb6).fr hf7 (fun g _ e => .inl e.1), ?_, rfl, hfs7⟩
          · unfold takeF
            rw [if_pos ⟨hti2, HOP.out⟩, HF.out, HLL.out]
          · refine ⟨⟨?_, ?_, ?_, ?_, ?_⟩, hg5.no⟩
            · exact (hf7.os.trans hb6.os).trans hg5.fr.os
            · exact (hf7.tape.trans hb6.tape).trans hg5.fr.tape
            · exact (hf7.output.trans hb6.output).trans hg5.fr.output
            · exact Nat.le_trans hg5.fr.size (Nat.le_trans hb6.size hf7.size)
            · intro k hk hn
              have hk5 := Nat.lt_of_lt_of_le hk hg5.fr.size
              exact ((hf7.block k (Nat.lt_of_lt_of_le hk5 hb6.size) (fun e => by omega)).trans (hb6.block k hk5)).trans (hg5.fr.block k hk hn)
        · have hop1 : (op == 1) = false := by simp [hop]
          go_wp2
          go_ret2
          obtain ⟨hc5, hg5, hfs5, st5⟩ := HC5.out
          exact ⟨kd5, t, _, 0, _, none, 0, 0, .inr ⟨HEO.out, rfl, HD.out.symm, rfl, by unfold takeF; rw [if_neg (fun e => hop e.2), List.append_nil]; exact HF.out.symm⟩, hc5, hg5, rfl, hfs5⟩
  · have hti1 : ((ti : Int) == (ip : Int)) = false := by simp; omega
    have hti3 : ¬ (ti : Int) = (ip : Int) := by omega
    go_wp2_with fail
    refine wp_region_fixW mixedX (fun V => V = V3.drew) [(46, .pointer (some ⟨w.heap.size, 4, none⟩)), (47, .int .u32 (ti : Nat)), (48, .pointer (some ⟨p, 0, none⟩)), (49, .pointer (some ⟨p, 0, none⟩)), (50, .pointer (some ⟨p, 1, none⟩)), (51, .int .u32 (ip : Nat)), (52, .bool false), (12, .bool false)] ?Z5 ?hZ5 (by kernel_rfl) (by kernel_rfl) (by kernel_rfl) (by kernel_rfl) ?h05 ?hops5 ?he5
    case hZ5 => simp only [List.foldl_cons, List.foldl_nil, List.setIfInBounds_toArray, List.set_cons_zero, List.set_cons_succ]; rfl
    case h05 => rfl
    case hops5 =>
      refine ⟨?_, ?_, ?_, ?_, ?_, ?_, ?_, ?_, trivial⟩
      · exact fix_val (by rfl) (fun W hW => by subst hW; obtain ⟨d0, d1⟩ := HK9.out; go_simp; (try with_reducible rfl); (try omega))
      · exact fix_val (by rfl) (fun W hW => by subst hW; obtain ⟨d0, d1⟩ := HK9.out; go_simp; (try with_reducible rfl); (try omega))
      · exact fix_val (by rfl) (fun W hW => by subst hW; obtain ⟨d0, d1⟩ := HK9.out; go_simp; (try with_reducible rfl); (try omega))
      · exact fix_val (by rfl) (fun W hW => by subst hW; obtain ⟨d0, d1⟩ := HK9.out; go_simp; (try with_reducible rfl); (try omega))
      · exact fix_val (by rfl) (fun W hW => by subst hW; obtain ⟨d0, d1⟩ := HK9.out; go_simp; (try with_reducible rfl); (try omega))
      · exact fix_val (by rfl) (fun W hW => by subst hW; obtain ⟨d0, d1⟩ := HK9.out; go_simp; (try with_reducible rfl); (try omega))
      · exact fix_val (by rfl) (fun W hW => by subst hW; obtain ⟨d0, d1⟩ := HK9.out; go_simp; (try with_reducible rfl); (try omega))
      · exact fix_val (by rfl) (fun W hW => by subst hW; obtain ⟨d0, d1⟩ := HK9.out; go_simp; (try with_reducible rfl); (try omega))
    case he5 =>
    intro V hV
    obtain ⟨hc3, hg3, st3⟩ := HC3.out
    have bd : Below V3.heap.size V3 V := by rw [hV]; exact (Below.refl _ _).drew
    have hcV := hc3.below bd
    have hgV : GrowA kd kd w V := hg3.trans (GrowA.of_below bd)
    have stV := st3.below bd
    clear hV HK9 HC3 hc3 hg3 st3 bd
    have HWF : Hid ((wsF mac fm (nbAt D fi)).length ≤ 1000) := by
      show _ ≤ _
      unfold wsF nbAt
      rw [List.length_map]
      cases hl : lookD D fi with
      | none => show 0 ≤ 1000; omega
      | some y => have := (hcV.each _ (lookD_mem hl)).2.1.len; show y.ws.length ≤ 1000; dsimp only at this; omega
    have hkb : kd w.heap.size = .no := by
      cases e : kd w.heap.size with
      | no => rfl
      | _ => exact absurd (HFR.out _ (Nat.le_refl _)) (by rw [e]; exact fun e2 => (by cases e2))
    cases ok with
    | true =>
      have hl1 := HOK.out.symm
      have q1 := stV.cell 1 _ rfl
      have q2 := stV.cell 2 _ rfl
      have HLN := (show Hid _ from learn_any hcV fi fm hfi hfm2 (.inl hl1))
      have HCL := (show Hid _ from And.intro hgV (And.intro hkb stV))
      have HD : Hid (takeD ip D fi fm ti t = putD D fi (knX fm t)) := by show _ = _; unfold takeD; rw [if_pos hl1]
      obtain ⟨F5, hF5⟩ : ∃ F5, F5 = wsF mac fm (nbAt D fi) := ⟨_, rfl⟩
      rw [← hF5] at HLN
      have HF : Hid (wsF mac fm (nbAt D fi) = F5) := hF5.symm
      clear hF5 hcV hgV stV hkb hl1
      go_wp2_with fail
      refine Calls.mono HLN.out ?_
      rintro e w5 ⟨kd5, a5, n5, c5, hc5, hg5, rfl, hfs5⟩
      have st5 := HCL.out.2.2.fr hg5.fr (fun e => e HCL.out.2.1)
      have HC5 : Hid _ := And.intro hc5 (And.intro (HCL.out.1.trans hg5) (And.intro (⟨hfs5.ex.choose, hfs5.ex.choose_spec.1, hfs5.ex.choose_spec.2.1.base HCL.out.1.fr.size, hfs5.ex.choose_spec.2.2.1, fun b hb => ⟨(hfs5.ex.choose_spec.2.2.2 b hb).1, fun g off e => ⟨((hfs5.ex.choose_spec.2.2.2 b hb).2 g off e).1, Nat.le_trans HCL.out.1.fr.size ((hfs5.ex.choose_spec.2.2.2 b hb).2 g off e).2.1, ((hfs5.ex.choose_spec.2.2.2 b hb).2 g off e).2.2⟩⟩⟩ : FrsW w5 kd5 w.heap.size a5 n5 c5 _) st5))
      clear hc5 hg5 hfs5 st5 HLN HCL
      go_wp2
      go_ret2
      obtain ⟨hc5, hg5, hfs5, st5⟩ := HC5.out
      exact ⟨kd5, t, _, 0, _, a5, n5, c5, .inr ⟨HEO.out, rfl, HD.out.symm, rfl, by unfold takeF; rw [if_neg (by omega), List.append_nil]; exact HF.out.symm⟩, hc5, hg5, rfl, hfs5⟩
    | false =>
      have HLN0 : Hid (lookD D fi = none) := by
        show _ = _
        cases hl : lookD D fi with
        | none => rfl
        | some y => have := HOK.out; rw [hl] at this; cases this
      have HD : Hid (takeD ip D fi fm ti t = D) := by show _ = _; unfold takeD; rw [HLN0.out, if_neg (by simp), if_neg (fun e => hti2 e.1)]
      have HF : Hid (wsF mac fm (nbAt D fi) = []) := wsF_none HLN0.out
      have HC5 : Hid (CaW V kd p mac ip t lost D ∧ GrowA kd kd w V ∧ FrsW V kd w.heap.size none 0 0 [] ∧ Stc V w.heap.size [.int .i64 op, .int .u64 (fm : Nat), .int .u32 (fi : Nat), .int .u64 (tm : Nat), .int .u32 (ti : Nat)]) := ⟨hcV, hgV, FrsW.nil _ _ _, stV⟩
      clear hcV hgV stV hkb
      go_wp2
      go_ret2
      obtain ⟨hc5, hg5, hfs5, st5⟩ := HC5.out
      exact ⟨kd, t, _, 0, _, none, 0, 0, .inr ⟨HEO.out, rfl, HD.out.symm, rfl, by unfold takeF; rw [if_neg (by omega), List.append_nil]; exact HF.out.symm⟩, hc5, hg5, rfl, hfs5⟩
end Go.Proofs.Ytpmnjfkcffddgaa
