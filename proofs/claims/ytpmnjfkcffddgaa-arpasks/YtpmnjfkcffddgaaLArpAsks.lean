/- The walk of trunklinelaw09.ArpAsks. -/
import Derived.Test.YtpmnjfkcffddgaaArL
namespace Go.Proofs.Ytpmnjfkcffddgaa
open Go.RowKit
/-- Behind j bodies: none is there, or the one that is asked for. -/
def AskS (q : Nat) (D : List (Nat × Nbr)) (j : Nat) : Prop := (j = 0 ∧ D = []) ∨ (0 < j ∧ ∃ x, D = [(q, x)] ∧ x.kn = false ∧ x.at_ = 0 ∧ x.ak = 1 ∧ x.ws.length = j)
theorem put_one (q : Nat) (x y : Nbr) : putD [(q, x)] q y = [(q, y)] := by simp [putD]
theorem look_one (q : Nat) (x : Nbr) : lookD [(q, x)] q = some x := by simp [lookD]
theorem AskS.send {q ip : Nat} {D : List (Nat × Nbr)} {j : Nat} {now' lost' : Int} {D' : List (Nat × Nbr)} {er : Nat} {fs : List (List Nat)} (h : AskS q D j) (hj : j < 4) (hR : SendR 5 ip 0 0 D q [1] 0 now' lost' D' er fs) : AskS q D' (j + 1) ∧ now' = 0 ∧ lost' = 0 := by
  cases hR with
  | bad h1 => exact absurd (by decide) h1
  | full h1 h2 =>
    exfalso
    rcases h with ⟨rfl, rfl⟩ | ⟨hj0, x, rfl, hk, _, _, hl⟩
    · exact absurd h2 (by simp [fullB, nbAt, lookD, zeroNb, roomB])
    · unfold fullB nbAt at h2
      rw [look_one] at h2
      simp at h2
      omega
  | known x h1 h2 h3 =>
    exfalso
    rcases h with ⟨rfl, rfl⟩ | ⟨hj0, y, rfl, hk, _, _, hl⟩
    · cases h2
    · rw [look_one] at h2
      injection h2 with h2
      rw [← h2, hk] at h3
      cases h3
  | wait x g c b h1 h2 h3 h4 h5 =>
    rcases h with ⟨rfl, rfl⟩ | ⟨hj0, y, rfl, hk, ha, hb, hl⟩
    · cases h2
    · rw [look_one] at h2
      injection h2 with h2
      subst h2
      rw [put_one]
      exact ⟨.inr ⟨by omega, _, rfl, hk, ha, hb, by unfold waitX; simp [hl]⟩, rfl, rfl⟩
  | ask g c b h1 h2 h3 h5 =>
    rcases h with ⟨rfl, rfl⟩ | ⟨hj0, y, rfl, hk, ha, hb, hl⟩
    · refine ⟨.inr ⟨by omega, askX (waitX zeroNb g c b) 0, ?_, rfl, rfl, rfl, rfl⟩, rfl, rfl⟩
      rfl
    · rw [look_one] at h2
      cases h2
/-- While time goes by: it is there, and was asked for 'asked' times; or it is gone, with what waited. -/
def AlS (q k : Nat) (D : List (Nat × Nbr)) (lost asked now : Int) : Prop :=
  (∃ x, D = [(q, x)] ∧ x.kn = false ∧ x.ws.length = k ∧ lost = 0 ∧ asked = x.ak ∧ 1 ≤ x.ak ∧ x.ak ≤ 3 ∧ (x.ak = 1 → x.at_ = 0) ∧ 0 ≤ x.at_ ∧ x.at_ ≤ now ∧ now - x.at_ < 10) ∨ (D = [] ∧ lost = k ∧ asked = 3)
theorem AlS.tick {q k ip : Nat} {D : List (Nat × Nbr)} {lost asked now t : Int} (h : AlS q k D lost asked now) (ht : now ≤ t) :
    AlS q k (tickA 5 ip t lost D D.length).D (tickA 5 ip t lost D D.length).lost (asked + (tickA 5 ip t lost D D.length).fs.length) t ∧ (tickA 5 ip t lost D D.length).fs.length ≤ 1 := by
  rcases h with ⟨x, rfl, hk, hw, rfl, rfl, h1, h3, ha, h0, hn, hd⟩ | ⟨rfl, rfl, rfl⟩
  · have e : tickA 5 ip t 0 [(q, x)] [(q, x)].length = tickS 5 ip t ⟨[(q, x)], 0, []⟩ (q, x) := rfl
    rw [e]
    unfold tickS
    have hov : overB t x = (decide (10 ≤ t - x.at_) && decide (3 ≤ x.ak)) := by unfold overB dueB; rw [hk]; simp
    have hdu : dueB t x.kn x.at_ = decide (10 ≤ t - x.at_) := by unfold dueB; rw [hk]; simp
    dsimp only
    rw [hov, hdu]
    by_cases c1 : 10 ≤ t - x.at_
    · by_cases c2 : 3 ≤ x.ak
      · rw [decide_eq_true c1, decide_eq_true c2]
        refine ⟨.inr ⟨by simp [delD], by simp [hw], by simp; omega⟩, by simp⟩
      · rw [decide_eq_true c1, decide_eq_false c2]
        simp only [Bool.and_false, Bool.false_eq_true, if_false, if_true]
        rw [put_one]
        refine ⟨.inl ⟨askX x t, rfl, hk, hw, rfl, by unfold askX; simp, by unfold askX; dsimp only; omega, by unfold askX; dsimp only; omega, fun e => by unfold askX at e; dsimp only at e; omega, by unfold askX; dsimp only; omega, by unfold askX; dsimp only; omega, by unfold askX; dsimp only; omega⟩, by simp⟩
    · rw [decide_eq_false c1]
      simp only [Bool.false_and, Bool.false_eq_true, if_false]
      exact ⟨.inl ⟨x, rfl, hk, hw, rfl, by simp, h1, h3, ha, h0, by omega, by omega⟩, by simp⟩
  · exact ⟨.inr ⟨rfl, rfl, by simp [tickA]⟩, by simp [tickA]⟩
set_option maxRecDepth 100000 in
set_option maxHeartbeats 8000000 in
theorem walk_ArpAsks (q n8 : Nat) (a : Option Addr) (n c : Nat) (zs : List Nat) (w : World) (hq : q < 4294967296) (hn8 : n8 < 256) (hs : Sl w a n c zs ∧ c * 1 ≤ 140737488351232) :
    Calls Try.prog 6 #[.int .u32 (q : Nat), .int .u8 (n8 : Nat), .slice a n c] w fun e w' => e = .returned (.bool true) ∧ Below w.heap.size w w' := by
  obtain ⟨ip, hip⟩ : ∃ ip : Nat, ip = (q + 1) % 4294967296 := ⟨_, rfl⟩
  have hipl : ip < 4294967296 := by rw [hip]; omega
  have hipi : ((q : Int) + 1) % 4294967296 = (ip : Int) := by rw [hip]; omega
  have hipw : IntKind.u32.wrap ((q : Int) + 1) = (ip : Int) := by rw [IntKind.wrap_u32]; exact hipi
  obtain ⟨k, hk⟩ : ∃ k : Nat, k = 1 + n8 % 4 := ⟨_, rfl⟩
  have hk4 : k ≤ 4 := by omega
  have hk0 : 1 ≤ k := by omega
  have hki : (1 : Int) + (n8 : Int) % 4 = (k : Int) := by omega
  have hkt : (1 : Int) + Int.tmod (n8 : Int) 4 = (k : Int) := by rw [Int.tmod_eq_emod_of_nonneg (by omega)]; exact hki
  have hnew := anew_ok 5 ip w (by decide)
  obtain ⟨hs, hcb⟩ := hs
  have hcap := hs.cap
  have HS := (show Hid _ from hs)
  clear hs hcb hip hk
  go_enter Try.func6, Try.ntmps6
  go_wp2_with fail
  refine hnew.mono ?_
  rintro e w1 ⟨rfl, hst1, hb1⟩
  have hc1 := CaW.new hst1 (by decide) hipl
  obtain ⟨kd0, hkd⟩ : ∃ kd0 : Nat → RoleA, kd0 = fun g => if g = w.heap.size then .cache else .no := ⟨_, rfl⟩
  have hkn : ∀ g, g < w.heap.size → kd0 g = .no := fun g hg => by rw [hkd]; exact if_neg (by omega)
  rw [← hkd] at hc1
  have H1 := (show Hid _ from And.intro hc1 (And.intro hkn hb1))
  clear hnew hst1 hb1 hc1 hkd hkn
  go_wp2
  go_loopw [10] (fun u10 wr => ∃ (j : Nat) (kd : Nat → RoleA) (D : List (Nat × Nbr)), j ≤ k ∧ u10 = .int .i64 (j : Nat) ∧ CaW wr kd w.heap.size 5 ip 0 0 D ∧ (∀ g, g < w.heap.size → kd g = .no) ∧ Below w.heap.size w wr ∧ AskS q D j) (fun u10 _ => k - (intOf u10).toNat)
  case atStart => exact ⟨0, kd0, [], by omega, rfl, H1.out.1, H1.out.2.1, H1.out.2.2, .inl ⟨rfl, rfl⟩⟩
  case round =>
    obtain ⟨j, kd, D, hj, rfl, hcw, hkw, hbw, hA⟩ := hrel
    clear H1
    by_cases hjk : j < k
    · have hj1 : (j : Int) < (k : Int) := by omega
      obtain ⟨W, hW⟩ : ∃ W, W = wr.alloc (.cells #[.int .u8 1] 5) := ⟨_, rfl⟩
      have b0 : Below wr.heap.size wr W := by rw [hW]; exact (Below.refl _ _).alloc (Nat.le_refl _) _
      have hsl : Sl W (some ⟨wr.heap.size, 0, none⟩) 1 1 [1] := by rw [hW]; exact sl_one wr 5 1 1 rfl (by decide)
      have HSD := (show Hid _ from send_any (hcw.below b0) (by omega) (by omega) q hq hsl (fun _ b off e => by cases e; exact hcw.fresh _ (Nat.le_refl _)) 0)
      have HX := (show Hid _ from And.intro hkw (And.intro hbw (And.intro b0 hA)))
      clear hcw hkw hbw hA b0 hsl
      go_wp2_with fail
      rw [← hW]
      clear hW
      refine Calls.mono HSD.out ?_
      rintro e w2 ⟨kd2, now2, lost2, D2, er2, fs2, a2, n2, c2, hR, hc2, hg2, rfl, hf2⟩
      obtain ⟨hkw, hbw, b0, hA⟩ := HX.out
      obtain ⟨hA2, rfl, rfl⟩ := hA.send (by omega) hR
      have hbW := hbw.trans (b0.mono hbw.size)
      have hbl := hg2.bel w.heap.size hbW.size hkw
      have HZ := (show Hid _ from And.intro hc2 (And.intro hbl.2 (And.intro (hbW.trans hbl.1) hA2)))
      clear hR hc2 hg2 hf2 hkw hbw b0 hA hA2 hbW hbl HSD HX
      go_wp2
      go_roundw
      case rel => exact ⟨j + 1, kd2, D2, by omega, by go_num, HZ.out⟩
      case measure => simp [intOf]; omega
    · obtain rfl : j = k := by omega
      have HZ := (show Hid _ from And.intro hcw (And.intro hkw (And.intro hbw hA)))
      clear hcw hkw hbw hA
      obtain ⟨w2, hw2⟩ : ∃ w2, w2 = wr := ⟨_, rfl⟩
      rw [← hw2] at HZ
      subst hw2
      go_wp2
      go_loopw [11, 12, 13] (fun u11 u12 u13 wr => ∃ (i : Nat) (now asked : Int) (kd : Nat → RoleA) (lost : Int) (D : List (Nat × Nbr)), i ≤ n ∧ i ≤ 100 ∧ u13 = .int .i64 (i : Nat) ∧ u11 = .int .i64 now ∧ u12 = .int .i64 asked ∧ CaW wr kd w.heap.size 5 ip now lost D ∧ (∀ g, g < w.heap.size → kd g = .no) ∧ Below w.heap.size w wr ∧ 0 ≤ now ∧ now ≤ 25 * i ∧ AlS q j D lost asked now) (fun _ _ u13 _ => n - (intOf u13).toNat)
      case atStart =>
        obtain ⟨hcw, hkw, hbw, hA⟩ := HZ.out
        refine ⟨0, 0, 1, kd, 0, D, by omega, by omega, rfl, rfl, rfl, hcw, hkw, hbw, by omega, by omega, ?_⟩
        rcases hA with ⟨h0, _⟩ | ⟨_, x, h1, h2, h3, h4, h5⟩
        · omega
        · exact .inl ⟨x, h1, h2, h5, rfl, h4.symm, by omega, by omega, fun _ => h3, by omega, by omega, by omega⟩
      case round =>
        obtain ⟨i, now, asked, kd, lost, D, hi, hi1, rfl, rfl, rfl, hcw, hkw, hbw, hn0, hn1, hA⟩ := hrel
        clear HZ
        have hask : 1 ≤ asked ∧ asked ≤ 3 := by
          rcases hA with ⟨x, _, _, _, _, rfl, h1, h2, _⟩ | ⟨_, _, rfl⟩
          · exact ⟨h1, h2⟩
          · omega
        have hlost : 0 ≤ lost ∧ lost ≤ 4 := by
          rcases hA with ⟨x, _, _, _, rfl, _⟩ | ⟨_, rfl, _⟩ <;> omega
        by_cases hlt : i < n ∧ i < 100
        · have hi2 : (i : Int) < (n : Int) := by omega
          have hi3 : (i : Int) < 100 := by omega
          rcases HS.out.at_ with h0 | ⟨b, off, rfl, hlt2, hcell⟩
          · omega
          have cz := (hbw.cell (p := ⟨b, off + i, none⟩) hlt2).trans (hcell i (by omega))
          have hzb := HS.out.bnd i
          obtain ⟨z, hz⟩ : ∃ z, z = zs.getD i 0 := ⟨_, rfl⟩
          rw [← hz] at cz hzb
          obtain ⟨t, ht⟩ : ∃ t : Int, t = now + (z : Int) % 25 := ⟨_, rfl⟩
          have htt : now + Int.tmod (z : Int) 25 = t := by rw [Int.tmod_eq_emod_of_nonneg (by omega), ht]
          have ht' : now + (z : Int) % 25 = t := ht.symm
          have ht0 : now ≤ t := by omega
          have ht1 : t ≤ 25 * (i + 1) := by omega
          have htw : IntKind.i64.wrap t = t := by rw [IntKind.wrap_i64]; omega
          have HTI := (show Hid _ from tick_any hcw hlost.1 (by omega) t)
          have HX := (show Hid _ from And.intro hkw (And.intro hbw hA))
          clear hcw hkw hbw hA hcell hz ht
          go_wp2_with fail
          refine Calls.mono HTI.out ?_
          rintro e w3 ⟨kd2, now2, lost2, D2, er2, fs2, a2, n2, c2, hR, hc3, hg2, rfl, hf2⟩
          obtain ⟨hkw, hbw, hA⟩ := HX.out
          have hok : atkE now t = 0 := by unfold atkE; rw [if_neg (by omega), if_neg (by omega)]
          rcases hR with ⟨h1, _⟩ | ⟨_, rfl, hl2, hd2, rfl, hf3⟩
          · exact absurd hok h1
          obtain ⟨hA2, hfl⟩ := hA.tick (ip := ip) ht0
          rw [← hd2, ← hl2, ← hf3] at hA2
          rw [← hf3] at hfl
          have hn2 := hf2.len
          rw [← hn2] at hA2 hfl
          have hbl := hg2.bel w.heap.size hbw.size hkw
          have hb3 : Below w.heap.size w w3 := hbw.trans hbl.1
          have hk3 := hbl.2
          have hAA := hA2
          have hfl1 : ¬ (1 : Int) < (n2 : Int) := by omega
          have hask2 : ¬ (3 : Int) < asked + (n2 : Int) := by
            rcases hA2 with ⟨x, _, _, _, _, h5, _, h7, _⟩ | ⟨_, _, h3⟩ <;> omega
          have hasw : IntKind.i64.wrap (asked + (n2 : Int)) = asked + (n2 : Int) := by rw [IntKind.wrap_i64]; omega
          clear hg2 hf2 hl2 hd2 hf3 hbl hkw hbw hA HTI HX hok hn2
          rcases hA2 with ⟨x, hD, _, _, hlo, h5, _⟩ | ⟨hD, hlo, hs3⟩
          · clear h5
            have hln : D2.length = 1 := by rw [hD]; rfl
            subst hlo
            have hjn : ((0 : Int) == (j : Int)) = false := by simp; omega
            have hjn2 : ¬ (0 : Int) = (j : Int) := by omega
            have HTB := (show Hid _ from table_any hc3)
            have HL3 : Hid (D2.length = 1) := hln
            clear hln
            have HY := (show Hid _ from And.intro hc3 (And.intro hk3 (And.intro hb3 hAA)))
            clear hc3 hk3 hb3 hAA hD
            go_wp2_with fail
            refine Calls.mono HTB.out ?_
            rintro e w4 ⟨⟨a4, c4, rfl, ho4⟩, hb4⟩
            rw [HL3.out]
            obtain ⟨hc3, hk3, hb3, hAA⟩ := HY.out
            have hc4 := hc3.below hb4
            obtain ⟨nv4, hst4, _⟩ := hc4.looks
            have HLO := (show Hid _ from alost_any hst4)
            have HZ4 := (show Hid _ from And.intro hc4 (And.intro hk3 (And.intro (hb3.trans (hb4.mono hb3.size)) hAA)))
            clear ho4 hb4 hc3 hk3 hb3 hAA hc4 hst4 HTB HY
            go_wp2_with fail
            refine Calls.mono HLO.out ?_
            rintro e w5 ⟨rfl, hb5⟩
            have HB5 := (show Hid _ from hb5)
            clear hb5 HLO
            go_wp2
            go_roundw
            case rel =>
              obtain ⟨hc4, hk4, hb4, hAA⟩ := HZ4.out
              have hb5 := HB5.out
              exact ⟨i + 1, now2, asked + n2, kd2, _, D2, by omega, by omega, by go_num, rfl, rfl, hc4.below hb5, hk4, hb4.trans (hb5.mono hb4.size), by omega, by omega, hAA⟩
            case measure => simp [intOf]; omega
          · have hln : D2.length = 0 := by rw [hD]; rfl
            subst hlo
            have hjn : ((j : Int) == (j : Int)) = true := by simp
            have h33 : ((asked + (n2 : Int)) == 3) = true := by simp; omega
            have h34 : ((asked + (n2 : Int)) != 3) = false := by simp; omega
            clear hs3
            have HTB := (show Hid _ from table_any hc3)
            have HL3 : Hid (D2.length = 0) := hln
            clear hln
            have HY := (show Hid _ from And.intro hc3 (And.intro hk3 (And.intro hb3 hAA)))
            clear hc3 hk3 hb3 hAA hD
            go_wp2_with fail
            refine Calls.mono HTB.out ?_
            rintro e w4 ⟨⟨a4, c4, rfl, ho4⟩, hb4⟩
            rw [HL3.out]
            obtain ⟨hc3, hk3, hb3, hAA⟩ := HY.out
            have hc4 := hc3.below hb4
            obtain ⟨nv4, hst4, _⟩ := hc4.looks
            have HLO := (show Hid _ from alost_any hst4)
            have HZ4 := (show Hid _ from And.intro hc4 (And.intro hk3 (And.intro (hb3.trans (hb4.mono hb3.size)) hAA)))
            clear ho4 hb4 hc3 hk3 hb3 hAA hc4 hst4 HTB HY
            go_wp2_with fail
            refine Calls.mono HLO.out ?_
            rintro e w5 ⟨rfl, hb5⟩
            have HB5 := (show Hid _ from hb5)
            clear hb5 HLO
            go_wp2
            go_roundw
            case rel =>
              obtain ⟨hc4, hk4, hb4, hAA⟩ := HZ4.out
              have hb5 := HB5.out
              exact ⟨i + 1, now2, asked + n2, kd2, _, D2, by omega, by omega, by go_num, rfl, rfl, hc4.below hb5, hk4, hb4.trans (hb5.mono hb4.size), by omega, by omega, hAA⟩
            case measure => simp [intOf]; omega
        · have HL9 := (show Hid _ from live9_any wr)
          obtain ⟨nv4, hst4, _⟩ := hcw.looks
          have HFIN : Hid (now < 30 ∨ 1 < asked ∨ lost = (j : Int)) := by
            rcases hA with ⟨x, _, _, _, _, rfl, h1, _, h2, _, _, h3⟩ | ⟨_, rfl, _⟩
            · by_cases e : x.ak = 1
              · have := h2 e; exact .inl (by omega)
              · exact .inr (.inl (by omega))
            · exact .inr (.inr rfl)
          have HX := (show Hid _ from And.intro hbw hcw)
          clear hbw hkw hA hcw hst4
          by_cases hin : (i : Int) < (n : Int)
          · have hi3 : ¬ (i : Int) < 100 := by omega
            go_wp2_with fail
            refine Calls.mono HL9.out ?_
            rintro e w5 ⟨rfl, hb5⟩
            have HB5 := (show Hid _ from HX.out.1.trans (hb5.mono HX.out.1.size))
            have hc5 := HX.out.2.below hb5
            obtain ⟨nv5, hst5, _⟩ := hc5.looks
            have HLO := (show Hid _ from alost_any hst5)
            clear hb5 hc5 hst5 HL9 HX
            by_cases h30 : now < 30
            · go_wp2
              go_ret
              exact ⟨rfl, HB5.out⟩
            · by_cases ha1 : 1 < asked
              · go_wp2
                go_ret
                exact ⟨rfl, HB5.out⟩
              · have hjj : (lost == (j : Int)) = true := by simp; rcases HFIN.out with e | e | e <;> omega
                go_wp2_with fail
                refine Calls.mono HLO.out ?_
                rintro e w6 ⟨rfl, hb6⟩
                have HB6 := (show Hid _ from HB5.out.trans (hb6.mono HB5.out.size))
                clear hb6
                go_wp2
                go_ret
                exact ⟨rfl, HB6.out⟩
          · go_wp2_with fail
            refine Calls.mono HL9.out ?_
            rintro e w5 ⟨rfl, hb5⟩
            have HB5 := (show Hid _ from HX.out.1.trans (hb5.mono HX.out.1.size))
            have hc5 := HX.out.2.below hb5
            obtain ⟨nv5, hst5, _⟩ := hc5.looks
            have HLO := (show Hid _ from alost_any hst5)
            clear hb5 hc5 hst5 HL9 HX
            by_cases h30 : now < 30
            · go_wp2
              go_ret
              exact ⟨rfl, HB5.out⟩
            · by_cases ha1 : 1 < asked
              · go_wp2
                go_ret
                exact ⟨rfl, HB5.out⟩
              · have hjj : (lost == (j : Int)) = true := by simp; rcases HFIN.out with e | e | e <;> omega
                go_wp2_with fail
                refine Calls.mono HLO.out ?_
                rintro e w6 ⟨rfl, hb6⟩
                have HB6 := (show Hid _ from HB5.out.trans (hb6.mono HB5.out.size))
                clear hb6
                go_wp2
                go_ret
                exact ⟨rfl, HB6.out⟩
end Go.Proofs.Ytpmnjfkcffddgaa
