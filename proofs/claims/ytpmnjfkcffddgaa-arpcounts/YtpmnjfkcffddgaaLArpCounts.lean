/- The walk of trunklinelaw09.ArpCounts. -/
import Derived.Test.YtpmnjfkcffddgaaArN
import Derived.Test.YtpmnjfkcffddgaaDeedA
import Derived.Deep.CutBlock
import Derived.Deep.CutRange
namespace Go.Proofs.Ytpmnjfkcffddgaa
open Go.RowKit
theorem sumD_take {α : Type} (f : α → Nat) : ∀ (D : List (Nat × α)) (i : Nat) (y : Nat × α), D[i]? = some y → sumD f (D.take (i + 1)) = sumD f (D.take i) + f y.2 := by
  intro D
  induction D with
  | nil => intro i y h; simp at h
  | cons p D ih =>
    intro i y h
    cases i with
    | zero => simp at h; subst h; simp [sumD]
    | succ i =>
      simp at h
      have := ih i y h
      rw [List.take_succ_cons, List.take_succ_cons]
      simp only [sumD]
      omega
theorem sumD_take_le {α : Type} (f : α → Nat) : ∀ (D : List (Nat × α)) (i : Nat), sumD f (D.take i) ≤ sumD f D := by
  intro D
  induction D with
  | nil => intro i; simp
  | cons p D ih =>
    intro i
    cases i with
    | zero => simp [sumD]
    | succ i => rw [List.take_succ_cons]; simp only [sumD]; have := ih i; omega
/-- Behind a call: frames are told, and no body was lost sight of. k: 1 if a body came in. -/
structure CutC (w wc : World) (ip : Nat) (inn out : Int) (a : Option Addr) (n c : Nat) (kd : Nat → RoleA) (now lost : Int) (D : List (Nat × Nbr)) (fs : List (List Nat)) : Prop where
  ca : CaW wc kd w.heap.size 5 ip now lost D
  no : ∀ g, g < w.heap.size → kd g = .no
  bel : Below w.heap.size w wc
  fr : FrsW wc kd w.heap.size a n c fs
  ok : okFs 5 fs
  eq : inn = out + cntF fs + wtD D + lost
  l0 : 0 ≤ lost
  len : fs.length ≤ 1000
theorem send_lost {mac ip : Nat} {now lost : Int} {D : List (Nat × Nbr)} {q : Nat} {zs : List Nat} {t now' lost' : Int} {D' : List (Nat × Nbr)} {er : Nat} {fs : List (List Nat)} (h : SendR mac ip now lost D q zs t now' lost' D' er fs) : lost ≤ lost' := by cases h <;> omega
theorem send_len {mac ip : Nat} {now lost : Int} {D : List (Nat × Nbr)} {q : Nat} {zs : List Nat} {t now' lost' : Int} {D' : List (Nat × Nbr)} {er : Nat} {fs : List (List Nat)} (h : SendR mac ip now lost D q zs t now' lost' D' er fs) : fs.length ≤ 1 := by cases h <;> simp
theorem take_all {mac ip : Nat} {now now' : Int} {D D' : List (Nat × Nbr)} {op : Int} {fm fi ti : Nat} {t : Int} {er : Nat} {fs : List (List Nat)} (h : (takeE now t ip fi fm ≠ 0 ∧ now' = now ∧ D' = D ∧ er = takeE now t ip fi fm ∧ fs = []) ∨ (takeE now t ip fi fm = 0 ∧ now' = t ∧ D' = takeD ip D fi fm ti t ∧ er = 0 ∧ fs = takeF mac ip D op fm fi ti)) (hp : PuOk D) (hs : Srt D) (hm : mac < 281474976710655) (h4 : ∀ y ∈ D, y.2.ws.length ≤ 4) :
    okFs mac fs ∧ wtD D = cntF fs + wtD D' ∧ fs.length ≤ 1000 := by
  rcases h with ⟨_, _, rfl, _, rfl⟩ | ⟨he, _, rfl, _, rfl⟩
  · exact ⟨okFs_nil _, by simp [cntF], by simp⟩
  · obtain ⟨h1, h2⟩ := take_cnt (ip := ip) (op := op) (fi := fi) (ti := ti) (t := t) hp hs hm (takeE_ok he).2.2
    refine ⟨h1, h2, ?_⟩
    unfold takeF wsF nbAt
    rw [List.length_append, List.length_map]
    have : (if ti = ip ∧ op = 1 then [epV fm mac 2054 (arpB 2 mac ip fm fi)] else []).length ≤ 1 := by split <;> simp
    cases hl : lookD D fi with
    | none => show 0 + _ ≤ _; omega
    | some x => have := h4 _ (lookD_mem hl); show x.ws.length + _ ≤ _; dsimp only at this; omega
theorem tick_all {mac ip : Nat} {now now' lost lost' : Int} {D D' : List (Nat × Nbr)} {t : Int} {er : Nat} {fs : List (List Nat)} (h : (atkE now t ≠ 0 ∧ now' = now ∧ lost' = lost ∧ D' = D ∧ er = atkE now t ∧ fs = []) ∨ (atkE now t = 0 ∧ now' = t ∧ lost' = (tickA mac ip t lost D D.length).lost ∧ D' = (tickA mac ip t lost D D.length).D ∧ er = 0 ∧ fs = (tickA mac ip t lost D D.length).fs)) (hs : Srt D) (hl : D.length ≤ 8) (hm : mac < 281474976710655 := by decide) :
    okFs mac fs ∧ (wtD D : Int) + lost = cntF fs + wtD D' + lost' ∧ lost ≤ lost' ∧ fs.length ≤ 1000 := by
  rcases h with ⟨_, _, rfl, rfl, _, rfl⟩ | ⟨he, _, rfl, rfl, _, rfl⟩
  · exact ⟨okFs_nil _, by simp [cntF], by omega, by simp⟩
  · obtain ⟨h1, h2, h3⟩ := tick_cnt (ip := ip) (t := t) (lost := lost) hs hm D.length (Nat.le_refl _)
    obtain ⟨_, _, k3, k4, _⟩ := tick_keep (mac := mac) (ip := ip) (t := t) (lost := lost) hs D.length (Nat.le_refl _)
    exact ⟨h1, by rw [h2]; omega, k4, by omega⟩
set_option maxRecDepth 100000 in
set_option maxHeartbeats 8000000 in
theorem walk_ArpCounts (ip : Nat) (a : Option Addr) (n c : Nat) (dd : List Dd9) (w : World) (hip : ip < 4294967296) (hs : SlDA w a n c dd) :
    Calls Try.prog 4 #[.int .u32 (ip : Nat), .slice a n c] w fun e w' => e = .returned (.bool true) ∧ Below w.heap.size w w' := by
  have hnew := anew_ok 5 ip w (by decide)
  have hlen := hs.len
  have hcap := hs.cap
  have HS := (show Hid _ from hs)
  have HL := (show Hid _ from hlen)
  clear hs hlen
  go_enter Try.func4, Try.ntmps4
  go_wp2_with fail
  refine hnew.mono ?_
  rintro e w1 ⟨rfl, hst1, hb1⟩
  have hc1 := CaW.new hst1 (by decide) hip
  obtain ⟨kd0, hkd⟩ : ∃ kd0 : Nat → RoleA, kd0 = fun g => if g = w.heap.size then .cache else .no := ⟨_, rfl⟩
  have hk0 : ∀ g, g < w.heap.size → kd0 g = .no := fun g hg => by rw [hkd]; exact if_neg (by omega)
  rw [← hkd] at hc1
  have H1 := (show Hid _ from And.intro hc1 (And.intro hk0 hb1))
  clear hnew hst1 hb1 hc1 hkd hk0
  go_wp2
  go_loopw [7, 8, 9] (fun u7 u8 u9 wr => ∃ (i : Nat) (inn out : Int) (kd : Nat → RoleA) (now lost : Int) (D : List (Nat × Nbr)), i ≤ n ∧ i ≤ 300 ∧ u9 = .int .i64 (i : Nat) ∧ u7 = .int .i64 inn ∧ u8 = .int .i64 out ∧ CaW wr kd w.heap.size 5 ip now lost D ∧ (∀ g, g < w.heap.size → kd g = .no) ∧ Below w.heap.size w wr ∧ 0 ≤ lost ∧ 0 ≤ out ∧ 0 ≤ inn ∧ inn ≤ i ∧ inn = out + wtD D + lost) (fun _ _ u9 _ => n - (intOf u9).toNat)
  case atStart => exact ⟨0, 0, 0, kd0, 0, 0, [], by omega, by omega, rfl, rfl, rfl, H1.out.1, H1.out.2.1, H1.out.2.2, by omega, by omega, by omega, by omega, rfl⟩
  case round =>
    obtain ⟨i, inn, out, kd, now, lost, D, hi, hi3, rfl, rfl, rfl, hcw, hkw, hbw, hl0, ho0, hin0, hin1, heq⟩ := hrel
    have hll : lost ≤ 300 := by omega
    have hol : out ≤ 300 := by omega
    have HEQ := (show Hid _ from heq)
    have HC := (show Hid _ from And.intro hcw (And.intro hkw hbw))
    clear hcw hkw hbw H1 heq
    by_cases hlt : i < n ∧ i < 300
    · have hi1 : (i : Int) < (n : Int) := by omega
      have hi2 : (i : Int) < 300 := by omega
      obtain ⟨x, hx⟩ : ∃ x, dd[i]? = some x := ⟨_, List.getElem?_eq_getElem (by have := HL.out; omega)⟩
      obtain ⟨hcw, hkw, hbw⟩ := HC.out
      rcases HS.out.at_ with h0 | ⟨b, off, rfl, hlt2, hcell⟩
      · omega
      have hcx := hcell i x hx
      have hxw := HS.out.wf x (List.mem_of_getElem? hx)
      obtain ⟨op, tt, bA, bN, bC, bZ, kop, kfm, kfi, ktm, kti, tk⟩ := x
      unfold Dd9.Wf at hxw
      unfold Dd9.vals at hcx
      dsimp only at hxw hcx
      obtain ⟨_, hto, hbs, _, hkfm, hkfi, hktm, hkti, _⟩ := hxw
      have HCX : Hid (∀ wq, Below w.heap.size w wq → ∀ j v, ([.int .i64 op, .int .u32 (tt : Nat), .slice bA bN bC, .int .i64 kop, .int .u64 (kfm : Nat), .int .u32 (kfi : Nat), .int .u64 (ktm : Nat), .int .u32 (kti : Nat), .int .i64 tk] : List Value)[j]? = some v → wq.cell? ⟨b, off + i * 9 + j, none⟩ = some v) := fun wq hb j v hj => (hb.cell (p := ⟨b, off + i * 9 + j, none⟩) hlt2).trans (hcx j v hj)
      have q0 := HCX.out wr hbw 0 _ rfl
      rw [Nat.add_zero] at q0
      have q1 := HCX.out wr hbw 1 _ rfl
      have q2 := HCX.out wr hbw 2 _ rfl
      have q3 := HCX.out wr hbw 3 _ rfl
      have q4 := HCX.out wr hbw 4 _ rfl
      have q5 := HCX.out wr hbw 5 _ rfl
      have q6 := HCX.out wr hbw 6 _ rfl
      have q7 := HCX.out wr hbw 7 _ rfl
      have q8 := HCX.out wr hbw 8 _ rfl
      have HBS : Hid (∀ wq, Below w.heap.size w wq → SlK .u8 256 wq bA bN bC bZ) := fun wq hb => hbs.1.below hb
      have HBK : Hid (∀ g o, 0 < bN → bA = some ⟨g, o, none⟩ → kd g = .no) := fun g o hn e => hkw g (hbs.1.lt g o hn e)
      have HPU : Hid (PuOk D ∧ Srt D) := ⟨hcw.pure, hcw.srt⟩
      have HL4 : Hid (∀ y ∈ D, y.2.ws.length ≤ 4) := fun y hy => (hcw.each y hy).2.1.len
      clear hcell hcx hbs hx hcw hkw hbw
      go_upto_block 2 with fail
      go_cut [7, 10, 11] from 28 to 132 (fun u7 u10 u11 wc => ∃ (inn2 : Int) (a2 : Option Addr) (n2 c2 : Nat) (kd2 : Nat → RoleA) (now2 lost2 : Int) (D2 : List (Nat × Nbr)) (fs2 : List (List Nat)), u7 = .int .i64 inn2 ∧ u10 = .slice a2 n2 c2 ∧ inn ≤ inn2 ∧ inn2 ≤ inn + 1 ∧ CutC w wc ip inn2 out a2 n2 c2 kd2 now2 lost2 D2 fs2)
      case rest =>
        obtain ⟨inn2, a2, n2, c2, kd2, now2, lost2, D2, fs2, rfl, rfl, hi20, hi21, hcu⟩ := hcut
        have hcn : (cntF fs2 : Int) ≤ 301 := by have := hcu.eq; have := hcu.l0; omega
        have hwt : (wtD D2 : Int) ≤ 301 := by have := hcu.eq; have := hcu.l0; omega
        have hlo : lost2 ≤ 301 := by have := hcu.eq; have := hcu.l0; omega
        have hn2 : n2 ≤ 1000 := by rw [hcu.fr.len]; exact hcu.len
        have HBO := (show Hid _ from bodies_any hcu.fr hcu.ok hn2)
        have HCU := (show Hid _ from hcu)
        obtain ⟨cn, hcn'⟩ : ∃ cn, cn = cntF fs2 := ⟨_, rfl⟩
        rw [← hcn'] at hcn HBO
        have HCN := (show Hid _ from hcn')
        clear hcu hcn' q0 q1 q2 q3 q4 q5 q6 q7 q8 HCX HBS HBK HC
        go_wp2_with fail
        refine Calls.mono HBO.out ?_
        rintro e w3 ⟨rfl, hb3⟩
        have hc3 := HCU.out.ca.below hb3
        have HTB := (show Hid _ from table_any hc3)
        have HB3 := (show Hid _ from And.intro hc3 hb3)
        have how : IntKind.i64.wrap (out + (cn : Int)) = out + (cn : Int) := by rw [IntKind.wrap_i64]; omega
        clear hc3 hb3 HBO
        go_wp2_with fail
        refine Calls.mono HTB.out ?_
        rintro e w4 ⟨⟨a4, c4, rfl, ho4⟩, hb4⟩
        clear HTB
        have hm8 := HB3.out.1.len
        have hcp4 := ho4.cap.1
        have HO4 := (show Hid _ from And.intro ho4 hb4)
        obtain ⟨m, hm⟩ : ∃ m, m = D2.length := ⟨_, rfl⟩
        rw [← hm] at hm8 hcp4 HO4 ⊢
        have HM := (show Hid _ from hm)
        clear hm ho4 hb4
        go_wp2
        go_loopw [14, 16] (fun u14 u16 wq => ∃ k : Nat, k ≤ m ∧ u16 = .int .i64 (k : Nat) ∧ u14 = .int .i64 (wtD (D2.take k) : Nat) ∧ wq = w4) (fun _ u16 _ => m - (intOf u16).toNat)
        case atStart => exact ⟨0, by omega, rfl, rfl, rfl⟩
        case round =>
          obtain ⟨k, hk, rfl, rfl, hq⟩ := hrel
          have hwl : (wtD (D2.take k) : Int) ≤ 301 := by have := sumD_take_le (fun x : Nbr => x.ws.length) D2 k; unfold wtD at *; omega
          by_cases hkm : k < m
          · have hk1 : (k : Int) < (m : Int) := by omega
            obtain ⟨y, hy⟩ : ∃ y, D2[k]? = some y := ⟨_, List.getElem?_eq_getElem (by have := HM.out; omega)⟩
            have HTK : Hid (wtD (D2.take (k + 1)) = wtD (D2.take k) + y.2.ws.length) := sumD_take _ D2 k y hy
            have hle2 : y.2.ws.length ≤ 4 := (HB3.out.1.each y (List.mem_of_getElem? hy)).2.1.len
            obtain ⟨ho4, hb4⟩ := HO4.out
            obtain ⟨g, rfl, _, hgl, hnc, _, hcl, _⟩ := OwnG.at_ ho4 (fun _ => rfl) (by omega)
            have c3 := hcl k y hy 3 _ rfl
            rw [← hq] at c3
            obtain ⟨L, hL⟩ : ∃ L, L = y.2.ws.length := ⟨_, rfl⟩
            rw [← hL] at c3 HTK hle2
            obtain ⟨s0, hs0⟩ : ∃ s0, s0 = wtD (D2.take k) := ⟨_, rfl⟩
            rw [← hs0] at HTK hwl ⊢
            have HQ := (show Hid _ from hq)
            clear hcl ho4 hb4 hy hL hs0 hq
            go_wp2
            go_roundw
            case rel => exact ⟨k + 1, by omega, by go_num, by rw [HTK.out]; go_num, HQ.out⟩
            case measure => simp [intOf]; omega
          · obtain rfl : k = m := by omega
            have ht : D2.take k = D2 := List.take_of_length_le (by have := HM.out; omega)
            rw [ht]
            clear hwl
            subst hq
            have hb4 := HO4.out.2
            have hc4 := HB3.out.1.below hb4
            obtain ⟨nv4, hst4, _⟩ := hc4.looks
            have HLO := (show Hid _ from alost_any hst4)
            have HB4 : Hid (Below w.heap.size w wr) := HCU.out.bel.trans ((HB3.out.2.trans (hb4.mono HB3.out.2.size)).mono HCU.out.bel.size)
            have HC4 := (show Hid _ from hc4)
            have hl20 := HCU.out.l0
            have heq2 := HCU.out.eq
            rw [← HCN.out] at heq2
            obtain ⟨wt, hwtt⟩ : ∃ wt, wt = wtD D2 := ⟨_, rfl⟩
            rw [← hwtt] at heq2 hwt ⊢
            have HWT := (show Hid _ from hwtt)
            clear hwtt hb4 hc4 hst4 ht
            have e1 : IntKind.i64.wrap (out + (cn : Int) + (wt : Int)) = out + (cn : Int) + (wt : Int) := by rw [IntKind.wrap_i64]; omega
            have e2 : IntKind.i64.wrap (out + (cn : Int) + (wt : Int) + lost2) = out + (cn : Int) + (wt : Int) + lost2 := by rw [IntKind.wrap_i64]; omega
            have HE2 := (show Hid _ from heq2)
            have e3 : (inn2 == out + (cn : Int) + (wt : Int) + lost2) = true := by rw [heq2]; simp
            have e4 : (inn2 != out + (cn : Int) + (wt : Int) + lost2) = false := by rw [heq2]; simp
            clear heq2
            go_wp2_with fail
            refine Calls.mono HLO.out ?_
            rintro e w5 ⟨rfl, hb5⟩
            have HB5 := (show Hid _ from hb5)
            clear hb5
            go_wp2
            go_roundw
            case rel =>
              have hb5 := HB5.out
              refine ⟨i + 1, inn2, out + cn, kd2, now2, lost2, D2, by omega, by omega, by go_num, rfl, rfl, HC4.out.below hb5, HCU.out.no, HB4.out.trans (hb5.mono HB4.out.size), hl20, by omega, by omega, by omega, ?_⟩
              rw [← HWT.out]; exact HE2.out
            case measure => simp [intOf]; omega
      case first =>
        by_cases h0 : op = 0
        · subst h0
          have HSD := (show Hid _ from send_any (HC.out.1.below (Below.refl _ _).drew) hl0 (by omega) tt hto (HBS.out _ (HC.out.2.2.trans ((Below.refl _ _).drew.mono HC.out.2.2.size))) (fun hn g o e => HBK.out g o hn e) tk)
          have HKC : Hid (wr.drew.cell? ⟨b, off + i * 9 + 1, none⟩ = some (.int .u32 (tt : Nat)) ∧ wr.drew.cell? ⟨b, off + i * 9 + 2, none⟩ = some (.slice bA bN bC) ∧ wr.drew.cell? ⟨b, off + i * 9 + 8, none⟩ = some (.int .i64 tk)) := ⟨q1, q2, q8⟩
          go_wp2_with fail
          clear q0 q1 q2 q3 q4 q5 q6 q7 q8
          refine wp_region_parW mixedX (fun θ : Option Addr × Nat × Nat × Nat => [(56, .pointer (some ⟨w.heap.size, 0, none⟩)), (57, .slice (some ⟨b, off, none⟩) n c), (58, .int .i64 (i : Nat)), (59, .pointer (some ⟨b, off + i * 9, none⟩)), (60, .pointer (some ⟨b, off + i * 9 + 1, none⟩)), (61, .int .u32 (tt : Nat)), (62, .slice (some ⟨b, off, none⟩) n c), (63, .int .i64 (i : Nat)), (64, .pointer (some ⟨b, off + i * 9, none⟩)), (65, .pointer (some ⟨b, off + i * 9 + 2, none⟩)), (66, .slice bA bN bC), (67, .slice (some ⟨b, off, none⟩) n c), (68, .int .i64 (i : Nat)), (69, .pointer (some ⟨b, off + i * 9, none⟩)), (70, .pointer (some ⟨b, off + i * 9 + 8, none⟩)), (71, .int .i64 tk), (72, .tuple #[.slice θ.1 θ.2.1 θ.2.2.1, .int .i64 (θ.2.2.2 : Nat)]), (55, .tuple #[.slice θ.1 θ.2.1 θ.2.2.1, .int .i64 (θ.2.2.2 : Nat)]), (73, .slice θ.1 θ.2.1 θ.2.2.1), (74, .int .i64 (θ.2.2.2 : Nat)), (10, .slice θ.1 θ.2.1 θ.2.2.1), (11, .int .i64 (θ.2.2.2 : Nat))]) (fun θ l V => (l 16 = false → V = wr.drew) ∧ (l 16 = true → (fun θ V => ∃ kd2 now2 lost2 D2 fs2, SendR 5 ip now lost D tt bZ tk now2 lost2 D2 θ.2.2.2 fs2 ∧ CaW V kd2 w.heap.size 5 ip now2 lost2 D2 ∧ GrowA kd kd2 wr.drew V ∧ FrsW V kd2 wr.drew.heap.size θ.1 θ.2.1 θ.2.2.1 fs2) θ V)) (none, 0, 0, 0) ?Z1 ?hZ1 (by kernel_rfl) (by kernel_rfl) (fun θ => by kernel_rfl) (by kernel_rfl) ?h01 ?hops1 ?he1
          case hZ1 => intro θ; simp only [List.foldl_cons, List.foldl_nil, List.setIfInBounds_toArray, List.set_cons_zero, List.set_cons_succ]; rfl
          case h01 => exact ⟨fun _ => rfl, fun e => (by cases e)⟩
          case hops1 =>
            refine ⟨?_, ?_, ?_, ?_, ?_, ?_, ?_, ?_, ?_, ?_, ?_, ?_, ?_, ?_, ?_, ?_, ?_, ?_, ?_, ?_, ?_, ?_, trivial⟩
            · exact par_val (fun θ => by rfl) (fun θ l V hg => ⟨fun e => hg.1 (by simpa [updL] using e), fun e => hg.2 (by simpa [updL] using e)⟩) (fun θ l V hl hc hd hg => by have hcF : l 16 = false := (by cases h : l 16 with | false => rfl | true => exact absurd (hc 16 0 (by kernel_rfl) h) (by rw [hl]; decide)); obtain rfl := hg.1 hcF; obtain ⟨d0, d1, d2⟩ := HKC.out; go_simp; (try with_reducible rfl); (try omega))
            · exact par_val (fun θ => by rfl) (fun θ l V hg => ⟨fun e => hg.1 (by simpa [updL] using e), fun e => hg.2 (by simpa [updL] using e)⟩) (fun θ l V hl hc hd hg => by have hcF : l 16 = false := (by cases h : l 16 with | false => rfl | true => exact absurd (hc 16 1 (by kernel_rfl) h) (by rw [hl]; decide)); obtain rfl := hg.1 hcF; obtain ⟨d0, d1, d2⟩ := HKC.out; go_simp; (try with_reducible rfl); (try omega))
            · exact par_val (fun θ => by rfl) (fun θ l V hg => ⟨fun e => hg.1 (by simpa [updL] using e), fun e => hg.2 (by simpa [updL] using e)⟩) (fun θ l V hl hc hd hg => by have hcF : l 16 = false := (by cases h : l 16 with | false => rfl | true => exact absurd (hc 16 2 (by kernel_rfl) h) (by rw [hl]; decide)); obtain rfl := hg.1 hcF; obtain ⟨d0, d1, d2⟩ := HKC.out; go_simp; (try with_reducible rfl); (try omega))
            · exact par_val (fun θ => by rfl) (fun θ l V hg => ⟨fun e => hg.1 (by simpa [updL] using e), fun e => hg.2 (by simpa [updL] using e)⟩) (fun θ l V hl hc hd hg => by have hcF : l 16 = false := (by cases h : l 16 with | false => rfl | true => exact absurd (hc 16 3 (by kernel_rfl) h) (by rw [hl]; decide)); obtain rfl := hg.1 hcF; obtain ⟨d0, d1, d2⟩ := HKC.out; go_simp; (try with_reducible rfl); (try omega))
            · exact par_val (fun θ => by rfl) (fun θ l V hg => ⟨fun e => hg.1 (by simpa [updL] using e), fun e => hg.2 (by simpa [updL] using e)⟩) (fun θ l V hl hc hd hg => by have hcF : l 16 = false := (by cases h : l 16 with | false => rfl | true => exact absurd (hc 16 4 (by kernel_rfl) h) (by rw [hl]; decide)); obtain rfl := hg.1 hcF; obtain ⟨d0, d1, d2⟩ := HKC.out; go_simp; (try with_reducible rfl); (try omega))
            · exact par_val (fun θ => by rfl) (fun θ l V hg => ⟨fun e => hg.1 (by simpa [updL] using e), fun e => hg.2 (by simpa [updL] using e)⟩) (fun θ l V hl hc hd hg => by have hcF : l 16 = false := (by cases h : l 16 with | false => rfl | true => exact absurd (hc 16 5 (by kernel_rfl) h) (by rw [hl]; decide)); obtain rfl := hg.1 hcF; obtain ⟨d0, d1, d2⟩ := HKC.out; go_simp; (try with_reducible rfl); (try omega))
            · exact par_val (fun θ => by rfl) (fun θ l V hg => ⟨fun e => hg.1 (by simpa [updL] using e), fun e => hg.2 (by simpa [updL] using e)⟩) (fun θ l V hl hc hd hg => by have hcF : l 16 = false := (by cases h : l 16 with | false => rfl | true => exact absurd (hc 16 6 (by kernel_rfl) h) (by rw [hl]; decide)); obtain rfl := hg.1 hcF; obtain ⟨d0, d1, d2⟩ := HKC.out; go_simp; (try with_reducible rfl); (try omega))
            · exact par_val (fun θ => by rfl) (fun θ l V hg => ⟨fun e => hg.1 (by simpa [updL] using e), fun e => hg.2 (by simpa [updL] using e)⟩) (fun θ l V hl hc hd hg => by have hcF : l 16 = false := (by cases h : l 16 with | false => rfl | true => exact absurd (hc 16 7 (by kernel_rfl) h) (by rw [hl]; decide)); obtain rfl := hg.1 hcF; obtain ⟨d0, d1, d2⟩ := HKC.out; go_simp; (try with_reducible rfl); (try omega))
            · exact par_val (fun θ => by rfl) (fun θ l V hg => ⟨fun e => hg.1 (by simpa [updL] using e), fun e => hg.2 (by simpa [updL] using e)⟩) (fun θ l V hl hc hd hg => by have hcF : l 16 = false := (by cases h : l 16 with | false => rfl | true => exact absurd (hc 16 8 (by kernel_rfl) h) (by rw [hl]; decide)); obtain rfl := hg.1 hcF; obtain ⟨d0, d1, d2⟩ := HKC.out; go_simp; (try with_reducible rfl); (try omega))
            · exact par_val (fun θ => by rfl) (fun θ l V hg => ⟨fun e => hg.1 (by simpa [updL] using e), fun e => hg.2 (by simpa [updL] using e)⟩) (fun θ l V hl hc hd hg => by have hcF : l 16 = false := (by cases h : l 16 with | false => rfl | true => exact absurd (hc 16 9 (by kernel_rfl) h) (by rw [hl]; decide)); obtain rfl := hg.1 hcF; obtain ⟨d0, d1, d2⟩ := HKC.out; go_simp; (try with_reducible rfl); (try omega))
            · exact par_val (fun θ => by rfl) (fun θ l V hg => ⟨fun e => hg.1 (by simpa [updL] using e), fun e => hg.2 (by simpa [updL] using e)⟩) (fun θ l V hl hc hd hg => by have hcF : l 16 = false := (by cases h : l 16 with | false => rfl | true => exact absurd (hc 16 10 (by kernel_rfl) h) (by rw [hl]; decide)); obtain rfl := hg.1 hcF; obtain ⟨d0, d1, d2⟩ := HKC.out; go_simp; (try with_reducible rfl); (try omega))
            · exact par_val (fun θ => by rfl) (fun θ l V hg => ⟨fun e => hg.1 (by simpa [updL] using e), fun e => hg.2 (by simpa [updL] using e)⟩) (fun θ l V hl hc hd hg => by have hcF : l 16 = false := (by cases h : l 16 with | false => rfl | true => exact absurd (hc 16 11 (by kernel_rfl) h) (by rw [hl]; decide)); obtain rfl := hg.1 hcF; obtain ⟨d0, d1, d2⟩ := HKC.out; go_simp; (try with_reducible rfl); (try omega))
            · exact par_val (fun θ => by rfl) (fun θ l V hg => ⟨fun e => hg.1 (by simpa [updL] using e), fun e => hg.2 (by simpa [updL] using e)⟩) (fun θ l V hl hc hd hg => by have hcF : l 16 = false := (by cases h : l 16 with | false => rfl | true => exact absurd (hc 16 12 (by kernel_rfl) h) (by rw [hl]; decide)); obtain rfl := hg.1 hcF; obtain ⟨d0, d1, d2⟩ := HKC.out; go_simp; (try with_reducible rfl); (try omega))
            · exact par_val (fun θ => by rfl) (fun θ l V hg => ⟨fun e => hg.1 (by simpa [updL] using e), fun e => hg.2 (by simpa [updL] using e)⟩) (fun θ l V hl hc hd hg => by have hcF : l 16 = false := (by cases h : l 16 with | false => rfl | true => exact absurd (hc 16 13 (by kernel_rfl) h) (by rw [hl]; decide)); obtain rfl := hg.1 hcF; obtain ⟨d0, d1, d2⟩ := HKC.out; go_simp; (try with_reducible rfl); (try omega))
            · exact par_val (fun θ => by rfl) (fun θ l V hg => ⟨fun e => hg.1 (by simpa [updL] using e), fun e => hg.2 (by simpa [updL] using e)⟩) (fun θ l V hl hc hd hg => by have hcF : l 16 = false := (by cases h : l 16 with | false => rfl | true => exact absurd (hc 16 14 (by kernel_rfl) h) (by rw [hl]; decide)); obtain rfl := hg.1 hcF; obtain ⟨d0, d1, d2⟩ := HKC.out; go_simp; (try with_reducible rfl); (try omega))
            · exact par_val (fun θ => by rfl) (fun θ l V hg => ⟨fun e => hg.1 (by simpa [updL] using e), fun e => hg.2 (by simpa [updL] using e)⟩) (fun θ l V hl hc hd hg => by have hcF : l 16 = false := (by cases h : l 16 with | false => rfl | true => exact absurd (hc 16 15 (by kernel_rfl) h) (by rw [hl]; decide)); obtain rfl := hg.1 hcF; obtain ⟨d0, d1, d2⟩ := HKC.out; go_simp; (try with_reducible rfl); (try omega))
            · exact par_call (fun θ => by rfl) rfl (vs := fun _ => [.pointer (some ⟨w.heap.size, 0, none⟩), .int .u32 (tt : Nat), .slice bA bN bC, .int .i64 tk]) (fun θ => by rfl) Try.func9 (by rfl) (by rfl) (fun θ l V hl hc hd hg => by
                have h17 : l 17 = false := (by cases h : l 17 with | false => rfl | true => exact absurd (hc 17 16 (by kernel_rfl) h) (by rw [hl]; decide))
                have h18 : l 18 = false := (by cases h : l 18 with | false => rfl | true => exact absurd (hc 18 16 (by kernel_rfl) h) (by rw [hl]; decide))
                have h19 : l 19 = false := (by cases h : l 19 with | false => rfl | true => exact absurd (hc 19 16 (by kernel_rfl) h) (by rw [hl]; decide))
                have h20 : l 20 = false := (by cases h : l 20 with | false => rfl | true => exact absurd (hc 20 16 (by kernel_rfl) h) (by rw [hl]; decide))
                have h21 : l 21 = false := (by cases h : l 21 with | false => rfl | true => exact absurd (hc 21 16 (by kernel_rfl) h) (by rw [hl]; decide))
                obtain rfl := hg.1 hl
                refine Calls.mono HSD.out ?_; rintro e V2 ⟨kd2, now2, lost2, D2, er2, fs2, a2, n2, c2, hR, hc2, hg2, rfl, hf2⟩
                exact ⟨_, rfl, next_set (by kernel_rfl) ((a2, n2, c2, er2) : Option Addr × Nat × Nat × Nat) [(72, .tuple #[.slice ((a2, n2, c2, er2) : Option Addr × Nat × Nat × Nat).1 ((a2, n2, c2, er2) : Option Addr × Nat × Nat × Nat).2.1 ((a2, n2, c2, er2) : Option Addr × Nat × Nat × Nat).2.2.1, .int .i64 (((a2, n2, c2, er2) : Option Addr × Nat × Nat × Nat).2.2.2 : Nat)], 16), (55, .tuple #[.slice ((a2, n2, c2, er2) : Option Addr × Nat × Nat × Nat).1 ((a2, n2, c2, er2) : Option Addr × Nat × Nat × Nat).2.1 ((a2, n2, c2, er2) : Option Addr × Nat × Nat × Nat).2.2.1, .int .i64 (((a2, n2, c2, er2) : Option Addr × Nat × Nat × Nat).2.2.2 : Nat)], 17), (73, .slice ((a2, n2, c2, er2) : Option Addr × Nat × Nat × Nat).1 ((a2, n2, c2, er2) : Option Addr × Nat × Nat × Nat).2.1 ((a2, n2, c2, er2) : Option Addr × Nat × Nat × Nat).2.2.1, 18), (74, .int .i64 (((a2, n2, c2, er2) : Option Addr × Nat × Nat × Nat).2.2.2 : Nat), 19), (10, .slice ((a2, n2, c2, er2) : Option Addr × Nat × Nat × Nat).1 ((a2, n2, c2, er2) : Option Addr × Nat × Nat × Nat).2.1 ((a2, n2, c2, er2) : Option Addr × Nat × Nat × Nat).2.2.1, 20), (11, .int .i64 (((a2, n2, c2, er2) : Option Addr × Nat × Nat × Nat).2.2.2 : Nat), 21)] (by simp only [List.foldl_cons, List.foldl_nil, List.setIfInBounds_toArray, List.set_cons_zero, List.set_cons_succ]) (by kernel_rfl) (fun y hy => by simp at hy; rcases hy with rfl | rfl | rfl | rfl | rfl | rfl; exact hl; exact h17; exact h18; exact h19; exact h20; exact h21) (fun d hd => by cases hd; rfl) ⟨fun e => (by simp [updL] at e), fun _ => ⟨kd2, now2, lost2, D2, fs2, hR, hc2, hg2, hf2⟩⟩⟩)
            · exact par_val (fun θ => by rfl) (fun θ l V hg => ⟨fun e => hg.1 (by simpa [updL] using e), fun e => hg.2 (by simpa [updL] using e)⟩) (fun θ l V hl hc hd hg => by go_simp; (try with_reducible rfl); (try omega))
            · exact par_val (fun θ => by rfl) (fun θ l V hg => ⟨fun e => hg.1 (by simpa [updL] using e), fun e => hg.2 (by simpa [updL] using e)⟩) (fun θ l V hl hc hd hg => by go_simp; (try with_reducible rfl); (try omega))
            · exact par_val (fun θ => by rfl) (fun θ l V hg => ⟨fun e => hg.1 (by simpa [updL] using e), fun e => hg.2 (by simpa [updL] using e)⟩) (fun θ l V hl hc hd hg => by go_simp; (try with_reducible rfl); (try omega))
            · exact par_val (fun θ => by rfl) (fun θ l V hg => ⟨fun e => hg.1 (by simpa [updL] using e), fun e => hg.2 (by simpa [updL] using e)⟩) (fun θ l V hl hc hd hg => by go_simp; (try with_reducible rfl); (try omega))
            · exact par_val (fun θ => by rfl) (fun θ l V hg => ⟨fun e => hg.1 (by simpa [updL] using e), fun e => hg.2 (by simpa [updL] using e)⟩) (fun θ l V hl hc hd hg => by go_simp; (try with_reducible rfl); (try omega))
          case he1 =>
          intro θ l V hall hg
          have hP := hg.2 (hall 16 (by decide))
          clear hall hg
          clear HKC HSD
          obtain ⟨a2, n2, c2, er2⟩ := θ
          obtain ⟨kd2, now2, lost2, D2, fs2, hR, hc2, hg2, hf2⟩ := hP
          dsimp only at hR hf2 ⊢
          obtain ⟨hok, heq2⟩ := send_cnt hR HPU.out.1 HPU.out.2 (by decide)
          have hll2 := send_lost hR
          have hfl := send_len hR
          have hbd : Below w.heap.size w wr.drew := HC.out.2.2.trans ((Below.refl _ _).drew.mono HC.out.2.2.size)
          have hbl := hg2.bel w.heap.size hbd.size HC.out.2.1
          have HCU : Hid (∀ inn2 : Int, inn2 = inn + (if er2 = 0 ∨ er2 = 10 then 1 else 0) → CutC w V ip inn2 out a2 n2 c2 kd2 now2 lost2 D2 fs2) := fun inn2 e => ⟨hc2, hbl.2, hbd.trans hbl.1, hf2.base hbd.size, hok, by rw [e]; have := HEQ.out; omega, by omega, by omega⟩
          clear hR hc2 hg2 hf2 hok heq2 hll2 hfl hbd hbl HCX HBS HBK HC
          by_cases he0 : er2 = 0
          · subst he0
            go_wp2_with fail
            go_meet
            exact ⟨inn + 1, a2, n2, c2, kd2, now2, lost2, D2, fs2, rfl, rfl, by omega, by omega, HCU.out _ (by simp)⟩
          · by_cases he1 : er2 = 10
            · subst he1
              go_wp2_with fail
              go_meet
              exact ⟨inn + 1, a2, n2, c2, kd2, now2, lost2, D2, fs2, rfl, rfl, by omega, by omega, HCU.out _ (by simp)⟩
            · have hx0 : ((er2 : Int) == 0) = false := by simp; omega
              have hx1 : ((er2 : Int) == 10) = false := by simp; omega
              have hy0 : ¬ (er2 : Int) = 0 := by omega
              have hy1 : ¬ (er2 : Int) = 10 := by omega
              go_wp2_with fail
              go_meet
              exact ⟨inn, a2, n2, c2, kd2, now2, lost2, D2, fs2, rfl, rfl, by omega, by omega, HCU.out _ (by rw [if_neg (by omega)]; omega)⟩
        · by_cases h1 : op = 1
          · subst h1
            have HSD := (show Hid _ from take_arp (HC.out.1.below (Below.refl _ _).drew) kop kfm kfi ktm kti hkfi tk)
            have HKC : Hid (wr.drew.cell? ⟨b, off + i * 9 + 3, none⟩ = some (.int .i64 kop) ∧ wr.drew.cell? ⟨b, off + i * 9 + 4, none⟩ = some (.int .u64 (kfm : Nat)) ∧ wr.drew.cell? ⟨b, off + i * 9 + 5, none⟩ = some (.int .u32 (kfi : Nat)) ∧ wr.drew.cell? ⟨b, off + i * 9 + 6, none⟩ = some (.int .u64 (ktm : Nat)) ∧ wr.drew.cell? ⟨b, off + i * 9 + 7, none⟩ = some (.int .u32 (kti : Nat)) ∧ wr.drew.cell? ⟨b, off + i * 9 + 8, none⟩ = some (.int .i64 tk)) := ⟨q3, q4, q5, q6, q7, q8⟩
            go_wp2_with fail
            clear q0 q1 q2 q3 q4 q5 q6 q7 q8
            refine wp_region_parW mixedX (fun θ : Option Addr × Nat × Nat × Nat => [(86, .pointer (some ⟨w.heap.size, 0, none⟩)), (87, .slice (some ⟨b, off, none⟩) n c), (88, .int .i64 (i : Nat)), (89, .pointer (some ⟨b, off + i * 9, none⟩)), (90, .pointer (some ⟨b, off + i * 9 + 3, none⟩)), (91, .agg #[.int .i64 kop, .int .u64 (kfm : Nat), .int .u32 (kfi : Nat), .int .u64 (ktm : Nat), .int .u32 (kti : Nat)]), (92, .slice (some ⟨b, off, none⟩) n c), (93, .int .i64 (i : Nat)), (94, .pointer (some ⟨b, off + i * 9, none⟩)), (95, .pointer (some ⟨b, off + i * 9 + 8, none⟩)), (96, .int .i64 tk), (97, .tuple #[.slice θ.1 θ.2.1 θ.2.2.1, .int .i64 (θ.2.2.2 : Nat)]), (85, .tuple #[.slice θ.1 θ.2.1 θ.2.2.1, .int .i64 (θ.2.2.2 : Nat)]), (98, .slice θ.1 θ.2.1 θ.2.2.1), (99, .int .i64 (θ.2.2.2 : Nat)), (10, .slice θ.1 θ.2.1 θ.2.2.1)]) (fun θ l V => (l 11 = false → V = wr.drew) ∧ (l 11 = true → (fun θ V => ∃ kd2 now2 D2 fs2, CaW V kd2 w.heap.size 5 ip now2 lost D2 ∧ GrowA kd kd2 wr.drew V ∧ FrsW V kd2 wr.drew.heap.size θ.1 θ.2.1 θ.2.2.1 fs2 ∧ okFs 5 fs2 ∧ wtD D = cntF fs2 + wtD D2 ∧ fs2.length ≤ 1000) θ V)) (none, 0, 0, 0) ?Z2 ?hZ2 (by kernel_rfl) (by kernel_rfl) (fun θ => by kernel_rfl) (by kernel_rfl) ?h02 ?hops2 ?he2
            case hZ2 => intro θ; simp only [List.foldl_cons, List.foldl_nil, List.setIfInBounds_toArray, List.set_cons_zero, List.set_cons_succ]; rfl
            case h02 => exact ⟨fun _ => rfl, fun e => (by cases e)⟩
            case hops2 =>
              refine ⟨?_, ?_, ?_, ?_, ?_, ?_, ?_, ?_, ?_, ?_, ?_, ?_, ?_, ?_, ?_, ?_, trivial⟩
              · exact par_val (fun θ => by rfl) (fun θ l V hg => ⟨fun e => hg.1 (by simpa [updL] using e), fun e => hg.2 (by simpa [updL] using e)⟩) (fun θ l V hl hc hd hg => by have hcF : l 11 = false := (by cases h : l 11 with | false => rfl | true => exact absurd (hc 11 0 (by kernel_rfl) h) (by rw [hl]; decide)); obtain rfl := hg.1 hcF; obtain ⟨d3, d4, d5, d6, d7, d2⟩ := HKC.out; go_simp; (try with_reducible rfl); (try omega))
              · exact par_val (fun θ => by rfl) (fun θ l V hg => ⟨fun e => hg.1 (by simpa [updL] using e), fun e => hg.2 (by simpa [updL] using e)⟩) (fun θ l V hl hc hd hg => by have hcF : l 11 = false := (by cases h : l 11 with | false => rfl | true => exact absurd (hc 11 1 (by kernel_rfl) h) (by rw [hl]; decide)); obtain rfl := hg.1 hcF; obtain ⟨d3, d4, d5, d6, d7, d2⟩ := HKC.out; go_simp; (try with_reducible rfl); (try omega))
              · exact par_val (fun θ => by rfl) (fun θ l V hg => ⟨fun e => hg.1 (by simpa [updL] using e), fun e => hg.2 (by simpa [updL] using e)⟩) (fun θ l V hl hc hd hg => by have hcF : l 11 = false := (by cases h : l 11 with | false => rfl | true => exact absurd (hc 11 2 (by kernel_rfl) h) (by rw [hl]; decide)); obtain rfl := hg.1 hcF; obtain ⟨d3, d4, d5, d6, d7, d2⟩ := HKC.out; go_simp; (try with_reducible rfl); (try omega))
              · exact par_val (fun θ => by rfl) (fun θ l V hg => ⟨fun e => hg.1 (by simpa [updL] using e), fun e => hg.2 (by simpa [updL] using e)⟩) (fun θ l V hl hc hd hg => by have hcF : l 11 = false := (by cases h : l 11 with | false => rfl | true => exact absurd (hc 11 3 (by kernel_rfl) h) (by rw [hl]; decide)); obtain rfl := hg.1 hcF; obtain ⟨d3, d4, d5, d6, d7, d2⟩ := HKC.out; go_simp; (try with_reducible rfl); (try omega))
              · exact par_val (fun θ => by rfl) (fun θ l V hg => ⟨fun e => hg.1 (by simpa [updL] using e), fun e => hg.2 (by simpa [updL] using e)⟩) (fun θ l V hl hc hd hg => by have hcF : l 11 = false := (by cases h : l 11 with | false => rfl | true => exact absurd (hc 11 4 (by kernel_rfl) h) (by rw [hl]; decide)); obtain rfl := hg.1 hcF; obtain ⟨d3, d4, d5, d6, d7, d2⟩ := HKC.out; go_simp; (try with_reducible rfl); (try omega))
              · exact par_val (fun θ => by rfl) (fun θ l V hg => ⟨fun e => hg.1 (by simpa [updL] using e), fun e => hg.2 (by simpa [updL] using e)⟩) (fun θ l V hl hc hd hg => by have hcF : l 11 = false := (by cases h : l 11 with | false => rfl | true => exact absurd (hc 11 5 (by kernel_rfl) h) (by rw [hl]; decide)); obtain rfl := hg.1 hcF; obtain ⟨d3, d4, d5, d6, d7, d2⟩ := HKC.out; go_simp; (try with_reducible rfl); (try omega))
              · exact par_val (fun θ => by rfl) (fun θ l V hg => ⟨fun e => hg.1 (by simpa [updL] using e), fun e => hg.2 (by simpa [updL] using e)⟩) (fun θ l V hl hc hd hg => by have hcF : l 11 = false := (by cases h : l 11 with | false => rfl | true => exact absurd (hc 11 6 (by kernel_rfl) h) (by rw [hl]; decide)); obtain rfl := hg.1 hcF; obtain ⟨d3, d4, d5, d6, d7, d2⟩ := HKC.out; go_simp; (try with_reducible rfl); (try omega))
              · exact par_val (fun θ => by rfl) (fun θ l V hg => ⟨fun e => hg.1 (by simpa [updL] using e), fun e => hg.2 (by simpa [updL] using e)⟩) (fun θ l V hl hc hd hg => by have hcF : l 11 = false := (by cases h : l 11 with | false => rfl | true => exact absurd (hc 11 7 (by kernel_rfl) h) (by rw [hl]; decide)); obtain rfl := hg.1 hcF; obtain ⟨d3, d4, d5, d6, d7, d2⟩ := HKC.out; go_simp; (try with_reducible rfl); (try omega))
              · exact par_val (fun θ => by rfl) (fun θ l V hg => ⟨fun e => hg.1 (by simpa [updL] using e), fun e => hg.2 (by simpa [updL] using e)⟩) (fun θ l V hl hc hd hg => by have hcF : l 11 = false := (by cases h : l 11 with | false => rfl | true => exact absurd (hc 11 8 (by kernel_rfl) h) (by rw [hl]; decide)); obtain rfl := hg.1 hcF; obtain ⟨d3, d4, d5, d6, d7, d2⟩ := HKC.out; go_simp; (try with_reducible rfl); (try omega))
              · exact par_val (fun θ => by rfl) (fun θ l V hg => ⟨fun e => hg.1 (by simpa [updL] using e), fun e => hg.2 (by simpa [updL] using e)⟩) (fun θ l V hl hc hd hg => by have hcF : l 11 = false := (by cases h : l 11 with | false => rfl | true => exact absurd (hc 11 9 (by kernel_rfl) h) (by rw [hl]; decide)); obtain rfl := hg.1 hcF; obtain ⟨d3, d4, d5, d6, d7, d2⟩ := HKC.out; go_simp; (try with_reducible rfl); (try omega))
              · exact par_val (fun θ => by rfl) (fun θ l V hg => ⟨fun e => hg.1 (by simpa [updL] using e), fun e => hg.2 (by simpa [updL] using e)⟩) (fun θ l V hl hc hd hg => by have hcF : l 11 = false := (by cases h : l 11 with | false => rfl | true => exact absurd (hc 11 10 (by kernel_rfl) h) (by rw [hl]; decide)); obtain rfl := hg.1 hcF; obtain ⟨d3, d4, d5, d6, d7, d2⟩ := HKC.out; go_simp; (try with_reducible rfl); (try omega))
              · exact par_call (fun θ => by rfl) rfl (vs := fun _ => [.pointer (some ⟨w.heap.size, 0, none⟩), .agg #[.int .i64 kop, .int .u64 (kfm : Nat), .int .u32 (kfi : Nat), .int .u64 (ktm : Nat), .int .u32 (kti : Nat)], .int .i64 tk]) (fun θ => by rfl) Try.func10 (by rfl) (by rfl) (fun θ l V hl hc hd hg => by
                  have h12 : l 12 = false := (by cases h : l 12 with | false => rfl | true => exact absurd (hc 12 11 (by kernel_rfl) h) (by rw [hl]; decide))
                  have h13 : l 13 = false := (by cases h : l 13 with | false => rfl | true => exact absurd (hc 13 11 (by kernel_rfl) h) (by rw [hl]; decide))
                  have h14 : l 14 = false := (by cases h : l 14 with | false => rfl | true => exact absurd (hc 14 11 (by kernel_rfl) h) (by rw [hl]; decide))
                  have h15 : l 15 = false := (by cases h : l 15 with | false => rfl | true => exact absurd (hc 15 11 (by kernel_rfl) h) (by rw [hl]; decide))
                  obtain rfl := hg.1 hl
                  refine Calls.mono HSD.out ?_; rintro e V2 ⟨kd2, now2, D2, er2, fs2, a2, n2, c2, hR, hc2, hg2, rfl, hf2⟩; have hq := take_all hR HPU.out.1 HPU.out.2 (by decide) HL4.out
                  exact ⟨_, rfl, next_set (by kernel_rfl) ((a2, n2, c2, er2) : Option Addr × Nat × Nat × Nat) [(97, .tuple #[.slice ((a2, n2, c2, er2) : Option Addr × Nat × Nat × Nat).1 ((a2, n2, c2, er2) : Option Addr × Nat × Nat × Nat).2.1 ((a2, n2, c2, er2) : Option Addr × Nat × Nat × Nat).2.2.1, .int .i64 (((a2, n2, c2, er2) : Option Addr × Nat × Nat × Nat).2.2.2 : Nat)], 11), (85, .tuple #[.slice ((a2, n2, c2, er2) : Option Addr × Nat × Nat × Nat).1 ((a2, n2, c2, er2) : Option Addr × Nat × Nat × Nat).2.1 ((a2, n2, c2, er2) : Option Addr × Nat × Nat × Nat).2.2.1, .int .i64 (((a2, n2, c2, er2) : Option Addr × Nat × Nat × Nat).2.2.2 : Nat)], 12), (98, .slice ((a2, n2, c2, er2) : Option Addr × Nat × Nat × Nat).1 ((a2, n2, c2, er2) : Option Addr × Nat × Nat × Nat).2.1 ((a2, n2, c2, er2) : Option Addr × Nat × Nat × Nat).2.2.1, 13), (99, .int .i64 (((a2, n2, c2, er2) : Option Addr × Nat × Nat × Nat).2.2.2 : Nat), 14), (10, .slice ((a2, n2, c2, er2) : Option Addr × Nat × Nat × Nat).1 ((a2, n2, c2, er2) : Option Addr × Nat × Nat × Nat).2.1 ((a2, n2, c2, er2) : Option Addr × Nat × Nat × Nat).2.2.1, 15)] (by simp only [List.foldl_cons, List.foldl_nil, List.setIfInBounds_toArray, List.set_cons_zero, List.set_cons_succ]) (by kernel_rfl) (fun y hy => by simp at hy; rcases hy with rfl | rfl | rfl | rfl | rfl; exact hl; exact h12; exact h13; exact h14; exact h15) (fun d hd => by cases hd; rfl) ⟨fun e => (by simp [updL] at e), fun _ => ⟨kd2, now2, D2, fs2, hc2, hg2, hf2, hq⟩⟩⟩)
              · exact par_val (fun θ => by rfl) (fun θ l V hg => ⟨fun e => hg.1 (by simpa [updL] using e), fun e => hg.2 (by simpa [updL] using e)⟩) (fun θ l V hl hc hd hg => by go_simp; (try with_reducible rfl); (try omega))
              · exact par_val (fun θ => by rfl) (fun θ l V hg => ⟨fun e => hg.1 (by simpa [updL] using e), fun e => hg.2 (by simpa [updL] using e)⟩) (fun θ l V hl hc hd hg => by go_simp; (try with_reducible rfl); (try omega))
              · exact par_val (fun θ => by rfl) (fun θ l V hg => ⟨fun e => hg.1 (by simpa [updL] using e), fun e => hg.2 (by simpa [updL] using e)⟩) (fun θ l V hl hc hd hg => by go_simp; (try with_reducible rfl); (try omega))
              · exact par_val (fun θ => by rfl) (fun θ l V hg => ⟨fun e => hg.1 (by simpa [updL] using e), fun e => hg.2 (by simpa [updL] using e)⟩) (fun θ l V hl hc hd hg => by go_simp; (try with_reducible rfl); (try omega))
            case he2 =>
            intro θ l V hall hg
            have hP := hg.2 (hall 11 (by decide))
            clear hall hg
            clear HKC HSD
            obtain ⟨a2, n2, c2, er2⟩ := θ
            obtain ⟨kd2, now2, D2, fs2, hc2, hg2, hf2, hok, heq2, hfl⟩ := hP
            dsimp only at hf2 ⊢
            have hbd : Below w.heap.size w wr.drew := HC.out.2.2.trans ((Below.refl _ _).drew.mono HC.out.2.2.size)
            have hbl := hg2.bel w.heap.size hbd.size HC.out.2.1
            have HCU : Hid (CutC w V ip inn out a2 n2 c2 kd2 now2 lost D2 fs2) := ⟨hc2, hbl.2, hbd.trans hbl.1, hf2.base hbd.size, hok, by have := HEQ.out; omega, hl0, hfl⟩
            clear hc2 hg2 hf2 hok heq2 hfl hbd hbl HCX HBS HBK HC
            go_wp2_with fail
            go_meet
            exact ⟨inn, a2, n2, c2, kd2, now2, lost, D2, fs2, rfl, rfl, by omega, by omega, HCU.out⟩
          · have h01 : (op == 0) = false := by simp [h0]
            have h11 : (op == 1) = false := by simp [h1]
            have HSD := (show Hid _ from tick_any HC.out.1 hl0 (by omega) tk)
            go_wp2_with fail
            clear q0 q1 q2 q3 q4 q5 q6 q7 q8
            refine Calls.mono HSD.out ?_
            rintro e V ⟨kd2, now2, lost2, D2, er2, fs2, a2, n2, c2, hR, hc2, hg2, rfl, hf2⟩
            obtain ⟨hok, heq2, hll2, hfl⟩ := tick_all hR HPU.out.2 HC.out.1.len
            have hbd := HC.out.2.2
            have hbl := hg2.bel w.heap.size hbd.size HC.out.2.1
            have HCU : Hid (CutC w V ip inn out a2 n2 c2 kd2 now2 lost2 D2 fs2) := ⟨hc2, hbl.2, hbd.trans hbl.1, hf2.base hbd.size, hok, by have := HEQ.out; omega, by omega, hfl⟩
            clear hR hc2 hg2 hf2 hok heq2 hll2 hfl hbd hbl HCX HBS HBK HC HSD
            go_wp2_with fail
            go_meet
            exact ⟨inn, a2, n2, c2, kd2, now2, lost2, D2, fs2, rfl, rfl, by omega, by omega, HCU.out⟩
    · have HL9 := (show Hid _ from live9_any wr)
      by_cases hin : (i : Int) < (n : Int)
      · have hi2 : ¬ (i : Int) < 300 := by omega
        go_wp2_with fail
        refine Calls.mono HL9.out ?_
        rintro e w5 ⟨rfl, hb5⟩
        have HB5 := (show Hid _ from HC.out.2.2.trans (hb5.mono HC.out.2.2.size))
        clear hb5
        go_wp2
        go_ret
        exact ⟨rfl, HB5.out⟩
      · go_wp2_with fail
        refine Calls.mono HL9.out ?_
        rintro e w5 ⟨rfl, hb5⟩
        have HB5 := (show Hid _ from HC.out.2.2.trans (hb5.mono HC.out.2.2.size))
        clear hb5
        go_wp2
        go_ret
        exact ⟨rfl, HB5.out⟩
end Go.Proofs.Ytpmnjfkcffddgaa
