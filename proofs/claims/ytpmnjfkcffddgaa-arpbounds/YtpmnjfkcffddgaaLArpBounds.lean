/- The walk of trunklinelaw09.ArpBounds. -/
import Derived.Test.YtpmnjfkcffddgaaArQ
import Derived.Deep.CutBlock
import Derived.Deep.CutRange
namespace Go.Proofs.Ytpmnjfkcffddgaa
open Go.RowKit
set_option maxRecDepth 100000 in
set_option maxHeartbeats 8000000 in
theorem walk_ArpBounds (ip : Nat) (a : Option Addr) (n c : Nat) (dd : List Dd9) (w : World) (hip : ip < 4294967296) (hs : SlDA w a n c dd) :
    Calls Try.prog 3 #[.int .u32 (ip : Nat), .slice a n c] w fun e w' => e = .returned (.bool true) ∧ Below w.heap.size w w' := by
  have hnew := anew_ok 5 ip w (by decide)
  have hlen := hs.len
  have hcap := hs.cap
  have HS := (show Hid _ from hs)
  have HL := (show Hid _ from hlen)
  clear hs hlen
  go_enter Try.func3, Try.ntmps3
  go_wp2_with fail
  refine hnew.mono ?_
  rintro e w1 ⟨rfl, hst1, hb1⟩
  have hc1 := CaW.new hst1 (by decide) hip
  obtain ⟨kd0, hkd⟩ : ∃ kd0 : Nat → RoleA, kd0 = fun g => if g = w.heap.size then .cache else .no := ⟨_, rfl⟩
  have hk0 : ∀ g, g < w.heap.size → kd0 g = .no := fun g hg => by rw [hkd]; exact if_neg (by omega)
  rw [← hkd] at hc1
  have H1 := (show Hid _ from And.intro hc1 (And.intro hk0 hb1))
  clear hnew hst1 hb1 hc1 hkd hk0
  go_wp2
  go_loopw [7] (fun u7 wr => ∃ (i : Nat) (kd : Nat → RoleA) (now lost : Int) (D : List (Nat × Nbr)), i ≤ n ∧ i ≤ 300 ∧ u7 = .int .i64 (i : Nat) ∧ CaW wr kd w.heap.size 5 ip now lost D ∧ (∀ g, g < w.heap.size → kd g = .no) ∧ Below w.heap.size w wr ∧ 0 ≤ lost ∧ lost ≤ 32 * i) (fun u7 _ => n - (intOf u7).toNat)
  case atStart => exact ⟨0, kd0, 0, 0, [], by omega, by omega, rfl, H1.out.1, H1.out.2.1, H1.out.2.2, by omega, by omega⟩
  case round =>
    obtain ⟨i, kd, now, lost, D, hi, hi3, rfl, hcw, hkw, hbw, hl0, hl1⟩ := hrel
    have HC := (show Hid _ from And.intro hcw (And.intro hkw hbw))
    clear hcw hkw hbw H1
    by_cases hlt : i < n ∧ i < 300
    · have hi1 : (i : Int) < (n : Int) := by omega
      have hi2 : (i : Int) < 300 := by omega
      obtain ⟨x, hx⟩ : ∃ x, dd[i]? = some x := ⟨_, List.getElem?_eq_getElem (by have := HL.out; omega)⟩
      obtain ⟨hcw, hkw, hbw⟩ := HC.out
      rcases HS.out.at_ with h0 | ⟨b, off, rfl, hlt2, hcell⟩
      · omega
      have hcx := hcell i x hx
      have hxw := HS.out.wf x (List.mem_of_getElem? hx)
      obtain ⟨op, tt, bA, bN, bC, bZ, kop, kfm, kfi, ktm, kti, tk⟩ := x
      unfold Dd9.Wf at hxw
      unfold Dd9.vals at hcx
      dsimp only at hxw hcx
      obtain ⟨_, hto, hbs, _, hkfm, hkfi, hktm, hkti, _⟩ := hxw
      have HCX : Hid (∀ wq, Below w.heap.size w wq → ∀ j v, ([.int .i64 op, .int .u32 (tt : Nat), .slice bA bN bC, .int .i64 kop, .int .u64 (kfm : Nat), .int .u32 (kfi : Nat), .int .u64 (ktm : Nat), .int .u32 (kti : Nat), .int .i64 tk] : List Value)[j]? = some v → wq.cell? ⟨b, off + i * 9 + j, none⟩ = some v) := fun wq hb j v hj => (hb.cell (p := ⟨b, off + i * 9 + j, none⟩) hlt2).trans (hcx j v hj)
      have q0 := HCX.out wr hbw 0 _ rfl
      rw [Nat.add_zero] at q0
      have q1 := HCX.out wr hbw 1 _ rfl
      have q2 := HCX.out wr hbw 2 _ rfl
      have q3 := HCX.out wr hbw 3 _ rfl
      have q4 := HCX.out wr hbw 4 _ rfl
      have q5 := HCX.out wr hbw 5 _ rfl
      have q6 := HCX.out wr hbw 6 _ rfl
      have q7 := HCX.out wr hbw 7 _ rfl
      have q8 := HCX.out wr hbw 8 _ rfl
      have HBS : Hid (∀ wq, Below w.heap.size w wq → SlK .u8 256 wq bA bN bC bZ) := fun wq hb => hbs.1.below hb
      have HBK : Hid (∀ g o, 0 < bN → bA = some ⟨g, o, none⟩ → kd g = .no) := fun g o hn e => hkw g (hbs.1.lt g o hn e)
      clear hcell hcx hbs hx hcw hkw hbw
      go_upto_block 2 with fail
      go_cut [] from 21 to 125 (fun wc => ∃ (kd2 : Nat → RoleA) (now2 lost2 : Int) (D2 : List (Nat × Nbr)), CaW wc kd2 w.heap.size 5 ip now2 lost2 D2 ∧ (∀ g, g < w.heap.size → kd2 g = .no) ∧ Below w.heap.size w wc ∧ lost ≤ lost2 ∧ lost2 ≤ lost + 32)
      case rest =>
        obtain ⟨kd2, now2, lost2, D2, hc2, hkk2, hb2, hl20, hl21⟩ := hcut
        have HTB := (show Hid _ from table_any hc2)
        have HD2 : Hid (∀ (k : Nat) (y : Nat × Nbr), D2[k]? = some y → y.2.ws.length ≤ 4 ∧ (y.2.kn = true → y.2.ws.length = 0) ∧ (∀ z, D2[k - 1]? = some z → 0 < k → z.1 < y.1)) := by
          intro k y hy
          have := (hc2.each y (List.mem_of_getElem? hy)).2.1
          refine ⟨this.len, fun e => by rw [this.none e]; rfl, fun z hz hk => ?_⟩
          have h1 := List.pairwise_iff_getElem.1 hc2.srt (k - 1) k (List.getElem?_eq_some_iff.1 hz).1 (List.getElem?_eq_some_iff.1 hy).1 (by omega)
          rw [(List.getElem?_eq_some_iff.1 hz).2, (List.getElem?_eq_some_iff.1 hy).2] at h1
          exact h1
        have hm8 := hc2.len
        have HZ := (show Hid _ from And.intro hc2 (And.intro hkk2 (And.intro hb2 (And.intro hl20 hl21))))
        clear hc2 hl20 hl21 hkk2 hb2 HCX HBS HBK HC q0 q1 q2 q3 q4 q5 q6 q7 q8
        go_wp2_with fail
        refine Calls.mono HTB.out ?_
        rintro e w3 ⟨⟨a3, c3, rfl, ho3⟩, hb3⟩
        clear HTB
        have HO3 := (show Hid _ from And.intro ho3 hb3)
        have hcp3 := ho3.cap.1
        have hm81 : (D2.length : Int) ≤ 8 := by omega
        obtain ⟨m, hm⟩ : ∃ m, m = D2.length := ⟨_, rfl⟩
        rw [← hm] at hm8 hcp3 hm81 HO3 ⊢
        have HM := (show Hid _ from hm)
        clear hm ho3 hb3
        have hm82 : ¬ (8 : Int) < (m : Int) := by omega
        go_wp2
        go_loopw [9] (fun u9 wq => ∃ k : Nat, k ≤ m ∧ u9 = .int .i64 (k : Nat) ∧ Below w3.heap.size w3 wq) (fun u9 _ => m - (intOf u9).toNat)
        case atStart => exact ⟨0, by omega, rfl, Below.refl _ _⟩
        case round =>
          obtain ⟨k, hk, rfl, hbq⟩ := hrel
          by_cases hkm : k < m
          · have hk1 : (k : Int) < (m : Int) := by omega
            obtain ⟨y, hy⟩ : ∃ y, D2[k]? = some y := ⟨_, List.getElem?_eq_getElem (by have := HM.out; omega)⟩
            obtain ⟨z, hz⟩ : ∃ z, D2[k - 1]? = some z := ⟨_, List.getElem?_eq_getElem (by have := HM.out; omega)⟩
            obtain ⟨y1, y2, y3⟩ := HD2.out k y hy
            obtain ⟨ho3, hb3⟩ := HO3.out
            obtain ⟨g, rfl, _, hgl, hnc, _, hcl, _⟩ := OwnG.at_ ho3 (fun _ => rfl) (by omega)
            have cy := hcl k y hy
            have cz := hcl (k - 1) z hz
            obtain ⟨yq, yx⟩ := y
            obtain ⟨zq, zx⟩ := z
            obtain ⟨L, hL⟩ : ∃ L, L = yx.ws.length := ⟨_, rfl⟩
            obtain ⟨kn, hkn⟩ : ∃ kn, kn = yx.kn := ⟨_, rfl⟩
            have c0 := cy 0 _ rfl
            rw [Nat.add_zero] at c0
            have c2 := cy 2 _ rfl
            have c3' := cy 3 _ rfl
            have z0 := cz 0 _ rfl
            rw [Nat.add_zero] at z0
            dsimp only at c0 c2 c3' z0 y1 y2 y3
            rw [← hL] at c3' y1 y2
            rw [← hkn] at c2 y2
            have HKC : Hid (wr.drew.cell? ⟨g, k * 4, none⟩ = some (.int .u32 (yq : Nat)) ∧ wr.drew.cell? ⟨g, k * 4 + 2, none⟩ = some (.bool kn) ∧ wr.drew.cell? ⟨g, k * 4 + 3, none⟩ = some (.int .i64 (L : Nat)) ∧ wr.drew.cell? ⟨g, (k - 1) * 4, none⟩ = some (.int .u32 (zq : Nat))) := ⟨(hbq.cell (p := ⟨g, k * 4, none⟩) hgl).trans c0, (hbq.cell (p := ⟨g, k * 4 + 2, none⟩) hgl).trans c2, (hbq.cell (p := ⟨g, k * 4 + 3, none⟩) hgl).trans c3', (hbq.cell (p := ⟨g, (k - 1) * 4, none⟩) hgl).trans z0⟩
            have HQ := (show Hid _ from hbq)
            have y31 := y3 _ hz
            have hL4 : ¬ (4 : Int) < (L : Int) := by omega
            clear cy cz c0 c2 c3' z0 hL hkn hcl ho3 hb3 hy hz hbq y3
            have hk1w : (k : Int) - 1 = ((k : Int) - 1) := rfl
            clear hk1w
            cases kn with
            | true =>
              obtain rfl : L = 0 := y2 rfl
              by_cases hk0 : 0 < k
              · have hz1 : ((k : Int) - 1) = ((k - 1 : Nat) : Int) := by omega
                have hz2 : IntKind.i64.wrap ((k - 1 : Nat) : Int) = ((k - 1 : Nat) : Int) := by rw [IntKind.wrap_i64]; omega
                have hz3 : (0 : Int) < (k : Int) := by omega
                have hz4 : ¬ (yq : Int) ≤ (zq : Int) := by have := y31 hk0; omega
                have hz5 : k - 1 < m := by omega
                clear y31 hk0
                go_wp2_with fail
                refine wp_region_fixW mixedX (fun V => V = wr.drew) [(87, .slice (some ⟨g, 0, none⟩) m c3), (88, .int .i64 (k : Nat)), (89, .pointer (some ⟨g, k * 4, none⟩)), (90, .pointer (some ⟨g, k * 4 + 3, none⟩)), (91, .int .i64 0), (92, .bool false), (93, .bool false), (94, .slice (some ⟨g, 0, none⟩) m c3), (95, .int .i64 (k : Nat)), (96, .pointer (some ⟨g, k * 4, none⟩)), (97, .pointer (some ⟨g, k * 4 + 2, none⟩)), (98, .bool true), (99, .bool true), (100, .slice (some ⟨g, 0, none⟩) m c3), (101, .int .i64 (k : Nat)), (102, .pointer (some ⟨g, k * 4, none⟩)), (103, .pointer (some ⟨g, k * 4 + 3, none⟩)), (104, .int .i64 0), (105, .bool false), (106, .bool false), (107, .bool false), (108, .bool false), (109, .int .i64 (k : Nat)), (110, .bool true), (111, .bool true), (112, .slice (some ⟨g, 0, none⟩) m c3), (113, .int .i64 (k : Nat)), (114, .pointer (some ⟨g, k * 4, none⟩)), (115, .pointer (some ⟨g, k * 4, none⟩)), (116, .int .u32 (yq : Nat)), (117, .slice (some ⟨g, 0, none⟩) m c3), (118, .int .i64 (k : Nat)), (119, .int .i64 ((k - 1 : Nat) : Int)), (120, .pointer (some ⟨g, (k - 1) * 4, none⟩)), (121, .pointer (some ⟨g, (k - 1) * 4, none⟩)), (122, .int .u32 (zq : Nat)), (123, .bool false), (124, .bool false), (125, .bool false)] ?Z1 ?hZ1 (by kernel_rfl) (by kernel_rfl) (by kernel_rfl) (by kernel_rfl) ?h01 ?hops1 ?he1
                case hZ1 => simp only [List.foldl_cons, List.foldl_nil, List.setIfInBounds_toArray, List.set_cons_zero, List.set_cons_succ]; rfl
                case h01 => rfl
                case hops1 =>
                  refine ⟨?_, ?_, ?_, ?_, ?_, ?_, ?_, ?_, ?_, ?_, ?_, ?_, ?_, ?_, ?_, ?_, ?_, ?_, ?_, ?_, ?_, ?_, ?_, ?_, ?_, ?_, ?_, ?_, ?_, ?_, ?_, ?_, ?_, ?_, ?_, ?_, ?_, ?_, ?_, trivial⟩
                  · exact fix_val (by rfl) (fun W hW => by subst hW; obtain ⟨d0, d1, d2, d3⟩ := HKC.out; go_simp; (try with_reducible rfl); (try omega))
                  · exact fix_val (by rfl) (fun W hW => by subst hW; obtain ⟨d0, d1, d2, d3⟩ := HKC.out; go_simp; (try with_reducible rfl); (try omega))
                  · exact fix_val (by rfl) (fun W hW => by subst hW; obtain ⟨d0, d1, d2, d3⟩ := HKC.out; go_simp; (try with_reducible rfl); (try omega))
                  · exact fix_val (by rfl) (fun W hW => by subst hW; obtain ⟨d0, d1, d2, d3⟩ := HKC.out; go_simp; (try with_reducible rfl); (try omega))
                  · exact fix_val (by rfl) (fun W hW => by subst hW; obtain ⟨d0, d1, d2, d3⟩ := HKC.out; go_simp; (try with_reducible rfl); (try omega))
                  · exact fix_val (by rfl) (fun W hW => by subst hW; obtain ⟨d0, d1, d2, d3⟩ := HKC.out; go_simp; (try with_reducible rfl); (try omega))
                  · exact fix_val (by rfl) (fun W hW => by subst hW; obtain ⟨d0, d1, d2, d3⟩ := HKC.out; go_simp; (try with_reducible rfl); (try omega))
                  · exact fix_val (by rfl) (fun W hW => by subst hW; obtain ⟨d0, d1, d2, d3⟩ := HKC.out; go_simp; (try with_reducible rfl); (try omega))
                  · exact fix_val (by rfl) (fun W hW => by subst hW; obtain ⟨d0, d1, d2, d3⟩ := HKC.out; go_simp; (try with_reducible rfl); (try omega))
                  · exact fix_val (by rfl) (fun W hW => by subst hW; obtain ⟨d0, d1, d2, d3⟩ := HKC.out; go_simp; (try with_reducible rfl); (try omega))
                  · exact fix_val (by rfl) (fun W hW => by subst hW; obtain ⟨d0, d1, d2, d3⟩ := HKC.out; go_simp; (try with_reducible rfl); (try omega))
                  · exact fix_val (by rfl) (fun W hW => by subst hW; obtain ⟨d0, d1, d2, d3⟩ := HKC.out; go_simp; (try with_reducible rfl); (try omega))
                  · exact fix_val (by rfl) (fun W hW => by subst hW; obtain ⟨d0, d1, d2, d3⟩ := HKC.out; go_simp; (try with_reducible rfl); (try omega))
                  · exact fix_val (by rfl) (fun W hW => by subst hW; obtain ⟨d0, d1, d2, d3⟩ := HKC.out; go_simp; (try with_reducible rfl); (try omega))
                  · exact fix_val (by rfl) (fun W hW => by subst hW; obtain ⟨d0, d1, d2, d3⟩ := HKC.out; go_simp; (try with_reducible rfl); (try omega))
                  · exact fix_val (by rfl) (fun W hW => by subst hW; obtain ⟨d0, d1, d2, d3⟩ := HKC.out; go_simp; (try with_reducible rfl); (try omega))
                  · exact fix_val (by rfl) (fun W hW => by subst hW; obtain ⟨d0, d1, d2, d3⟩ := HKC.out; go_simp; (try with_reducible rfl); (try omega))
                  · exact fix_val (by rfl) (fun W hW => by subst hW; obtain ⟨d0, d1, d2, d3⟩ := HKC.out; go_simp; (try with_reducible rfl); (try omega))
                  · exact fix_val (by rfl) (fun W hW => by subst hW; obtain ⟨d0, d1, d2, d3⟩ := HKC.out; go_simp; (try with_reducible rfl); (try omega))
                  · exact fix_val (by rfl) (fun W hW => by subst hW; obtain ⟨d0, d1, d2, d3⟩ := HKC.out; go_simp; (try with_reducible rfl); (try omega))
                  · exact fix_val (by rfl) (fun W hW => by subst hW; obtain ⟨d0, d1, d2, d3⟩ := HKC.out; go_simp; (try with_reducible rfl); (try omega))
                  · exact fix_val (by rfl) (fun W hW => by subst hW; obtain ⟨d0, d1, d2, d3⟩ := HKC.out; go_simp; (try with_reducible rfl); (try omega))
                  · exact fix_val (by rfl) (fun W hW => by subst hW; obtain ⟨d0, d1, d2, d3⟩ := HKC.out; go_simp; (try with_reducible rfl); (try omega))
                  · exact fix_val (by rfl) (fun W hW => by subst hW; obtain ⟨d0, d1, d2, d3⟩ := HKC.out; go_simp; (try with_reducible rfl); (try omega))
                  · exact fix_val (by rfl) (fun W hW => by subst hW; obtain ⟨d0, d1, d2, d3⟩ := HKC.out; go_simp; (try with_reducible rfl); (try omega))
                  · exact fix_val (by rfl) (fun W hW => by subst hW; obtain ⟨d0, d1, d2, d3⟩ := HKC.out; go_simp; (try with_reducible rfl); (try omega))
                  · exact fix_val (by rfl) (fun W hW => by subst hW; obtain ⟨d0, d1, d2, d3⟩ := HKC.out; go_simp; (try with_reducible rfl); (try omega))
                  · exact fix_val (by rfl) (fun W hW => by subst hW; obtain ⟨d0, d1, d2, d3⟩ := HKC.out; go_simp; (try with_reducible rfl); (try omega))
                  · exact fix_val (by rfl) (fun W hW => by subst hW; obtain ⟨d0, d1, d2, d3⟩ := HKC.out; go_simp; (try with_reducible rfl); (try omega))
                  · exact fix_val (by rfl) (fun W hW => by subst hW; obtain ⟨d0, d1, d2, d3⟩ := HKC.out; go_simp; (try with_reducible rfl); (try omega))
                  · exact fix_val (by rfl) (fun W hW => by subst hW; obtain ⟨d0, d1, d2, d3⟩ := HKC.out; go_simp; (try with_reducible rfl); (try omega))
                  · exact fix_val (by rfl) (fun W hW => by subst hW; obtain ⟨d0, d1, d2, d3⟩ := HKC.out; go_simp; (try with_reducible rfl); (try omega))
                  · exact fix_val (by rfl) (fun W hW => by subst hW; obtain ⟨d0, d1, d2, d3⟩ := HKC.out; go_simp; (try with_reducible rfl); (try omega))
                  · exact fix_val (by rfl) (fun W hW => by subst hW; obtain ⟨d0, d1, d2, d3⟩ := HKC.out; go_simp; (try with_reducible rfl); (try omega))
                  · exact fix_val (by rfl) (fun W hW => by subst hW; obtain ⟨d0, d1, d2, d3⟩ := HKC.out; go_simp; (try with_reducible rfl); (try omega))
                  · exact fix_val (by rfl) (fun W hW => by subst hW; obtain ⟨d0, d1, d2, d3⟩ := HKC.out; go_simp; (try with_reducible rfl); (try omega))
                  · exact fix_val (by rfl) (fun W hW => by subst hW; obtain ⟨d0, d1, d2, d3⟩ := HKC.out; go_simp; (try with_reducible rfl); (try omega))
                  · exact fix_val (by rfl) (fun W hW => by subst hW; obtain ⟨d0, d1, d2, d3⟩ := HKC.out; go_simp; (try with_reducible rfl); (try omega))
                  · exact fix_val (by rfl) (fun W hW => by subst hW; obtain ⟨d0, d1, d2, d3⟩ := HKC.out; go_simp; (try with_reducible rfl); (try omega))
                case he1 =>
                rintro V rfl
                go_wp2
                go_roundw
                case rel => exact ⟨k + 1, by omega, by go_num, HQ.out.trans ((Below.refl _ _).drew.mono HQ.out.size)⟩
                case measure => simp [intOf]; omega
              · have hz3 : ¬ (0 : Int) < (k : Int) := by omega
                clear y31 hk0
                go_wp2_with fail
                refine wp_region_fixW mixedX (fun V => V = wr.drew) [(87, .slice (some ⟨g, 0, none⟩) m c3), (88, .int .i64 (k : Nat)), (89, .pointer (some ⟨g, k * 4, none⟩)), (90, .pointer (some ⟨g, k * 4 + 3, none⟩)), (91, .int .i64 0), (92, .bool false), (93, .bool false), (94, .slice (some ⟨g, 0, none⟩) m c3), (95, .int .i64 (k : Nat)), (96, .pointer (some ⟨g, k * 4, none⟩)), (97, .pointer (some ⟨g, k * 4 + 2, none⟩)), (98, .bool true), (99, .bool true), (100, .slice (some ⟨g, 0, none⟩) m c3), (101, .int .i64 (k : Nat)), (102, .pointer (some ⟨g, k * 4, none⟩)), (103, .pointer (some ⟨g, k * 4 + 3, none⟩)), (104, .int .i64 0), (105, .bool false), (106, .bool false), (107, .bool false), (108, .bool false), (109, .int .i64 (k : Nat)), (110, .bool false), (111, .bool false), (112, undef), (113, undef), (114, undef), (115, undef), (116, undef), (117, undef), (118, undef), (119, undef), (120, undef), (121, undef), (122, undef), (123, undef), (124, .bool false), (125, .bool false)] ?Z2 ?hZ2 (by kernel_rfl) (by kernel_rfl) (by kernel_rfl) (by kernel_rfl) ?h02 ?hops2 ?he2
                case hZ2 => simp only [List.foldl_cons, List.foldl_nil, List.setIfInBounds_toArray, List.set_cons_zero, List.set_cons_succ]; rfl
                case h02 => rfl
                case hops2 =>
                  refine ⟨?_, ?_, ?_, ?_, ?_, ?_, ?_, ?_, ?_, ?_, ?_, ?_, ?_, ?_, ?_, ?_, ?_, ?_, ?_, ?_, ?_, ?_, ?_, ?_, ?_, ?_, ?_, ?_, ?_, ?_, ?_, ?_, ?_, ?_, ?_, ?_, ?_, ?_, ?_, trivial⟩
                  · exact fix_val (by rfl) (fun W hW => by subst hW; obtain ⟨d0, d1, d2, d3⟩ := HKC.out; go_simp; (try with_reducible rfl); (try omega))
                  · exact fix_val (by rfl) (fun W hW => by subst hW; obtain ⟨d0, d1, d2, d3⟩ := HKC.out; go_simp; (try with_reducible rfl); (try omega))
                  · exact fix_val (by rfl) (fun W hW => by subst hW; obtain ⟨d0, d1, d2, d3⟩ := HKC.out; go_simp; (try with_reducible rfl); (try omega))
                  · exact fix_val (by rfl) (fun W hW => by subst hW; obtain ⟨d0, d1, d2, d3⟩ := HKC.out; go_simp; (try with_reducible rfl); (try omega))
                  · exact fix_val (by rfl) (fun W hW => by subst hW; obtain ⟨d0, d1, d2, d3⟩ := HKC.out; go_simp; (try with_reducible rfl); (try omega))
                  · exact fix_val (by rfl) (fun W hW => by subst hW; obtain ⟨d0, d1, d2, d3⟩ := HKC.out; go_simp; (try with_reducible rfl); (try omega))
                  · exact fix_val (by rfl) (fun W hW => by subst hW; obtain ⟨d0, d1, d2, d3⟩ := HKC.out; go_simp; (try with_reducible rfl); (try omega))
                  · exact fix_val (by rfl) (fun W hW => by subst hW; obtain ⟨d0, d1, d2, d3⟩ := HKC.out; go_simp; (try with_reducible rfl); (try omega))
                  · exact fix_val (by rfl) (fun W hW => by subst hW; obtain ⟨d0, d1, d2, d3⟩ := HKC.out; go_simp; (try with_reducible rfl); (try omega))
                  · exact fix_val (by rfl) (fun W hW => by subst hW; obtain ⟨d0, d1, d2, d3⟩ := HKC.out; go_simp; (try with_reducible rfl); (try omega))
                  · exact fix_val (by rfl) (fun W hW => by subst hW; obtain ⟨d0, d1, d2, d3⟩ := HKC.out; go_simp; (try with_reducible rfl); (try omega))
                  · exact fix_val (by rfl) (fun W hW => by subst hW; obtain ⟨d0, d1, d2, d3⟩ := HKC.out; go_simp; (try with_reducible rfl); (try omega))
                  · exact fix_val (by rfl) (fun W hW => by subst hW; obtain ⟨d0, d1, d2, d3⟩ := HKC.out; go_simp; (try with_reducible rfl); (try omega))
                  · exact fix_val (by rfl) (fun W hW => by subst hW; obtain ⟨d0, d1, d2, d3⟩ := HKC.out; go_simp; (try with_reducible rfl); (try omega))
                  · exact fix_val (by rfl) (fun W hW => by subst hW; obtain ⟨d0, d1, d2, d3⟩ := HKC.out; go_simp; (try with_reducible rfl); (try omega))
                  · exact fix_val (by rfl) (fun W hW => by subst hW; obtain ⟨d0, d1, d2, d3⟩ := HKC.out; go_simp; (try with_reducible rfl); (try omega))
                  · exact fix_val (by rfl) (fun W hW => by subst hW; obtain ⟨d0, d1, d2, d3⟩ := HKC.out; go_simp; (try with_reducible rfl); (try omega))
                  · exact fix_val (by rfl) (fun W hW => by subst hW; obtain ⟨d0, d1, d2, d3⟩ := HKC.out; go_simp; (try with_reducible rfl); (try omega))
                  · exact fix_val (by rfl) (fun W hW => by subst hW; obtain ⟨d0, d1, d2, d3⟩ := HKC.out; go_simp; (try with_reducible rfl); (try omega))
                  · exact fix_val (by rfl) (fun W hW => by subst hW; obtain ⟨d0, d1, d2, d3⟩ := HKC.out; go_simp; (try with_reducible rfl); (try omega))
                  · exact fix_val (by rfl) (fun W hW => by subst hW; obtain ⟨d0, d1, d2, d3⟩ := HKC.out; go_simp; (try with_reducible rfl); (try omega))
                  · exact fix_val (by rfl) (fun W hW => by subst hW; obtain ⟨d0, d1, d2, d3⟩ := HKC.out; go_simp; (try with_reducible rfl); (try omega))
                  · exact fix_val (by rfl) (fun W hW => by subst hW; obtain ⟨d0, d1, d2, d3⟩ := HKC.out; go_simp; (try with_reducible rfl); (try omega))
                  · exact fix_val (by rfl) (fun W hW => by subst hW; obtain ⟨d0, d1, d2, d3⟩ := HKC.out; go_simp; (try with_reducible rfl); (try omega))
                  · exact fix_val (by rfl) (fun W hW => by subst hW; obtain ⟨d0, d1, d2, d3⟩ := HKC.out; go_simp; (try with_reducible rfl); (try omega))
                  · exact fix_off (by rfl) (fun d hd => by cases hd; rfl)
                  · exact fix_off (by rfl) (fun d hd => by cases hd; rfl)
                  · exact fix_off (by rfl) (fun d hd => by cases hd; rfl)
                  · exact fix_off (by rfl) (fun d hd => by cases hd; rfl)
                  · exact fix_off (by rfl) (fun d hd => by cases hd; rfl)
                  · exact fix_off (by rfl) (fun d hd => by cases hd; rfl)
                  · exact fix_off (by rfl) (fun d hd => by cases hd; rfl)
                  · exact fix_off (by rfl) (fun d hd => by cases hd; rfl)
                  · exact fix_off (by rfl) (fun d hd => by cases hd; rfl)
                  · exact fix_off (by rfl) (fun d hd => by cases hd; rfl)
                  · exact fix_off (by rfl) (fun d hd => by cases hd; rfl)
                  · exact fix_off (by rfl) (fun d hd => by cases hd; rfl)
                  · exact fix_val (by rfl) (fun W hW => by subst hW; obtain ⟨d0, d1, d2, d3⟩ := HKC.out; go_simp; (try with_reducible rfl); (try omega))
                  · exact fix_val (by rfl) (fun W hW => by subst hW; obtain ⟨d0, d1, d2, d3⟩ := HKC.out; go_simp; (try with_reducible rfl); (try omega))
                case he2 =>
                rintro V rfl
                go_wp2
                go_roundw
                case rel => exact ⟨k + 1, by omega, by go_num, HQ.out.trans ((Below.refl _ _).drew.mono HQ.out.size)⟩
                case measure => simp [intOf]; omega
            | false =>
              by_cases hk0 : 0 < k
              · have hz1 : ((k : Int) - 1) = ((k - 1 : Nat) : Int) := by omega
                have hz2 : IntKind.i64.wrap ((k - 1 : Nat) : Int) = ((k - 1 : Nat) : Int) := by rw [IntKind.wrap_i64]; omega
                have hz3 : (0 : Int) < (k : Int) := by omega
                have hz4 : ¬ (yq : Int) ≤ (zq : Int) := by have := y31 hk0; omega
                have hz5 : k - 1 < m := by omega
                clear y31 hk0
                go_wp2_with fail
                refine wp_region_fixW mixedX (fun V => V = wr.drew) [(87, .slice (some ⟨g, 0, none⟩) m c3), (88, .int .i64 (k : Nat)), (89, .pointer (some ⟨g, k * 4, none⟩)), (90, .pointer (some ⟨g, k * 4 + 3, none⟩)), (91, .int .i64 (L : Nat)), (92, .bool false), (93, .bool false), (94, .slice (some ⟨g, 0, none⟩) m c3), (95, .int .i64 (k : Nat)), (96, .pointer (some ⟨g, k * 4, none⟩)), (97, .pointer (some ⟨g, k * 4 + 2, none⟩)), (98, .bool false), (99, .bool false), (100, undef), (101, undef), (102, undef), (103, undef), (104, undef), (105, undef), (106, .bool false), (107, .bool false), (108, .bool false), (109, .int .i64 (k : Nat)), (110, .bool true), (111, .bool true), (112, .slice (some ⟨g, 0, none⟩) m c3), (113, .int .i64 (k : Nat)), (114, .pointer (some ⟨g, k * 4, none⟩)), (115, .pointer (some ⟨g, k * 4, none⟩)), (116, .int .u32 (yq : Nat)), (117, .slice (some ⟨g, 0, none⟩) m c3), (118, .int .i64 (k : Nat)), (119, .int .i64 ((k - 1 : Nat) : Int)), (120, .pointer (some ⟨g, (k - 1) * 4, none⟩)), (121, .pointer (some ⟨g, (k - 1) * 4, none⟩)), (122, .int .u32 (zq : Nat)), (123, .bool false), (124, .bool false), (125, .bool false)] ?Z3 ?hZ3 (by kernel_rfl) (by kernel_rfl) (by kernel_rfl) (by kernel_rfl) ?h03 ?hops3 ?he3
                case hZ3 => simp only [List.foldl_cons, List.foldl_nil, List.setIfInBounds_toArray, List.set_cons_zero, List.set_cons_succ]; rfl
                case h03 => rfl
                case hops3 =>
                  refine ⟨?_, ?_, ?_, ?_, ?_, ?_, ?_, ?_, ?_, ?_, ?_, ?_, ?_, ?_, ?_, ?_, ?_, ?_, ?_, ?_, ?_, ?_, ?_, ?_, ?_, ?_, ?_, ?_, ?_, ?_, ?_, ?_, ?_, ?_, ?_, ?_, ?_, ?_, ?_, trivial⟩
                  · exact fix_val (by rfl) (fun W hW => by subst hW; obtain ⟨d0, d1, d2, d3⟩ := HKC.out; go_simp; (try with_reducible rfl); (try omega))
                  · exact fix_val (by rfl) (fun W hW => by subst hW; obtain ⟨d0, d1, d2, d3⟩ := HKC.out; go_simp; (try with_reducible rfl); (try omega))
                  · exact fix_val (by rfl) (fun W hW => by subst hW; obtain ⟨d0, d1, d2, d3⟩ := HKC.out; go_simp; (try with_reducible rfl); (try omega))
                  · exact fix_val (by rfl) (fun W hW => by subst hW; obtain ⟨d0, d1, d2, d3⟩ := HKC.out; go_simp; (try with_reducible rfl); (try omega))
                  · exact fix_val (by rfl) (fun W hW => by subst hW; obtain ⟨d0, d1, d2, d3⟩ := HKC.out; go_simp; (try with_reducible rfl); (try omega))
                  · exact fix_val (by rfl) (fun W hW => by subst hW; obtain ⟨d0, d1, d2, d3⟩ := HKC.out; go_simp; (try with_reducible rfl); (try omega))
                  · exact fix_val (by rfl) (fun W hW => by subst hW; obtain ⟨d0, d1, d2, d3⟩ := HKC.out; go_simp; (try with_reducible rfl); (try omega))
                  · exact fix_val (by rfl) (fun W hW => by subst hW; obtain ⟨d0, d1, d2, d3⟩ := HKC.out; go_simp; (try with_reducible rfl); (try omega))
                  · exact fix_val (by rfl) (fun W hW => by subst hW; obtain ⟨d0, d1, d2, d3⟩ := HKC.out; go_simp; (try with_reducible rfl); (try omega))
                  · exact fix_val (by rfl) (fun W hW => by subst hW; obtain ⟨d0, d1, d2, d3⟩ := HKC.out; go_simp; (try with_reducible rfl); (try omega))
                  · exact fix_val (by rfl) (fun W hW => by subst hW; obtain ⟨d0, d1, d2, d3⟩ := HKC.out; go_simp; (try with_reducible rfl); (try omega))
                  · exact fix_val (by rfl) (fun W hW => by subst hW; obtain ⟨d0, d1, d2, d3⟩ := HKC.out; go_simp; (try with_reducible rfl); (try omega))
                  · exact fix_val (by rfl) (fun W hW => by subst hW; obtain ⟨d0, d1, d2, d3⟩ := HKC.out; go_simp; (try with_reducible rfl); (try omega))
                  · exact fix_off (by rfl) (fun d hd => by cases hd; rfl)
                  · exact fix_off (by rfl) (fun d hd => by cases hd; rfl)
                  · exact fix_off (by rfl) (fun d hd => by cases hd; rfl)
                  · exact fix_off (by rfl) (fun d hd => by cases hd; rfl)
                  · exact fix_off (by rfl) (fun d hd => by cases hd; rfl)
                  · exact fix_off (by rfl) (fun d hd => by cases hd; rfl)
                  · exact fix_val (by rfl) (fun W hW => by subst hW; obtain ⟨d0, d1, d2, d3⟩ := HKC.out; go_simp; (try with_reducible rfl); (try omega))
                  · exact fix_val (by rfl) (fun W hW => by subst hW; obtain ⟨d0, d1, d2, d3⟩ := HKC.out; go_simp; (try with_reducible rfl); (try omega))
                  · exact fix_val (by rfl) (fun W hW => by subst hW; obtain ⟨d0, d1, d2, d3⟩ := HKC.out; go_simp; (try with_reducible rfl); (try omega))
                  · exact fix_val (by rfl) (fun W hW => by subst hW; obtain ⟨d0, d1, d2, d3⟩ := HKC.out; go_simp; (try with_reducible rfl); (try omega))
                  · exact fix_val (by rfl) (fun W hW => by subst hW; obtain ⟨d0, d1, d2, d3⟩ := HKC.out; go_simp; (try with_reducible rfl); (try omega))
                  · exact fix_val (by rfl) (fun W hW => by subst hW; obtain ⟨d0, d1, d2, d3⟩ := HKC.out; go_simp; (try with_reducible rfl); (try omega))
                  · exact fix_val (by rfl) (fun W hW => by subst hW; obtain ⟨d0, d1, d2, d3⟩ := HKC.out; go_simp; (try with_reducible rfl); (try omega))
                  · exact fix_val (by rfl) (fun W hW => by subst hW; obtain ⟨d0, d1, d2, d3⟩ := HKC.out; go_simp; (try with_reducible rfl); (try omega))
                  · exact fix_val (by rfl) (fun W hW => by subst hW; obtain ⟨d0, d1, d2, d3⟩ := HKC.out; go_simp; (try with_reducible rfl); (try omega))
                  · exact fix_val (by rfl) (fun W hW => by subst hW; obtain ⟨d0, d1, d2, d3⟩ := HKC.out; go_simp; (try with_reducible rfl); (try omega))
                  · exact fix_val (by rfl) (fun W hW => by subst hW; obtain ⟨d0, d1, d2, d3⟩ := HKC.out; go_simp; (try with_reducible rfl); (try omega))
                  · exact fix_val (by rfl) (fun W hW => by subst hW; obtain ⟨d0, d1, d2, d3⟩ := HKC.out; go_simp; (try with_reducible rfl); (try omega))
                  · exact fix_val (by rfl) (fun W hW => by subst hW; obtain ⟨d0, d1, d2, d3⟩ := HKC.out; go_simp; (try with_reducible rfl); (try omega))
                  · exact fix_val (by rfl) (fun W hW => by subst hW; obtain ⟨d0, d1, d2, d3⟩ := HKC.out; go_simp; (try with_reducible rfl); (try omega))
                  · exact fix_val (by rfl) (fun W hW => by subst hW; obtain ⟨d0, d1, d2, d3⟩ := HKC.out; go_simp; (try with_reducible rfl); (try omega))
                  · exact fix_val (by rfl) (fun W hW => by subst hW; obtain ⟨d0, d1, d2, d3⟩ := HKC.out; go_simp; (try with_reducible rfl); (try omega))
                  · exact fix_val (by rfl) (fun W hW => by subst hW; obtain ⟨d0, d1, d2, d3⟩ := HKC.out; go_simp; (try with_reducible rfl); (try omega))
                  · exact fix_val (by rfl) (fun W hW => by subst hW; obtain ⟨d0, d1, d2, d3⟩ := HKC.out; go_simp; (try with_reducible rfl); (try omega))
                  · exact fix_val (by rfl) (fun W hW => by subst hW; obtain ⟨d0, d1, d2, d3⟩ := HKC.out; go_simp; (try with_reducible rfl); (try omega))
                  · exact fix_val (by rfl) (fun W hW => by subst hW; obtain ⟨d0, d1, d2, d3⟩ := HKC.out; go_simp; (try with_reducible rfl); (try omega))
                case he3 =>
                rintro V rfl
                go_wp2
                go_roundw
                case rel => exact ⟨k + 1, by omega, by go_num, HQ.out.trans ((Below.refl _ _).drew.mono HQ.out.size)⟩
                case measure => simp [intOf]; omega
              · have hz3 : ¬ (0 : Int) < (k : Int) := by omega
                clear y31 hk0
                go_wp2_with fail
                refine wp_region_fixW mixedX (fun V => V = wr.drew) [(87, .slice (some ⟨g, 0, none⟩) m c3), (88, .int .i64 (k : Nat)), (89, .pointer (some ⟨g, k * 4, none⟩)), (90, .pointer (some ⟨g, k * 4 + 3, none⟩)), (91, .int .i64 (L : Nat)), (92, .bool false), (93, .bool false), (94, .slice (some ⟨g, 0, none⟩) m c3), (95, .int .i64 (k : Nat)), (96, .pointer (some ⟨g, k * 4, none⟩)), (97, .pointer (some ⟨g, k * 4 + 2, none⟩)), (98, .bool false), (99, .bool false), (100, undef), (101, undef), (102, undef), (103, undef), (104, undef), (105, undef), (106, .bool false), (107, .bool false), (108, .bool false), (109, .int .i64 (k : Nat)), (110, .bool false), (111, .bool false), (112, undef), (113, undef), (114, undef), (115, undef), (116, undef), (117, undef), (118, undef), (119, undef), (120, undef), (121, undef), (122, undef), (123, undef), (124, .bool false), (125, .bool false)] ?Z4 ?hZ4 (by kernel_rfl) (by kernel_rfl) (by kernel_rfl) (by kernel_rfl) ?h04 ?hops4 ?he4
                case hZ4 => simp only [List.foldl_cons, List.foldl_nil, List.setIfInBounds_toArray, List.set_cons_zero, List.set_cons_succ]; rfl
                case h04 => rfl
                case hops4 =>
                  refine ⟨?_, ?_, ?_, ?_, ?_, ?_, ?_, ?_, ?_, ?_, ?_, ?_, ?_, ?_, ?_, ?_, ?_, ?_, ?_, ?_, ?_, ?_, ?_, ?_, ?_, ?_, ?_, ?_, ?_, ?_, ?_, ?_, ?_, ?_, ?_, ?_, ?_, ?_, ?_, trivial⟩
                  · exact fix_val (by rfl) (fun W hW => by subst hW; obtain ⟨d0, d1, d2, d3⟩ := HKC.out; go_simp; (try with_reducible rfl); (try omega))
                  · exact fix_val (by rfl) (fun W hW => by subst hW; obtain ⟨d0, d1, d2, d3⟩ := HKC.out; go_simp; (try with_reducible rfl); (try omega))
                  · exact fix_val (by rfl) (fun W hW => by subst hW; obtain ⟨d0, d1, d2, d3⟩ := HKC.out; go_simp; (try with_reducible rfl); (try omega))
                  · exact fix_val (by rfl) (fun W hW => by subst hW; obtain ⟨d0, d1, d2, d3⟩ := HKC.out; go_simp; (try with_reducible rfl); (try omega))
                  · exact fix_val (by rfl) (fun W hW => by subst hW; obtain ⟨d0, d1, d2, d3⟩ := HKC.out; go_simp; (try with_reducible rfl); (try omega))
                  · exact fix_val (by rfl) (fun W hW => by subst hW; obtain ⟨d0, d1, d2, d3⟩ := HKC.out; go_simp; (try with_reducible rfl); (try omega))
                  · exact fix_val (by rfl) (fun W hW => by subst hW; obtain ⟨d0, d1, d2, d3⟩ := HKC.out; go_simp; (try with_reducible rfl); (try omega))
                  · exact fix_val (by rfl) (fun W hW => by subst hW; obtain ⟨d0, d1, d2, d3⟩ := HKC.out; go_simp; (try with_reducible rfl); (try omega))
                  · exact fix_val (by rfl) (fun W hW => by subst hW; obtain ⟨d0, d1, d2, d3⟩ := HKC.out; go_simp; (try with_reducible rfl); (try omega))
                  · exact fix_val (by rfl) (fun W hW => by subst hW; obtain ⟨d0, d1, d2, d3⟩ := HKC.out; go_simp; (try with_reducible rfl); (try omega))
                  · exact fix_val (by rfl) (fun W hW => by subst hW; obtain ⟨d0, d1, d2, d3⟩ := HKC.out; go_simp; (try with_reducible rfl); (try omega))
                  · exact fix_val (by rfl) (fun W hW => by subst hW; obtain ⟨d0, d1, d2, d3⟩ := HKC.out; go_simp; (try with_reducible rfl); (try omega))
                  · exact fix_val (by rfl) (fun W hW => by subst hW; obtain ⟨d0, d1, d2, d3⟩ := HKC.out; go_simp; (try with_reducible rfl); (try omega))
                  · exact fix_off (by rfl) (fun d hd => by cases hd; rfl)
                  · exact fix_off (by rfl) (fun d hd => by cases hd; rfl)
                  · exact fix_off (by rfl) (fun d hd => by cases hd; rfl)
                  · exact fix_off (by rfl) (fun d hd => by cases hd; rfl)
                  · exact fix_off (by rfl) (fun d hd => by cases hd; rfl)
                  · exact fix_off (by rfl) (fun d hd => by cases hd; rfl)
                  · exact fix_val (by rfl) (fun W hW => by subst hW; obtain ⟨d0, d1, d2, d3⟩ := HKC.out; go_simp; (try with_reducible rfl); (try omega))
                  · exact fix_val (by rfl) (fun W hW => by subst hW; obtain ⟨d0, d1, d2, d3⟩ := HKC.out; go_simp; (try with_reducible rfl); (try omega))
                  · exact fix_val (by rfl) (fun W hW => by subst hW; obtain ⟨d0, d1, d2, d3⟩ := HKC.out; go_simp; (try with_reducible rfl); (try omega))
                  · exact fix_val (by rfl) (fun W hW => by subst hW; obtain ⟨d0, d1, d2, d3⟩ := HKC.out; go_simp; (try with_reducible rfl); (try omega))
                  · exact fix_val (by rfl) (fun W hW => by subst hW; obtain ⟨d0, d1, d2, d3⟩ := HKC.out; go_simp; (try with_reducible rfl); (try omega))
                  · exact fix_val (by rfl) (fun W hW => by subst hW; obtain ⟨d0, d1, d2, d3⟩ := HKC.out; go_simp; (try with_reducible rfl); (try omega))
                  · exact fix_off (by rfl) (fun d hd => by cases hd; rfl)
                  · exact fix_off (by rfl) (fun d hd => by cases hd; rfl)
                  · exact fix_off (by rfl) (fun d hd => by cases hd; rfl)
                  · exact fix_off (by rfl) (fun d hd => by cases hd; rfl)
                  · exact fix_off (by rfl) (fun d hd => by cases hd; rfl)
                  · exact fix_off (by rfl) (fun d hd => by cases hd; rfl)
                  · exact fix_off (by rfl) (fun d hd => by cases hd; rfl)
                  · exact fix_off (by rfl) (fun d hd => by cases hd; rfl)
                  · exact fix_off (by rfl) (fun d hd => by cases hd; rfl)
                  · exact fix_off (by rfl) (fun d hd => by cases hd; rfl)
                  · exact fix_off (by rfl) (fun d hd => by cases hd; rfl)
                  · exact fix_off (by rfl) (fun d hd => by cases hd; rfl)
                  · exact fix_val (by rfl) (fun W hW => by subst hW; obtain ⟨d0, d1, d2, d3⟩ := HKC.out; go_simp; (try with_reducible rfl); (try omega))
                  · exact fix_val (by rfl) (fun W hW => by subst hW; obtain ⟨d0, d1, d2, d3⟩ := HKC.out; go_simp; (try with_reducible rfl); (try omega))
                case he4 =>
                rintro V rfl
                go_wp2
                go_roundw
                case rel => exact ⟨k + 1, by omega, by go_num, HQ.out.trans ((Below.refl _ _).drew.mono HQ.out.size)⟩
                case measure => simp [intOf]; omega
          · obtain rfl : k = m := by omega
            have HQ := (show Hid _ from hbq)
            clear hbq
            go_wp2
            go_roundw
            case rel =>
              obtain ⟨hc2, hk2, hb2, hl20, hl21⟩ := HZ.out
              have hb3 := HO3.out.2
              have hbb := hb3.trans (HQ.out.mono hb3.size)
              exact ⟨i + 1, kd2, now2, lost2, D2, by omega, by omega, by go_num, hc2.below hbb, hk2, hb2.trans (hbb.mono hb2.size), by omega, by omega⟩
            case measure => simp [intOf]; omega
      case first =>
      by_cases h0 : op = 0
      · subst h0
        have HSD := (show Hid _ from send_any (HC.out.1.below (Below.refl _ _).drew) hl0 (by omega) tt hto (HBS.out _ (HC.out.2.2.trans ((Below.refl _ _).drew.mono HC.out.2.2.size))) (fun hn g o e => HBK.out g o hn e) tk)
        have HKC : Hid (wr.drew.cell? ⟨b, off + i * 9 + 1, none⟩ = some (.int .u32 (tt : Nat)) ∧ wr.drew.cell? ⟨b, off + i * 9 + 2, none⟩ = some (.slice bA bN bC) ∧ wr.drew.cell? ⟨b, off + i * 9 + 8, none⟩ = some (.int .i64 tk)) := ⟨q1, q2, q8⟩
        go_wp2_with fail
        clear q0 q1 q2 q3 q4 q5 q6 q7 q8
        refine wp_region_parW mixedX (fun θ : Value => [(45, .pointer (some ⟨w.heap.size, 0, none⟩)), (46, .slice (some ⟨b, off, none⟩) n c), (47, .int .i64 (i : Nat)), (48, .pointer (some ⟨b, off + i * 9, none⟩)), (49, .pointer (some ⟨b, off + i * 9 + 1, none⟩)), (50, .int .u32 (tt : Nat)), (51, .slice (some ⟨b, off, none⟩) n c), (52, .int .i64 (i : Nat)), (53, .pointer (some ⟨b, off + i * 9, none⟩)), (54, .pointer (some ⟨b, off + i * 9 + 2, none⟩)), (55, .slice bA bN bC), (56, .slice (some ⟨b, off, none⟩) n c), (57, .int .i64 (i : Nat)), (58, .pointer (some ⟨b, off + i * 9, none⟩)), (59, .pointer (some ⟨b, off + i * 9 + 8, none⟩)), (60, .int .i64 tk), (61, θ)]) (fun θ l V => (l 16 = false → V = wr.drew) ∧ (l 16 = true → (fun _ V => StpP wr.drew kd w.heap.size 5 ip lost V) θ V)) undef ?Z5 ?hZ5 (by kernel_rfl) (by kernel_rfl) (fun θ => by kernel_rfl) (by kernel_rfl) ?h05 ?hops5 ?he5
        case hZ5 => intro θ; simp only [List.foldl_cons, List.foldl_nil, List.setIfInBounds_toArray, List.set_cons_zero, List.set_cons_succ]; rfl
        case h05 => exact ⟨fun _ => rfl, fun e => (by cases e)⟩
        case hops5 =>
          refine ⟨?_, ?_, ?_, ?_, ?_, ?_, ?_, ?_, ?_, ?_, ?_, ?_, ?_, ?_, ?_, ?_, ?_, trivial⟩
          · exact par_val (fun θ => by rfl) (fun θ l V hg => ⟨fun e => hg.1 (by simpa [updL] using e), fun e => hg.2 (by simpa [updL] using e)⟩) (fun θ l V hl hc hd hg => by have hcF : l 16 = false := (by cases h : l 16 with | false => rfl | true => exact absurd (hc 16 0 (by kernel_rfl) h) (by rw [hl]; decide)); obtain rfl := hg.1 hcF; obtain ⟨d0, d1, d2⟩ := HKC.out; go_simp; (try with_reducible rfl); (try omega))
          · exact par_val (fun θ => by rfl) (fun θ l V hg => ⟨fun e => hg.1 (by simpa [updL] using e), fun e => hg.2 (by simpa [updL] using e)⟩) (fun θ l V hl hc hd hg => by have hcF : l 16 = false := (by cases h : l 16 with | false => rfl | true => exact absurd (hc 16 1 (by kernel_rfl) h) (by rw [hl]; decide)); obtain rfl := hg.1 hcF; obtain ⟨d0, d1, d2⟩ := HKC.out; go_simp; (try with_reducible rfl); (try omega))
          · exact par_val (fun θ => by rfl) (fun θ l V hg => ⟨fun e => hg.1 (by simpa [updL] using e), fun e => hg.2 (by simpa [updL] using e)⟩) (fun θ l V hl hc hd hg => by have hcF : l 16 = false := (by cases h : l 16 with | false => rfl | true => exact absurd (hc 16 2 (by kernel_rfl) h) (by rw [hl]; decide)); obtain rfl := hg.1 hcF; obtain ⟨d0, d1, d2⟩ := HKC.out; go_simp; (try with_reducible rfl); (try omega))
          · exact par_val (fun θ => by rfl) (fun θ l V hg => ⟨fun e => hg.1 (by simpa [updL] using e), fun e => hg.2 (by simpa [updL] using e)⟩) (fun θ l V hl hc hd hg => by have hcF : l 16 = false := (by cases h : l 16 with | false => rfl | true => exact absurd (hc 16 3 (by kernel_rfl) h) (by rw [hl]; decide)); obtain rfl := hg.1 hcF; obtain ⟨d0, d1, d2⟩ := HKC.out; go_simp; (try with_reducible rfl); (try omega))
          · exact par_val (fun θ => by rfl) (fun θ l V hg => ⟨fun e => hg.1 (by simpa [updL] using e), fun e => hg.2 (by simpa [updL] using e)⟩) (fun θ l V hl hc hd hg => by have hcF : l 16 = false := (by cases h : l 16 with | false => rfl | true => exact absurd (hc 16 4 (by kernel_rfl) h) (by rw [hl]; decide)); obtain rfl := hg.1 hcF; obtain ⟨d0, d1, d2⟩ := HKC.out; go_simp; (try with_reducible rfl); (try omega))
          · exact par_val (fun θ => by rfl) (fun θ l V hg => ⟨fun e => hg.1 (by simpa [updL] using e), fun e => hg.2 (by simpa [updL] using e)⟩) (fun θ l V hl hc hd hg => by have hcF : l 16 = false := (by cases h : l 16 with | false => rfl | true => exact absurd (hc 16 5 (by kernel_rfl) h) (by rw [hl]; decide)); obtain rfl := hg.1 hcF; obtain ⟨d0, d1, d2⟩ := HKC.out; go_simp; (try with_reducible rfl); (try omega))
          · exact par_val (fun θ => by rfl) (fun θ l V hg => ⟨fun e => hg.1 (by simpa [updL] using e), fun e => hg.2 (by simpa [updL] using e)⟩) (fun θ l V hl hc hd hg => by have hcF : l 16 = false := (by cases h : l 16 with | false => rfl | true => exact absurd (hc 16 6 (by kernel_rfl) h) (by rw [hl]; decide)); obtain rfl := hg.1 hcF; obtain ⟨d0, d1, d2⟩ := HKC.out; go_simp; (try with_reducible rfl); (try omega))
          · exact par_val (fun θ => by rfl) (fun θ l V hg => ⟨fun e => hg.1 (by simpa [updL] using e), fun e => hg.2 (by simpa [updL] using e)⟩) (fun θ l V hl hc hd hg => by have hcF : l 16 = false := (by cases h : l 16 with | false => rfl | true => exact absurd (hc 16 7 (by kernel_rfl) h) (by rw [hl]; decide)); obtain rfl := hg.1 hcF; obtain ⟨d0, d1, d2⟩ := HKC.out; go_simp; (try with_reducible rfl); (try omega))
          · exact par_val (fun θ => by rfl) (fun θ l V hg => ⟨fun e => hg.1 (by simpa [updL] using e), fun e => hg.2 (by simpa [updL] using e)⟩) (fun θ l V hl hc hd hg => by have hcF : l 16 = false := (by cases h : l 16 with | false => rfl | true => exact absurd (hc 16 8 (by kernel_rfl) h) (by rw [hl]; decide)); obtain rfl := hg.1 hcF; obtain ⟨d0, d1, d2⟩ := HKC.out; go_simp; (try with_reducible rfl); (try omega))
          · exact par_val (fun θ => by rfl) (fun θ l V hg => ⟨fun e => hg.1 (by simpa [updL] using e), fun e => hg.2 (by simpa [updL] using e)⟩) (fun θ l V hl hc hd hg => by have hcF : l 16 = false := (by cases h : l 16 with | false => rfl | true => exact absurd (hc 16 9 (by kernel_rfl) h) (by rw [hl]; decide)); obtain rfl := hg.1 hcF; obtain ⟨d0, d1, d2⟩ := HKC.out; go_simp; (try with_reducible rfl); (try omega))
          · exact par_val (fun θ => by rfl) (fun θ l V hg => ⟨fun e => hg.1 (by simpa [updL] using e), fun e => hg.2 (by simpa [updL] using e)⟩) (fun θ l V hl hc hd hg => by have hcF : l 16 = false := (by cases h : l 16 with | false => rfl | true => exact absurd (hc 16 10 (by kernel_rfl) h) (by rw [hl]; decide)); obtain rfl := hg.1 hcF; obtain ⟨d0, d1, d2⟩ := HKC.out; go_simp; (try with_reducible rfl); (try omega))
          · exact par_val (fun θ => by rfl) (fun θ l V hg => ⟨fun e => hg.1 (by simpa [updL] using e), fun e => hg.2 (by simpa [updL] using e)⟩) (fun θ l V hl hc hd hg => by have hcF : l 16 = false := (by cases h : l 16 with | false => rfl | true => exact absurd (hc 16 11 (by kernel_rfl) h) (by rw [hl]; decide)); obtain rfl := hg.1 hcF; obtain ⟨d0, d1, d2⟩ := HKC.out; go_simp; (try with_reducible rfl); (try omega))
          · exact par_val (fun θ => by rfl) (fun θ l V hg => ⟨fun e => hg.1 (by simpa [updL] using e), fun e => hg.2 (by simpa [updL] using e)⟩) (fun θ l V hl hc hd hg => by have hcF : l 16 = false := (by cases h : l 16 with | false => rfl | true => exact absurd (hc 16 12 (by kernel_rfl) h) (by rw [hl]; decide)); obtain rfl := hg.1 hcF; obtain ⟨d0, d1, d2⟩ := HKC.out; go_simp; (try with_reducible rfl); (try omega))
          · exact par_val (fun θ => by rfl) (fun θ l V hg => ⟨fun e => hg.1 (by simpa [updL] using e), fun e => hg.2 (by simpa [updL] using e)⟩) (fun θ l V hl hc hd hg => by have hcF : l 16 = false := (by cases h : l 16 with | false => rfl | true => exact absurd (hc 16 13 (by kernel_rfl) h) (by rw [hl]; decide)); obtain rfl := hg.1 hcF; obtain ⟨d0, d1, d2⟩ := HKC.out; go_simp; (try with_reducible rfl); (try omega))
          · exact par_val (fun θ => by rfl) (fun θ l V hg => ⟨fun e => hg.1 (by simpa [updL] using e), fun e => hg.2 (by simpa [updL] using e)⟩) (fun θ l V hl hc hd hg => by have hcF : l 16 = false := (by cases h : l 16 with | false => rfl | true => exact absurd (hc 16 14 (by kernel_rfl) h) (by rw [hl]; decide)); obtain rfl := hg.1 hcF; obtain ⟨d0, d1, d2⟩ := HKC.out; go_simp; (try with_reducible rfl); (try omega))
          · exact par_val (fun θ => by rfl) (fun θ l V hg => ⟨fun e => hg.1 (by simpa [updL] using e), fun e => hg.2 (by simpa [updL] using e)⟩) (fun θ l V hl hc hd hg => by have hcF : l 16 = false := (by cases h : l 16 with | false => rfl | true => exact absurd (hc 16 15 (by kernel_rfl) h) (by rw [hl]; decide)); obtain rfl := hg.1 hcF; obtain ⟨d0, d1, d2⟩ := HKC.out; go_simp; (try with_reducible rfl); (try omega))
          · exact par_call (fun θ => by rfl) rfl (vs := fun _ => [.pointer (some ⟨w.heap.size, 0, none⟩), .int .u32 (tt : Nat), .slice bA bN bC, .int .i64 tk]) (fun θ => by rfl) Try.func9 (by rfl) (by rfl) (fun θ l V hl hc hd hg => by
              obtain rfl := hg.1 hl
              refine Calls.mono HSD.out ?_; rintro e V2 hP; obtain ⟨hst, v2, rfl⟩ := hP.stp
              exact ⟨_, rfl, next_set (by kernel_rfl) (v2 : Value) [(61, (v2 : Value), 16)] (by simp only [List.foldl_cons, List.foldl_nil, List.setIfInBounds_toArray, List.set_cons_zero, List.set_cons_succ]) (by kernel_rfl) (fun y hy => by simp at hy; subst hy; exact hl) (fun d hd => by cases hd; rfl) ⟨fun e => (by simp [updL] at e), fun _ => hst⟩⟩)
        case he5 =>
        intro θ l V hall hg
        have hP := hg.2 (hall 16 (by decide))
        clear hall hg
        clear HKC HSD
        obtain ⟨w2, hw2⟩ : ∃ w2, w2 = V := ⟨_, rfl⟩
        rw [← hw2] at hP ⊢
        clear hw2
        have hst := hP
        clear hP
        have HC := (show Hid _ from And.intro (HC.out.1.below (Below.refl _ _).drew) (And.intro HC.out.2.1 (HC.out.2.2.trans ((Below.refl _ _).drew.mono HC.out.2.2.size))))
        obtain ⟨kd2, now2, lost2, D2, hc2, hg2, hl20, hl21⟩ := hst.ex
        have hbl := hg2.bel w.heap.size (HC.out.2.2.size) HC.out.2.1
        have hb2 : Below w.heap.size w w2 := HC.out.2.2.trans hbl.1
        have HZ := (show Hid _ from And.intro hc2 (And.intro hbl.2 (And.intro hb2 (And.intro hl20 hl21))))
        clear hst hc2 hg2 hl20 hl21 hbl hb2 HCX HBS HBK HC
        go_wp2_with fail
        go_meet
        exact ⟨kd2, now2, lost2, D2, HZ.out⟩
      · by_cases h1 : op = 1
        · subst h1
          have HSD := (show Hid _ from take_arp (HC.out.1.below (Below.refl _ _).drew) kop kfm kfi ktm kti hkfi tk)
          have HKC : Hid (wr.drew.cell? ⟨b, off + i * 9 + 3, none⟩ = some (.int .i64 kop) ∧ wr.drew.cell? ⟨b, off + i * 9 + 4, none⟩ = some (.int .u64 (kfm : Nat)) ∧ wr.drew.cell? ⟨b, off + i * 9 + 5, none⟩ = some (.int .u32 (kfi : Nat)) ∧ wr.drew.cell? ⟨b, off + i * 9 + 6, none⟩ = some (.int .u64 (ktm : Nat)) ∧ wr.drew.cell? ⟨b, off + i * 9 + 7, none⟩ = some (.int .u32 (kti : Nat)) ∧ wr.drew.cell? ⟨b, off + i * 9 + 8, none⟩ = some (.int .i64 tk)) := ⟨q3, q4, q5, q6, q7, q8⟩
          go_wp2_with fail
          clear q0 q1 q2 q3 q4 q5 q6 q7 q8
          refine wp_region_parW mixedX (fun θ : Value => [(64, .pointer (some ⟨w.heap.size, 0, none⟩)), (65, .slice (some ⟨b, off, none⟩) n c), (66, .int .i64 (i : Nat)), (67, .pointer (some ⟨b, off + i * 9, none⟩)), (68, .pointer (some ⟨b, off + i * 9 + 3, none⟩)), (69, .agg #[.int .i64 kop, .int .u64 (kfm : Nat), .int .u32 (kfi : Nat), .int .u64 (ktm : Nat), .int .u32 (kti : Nat)]), (70, .slice (some ⟨b, off, none⟩) n c), (71, .int .i64 (i : Nat)), (72, .pointer (some ⟨b, off + i * 9, none⟩)), (73, .pointer (some ⟨b, off + i * 9 + 8, none⟩)), (74, .int .i64 tk), (75, θ)]) (fun θ l V => (l 11 = false → V = wr.drew) ∧ (l 11 = true → (fun _ V => StpP wr.drew kd w.heap.size 5 ip lost V) θ V)) undef ?Z6 ?hZ6 (by kernel_rfl) (by kernel_rfl) (fun θ => by kernel_rfl) (by kernel_rfl) ?h06 ?hops6 ?he6
          case hZ6 => intro θ; simp only [List.foldl_cons, List.foldl_nil, List.setIfInBounds_toArray, List.set_cons_zero, List.set_cons_succ]; rfl
          case h06 => exact ⟨fun _ => rfl, fun e => (by cases e)⟩
          case hops6 =>
            refine ⟨?_, ?_, ?_, ?_, ?_, ?_, ?_, ?_, ?_, ?_, ?_, ?_, trivial⟩
            · exact par_val (fun θ => by rfl) (fun θ l V hg => ⟨fun e => hg.1 (by simpa [updL] using e), fun e => hg.2 (by simpa [updL] using e)⟩) (fun θ l V hl hc hd hg => by have hcF : l 11 = false := (by cases h : l 11 with | false => rfl | true => exact absurd (hc 11 0 (by kernel_rfl) h) (by rw [hl]; decide)); obtain rfl := hg.1 hcF; obtain ⟨d3, d4, d5, d6, d7, d2⟩ := HKC.out; go_simp; (try with_reducible rfl); (try omega))
            · exact par_val (fun θ => by rfl) (fun θ l V hg => ⟨fun e => hg.1 (by simpa [updL] using e), fun e => hg.2 (by simpa [updL] using e)⟩) (fun θ l V hl hc hd hg => by have hcF : l 11 = false := (by cases h : l 11 with | false => rfl | true => exact absurd (hc 11 1 (by kernel_rfl) h) (by rw [hl]; decide)); obtain rfl := hg.1 hcF; obtain ⟨d3, d4, d5, d6, d7, d2⟩ := HKC.out; go_simp; (try with_reducible rfl); (try omega))
            · exact par_val (fun θ => by rfl) (fun θ l V hg => ⟨fun e => hg.1 (by simpa [updL] using e), fun e => hg.2 (by simpa [updL] using e)⟩) (fun θ l V hl hc hd hg => by have hcF : l 11 = false := (by cases h : l 11 with | false => rfl | true => exact absurd (hc 11 2 (by kernel_rfl) h) (by rw [hl]; decide)); obtain rfl := hg.1 hcF; obtain ⟨d3, d4, d5, d6, d7, d2⟩ := HKC.out; go_simp; (try with_reducible rfl); (try omega))
            · exact par_val (fun θ => by rfl) (fun θ l V hg => ⟨fun e => hg.1 (by simpa [updL] using e), fun e => hg.2 (by simpa [updL] using e)⟩) (fun θ l V hl hc hd hg => by have hcF : l 11 = false := (by cases h : l 11 with | false => rfl | true => exact absurd (hc 11 3 (by kernel_rfl) h) (by rw [hl]; decide)); obtain rfl := hg.1 hcF; obtain ⟨d3, d4, d5, d6, d7, d2⟩ := HKC.out; go_simp; (try with_reducible rfl); (try omega))
            · exact par_val (fun θ => by rfl) (fun θ l V hg => ⟨fun e => hg.1 (by simpa [updL] using e), fun e => hg.2 (by simpa [updL] using e)⟩) (fun θ l V hl hc hd hg => by have hcF : l 11 = false := (by cases h : l 11 with | false => rfl | true => exact absurd (hc 11 4 (by kernel_rfl) h) (by rw [hl]; decide)); obtain rfl := hg.1 hcF; obtain ⟨d3, d4, d5, d6, d7, d2⟩ := HKC.out; go_simp; (try with_reducible rfl); (try omega))
            · exact par_val (fun θ => by rfl) (fun θ l V hg => ⟨fun e => hg.1 (by simpa [updL] using e), fun e => hg.2 (by simpa [updL] using e)⟩) (fun θ l V hl hc hd hg => by have hcF : l 11 = false := (by cases h : l 11 with | false => rfl | true => exact absurd (hc 11 5 (by kernel_rfl) h) (by rw [hl]; decide)); obtain rfl := hg.1 hcF; obtain ⟨d3, d4, d5, d6, d7, d2⟩ := HKC.out; go_simp; (try with_reducible rfl); (try omega))
            · exact par_val (fun θ => by rfl) (fun θ l V hg => ⟨fun e => hg.1 (by simpa [updL] using e), fun e => hg.2 (by simpa [updL] using e)⟩) (fun θ l V hl hc hd hg => by have hcF : l 11 = false := (by cases h : l 11 with | false => rfl | true => exact absurd (hc 11 6 (by kernel_rfl) h) (by rw [hl]; decide)); obtain rfl := hg.1 hcF; obtain ⟨d3, d4, d5, d6, d7, d2⟩ := HKC.out; go_simp; (try with_reducible rfl); (try omega))
            · exact par_val (fun θ => by rfl) (fun θ l V hg => ⟨fun e => hg.1 (by simpa [updL] using e), fun e => hg.2 (by simpa [updL] using e)⟩) (fun θ l V hl hc hd hg => by have hcF : l 11 = false := (by cases h : l 11 with | false => rfl | true => exact absurd (hc 11 7 (by kernel_rfl) h) (by rw [hl]; decide)); obtain rfl := hg.1 hcF; obtain ⟨d3, d4, d5, d6, d7, d2⟩ := HKC.out; go_simp; (try with_reducible rfl); (try omega))
            · exact par_val (fun θ => by rfl) (fun θ l V hg => ⟨fun e => hg.1 (by simpa [updL] using e), fun e => hg.2 (by simpa [updL] using e)⟩) (fun θ l V hl hc hd hg => by have hcF : l 11 = false := (by cases h : l 11 with | false => rfl | true => exact absurd (hc 11 8 (by kernel_rfl) h) (by rw [hl]; decide)); obtain rfl := hg.1 hcF; obtain ⟨d3, d4, d5, d6, d7, d2⟩ := HKC.out; go_simp; (try with_reducible rfl); (try omega))
            · exact par_val (fun θ => by rfl) (fun θ l V hg => ⟨fun e => hg.1 (by simpa [updL] using e), fun e => hg.2 (by simpa [updL] using e)⟩) (fun θ l V hl hc hd hg => by have hcF : l 11 = false := (by cases h : l 11 with | false => rfl | true => exact absurd (hc 11 9 (by kernel_rfl) h) (by rw [hl]; decide)); obtain rfl := hg.1 hcF; obtain ⟨d3, d4, d5, d6, d7, d2⟩ := HKC.out; go_simp; (try with_reducible rfl); (try omega))
            · exact par_val (fun θ => by rfl) (fun θ l V hg => ⟨fun e => hg.1 (by simpa [updL] using e), fun e => hg.2 (by simpa [updL] using e)⟩) (fun θ l V hl hc hd hg => by have hcF : l 11 = false := (by cases h : l 11 with | false => rfl | true => exact absurd (hc 11 10 (by kernel_rfl) h) (by rw [hl]; decide)); obtain rfl := hg.1 hcF; obtain ⟨d3, d4, d5, d6, d7, d2⟩ := HKC.out; go_simp; (try with_reducible rfl); (try omega))
            · exact par_call (fun θ => by rfl) rfl (vs := fun _ => [.pointer (some ⟨w.heap.size, 0, none⟩), .agg #[.int .i64 kop, .int .u64 (kfm : Nat), .int .u32 (kfi : Nat), .int .u64 (ktm : Nat), .int .u32 (kti : Nat)], .int .i64 tk]) (fun θ => by rfl) Try.func10 (by rfl) (by rfl) (fun θ l V hl hc hd hg => by
                obtain rfl := hg.1 hl
                refine Calls.mono HSD.out ?_; rintro e V2 hP; obtain ⟨hst, v2, rfl⟩ := hP.stp
                exact ⟨_, rfl, next_set (by kernel_rfl) (v2 : Value) [(75, (v2 : Value), 11)] (by simp only [List.foldl_cons, List.foldl_nil, List.setIfInBounds_toArray, List.set_cons_zero, List.set_cons_succ]) (by kernel_rfl) (fun y hy => by simp at hy; subst hy; exact hl) (fun d hd => by cases hd; rfl) ⟨fun e => (by simp [updL] at e), fun _ => hst⟩⟩)
          case he6 =>
          intro θ l V hall hg
          have hP := hg.2 (hall 11 (by decide))
          clear hall hg
          clear HKC HSD
          obtain ⟨w2, hw2⟩ : ∃ w2, w2 = V := ⟨_, rfl⟩
          rw [← hw2] at hP ⊢
          clear hw2
          have hst := hP
          clear hP
          have HC := (show Hid _ from And.intro (HC.out.1.below (Below.refl _ _).drew) (And.intro HC.out.2.1 (HC.out.2.2.trans ((Below.refl _ _).drew.mono HC.out.2.2.size))))
          obtain ⟨kd2, now2, lost2, D2, hc2, hg2, hl20, hl21⟩ := hst.ex
          have hbl := hg2.bel w.heap.size (HC.out.2.2.size) HC.out.2.1
          have hb2 : Below w.heap.size w w2 := HC.out.2.2.trans hbl.1
          have HZ := (show Hid _ from And.intro hc2 (And.intro hbl.2 (And.intro hb2 (And.intro hl20 hl21))))
          clear hst hc2 hg2 hl20 hl21 hbl hb2 HCX HBS HBK HC
          go_wp2_with fail
          go_meet
          exact ⟨kd2, now2, lost2, D2, HZ.out⟩
        · have h01 : (op == 0) = false := by simp [h0]
          have h11 : (op == 1) = false := by simp [h1]
          have HSD := (show Hid _ from tick_any HC.out.1 hl0 (by omega) tk)
          go_wp2_with fail
          clear q0 q1 q2 q3 q4 q5 q6 q7 q8
          refine Calls.mono HSD.out ?_
          rintro e w2 hP
          obtain ⟨hst, v2, rfl⟩ := hP.stp HC.out.1
          clear hP HSD
          obtain ⟨kd2, now2, lost2, D2, hc2, hg2, hl20, hl21⟩ := hst.ex
          have hbl := hg2.bel w.heap.size (HC.out.2.2.size) HC.out.2.1
          have hb2 : Below w.heap.size w w2 := HC.out.2.2.trans hbl.1
          have HZ := (show Hid _ from And.intro hc2 (And.intro hbl.2 (And.intro hb2 (And.intro hl20 hl21))))
          clear hst hc2 hg2 hl20 hl21 hbl hb2 HCX HBS HBK HC
          go_wp2_with fail
          go_meet
          exact ⟨kd2, now2, lost2, D2, HZ.out⟩
    · have hi1 : ¬ ((i : Int) < (n : Int) ∧ (i : Int) < 300) := by omega
      have HL9 := (show Hid _ from live9_any wr)
      by_cases hin : (i : Int) < (n : Int)
      · have hi2 : ¬ (i : Int) < 300 := by omega
        go_wp2_with fail
        refine Calls.mono HL9.out ?_
        rintro e w5 ⟨rfl, hb5⟩
        have HB5 := (show Hid _ from HC.out.2.2.trans (hb5.mono HC.out.2.2.size))
        clear hb5
        go_wp2
        go_ret
        exact ⟨rfl, HB5.out⟩
      · go_wp2_with fail
        refine Calls.mono HL9.out ?_
        rintro e w5 ⟨rfl, hb5⟩
        have HB5 := (show Hid _ from HC.out.2.2.trans (hb5.mono HC.out.2.2.size))
        clear hb5
        go_wp2
        go_ret
        exact ⟨rfl, HB5.out⟩
end Go.Proofs.Ytpmnjfkcffddgaa
