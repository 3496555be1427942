/- What the reference's Sort answers: the same. -/
import Derived.Test.YtpnfghchllipnaaSort3
import Derived.Test.YtpnfghchllipnaaRef3
import Derived.Test.YtpnfghchllipnaaSlcU
namespace Go.Proofs.Ytpnfghchllipnaa
open Go.RowKit
theorem ret_si {a a' : Option Addr} {n n' c c' : Nat} {l : IntKind} {d d' : Int} (h1 : a = a') (h2 : n = n') (h3 : c = c') (h4 : d = d') : Ending.returned (.tuple #[.slice a n c, .int l d]) = .returned (.tuple #[.slice a' n' c', .int l d']) := by rw [h1, h2, h3, h4]
set_option maxRecDepth 100000 in
set_option maxHeartbeats 4000000 in
theorem rsort_any (b : Int) (f : Nat) (hf : f < 4294967296) (a : Option Addr) (n c : Nat) (zs : List Nat) (w : World) (hs : SlU w a n c zs) (hn : (n + 1) * 4 ≤ 140737488355328) :
    Calls Try.prog 18 #[.int .i64 b, .int .u32 f, .slice a n c] w fun e w' => ∃ a' c', e = .returned (.tuple #[.slice a' (sortR b f zs).length c', .int .i64 (sortE b f zs : Nat)]) ∧ SlU w' a' (sortR b f zs).length c' (sortR b f zs) ∧ Below w.heap.size w w' := by
  have hl := hs.len
  have hsm := hs.small
  have hco := fun W a c (h : SlU W a (1 + n) c (f :: zs)) => rcheck_any b a (1 + n) c (f :: zs) W h
  have ho0 : OwnU (w.alloc (.cells #[.int .u32 f] 22)) w.heap.size (some ⟨w.heap.size, 0, none⟩) 1 1 [f] := by
    refine ⟨rfl, ⟨rfl, .inr ⟨w.heap.size, 1, #[.int .u32 f], rfl, Nat.le_refl _, ?_, Nat.le_refl _, by unfold maxLen; omega, rfl, rfl⟩⟩, fun i => by cases i <;> simp [hf]⟩
    show (w.heap.push _)[w.heap.size]? = _
    simp
  go_enter Try.func18, Try.ntmps18
  go_wp2_with (at_builtin; go_must (refine app_listU rfl _ _ rfl w.heap.size _ 1 1 [f] rfl ho0 _ n c zs rfl (hs.alloc _) (by omega) (by simp) ?_))
  intro a1 c1 w1 ho1 hg1
  have hb1 : Below w.heap.size w w1 := ((Below.refl _ _).alloc (Nat.le_refl _) _).trans (ho0.up hg1 (by simp))
  have hs1 := ho1.sl (by omega)
  clear hg1 ho0 ho1
  go_wp2_with fail
  refine (hco _ _ _ hs1).mono ?_
  rintro e w2 ⟨rfl, q, rfl⟩
  have hb2 : Below w.heap.size w (w1.drewN q) := hb1.trans ((drewN_below w1 q).mono hb1.size)
  clear hco hs1 hb1
  generalize w1.drewN q = W at *
  by_cases he : chkE b (f :: zs) = 0
  · have HE : Hid (sortE b f zs = 0) := he
    have HR : Hid (sortR b f zs = sortV (rnd b) f zs) := by show _ = _; unfold sortR; rw [if_pos HE.out]
    obtain ⟨hbb, hzb⟩ := chkE_ok he
    have hfb := hzb f (by simp)
    rw [he]
    clear he
    have hq := fun z w => rest_any b ((z : Int) - f) w
    have hM := rnd_le b
    have hup := fun z => up_ref (rnd b) f z hfb
    have hzn : ∀ z ∈ zs, z < rnd b := fun z hz => hzb z (by simp [hz])
    have hupl := fun z => upV_lt (rnd b) f z (rnd_pos b)
    clear hzb
    generalize rnd b = M at *
    have hq2 : ∀ (z : Nat) (w : World), Calls Try.prog 22 #[.int .i64 b, .int .i64 ((z : Int) - f)] w fun e w' => e = .returned (.int .i64 (upV M f z : Nat)) ∧ w' = w := fun z w => by rw [← hup z]; exact hq z w
    clear hq hup
    have hoE : OwnU (W.alloc (.cells #[] 22)) w.heap.size (some ⟨W.heap.size, 0, none⟩) 0 0 [] := (own_emptyU W).base hb2.size
    have hbE : Below w.heap.size w (W.alloc (.cells #[] 22)) := hb2.alloc hb2.size _
    go_wp2
    go_loopw [9, 10] (fun v i wr => ∃ (k : Nat) (a1 : Option Addr) (c1 : Nat), k ≤ n ∧ i = .int .i64 k ∧ v = .slice a1 (sortV M f (zs.take k)).length c1 ∧ OwnU wr w.heap.size a1 (sortV M f (zs.take k)).length c1 (sortV M f (zs.take k)) ∧ Below w.heap.size w wr ∧ (∃ g, a1 = some ⟨g, 0, none⟩)) (fun _ i _ => n - (intOf i).toNat)
    case atStart => exact ⟨0, _, 0, by omega, rfl, rfl, hoE, hbE, _, rfl⟩
    case round =>
      obtain ⟨k, a2, c2, hk, rfl, rfl, hown, hbel, g2, rfl⟩ := hrel
      clear hoE hbE
      by_cases hkn : k < n
      · rcases hs.at_ with h0 | ⟨g, off, rfl, hlt, hcell⟩
        · omega
        have hc := (hbel.cell (p := ⟨g, off + k, none⟩) hlt).trans (hcell k hkn)
        have hx := hs.bnd k
        have hkz : k < zs.length := by omega
        have hxM : zs.getD k 0 < M := hzn _ (by rw [List.getD_eq_getElem?_getD, List.getElem?_eq_getElem hkz]; exact List.getElem_mem hkz)
        have HSN : Hid (sortV M f (zs.take (k + 1)) = insV M f (sortV M f (zs.take k)) (zs.getD k 0)) := by
          show _ = _
          rw [take_snocN zs k hkz, sortV_snoc]
        have hLl : (sortV M f (zs.take k)).length ≤ n := by
          have := sortV_len M f (zs.take k)
          simp at this
          omega
        have hLb := hown.bnd
        have hsz := hbel.size
        have hd := hupl (zs.getD k 0)
        clear hcell hkz
        generalize zs.getD k 0 = x at *
        generalize sortV M f (zs.take k) = L at *
        have hsl := hown.sl (by omega)
        have hcap := hsl.cap
        have hroom := hsl.room
        have hLat := hsl.at_
        obtain ⟨d, hdd⟩ : ∃ d, d = upV M f x := ⟨_, rfl⟩
        have hqx := hq2 x
        rw [← hdd] at hqx hd
        have HD := (show Hid _ from hdd)
        clear hdd
        have hi1 : (k : Int) < (n : Int) := by omega
        go_wp2_with (go_at_call 22; refine (hqx _).mono ?_; rintro e w' ⟨rfl, hw'⟩; subst w')
        go_loop [12] (fun jv => ∃ j : Nat, j ≤ L.length ∧ jv = .int .i64 j ∧ ∀ t, t < j → upV M f (L.getD t 0) < d) (fun jv => L.length - (intOf jv).toNat)
        case atStart => exact ⟨0, by omega, rfl, fun t ht => by omega⟩
        case round =>
          obtain ⟨j, hj, rfl, hall⟩ := hrel
          have hcL : ∀ t, t < L.length → wr.cell? ⟨g2, t, none⟩ = some (.int .u32 (L.getD t 0 : Nat)) := by
            intro t ht
            rcases hLat with h0 | ⟨b', off', e, _, hcc⟩
            · omega
            · injection e with e
              injection e with e1 e2
              subst e1 e2
              have := hcc t ht
              rwa [Nat.zero_add] at this
          have HIN : Hid ((j < L.length → ¬ upV M f (L.getD j 0) < d) → insV M f L x = if j < L.length ∧ L.getD j 0 = x then L else L.take j ++ (x :: L.drop j)) := fun h => insV_at M f L x j hj (by rw [← HD.out]; exact hall) (by rw [← HD.out]; exact h)
          by_cases hjL : j < L.length
          · have hcj := hcL j hjL
            have hbj := hLb j
            have hqj := hq2 (L.getD j 0)
            have hj1 : (j : Int) < (L.length : Int) := by omega
            have hdj := hupl (L.getD j 0)
            by_cases hlt2 : upV M f (L.getD j 0) < d
            · have HA : Hid (∀ t, t < j + 1 → upV M f (L.getD t 0) < d) := fun t ht => by
                by_cases e : t = j
                · subst e; exact hlt2
                · exact hall t (by omega)
              have hlt3 : ((upV M f (L.getD j 0) : Nat) : Int) < (d : Int) := by omega
              clear HIN hall hcL
              generalize upV M f (L.getD j 0) = u at *
              generalize L.getD j 0 = y at *
              go_wp2_with (go_at_call 22; refine (hqj _).mono ?_; rintro e w' ⟨rfl, hw'⟩; subst w')
              go_round
              case rel => exact ⟨j + 1, by omega, by go_num, HA.out⟩
              case measure => simp [intOf]; omega
            · have HI := (show Hid _ from HIN.out (fun _ => hlt2))
              have hlt3 : ¬ ((upV M f (L.getD j 0) : Nat) : Int) < (d : Int) := by omega
              clear HIN hall
              generalize upV M f (L.getD j 0) = u at *
              by_cases hyx : L.getD j 0 = x
              · have H3 : Hid (insV M f L x = L) := by show _ = _; rw [HI.out, if_pos ⟨hjL, hyx⟩]
                rw [hyx] at hcj hbj hqj
                clear HI hcL hyx hLb hupl hq2
                go_wp2_with (go_at_call 22; refine (hqj _).mono ?_; rintro e w' ⟨rfl, hw'⟩; subst w')
                go_quiet (fail)
                all_goals
                  clear hcj hbj hqj hj1 hdj hlt3 hjL hj hqx hd hi1 hLat hsl hcap hroom hc hx hlt2
                  go_wp2
                  go_roundw
                  case rel => exact ⟨k + 1, _, c2, by omega, by go_num, by rw [HSN.out, H3.out], by rw [HSN.out, H3.out]; exact hown.below (drewN_below _ _), hbel.trans ((drewN_below _ _).mono hsz), g2, rfl⟩
                  case measure => simp [intOf]; omega
              · have H3 : Hid (insV M f L x = L.take j ++ (x :: L.drop j)) := by show _ = _; rw [HI.out, if_neg (fun h => hyx h.2)]
                clear HI hcL
                generalize L.getD j 0 = y at *
                have hne : ((y : Int) == (x : Int)) = false := by simp; omega
                go_wp2_with (go_at_call 22; refine (hqj _).mono ?_; rintro e w' ⟨rfl, hw'⟩; subst w')
                go_quiet (fail)
                all_goals
                  have hbq : Below wr.heap.size wr (wr.drewN nq) := drewN_below wr nq
                  obtain ⟨wq, hwq⟩ : ∃ wq, wq = wr.drewN nq := ⟨_, rfl⟩
                  rw [← hwq] at hbq
                  have hzq : wq.heap.size = wr.heap.size := by rw [hwq]; rfl
                  rw [← hwq]
                  clear hwq
                  have hslq := hsl.below hbq
                  have hcq := (hbq.cell (p := ⟨g, off + k, none⟩) (by show g < _; omega)).trans hc
                  have hbelq : Below w.heap.size w wq := hbel.trans (hbq.mono hsz)
                  have hto := fun w => slice_toU (some ⟨g2, 0, none⟩) L.length c2 j (by omega) w
                  obtain ⟨af, hfrm, hfa⟩ := slice_fromU g2 0 L.length c2 (j : Int) j rfl hj hcap
                  have HFA := (show Hid _ from hfa)
                  clear hfa
                  have hsz2 : w.heap.size ≤ wq.heap.size := by omega
                  clear hbq hsl hLat hc hbel hown hqx hq2 hupl hLb hzn hsz hzq
                  go_wp2_with (at_builtin; go_must (refine app_listU rfl _ _ rfl wq.heap.size _ 0 0 [] rfl (own_emptyU wq) _ j c2 (L.take j) rfl ((hslq.take j hj).alloc _) (by omega) (by simp) ?_))
                  intro a3 c3 w3 ho3 hg3
                  have hb3 : Below wq.heap.size wq w3 := ((Below.refl _ _).alloc (Nat.le_refl _) _).trans ((own_emptyU wq).up hg3 (by simp))
                  have hc3 := (hb3.cell (p := ⟨g, off + k, none⟩) (by show g < _; omega)).trans hcq
                  have hz3 := hb3.size
                  clear hg3 hcq
                  go_wp2_with (at_builtin; go_must (refine app_listU rfl _ _ rfl wq.heap.size a3 j c3 (L.take j) rfl (ho3.alloc _) _ 1 1 [x] rfl (u32_oneB _ _ x hx _ rfl) (by omega) (by simp; omega) ?_))
                  intro a4 c4 w4 ho4 hg4
                  have hb4 : Below wq.heap.size wq w4 := (hb3.alloc hz3 _).trans ((ho3.alloc _).up hg4 (by simp; omega))
                  have hz4 := hb4.size
                  clear hg4 ho3 hc3
                  have hsl4 := hslq.below hb4
                  go_wp2_with (at_builtin; go_must (refine app_listU rfl _ _ rfl wq.heap.size a4 (j + 1) c4 (L.take j ++ [x]) rfl ho4 _ (L.length - j) (c2 - j) (L.drop j) rfl (hsl4.drop j hj af HFA.out) (by omega) hz4 ?_))
                  intro a5 c5 w5 ho5 hg5
                  have hb5 : Below w.heap.size w w5 := hbelq.trans ((hb4.mono hsz2).trans ((ho4.up hg5 hz4).mono hsz2))
                  have hlen : j + 1 + (L.length - j) = (L.take j ++ (x :: L.drop j)).length := by simp; omega
                  have hex : ∃ g, a5 = some ⟨g, 0, none⟩ := by
                    rcases ho5.own.2 with ⟨_, h0⟩ | ⟨g, cap, cur, hv, _⟩
                    · omega
                    · injection hv with e1
                      exact ⟨g, e1⟩
                  rw [hlen] at ho5
                  rw [hlen]
                  have ho6 := ho5.base hsz2
                  clear hg5 ho4 ho5 hsl4 hslq hto hfrm hlen
                  go_wp2
                  go_roundw
                  case rel => exact ⟨k + 1, a5, c5, by omega, by go_num, by rw [HSN.out, H3.out], by rw [HSN.out, H3.out]; exact ho6, hb5, hex⟩
                  case measure => simp [intOf]; omega
          · have H3 : Hid (insV M f L x = L.take j ++ (x :: L.drop j)) := by show _ = _; rw [HIN.out (fun h => absurd h hjL), if_neg (fun h => absurd h.1 hjL)]
            have hj1 : ¬ (j : Int) < (L.length : Int) := by omega
            clear HIN hall hcL
            go_wp2_with fail
            go_quiet (fail)
            all_goals
              have hbq : Below wr.heap.size wr (wr.drewN nq) := drewN_below wr nq
              obtain ⟨wq, hwq⟩ : ∃ wq, wq = wr.drewN nq := ⟨_, rfl⟩
              rw [← hwq] at hbq
              have hzq : wq.heap.size = wr.heap.size := by rw [hwq]; rfl
              rw [← hwq]
              clear hwq
              have hslq := hsl.below hbq
              have hcq := (hbq.cell (p := ⟨g, off + k, none⟩) (by show g < _; omega)).trans hc
              have hbelq : Below w.heap.size w wq := hbel.trans (hbq.mono hsz)
              have hto := fun w => slice_toU (some ⟨g2, 0, none⟩) L.length c2 j (by omega) w
              obtain ⟨af, hfrm, hfa⟩ := slice_fromU g2 0 L.length c2 (j : Int) j rfl hj hcap
              have HFA := (show Hid _ from hfa)
              clear hfa
              have hsz2 : w.heap.size ≤ wq.heap.size := by omega
              clear hbq hsl hLat hc hbel hown hqx hq2 hupl hLb hzn hsz hzq
              go_wp2_with (at_builtin; go_must (refine app_listU rfl _ _ rfl wq.heap.size _ 0 0 [] rfl (own_emptyU wq) _ j c2 (L.take j) rfl ((hslq.take j hj).alloc _) (by omega) (by simp) ?_))
              intro a3 c3 w3 ho3 hg3
              have hb3 : Below wq.heap.size wq w3 := ((Below.refl _ _).alloc (Nat.le_refl _) _).trans ((own_emptyU wq).up hg3 (by simp))
              have hc3 := (hb3.cell (p := ⟨g, off + k, none⟩) (by show g < _; omega)).trans hcq
              have hz3 := hb3.size
              clear hg3 hcq
              go_wp2_with (at_builtin; go_must (refine app_listU rfl _ _ rfl wq.heap.size a3 j c3 (L.take j) rfl (ho3.alloc _) _ 1 1 [x] rfl (u32_oneB _ _ x hx _ rfl) (by omega) (by simp; omega) ?_))
              intro a4 c4 w4 ho4 hg4
              have hb4 : Below wq.heap.size wq w4 := (hb3.alloc hz3 _).trans ((ho3.alloc _).up hg4 (by simp; omega))
              have hz4 := hb4.size
              clear hg4 ho3 hc3
              have hsl4 := hslq.below hb4
              go_wp2_with (at_builtin; go_must (refine app_listU rfl _ _ rfl wq.heap.size a4 (j + 1) c4 (L.take j ++ [x]) rfl ho4 _ (L.length - j) (c2 - j) (L.drop j) rfl (hsl4.drop j hj af HFA.out) (by omega) hz4 ?_))
              intro a5 c5 w5 ho5 hg5
              have hb5 : Below w.heap.size w w5 := hbelq.trans ((hb4.mono hsz2).trans ((ho4.up hg5 hz4).mono hsz2))
              have hlen : j + 1 + (L.length - j) = (L.take j ++ (x :: L.drop j)).length := by simp; omega
              have hex : ∃ g, a5 = some ⟨g, 0, none⟩ := by
                rcases ho5.own.2 with ⟨_, h0⟩ | ⟨g, cap, cur, hv, _⟩
                · omega
                · injection hv with e1
                  exact ⟨g, e1⟩
              rw [hlen] at ho5
              rw [hlen]
              have ho6 := ho5.base hsz2
              clear hg5 ho4 ho5 hsl4 hslq hto hfrm hlen
              go_wp2
              go_roundw
              case rel => exact ⟨k + 1, a5, c5, by omega, by go_num, by rw [HSN.out, H3.out], by rw [HSN.out, H3.out]; exact ho6, hb5, hex⟩
              case measure => simp [intOf]; omega
      · obtain rfl : k = n := by omega
        have HT : Hid (zs.take k = zs) := by show _ = _; rw [← hl]; exact List.take_length
        have hsl := hown.sl (by have := sortV_len M f (zs.take k); simp at this; omega)
        rw [HT.out] at hsl
        rw [HT.out]
        go_wp2
        go_ret2
        exact ⟨_, c2, by rw [HE.out, HR.out]; rfl, by rw [HR.out]; exact hsl, hbel⟩
  · have HE : Hid (sortE b f zs = chkE b (f :: zs)) := rfl
    have HR : Hid (sortR b f zs = []) := sortR_no (by rw [HE.out]; exact he)
    have hne : ((chkE b (f :: zs) : Int) == 0) = false := by simp; omega
    generalize chkE b (f :: zs) = q at *
    go_wp2
    go_ret2
    exact ⟨none, 0, by rw [HE.out, HR.out]; rfl, by rw [HR.out]; exact SlK.nil _ _ _ (by omega), hb2⟩
end Go.Proofs.Ytpnfghchllipnaa
