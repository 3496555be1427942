/- What the reference's Span answers: the same. -/
import Derived.Test.YtpnfghchllipnabSpan3
import Derived.Test.YtpnfghchllipnabRef3
import Derived.Test.YtpnfghchllipnabSort3
import Derived.Deep.RegionHeld3
namespace Go.Proofs.Ytpnfghchllipnab
open Go.RowKit
theorem rest_next (M x y : Nat) (hx : x < M) (hy : y < M) (hM : 1 < M) : (restV M ((x : Int) + 1) = y ↔ upV M x y = 1) ∧ restV M ((x : Int) + 1) < M := by
  have e : restV M ((x : Int) + 1) = (x + 1) % M := by
    unfold restV
    norm_cast
  rw [e]
  exact ⟨⟨fun h => one_up M x y hx hM h.symm, fun h => (up_one M x y hx hy h).symm⟩, Nat.mod_lt _ (by omega)⟩
set_option maxRecDepth 100000 in
set_option maxHeartbeats 4000000 in
theorem rspan_any (b : Int) (a : Option Addr) (n c : Nat) (zs : List Nat) (w : World) (hs : SlK .u32 4294967296 w a n c zs) :
    Calls Try.prog 14 #[.int .i64 b, .slice a n c] w fun e w' => ∃ a' c', e = .returned (.tuple #[.slice a' (spanR b zs).length c', .int .i64 (spanE b zs : Nat)]) ∧ OwnP w' w.heap.size a' (spanR b zs).length c' (spanR b zs) ∧ Below w.heap.size w w' := by
  have hck := rcheck_any b a n c zs w hs
  have hl := hs.len
  have hsm := hs.small
  by_cases he : chkE b zs = 0
  · by_cases h256 : 256 < n
    · have HE : Hid (spanE b zs = 6) := by show _ = _; unfold spanE; rw [if_pos he, if_pos (by omega)]
      have HR : Hid (spanR b zs = []) := spanR_no (by rw [HE.out]; omega)
      rw [he] at hck
      go_enter Try.func14, Try.ntmps14
      go_wp2_with (go_at_call 32; refine hck.mono ?_; rintro e w' ⟨rfl, q, hw'⟩; subst w')
      go_ret2
      exact ⟨none, 0, by rw [HE.out, HR.out]; rfl, by rw [HR.out]; exact OwnP.nil _ _, drewN_below _ _⟩
    · have HE : Hid (spanE b zs = 0) := by show _ = _; unfold spanE; rw [if_pos he, if_neg (by omega)]
      have HR : Hid (spanR b zs = spanTo (rnd b) zs n) := by show _ = _; unfold spanR; rw [if_pos HE.out, hl]
      have hbn := bnd_rnd (chkE_ok he).2
      have hq := fun z w => rest_any b ((z : Int) + 1) w
      rw [he] at hck
      have hM := rnd_le b
      have hM1 : 1 < rnd b := by have := rnd_two b; omega
      have hnext := fun x y hx hy => rest_next (rnd b) x y hx hy hM1
      clear he
      generalize rnd b = M at *
      go_enter Try.func14, Try.ntmps14
      go_wp2_with (go_at_call 32; refine hck.mono ?_; rintro e w' ⟨rfl, q, hw'⟩; subst w')
      have hbq : Below w.heap.size w (w.drewN q) := drewN_below w q
      have hoE : OwnP ((w.drewN q).alloc (.cells #[] 36)) w.heap.size (some ⟨w.heap.size, 0, none⟩) 0 0 [] := ownP_empty (w.drewN q)
      have hbE : Below w.heap.size w ((w.drewN q).alloc (.cells #[] 36)) := hbq.alloc hbq.size _
      clear hbq
      clear hck
      go_loopw [7, 8] (fun v i wr => ∃ (k : Nat) (a1 : Option Addr) (c1 : Nat), k ≤ n ∧ i = .int .i64 k ∧ v = .slice a1 (spanTo M zs k).length c1 ∧ OwnP wr w.heap.size a1 (spanTo M zs k).length c1 (spanTo M zs k) ∧ Below w.heap.size w wr ∧ (k < n → ¬ (0 < k ∧ upV M (zs.getD (k - 1) 0) (zs.getD k 0) = 1))) (fun _ i _ => n - (intOf i).toNat)
      case atStart => exact ⟨0, _, 0, by omega, rfl, rfl, hoE, hbE, fun _ h => by omega⟩
      case round =>
        obtain ⟨i, a1, c1, hi, rfl, rfl, hown, hbel, hbd⟩ := hrel
        clear hoE hbE
        by_cases hin : i < n
        · rcases hs.at_ with h0 | ⟨g, off, rfl, hlt, hcell⟩
          · omega
          have hll := (spanTo_len M zs i).1
          have hsz := hbel.size
          have HBD := (show Hid _ from hbd hin)
          clear hbd
          have hcw : ∀ t, t < n → wr.cell? ⟨g, off + t, none⟩ = some (.int .u32 (zs.getD t 0 : Nat)) := fun t ht => (hbel.cell (p := ⟨g, off + t, none⟩) hlt).trans (hcell t ht)
          clear hcell
          obtain ⟨W0, hW0⟩ : ∃ W0, W0 = wr := ⟨_, rfl⟩
          subst hW0
          go_wp2
          go_loopw [9] (fun kv wr => ∃ (k q : Nat), i ≤ k ∧ k < n ∧ kv = .int .i64 k ∧ wr = W0.drewN q ∧ ∀ t, i ≤ t → t < k → upV M (zs.getD t 0) (zs.getD (t + 1) 0) = 1) (fun kv _ => n - (intOf kv).toNat)
          case atStart => exact ⟨i, 0, by omega, hin, rfl, rfl, fun t h1 h2 => by omega⟩
          case round =>
            obtain ⟨k, q1, hik, hkn, rfl, hwi, hall⟩ := hrel
            have HALL := (show Hid _ from hall)
            have HWI := (show Hid _ from hwi)
            clear hall hwi
            have hw1 : IntKind.i64.wrap ((k : Int) + 1) = (k : Int) + 1 := by rw [IntKind.wrap_i64]; omega
            by_cases hk2 : k + 1 < n
            · have hck : wr.cell? ⟨g, off + k, none⟩ = some (.int .u32 (zs.getD k 0 : Nat)) := by rw [HWI.out]; exact hcw k hkn
              have hck1 : wr.cell? ⟨g, off + (k + 1), none⟩ = some (.int .u32 (zs.getD (k + 1) 0 : Nat)) := by rw [HWI.out]; exact hcw (k + 1) hk2
              have hb1 := hbn k
              have hb2 := hbn (k + 1)
              obtain ⟨hnx, hnl⟩ := hnext _ _ hb1 hb2
              have hqk := hq (zs.getD k 0)
              have HBN := (show Hid _ from hbn)
              have HCW := (show Hid _ from hcw)
              clear hnext hq hbn hcw
              have hk1 : (k : Int) < (n : Int) := by omega
              have hk21 : (k : Int) + 1 < (n : Int) := by omega
              have hk22 : (0 : Int) ≤ (k : Int) + 1 := by omega
              by_cases hu : upV M (zs.getD k 0) (zs.getD (k + 1) 0) = 1
              · have HA2 : Hid (∀ t, i ≤ t → t < k + 1 → upV M (zs.getD t 0) (zs.getD (t + 1) 0) = 1) := fun t h1 h2 => by
                  by_cases e : t = k
                  · subst e; exact hu
                  · exact HALL.out t h1 (by omega)
                have e2 := hnx.2 hu
                rw [e2] at hqk
                clear hnx hnl HALL e2 hu
                generalize zs.getD k 0 = x at *
                generalize zs.getD (k + 1) 0 = y at *
                go_wp2_with fail
                go_quiet ((go_at_call 33; exact Calls.quiet_of_same (hqk _)))
                all_goals
                  go_wp2
                  go_roundw
                  case rel => exact ⟨k + 1, _, by omega, hk2, by go_num, by rw [HWI.out]; exact World.drewN_drewN _ _ _, HA2.out⟩
                  case measure => simp [intOf]; omega
              · have hbd2 : k + 1 < n → ¬ (0 < k + 1 ∧ upV M (zs.getD (k + 1 - 1) 0) (zs.getD (k + 1) 0) = 1) := fun _ h => hu h.2
                have hne : ¬ restV M ((zs.getD k 0 : Int) + 1) = zs.getD (k + 1) 0 := fun e => hu (hnx.1 e)
                have hne' : ((restV M ((zs.getD k 0 : Int) + 1) : Int) == (zs.getD (k + 1) 0 : Int)) = false := by
                  generalize restV M ((zs.getD k 0 : Int) + 1) = r1 at *
                  generalize zs.getD (k + 1) 0 = r2 at *
                  simp; omega
                have HBD3 := (show Hid _ from hbd2)
                clear hnx hnl hu hne hbd2
                obtain ⟨x, hx⟩ : ∃ x, x = zs.getD k 0 := ⟨_, rfl⟩
                obtain ⟨y, hy⟩ : ∃ y, y = zs.getD (k + 1) 0 := ⟨_, rfl⟩
                rw [← hx] at hqk hck hne' hb1
                rw [← hy] at hck1 hne' hb2
                clear hx hy
                generalize restV M ((x : Int) + 1) = r1 at *
                go_wp2_with fail
                go_quiet ((go_at_call 33; exact Calls.quiet_of_same (hqk _)))
                all_goals
                  clear hqk hne' hck hck1 hb1 hb2 hk1 hk21 hk22
                  have hbn := HBN.out
                  have hcw := HCW.out
                  obtain ⟨wx, hwx⟩ : ∃ wx, wx = wr.drewN nq := ⟨_, rfl⟩
                  rw [← hwx]
                  have HWX : Hid (wx = W0.drewN (q1 + nq)) := by show _ = _; rw [hwx, HWI.out]; exact World.drewN_drewN _ _ _
                  have hbd2 := HBD3.out
                  clear hwx HBD3
                  have hu1 := hbn i
                  have hu2 := hbn k
                  have H3 : Hid (spanTo M zs (k + 1) = spanTo M zs i ++ [(zs.getD i 0, zs.getD k 0)]) := by
                    show _ = _
                    have := spanTo_run M zs i HBD.out (k - i) (fun t h1 h2 => HALL.out t h1 (by omega))
                    rwa [show i + (k - i) = k from by omega] at this
                  have hwq : Below W0.heap.size W0 wx := by rw [HWX.out]; exact drewN_below _ _
                  have hown1 : OwnP wx w.heap.size a1 (spanTo M zs i).length c1 (spanTo M zs i) := hown.below hwq
                  have hbel1 : Below w.heap.size w wx := hbel.trans (hwq.mono hsz)
                  have hci := (hwq.cell (p := ⟨g, off + i, none⟩) (by show g < _; omega)).trans (hcw i hin)
                  have hck := (hwq.cell (p := ⟨g, off + k, none⟩) (by show g < _; omega)).trans (hcw k hkn)
                  have hsz1 := hbel1.size
                  have HBD2 := (show Hid _ from hbd2)
                  clear hbd2 hcw hown hbel hwq HWX HBD HALL hbn HBN HCW
                  generalize zs.getD i 0 = y0 at *
                  generalize zs.getD k 0 = z0 at *
                  generalize spanTo M zs i = R at *
                  have hown2 : OwnP wx.drew w.heap.size a1 R.length c1 R := hown1.below (Below.refl _ _).drew
                  have hi1 : (i : Int) < (n : Int) := by omega
                  have hk1 : (k : Int) < (n : Int) := by omega
                  have hy32 : y0 < 4294967296 := by omega
                  have hz32 : z0 < 4294967296 := by omega
                  have hcn0 : (wx.drew.alloc (.cells #[.int .u32 y0, .int .u32 z0] 36)).cell? ⟨wx.heap.size, 0, none⟩ = some (.int .u32 y0) := by
                    have := cell_new wx.drew #[.int .u32 y0, .int .u32 z0] 36 wx.heap.size rfl (i := 0)
                    exact this
                  have hcn1 : (wx.drew.alloc (.cells #[.int .u32 y0, .int .u32 z0] 36)).cell? ⟨wx.heap.size, 1, none⟩ = some (.int .u32 z0) := by
                    have := cell_new wx.drew #[.int .u32 y0, .int .u32 z0] 36 wx.heap.size rfl (i := 1)
                    exact this
                  have HC0 := (show Hid _ from hcn0)
                  have HC1 := (show Hid _ from hcn1)
                  clear hcn0 hcn1
                  go_wp2_with fail
                  go_region_law (refine app_stepP rfl _ _ rfl w.heap.size _ R.length c1 R (by simp [Act.eval]) (hown2.alloc _) wx.heap.size y0 z0 (by simp [Act.eval]) HC0.out HC1.out hy32 hz32 (by omega) (by simp; omega) ?_; intro a2 c2 w2 ho2 hg2)
                  all_goals
                    have hb2 : Below w.heap.size w w2 := ((hbel1.drew).alloc hsz1 _).trans ((hown2.alloc _).up hg2 (by simp; omega))
                    clear hg2
                    go_wp2
                    go_roundw
                    case rel => exact ⟨k + 1, a2, c2, by omega, by go_num, by rw [H3.out]; simp, by rw [H3.out]; simpa using ho2, hb2, HBD2.out⟩
                    case measure => simp [intOf]; omega
            · have hbd2 : k + 1 < n → ¬ (0 < k + 1 ∧ upV M (zs.getD (k + 1 - 1) 0) (zs.getD (k + 1) 0) = 1) := fun h => absurd h hk2
              have HBD3 := (show Hid _ from hbd2)
              have HBN := (show Hid _ from hbn)
              have HCW := (show Hid _ from hcw)
              clear hnext hq hbn hcw
              have hk21 : decide ((k : Int) + 1 < (n : Int)) = false := by simp; omega
              clear hbd2
              go_wp2_with fail
              go_quiet (fail)
              all_goals
                clear hk21
                have hbn := HBN.out
                have hcw := HCW.out
                obtain ⟨wx, hwx⟩ : ∃ wx, wx = wr.drewN nq := ⟨_, rfl⟩
                rw [← hwx]
                have HWX : Hid (wx = W0.drewN (q1 + nq)) := by show _ = _; rw [hwx, HWI.out]; exact World.drewN_drewN _ _ _
                have hbd2 := HBD3.out
                clear hwx HBD3
                have hu1 := hbn i
                have hu2 := hbn k
                have H3 : Hid (spanTo M zs (k + 1) = spanTo M zs i ++ [(zs.getD i 0, zs.getD k 0)]) := by
                  show _ = _
                  have := spanTo_run M zs i HBD.out (k - i) (fun t h1 h2 => HALL.out t h1 (by omega))
                  rwa [show i + (k - i) = k from by omega] at this
                have hwq : Below W0.heap.size W0 wx := by rw [HWX.out]; exact drewN_below _ _
                have hown1 : OwnP wx w.heap.size a1 (spanTo M zs i).length c1 (spanTo M zs i) := hown.below hwq
                have hbel1 : Below w.heap.size w wx := hbel.trans (hwq.mono hsz)
                have hci := (hwq.cell (p := ⟨g, off + i, none⟩) (by show g < _; omega)).trans (hcw i hin)
                have hck := (hwq.cell (p := ⟨g, off + k, none⟩) (by show g < _; omega)).trans (hcw k hkn)
                have hsz1 := hbel1.size
                have HBD2 := (show Hid _ from hbd2)
                clear hbd2 hcw hown hbel hwq HWX HBD HALL hbn HBN HCW
                generalize zs.getD i 0 = y0 at *
                generalize zs.getD k 0 = z0 at *
                generalize spanTo M zs i = R at *
                have hown2 : OwnP wx.drew w.heap.size a1 R.length c1 R := hown1.below (Below.refl _ _).drew
                have hi1 : (i : Int) < (n : Int) := by omega
                have hk1 : (k : Int) < (n : Int) := by omega
                have hy32 : y0 < 4294967296 := by omega
                have hz32 : z0 < 4294967296 := by omega
                have hcn0 : (wx.drew.alloc (.cells #[.int .u32 y0, .int .u32 z0] 36)).cell? ⟨wx.heap.size, 0, none⟩ = some (.int .u32 y0) := by
                  have := cell_new wx.drew #[.int .u32 y0, .int .u32 z0] 36 wx.heap.size rfl (i := 0)
                  exact this
                have hcn1 : (wx.drew.alloc (.cells #[.int .u32 y0, .int .u32 z0] 36)).cell? ⟨wx.heap.size, 1, none⟩ = some (.int .u32 z0) := by
                  have := cell_new wx.drew #[.int .u32 y0, .int .u32 z0] 36 wx.heap.size rfl (i := 1)
                  exact this
                have HC0 := (show Hid _ from hcn0)
                have HC1 := (show Hid _ from hcn1)
                clear hcn0 hcn1
                go_wp2_with fail
                go_region_law (refine app_stepP rfl _ _ rfl w.heap.size _ R.length c1 R (by simp [Act.eval]) (hown2.alloc _) wx.heap.size y0 z0 (by simp [Act.eval]) HC0.out HC1.out hy32 hz32 (by omega) (by simp; omega) ?_; intro a2 c2 w2 ho2 hg2)
                all_goals
                  have hb2 : Below w.heap.size w w2 := ((hbel1.drew).alloc hsz1 _).trans ((hown2.alloc _).up hg2 (by simp; omega))
                  clear hg2
                  go_wp2
                  go_roundw
                  case rel => exact ⟨k + 1, a2, c2, by omega, by go_num, by rw [H3.out]; simp, by rw [H3.out]; simpa using ho2, hb2, HBD2.out⟩
                  case measure => simp [intOf]; omega
        · obtain rfl : i = n := by omega
          go_wp2
          go_ret2
          exact ⟨a1, c1, by rw [HE.out, HR.out]; rfl, by rw [HR.out]; exact hown, hbel⟩
  · have HE : Hid (spanE b zs = chkE b zs) := by show _ = _; unfold spanE; rw [if_neg he]
    have HR : Hid (spanR b zs = []) := spanR_no (by rw [HE.out]; exact he)
    have hne : ((chkE b zs : Int) == 0) = false := by simp; omega
    generalize chkE b zs = q at *
    go_enter Try.func14, Try.ntmps14
    go_wp2_with (go_at_call 32; refine hck.mono ?_; rintro e w' ⟨rfl, q, hw'⟩; subst w')
    go_ret2
    exact ⟨none, 0, by rw [HE.out, HR.out]; rfl, by rw [HR.out]; exact OwnP.nil _ _, drewN_below _ _⟩
end Go.Proofs.Ytpnfghchllipnab
