/- The reference's tracker: Runs and Blocks. -/
import Derived.Test.YtlgpabdadnfbeaaGapR2
import Derived.Deep.RegionLaw
namespace Go.Proofs.Ytlgpabdadnfbeaa
open Go.RowKit
theorem cell_newR (w : World) (cs : Array Value) (t : TypeId) (B : Nat) (hB : w.heap.size = B) {i : Nat} : (w.alloc (.cells cs t)).cell? ⟨B, i, none⟩ = cs[i]? := by
  subst hB; rw [World.cell?_alloc_mark]
theorem OwnQ.take16 {w : World} {B : Nat} {a : Option Addr} {n c : Nat} {ps : List (Nat × Nat)} (h : OwnQ w B a n c ps) (h16 : 16 < n) : OwnQ w B a 16 c (ps.take 16) := by
  have hl := h.len
  obtain ⟨h1, ⟨h2, h3⟩, h4⟩ := h
  refine ⟨by simp; omega, ⟨by rw [valsQ_len]; simp; omega, ?_⟩, fun p hp => h4 p (List.mem_of_mem_take hp)⟩
  rcases h3 with ⟨_, h0⟩ | ⟨g, cap, cur, hv, hb, hh, hnc, hcm, hcs, htake⟩
  · omega
  · injection hv with e1 e2 e3
    subst e1 e3
    refine .inr ⟨g, c, cur, rfl, hb, hh, by omega, hcm, hcs, ?_⟩
    have hv : valsQ (ps.take 16) = (valsQ ps).take (16 * 2) := by
      conv => rhs; rw [← List.take_append_drop 16 ps, valsQ_app]
      rw [List.take_left' (by rw [valsQ_len]; simp; omega)]
    rw [hv, ← htake, List.take_take]
    congr 1
    omega
set_option maxRecDepth 100000 in
set_option maxHeartbeats 8000000 in
theorem rruns_any (B p : Nat) (fb db : Option Nat) (cum : Nat) (S : Nat → Bool) (ds : List Nat) (w : World) (h : RTk w B p fb db cum (farN S) ds) :
    Calls Try.prog 48 #[.pointer (some ⟨p, 0, none⟩)] w fun e w' => ∃ a c, e = .returned (.slice a (blkP (farTo S 256)).length c) ∧ OwnQ w' w.heap.size a (blkP (farTo S 256)).length c (blkP (farTo S 256)) ∧ Below w.heap.size w w' := by
  obtain ⟨a, n, c, hc1, hs, _⟩ := h.far
  have hlt := h.lt
  have hl : (farTo S 256).length = n := by have := hs.len; unfold farN at this; simpa using this
  have hn := farTo_len S 256
  have HLEN := fun i => (show Hid _ from blkP_len ((farTo S 256).take i))
  have hvb := vN_bnd S
  have hat : n = 0 ∨ ∃ b off, a = some ⟨b, off, none⟩ ∧ b < w.heap.size ∧ ∀ i, i < n → w.cell? ⟨b, off + i, none⟩ = some (.int .i64 (vN (farTo S 256) i : Nat)) := hs.at_
  have HRUN := (show Hid _ from runs_run (farTo S 256))
  clear hs h
  generalize farTo S 256 = F at *
  rw [hl] at hn
  have hoE : OwnQ (w.alloc (.cells #[] 33)) w.heap.size (some ⟨w.heap.size, 0, none⟩) 0 0 [] := ownQ_empty w
  have hbE : Below w.heap.size w (w.alloc (.cells #[] 33)) := (Below.refl _ _).alloc (Nat.le_refl _) _
  go_enter Try.func48, Try.ntmps48
  go_wp2
  go_loopw [3, 4] (fun v iv wr => ∃ (i : Nat) (a1 : Option Addr) (c1 : Nat), i ≤ n ∧ iv = .int .i64 i ∧ v = .slice a1 (blkP (F.take i)).length c1 ∧ OwnQ wr w.heap.size a1 (blkP (F.take i)).length c1 (blkP (F.take i)) ∧ Below w.heap.size w wr ∧ (i < n → i = 0 ∨ vN F i ≠ vN F (i - 1) + 1)) (fun _ iv _ => n - (intOf iv).toNat)
  case atStart => exact ⟨0, _, 0, by omega, rfl, rfl, hoE, hbE, fun _ => .inl rfl⟩
  case round =>
    obtain ⟨i, a1, c1, hi, rfl, rfl, hown, hbel, hbd⟩ := hrel
    clear hoE hbE
    have hcp := (hbel.cell (p := ⟨p, 1, none⟩) hlt).trans hc1
    by_cases hin : i < n
    · rcases hat with h0 | ⟨g, off, rfl, hltg, hcell⟩
      · omega
      have hcw : ∀ t, t < n → wr.cell? ⟨g, off + t, none⟩ = some (.int .i64 (vN F t : Nat)) := fun t ht => (hbel.cell (p := ⟨g, off + t, none⟩) hltg).trans (hcell t ht)
      have hi1 : (i : Int) < (n : Int) := by omega
      have HBD := (show Hid _ from hbd hin)
      have hsz := hbel.size
      clear hcell hbd
      obtain ⟨W0, hW0⟩ : ∃ W0, W0 = wr := ⟨_, rfl⟩
      subst hW0
      go_wp2
      go_loopw [5] (fun kv wr => ∃ (k q : Nat), i ≤ k ∧ k < n ∧ kv = .int .i64 k ∧ wr = W0.drewN q ∧ ∀ t, i ≤ t → t < k → vN F (t + 1) = vN F t + 1) (fun kv _ => n - (intOf kv).toNat)
      case atStart => exact ⟨i, 0, by omega, hin, rfl, rfl, fun t h1 h2 => by omega⟩
      case round =>
        obtain ⟨k, q1, hik, hkn, rfl, hwi, hall⟩ := hrel
        have HALL := (show Hid _ from hall)
        have HWI := (show Hid _ from hwi)
        clear hall hwi
        have hw1 : IntKind.i64.wrap ((k : Int) + 1) = (k : Int) + 1 := by rw [IntKind.wrap_i64]; omega
        have hcp2 : wr.cell? ⟨p, 1, none⟩ = some (.slice (some ⟨g, off, none⟩) n c) := by rw [HWI.out]; exact hcp
        by_cases hk2 : k + 1 < n
        · have hck : wr.cell? ⟨g, off + k, none⟩ = some (.int .i64 (vN F k : Nat)) := by rw [HWI.out]; exact hcw k hkn
          have hck1 : wr.cell? ⟨g, off + (k + 1), none⟩ = some (.int .i64 (vN F (k + 1) : Nat)) := by rw [HWI.out]; exact hcw (k + 1) hk2
          have hb1 := hvb k
          have hb2 := hvb (k + 1)
          have HBN := (show Hid _ from hvb)
          have HCW := (show Hid _ from hcw)
          clear hvb hcw
          have hk1 : (k : Int) < (n : Int) := by omega
          have hk21 : (k : Int) + 1 < (n : Int) := by omega
          have hk22 : (0 : Int) ≤ (k : Int) + 1 := by omega
          by_cases hu : vN F (k + 1) = vN F k + 1
          · have HA2 : Hid (∀ t, i ≤ t → t < k + 1 → vN F (t + 1) = vN F t + 1) := fun t h1 h2 => by
              by_cases e : t = k
              · subst e; exact hu
              · exact HALL.out t h1 (by omega)
            rw [hu] at hck1
            clear HALL hu hb2
            generalize vN F k = x at *
            have hx1 : IntKind.i64.wrap ((x : Int) + 1) = (x : Int) + 1 := by rw [IntKind.wrap_i64]; omega
            go_wp2_with fail
            go_quiet (fail)
            all_goals
              go_wp2
              go_roundw
              case rel => exact ⟨k + 1, _, by omega, hk2, by go_num, by rw [HWI.out]; exact World.drewN_drewN _ _ _, HA2.out⟩
              case measure => simp [intOf]; omega
          · have HBD3 : Hid (k + 1 < n → k + 1 = 0 ∨ vN F (k + 1) ≠ vN F (k + 1 - 1) + 1) := fun _ => .inr hu
            obtain ⟨x, hx⟩ : ∃ x, x = vN F k := ⟨_, rfl⟩
            obtain ⟨y, hy⟩ : ∃ y, y = vN F (k + 1) := ⟨_, rfl⟩
            rw [← hx] at hck hb1 hu
            rw [← hy] at hck1 hb2 hu
            have hne' : ((y : Int) == (x : Int) + 1) = false := by simp; omega
            have hx1 : IntKind.i64.wrap ((x : Int) + 1) = (x : Int) + 1 := by rw [IntKind.wrap_i64]; omega
            clear hx hy hu
            go_wp2_with fail
            go_quiet (fail)
            all_goals
              clear hne' hck hck1 hb1 hb2 hk1 hk21 hk22 hx1
              have hbn := HBN.out
              have hcw := HCW.out
              obtain ⟨wx, hwx⟩ : ∃ wx, wx = wr.drewN nq := ⟨_, rfl⟩
              rw [← hwx]
              have HWX : Hid (wx = W0.drewN (q1 + nq)) := by show _ = _; rw [hwx, HWI.out]; exact World.drewN_drewN _ _ _
              clear hwx
              have hu1 := hbn i
              have hu2 := hbn k
              have H3 : Hid (blkP (F.take (k + 1)) = blkP (F.take i) ++ [(vN F i, vN F k)]) := by
                show _ = _
                have := HRUN.out i HBD.out (k - i) (by omega) (fun t h1 h2 => HALL.out t h1 (by omega))
                rwa [show i + (k - i) = k from by omega] at this
              have hR256 : (blkP (F.take i)).length ≤ 256 := by have := (HLEN i).out; rw [List.length_take] at this; omega
              have hwq : Below W0.heap.size W0 wx := by rw [HWX.out]; exact drewN_belowR _ _
              have hown1 : OwnQ wx w.heap.size a1 (blkP (F.take i)).length c1 (blkP (F.take i)) := hown.below hwq
              have hbel1 : Below w.heap.size w wx := hbel.trans (hwq.mono hsz)
              have hci := (hwq.cell (p := ⟨g, off + i, none⟩) (by show g < _; omega)).trans (hcw i hin)
              have hck := (hwq.cell (p := ⟨g, off + k, none⟩) (by show g < _; omega)).trans (hcw k hkn)
              have hcp3 := (hwq.cell (p := ⟨p, 1, none⟩) (by show p < _; omega)).trans hcp
              have hsz1 := hbel1.size
              clear hcw hown hbel hwq HWX HBD HALL hbn HBN HCW HLEN HRUN
              generalize vN F i = y0 at *
              generalize vN F k = z0 at *
              generalize blkP (F.take i) = R at *
              have hown2 := fun o => (hown1.alloc o).below (Below.refl _ _).drew
              have hi1 : (i : Int) < (n : Int) := by omega
              have hk1 : (k : Int) < (n : Int) := by omega
              have hy16 : y0 < 65536 := by omega
              have hz16 : z0 < 65536 := by omega
              have hym : (y0 : Int) % 65536 = y0 := by omega
              have hzm : (z0 : Int) % 65536 = z0 := by omega
              have hyw : IntKind.u16.wrap (y0 : Int) = (y0 : Int) := by rw [IntKind.wrap_u16]; omega
              have hzw : IntKind.u16.wrap (z0 : Int) = (z0 : Int) := by rw [IntKind.wrap_u16]; omega
              have hcn0 : (wx.alloc (.cells #[.int .u16 (IntKind.u16.wrap (y0 : Int)), .int .u16 (IntKind.u16.wrap (z0 : Int))] 33)).drew.cell? ⟨wx.heap.size, 0, none⟩ = some (.int .u16 y0) := by rw [hyw]; exact cell_newR wx _ 33 wx.heap.size rfl (i := 0)
              have hcn1 : (wx.alloc (.cells #[.int .u16 (IntKind.u16.wrap (y0 : Int)), .int .u16 (IntKind.u16.wrap (z0 : Int))] 33)).drew.cell? ⟨wx.heap.size, 1, none⟩ = some (.int .u16 z0) := by rw [hzw]; exact cell_newR wx _ 33 wx.heap.size rfl (i := 1)
              have HC0 := (show Hid _ from hcn0)
              have HC1 := (show Hid _ from hcn1)
              clear hcn0 hcn1 hyw hzw
              go_wp2_with fail
              go_region_law (refine app_stepQ rfl _ _ rfl w.heap.size _ R.length c1 R (by simp [Act.eval]) (hown2 _) wx.heap.size y0 z0 (by simp [Act.eval]) HC0.out HC1.out hy16 hz16 (by omega) (by simp; omega) ?_; intro a2 c2 w2 ho2 hg2)
              all_goals
                have hb2 : Below w.heap.size w w2 := ((hbel1.alloc hsz1 _).drew).trans ((hown2 _).up hg2 (by simp; omega))
                clear hg2
                go_wp2
                go_roundw
                case rel => exact ⟨k + 1, a2, c2, by omega, by go_num, by rw [H3.out]; simp, by rw [H3.out]; simpa using ho2, hb2, HBD3.out⟩
                case measure => simp [intOf]; omega
        · have HBD3 : Hid (k + 1 < n → k + 1 = 0 ∨ vN F (k + 1) ≠ vN F (k + 1 - 1) + 1) := fun h => absurd h hk2
          have HBN := (show Hid _ from hvb)
          have HCW := (show Hid _ from hcw)
          clear hvb hcw
          have hk21 : decide ((k : Int) + 1 < (n : Int)) = false := by simp; omega
          go_wp2_with fail
          go_quiet (fail)
          all_goals
            clear hk21
            have hbn := HBN.out
            have hcw := HCW.out
            obtain ⟨wx, hwx⟩ : ∃ wx, wx = wr.drewN nq := ⟨_, rfl⟩
            rw [← hwx]
            have HWX : Hid (wx = W0.drewN (q1 + nq)) := by show _ = _; rw [hwx, HWI.out]; exact World.drewN_drewN _ _ _
            clear hwx
            have hu1 := hbn i
            have hu2 := hbn k
            have H3 : Hid (blkP (F.take (k + 1)) = blkP (F.take i) ++ [(vN F i, vN F k)]) := by
              show _ = _
              have := HRUN.out i HBD.out (k - i) (by omega) (fun t h1 h2 => HALL.out t h1 (by omega))
              rwa [show i + (k - i) = k from by omega] at this
            have hR256 : (blkP (F.take i)).length ≤ 256 := by have := (HLEN i).out; rw [List.length_take] at this; omega
            have hwq : Below W0.heap.size W0 wx := by rw [HWX.out]; exact drewN_belowR _ _
            have hown1 : OwnQ wx w.heap.size a1 (blkP (F.take i)).length c1 (blkP (F.take i)) := hown.below hwq
            have hbel1 : Below w.heap.size w wx := hbel.trans (hwq.mono hsz)
            have hci := (hwq.cell (p := ⟨g, off + i, none⟩) (by show g < _; omega)).trans (hcw i hin)
            have hck := (hwq.cell (p := ⟨g, off + k, none⟩) (by show g < _; omega)).trans (hcw k hkn)
            have hcp3 := (hwq.cell (p := ⟨p, 1, none⟩) (by show p < _; omega)).trans hcp
            have hsz1 := hbel1.size
            clear hcw hown hbel hwq HWX HBD HALL hbn HBN HCW HLEN HRUN
            generalize vN F i = y0 at *
            generalize vN F k = z0 at *
            generalize blkP (F.take i) = R at *
            have hown2 := fun o => (hown1.alloc o).below (Below.refl _ _).drew
            have hi1 : (i : Int) < (n : Int) := by omega
            have hk1 : (k : Int) < (n : Int) := by omega
            have hy16 : y0 < 65536 := by omega
            have hz16 : z0 < 65536 := by omega
            have hym : (y0 : Int) % 65536 = y0 := by omega
            have hzm : (z0 : Int) % 65536 = z0 := by omega
            have hyw : IntKind.u16.wrap (y0 : Int) = (y0 : Int) := by rw [IntKind.wrap_u16]; omega
            have hzw : IntKind.u16.wrap (z0 : Int) = (z0 : Int) := by rw [IntKind.wrap_u16]; omega
            have hcn0 : (wx.alloc (.cells #[.int .u16 (IntKind.u16.wrap (y0 : Int)), .int .u16 (IntKind.u16.wrap (z0 : Int))] 33)).drew.cell? ⟨wx.heap.size, 0, none⟩ = some (.int .u16 y0) := by rw [hyw]; exact cell_newR wx _ 33 wx.heap.size rfl (i := 0)
            have hcn1 : (wx.alloc (.cells #[.int .u16 (IntKind.u16.wrap (y0 : Int)), .int .u16 (IntKind.u16.wrap (z0 : Int))] 33)).drew.cell? ⟨wx.heap.size, 1, none⟩ = some (.int .u16 z0) := by rw [hzw]; exact cell_newR wx _ 33 wx.heap.size rfl (i := 1)
            have HC0 := (show Hid _ from hcn0)
            have HC1 := (show Hid _ from hcn1)
            clear hcn0 hcn1 hyw hzw
            go_wp2_with fail
            go_region_law (refine app_stepQ rfl _ _ rfl w.heap.size _ R.length c1 R (by simp [Act.eval]) (hown2 _) wx.heap.size y0 z0 (by simp [Act.eval]) HC0.out HC1.out hy16 hz16 (by omega) (by simp; omega) ?_; intro a2 c2 w2 ho2 hg2)
            all_goals
              have hb2 : Below w.heap.size w w2 := ((hbel1.alloc hsz1 _).drew).trans ((hown2 _).up hg2 (by simp; omega))
              clear hg2
              go_wp2
              go_roundw
              case rel => exact ⟨k + 1, a2, c2, by omega, by go_num, by rw [H3.out]; simp, by rw [H3.out]; simpa using ho2, hb2, HBD3.out⟩
              case measure => simp [intOf]; omega
    · obtain rfl : i = n := by omega
      have HF : Hid (F.take i = F) := by show _ = _; exact List.take_of_length_le (by omega)
      have hi2 : ¬ (i : Int) < (i : Int) := by omega
      go_wp2
      go_ret
      exact ⟨a1, c1, by rw [HF.out]; rfl, by rw [HF.out] at hown; exact hown, hbel⟩
set_option maxHeartbeats 2000000 in
theorem rblocks_any (B p : Nat) (fb db : Option Nat) (cum : Nat) (S : Nat → Bool) (ds : List Nat) (w : World) (h : RTk w B p fb db cum (farN S) ds) :
    Calls Try.prog 42 #[.pointer (some ⟨p, 0, none⟩)] w fun e w' => ∃ a c, e = .returned (.slice a ((blkP (farTo S 256)).take 16).length c) ∧ OwnQ w' w.heap.size a ((blkP (farTo S 256)).take 16).length c ((blkP (farTo S 256)).take 16) ∧ Below w.heap.size w w' := by
  have hr := rruns_any B p fb db cum S ds w h
  generalize blkP (farTo S 256) = R at *
  go_enter Try.func42, Try.ntmps42
  go_wp2_with fail
  refine hr.mono ?_
  rintro e w1 ⟨a1, c1, rfl, ho, hb⟩
  obtain ⟨n, hn⟩ : ∃ n, n = R.length := ⟨_, rfl⟩
  rw [← hn] at ho
  rw [← hn]
  by_cases h16 : 16 < n
  · have HT : Hid ((R.take 16).length = 16) := by show _ = _; rw [List.length_take]; omega
    have ho16 : OwnQ w1 w.heap.size a1 16 c1 (R.take 16) := ho.take16 h16
    have h16' : (16 : Int) < (n : Int) := by omega
    obtain ⟨g, rfl, _, _, hnc, hcm, _, _⟩ := ho.at_ (by omega)
    clear hr ho
    go_wp2
    go_ret
    exact ⟨_, c1, by rw [HT.out]; rfl, by rw [HT.out]; exact ho16, hb⟩
  · have HT : Hid (R.take 16 = R) := by show _ = _; exact List.take_of_length_le (by omega)
    have h16' : ¬ (16 : Int) < (n : Int) := by omega
    clear hr
    go_wp2
    go_ret
    exact ⟨a1, c1, by rw [HT.out, ← hn]; rfl, by rw [HT.out, ← hn]; exact ho, hb⟩
end Go.Proofs.Ytlgpabdadnfbeaa
