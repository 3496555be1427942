/- What sums.Net answers: the Internet's sum of the bytes. -/
import Derived.Test.YtnbagloifbllbaaProg
import Derived.Test.YtnbagloifbllbaaBase
import Derived.Outline
import Derived.WalkLawsBesides
import Derived.WalkSpells
namespace Go.Proofs.Ytnbagloifbllbaa
open Go.RowKit
set_option maxHeartbeats 400000 in
theorem around_any (s : Nat) (w : World) (hs : s < 4294967296) :
    Calls Try.prog 61 #[.int .u32 s] w fun e w' => e = .returned (.int .u32 (ar s)) ∧ w' = w := by
  go_enter Try.func61, Try.ntmps61
  go_wp2
  go_loop [0] (fun v => ∃ q : Nat, q < 4294967296 ∧ v = .int .u32 q ∧ Hid (ar q = ar s)) (fun v => (intOf v).toNat)
  case atStart => exact ⟨s, hs, rfl, rfl⟩
  case round =>
    obtain ⟨q, hq, rfl, HQ⟩ := hrel
    by_cases hlt : 65535 < q
    · have HS := (show Hid _ from ar_step q hlt)
      have HA := and16 q hq
      go_wp2
      go_round
      case rel => exact ⟨q / 65536 + q % 65536, by omega, by go_num, by show ar _ = _; rw [HS.out]; exact HQ.out⟩
      case measure => simp [intOf]; omega
    · have HS := (show Hid _ from ar_small q (by omega))
      go_wp2
      go_ret
      exact ⟨ret_int (by rw [← HQ.out, HS.out]), rfl⟩

/-- The cell in which the shift stands, ahead of the k-th byte. -/
def sh (k : Nat) : Nat := if k % 2 = 0 then 0 else 8
theorem sh_le (k : Nat) : sh k ≤ 8 := by unfold sh; split <;> omega
theorem sh_next (k : Nat) : sh (k + 1) = 8 - sh k := by unfold sh; split <;> split <;> omega
theorem wt_pow (k : Nat) : 2 ^ sh (k + 1) = wt k := by
  unfold sh wt; split <;> split <;> first | omega | rfl

set_option maxHeartbeats 400000 in
theorem netstep_any (r x k : Nat) (B : Nat) (w : World) (hr : r ≤ 65535) (hx : x < 256) (hc : w.cell? ⟨B, 0, none⟩ = some (.int .i64 (sh k : Nat))) (hf : w.frozen? ⟨B, 0, none⟩ = false) :
    Calls Try.prog 60 #[.int .u32 r, .int .u8 x, .pointer (some ⟨B, 0, none⟩)] w fun e w' => e = .returned (.int .u32 (ar (r + x * wt k))) ∧ Below B w w' ∧ w'.cell? ⟨B, 0, none⟩ = some (.int .i64 (sh (k + 1) : Nat)) ∧ w'.frozen? ⟨B, 0, none⟩ = false := by
  have h1 := sh_le k
  have h2 := (show Hid _ from sh_next k)
  have HW := (show Hid _ from wt_pow k)
  have hw : wt k ≤ 256 := by unfold wt; split <;> omega
  have hm : x * wt k ≤ 255 * 256 := Nat.mul_le_mul (by omega) hw
  have HA : Hid (((r : Int) + x * 2 ^ (8 - sh k)) % 4294967296 = ((r + x * wt k : Nat) : Int)) := by
    show _ = _
    rw [← h2.out]
    have e : ((x : Int) * 2 ^ sh (k + 1)) = ((x * wt k : Nat) : Int) := by rw [← HW.out]; norm_cast
    rw [e]; omega
  have HC : Hid ((8 : Int) - (sh k : Nat) = ((sh (k + 1) : Nat) : Int)) := by
    show _ = _
    rw [h2.out]; omega
  generalize sh k = s at *
  go_enter Try.func60, Try.ntmps60
  go_wp2_with fail
  rw [HA.out]
  refine (around_any _ _ (by omega)).mono ?_
  rintro e w' ⟨rfl, rfl⟩
  go_wp2
  go_ret
  exact ⟨rfl, below_set _ _ _ _, by rw [HC.out]; exact World.cell?_setCell_same _ _ _ hc, by rw [World.frozen?_setCell]; exact hf⟩

/-- The register ahead of the k-th byte. -/
theorem ar_tot (zs : List Nat) (k : Nat) : ar (ar (totTo zs k) + zs.getD k 0 * wt k) = ar (totTo zs (k + 1)) := by
  rw [ar_add]; rfl

set_option maxHeartbeats 400000 in
theorem thr_net (a : Option Addr) (n c : Nat) (zs : List Nat) (B : Nat) (w : World) (hs : Sl w a n c zs) (hB : ∀ b off, 0 < n → a = some ⟨b, off, none⟩ → b < B)
    (hcB : w.cell? ⟨B, 0, none⟩ = some (.int .i64 0)) (hf : w.frozen? ⟨B, 0, none⟩ = false) :
    Calls Try.prog 59 #[.slice a n c, .int .u32 0, .func (.func 60) #[] #[.pointer (some ⟨B, 0, none⟩)]] w fun e w' => e = .returned (.int .u32 (ar (totTo zs n))) ∧ Below B w w' := by
  obtain ⟨hl, hcap, hroom, hsm, _, hb, hat⟩ := hs
  unfold maxLen at hroom
  go_enter Try.func59, Try.ntmps59
  go_wp2
  go_loopw [1, 11] (fun r' i wr => ∃ (k : Nat), k ≤ n ∧ i = .int .i64 k ∧ r' = .int .u32 (ar (totTo zs k)) ∧ Below B w wr ∧ wr.cell? ⟨B, 0, none⟩ = some (.int .i64 (sh k : Nat)) ∧ wr.frozen? ⟨B, 0, none⟩ = false) (fun _ i _ => n - (intOf i).toNat)
  case atStart => exact ⟨0, by omega, rfl, rfl, Below.refl _ _, hcB, hf⟩
  case round =>
    obtain ⟨k, hk, rfl, rfl, hbel, hcr, hfr⟩ := hrel
    have hq := ar_le (totTo zs k)
    by_cases hlt : k < n
    · have HE := (show Hid _ from ar_tot zs k)
      rcases hat with h0 | ⟨b, off, rfl, hlt2, hcell⟩
      · omega
      · have hc := hcell k hlt
        rw [← hbel.cell (p := ⟨b, off + k, none⟩) (hB b off (by omega) rfl)] at hc
        have hx := hb k
        have HB := (show Hid _ from hbel)
        generalize zs.getD k 0 = x at *
        generalize ar (totTo zs k) = q at *
        clear hcell hb hbel
        go_wp2_with (go_at_call 60; refine (netstep_any _ _ k _ _ hq hx hcr hfr).mono ?_; rintro e w' ⟨rfl, hb2, hc2, hf2⟩)
        go_roundw
        case rel => exact ⟨k + 1, by omega, by go_num, by rw [HE.out], HB.out.trans hb2, hc2, hf2⟩
        case measure => simp [intOf]; omega
    · obtain rfl : k = n := by omega
      go_wp2
      go_ret
      exact ⟨rfl, hbel⟩

set_option maxHeartbeats 400000 in
theorem net_any (a : Option Addr) (n c : Nat) (zs : List Nat) (w : World) (hs : Sl w a n c zs) :
    Calls Try.prog 56 #[.slice a n c] w fun e w' => e = .returned (.int .u16 (net zs)) ∧ Below w.heap.size w w' := by
  have hq := ar_le (totTo zs n)
  have HE : Hid (net zs = 65535 - ar (totTo zs n)) := by rw [← hs.len]; rfl
  have hs1 : ∀ o, Sl (w.alloc o) a n c zs := fun o => hs.below ((Below.refl _ _).alloc (Nat.le_refl _) o)
  have HB := (show Hid _ from hs.lt)
  have HN := (show Hid _ from not16 (ar (totTo zs n)) (by omega))
  go_enter Try.func56, Try.ntmps56
  go_wp2_with fail
  refine (thr_net a n c zs w.heap.size _ (hs1 _) HB.out (by simp) (by simp)).mono ?_
  rintro e w' ⟨rfl, hb⟩
  generalize ar (totTo zs n) = q at *
  go_wp2
  go_ret
  exact ⟨ret_int (by rw [HE.out, ← HN.out]), ((Below.refl _ _).alloc (Nat.le_refl _) _).trans hb⟩
end Go.Proofs.Ytnbagloifbllbaa
