/- streams: how many bytes pieces have. -/
import Derived.Test.YtjaheelgcjafcaaSmW
namespace Go.Proofs.Ytjaheelgcjafcaa
open Go.RowKit
theorem byP_take {ps : List Pc} {i : Nat} {x : Pc} (h : ps[i]? = some x) : byP (ps.take (i + 1)) = byP (ps.take i) + x.zs.length := by
  unfold byP
  rw [List.take_add_one, h]
  simp
theorem byP_le : ∀ (ps : List Pc), (∀ x ∈ ps, x.zs.length ≤ 1452) → byP ps ≤ 1452 * ps.length
  | [], _ => Nat.le_refl _
  | x :: ps, h => by
    have h1 := byP_le ps (fun y hy => h y (List.mem_cons_of_mem _ hy))
    have h2 := h x List.mem_cons_self
    unfold byP at h1 ⊢
    simp only [List.map_cons, List.sum_cons, List.length_cons]
    omega
theorem byP_take_le {ps : List Pc} (h : ∀ x ∈ ps, x.zs.length ≤ 1452) (i : Nat) : byP (ps.take i) ≤ 1452 * ps.length := by
  refine Nat.le_trans (byP_le _ (fun x hx => h x (List.mem_of_mem_take hx))) ?_
  rw [List.length_take]
  exact Nat.mul_le_mul_left _ (by omega)
theorem RowW.small {Y : Nat → Prop} {w : World} {a : Option Addr} {c : Nat} {ps : List Pc} (h : RowW Y w a c ps) : ∀ x ∈ ps, x.zs.length ≤ 1452 := fun x hx => by
  rw [(h.each x hx).len]
  exact (h.each x hx).ok.n1
set_option maxRecDepth 100000 in
set_option maxHeartbeats 2000000 in
theorem bytesOf_any {Y : Nat → Prop} {w : World} {a : Option Addr} {c : Nat} {ps : List Pc} (h : RowW Y w a c ps) :
    Calls Try.prog 29 #[.slice a ps.length c] w fun e w' => e = .returned (.int .i64 (byP ps : Nat)) ∧ Below w.heap.size w w' := by
  have hsm := byP_take_le h.small
  have hle := h.le
  have hcap := h.cap
  obtain ⟨g, rfl, hg, _, hcell⟩ := h.at_
  have HE := (show Hid _ from h.each)
  have HC := (show Hid _ from hcell)
  obtain ⟨n, hn⟩ : ∃ n, n = ps.length := ⟨_, rfl⟩
  rw [← hn] at hsm hle hcap ⊢
  have HN := (show Hid _ from hn)
  clear hcell h hn
  go_enter Try.func29, Try.ntmps29
  go_wp2
  go_loopw [3, 8] (fun u3 u8 wr => ∃ i : Nat, i ≤ n ∧ u8 = .int .i64 (i : Nat) ∧ u3 = .int .i64 (byP (ps.take i) : Nat) ∧ Below w.heap.size w wr) (fun _ u8 _ => n - (intOf u8).toNat)
  case atStart => exact ⟨0, by omega, rfl, rfl, Below.refl _ _⟩
  case round =>
    obtain ⟨i, hi, rfl, rfl, hb⟩ := hrel
    have hsi := hsm i
    by_cases hlt : i < n
    · have hlt1 : (i : Int) < (n : Int) := by omega
      obtain ⟨x, hx⟩ : ∃ x, ps[i]? = some x := ⟨_, List.getElem?_eq_getElem (by have := HN.out; omega)⟩
      have hxw := HE.out x (List.mem_of_getElem? hx)
      have hn1 := hxw.ok.n1
      have HT : Hid (byP (ps.take (i + 1)) = byP (ps.take i) + x.n) := by show _ = _; rw [byP_take hx, hxw.len]
      have hc := fun k u (hu : x.v[k]? = some u) => (hb.cell (p := ⟨g, i * 5 + k, none⟩) hg).trans (HC.out i x hx k u hu)
      have h0 := hc 0 _ rfl
      have h1 := hc 1 _ rfl
      have h2 := hc 2 _ rfl
      have h3 := hc 3 _ rfl
      have h4 := hc 4 _ rfl
      rw [Nat.add_zero] at h0
      clear hc hxw hx
      obtain ⟨fl, st, ss, pp, a1, n1, c1, zs⟩ := x
      dsimp only at h0 h1 h2 h3 h4 HT hn1
      generalize byP (ps.take i) = m at *
      have HB := (show Hid _ from hb)
      clear hb
      go_wp2
      go_roundw
      case rel => exact ⟨i + 1, by omega, by go_num, by rw [HT.out]; go_num, by first | exact HB.out.alloc HB.out.size _ | exact HB.out⟩
      case measure => simp [intOf]; omega
    · obtain rfl : i = n := by omega
      have HB := (show Hid _ from hb)
      clear hb
      go_wp2
      go_ret
      have e : ps.take i = ps := List.take_of_length_le (by have := HN.out; omega)
      exact ⟨by rw [e]; rfl, HB.out⟩
end Go.Proofs.Ytjaheelgcjafcaa
