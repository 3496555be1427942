/- The pieces of a packet, one behind the other: mathematics; slices of bytes. -/
import Derived.Test.YtnbagloifbllbaaOwnK
import Derived.Test.YtnbagloifbllbaaIpM
import Derived.Test.YtnbagloifbllbaaSlc
namespace Go.Proofs.Ytnbagloifbllbaa
open Go.RowKit
theorem slice_lh (b off n c l h : Nat) (hl : l ≤ h) (hh : h ≤ c) : ∃ a', (∀ w, (Instr.slice 24 (.slice (some ⟨b, off, none⟩) n c) (some (.int .i64 (l : Int))) (some (.int .i64 (h : Int))) none).run Try.prog w = .ok (.slice (some a') (h - l) (c - l)) w) ∧ (l < h → a' = ⟨b, off + l, none⟩) := by
  refine ⟨if c = l then ⟨b, off, none⟩ else ⟨b, off + l, none⟩, fun w => ?_, fun hx => by rw [if_neg (by omega)]⟩
  rw [run_slice_lh w 24 _ n c und8 .i64 .i64 l h (by omega) (by omega) (by omega), size8]
  simp only [Result.andThen, sliced, Int.toNat_natCast]
  split <;> simp [Addr.add]
theorem SlK.midE {k : IntKind} {M : Nat} {w : World} {b off : Nat} {n c : Nat} {zs : List Nat} (h : SlK k M w (some ⟨b, off, none⟩) n c zs) (l j : Nat) (hj : l ≤ j) (hn : j ≤ n) (hM : 0 < M) (a' : Addr) (ha : l < j → a' = ⟨b, off + l, none⟩) : SlK k M w (some a') (j - l) (c - l) ((zs.drop l).take (j - l)) := by
  by_cases hq : l < j
  · have h1 := h.dropE l (by omega) ⟨b, off + l, none⟩ (fun _ => rfl)
    rw [ha hq]
    exact h1.takeE (j - l) (by omega) hM
  · obtain rfl : l = j := by omega
    have hr := h.room
    have hc := h.cap
    refine ⟨by simp, by omega, by omega, by omega, (fun e => by cases e), fun i => by simp [hM], .inl (by omega)⟩
/-- How many pieces there are. -/
def cutN (n s : Nat) : Nat := (n + s - 1) / s
theorem slice_lhm (b off n c l h : Nat) (hl : l < h) (hh : h ≤ c) : ∀ w, (Instr.slice 24 (.slice (some ⟨b, off, none⟩) n c) (some (.int .i64 (l : Int))) (some (.int .i64 (h : Int))) (some (.int .i64 (h : Int)))).run Try.prog w = .ok (.slice (some ⟨b, off + l, none⟩) (h - l) (h - l)) w := by
  intro w
  rw [run_slice_lhm w 24 _ n c und8 .i64 .i64 .i64 l h h (by omega) (by omega) (by omega) (by omega), size8]
  simp only [Result.andThen, sliced, Int.toNat_natCast]
  rw [if_neg (by omega)]
  simp [Addr.add]
def spE (dn mo : Bool) (of : Int) (n : Nat) (mtu : Int) : Nat := if mbE mo of n ≠ 0 then mbE mo of n else if mtu < 28 then 2 else if (n : Int) ≤ mtu - 20 then 0 else if dn = true then 10 else 0
def spS (mtu : Int) : Nat := (mtu - 20).toNat / 8 * 8
/-- Pieces ps of a packet, K of them; P j: how many bytes lie ahead of number j. -/
structure PcR (w : World) (sr ds pr tt id : Nat) (dn mo : Bool) (of : Int) (zs : List Nat) (mtu : Int) (P : Nat → Nat) (ps : List Pk) : Prop where
  p0 : P 0 = 0
  pK : P ps.length = zs.length
  each : ∀ (j : Nat) (x : Pk), ps[j]? = some x → x.sr = sr ∧ x.ds = ds ∧ x.pr = pr ∧ x.tt = tt ∧ x.id = id ∧ x.dn = dn ∧ x.of = of + (P j : Int) ∧ x.mo = (mo || decide (j + 1 < ps.length)) ∧ Sl w x.a x.n x.c ((zs.drop (P j)).take x.n) ∧ P (j + 1) = P j + x.n ∧ P j + x.n ≤ zs.length ∧ mbE x.mo x.of x.n = 0 ∧ (20 : Int) + x.n ≤ mtu
theorem PcR.below {w w' : World} {sr ds pr tt id : Nat} {dn mo : Bool} {of : Int} {zs : List Nat} {mtu : Int} {P : Nat → Nat} {ps : List Pk} (h : PcR w sr ds pr tt id dn mo of zs mtu P ps) (hb : Below w.heap.size w w') : PcR w' sr ds pr tt id dn mo of zs mtu P ps :=
  ⟨h.p0, h.pK, fun j x hx => by
    obtain ⟨h1, h2, h3, h4, h5, h6, h7, h8, h9, h10⟩ := h.each j x hx
    exact ⟨h1, h2, h3, h4, h5, h6, h7, h8, h9.below hb, h10⟩⟩
theorem cut_more (n s j : Nat) (hs : 1 ≤ s) (hn : 0 < n) : ((j + 1) * s < n ↔ j + 1 < cutN n s) := by
  unfold cutN
  have h := Nat.le_div_iff_mul_le (x := j + 1 + 1) (y := n + s - 1) (show 0 < s by omega)
  have e : (j + 1 + 1) * s = (j + 1) * s + s := by rw [Nat.add_mul (j + 1)]; omega
  rw [e] at h
  constructor
  · intro h1
    exact h.2 (by omega)
  · intro h1
    have := h.1 h1
    omega
theorem cut_last (n s : Nat) (hs : 1 ≤ s) (hn : 0 < n) : n ≤ cutN n s * s ∧ 0 < cutN n s := by
  have h0 : 0 < cutN n s := by
    unfold cutN
    exact Nat.div_pos (by omega) (by omega)
  refine ⟨?_, h0⟩
  obtain ⟨k, hk⟩ : ∃ k, cutN n s = k + 1 := ⟨cutN n s - 1, by omega⟩
  have := cut_more n s k hs hn
  rw [hk] at this ⊢
  have h2 : ¬ (k + 1) * s < n := fun h => by have := this.1 h; omega
  omega
def spP (mtu : Int) (n j : Nat) : Nat := if (n : Int) ≤ mtu - 20 then (if j = 0 then 0 else n) else min (j * spS mtu) n
def spK (mtu : Int) (n : Nat) : Nat := if (n : Int) ≤ mtu - 20 then 1 else cutN n (spS mtu)
end Go.Proofs.Ytnbagloifbllbaa
