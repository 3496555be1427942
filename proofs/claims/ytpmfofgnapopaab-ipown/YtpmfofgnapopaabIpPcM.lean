/- The pieces that Split answers, one behind the other: mathematics. -/
import Derived.Test.YtpmfofgnapopaabIpSplit
namespace Go.Proofs.Ytpmfofgnapopaab
open Go.RowKit
/-- Pieces ps of a packet, K of them; P j: how many bytes lie ahead of number j. -/
structure PcR (w : World) (sr ds pr tt id : Nat) (dn mo : Bool) (of : Int) (zs : List Nat) (mtu : Int) (P : Nat → Nat) (ps : List Pk) : Prop where
  p0 : P 0 = 0
  pK : P ps.length = zs.length
  each : ∀ (j : Nat) (x : Pk), ps[j]? = some x → x.sr = sr ∧ x.ds = ds ∧ x.pr = pr ∧ x.tt = tt ∧ x.id = id ∧ x.dn = dn ∧ x.of = of + (P j : Int) ∧ x.mo = (mo || decide (j + 1 < ps.length)) ∧ Sl w x.a x.n x.c ((zs.drop (P j)).take x.n) ∧ P (j + 1) = P j + x.n ∧ P j + x.n ≤ zs.length ∧ mbE x.mo x.of x.n = 0 ∧ (20 : Int) + x.n ≤ mtu
theorem PcR.below {w w' : World} {sr ds pr tt id : Nat} {dn mo : Bool} {of : Int} {zs : List Nat} {mtu : Int} {P : Nat → Nat} {ps : List Pk} (h : PcR w sr ds pr tt id dn mo of zs mtu P ps) (hb : Below w.heap.size w w') : PcR w' sr ds pr tt id dn mo of zs mtu P ps :=
  ⟨h.p0, h.pK, fun j x hx => by
    obtain ⟨h1, h2, h3, h4, h5, h6, h7, h8, h9, h10⟩ := h.each j x hx
    exact ⟨h1, h2, h3, h4, h5, h6, h7, h8, h9.below hb, h10⟩⟩
theorem cut_more (n s j : Nat) (hs : 1 ≤ s) (hn : 0 < n) : ((j + 1) * s < n ↔ j + 1 < cutN n s) := by
  unfold cutN
  have h := Nat.le_div_iff_mul_le (x := j + 1 + 1) (y := n + s - 1) (show 0 < s by omega)
  have e : (j + 1 + 1) * s = (j + 1) * s + s := by rw [Nat.add_mul (j + 1)]; omega
  rw [e] at h
  constructor
  · intro h1
    exact h.2 (by omega)
  · intro h1
    have := h.1 h1
    omega
theorem cut_last (n s : Nat) (hs : 1 ≤ s) (hn : 0 < n) : n ≤ cutN n s * s ∧ 0 < cutN n s := by
  have h0 : 0 < cutN n s := by
    unfold cutN
    exact Nat.div_pos (by omega) (by omega)
  refine ⟨?_, h0⟩
  obtain ⟨k, hk⟩ : ∃ k, cutN n s = k + 1 := ⟨cutN n s - 1, by omega⟩
  have := cut_more n s k hs hn
  rw [hk] at this ⊢
  have h2 : ¬ (k + 1) * s < n := fun h => by have := this.1 h; omega
  omega
theorem spR_pieces {w : World} {B : Nat} {sr ds pr tt id : Nat} {dn mo : Bool} {of : Int} {zs : List Nat} {mtu : Int} {v : Value} {ps : List Pk} (h : SpR w B sr ds pr tt id dn mo of zs mtu v ps) (hE : spE dn mo of zs.length mtu = 0) (hsm : zs.length ≤ 281474976710656) : ∃ P, PcR w sr ds pr tt id dn mo of zs mtu P ps := by
  have hmb : mbE mo of zs.length = 0 := by
    unfold spE at hE
    split at hE
    · rename_i h9; exact absurd hE h9
    · rename_i h9
      simpa using h9
  obtain ⟨q1, q2, q3, q4, q5⟩ := mbE_ok hmb
  rcases h with ⟨h1, _⟩ | ⟨_, hle, ab, cb, rfl, ho, _⟩ | ⟨_, hlt, hm28, rfl, g, cg, rfl, ho, _⟩
  · exact absurd hE h1
  · refine ⟨fun j => if j = 0 then 0 else zs.length, rfl, by simp, fun j x hx => ?_⟩
    have hj : j = 0 := by
      have := (List.getElem?_eq_some_iff.1 hx).1
      simp at this
      exact this
    subst hj
    simp at hx
    subst hx
    refine ⟨rfl, rfl, rfl, rfl, rfl, rfl, by simp, by simp, ?_, by simp, by simp, hmb, by show 20 + (zs.length : Int) ≤ mtu; omega⟩
    simp
    exact ho.sl hsm
  · obtain ⟨M, hM⟩ : ∃ M : Nat, mtu = ((M + 20 : Nat) : Int) := ⟨(mtu - 20).toNat, by omega⟩
    have hS : spS mtu = M / 8 * 8 := by unfold spS; rw [hM]; congr 2; omega
    rw [hS]
    obtain ⟨s, hs⟩ : ∃ s, s = M / 8 * 8 := ⟨_, rfl⟩
    rw [← hs]
    obtain ⟨n, hn⟩ : ∃ n, n = zs.length := ⟨_, rfl⟩
    rw [← hn] at ho hlt hmb q4 q5 hsm ⊢
    obtain ⟨c1, c2⟩ := cut_last n s (by omega) (by omega)
    refine ⟨fun j => min (j * s) n, by simp, ?_, fun j x hx => ?_⟩
    · rw [cutL_len]
      show min (cutN n s * s) n = zs.length
      omega
    · have hjK : j < cutN n s := by
        have := (List.getElem?_eq_some_iff.1 hx).1
        rwa [cutL_len] at this
      have hx2 : x = cutP sr ds pr tt id false mo of.toNat g n s j := by
        unfold cutL at hx
        rw [List.getElem?_map, List.getElem?_range hjK] at hx
        simpa using hx.symm
      subst hx2
      rw [cutL_len]
      have hm := cut_more n s j (by omega) (by omega)
      have hjs : j * s < n := by
        cases j with
        | zero => simp; omega
        | succ j => exact (cut_more n s j (by omega) (by omega)).2 hjK
      have e1 : (j + 1) * s = j * s + s := by rw [Nat.add_mul]; omega
      have hd8 : j * s % 8 = 0 := by rw [hs, ← Nat.mul_assoc]; exact Nat.mul_mod_left _ _
      unfold cutP
      rw [e1] at hm ⊢
      generalize j * s = f at *
      have hmd : decide (f + s < n) = decide (j + 1 < cutN n s) := by rw [decide_eq_decide]; exact hm
      refine ⟨rfl, rfl, rfl, rfl, rfl, rfl, ?_, by rw [hmd], ?_, ?_, ?_, ?_, ?_⟩
      · show ((of.toNat + f : Nat) : Int) = of + ((min f n : Nat) : Int)
        omega
      · show Sl w (some ⟨g, f, none⟩) (min (f + s) n - f) (min (f + s) n - f) ((zs.drop (min f n)).take (min (f + s) n - f))
        have hsl := ho.sl hsm
        rw [show min f n = f by omega]
        have h1 := hsl.dropE f (by omega) ⟨g, 0 + f, none⟩ (fun _ => rfl)
        have h2 := h1.takeE (min (f + s) n - f) (by omega) (by omega)
        rw [Nat.zero_add] at h2
        exact ⟨h2.len, Nat.le_refl _, by have := h2.room; have := h2.cap; omega, h2.small, (fun e => by cases e), h2.bnd, h2.at_⟩
      · show min (f + s) n = min f n + (min (f + s) n - f)
        omega
      · show min f n + (min (f + s) n - f) ≤ zs.length
        omega
      · show mbE (mo || decide (f + s < n)) ((of.toNat + f : Nat) : Int) (min (f + s) n - f) = 0
        unfold mbE
        rw [if_neg, if_neg (by omega)]
        intro h
        rcases h with h | h | h | ⟨h, h'⟩
        · omega
        · omega
        · omega
        · by_cases hfs : f + s < n
          · omega
          · have hmo : mo = true := by simpa [hfs] using h
            have := q4 hmo
            omega
      · show (20 : Int) + ((min (f + s) n - f : Nat) : Int) ≤ mtu
        omega
end Go.Proofs.Ytpmfofgnapopaab
