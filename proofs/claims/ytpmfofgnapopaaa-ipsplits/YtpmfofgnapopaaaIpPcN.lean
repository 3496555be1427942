/- The pieces that Split answers: how many, and where each begins. -/
import Derived.Test.YtpmfofgnapopaaaIpPcM
namespace Go.Proofs.Ytpmfofgnapopaaa
open Go.RowKit
def spP (mtu : Int) (n j : Nat) : Nat := if (n : Int) ≤ mtu - 20 then (if j = 0 then 0 else n) else min (j * spS mtu) n
def spK (mtu : Int) (n : Nat) : Nat := if (n : Int) ≤ mtu - 20 then 1 else cutN n (spS mtu)
theorem spR_pieces2 {w : World} {B : Nat} {sr ds pr tt id : Nat} {dn mo : Bool} {of : Int} {zs : List Nat} {mtu : Int} {v : Value} {ps : List Pk} (h : SpR w B sr ds pr tt id dn mo of zs mtu v ps) (hE : spE dn mo of zs.length mtu = 0) (hsm : zs.length ≤ 281474976710656) : PcR w sr ds pr tt id dn mo of zs mtu (spP mtu zs.length) ps ∧ ps.length = spK mtu zs.length := by
  have hmb : mbE mo of zs.length = 0 := by
    unfold spE at hE
    split at hE
    · rename_i h9; exact absurd hE h9
    · rename_i h9
      simpa using h9
  obtain ⟨q1, q2, q3, q4, q5⟩ := mbE_ok hmb
  rcases h with ⟨h1, _⟩ | ⟨_, hle, ab, cb, rfl, ho, _⟩ | ⟨_, hlt, hm28, rfl, g, cg, rfl, ho, _⟩
  · exact absurd hE h1
  · have hPP : spP mtu zs.length = fun j => if j = 0 then 0 else zs.length := by funext j; unfold spP; rw [if_pos hle]
    refine ⟨?_, by unfold spK; rw [if_pos hle]; rfl⟩
    rw [hPP]
    refine ⟨rfl, by simp, fun j x hx => ?_⟩
    have hj : j = 0 := by
      have := (List.getElem?_eq_some_iff.1 hx).1
      simp at this
      exact this
    subst hj
    simp at hx
    subst hx
    refine ⟨rfl, rfl, rfl, rfl, rfl, rfl, by simp, by simp, ?_, by simp, by simp, hmb, by show 20 + (zs.length : Int) ≤ mtu; omega⟩
    simp
    exact ho.sl hsm
  · obtain ⟨M, hM⟩ : ∃ M : Nat, mtu = ((M + 20 : Nat) : Int) := ⟨(mtu - 20).toNat, by omega⟩
    have hS : spS mtu = M / 8 * 8 := by unfold spS; rw [hM]; congr 2; omega
    rw [hS]
    obtain ⟨s, hs⟩ : ∃ s, s = M / 8 * 8 := ⟨_, rfl⟩
    rw [← hs]
    obtain ⟨n, hn⟩ : ∃ n, n = zs.length := ⟨_, rfl⟩
    rw [← hn] at ho hlt hmb q4 q5 hsm ⊢
    obtain ⟨c1, c2⟩ := cut_last n s (by omega) (by omega)
    have hPP : spP mtu n = fun j => min (j * s) n := by funext j; unfold spP; rw [if_neg (by omega), hS, ← hs]
    refine ⟨?_, by rw [cutL_len]; unfold spK; rw [if_neg (by omega), hS, ← hs]⟩
    rw [hPP]
    refine ⟨by simp, ?_, fun j x hx => ?_⟩
    · rw [cutL_len]
      show min (cutN n s * s) n = zs.length
      omega
    · have hjK : j < cutN n s := by
        have := (List.getElem?_eq_some_iff.1 hx).1
        rwa [cutL_len] at this
      have hx2 : x = cutP sr ds pr tt id false mo of.toNat g n s j := by
        unfold cutL at hx
        rw [List.getElem?_map, List.getElem?_range hjK] at hx
        simpa using hx.symm
      subst hx2
      rw [cutL_len]
      have hm := cut_more n s j (by omega) (by omega)
      have hjs : j * s < n := by
        cases j with
        | zero => simp; omega
        | succ j => exact (cut_more n s j (by omega) (by omega)).2 hjK
      have e1 : (j + 1) * s = j * s + s := by rw [Nat.add_mul]; omega
      have hd8 : j * s % 8 = 0 := by rw [hs, ← Nat.mul_assoc]; exact Nat.mul_mod_left _ _
      unfold cutP
      rw [e1] at hm ⊢
      generalize j * s = f at *
      have hmd : decide (f + s < n) = decide (j + 1 < cutN n s) := by rw [decide_eq_decide]; exact hm
      refine ⟨rfl, rfl, rfl, rfl, rfl, rfl, ?_, by rw [hmd], ?_, ?_, ?_, ?_, ?_⟩
      · show ((of.toNat + f : Nat) : Int) = of + ((min f n : Nat) : Int)
        omega
      · show Sl w (some ⟨g, f, none⟩) (min (f + s) n - f) (min (f + s) n - f) ((zs.drop (min f n)).take (min (f + s) n - f))
        have hsl := ho.sl hsm
        rw [show min f n = f by omega]
        have h1 := hsl.dropE f (by omega) ⟨g, 0 + f, none⟩ (fun _ => rfl)
        have h2 := h1.takeE (min (f + s) n - f) (by omega) (by omega)
        rw [Nat.zero_add] at h2
        exact ⟨h2.len, Nat.le_refl _, by have := h2.room; have := h2.cap; omega, h2.small, (fun e => by cases e), h2.bnd, h2.at_⟩
      · show min (f + s) n = min f n + (min (f + s) n - f)
        omega
      · show min f n + (min (f + s) n - f) ≤ zs.length
        omega
      · show mbE (mo || decide (f + s < n)) ((of.toNat + f : Nat) : Int) (min (f + s) n - f) = 0
        unfold mbE
        rw [if_neg, if_neg (by omega)]
        intro h
        rcases h with h | h | h | ⟨h, h'⟩
        · omega
        · omega
        · omega
        · by_cases hfs : f + s < n
          · omega
          · have hmo : mo = true := by simpa [hfs] using h
            have := q4 hmo
            omega
      · show (20 : Int) + ((min (f + s) n - f : Nat) : Int) ≤ mtu
        omega
end Go.Proofs.Ytpmfofgnapopaaa
