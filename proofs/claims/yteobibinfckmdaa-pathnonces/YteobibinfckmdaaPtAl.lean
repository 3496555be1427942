/- Two ways that are alike but for the nonce and the tick of a heartbeat that was answered. -/
import Derived.Test.YteobibinfckmdaaPt1
namespace Go.Proofs.Yteobibinfckmdaa
open Go.RowKit
def Ps.put (s : Ps) (n : Nat) (u : Int) : Ps := { s with nonce := n, since := u }
theorem put_meas (s : Ps) (n : Nat) (u t : Int) : (s.put n u).meas t = (s.meas t).put n u := by
  unfold Ps.meas Ps.put
  dsimp only
  split <;> rfl
theorem put_sample (s : Ps) (n : Nat) (u t : Int) : (s.put n u).sample t = (s.sample t).put n u := by
  unfold Ps.sample
  split
  · rw [put_meas]; rfl
  · rfl
theorem put_grow (s : Ps) (n : Nat) (u b : Int) (mv : Bool) (fl : Int) : (s.put n u).grow b mv fl = (s.grow b mv fl).put n u := by
  unfold Ps.grow
  by_cases h1 : isB b = true ∧ isB fl = true ∧ mv = true ∧ b ≠ 0
  · rw [if_pos h1, if_pos h1]
    by_cases h2 : s.win ≤ s.slow
    · rw [if_pos (show (s.put n u).win ≤ (s.put n u).slow from h2), if_pos h2]
      by_cases h3 : s.win ≤ fl
      · rw [if_pos (show (s.put n u).win ≤ fl from h3), if_pos h3]; rfl
      · rw [if_neg (show ¬ (s.put n u).win ≤ fl from h3), if_neg h3]
    · rw [if_neg (show ¬ (s.put n u).win ≤ (s.put n u).slow from h2), if_neg h2]
      by_cases h3 : s.win ≤ fl ∧ s.win ≤ s.part + b
      · rw [if_pos (show (s.put n u).win ≤ fl ∧ (s.put n u).win ≤ (s.put n u).part + b from h3), if_pos h3]; rfl
      · rw [if_neg (show ¬ ((s.put n u).win ≤ fl ∧ (s.put n u).win ≤ (s.put n u).part + b) from h3), if_neg h3]; rfl
  · rw [if_neg h1, if_neg h1]
theorem put_narrow (s : Ps) (n : Nat) (u : Int) : (s.put n u).narrow = s.narrow.put n u := rfl
theorem put_fault (s : Ps) (n : Nat) (u : Int) : (s.put n u).fault = s.fault.put n u := rfl
theorem put_late (s : Ps) (n : Nat) (u : Int) : (s.put n u).late = s.late.put n u := rfl
theorem put_good (s : Ps) (n : Nat) (u : Int) : (s.put n u).good = s.good.put n u := rfl
/-- What is sent stays as it is. -/
def Same3 (s q : Ps) : Prop := q.fly = s.fly ∧ q.nonce = s.nonce ∧ q.since = s.since
theorem same_meas (s : Ps) (t : Int) : Same3 s (s.meas t) := by unfold Ps.meas; split <;> exact ⟨rfl, rfl, rfl⟩
theorem same_sample (s : Ps) (t : Int) : Same3 s (s.sample t) := by
  unfold Ps.sample
  split
  · exact same_meas s _
  · exact ⟨rfl, rfl, rfl⟩
theorem same_grow (s : Ps) (b : Int) (mv : Bool) (fl : Int) : Same3 s (s.grow b mv fl) := by
  unfold Ps.grow
  split
  · split
    · split <;> exact ⟨rfl, rfl, rfl⟩
    · split <;> exact ⟨rfl, rfl, rfl⟩
  · exact ⟨rfl, rfl, rfl⟩
def Al (s t : Ps) : Prop := ∃ n u, t = s.put n u ∧ (s.fly = true → n = s.nonce ∧ u = s.since)
theorem Al.refl (s : Ps) : Al s s := ⟨s.nonce, s.since, rfl, fun _ => ⟨rfl, rfl⟩⟩
theorem Al.way {s t : Ps} (h : Al s t) : t.win = s.win ∧ t.slow = s.slow ∧ t.part = s.part ∧ t.rto = s.rto ∧ t.mean = s.mean ∧ t.spread = s.spread ∧ t.faults = s.faults ∧ t.up = s.up ∧ t.sure = s.sure := by
  obtain ⟨n, u, rfl, _⟩ := h
  exact ⟨rfl, rfl, rfl, rfl, rfl, rfl, rfl, rfl, rfl⟩
theorem Al.sample {s t : Ps} (h : Al s t) (x : Int) : Al (s.sample x) (t.sample x) := by
  obtain ⟨n, u, rfl, hf⟩ := h
  obtain ⟨h1, h2, h3⟩ := same_sample s x
  exact ⟨n, u, put_sample s n u x, fun e => by rw [h2, h3]; exact hf (h1 ▸ e)⟩
theorem Al.grow {s t : Ps} (h : Al s t) (b : Int) (mv : Bool) (fl : Int) : Al (s.grow b mv fl) (t.grow b mv fl) := by
  obtain ⟨n, u, rfl, hf⟩ := h
  obtain ⟨h1, h2, h3⟩ := same_grow s b mv fl
  exact ⟨n, u, put_grow s n u b mv fl, fun e => by rw [h2, h3]; exact hf (h1 ▸ e)⟩
theorem Al.narrow {s t : Ps} (h : Al s t) : Al s.narrow t.narrow := by
  obtain ⟨n, u, rfl, hf⟩ := h
  exact ⟨n, u, rfl, hf⟩
theorem Al.fault {s t : Ps} (h : Al s t) : Al s.fault t.fault := by
  obtain ⟨n, u, rfl, hf⟩ := h
  exact ⟨n, u, rfl, hf⟩
theorem Al.late {s t : Ps} (h : Al s t) : Al s.late t.late := by
  obtain ⟨n, u, rfl, hf⟩ := h
  exact ⟨n, u, rfl, hf⟩
theorem Al.good {s t : Ps} (h : Al s t) : Al s.good t.good := by
  obtain ⟨n, u, rfl, hf⟩ := h
  exact ⟨n, u, rfl, hf⟩
theorem Al.down {s t : Ps} (h : Al s t) : t.down = s.down := by
  obtain ⟨n, u, rfl, hf⟩ := h
  rfl
theorem Al.beat {s t : Ps} (h : Al s t) (a : Nat) (x : Int) : Al (s.beat a x) (t.beat a x) := by
  obtain ⟨n, u, rfl, hf⟩ := h
  unfold Ps.beat
  split
  · exact ⟨a, x, rfl, fun _ => ⟨rfl, rfl⟩⟩
  · exact ⟨n, u, rfl, hf⟩
theorem Al.hit {s t : Ps} (h : Al s t) (a : Nat) (x : Int) : t.hit a x = s.hit a x := by
  obtain ⟨n, u, rfl, hf⟩ := h
  unfold Ps.hit
  cases hfl : s.fly
  · simp only [Ps.put, hfl]; simp
  · obtain ⟨e1, e2⟩ := hf hfl
    simp only [Ps.put, e1, e2, hfl]
theorem Al.answer {s t : Ps} (h : Al s t) (a : Nat) (x : Int) : Al (s.answer a x 0 0) (t.answer a x t.nonce t.since) := by
  have hh := h.hit a x
  unfold Ps.answer
  rw [hh]
  split
  · rename_i hit
    obtain ⟨n, u, rfl, hf⟩ := h
    have hfl : s.fly = true := by
      unfold Ps.hit at hit
      cases hfl : s.fly
      · rw [hfl] at hit; simp at hit
      · rfl
    obtain ⟨rfl, rfl⟩ := hf hfl
    have e : ({ s.put s.nonce s.since with fly := false, nonce := (s.put s.nonce s.since).nonce, since := (s.put s.nonce s.since).since, sure := true } : Ps).good = ({ s with fly := false, nonce := 0, since := 0, sure := true } : Ps).good.put s.nonce s.since := rfl
    refine ⟨s.nonce, s.since, ?_, fun e2 => ?_⟩
    · rw [e, put_sample]; rfl
    · rw [(same_sample _ _).1] at e2; cases e2
  · exact h
theorem mtu_meas (s : Ps) (t : Int) : (s.meas t).mtu = s.mtu := by unfold Ps.meas; split <;> rfl
theorem mtu_sample (s : Ps) (t : Int) : (s.sample t).mtu = s.mtu := by
  unfold Ps.sample
  split
  · exact mtu_meas s _
  · rfl
theorem mtu_grow (s : Ps) (b : Int) (mv : Bool) (fl : Int) : (s.grow b mv fl).mtu = s.mtu := by
  unfold Ps.grow
  split
  · split
    · split <;> rfl
    · split <;> rfl
  · rfl
theorem mtu_beat (s : Ps) (n : Nat) (t : Int) : (s.beat n t).mtu = s.mtu := by unfold Ps.beat; split <;> rfl
theorem mtu_answer (s : Ps) (n : Nat) (t : Int) (n' : Nat) (t' : Int) : (s.answer n t n' t').mtu = s.mtu := by
  unfold Ps.answer
  split
  · exact mtu_sample _ _
  · rfl
/-- Both in memory. -/
structure Bt (w : World) (B p q k : Nat) (s t : Ps) : Prop where
  x : Stc w p s.cs
  y : Stc w q t.cs
  ne : p ≠ q
  bp : B ≤ p
  bq : B ≤ q
  kx : Pok k s
  ky : Pok k t
  al : Al s t
theorem Bt.below {w w' : World} {B p q k : Nat} {s t : Ps} (h : Bt w B p q k s t) (hb : Below w.heap.size w w') : Bt w' B p q k s t :=
  ⟨h.x.below hb, h.y.below hb, h.ne, h.bp, h.bq, h.kx, h.ky, h.al⟩
structure PdP (B p q k : Nat) (m : Int) (w : World) (e : Ending) (w' : World) : Prop where
  ret : e = .returned (.bool true)
  out : ∃ s t, Bt w' B p q (k + 1) s t ∧ s.mtu = m
  fr : Fr (fun b => b = p ∨ b = q) w w'
/-- Both went on. -/
theorem Bt.both {w w1 w2 : World} {B p q k : Nat} {s t s' t' : Ps} (h : Bt w B p q k s t) (hx : PtW w p s'.cs w1) (hy : PtW w1 q t'.cs w2) (kx : Pok (k + 1) s') (ky : Pok (k + 1) t') (al : Al s' t') {m : Int} (hm : s'.mtu = m) : PdP B p q k m w (.returned (.bool true)) w2 :=
  ⟨rfl, ⟨s', t', ⟨hx.st.fr hy.fr (fun e => h.ne e), hy.st, h.ne, h.bp, h.bq, kx, ky, al⟩, hm⟩, Fr.trans (hx.fr.mono (fun _ _ e => .inl e)) (hy.fr.mono (fun _ _ e => .inr e))⟩
end Go.Proofs.Yteobibinfckmdaa
