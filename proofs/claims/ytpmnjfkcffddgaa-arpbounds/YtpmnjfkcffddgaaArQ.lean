/- arp: what any of the three calls leaves. -/
import Derived.Test.YtpmnjfkcffddgaaArL
import Derived.Test.YtpmnjfkcffddgaaDeedA
namespace Go.Proofs.Ytpmnjfkcffddgaa
open Go.RowKit
/-- What is left behind a call. -/
structure StpP (w : World) (kd : Nat → RoleA) (p mac ip : Nat) (lost : Int) (w' : World) : Prop where
  ex : ∃ kd' now' lost' D', CaW w' kd' p mac ip now' lost' D' ∧ GrowA kd kd' w w' ∧ lost ≤ lost' ∧ lost' ≤ lost + 32
theorem SendP.stp {w : World} {kd : Nat → RoleA} {p mac ip : Nat} {now lost : Int} {D : List (Nat × Nbr)} {to : Nat} {zs : List Nat} {t : Int} {e : Ending} {w' : World} (h : SendP w kd p mac ip now lost D to zs t e w') : StpP w kd p mac ip lost w' ∧ ∃ v, e = .returned v := by
  obtain ⟨kd', now', lost', D', er, fs, a, n, c, hR, hc, hg, he, hf⟩ := h.ex
  refine ⟨⟨kd', now', lost', D', hc, hg, ?_, ?_⟩, _, he⟩ <;> cases hR <;> omega
theorem TakeP.stp {w : World} {kd : Nat → RoleA} {p mac ip : Nat} {now lost : Int} {D : List (Nat × Nbr)} {op : Int} {fm fi ti : Nat} {t : Int} {e : Ending} {w' : World} (h : TakeP w kd p mac ip now lost D op fm fi ti t e w') : StpP w kd p mac ip lost w' ∧ ∃ v, e = .returned v := by
  obtain ⟨kd', now', D', er, fs, a, n, c, hR, hc, hg, he, hf⟩ := h.ex
  exact ⟨⟨kd', now', lost, D', hc, hg, by omega, by omega⟩, _, he⟩
theorem TickP.stp {w : World} {kd : Nat → RoleA} {p mac ip : Nat} {now lost : Int} {D : List (Nat × Nbr)} {t : Int} {e : Ending} {w' : World} (hw : CaW w kd p mac ip now lost D) (h : TickP w kd p mac ip now lost D t e w') : StpP w kd p mac ip lost w' ∧ ∃ v, e = .returned v := by
  obtain ⟨kd', now', lost', D', er, fs, a, n, c, hR, hc, hg, he, hf⟩ := h.ex
  refine ⟨⟨kd', now', lost', D', hc, hg, ?_, ?_⟩, _, he⟩
  · rcases hR with ⟨_, _, e1, _⟩ | ⟨_, _, e1, _⟩
    · omega
    · rw [e1]; exact (tick_keep hw.srt D.length (Nat.le_refl _)).2.2.2.1
  · rcases hR with ⟨_, _, e1, _⟩ | ⟨_, _, e1, _⟩
    · omega
    · rw [e1]
      have := (tick_keep (mac := mac) (ip := ip) (t := t) (lost := lost) hw.srt D.length (Nat.le_refl _)).2.2.2.2 (fun y hy => (hw.each y hy).2.1.len)
      have := hw.len
      omega
end Go.Proofs.Ytpmnjfkcffddgaa
