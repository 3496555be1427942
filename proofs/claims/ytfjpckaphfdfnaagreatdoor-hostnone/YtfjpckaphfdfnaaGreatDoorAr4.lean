/- arp: there is room where there are less than eight neighbours. -/
import Derived.Test.YtfjpckaphfdfnaaGreatDoorAr3
namespace Go.Proofs.YtfjpckaphfdfnaaGreatDoor
open Go.RowKit Go.MapKept Go.Maps
theorem Mp.len {κ : Type} {P : Program} {k e t : TypeId} {ek : κ → Value} {K : κ → Prop} {w : World} {b n : Nat} {g : κ → Option Value} (h : Mp ek K w b n g) (ht : P.underlying t = some (.map k e)) (ty : TypeId) : ∃ m : Nat, m ≤ n ∧ (Builtin.len_ #[t] ty #[.map (some b)]).run P w = .ok (.int .i64 (m : Nat)) w := by
  obtain ⟨es, c, hb, hn, _⟩ := h.ex
  exact ⟨es.size, hn, by simp [Builtin.len_, run_underlying ht, MapKept.run_getObj_map hb, Result.andThen, goInt]⟩
set_option maxRecDepth 100000 in
theorem room_none {w : World} {p : Nat} {mac ip : Nat} {now : Int} {lost : Int} (h : Stc w p (CaC mac ip now (.map none) lost)) :
    Calls Tryz.prog 200 #[.pointer (some ⟨p, 0, none⟩)] w fun e w' => e = .returned (.bool true) ∧ w' = w := by
  have c3 := h.cell 3 _ rfl
  have hl : ∀ ty W, (Builtin.len_ #[167] ty #[.map none]).run Tryz.prog W = .ok (.int .i64 0) W := fun ty W => by simp [Builtin.len_, run_underlying Tryz.underlying167, goInt]
  go_enter Tryz.func200, Tryz.ntmps200
  go_wp2
  go_ret
  exact ⟨rfl, rfl⟩
set_option maxRecDepth 100000 in
theorem room_few {w : World} {p mb : Nat} {mac ip : Nat} {now : Int} {lost : Int} {n : Nat} {g : Nat → Option Value} (h : Stc w p (CaC mac ip now (.map (some mb)) lost)) (hm : Mp ipV IpK w mb n g) (hn : n < 8) :
    Calls Tryz.prog 200 #[.pointer (some ⟨p, 0, none⟩)] w fun e w' => e = .returned (.bool true) ∧ w' = w := by
  have c3 := h.cell 3 _ rfl
  obtain ⟨m, hmn, hl⟩ := hm.len (t := 167) Tryz.underlying167 3
  have hm8 : (m : Int) < 8 := by omega
  clear hm
  go_enter Tryz.func200, Tryz.ntmps200
  go_wp2
  go_ret
  exact ⟨rfl, rfl⟩
end Go.Proofs.YtfjpckaphfdfnaaGreatDoor
