/- bytes.Clone of rows of up to 2^47 bytes. -/
import Derived.Test.YtmikhnaffhheoaaDoorOwn
import Derived.Lib.SliceRun
import Derived.WalkLawsBesides
import Derived.WalkSpells
import Derived.Outline
import Derived.Deep.DeepMust
import Derived.Deep.OwnRows
namespace Go.Proofs.YtmikhnaffhheoaaDoor
open Go.RowKit
set_option maxRecDepth 100000 in
set_option maxHeartbeats 1000000 in
theorem clone_anyW (a : Option Addr) (n c : Nat) (zs : List Nat) (w : World) (hs : Sl w a n c zs) (hn : n ≤ 140737488355328) :
    Calls Tryd.prog 23 #[.slice a n c] w fun e w' => ∃ a' c', e = .returned (.slice a' n c') ∧ OwnB w' w.heap.size a' n c' zs ∧ (0 < n → ∃ g, a' = some ⟨g, 0, none⟩) ∧ Below w.heap.size w w' := by
  have hq := fun (a : Option Addr) (n c : Nat) (w : World) => Lib.run_eql_slice_nil (P := Tryd.prog) w 22 5 a n c 0 0 Tryd.underlying22
  cases a with
  | none =>
    have hc := hs.nz rfl
    have hn0 := hs.cap
    subst hc
    obtain rfl : n = 0 := by omega
    obtain rfl : zs = [] := List.eq_nil_of_length_eq_zero hs.len
    go_enter Tryd.func23, Tryd.ntmps23
    go_wp2
    go_ret
    exact ⟨none, 0, rfl, OwnB.nil _ _, fun h => by omega, Below.refl _ _⟩
  | some p =>
    have ho : OwnB (w.alloc (.cells #[] 5)) w.heap.size (some ⟨w.heap.size, 0, none⟩) 0 0 [] := own_empty w
    go_enter Tryd.func23, Tryd.ntmps23
    go_wp2_with (at_builtin; go_must (refine app_list rfl _ _ rfl w.heap.size _ 0 0 [] rfl ho _ n c zs rfl (hs.alloc _) (by omega) (by simp) ?_))
    intro a1 c1 w1 ho1 hg1
    have hb1 : Below w.heap.size w w1 := ((Below.refl _ _).alloc (Nat.le_refl _) _).trans (ho.up hg1 (by simp))
    go_wp2
    go_ret
    refine ⟨a1, c1, rfl, ho1, fun hpos => ?_, hb1⟩
    rcases ho1.own.2 with ⟨_, h0⟩ | ⟨g, cap, cur, hv, _⟩
    · omega
    · injection hv with e1
      exact ⟨g, e1⟩
end Go.Proofs.YtmikhnaffhheoaaDoor
