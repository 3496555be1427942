/-
  No cell of these rows narrows 'for every input' (looked for: loops, veiled, ifaces, maps, wideKeys, modest, calm, conditions, laid).
  DERIVED. THE GIVEN ROWS OF THIS SEAT. 5 by the template 'for every input the law returns true; each argument reads behind the call as it read before'; 0 by the template 'total and deterministic' (their statements: YtconfmjgoipejaaTotals.lean).
  GIVEN WITH THE SEED: the statements are not yours to turn. If you find one false, say at which input.
  Laid BY PROGRAM, IN A SANDBOX (cutbox-rows.mjs): the forced cells as the released guide's own fill.sh prints them over the translation dd270e8e94a7d2e9… (all of the seat's roots in one cut). By AI agents, Wed Nov 11 2026. No macro, syntax, notation, axiom, sorry.
-/
import Derived.Test.YtconfmjgoipejaaChecked
import GoSem.Claim
import GoSem.ClaimJoined
import GoSem.ClaimMapViews
import Derived.JoinedTies
import Derived.KernelRfl
namespace Go.Proofs.Ytconfmjgoipejaa
/- THE CELL 'sum', in the pinned program and in every row, IS THE sha256 OF THE DUMP (.gsa) THAT YtconfmjgoipejaaProg.lean LOADS. Nothing in Lean hashes anything: it is a label: what it is worth is what the hold of that sum in a sandbox is worth. -/
noncomputable def Try.pinned : Pinned := { name := "ytconfmjgoipejaa", sum := "dd270e8e94a7d2e97bad7bceacf0e399c7587accbe3a0d0b9bbc5f77423cb2ca", checked := Try.checked }
namespace Rows
def none {H : Type} : Left H := { results := [], args := [] }

/-- 'trunklinelaw14.OutqOpens': WHATEVER THE INPUT: true; the input reads as it did. -/
def outqOpensSpec : ChangeSpec := { name := "outqOpens", fn := fun _ => fun
  | [d1, d2, d3] => { results := [.lit (.bool true)], args := [d1, d2, d3] }
  | _ => none }
def outqOpensRow : OpenClaim := { program := "ytconfmjgoipejaa", sum := "dd270e8e94a7d2e97bad7bceacf0e399c7587accbe3a0d0b9bbc5f77423cb2ca", func := "trunkline/trunklinelaw14.OutqOpens", spec := "outqOpens", unfollowed := true, recurses := true, apart := false }
def OutqOpensSaid : Prop := outqOpensRow.holds Try.pinned (OpenSpec.ofChange outqOpensSpec)

/-- ITS FALSE NEIGHBOUR: 'it returns false'. Refute it at one input. -/
def outqOpensWrong : ChangeSpec := { name := "outqOpens", fn := fun _ => fun
  | [d1, d2, d3] => { results := [.lit (.bool false)], args := [d1, d2, d3] }
  | _ => none }
def OutqOpensWrongFalsely : Prop := outqOpensRow.holds Try.pinned (OpenSpec.ofChange outqOpensWrong)

/-- 'trunklinelaw14.OutqCuts': WHATEVER THE INPUT: true; the input reads as it did. -/
def outqCutsSpec : ChangeSpec := { name := "outqCuts", fn := fun _ => fun
  | [d1, d2, d3] => { results := [.lit (.bool true)], args := [d1, d2, d3] }
  | _ => none }
def outqCutsRow : OpenClaim := { program := "ytconfmjgoipejaa", sum := "dd270e8e94a7d2e97bad7bceacf0e399c7587accbe3a0d0b9bbc5f77423cb2ca", func := "trunkline/trunklinelaw14.OutqCuts", spec := "outqCuts", unfollowed := true, recurses := true, apart := false }
def OutqCutsSaid : Prop := outqCutsRow.holds Try.pinned (OpenSpec.ofChange outqCutsSpec)

/-- ITS FALSE NEIGHBOUR: 'it returns false'. Refute it at one input. -/
def outqCutsWrong : ChangeSpec := { name := "outqCuts", fn := fun _ => fun
  | [d1, d2, d3] => { results := [.lit (.bool false)], args := [d1, d2, d3] }
  | _ => none }
def OutqCutsWrongFalsely : Prop := outqCutsRow.holds Try.pinned (OpenSpec.ofChange outqCutsWrong)

/-- 'trunklinelaw14.OutqEnds': WHATEVER THE INPUT: true; the input reads as it did. -/
def outqEndsSpec : ChangeSpec := { name := "outqEnds", fn := fun _ => fun
  | [d1, d2, d3] => { results := [.lit (.bool true)], args := [d1, d2, d3] }
  | _ => none }
def outqEndsRow : OpenClaim := { program := "ytconfmjgoipejaa", sum := "dd270e8e94a7d2e97bad7bceacf0e399c7587accbe3a0d0b9bbc5f77423cb2ca", func := "trunkline/trunklinelaw14.OutqEnds", spec := "outqEnds", unfollowed := true, recurses := true, apart := false }
def OutqEndsSaid : Prop := outqEndsRow.holds Try.pinned (OpenSpec.ofChange outqEndsSpec)

/-- ITS FALSE NEIGHBOUR: 'it returns false'. Refute it at one input. -/
def outqEndsWrong : ChangeSpec := { name := "outqEnds", fn := fun _ => fun
  | [d1, d2, d3] => { results := [.lit (.bool false)], args := [d1, d2, d3] }
  | _ => none }
def OutqEndsWrongFalsely : Prop := outqEndsRow.holds Try.pinned (OpenSpec.ofChange outqEndsWrong)

/-- 'trunklinelaw14.OutqMissed': WHATEVER THE INPUT: true; the input reads as it did. -/
def outqMissedSpec : ChangeSpec := { name := "outqMissed", fn := fun _ => fun
  | [d1, d2] => { results := [.lit (.bool true)], args := [d1, d2] }
  | _ => none }
def outqMissedRow : OpenClaim := { program := "ytconfmjgoipejaa", sum := "dd270e8e94a7d2e97bad7bceacf0e399c7587accbe3a0d0b9bbc5f77423cb2ca", func := "trunkline/trunklinelaw14.OutqMissed", spec := "outqMissed", unfollowed := true, recurses := true, apart := false }
def OutqMissedSaid : Prop := outqMissedRow.holds Try.pinned (OpenSpec.ofChange outqMissedSpec)

/-- ITS FALSE NEIGHBOUR: 'it returns false'. Refute it at one input. -/
def outqMissedWrong : ChangeSpec := { name := "outqMissed", fn := fun _ => fun
  | [d1, d2] => { results := [.lit (.bool false)], args := [d1, d2] }
  | _ => none }
def OutqMissedWrongFalsely : Prop := outqMissedRow.holds Try.pinned (OpenSpec.ofChange outqMissedWrong)

/-- 'trunklinelaw14.OutqNone': WHATEVER THE INPUT: true; the input reads as it did. -/
def outqNoneSpec : ChangeSpec := { name := "outqNone", fn := fun _ => fun
  | [d1, d2, d3] => { results := [.lit (.bool true)], args := [d1, d2, d3] }
  | _ => none }
def outqNoneRow : OpenClaim := { program := "ytconfmjgoipejaa", sum := "dd270e8e94a7d2e97bad7bceacf0e399c7587accbe3a0d0b9bbc5f77423cb2ca", func := "trunkline/trunklinelaw14.OutqNone", spec := "outqNone", unfollowed := true, recurses := true, apart := false }
def OutqNoneSaid : Prop := outqNoneRow.holds Try.pinned (OpenSpec.ofChange outqNoneSpec)

/-- ITS FALSE NEIGHBOUR: 'it returns false'. Refute it at one input. -/
def outqNoneWrong : ChangeSpec := { name := "outqNone", fn := fun _ => fun
  | [d1, d2, d3] => { results := [.lit (.bool false)], args := [d1, d2, d3] }
  | _ => none }
def OutqNoneWrongFalsely : Prop := outqNoneRow.holds Try.pinned (OpenSpec.ofChange outqNoneWrong)

/- THE SECOND FORM. 'bulk': how many values and letters a reading holds, each counted each time it is reached (what is shared counts as often as it is met; a slice's spare places count too). A statement '..UptoSaid' is the law's where the arguments, and the package variables that the reading takes, are together of bulk at most 1048576: NARROWER than '..Said'. Prove '..Said' where nothing that the law and all that it calls make is longer than what came in: it says more and counts as full. Else prove '..UptoSaid'. A law counts once. -/
mutual
def uptoBulk {H : Type} : DataW H → Nat
  | .lit (.string bytes) => bytes.length + 1
  | .lit _ => 1
  | .nil => 1
  | .ptr d => uptoBulk d + 1
  | .slice elems spare => uptoBulkAll elems + uptoBulkAll spare + 1
  | .agg parts => uptoBulkAll parts + 1
  | .iface _ d => uptoBulk d + 1
  | .map entries => uptoBulkEntries entries + 1
  | .held _ => 1
def uptoBulkAll {H : Type} : List (DataW H) → Nat
  | [] => 0
  | d :: r => uptoBulk d + uptoBulkAll r
def uptoBulkEntries {H : Type} : List (Lit × DataW H) → Nat
  | [] => 0
  | x :: r => uptoBulkEntry x + uptoBulkEntries r
def uptoBulkEntry {H : Type} : Lit × DataW H → Nat
  | (.string bytes, d) => bytes.length + uptoBulk d + 1
  | (_, d) => uptoBulk d + 1
 end
def uptoSmall : (H : Type) → List (DataW H) → Bool := fun _ ds => decide (uptoBulkAll ds ≤ 1048576)
def OpenSpec.upto (s : _root_.Go.ChangeSpec) : _root_.Go.OpenSpec := { _root_.Go.OpenSpec.ofChange s with cond := some uptoSmall }

/-- 'trunklinelaw14.OutqOpens', WHERE WHAT IT READS IS OF BULK AT MOST 1048576: true; the input reads as it did. -/
def outqOpensUptoRow : OpenClaim := { program := "ytconfmjgoipejaa", sum := "dd270e8e94a7d2e97bad7bceacf0e399c7587accbe3a0d0b9bbc5f77423cb2ca", func := "trunkline/trunklinelaw14.OutqOpens", spec := "outqOpens", unfollowed := true, recurses := true, apart := false, narrowed := true }
def OutqOpensUptoSaid : Prop := outqOpensUptoRow.holds Try.pinned (OpenSpec.upto outqOpensSpec)

/-- 'trunklinelaw14.OutqCuts', WHERE WHAT IT READS IS OF BULK AT MOST 1048576: true; the input reads as it did. -/
def outqCutsUptoRow : OpenClaim := { program := "ytconfmjgoipejaa", sum := "dd270e8e94a7d2e97bad7bceacf0e399c7587accbe3a0d0b9bbc5f77423cb2ca", func := "trunkline/trunklinelaw14.OutqCuts", spec := "outqCuts", unfollowed := true, recurses := true, apart := false, narrowed := true }
def OutqCutsUptoSaid : Prop := outqCutsUptoRow.holds Try.pinned (OpenSpec.upto outqCutsSpec)

/-- 'trunklinelaw14.OutqEnds', WHERE WHAT IT READS IS OF BULK AT MOST 1048576: true; the input reads as it did. -/
def outqEndsUptoRow : OpenClaim := { program := "ytconfmjgoipejaa", sum := "dd270e8e94a7d2e97bad7bceacf0e399c7587accbe3a0d0b9bbc5f77423cb2ca", func := "trunkline/trunklinelaw14.OutqEnds", spec := "outqEnds", unfollowed := true, recurses := true, apart := false, narrowed := true }
def OutqEndsUptoSaid : Prop := outqEndsUptoRow.holds Try.pinned (OpenSpec.upto outqEndsSpec)

/-- 'trunklinelaw14.OutqMissed', WHERE WHAT IT READS IS OF BULK AT MOST 1048576: true; the input reads as it did. -/
def outqMissedUptoRow : OpenClaim := { program := "ytconfmjgoipejaa", sum := "dd270e8e94a7d2e97bad7bceacf0e399c7587accbe3a0d0b9bbc5f77423cb2ca", func := "trunkline/trunklinelaw14.OutqMissed", spec := "outqMissed", unfollowed := true, recurses := true, apart := false, narrowed := true }
def OutqMissedUptoSaid : Prop := outqMissedUptoRow.holds Try.pinned (OpenSpec.upto outqMissedSpec)

/-- 'trunklinelaw14.OutqNone', WHERE WHAT IT READS IS OF BULK AT MOST 1048576: true; the input reads as it did. -/
def outqNoneUptoRow : OpenClaim := { program := "ytconfmjgoipejaa", sum := "dd270e8e94a7d2e97bad7bceacf0e399c7587accbe3a0d0b9bbc5f77423cb2ca", func := "trunkline/trunklinelaw14.OutqNone", spec := "outqNone", unfollowed := true, recurses := true, apart := false, narrowed := true }
def OutqNoneUptoSaid : Prop := outqNoneUptoRow.holds Try.pinned (OpenSpec.upto outqNoneSpec)

end Rows
end Go.Proofs.Ytconfmjgoipejaa
