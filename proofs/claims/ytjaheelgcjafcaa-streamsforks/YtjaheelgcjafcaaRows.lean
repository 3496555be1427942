/-
  No cell of these rows narrows 'for every input' (looked for: loops, veiled, ifaces, maps, wideKeys, modest, calm, conditions, laid).
  DERIVED. THE GIVEN ROWS OF THIS SEAT. 6 by the template 'for every input the law returns true; each argument reads behind the call as it read before'; 0 by the template 'total and deterministic' (their statements: YtjaheelgcjafcaaTotals.lean).
  GIVEN WITH THE SEED: the statements are not yours to turn. If you find one false, say at which input.
  Laid BY PROGRAM, IN A SANDBOX (cutbox-rows.mjs): the forced cells as the released guide's own fill.sh prints them over the translation 1b6e91589c207997… (all of the seat's roots in one cut). By AI agents, Wed Nov 11 2026. No macro, syntax, notation, axiom, sorry.
-/
import Derived.Test.YtjaheelgcjafcaaChecked
import GoSem.Claim
import GoSem.ClaimJoined
import GoSem.ClaimMapViews
import Derived.JoinedTies
import Derived.KernelRfl
namespace Go.Proofs.Ytjaheelgcjafcaa
/- THE CELL 'sum', in the pinned program and in every row, IS THE sha256 OF THE DUMP (.gsa) THAT YtjaheelgcjafcaaProg.lean LOADS. Nothing in Lean hashes anything: it is a label: what it is worth is what the hold of that sum in a sandbox is worth. -/
noncomputable def Try.pinned : Pinned := { name := "ytjaheelgcjafcaa", sum := "1b6e91589c207997382b3053b92e907b4ee60316b22f1ba49b5b9882d7a57584", checked := Try.checked }
namespace Rows
def none {H : Type} : Left H := { results := [], args := [] }

/-- 'trunklinelaw13.StreamsPlays': WHATEVER THE INPUT: true; the input reads as it did. -/
def streamsPlaysSpec : ChangeSpec := { name := "streamsPlays", fn := fun _ => fun
  | [d1, d2] => { results := [.lit (.bool true)], args := [d1, d2] }
  | _ => none }
def streamsPlaysRow : OpenClaim := { program := "ytjaheelgcjafcaa", sum := "1b6e91589c207997382b3053b92e907b4ee60316b22f1ba49b5b9882d7a57584", func := "trunkline/trunklinelaw13.StreamsPlays", spec := "streamsPlays", unfollowed := true, recurses := true, plainKeys := false, apart := false }
def StreamsPlaysSaid : Prop := streamsPlaysRow.holds Try.pinned (OpenSpec.ofChange streamsPlaysSpec)

/-- ITS FALSE NEIGHBOUR: 'it returns false'. Refute it at one input. -/
def streamsPlaysWrong : ChangeSpec := { name := "streamsPlays", fn := fun _ => fun
  | [d1, d2] => { results := [.lit (.bool false)], args := [d1, d2] }
  | _ => none }
def StreamsPlaysWrongFalsely : Prop := streamsPlaysRow.holds Try.pinned (OpenSpec.ofChange streamsPlaysWrong)

/-- 'trunklinelaw13.StreamsOrder': WHATEVER THE INPUT: true; the input reads as it did. -/
def streamsOrderSpec : ChangeSpec := { name := "streamsOrder", fn := fun _ => fun
  | [d1, d2, d3] => { results := [.lit (.bool true)], args := [d1, d2, d3] }
  | _ => none }
def streamsOrderRow : OpenClaim := { program := "ytjaheelgcjafcaa", sum := "1b6e91589c207997382b3053b92e907b4ee60316b22f1ba49b5b9882d7a57584", func := "trunkline/trunklinelaw13.StreamsOrder", spec := "streamsOrder", unfollowed := true, recurses := true, plainKeys := false, apart := false }
def StreamsOrderSaid : Prop := streamsOrderRow.holds Try.pinned (OpenSpec.ofChange streamsOrderSpec)

/-- ITS FALSE NEIGHBOUR: 'it returns false'. Refute it at one input. -/
def streamsOrderWrong : ChangeSpec := { name := "streamsOrder", fn := fun _ => fun
  | [d1, d2, d3] => { results := [.lit (.bool false)], args := [d1, d2, d3] }
  | _ => none }
def StreamsOrderWrongFalsely : Prop := streamsOrderRow.holds Try.pinned (OpenSpec.ofChange streamsOrderWrong)

/-- 'trunklinelaw13.StreamsPrefix': WHATEVER THE INPUT: true; the input reads as it did. -/
def streamsPrefixSpec : ChangeSpec := { name := "streamsPrefix", fn := fun _ => fun
  | [d1, d2, d3] => { results := [.lit (.bool true)], args := [d1, d2, d3] }
  | _ => none }
def streamsPrefixRow : OpenClaim := { program := "ytjaheelgcjafcaa", sum := "1b6e91589c207997382b3053b92e907b4ee60316b22f1ba49b5b9882d7a57584", func := "trunkline/trunklinelaw13.StreamsPrefix", spec := "streamsPrefix", unfollowed := true, recurses := true, plainKeys := false, apart := false }
def StreamsPrefixSaid : Prop := streamsPrefixRow.holds Try.pinned (OpenSpec.ofChange streamsPrefixSpec)

/-- ITS FALSE NEIGHBOUR: 'it returns false'. Refute it at one input. -/
def streamsPrefixWrong : ChangeSpec := { name := "streamsPrefix", fn := fun _ => fun
  | [d1, d2, d3] => { results := [.lit (.bool false)], args := [d1, d2, d3] }
  | _ => none }
def StreamsPrefixWrongFalsely : Prop := streamsPrefixRow.holds Try.pinned (OpenSpec.ofChange streamsPrefixWrong)

/-- 'trunklinelaw13.StreamsBounds': WHATEVER THE INPUT: true; the input reads as it did. -/
def streamsBoundsSpec : ChangeSpec := { name := "streamsBounds", fn := fun _ => fun
  | [d] => { results := [.lit (.bool true)], args := [d] }
  | _ => none }
def streamsBoundsRow : OpenClaim := { program := "ytjaheelgcjafcaa", sum := "1b6e91589c207997382b3053b92e907b4ee60316b22f1ba49b5b9882d7a57584", func := "trunkline/trunklinelaw13.StreamsBounds", spec := "streamsBounds", unfollowed := true, recurses := true, plainKeys := false, apart := false }
def StreamsBoundsSaid : Prop := streamsBoundsRow.holds Try.pinned (OpenSpec.ofChange streamsBoundsSpec)

/-- ITS FALSE NEIGHBOUR: 'it returns false'. Refute it at one input. -/
def streamsBoundsWrong : ChangeSpec := { name := "streamsBounds", fn := fun _ => fun
  | [d] => { results := [.lit (.bool false)], args := [d] }
  | _ => none }
def StreamsBoundsWrongFalsely : Prop := streamsBoundsRow.holds Try.pinned (OpenSpec.ofChange streamsBoundsWrong)

/-- 'trunklinelaw13.StreamsFull': WHATEVER THE INPUT: true; the input reads as it did. -/
def streamsFullSpec : ChangeSpec := { name := "streamsFull", fn := fun _ => fun
  | [d1, d2] => { results := [.lit (.bool true)], args := [d1, d2] }
  | _ => none }
def streamsFullRow : OpenClaim := { program := "ytjaheelgcjafcaa", sum := "1b6e91589c207997382b3053b92e907b4ee60316b22f1ba49b5b9882d7a57584", func := "trunkline/trunklinelaw13.StreamsFull", spec := "streamsFull", unfollowed := true, recurses := true, plainKeys := false, apart := false }
def StreamsFullSaid : Prop := streamsFullRow.holds Try.pinned (OpenSpec.ofChange streamsFullSpec)

/-- ITS FALSE NEIGHBOUR: 'it returns false'. Refute it at one input. -/
def streamsFullWrong : ChangeSpec := { name := "streamsFull", fn := fun _ => fun
  | [d1, d2] => { results := [.lit (.bool false)], args := [d1, d2] }
  | _ => none }
def StreamsFullWrongFalsely : Prop := streamsFullRow.holds Try.pinned (OpenSpec.ofChange streamsFullWrong)

/-- 'trunklinelaw13.StreamsForks': WHATEVER THE INPUT: true; the input reads as it did. -/
def streamsForksSpec : ChangeSpec := { name := "streamsForks", fn := fun _ => fun
  | [d1, d2] => { results := [.lit (.bool true)], args := [d1, d2] }
  | _ => none }
def streamsForksRow : OpenClaim := { program := "ytjaheelgcjafcaa", sum := "1b6e91589c207997382b3053b92e907b4ee60316b22f1ba49b5b9882d7a57584", func := "trunkline/trunklinelaw13.StreamsForks", spec := "streamsForks", inPlace := ["maps.clone"], unfollowed := true, recurses := true, plainKeys := false, apart := false }
def StreamsForksSaid : Prop := streamsForksRow.holds Try.pinned (OpenSpec.ofChange streamsForksSpec)

/-- ITS FALSE NEIGHBOUR: 'it returns false'. Refute it at one input. -/
def streamsForksWrong : ChangeSpec := { name := "streamsForks", fn := fun _ => fun
  | [d1, d2] => { results := [.lit (.bool false)], args := [d1, d2] }
  | _ => none }
def StreamsForksWrongFalsely : Prop := streamsForksRow.holds Try.pinned (OpenSpec.ofChange streamsForksWrong)

/- THE SECOND FORM. 'bulk': how many values and letters a reading holds, each counted each time it is reached (what is shared counts as often as it is met; a slice's spare places count too). A statement '..UptoSaid' is the law's where the arguments, and the package variables that the reading takes, are together of bulk at most 1048576: NARROWER than '..Said'. Prove '..Said' where nothing that the law and all that it calls make is longer than what came in: it says more and counts as full. Else prove '..UptoSaid'. A law counts once. -/
mutual
def uptoBulk {H : Type} : DataW H → Nat
  | .lit (.string bytes) => bytes.length + 1
  | .lit _ => 1
  | .nil => 1
  | .ptr d => uptoBulk d + 1
  | .slice elems spare => uptoBulkAll elems + uptoBulkAll spare + 1
  | .agg parts => uptoBulkAll parts + 1
  | .iface _ d => uptoBulk d + 1
  | .map entries => uptoBulkEntries entries + 1
  | .held _ => 1
def uptoBulkAll {H : Type} : List (DataW H) → Nat
  | [] => 0
  | d :: r => uptoBulk d + uptoBulkAll r
def uptoBulkEntries {H : Type} : List (Lit × DataW H) → Nat
  | [] => 0
  | x :: r => uptoBulkEntry x + uptoBulkEntries r
def uptoBulkEntry {H : Type} : Lit × DataW H → Nat
  | (.string bytes, d) => bytes.length + uptoBulk d + 1
  | (_, d) => uptoBulk d + 1
 end
def uptoSmall : (H : Type) → List (DataW H) → Bool := fun _ ds => decide (uptoBulkAll ds ≤ 1048576)
def OpenSpec.upto (s : _root_.Go.ChangeSpec) : _root_.Go.OpenSpec := { _root_.Go.OpenSpec.ofChange s with cond := some uptoSmall }

/-- 'trunklinelaw13.StreamsPlays', WHERE WHAT IT READS IS OF BULK AT MOST 1048576: true; the input reads as it did. -/
def streamsPlaysUptoRow : OpenClaim := { program := "ytjaheelgcjafcaa", sum := "1b6e91589c207997382b3053b92e907b4ee60316b22f1ba49b5b9882d7a57584", func := "trunkline/trunklinelaw13.StreamsPlays", spec := "streamsPlays", unfollowed := true, recurses := true, plainKeys := false, apart := false, narrowed := true }
def StreamsPlaysUptoSaid : Prop := streamsPlaysUptoRow.holds Try.pinned (OpenSpec.upto streamsPlaysSpec)

/-- 'trunklinelaw13.StreamsOrder', WHERE WHAT IT READS IS OF BULK AT MOST 1048576: true; the input reads as it did. -/
def streamsOrderUptoRow : OpenClaim := { program := "ytjaheelgcjafcaa", sum := "1b6e91589c207997382b3053b92e907b4ee60316b22f1ba49b5b9882d7a57584", func := "trunkline/trunklinelaw13.StreamsOrder", spec := "streamsOrder", unfollowed := true, recurses := true, plainKeys := false, apart := false, narrowed := true }
def StreamsOrderUptoSaid : Prop := streamsOrderUptoRow.holds Try.pinned (OpenSpec.upto streamsOrderSpec)

/-- 'trunklinelaw13.StreamsPrefix', WHERE WHAT IT READS IS OF BULK AT MOST 1048576: true; the input reads as it did. -/
def streamsPrefixUptoRow : OpenClaim := { program := "ytjaheelgcjafcaa", sum := "1b6e91589c207997382b3053b92e907b4ee60316b22f1ba49b5b9882d7a57584", func := "trunkline/trunklinelaw13.StreamsPrefix", spec := "streamsPrefix", unfollowed := true, recurses := true, plainKeys := false, apart := false, narrowed := true }
def StreamsPrefixUptoSaid : Prop := streamsPrefixUptoRow.holds Try.pinned (OpenSpec.upto streamsPrefixSpec)

/-- 'trunklinelaw13.StreamsBounds', WHERE WHAT IT READS IS OF BULK AT MOST 1048576: true; the input reads as it did. -/
def streamsBoundsUptoRow : OpenClaim := { program := "ytjaheelgcjafcaa", sum := "1b6e91589c207997382b3053b92e907b4ee60316b22f1ba49b5b9882d7a57584", func := "trunkline/trunklinelaw13.StreamsBounds", spec := "streamsBounds", unfollowed := true, recurses := true, plainKeys := false, apart := false, narrowed := true }
def StreamsBoundsUptoSaid : Prop := streamsBoundsUptoRow.holds Try.pinned (OpenSpec.upto streamsBoundsSpec)

/-- 'trunklinelaw13.StreamsFull', WHERE WHAT IT READS IS OF BULK AT MOST 1048576: true; the input reads as it did. -/
def streamsFullUptoRow : OpenClaim := { program := "ytjaheelgcjafcaa", sum := "1b6e91589c207997382b3053b92e907b4ee60316b22f1ba49b5b9882d7a57584", func := "trunkline/trunklinelaw13.StreamsFull", spec := "streamsFull", unfollowed := true, recurses := true, plainKeys := false, apart := false, narrowed := true }
def StreamsFullUptoSaid : Prop := streamsFullUptoRow.holds Try.pinned (OpenSpec.upto streamsFullSpec)

/-- 'trunklinelaw13.StreamsForks', WHERE WHAT IT READS IS OF BULK AT MOST 1048576: true; the input reads as it did. -/
def streamsForksUptoRow : OpenClaim := { program := "ytjaheelgcjafcaa", sum := "1b6e91589c207997382b3053b92e907b4ee60316b22f1ba49b5b9882d7a57584", func := "trunkline/trunklinelaw13.StreamsForks", spec := "streamsForks", inPlace := ["maps.clone"], unfollowed := true, recurses := true, plainKeys := false, apart := false, narrowed := true }
def StreamsForksUptoSaid : Prop := streamsForksUptoRow.holds Try.pinned (OpenSpec.upto streamsForksSpec)

end Rows
end Go.Proofs.Ytjaheelgcjafcaa
