/-
  No cell of these rows narrows 'for every input' (looked for: loops, veiled, ifaces, maps, wideKeys, modest, calm, conditions, laid).
  DERIVED. THE GIVEN ROWS OF THIS SEAT. 6 by the template 'for every input the law returns true; each argument reads behind the call as it read before'; 0 by the template 'total and deterministic' (their statements: YthjjjdnhjedbpacTotals.lean).
  GIVEN WITH THE SEED: the statements are not yours to turn. If you find one false, say at which input.
  Laid BY PROGRAM, IN A SANDBOX (cutbox-rows.mjs): the forced cells as the released guide's own fill.sh prints them over the translation fb60cc3bd820fdda… (all of the seat's roots in one cut). By AI agents, Wed Nov 11 2026. No macro, syntax, notation, axiom, sorry.
-/
import Derived.Test.YthjjjdnhjedbpacChecked
import GoSem.Claim
import GoSem.ClaimJoined
import GoSem.ClaimMapViews
import Derived.JoinedTies
import Derived.KernelRfl
namespace Go.Proofs.Ythjjjdnhjedbpac
/- THE CELL 'sum', in the pinned program and in every row, IS THE sha256 OF THE DUMP (.gsa) THAT YthjjjdnhjedbpacProg.lean LOADS. Nothing in Lean hashes anything: it is a label: what it is worth is what the hold of that sum in a sandbox is worth. -/
noncomputable def Try.pinned : Pinned := { name := "ythjjjdnhjedbpac", sum := "fb60cc3bd820fddabc9fdd02e42f39b48eaa1c4d5abbe69f1deebd075a6bb5b1", checked := Try.checked }
namespace Rows
def none {H : Type} : Left H := { results := [], args := [] }

/-- 'trunklinelaw02.SumsStamps': WHATEVER THE INPUT: true; the input reads as it did. -/
def sumsStampsSpec : ChangeSpec := { name := "sumsStamps", fn := fun _ => fun
  | [d] => { results := [.lit (.bool true)], args := [d] }
  | _ => none }
def sumsStampsRow : OpenClaim := { program := "ythjjjdnhjedbpac", sum := "fb60cc3bd820fddabc9fdd02e42f39b48eaa1c4d5abbe69f1deebd075a6bb5b1", func := "trunkline/trunklinelaw02.SumsStamps", spec := "sumsStamps", unfollowed := true, recurses := true, apart := false }
def SumsStampsSaid : Prop := sumsStampsRow.holds Try.pinned (OpenSpec.ofChange sumsStampsSpec)

/-- ITS FALSE NEIGHBOUR: 'it returns false'. Refute it at one input. -/
def sumsStampsWrong : ChangeSpec := { name := "sumsStamps", fn := fun _ => fun
  | [d] => { results := [.lit (.bool false)], args := [d] }
  | _ => none }
def SumsStampsWrongFalsely : Prop := sumsStampsRow.holds Try.pinned (OpenSpec.ofChange sumsStampsWrong)

/-- 'trunklinelaw02.SumsTurned': WHATEVER THE INPUT: true; the input reads as it did. -/
def sumsTurnedSpec : ChangeSpec := { name := "sumsTurned", fn := fun _ => fun
  | [d1, d2, d3] => { results := [.lit (.bool true)], args := [d1, d2, d3] }
  | _ => none }
def sumsTurnedRow : OpenClaim := { program := "ythjjjdnhjedbpac", sum := "fb60cc3bd820fddabc9fdd02e42f39b48eaa1c4d5abbe69f1deebd075a6bb5b1", func := "trunkline/trunklinelaw02.SumsTurned", spec := "sumsTurned", unfollowed := true, recurses := true, apart := false }
def SumsTurnedSaid : Prop := sumsTurnedRow.holds Try.pinned (OpenSpec.ofChange sumsTurnedSpec)

/-- ITS FALSE NEIGHBOUR: 'it returns false'. Refute it at one input. -/
def sumsTurnedWrong : ChangeSpec := { name := "sumsTurned", fn := fun _ => fun
  | [d1, d2, d3] => { results := [.lit (.bool false)], args := [d1, d2, d3] }
  | _ => none }
def SumsTurnedWrongFalsely : Prop := sumsTurnedRow.holds Try.pinned (OpenSpec.ofChange sumsTurnedWrong)

/-- 'trunklinelaw02.SumsLinear': WHATEVER THE INPUT: true; the input reads as it did. -/
def sumsLinearSpec : ChangeSpec := { name := "sumsLinear", fn := fun _ => fun
  | [d1, d2] => { results := [.lit (.bool true)], args := [d1, d2] }
  | _ => none }
def sumsLinearRow : OpenClaim := { program := "ythjjjdnhjedbpac", sum := "fb60cc3bd820fddabc9fdd02e42f39b48eaa1c4d5abbe69f1deebd075a6bb5b1", func := "trunkline/trunklinelaw02.SumsLinear", spec := "sumsLinear", unfollowed := true, recurses := true, apart := false }
def SumsLinearSaid : Prop := sumsLinearRow.holds Try.pinned (OpenSpec.ofChange sumsLinearSpec)

/-- ITS FALSE NEIGHBOUR: 'it returns false'. Refute it at one input. -/
def sumsLinearWrong : ChangeSpec := { name := "sumsLinear", fn := fun _ => fun
  | [d1, d2] => { results := [.lit (.bool false)], args := [d1, d2] }
  | _ => none }
def SumsLinearWrongFalsely : Prop := sumsLinearRow.holds Try.pinned (OpenSpec.ofChange sumsLinearWrong)

/-- 'trunklinelaw02.SumsNet': WHATEVER THE INPUT: true; the input reads as it did. -/
def sumsNetSpec : ChangeSpec := { name := "sumsNet", fn := fun _ => fun
  | [d1, d2, d3] => { results := [.lit (.bool true)], args := [d1, d2, d3] }
  | _ => none }
def sumsNetRow : OpenClaim := { program := "ythjjjdnhjedbpac", sum := "fb60cc3bd820fddabc9fdd02e42f39b48eaa1c4d5abbe69f1deebd075a6bb5b1", func := "trunkline/trunklinelaw02.SumsNet", spec := "sumsNet", unfollowed := true, recurses := true, apart := false }
def SumsNetSaid : Prop := sumsNetRow.holds Try.pinned (OpenSpec.ofChange sumsNetSpec)

/-- ITS FALSE NEIGHBOUR: 'it returns false'. Refute it at one input. -/
def sumsNetWrong : ChangeSpec := { name := "sumsNet", fn := fun _ => fun
  | [d1, d2, d3] => { results := [.lit (.bool false)], args := [d1, d2, d3] }
  | _ => none }
def SumsNetWrongFalsely : Prop := sumsNetRow.holds Try.pinned (OpenSpec.ofChange sumsNetWrong)

/-- 'trunklinelaw02.SumsWhole': WHATEVER THE INPUT: true; the input reads as it did. -/
def sumsWholeSpec : ChangeSpec := { name := "sumsWhole", fn := fun _ => fun
  | [d] => { results := [.lit (.bool true)], args := [d] }
  | _ => none }
def sumsWholeRow : OpenClaim := { program := "ythjjjdnhjedbpac", sum := "fb60cc3bd820fddabc9fdd02e42f39b48eaa1c4d5abbe69f1deebd075a6bb5b1", func := "trunkline/trunklinelaw02.SumsWhole", spec := "sumsWhole", unfollowed := true, recurses := true, apart := false }
def SumsWholeSaid : Prop := sumsWholeRow.holds Try.pinned (OpenSpec.ofChange sumsWholeSpec)

/-- ITS FALSE NEIGHBOUR: 'it returns false'. Refute it at one input. -/
def sumsWholeWrong : ChangeSpec := { name := "sumsWhole", fn := fun _ => fun
  | [d] => { results := [.lit (.bool false)], args := [d] }
  | _ => none }
def SumsWholeWrongFalsely : Prop := sumsWholeRow.holds Try.pinned (OpenSpec.ofChange sumsWholeWrong)

/-- 'trunklinelaw02.SumsAnyOrder': WHATEVER THE INPUT: true; the input reads as it did. -/
def sumsAnyOrderSpec : ChangeSpec := { name := "sumsAnyOrder", fn := fun _ => fun
  | [d1, d2, d3] => { results := [.lit (.bool true)], args := [d1, d2, d3] }
  | _ => none }
def sumsAnyOrderRow : OpenClaim := { program := "ythjjjdnhjedbpac", sum := "fb60cc3bd820fddabc9fdd02e42f39b48eaa1c4d5abbe69f1deebd075a6bb5b1", func := "trunkline/trunklinelaw02.SumsAnyOrder", spec := "sumsAnyOrder", unfollowed := true, recurses := true, apart := false }
def SumsAnyOrderSaid : Prop := sumsAnyOrderRow.holds Try.pinned (OpenSpec.ofChange sumsAnyOrderSpec)

/-- ITS FALSE NEIGHBOUR: 'it returns false'. Refute it at one input. -/
def sumsAnyOrderWrong : ChangeSpec := { name := "sumsAnyOrder", fn := fun _ => fun
  | [d1, d2, d3] => { results := [.lit (.bool false)], args := [d1, d2, d3] }
  | _ => none }
def SumsAnyOrderWrongFalsely : Prop := sumsAnyOrderRow.holds Try.pinned (OpenSpec.ofChange sumsAnyOrderWrong)

/- THE SECOND FORM. 'bulk': how many values and letters a reading holds, each counted each time it is reached (what is shared counts as often as it is met; a slice's spare places count too). A statement '..UptoSaid' is the law's where the arguments, and the package variables that the reading takes, are together of bulk at most 1048576: NARROWER than '..Said'. Prove '..Said' where nothing that the law and all that it calls make is longer than what came in: it says more and counts as full. Else prove '..UptoSaid'. A law counts once. -/
mutual
def uptoBulk {H : Type} : DataW H → Nat
  | .lit (.string bytes) => bytes.length + 1
  | .lit _ => 1
  | .nil => 1
  | .ptr d => uptoBulk d + 1
  | .slice elems spare => uptoBulkAll elems + uptoBulkAll spare + 1
  | .agg parts => uptoBulkAll parts + 1
  | .iface _ d => uptoBulk d + 1
  | .map entries => uptoBulkEntries entries + 1
  | .held _ => 1
def uptoBulkAll {H : Type} : List (DataW H) → Nat
  | [] => 0
  | d :: r => uptoBulk d + uptoBulkAll r
def uptoBulkEntries {H : Type} : List (Lit × DataW H) → Nat
  | [] => 0
  | x :: r => uptoBulkEntry x + uptoBulkEntries r
def uptoBulkEntry {H : Type} : Lit × DataW H → Nat
  | (.string bytes, d) => bytes.length + uptoBulk d + 1
  | (_, d) => uptoBulk d + 1
 end
def uptoSmall : (H : Type) → List (DataW H) → Bool := fun _ ds => decide (uptoBulkAll ds ≤ 1048576)
def OpenSpec.upto (s : _root_.Go.ChangeSpec) : _root_.Go.OpenSpec := { _root_.Go.OpenSpec.ofChange s with cond := some uptoSmall }

/-- 'trunklinelaw02.SumsStamps', WHERE WHAT IT READS IS OF BULK AT MOST 1048576: true; the input reads as it did. -/
def sumsStampsUptoRow : OpenClaim := { program := "ythjjjdnhjedbpac", sum := "fb60cc3bd820fddabc9fdd02e42f39b48eaa1c4d5abbe69f1deebd075a6bb5b1", func := "trunkline/trunklinelaw02.SumsStamps", spec := "sumsStamps", unfollowed := true, recurses := true, apart := false, narrowed := true }
def SumsStampsUptoSaid : Prop := sumsStampsUptoRow.holds Try.pinned (OpenSpec.upto sumsStampsSpec)

/-- 'trunklinelaw02.SumsTurned', WHERE WHAT IT READS IS OF BULK AT MOST 1048576: true; the input reads as it did. -/
def sumsTurnedUptoRow : OpenClaim := { program := "ythjjjdnhjedbpac", sum := "fb60cc3bd820fddabc9fdd02e42f39b48eaa1c4d5abbe69f1deebd075a6bb5b1", func := "trunkline/trunklinelaw02.SumsTurned", spec := "sumsTurned", unfollowed := true, recurses := true, apart := false, narrowed := true }
def SumsTurnedUptoSaid : Prop := sumsTurnedUptoRow.holds Try.pinned (OpenSpec.upto sumsTurnedSpec)

/-- 'trunklinelaw02.SumsLinear', WHERE WHAT IT READS IS OF BULK AT MOST 1048576: true; the input reads as it did. -/
def sumsLinearUptoRow : OpenClaim := { program := "ythjjjdnhjedbpac", sum := "fb60cc3bd820fddabc9fdd02e42f39b48eaa1c4d5abbe69f1deebd075a6bb5b1", func := "trunkline/trunklinelaw02.SumsLinear", spec := "sumsLinear", unfollowed := true, recurses := true, apart := false, narrowed := true }
def SumsLinearUptoSaid : Prop := sumsLinearUptoRow.holds Try.pinned (OpenSpec.upto sumsLinearSpec)

/-- 'trunklinelaw02.SumsNet', WHERE WHAT IT READS IS OF BULK AT MOST 1048576: true; the input reads as it did. -/
def sumsNetUptoRow : OpenClaim := { program := "ythjjjdnhjedbpac", sum := "fb60cc3bd820fddabc9fdd02e42f39b48eaa1c4d5abbe69f1deebd075a6bb5b1", func := "trunkline/trunklinelaw02.SumsNet", spec := "sumsNet", unfollowed := true, recurses := true, apart := false, narrowed := true }
def SumsNetUptoSaid : Prop := sumsNetUptoRow.holds Try.pinned (OpenSpec.upto sumsNetSpec)

/-- 'trunklinelaw02.SumsWhole', WHERE WHAT IT READS IS OF BULK AT MOST 1048576: true; the input reads as it did. -/
def sumsWholeUptoRow : OpenClaim := { program := "ythjjjdnhjedbpac", sum := "fb60cc3bd820fddabc9fdd02e42f39b48eaa1c4d5abbe69f1deebd075a6bb5b1", func := "trunkline/trunklinelaw02.SumsWhole", spec := "sumsWhole", unfollowed := true, recurses := true, apart := false, narrowed := true }
def SumsWholeUptoSaid : Prop := sumsWholeUptoRow.holds Try.pinned (OpenSpec.upto sumsWholeSpec)

/-- 'trunklinelaw02.SumsAnyOrder', WHERE WHAT IT READS IS OF BULK AT MOST 1048576: true; the input reads as it did. -/
def sumsAnyOrderUptoRow : OpenClaim := { program := "ythjjjdnhjedbpac", sum := "fb60cc3bd820fddabc9fdd02e42f39b48eaa1c4d5abbe69f1deebd075a6bb5b1", func := "trunkline/trunklinelaw02.SumsAnyOrder", spec := "sumsAnyOrder", unfollowed := true, recurses := true, apart := false, narrowed := true }
def SumsAnyOrderUptoSaid : Prop := sumsAnyOrderUptoRow.holds Try.pinned (OpenSpec.upto sumsAnyOrderSpec)

end Rows
end Go.Proofs.Ythjjjdnhjedbpac
