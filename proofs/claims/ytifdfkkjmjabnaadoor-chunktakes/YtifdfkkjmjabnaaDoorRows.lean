/-
  NARROWER THAN 'FOR EVERY INPUT', by the rows' own cells (each row's printed sentence says how): ChunkChecks: laid · ChunkPuts: laid · ChunkTakes: laid · ChunkBack: laid · ChunkTurned: laid · ChunkAgain: laid.
  DERIVED. THE GIVEN ROWS OF THIS SEAT. 6 by the template 'for every input the law returns true; each argument reads behind the call as it read before'; 0 by the template 'total and deterministic' (their statements: YtifdfkkjmjabnaaDoorTotals.lean).
  GIVEN WITH THE SEED: the statements are not yours to turn. If you find one false, say at which input.
  Laid BY PROGRAM, IN A SANDBOX (cutbox-rows.mjs): the forced cells as the released guide's own fill.sh prints them over the translation e5ae0c66dde0bd10… (all of the seat's roots in one cut). By AI agents, Wed Nov 11 2026. No macro, syntax, notation, axiom, sorry.
-/
import Derived.Test.YtifdfkkjmjabnaaDoorChecked
import GoSem.Claim
import GoSem.ClaimJoined
import GoSem.ClaimMapViews
import Derived.JoinedTies
import Derived.KernelRfl
namespace Go.Proofs.YtifdfkkjmjabnaaDoor
/- THE CELL 'sum', in the pinned program and in every row, IS THE sha256 OF THE DUMP (.gsa) THAT YtifdfkkjmjabnaaDoorProg.lean LOADS. Nothing in Lean hashes anything: it is a label: what it is worth is what the hold of that sum in a sandbox is worth. -/
noncomputable def Tryd.pinned : Pinned := { name := "ytifdfkkjmjabnaadoor", sum := "e5ae0c66dde0bd100bd4c3ca2b2900d15b6e16dfe575195fecc9b0008b77adba", checked := Tryd.checked }
namespace Rows
def none {H : Type} : Left H := { results := [], args := [] }

/- WHAT THE LISTED PACKAGE-LEVEL VARIABLES READ AS WHEN THE CALL BEGINS. Each datum BY PROGRAM (the guide's laid-datum.mjs) off the statement by which the dump's own 'gosem.cut.vars' lays the variable. In a bare row this is a premise. The card (YtifdfkkjmjabnaaDoorCards.lean) ties it to the program's text. -/
def laid_trunkline_chunk_names {H : Type} : DataW H := .agg [.lit (.string [68, 65, 84, 65]), .lit (.string [73, 78, 73, 84]), .lit (.string [73, 78, 73, 84, 32, 65, 67, 75]), .lit (.string [83, 65, 67, 75]), .lit (.string [72, 69, 65, 82, 84, 66, 69, 65, 84]), .lit (.string [72, 69, 65, 82, 84, 66, 69, 65, 84, 32, 65, 67, 75]), .lit (.string [65, 66, 79, 82, 84]), .lit (.string [83, 72, 85, 84, 68, 79, 87, 78]), .lit (.string [83, 72, 85, 84, 68, 79, 87, 78, 32, 65, 67, 75]), .lit (.string [69, 82, 82, 79, 82]), .lit (.string [67, 79, 79, 75, 73, 69, 32, 69, 67, 72, 79]), .lit (.string [67, 79, 79, 75, 73, 69, 32, 65, 67, 75]), .lit (.string []), .lit (.string []), .lit (.string [83, 72, 85, 84, 68, 79, 87, 78, 32, 67, 79, 77, 80, 76, 69, 84, 69])]

/-- 'trunklinelaw12.ChunkChecks': WHATEVER THE INPUT: true; the input reads as it did. -/
def chunkChecksSpec : ChangeSpec := { name := "chunkChecks", fn := fun _ => fun
  | [d] => { results := [.lit (.bool true)], args := [d] }
  | _ => none }
def chunkChecksRow : OpenClaim := { program := "ytifdfkkjmjabnaadoor", sum := "e5ae0c66dde0bd100bd4c3ca2b2900d15b6e16dfe575195fecc9b0008b77adba", func := "trunkline/trunklinelaw12.ChunkChecks", spec := "chunkChecks", unfollowed := true, recurses := true, named := ["trunkline/chunk.names"], apart := false, laid := [("trunkline/chunk.names", laid_trunkline_chunk_names)] }
def ChunkChecksSaid : Prop := chunkChecksRow.holds Tryd.pinned (OpenSpec.ofChange chunkChecksSpec)

/-- ITS FALSE NEIGHBOUR: 'it returns false'. Refute it at one input. -/
def chunkChecksWrong : ChangeSpec := { name := "chunkChecks", fn := fun _ => fun
  | [d] => { results := [.lit (.bool false)], args := [d] }
  | _ => none }
def ChunkChecksWrongFalsely : Prop := chunkChecksRow.holds Tryd.pinned (OpenSpec.ofChange chunkChecksWrong)

/-- 'trunklinelaw12.ChunkPuts': WHATEVER THE INPUT: true; the input reads as it did. -/
def chunkPutsSpec : ChangeSpec := { name := "chunkPuts", fn := fun _ => fun
  | [d1, d2] => { results := [.lit (.bool true)], args := [d1, d2] }
  | _ => none }
def chunkPutsRow : OpenClaim := { program := "ytifdfkkjmjabnaadoor", sum := "e5ae0c66dde0bd100bd4c3ca2b2900d15b6e16dfe575195fecc9b0008b77adba", func := "trunkline/trunklinelaw12.ChunkPuts", spec := "chunkPuts", unfollowed := true, recurses := true, named := ["trunkline/chunk.names"], apart := false, laid := [("trunkline/chunk.names", laid_trunkline_chunk_names)] }
def ChunkPutsSaid : Prop := chunkPutsRow.holds Tryd.pinned (OpenSpec.ofChange chunkPutsSpec)

/-- ITS FALSE NEIGHBOUR: 'it returns false'. Refute it at one input. -/
def chunkPutsWrong : ChangeSpec := { name := "chunkPuts", fn := fun _ => fun
  | [d1, d2] => { results := [.lit (.bool false)], args := [d1, d2] }
  | _ => none }
def ChunkPutsWrongFalsely : Prop := chunkPutsRow.holds Tryd.pinned (OpenSpec.ofChange chunkPutsWrong)

/-- 'trunklinelaw12.ChunkTakes': WHATEVER THE INPUT: true; the input reads as it did. -/
def chunkTakesSpec : ChangeSpec := { name := "chunkTakes", fn := fun _ => fun
  | [d] => { results := [.lit (.bool true)], args := [d] }
  | _ => none }
def chunkTakesRow : OpenClaim := { program := "ytifdfkkjmjabnaadoor", sum := "e5ae0c66dde0bd100bd4c3ca2b2900d15b6e16dfe575195fecc9b0008b77adba", func := "trunkline/trunklinelaw12.ChunkTakes", spec := "chunkTakes", unfollowed := true, recurses := true, named := ["trunkline/chunk.names"], apart := false, laid := [("trunkline/chunk.names", laid_trunkline_chunk_names)] }
def ChunkTakesSaid : Prop := chunkTakesRow.holds Tryd.pinned (OpenSpec.ofChange chunkTakesSpec)

/-- ITS FALSE NEIGHBOUR: 'it returns false'. Refute it at one input. -/
def chunkTakesWrong : ChangeSpec := { name := "chunkTakes", fn := fun _ => fun
  | [d] => { results := [.lit (.bool false)], args := [d] }
  | _ => none }
def ChunkTakesWrongFalsely : Prop := chunkTakesRow.holds Tryd.pinned (OpenSpec.ofChange chunkTakesWrong)

/-- 'trunklinelaw12.ChunkBack': WHATEVER THE INPUT: true; the input reads as it did. -/
def chunkBackSpec : ChangeSpec := { name := "chunkBack", fn := fun _ => fun
  | [d1, d2] => { results := [.lit (.bool true)], args := [d1, d2] }
  | _ => none }
def chunkBackRow : OpenClaim := { program := "ytifdfkkjmjabnaadoor", sum := "e5ae0c66dde0bd100bd4c3ca2b2900d15b6e16dfe575195fecc9b0008b77adba", func := "trunkline/trunklinelaw12.ChunkBack", spec := "chunkBack", unfollowed := true, recurses := true, named := ["trunkline/chunk.names"], apart := false, laid := [("trunkline/chunk.names", laid_trunkline_chunk_names)] }
def ChunkBackSaid : Prop := chunkBackRow.holds Tryd.pinned (OpenSpec.ofChange chunkBackSpec)

/-- ITS FALSE NEIGHBOUR: 'it returns false'. Refute it at one input. -/
def chunkBackWrong : ChangeSpec := { name := "chunkBack", fn := fun _ => fun
  | [d1, d2] => { results := [.lit (.bool false)], args := [d1, d2] }
  | _ => none }
def ChunkBackWrongFalsely : Prop := chunkBackRow.holds Tryd.pinned (OpenSpec.ofChange chunkBackWrong)

/-- 'trunklinelaw12.ChunkTurned': WHATEVER THE INPUT: true; the input reads as it did. -/
def chunkTurnedSpec : ChangeSpec := { name := "chunkTurned", fn := fun _ => fun
  | [d1, d2, d3] => { results := [.lit (.bool true)], args := [d1, d2, d3] }
  | _ => none }
def chunkTurnedRow : OpenClaim := { program := "ytifdfkkjmjabnaadoor", sum := "e5ae0c66dde0bd100bd4c3ca2b2900d15b6e16dfe575195fecc9b0008b77adba", func := "trunkline/trunklinelaw12.ChunkTurned", spec := "chunkTurned", unfollowed := true, recurses := true, named := ["trunkline/chunk.names"], apart := false, laid := [("trunkline/chunk.names", laid_trunkline_chunk_names)] }
def ChunkTurnedSaid : Prop := chunkTurnedRow.holds Tryd.pinned (OpenSpec.ofChange chunkTurnedSpec)

/-- ITS FALSE NEIGHBOUR: 'it returns false'. Refute it at one input. -/
def chunkTurnedWrong : ChangeSpec := { name := "chunkTurned", fn := fun _ => fun
  | [d1, d2, d3] => { results := [.lit (.bool false)], args := [d1, d2, d3] }
  | _ => none }
def ChunkTurnedWrongFalsely : Prop := chunkTurnedRow.holds Tryd.pinned (OpenSpec.ofChange chunkTurnedWrong)

/-- 'trunklinelaw12.ChunkAgain': WHATEVER THE INPUT: true; the input reads as it did. -/
def chunkAgainSpec : ChangeSpec := { name := "chunkAgain", fn := fun _ => fun
  | [d] => { results := [.lit (.bool true)], args := [d] }
  | _ => none }
def chunkAgainRow : OpenClaim := { program := "ytifdfkkjmjabnaadoor", sum := "e5ae0c66dde0bd100bd4c3ca2b2900d15b6e16dfe575195fecc9b0008b77adba", func := "trunkline/trunklinelaw12.ChunkAgain", spec := "chunkAgain", unfollowed := true, recurses := true, named := ["trunkline/chunk.names"], apart := false, laid := [("trunkline/chunk.names", laid_trunkline_chunk_names)] }
def ChunkAgainSaid : Prop := chunkAgainRow.holds Tryd.pinned (OpenSpec.ofChange chunkAgainSpec)

/-- ITS FALSE NEIGHBOUR: 'it returns false'. Refute it at one input. -/
def chunkAgainWrong : ChangeSpec := { name := "chunkAgain", fn := fun _ => fun
  | [d] => { results := [.lit (.bool false)], args := [d] }
  | _ => none }
def ChunkAgainWrongFalsely : Prop := chunkAgainRow.holds Tryd.pinned (OpenSpec.ofChange chunkAgainWrong)

/- THE SECOND FORM. 'bulk': how many values and letters a reading holds, each counted each time it is reached (what is shared counts as often as it is met; a slice's spare places count too). A statement '..UptoSaid' is the law's where the arguments, and the package variables that the reading takes, are together of bulk at most 1048576: NARROWER than '..Said'. Prove '..Said' where nothing that the law and all that it calls make is longer than what came in: it says more and counts as full. Else prove '..UptoSaid'. A law counts once. -/
mutual
def uptoBulk {H : Type} : DataW H → Nat
  | .lit (.string bytes) => bytes.length + 1
  | .lit _ => 1
  | .nil => 1
  | .ptr d => uptoBulk d + 1
  | .slice elems spare => uptoBulkAll elems + uptoBulkAll spare + 1
  | .agg parts => uptoBulkAll parts + 1
  | .iface _ d => uptoBulk d + 1
  | .map entries => uptoBulkEntries entries + 1
  | .held _ => 1
def uptoBulkAll {H : Type} : List (DataW H) → Nat
  | [] => 0
  | d :: r => uptoBulk d + uptoBulkAll r
def uptoBulkEntries {H : Type} : List (Lit × DataW H) → Nat
  | [] => 0
  | x :: r => uptoBulkEntry x + uptoBulkEntries r
def uptoBulkEntry {H : Type} : Lit × DataW H → Nat
  | (.string bytes, d) => bytes.length + uptoBulk d + 1
  | (_, d) => uptoBulk d + 1
 end
def uptoSmall : (H : Type) → List (DataW H) → Bool := fun _ ds => decide (uptoBulkAll ds ≤ 1048576)
def OpenSpec.upto (s : _root_.Go.ChangeSpec) : _root_.Go.OpenSpec := { _root_.Go.OpenSpec.ofChange s with cond := some uptoSmall }

/-- 'trunklinelaw12.ChunkChecks', WHERE WHAT IT READS IS OF BULK AT MOST 1048576: true; the input reads as it did. -/
def chunkChecksUptoRow : OpenClaim := { program := "ytifdfkkjmjabnaadoor", sum := "e5ae0c66dde0bd100bd4c3ca2b2900d15b6e16dfe575195fecc9b0008b77adba", func := "trunkline/trunklinelaw12.ChunkChecks", spec := "chunkChecks", unfollowed := true, recurses := true, named := ["trunkline/chunk.names"], apart := false, laid := [("trunkline/chunk.names", laid_trunkline_chunk_names)], narrowed := true }
def ChunkChecksUptoSaid : Prop := chunkChecksUptoRow.holds Tryd.pinned (OpenSpec.upto chunkChecksSpec)

/-- 'trunklinelaw12.ChunkPuts', WHERE WHAT IT READS IS OF BULK AT MOST 1048576: true; the input reads as it did. -/
def chunkPutsUptoRow : OpenClaim := { program := "ytifdfkkjmjabnaadoor", sum := "e5ae0c66dde0bd100bd4c3ca2b2900d15b6e16dfe575195fecc9b0008b77adba", func := "trunkline/trunklinelaw12.ChunkPuts", spec := "chunkPuts", unfollowed := true, recurses := true, named := ["trunkline/chunk.names"], apart := false, laid := [("trunkline/chunk.names", laid_trunkline_chunk_names)], narrowed := true }
def ChunkPutsUptoSaid : Prop := chunkPutsUptoRow.holds Tryd.pinned (OpenSpec.upto chunkPutsSpec)

/-- 'trunklinelaw12.ChunkTakes', WHERE WHAT IT READS IS OF BULK AT MOST 1048576: true; the input reads as it did. -/
def chunkTakesUptoRow : OpenClaim := { program := "ytifdfkkjmjabnaadoor", sum := "e5ae0c66dde0bd100bd4c3ca2b2900d15b6e16dfe575195fecc9b0008b77adba", func := "trunkline/trunklinelaw12.ChunkTakes", spec := "chunkTakes", unfollowed := true, recurses := true, named := ["trunkline/chunk.names"], apart := false, laid := [("trunkline/chunk.names", laid_trunkline_chunk_names)], narrowed := true }
def ChunkTakesUptoSaid : Prop := chunkTakesUptoRow.holds Tryd.pinned (OpenSpec.upto chunkTakesSpec)

/-- 'trunklinelaw12.ChunkBack', WHERE WHAT IT READS IS OF BULK AT MOST 1048576: true; the input reads as it did. -/
def chunkBackUptoRow : OpenClaim := { program := "ytifdfkkjmjabnaadoor", sum := "e5ae0c66dde0bd100bd4c3ca2b2900d15b6e16dfe575195fecc9b0008b77adba", func := "trunkline/trunklinelaw12.ChunkBack", spec := "chunkBack", unfollowed := true, recurses := true, named := ["trunkline/chunk.names"], apart := false, laid := [("trunkline/chunk.names", laid_trunkline_chunk_names)], narrowed := true }
def ChunkBackUptoSaid : Prop := chunkBackUptoRow.holds Tryd.pinned (OpenSpec.upto chunkBackSpec)

/-- 'trunklinelaw12.ChunkTurned', WHERE WHAT IT READS IS OF BULK AT MOST 1048576: true; the input reads as it did. -/
def chunkTurnedUptoRow : OpenClaim := { program := "ytifdfkkjmjabnaadoor", sum := "e5ae0c66dde0bd100bd4c3ca2b2900d15b6e16dfe575195fecc9b0008b77adba", func := "trunkline/trunklinelaw12.ChunkTurned", spec := "chunkTurned", unfollowed := true, recurses := true, named := ["trunkline/chunk.names"], apart := false, laid := [("trunkline/chunk.names", laid_trunkline_chunk_names)], narrowed := true }
def ChunkTurnedUptoSaid : Prop := chunkTurnedUptoRow.holds Tryd.pinned (OpenSpec.upto chunkTurnedSpec)

/-- 'trunklinelaw12.ChunkAgain', WHERE WHAT IT READS IS OF BULK AT MOST 1048576: true; the input reads as it did. -/
def chunkAgainUptoRow : OpenClaim := { program := "ytifdfkkjmjabnaadoor", sum := "e5ae0c66dde0bd100bd4c3ca2b2900d15b6e16dfe575195fecc9b0008b77adba", func := "trunkline/trunklinelaw12.ChunkAgain", spec := "chunkAgain", unfollowed := true, recurses := true, named := ["trunkline/chunk.names"], apart := false, laid := [("trunkline/chunk.names", laid_trunkline_chunk_names)], narrowed := true }
def ChunkAgainUptoSaid : Prop := chunkAgainUptoRow.holds Tryd.pinned (OpenSpec.upto chunkAgainSpec)

end Rows
end Go.Proofs.YtifdfkkjmjabnaaDoor
