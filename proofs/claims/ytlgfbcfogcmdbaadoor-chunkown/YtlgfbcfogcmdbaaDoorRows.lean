/-
  NARROWER THAN 'FOR EVERY INPUT', by the rows' own cells (each row's printed sentence says how): ChunkOwn: laid.
  DERIVED. THE GIVEN ROWS OF THIS SEAT. 1 by the template 'for every input the law returns true; each argument reads behind the call as it read before'; 0 by the template 'total and deterministic' (their statements: YtlgfbcfogcmdbaaDoorTotals.lean).
  GIVEN WITH THE SEED: the statements are not yours to turn. If you find one false, say at which input.
  Laid BY PROGRAM, IN A SANDBOX (cutbox-rows.mjs): the forced cells as the released guide's own fill.sh prints them over the translation 13c1b4a723ab30ca… (all of the seat's roots in one cut). By AI agents, Wed Nov 11 2026. No macro, syntax, notation, axiom, sorry.
-/
import Derived.Test.YtlgfbcfogcmdbaaDoorChecked
import GoSem.Claim
import GoSem.ClaimJoined
import GoSem.ClaimMapViews
import Derived.JoinedTies
import Derived.KernelRfl
namespace Go.Proofs.YtlgfbcfogcmdbaaDoor
/- THE CELL 'sum', in the pinned program and in every row, IS THE sha256 OF THE DUMP (.gsa) THAT YtlgfbcfogcmdbaaDoorProg.lean LOADS. Nothing in Lean hashes anything: it is a label: what it is worth is what the hold of that sum in a sandbox is worth. -/
noncomputable def Tryd.pinned : Pinned := { name := "ytlgfbcfogcmdbaadoor", sum := "13c1b4a723ab30ca61bae968921fa5bf3ceaa250b462940abea7110042023d8b", checked := Tryd.checked }
namespace Rows
def none {H : Type} : Left H := { results := [], args := [] }

/- WHAT THE LISTED PACKAGE-LEVEL VARIABLES READ AS WHEN THE CALL BEGINS. Each datum BY PROGRAM (the guide's laid-datum.mjs) off the statement by which the dump's own 'gosem.cut.vars' lays the variable. In a bare row this is a premise. The card (YtlgfbcfogcmdbaaDoorCards.lean) ties it to the program's text. -/
def laid_trunkline_chunk_names {H : Type} : DataW H := .agg [.lit (.string [68, 65, 84, 65]), .lit (.string [73, 78, 73, 84]), .lit (.string [73, 78, 73, 84, 32, 65, 67, 75]), .lit (.string [83, 65, 67, 75]), .lit (.string [72, 69, 65, 82, 84, 66, 69, 65, 84]), .lit (.string [72, 69, 65, 82, 84, 66, 69, 65, 84, 32, 65, 67, 75]), .lit (.string [65, 66, 79, 82, 84]), .lit (.string [83, 72, 85, 84, 68, 79, 87, 78]), .lit (.string [83, 72, 85, 84, 68, 79, 87, 78, 32, 65, 67, 75]), .lit (.string [69, 82, 82, 79, 82]), .lit (.string [67, 79, 79, 75, 73, 69, 32, 69, 67, 72, 79]), .lit (.string [67, 79, 79, 75, 73, 69, 32, 65, 67, 75]), .lit (.string []), .lit (.string []), .lit (.string [83, 72, 85, 84, 68, 79, 87, 78, 32, 67, 79, 77, 80, 76, 69, 84, 69])]

/-- 'trunklinelaw12.ChunkOwn': WHATEVER THE INPUT: true; the input reads as it did. -/
def chunkOwnSpec : ChangeSpec := { name := "chunkOwn", fn := fun _ => fun
  | [d1, d2] => { results := [.lit (.bool true)], args := [d1, d2] }
  | _ => none }
def chunkOwnRow : OpenClaim := { program := "ytlgfbcfogcmdbaadoor", sum := "13c1b4a723ab30ca61bae968921fa5bf3ceaa250b462940abea7110042023d8b", func := "trunkline/trunklinelaw12.ChunkOwn", spec := "chunkOwn", unfollowed := true, recurses := true, named := ["trunkline/chunk.names"], apart := false, laid := [("trunkline/chunk.names", laid_trunkline_chunk_names)] }
def ChunkOwnSaid : Prop := chunkOwnRow.holds Tryd.pinned (OpenSpec.ofChange chunkOwnSpec)

/-- ITS FALSE NEIGHBOUR: 'it returns false'. Refute it at one input. -/
def chunkOwnWrong : ChangeSpec := { name := "chunkOwn", fn := fun _ => fun
  | [d1, d2] => { results := [.lit (.bool false)], args := [d1, d2] }
  | _ => none }
def ChunkOwnWrongFalsely : Prop := chunkOwnRow.holds Tryd.pinned (OpenSpec.ofChange chunkOwnWrong)

/- THE SECOND FORM. 'bulk': how many values and letters a reading holds, each counted each time it is reached (what is shared counts as often as it is met; a slice's spare places count too). A statement '..UptoSaid' is the law's where the arguments, and the package variables that the reading takes, are together of bulk at most 1048576: NARROWER than '..Said'. Prove '..Said' where nothing that the law and all that it calls make is longer than what came in: it says more and counts as full. Else prove '..UptoSaid'. A law counts once. -/
mutual
def uptoBulk {H : Type} : DataW H → Nat
  | .lit (.string bytes) => bytes.length + 1
  | .lit _ => 1
  | .nil => 1
  | .ptr d => uptoBulk d + 1
  | .slice elems spare => uptoBulkAll elems + uptoBulkAll spare + 1
  | .agg parts => uptoBulkAll parts + 1
  | .iface _ d => uptoBulk d + 1
  | .map entries => uptoBulkEntries entries + 1
  | .held _ => 1
def uptoBulkAll {H : Type} : List (DataW H) → Nat
  | [] => 0
  | d :: r => uptoBulk d + uptoBulkAll r
def uptoBulkEntries {H : Type} : List (Lit × DataW H) → Nat
  | [] => 0
  | x :: r => uptoBulkEntry x + uptoBulkEntries r
def uptoBulkEntry {H : Type} : Lit × DataW H → Nat
  | (.string bytes, d) => bytes.length + uptoBulk d + 1
  | (_, d) => uptoBulk d + 1
 end
def uptoSmall : (H : Type) → List (DataW H) → Bool := fun _ ds => decide (uptoBulkAll ds ≤ 1048576)
def OpenSpec.upto (s : _root_.Go.ChangeSpec) : _root_.Go.OpenSpec := { _root_.Go.OpenSpec.ofChange s with cond := some uptoSmall }

/-- 'trunklinelaw12.ChunkOwn', WHERE WHAT IT READS IS OF BULK AT MOST 1048576: true; the input reads as it did. -/
def chunkOwnUptoRow : OpenClaim := { program := "ytlgfbcfogcmdbaadoor", sum := "13c1b4a723ab30ca61bae968921fa5bf3ceaa250b462940abea7110042023d8b", func := "trunkline/trunklinelaw12.ChunkOwn", spec := "chunkOwn", unfollowed := true, recurses := true, named := ["trunkline/chunk.names"], apart := false, laid := [("trunkline/chunk.names", laid_trunkline_chunk_names)], narrowed := true }
def ChunkOwnUptoSaid : Prop := chunkOwnUptoRow.holds Tryd.pinned (OpenSpec.upto chunkOwnSpec)

end Rows
end Go.Proofs.YtlgfbcfogcmdbaaDoor
