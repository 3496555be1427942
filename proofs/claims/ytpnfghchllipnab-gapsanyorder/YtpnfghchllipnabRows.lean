/-
  No cell of these rows narrows 'for every input' (looked for: loops, veiled, ifaces, maps, wideKeys, modest, calm, conditions, laid).
  DERIVED. THE GIVEN ROWS OF THIS SEAT. 6 by the template 'for every input the law returns true; each argument reads behind the call as it read before'; 0 by the template 'total and deterministic' (their statements: YtpnfghchllipnabTotals.lean).
  GIVEN WITH THE SEED: the statements are not yours to turn. If you find one false, say at which input.
  Laid BY PROGRAM, IN A SANDBOX (cutbox-rows.mjs): the forced cells as the released guide's own fill.sh prints them over the translation 020300a9bba6160a… (all of the seat's roots in one cut). By AI agents, Wed Nov 11 2026. No macro, syntax, notation, axiom, sorry.
-/
import Derived.Test.YtpnfghchllipnabChecked
import GoSem.Claim
import GoSem.ClaimJoined
import GoSem.ClaimMapViews
import Derived.JoinedTies
import Derived.KernelRfl
namespace Go.Proofs.Ytpnfghchllipnab
/- THE CELL 'sum', in the pinned program and in every row, IS THE sha256 OF THE DUMP (.gsa) THAT YtpnfghchllipnabProg.lean LOADS. Nothing in Lean hashes anything: it is a label: what it is worth is what the hold of that sum in a sandbox is worth. -/
noncomputable def Try.pinned : Pinned := { name := "ytpnfghchllipnab", sum := "020300a9bba6160ad2314473719b9810a4ac890649a9bdbbf388993f17baa017", checked := Try.checked }
namespace Rows
def none {H : Type} : Left H := { results := [], args := [] }

/-- 'trunklinelaw03.SerialOrders': WHATEVER THE INPUT: true; the input reads as it did. -/
def serialOrdersSpec : ChangeSpec := { name := "serialOrders", fn := fun _ => fun
  | [d1, d2, d3] => { results := [.lit (.bool true)], args := [d1, d2, d3] }
  | _ => none }
def serialOrdersRow : OpenClaim := { program := "ytpnfghchllipnab", sum := "020300a9bba6160ad2314473719b9810a4ac890649a9bdbbf388993f17baa017", func := "trunkline/trunklinelaw03.SerialOrders", spec := "serialOrders", unfollowed := true, recurses := true, apart := false }
def SerialOrdersSaid : Prop := serialOrdersRow.holds Try.pinned (OpenSpec.ofChange serialOrdersSpec)

/-- ITS FALSE NEIGHBOUR: 'it returns false'. Refute it at one input. -/
def serialOrdersWrong : ChangeSpec := { name := "serialOrders", fn := fun _ => fun
  | [d1, d2, d3] => { results := [.lit (.bool false)], args := [d1, d2, d3] }
  | _ => none }
def SerialOrdersWrongFalsely : Prop := serialOrdersRow.holds Try.pinned (OpenSpec.ofChange serialOrdersWrong)

/-- 'trunklinelaw03.SerialSpans': WHATEVER THE INPUT: true; the input reads as it did. -/
def serialSpansSpec : ChangeSpec := { name := "serialSpans", fn := fun _ => fun
  | [d1, d2] => { results := [.lit (.bool true)], args := [d1, d2] }
  | _ => none }
def serialSpansRow : OpenClaim := { program := "ytpnfghchllipnab", sum := "020300a9bba6160ad2314473719b9810a4ac890649a9bdbbf388993f17baa017", func := "trunkline/trunklinelaw03.SerialSpans", spec := "serialSpans", unfollowed := true, recurses := true, apart := false }
def SerialSpansSaid : Prop := serialSpansRow.holds Try.pinned (OpenSpec.ofChange serialSpansSpec)

/-- ITS FALSE NEIGHBOUR: 'it returns false'. Refute it at one input. -/
def serialSpansWrong : ChangeSpec := { name := "serialSpans", fn := fun _ => fun
  | [d1, d2] => { results := [.lit (.bool false)], args := [d1, d2] }
  | _ => none }
def SerialSpansWrongFalsely : Prop := serialSpansRow.holds Try.pinned (OpenSpec.ofChange serialSpansWrong)

/-- 'trunklinelaw03.SerialRuns': WHATEVER THE INPUT: true; the input reads as it did. -/
def serialRunsSpec : ChangeSpec := { name := "serialRuns", fn := fun _ => fun
  | [d] => { results := [.lit (.bool true)], args := [d] }
  | _ => none }
def serialRunsRow : OpenClaim := { program := "ytpnfghchllipnab", sum := "020300a9bba6160ad2314473719b9810a4ac890649a9bdbbf388993f17baa017", func := "trunkline/trunklinelaw03.SerialRuns", spec := "serialRuns", unfollowed := true, recurses := true, apart := false }
def SerialRunsSaid : Prop := serialRunsRow.holds Try.pinned (OpenSpec.ofChange serialRunsSpec)

/-- ITS FALSE NEIGHBOUR: 'it returns false'. Refute it at one input. -/
def serialRunsWrong : ChangeSpec := { name := "serialRuns", fn := fun _ => fun
  | [d] => { results := [.lit (.bool false)], args := [d] }
  | _ => none }
def SerialRunsWrongFalsely : Prop := serialRunsRow.holds Try.pinned (OpenSpec.ofChange serialRunsWrong)

/-- 'trunklinelaw04.GapsPlays': WHATEVER THE INPUT: true; the input reads as it did. -/
def gapsPlaysSpec : ChangeSpec := { name := "gapsPlays", fn := fun _ => fun
  | [d1, d2] => { results := [.lit (.bool true)], args := [d1, d2] }
  | _ => none }
def gapsPlaysRow : OpenClaim := { program := "ytpnfghchllipnab", sum := "020300a9bba6160ad2314473719b9810a4ac890649a9bdbbf388993f17baa017", func := "trunkline/trunklinelaw04.GapsPlays", spec := "gapsPlays", unfollowed := true, recurses := true, apart := false }
def GapsPlaysSaid : Prop := gapsPlaysRow.holds Try.pinned (OpenSpec.ofChange gapsPlaysSpec)

/-- ITS FALSE NEIGHBOUR: 'it returns false'. Refute it at one input. -/
def gapsPlaysWrong : ChangeSpec := { name := "gapsPlays", fn := fun _ => fun
  | [d1, d2] => { results := [.lit (.bool false)], args := [d1, d2] }
  | _ => none }
def GapsPlaysWrongFalsely : Prop := gapsPlaysRow.holds Try.pinned (OpenSpec.ofChange gapsPlaysWrong)

/-- 'trunklinelaw04.GapsAnyOrder': WHATEVER THE INPUT: true; the input reads as it did. -/
def gapsAnyOrderSpec : ChangeSpec := { name := "gapsAnyOrder", fn := fun _ => fun
  | [d1, d2, d3] => { results := [.lit (.bool true)], args := [d1, d2, d3] }
  | _ => none }
def gapsAnyOrderRow : OpenClaim := { program := "ytpnfghchllipnab", sum := "020300a9bba6160ad2314473719b9810a4ac890649a9bdbbf388993f17baa017", func := "trunkline/trunklinelaw04.GapsAnyOrder", spec := "gapsAnyOrder", unfollowed := true, recurses := true, apart := false }
def GapsAnyOrderSaid : Prop := gapsAnyOrderRow.holds Try.pinned (OpenSpec.ofChange gapsAnyOrderSpec)

/-- ITS FALSE NEIGHBOUR: 'it returns false'. Refute it at one input. -/
def gapsAnyOrderWrong : ChangeSpec := { name := "gapsAnyOrder", fn := fun _ => fun
  | [d1, d2, d3] => { results := [.lit (.bool false)], args := [d1, d2, d3] }
  | _ => none }
def GapsAnyOrderWrongFalsely : Prop := gapsAnyOrderRow.holds Try.pinned (OpenSpec.ofChange gapsAnyOrderWrong)

/-- 'trunklinelaw04.GapsBlocks': WHATEVER THE INPUT: true; the input reads as it did. -/
def gapsBlocksSpec : ChangeSpec := { name := "gapsBlocks", fn := fun _ => fun
  | [d1, d2] => { results := [.lit (.bool true)], args := [d1, d2] }
  | _ => none }
def gapsBlocksRow : OpenClaim := { program := "ytpnfghchllipnab", sum := "020300a9bba6160ad2314473719b9810a4ac890649a9bdbbf388993f17baa017", func := "trunkline/trunklinelaw04.GapsBlocks", spec := "gapsBlocks", unfollowed := true, recurses := true, apart := false }
def GapsBlocksSaid : Prop := gapsBlocksRow.holds Try.pinned (OpenSpec.ofChange gapsBlocksSpec)

/-- ITS FALSE NEIGHBOUR: 'it returns false'. Refute it at one input. -/
def gapsBlocksWrong : ChangeSpec := { name := "gapsBlocks", fn := fun _ => fun
  | [d1, d2] => { results := [.lit (.bool false)], args := [d1, d2] }
  | _ => none }
def GapsBlocksWrongFalsely : Prop := gapsBlocksRow.holds Try.pinned (OpenSpec.ofChange gapsBlocksWrong)

/- THE SECOND FORM. 'bulk': how many values and letters a reading holds, each counted each time it is reached (what is shared counts as often as it is met; a slice's spare places count too). A statement '..UptoSaid' is the law's where the arguments, and the package variables that the reading takes, are together of bulk at most 1048576: NARROWER than '..Said'. Prove '..Said' where nothing that the law and all that it calls make is longer than what came in: it says more and counts as full. Else prove '..UptoSaid'. A law counts once. -/
mutual
def uptoBulk {H : Type} : DataW H → Nat
  | .lit (.string bytes) => bytes.length + 1
  | .lit _ => 1
  | .nil => 1
  | .ptr d => uptoBulk d + 1
  | .slice elems spare => uptoBulkAll elems + uptoBulkAll spare + 1
  | .agg parts => uptoBulkAll parts + 1
  | .iface _ d => uptoBulk d + 1
  | .map entries => uptoBulkEntries entries + 1
  | .held _ => 1
def uptoBulkAll {H : Type} : List (DataW H) → Nat
  | [] => 0
  | d :: r => uptoBulk d + uptoBulkAll r
def uptoBulkEntries {H : Type} : List (Lit × DataW H) → Nat
  | [] => 0
  | x :: r => uptoBulkEntry x + uptoBulkEntries r
def uptoBulkEntry {H : Type} : Lit × DataW H → Nat
  | (.string bytes, d) => bytes.length + uptoBulk d + 1
  | (_, d) => uptoBulk d + 1
 end
def uptoSmall : (H : Type) → List (DataW H) → Bool := fun _ ds => decide (uptoBulkAll ds ≤ 1048576)
def OpenSpec.upto (s : _root_.Go.ChangeSpec) : _root_.Go.OpenSpec := { _root_.Go.OpenSpec.ofChange s with cond := some uptoSmall }

/-- 'trunklinelaw03.SerialOrders', WHERE WHAT IT READS IS OF BULK AT MOST 1048576: true; the input reads as it did. -/
def serialOrdersUptoRow : OpenClaim := { program := "ytpnfghchllipnab", sum := "020300a9bba6160ad2314473719b9810a4ac890649a9bdbbf388993f17baa017", func := "trunkline/trunklinelaw03.SerialOrders", spec := "serialOrders", unfollowed := true, recurses := true, apart := false, narrowed := true }
def SerialOrdersUptoSaid : Prop := serialOrdersUptoRow.holds Try.pinned (OpenSpec.upto serialOrdersSpec)

/-- 'trunklinelaw03.SerialSpans', WHERE WHAT IT READS IS OF BULK AT MOST 1048576: true; the input reads as it did. -/
def serialSpansUptoRow : OpenClaim := { program := "ytpnfghchllipnab", sum := "020300a9bba6160ad2314473719b9810a4ac890649a9bdbbf388993f17baa017", func := "trunkline/trunklinelaw03.SerialSpans", spec := "serialSpans", unfollowed := true, recurses := true, apart := false, narrowed := true }
def SerialSpansUptoSaid : Prop := serialSpansUptoRow.holds Try.pinned (OpenSpec.upto serialSpansSpec)

/-- 'trunklinelaw03.SerialRuns', WHERE WHAT IT READS IS OF BULK AT MOST 1048576: true; the input reads as it did. -/
def serialRunsUptoRow : OpenClaim := { program := "ytpnfghchllipnab", sum := "020300a9bba6160ad2314473719b9810a4ac890649a9bdbbf388993f17baa017", func := "trunkline/trunklinelaw03.SerialRuns", spec := "serialRuns", unfollowed := true, recurses := true, apart := false, narrowed := true }
def SerialRunsUptoSaid : Prop := serialRunsUptoRow.holds Try.pinned (OpenSpec.upto serialRunsSpec)

/-- 'trunklinelaw04.GapsPlays', WHERE WHAT IT READS IS OF BULK AT MOST 1048576: true; the input reads as it did. -/
def gapsPlaysUptoRow : OpenClaim := { program := "ytpnfghchllipnab", sum := "020300a9bba6160ad2314473719b9810a4ac890649a9bdbbf388993f17baa017", func := "trunkline/trunklinelaw04.GapsPlays", spec := "gapsPlays", unfollowed := true, recurses := true, apart := false, narrowed := true }
def GapsPlaysUptoSaid : Prop := gapsPlaysUptoRow.holds Try.pinned (OpenSpec.upto gapsPlaysSpec)

/-- 'trunklinelaw04.GapsAnyOrder', WHERE WHAT IT READS IS OF BULK AT MOST 1048576: true; the input reads as it did. -/
def gapsAnyOrderUptoRow : OpenClaim := { program := "ytpnfghchllipnab", sum := "020300a9bba6160ad2314473719b9810a4ac890649a9bdbbf388993f17baa017", func := "trunkline/trunklinelaw04.GapsAnyOrder", spec := "gapsAnyOrder", unfollowed := true, recurses := true, apart := false, narrowed := true }
def GapsAnyOrderUptoSaid : Prop := gapsAnyOrderUptoRow.holds Try.pinned (OpenSpec.upto gapsAnyOrderSpec)

/-- 'trunklinelaw04.GapsBlocks', WHERE WHAT IT READS IS OF BULK AT MOST 1048576: true; the input reads as it did. -/
def gapsBlocksUptoRow : OpenClaim := { program := "ytpnfghchllipnab", sum := "020300a9bba6160ad2314473719b9810a4ac890649a9bdbbf388993f17baa017", func := "trunkline/trunklinelaw04.GapsBlocks", spec := "gapsBlocks", unfollowed := true, recurses := true, apart := false, narrowed := true }
def GapsBlocksUptoSaid : Prop := gapsBlocksUptoRow.holds Try.pinned (OpenSpec.upto gapsBlocksSpec)

end Rows
end Go.Proofs.Ytpnfghchllipnab
