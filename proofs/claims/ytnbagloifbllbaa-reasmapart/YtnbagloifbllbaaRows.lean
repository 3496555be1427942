/-
  No cell of these rows narrows 'for every input' (looked for: loops, veiled, ifaces, maps, wideKeys, modest, calm, conditions, laid).
  DERIVED. THE GIVEN ROWS OF THIS SEAT. 3 by the template 'for every input the law returns true; each argument reads behind the call as it read before'; 0 by the template 'total and deterministic' (their statements: YtnbagloifbllbaaTotals.lean).
  GIVEN WITH THE SEED: the statements are not yours to turn. If you find one false, say at which input.
  Laid BY PROGRAM, IN A SANDBOX (cutbox-rows.mjs): the forced cells as the released guide's own fill.sh prints them over the translation 51f082865c3f0600… (all of the seat's roots in one cut). By AI agents, Wed Nov 11 2026. No macro, syntax, notation, axiom, sorry.
-/
import Derived.Test.YtnbagloifbllbaaChecked
import GoSem.Claim
import GoSem.ClaimJoined
import GoSem.ClaimMapViews
import Derived.JoinedTies
import Derived.KernelRfl
namespace Go.Proofs.Ytnbagloifbllbaa
/- THE CELL 'sum', in the pinned program and in every row, IS THE sha256 OF THE DUMP (.gsa) THAT YtnbagloifbllbaaProg.lean LOADS. Nothing in Lean hashes anything: it is a label: what it is worth is what the hold of that sum in a sandbox is worth. -/
noncomputable def Try.pinned : Pinned := { name := "ytnbagloifbllbaa", sum := "51f082865c3f060022fa0ea9d23f22688bca5cf15cfc2bae4d6b4817d0e9502a", checked := Try.checked }
namespace Rows
def none {H : Type} : Left H := { results := [], args := [] }

/-- 'trunklinelaw11.ReasmWhole': WHATEVER THE INPUT: true; the input reads as it did. -/
def reasmWholeSpec : ChangeSpec := { name := "reasmWhole", fn := fun _ => fun
  | [d1, d2, d3] => { results := [.lit (.bool true)], args := [d1, d2, d3] }
  | _ => none }
def reasmWholeRow : OpenClaim := { program := "ytnbagloifbllbaa", sum := "51f082865c3f060022fa0ea9d23f22688bca5cf15cfc2bae4d6b4817d0e9502a", func := "trunkline/trunklinelaw11.ReasmWhole", spec := "reasmWhole", unfollowed := true, recurses := true, apart := false }
def ReasmWholeSaid : Prop := reasmWholeRow.holds Try.pinned (OpenSpec.ofChange reasmWholeSpec)

/-- ITS FALSE NEIGHBOUR: 'it returns false'. Refute it at one input. -/
def reasmWholeWrong : ChangeSpec := { name := "reasmWhole", fn := fun _ => fun
  | [d1, d2, d3] => { results := [.lit (.bool false)], args := [d1, d2, d3] }
  | _ => none }
def ReasmWholeWrongFalsely : Prop := reasmWholeRow.holds Try.pinned (OpenSpec.ofChange reasmWholeWrong)

/-- 'trunklinelaw11.ReasmApart': WHATEVER THE INPUT: true; the input reads as it did. -/
def reasmApartSpec : ChangeSpec := { name := "reasmApart", fn := fun _ => fun
  | [d1, d2, d3] => { results := [.lit (.bool true)], args := [d1, d2, d3] }
  | _ => none }
def reasmApartRow : OpenClaim := { program := "ytnbagloifbllbaa", sum := "51f082865c3f060022fa0ea9d23f22688bca5cf15cfc2bae4d6b4817d0e9502a", func := "trunkline/trunklinelaw11.ReasmApart", spec := "reasmApart", unfollowed := true, recurses := true, apart := false }
def ReasmApartSaid : Prop := reasmApartRow.holds Try.pinned (OpenSpec.ofChange reasmApartSpec)

/-- ITS FALSE NEIGHBOUR: 'it returns false'. Refute it at one input. -/
def reasmApartWrong : ChangeSpec := { name := "reasmApart", fn := fun _ => fun
  | [d1, d2, d3] => { results := [.lit (.bool false)], args := [d1, d2, d3] }
  | _ => none }
def ReasmApartWrongFalsely : Prop := reasmApartRow.holds Try.pinned (OpenSpec.ofChange reasmApartWrong)

/-- 'trunklinelaw11.ReasmNone': WHATEVER THE INPUT: true; the input reads as it did. -/
def reasmNoneSpec : ChangeSpec := { name := "reasmNone", fn := fun _ => fun
  | [d1, d2] => { results := [.lit (.bool true)], args := [d1, d2] }
  | _ => none }
def reasmNoneRow : OpenClaim := { program := "ytnbagloifbllbaa", sum := "51f082865c3f060022fa0ea9d23f22688bca5cf15cfc2bae4d6b4817d0e9502a", func := "trunkline/trunklinelaw11.ReasmNone", spec := "reasmNone", unfollowed := true, recurses := true, apart := false }
def ReasmNoneSaid : Prop := reasmNoneRow.holds Try.pinned (OpenSpec.ofChange reasmNoneSpec)

/-- ITS FALSE NEIGHBOUR: 'it returns false'. Refute it at one input. -/
def reasmNoneWrong : ChangeSpec := { name := "reasmNone", fn := fun _ => fun
  | [d1, d2] => { results := [.lit (.bool false)], args := [d1, d2] }
  | _ => none }
def ReasmNoneWrongFalsely : Prop := reasmNoneRow.holds Try.pinned (OpenSpec.ofChange reasmNoneWrong)

/- THE SECOND FORM. 'bulk': how many values and letters a reading holds, each counted each time it is reached (what is shared counts as often as it is met; a slice's spare places count too). A statement '..UptoSaid' is the law's where the arguments, and the package variables that the reading takes, are together of bulk at most 1048576: NARROWER than '..Said'. Prove '..Said' where nothing that the law and all that it calls make is longer than what came in: it says more and counts as full. Else prove '..UptoSaid'. A law counts once. -/
mutual
def uptoBulk {H : Type} : DataW H → Nat
  | .lit (.string bytes) => bytes.length + 1
  | .lit _ => 1
  | .nil => 1
  | .ptr d => uptoBulk d + 1
  | .slice elems spare => uptoBulkAll elems + uptoBulkAll spare + 1
  | .agg parts => uptoBulkAll parts + 1
  | .iface _ d => uptoBulk d + 1
  | .map entries => uptoBulkEntries entries + 1
  | .held _ => 1
def uptoBulkAll {H : Type} : List (DataW H) → Nat
  | [] => 0
  | d :: r => uptoBulk d + uptoBulkAll r
def uptoBulkEntries {H : Type} : List (Lit × DataW H) → Nat
  | [] => 0
  | x :: r => uptoBulkEntry x + uptoBulkEntries r
def uptoBulkEntry {H : Type} : Lit × DataW H → Nat
  | (.string bytes, d) => bytes.length + uptoBulk d + 1
  | (_, d) => uptoBulk d + 1
 end
def uptoSmall : (H : Type) → List (DataW H) → Bool := fun _ ds => decide (uptoBulkAll ds ≤ 1048576)
def OpenSpec.upto (s : _root_.Go.ChangeSpec) : _root_.Go.OpenSpec := { _root_.Go.OpenSpec.ofChange s with cond := some uptoSmall }

/-- 'trunklinelaw11.ReasmWhole', WHERE WHAT IT READS IS OF BULK AT MOST 1048576: true; the input reads as it did. -/
def reasmWholeUptoRow : OpenClaim := { program := "ytnbagloifbllbaa", sum := "51f082865c3f060022fa0ea9d23f22688bca5cf15cfc2bae4d6b4817d0e9502a", func := "trunkline/trunklinelaw11.ReasmWhole", spec := "reasmWhole", unfollowed := true, recurses := true, apart := false, narrowed := true }
def ReasmWholeUptoSaid : Prop := reasmWholeUptoRow.holds Try.pinned (OpenSpec.upto reasmWholeSpec)

/-- 'trunklinelaw11.ReasmApart', WHERE WHAT IT READS IS OF BULK AT MOST 1048576: true; the input reads as it did. -/
def reasmApartUptoRow : OpenClaim := { program := "ytnbagloifbllbaa", sum := "51f082865c3f060022fa0ea9d23f22688bca5cf15cfc2bae4d6b4817d0e9502a", func := "trunkline/trunklinelaw11.ReasmApart", spec := "reasmApart", unfollowed := true, recurses := true, apart := false, narrowed := true }
def ReasmApartUptoSaid : Prop := reasmApartUptoRow.holds Try.pinned (OpenSpec.upto reasmApartSpec)

/-- 'trunklinelaw11.ReasmNone', WHERE WHAT IT READS IS OF BULK AT MOST 1048576: true; the input reads as it did. -/
def reasmNoneUptoRow : OpenClaim := { program := "ytnbagloifbllbaa", sum := "51f082865c3f060022fa0ea9d23f22688bca5cf15cfc2bae4d6b4817d0e9502a", func := "trunkline/trunklinelaw11.ReasmNone", spec := "reasmNone", unfollowed := true, recurses := true, apart := false, narrowed := true }
def ReasmNoneUptoSaid : Prop := reasmNoneUptoRow.holds Try.pinned (OpenSpec.upto reasmNoneSpec)

end Rows
end Go.Proofs.Ytnbagloifbllbaa
