/-
  DERIVED. GIVEN WITH THE SEED: THE CARDS: each row of YtaakkibohkckaaaDoorRows.lean that lists a variable, with what it lists TIED to the program's text (the seventh form; the later family's looks); each row that meets fmt, with fmt's text TOLD by the authors' own Lean function (tested against real Go, not proved from fmt's source: count such statements apart). THE CARD IS WHAT COUNTS. Prove the row's statement (the work); the ties are given (YtaakkibohkckaaaDoorTie.lean); close each card by the builder's one call (the guide's Derived/Test/ToyasCard.lean, 'card_holds'). Laid BY PROGRAM, IN A SANDBOX (cutbox-door.mjs). By AI agents, Wed Nov 11 2026. No macro, syntax, notation, axiom, sorry.
-/
import Derived.Test.YtaakkibohkckaaaDoorRows
import GoSem.ClaimSeven
namespace Go.Proofs.YtaakkibohkckaaaDoor
namespace Rows

/-- THE TIED CARD OF 'trunklinelaw01.OctetHexes'. -/
def octetHexesCard : Claim7 := { stood := { row := octetHexesRow, standIns := [], harness := (true, "f8499759798cdcebc305e012f57ccd03329d1d8d996ba90cc76ad0cab676f927"), looks := false }, kinds := [], alts := [], laidByText := true, laidKinds := [.data, .pinned], laidTests := true, laidLooks := .later }
def OctetHexesCardSaid : Prop := Claim7.holds Tryd.pinned (.plain (OpenSpec.ofChange octetHexesSpec)) octetHexesCard

/-- THE TIED CARD OF 'trunklinelaw01.OctetAddrs'. -/
def octetAddrsCard : Claim7 := { stood := { row := octetAddrsRow, standIns := [], harness := (true, "f8499759798cdcebc305e012f57ccd03329d1d8d996ba90cc76ad0cab676f927"), looks := false }, kinds := [], alts := [], laidByText := true, laidKinds := [.data, .data, .data, .data, .pinned], laidTests := true, laidLooks := .later }
def OctetAddrsCardSaid : Prop := Claim7.holds Tryd.pinned (.plain (OpenSpec.ofChange octetAddrsSpec)) octetAddrsCard

/-- THE TIED CARD OF 'trunklinelaw01.OctetAddrBack'. -/
def octetAddrBackCard : Claim7 := { stood := { row := octetAddrBackRow, standIns := [], harness := (true, "f8499759798cdcebc305e012f57ccd03329d1d8d996ba90cc76ad0cab676f927"), looks := false }, kinds := [], alts := [], laidByText := true, laidKinds := [.data, .data, .data], laidTests := true, laidLooks := .later }
def OctetAddrBackCardSaid : Prop := Claim7.holds Tryd.pinned (.plain (OpenSpec.ofChange octetAddrBackSpec)) octetAddrBackCard

/-- THE SECOND FORM's CARD OF 'trunklinelaw01.OctetHexes'. -/
def octetHexesUptoCard : Claim7 := { stood := { row := octetHexesUptoRow, standIns := [], harness := (true, "f8499759798cdcebc305e012f57ccd03329d1d8d996ba90cc76ad0cab676f927"), looks := false }, kinds := [], alts := [], laidByText := true, laidKinds := [.data, .pinned], laidTests := true, laidLooks := .later }
def OctetHexesUptoCardSaid : Prop := Claim7.holds Tryd.pinned (.plain (OpenSpec.upto octetHexesSpec)) octetHexesUptoCard

/-- THE SECOND FORM's CARD OF 'trunklinelaw01.OctetAddrs'. -/
def octetAddrsUptoCard : Claim7 := { stood := { row := octetAddrsUptoRow, standIns := [], harness := (true, "f8499759798cdcebc305e012f57ccd03329d1d8d996ba90cc76ad0cab676f927"), looks := false }, kinds := [], alts := [], laidByText := true, laidKinds := [.data, .data, .data, .data, .pinned], laidTests := true, laidLooks := .later }
def OctetAddrsUptoCardSaid : Prop := Claim7.holds Tryd.pinned (.plain (OpenSpec.upto octetAddrsSpec)) octetAddrsUptoCard

/-- THE SECOND FORM's CARD OF 'trunklinelaw01.OctetAddrBack'. -/
def octetAddrBackUptoCard : Claim7 := { stood := { row := octetAddrBackUptoRow, standIns := [], harness := (true, "f8499759798cdcebc305e012f57ccd03329d1d8d996ba90cc76ad0cab676f927"), looks := false }, kinds := [], alts := [], laidByText := true, laidKinds := [.data, .data, .data], laidTests := true, laidLooks := .later }
def OctetAddrBackUptoCardSaid : Prop := Claim7.holds Tryd.pinned (.plain (OpenSpec.upto octetAddrBackSpec)) octetAddrBackUptoCard
end Rows
end Go.Proofs.YtaakkibohkckaaaDoor
