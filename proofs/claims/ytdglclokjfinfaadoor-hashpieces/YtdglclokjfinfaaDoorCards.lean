/-
  DERIVED. GIVEN WITH THE SEED: THE CARDS: each row of YtdglclokjfinfaaDoorRows.lean that lists a variable, with what it lists TIED to the program's text (the seventh form; the later family's looks); each row that meets fmt, with fmt's text TOLD by the authors' own Lean function (tested against real Go, not proved from fmt's source: count such statements apart). THE CARD IS WHAT COUNTS. Prove the row's statement (the work); the ties are given (YtdglclokjfinfaaDoorTie.lean); close each card by the builder's one call (the guide's Derived/Test/ToyasCard.lean, 'card_holds'). Laid BY PROGRAM, IN A SANDBOX (cutbox-door.mjs). By AI agents, Wed Nov 11 2026. No macro, syntax, notation, axiom, sorry.
-/
import Derived.Test.YtdglclokjfinfaaDoorRows
import GoSem.ClaimSeven
namespace Go.Proofs.YtdglclokjfinfaaDoor
namespace Rows

/-- THE TIED CARD OF 'trunklinelaw05.HashSums'. -/
def hashSumsCard : Claim7 := { stood := { row := hashSumsRow, standIns := [], harness := (true, "187f0f7465afdb20b39e287b4d65f76e721d224588fa3db865077059bec9e6ae"), looks := false }, kinds := [], alts := [], laidByText := true, laidKinds := [.data], laidTests := true, laidLooks := .later }
def HashSumsCardSaid : Prop := Claim7.holds Tryd.pinned (.plain (OpenSpec.ofChange hashSumsSpec)) hashSumsCard

/-- THE TIED CARD OF 'trunklinelaw05.HashMacs'. -/
def hashMacsCard : Claim7 := { stood := { row := hashMacsRow, standIns := [], harness := (true, "187f0f7465afdb20b39e287b4d65f76e721d224588fa3db865077059bec9e6ae"), looks := false }, kinds := [], alts := [], laidByText := true, laidKinds := [.data], laidTests := true, laidLooks := .later }
def HashMacsCardSaid : Prop := Claim7.holds Tryd.pinned (.plain (OpenSpec.ofChange hashMacsSpec)) hashMacsCard

/-- THE TIED CARD OF 'trunklinelaw05.HashSame'. -/
def hashSameCard : Claim7 := { stood := { row := hashSameRow, standIns := [], harness := (true, "187f0f7465afdb20b39e287b4d65f76e721d224588fa3db865077059bec9e6ae"), looks := false }, kinds := [], alts := [], laidByText := true, laidKinds := [.data], laidTests := true, laidLooks := .later }
def HashSameCardSaid : Prop := Claim7.holds Tryd.pinned (.plain (OpenSpec.ofChange hashSameSpec)) hashSameCard

/-- THE TIED CARD OF 'trunklinelaw05.HashPieces'. -/
def hashPiecesCard : Claim7 := { stood := { row := hashPiecesRow, standIns := [], harness := (true, "187f0f7465afdb20b39e287b4d65f76e721d224588fa3db865077059bec9e6ae"), looks := false }, kinds := [], alts := [], laidByText := true, laidKinds := [.data], laidTests := true, laidLooks := .later }
def HashPiecesCardSaid : Prop := Claim7.holds Tryd.pinned (.plain (OpenSpec.ofChange hashPiecesSpec)) hashPiecesCard

/-- THE TIED CARD OF 'trunklinelaw05.HashKeys'. -/
def hashKeysCard : Claim7 := { stood := { row := hashKeysRow, standIns := [], harness := (true, "187f0f7465afdb20b39e287b4d65f76e721d224588fa3db865077059bec9e6ae"), looks := false }, kinds := [], alts := [], laidByText := true, laidKinds := [.data], laidTests := true, laidLooks := .later }
def HashKeysCardSaid : Prop := Claim7.holds Tryd.pinned (.plain (OpenSpec.ofChange hashKeysSpec)) hashKeysCard

/-- THE TIED CARD OF 'trunklinelaw05.HashForks'. -/
def hashForksCard : Claim7 := { stood := { row := hashForksRow, standIns := [], harness := (true, "187f0f7465afdb20b39e287b4d65f76e721d224588fa3db865077059bec9e6ae"), looks := false }, kinds := [], alts := [], laidByText := true, laidKinds := [.data], laidTests := true, laidLooks := .later }
def HashForksCardSaid : Prop := Claim7.holds Tryd.pinned (.plain (OpenSpec.ofChange hashForksSpec)) hashForksCard

/-- THE SECOND FORM's CARD OF 'trunklinelaw05.HashSums'. -/
def hashSumsUptoCard : Claim7 := { stood := { row := hashSumsUptoRow, standIns := [], harness := (true, "187f0f7465afdb20b39e287b4d65f76e721d224588fa3db865077059bec9e6ae"), looks := false }, kinds := [], alts := [], laidByText := true, laidKinds := [.data], laidTests := true, laidLooks := .later }
def HashSumsUptoCardSaid : Prop := Claim7.holds Tryd.pinned (.plain (OpenSpec.upto hashSumsSpec)) hashSumsUptoCard

/-- THE SECOND FORM's CARD OF 'trunklinelaw05.HashMacs'. -/
def hashMacsUptoCard : Claim7 := { stood := { row := hashMacsUptoRow, standIns := [], harness := (true, "187f0f7465afdb20b39e287b4d65f76e721d224588fa3db865077059bec9e6ae"), looks := false }, kinds := [], alts := [], laidByText := true, laidKinds := [.data], laidTests := true, laidLooks := .later }
def HashMacsUptoCardSaid : Prop := Claim7.holds Tryd.pinned (.plain (OpenSpec.upto hashMacsSpec)) hashMacsUptoCard

/-- THE SECOND FORM's CARD OF 'trunklinelaw05.HashSame'. -/
def hashSameUptoCard : Claim7 := { stood := { row := hashSameUptoRow, standIns := [], harness := (true, "187f0f7465afdb20b39e287b4d65f76e721d224588fa3db865077059bec9e6ae"), looks := false }, kinds := [], alts := [], laidByText := true, laidKinds := [.data], laidTests := true, laidLooks := .later }
def HashSameUptoCardSaid : Prop := Claim7.holds Tryd.pinned (.plain (OpenSpec.upto hashSameSpec)) hashSameUptoCard

/-- THE SECOND FORM's CARD OF 'trunklinelaw05.HashPieces'. -/
def hashPiecesUptoCard : Claim7 := { stood := { row := hashPiecesUptoRow, standIns := [], harness := (true, "187f0f7465afdb20b39e287b4d65f76e721d224588fa3db865077059bec9e6ae"), looks := false }, kinds := [], alts := [], laidByText := true, laidKinds := [.data], laidTests := true, laidLooks := .later }
def HashPiecesUptoCardSaid : Prop := Claim7.holds Tryd.pinned (.plain (OpenSpec.upto hashPiecesSpec)) hashPiecesUptoCard

/-- THE SECOND FORM's CARD OF 'trunklinelaw05.HashKeys'. -/
def hashKeysUptoCard : Claim7 := { stood := { row := hashKeysUptoRow, standIns := [], harness := (true, "187f0f7465afdb20b39e287b4d65f76e721d224588fa3db865077059bec9e6ae"), looks := false }, kinds := [], alts := [], laidByText := true, laidKinds := [.data], laidTests := true, laidLooks := .later }
def HashKeysUptoCardSaid : Prop := Claim7.holds Tryd.pinned (.plain (OpenSpec.upto hashKeysSpec)) hashKeysUptoCard

/-- THE SECOND FORM's CARD OF 'trunklinelaw05.HashForks'. -/
def hashForksUptoCard : Claim7 := { stood := { row := hashForksUptoRow, standIns := [], harness := (true, "187f0f7465afdb20b39e287b4d65f76e721d224588fa3db865077059bec9e6ae"), looks := false }, kinds := [], alts := [], laidByText := true, laidKinds := [.data], laidTests := true, laidLooks := .later }
def HashForksUptoCardSaid : Prop := Claim7.holds Tryd.pinned (.plain (OpenSpec.upto hashForksSpec)) hashForksUptoCard
end Rows
end Go.Proofs.YtdglclokjfinfaaDoor
