/-
  DERIVED. GIVEN WITH THE SEED: THE CARDS: each row of YtifdfkkjmjabnabDoorRows.lean that lists a variable, with what it lists TIED to the program's text (the seventh form; the later family's looks); each row that meets fmt, with fmt's text TOLD by the authors' own Lean function (tested against real Go, not proved from fmt's source: count such statements apart). THE CARD IS WHAT COUNTS. Prove the row's statement (the work); the ties are given (YtifdfkkjmjabnabDoorTie.lean); close each card by the builder's one call (the guide's Derived/Test/ToyasCard.lean, 'card_holds'). Laid BY PROGRAM, IN A SANDBOX (cutbox-door.mjs). By AI agents, Wed Nov 11 2026. No macro, syntax, notation, axiom, sorry.
-/
import Derived.Test.YtifdfkkjmjabnabDoorRows
import GoSem.ClaimSeven
namespace Go.Proofs.YtifdfkkjmjabnabDoor
namespace Rows

/-- THE TIED CARD OF 'trunklinelaw12.ChunkBits'. -/
def chunkBitsCard : Claim7 := { stood := { row := chunkBitsRow, standIns := [], harness := (true, "3a03eeca5ab59f4c6d98ffcad876c9bdd649ea9fb60b114471f49c98040adee5"), looks := true }, kinds := [], alts := [], laidByText := true, laidKinds := [.data], laidTests := true, laidLooks := .later }
def ChunkBitsCardSaid : Prop := Claim7.holds Tryd.pinned (.plain (OpenSpec.ofChange chunkBitsSpec)) chunkBitsCard

/-- THE TIED CARD OF 'trunklinelaw12.ChunkOwn'. -/
def chunkOwnCard : Claim7 := { stood := { row := chunkOwnRow, standIns := [], harness := (true, "3a03eeca5ab59f4c6d98ffcad876c9bdd649ea9fb60b114471f49c98040adee5"), looks := true }, kinds := [], alts := [], laidByText := true, laidKinds := [.data], laidTests := true, laidLooks := .later }
def ChunkOwnCardSaid : Prop := Claim7.holds Tryd.pinned (.plain (OpenSpec.ofChange chunkOwnSpec)) chunkOwnCard

/-- THE SECOND FORM's CARD OF 'trunklinelaw12.ChunkBits'. -/
def chunkBitsUptoCard : Claim7 := { stood := { row := chunkBitsUptoRow, standIns := [], harness := (true, "3a03eeca5ab59f4c6d98ffcad876c9bdd649ea9fb60b114471f49c98040adee5"), looks := true }, kinds := [], alts := [], laidByText := true, laidKinds := [.data], laidTests := true, laidLooks := .later }
def ChunkBitsUptoCardSaid : Prop := Claim7.holds Tryd.pinned (.plain (OpenSpec.upto chunkBitsSpec)) chunkBitsUptoCard

/-- THE SECOND FORM's CARD OF 'trunklinelaw12.ChunkOwn'. -/
def chunkOwnUptoCard : Claim7 := { stood := { row := chunkOwnUptoRow, standIns := [], harness := (true, "3a03eeca5ab59f4c6d98ffcad876c9bdd649ea9fb60b114471f49c98040adee5"), looks := true }, kinds := [], alts := [], laidByText := true, laidKinds := [.data], laidTests := true, laidLooks := .later }
def ChunkOwnUptoCardSaid : Prop := Claim7.holds Tryd.pinned (.plain (OpenSpec.upto chunkOwnSpec)) chunkOwnUptoCard
end Rows
end Go.Proofs.YtifdfkkjmjabnabDoor
