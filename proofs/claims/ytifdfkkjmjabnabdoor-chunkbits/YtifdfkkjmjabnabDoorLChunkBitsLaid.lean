/- From what the row lists to what the walk of ChunkBits asks. -/
import Derived.Test.YtifdfkkjmjabnabDoorNmL
namespace Go.Proofs.YtifdfkkjmjabnabDoor.chunkBits
theorem of_laid {W : World} (h : laidMetH Tryd.prog Rows.chunkBitsRow.laid W) : NW W := by
  rw [MakeChecks.laidMetH_plain _ _ _ (by kernel_rfl)] at h
  exact nw_of_laid h
end Go.Proofs.YtifdfkkjmjabnabDoor.chunkBits
