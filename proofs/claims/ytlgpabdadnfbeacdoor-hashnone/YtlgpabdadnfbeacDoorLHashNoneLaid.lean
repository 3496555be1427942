/- From what the row lists to what the walk of HashNone asks. -/
import Derived.Test.YtlgpabdadnfbeacDoorHLaid
namespace Go.Proofs.YtlgpabdadnfbeacDoor.hashNone
theorem of_laid {W : World} (h : laidMetH Tryd.prog Rows.hashNoneRow.laid W) : KW W := by
  rw [MakeChecks.laidMetH_plain _ _ _ (by kernel_rfl)] at h
  exact kw_of_laid h
end Go.Proofs.YtlgpabdadnfbeacDoor.hashNone
