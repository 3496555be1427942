/- From what the row lists to what the walk of HashPieces asks. -/
import Derived.Test.YtdglclokjfinfaaDoorHLaid
namespace Go.Proofs.YtdglclokjfinfaaDoor.hashPieces
theorem of_laid {W : World} (h : laidMetH Tryd.prog Rows.hashPiecesUptoRow.laid W) : KW W := by
  rw [MakeChecks.laidMetH_plain _ _ _ (by kernel_rfl)] at h
  exact kw_of_laid h
end Go.Proofs.YtdglclokjfinfaaDoor.hashPieces
