/- From what the row lists to what the walk of CookieBack asks. -/
import Derived.Test.YtlkclaehamidbaaDoorHLaid
import Derived.Test.YtlkclaehamidbaaDoorRows
import Derived.MakeChecks
namespace Go.Proofs.YtlkclaehamidbaaDoor.cookieBack
theorem of_laid {W : World} (h : laidMetH Tryd.prog Rows.cookieBackRow.laid W) : KW W := by
  rw [MakeChecks.laidMetH_plain _ _ _ (by kernel_rfl)] at h
  exact kw_of_laid h
end Go.Proofs.YtlkclaehamidbaaDoor.cookieBack
