/- From what the row lists to what the walk of EtherMacs asks: the two tables of unicode/utf8. -/
import Derived.Test.YtplicfknjhjjgaaDoorRows
import Derived.Test.YtplicfknjhjjgaaDoorShelfU
import Derived.Test.YtplicfknjhjjgaaDoorLetsE
import Derived.Lib.LaidU8
import Derived.PinnedBridge
import Derived.MakeChecks
namespace Go.Proofs.YtplicfknjhjjgaaDoor.etherMacs
open Go.Shelf
theorem acc_eq : (Rows.laid_unicode_utf8_acceptRanges : DataW Unit) = Lib.acceptData := by kernel_rfl
theorem first_eq : Rows.laid_unicode_utf8_first = Lib.firstData := Pinned.utf8First_eq
theorem extra : U8Extra Tryd.prog Tryd.lays197_ren where
  n3 := by kernel_rfl
  n4 := by kernel_rfl
  y3 := by kernel_rfl
  y4 := by kernel_rfl
  c5 := by kernel_rfl
  c119 := by kernel_rfl
  c138 := by kernel_rfl
theorem of_laid {W : World} (h : laidMetH Tryd.prog Rows.etherMacsUptoRow.laid W) : Lib.Utf8Tabs 0 1 W := by
  rw [MakeChecks.laidMetH_plain _ _ _ (by kernel_rfl)] at h
  have h0 : laidMet Tryd.prog [("unicode/utf8.acceptRanges", Rows.laid_unicode_utf8_acceptRanges), ("unicode/utf8.first", Rows.laid_unicode_utf8_first)] W := h
  rw [acc_eq, first_eq] at h0
  exact utf8Tabs_of_reads { Tryd.lays197 with } extra (Lib.laidMet.reads h0 (by simp)) (Lib.laidMet.reads h0 (by simp))
end Go.Proofs.YtplicfknjhjjgaaDoor.etherMacs
