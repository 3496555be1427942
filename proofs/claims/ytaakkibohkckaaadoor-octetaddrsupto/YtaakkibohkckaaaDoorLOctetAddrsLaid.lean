/- From what the row lists to what the walk of OctetAddrs asks: the two tables of unicode/utf8, and the powers of ten. -/
import Derived.Test.YtaakkibohkckaaaDoorLOctetHexesLaid
import Derived.Test.YtaakkibohkckaaaDoorText
import Derived.Lib.LaidTab
import Derived.Stop.LaidErr
namespace Go.Proofs.YtaakkibohkckaaaDoor.octetAddrs
open Go.Shelf
theorem tab_eq : (Rows.laid_internal_strconv_uint64pow10 : DataW Unit) = Lib.tabData .u64 Lib.pow10Tab := by kernel_rfl
theorem pow_type : (Tryd.prog.globals[2]?).map (·.type) = some 85 := by kernel_rfl
theorem cells_tab : Tryd.prog.cellsOf 85 = 20 := by kernel_rfl
theorem cells_u64 : Tryd.prog.cellsOf 43 = 1 := by kernel_rfl
theorem plain : (Rows.octetAddrsUptoRow.laid.all fun x => x.2.handleName?.isNone) = true := by kernel_rfl
theorem of_laid {W : World} (h : laidMetH Tryd.prog Rows.octetAddrsUptoRow.laid W) : Lib.Utf8Tabs 0 1 W ∧ Lib.TabIs Tryd.prog W "internal/strconv.uint64pow10" .u64 Lib.pow10Tab := by
  rw [MakeChecks.laidMetH_plain _ _ _ plain] at h
  have h0 : laidMet Tryd.prog [("math/bits.deBruijn32tab", Rows.laid_math_bits_deBruijn32tab), ("math/bits.deBruijn64tab", Rows.laid_math_bits_deBruijn64tab), ("internal/strconv.uint64pow10", Rows.laid_internal_strconv_uint64pow10), ("unicode/utf8.acceptRanges", Rows.laid_unicode_utf8_acceptRanges), ("unicode/utf8.first", Rows.laid_unicode_utf8_first)] W := h
  have h2 := laidMet.tail (laidMet.tail h0)
  rw [tab_eq, octetHexes.acc_eq, octetHexes.first_eq] at h2
  exact ⟨utf8Tabs_of_reads { Tryd.lays197 with } octetHexes.extra (Lib.laidMet.reads h2 (by simp)) (Lib.laidMet.reads h2 (by simp)),
    Lib.tabIs_of_head pow_at pow_type Tryd.underlying85 Tryd.underlying43 cells_u64 cells_tab h2⟩
end Go.Proofs.YtaakkibohkckaaaDoor.octetAddrs
