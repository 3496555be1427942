/- Bytes of a text, and its letters' widths. No program in it. -/
import Derived.Test.YtplicfknjhjjgaaDoorBase
import Derived.Outline
import Derived.WalkLawsBesides
import Derived.WalkSpells
import Derived.Deep.QuietTactic
import Derived.BigQuiet
import Derived.Lib.OthersKept
namespace Go.Proofs.YtplicfknjhjjgaaDoor
open Go.RowKit
def natsOf (s : ByteArray) : List Nat := s.data.toList.map UInt8.toNat
theorem natsOf_drop (s : ByteArray) (pos : Nat) (h : pos < s.size) : (natsOf s).drop pos = (s[pos]'h).toNat :: (natsOf s).drop (pos + 1) := by
  have hl : pos < (natsOf s).length := by simpa [natsOf] using h
  rw [List.drop_eq_getElem_cons hl]
  congr 1
  simp [natsOf]
  rfl
theorem width_pos (s : ByteArray) (pos : Nat) (h : pos < s.size) : 1 ≤ (Utf8.decode s pos).2 := by
  by_cases ha : (s[pos]'h).toNat < 128
  · rw [decode_ascii s pos h ha]
    exact Nat.le_refl _
  · exact (decode_high s pos h (by omega)).2
end Go.Proofs.YtplicfknjhjjgaaDoor
